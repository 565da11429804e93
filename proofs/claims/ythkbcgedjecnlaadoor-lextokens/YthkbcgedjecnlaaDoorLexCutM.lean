import Derived.Test.YthkbcgedjecnlaaDoorLexMath
namespace Go.Proofs.YthkbcgedjecnlaaDoor
set_option linter.unusedVariables false
set_option linter.unusedSimpArgs false

/-- what may stand behind a token in place of x, and change nothing of it -/
def Cmp (x y : List UInt8) : Prop := y = [] ∨ (∃ c r r', y = c :: r ∧ x = c :: r') ∨ ∃ r, y = 10 :: r
theorem Cmp.take (x : List UInt8) (k : Nat) : Cmp x (x.take k) := by
  cases k with
  | zero => exact .inl (by simp)
  | succ k =>
    cases x with
    | nil => exact .inl (by simp)
    | cons c r => exact .inr (.inl ⟨c, r.take k, r, by simp, rfl⟩)
theorem Cmp.nl (x : List UInt8) (z : List UInt8) : Cmp x (x ++ 10 :: z) := by
  cases x with
  | nil => exact .inr (.inr ⟨z, by simp⟩)
  | cons c r => exact .inr (.inl ⟨c, r ++ 10 :: z, r, by simp, rfl⟩)

theorem runLen_cmp {x y : List UInt8} (h : Cmp x y) : ∀ p : List UInt8, runLen (p ++ x) = p.length → runLen (p ++ y) = p.length
  | [], hp => by
    simp at hp ⊢
    rcases h with rfl | ⟨c, r, r', rfl, rfl⟩ | ⟨r, rfl⟩
    · rfl
    · unfold runLen at hp ⊢
      split at hp
      · omega
      · next hc => rw [if_neg hc]
    · rfl
  | c :: p, hp => by
    simp only [List.cons_append, List.length_cons] at hp ⊢
    unfold runLen at hp ⊢
    split at hp
    · next hc => rw [if_pos hc, runLen_cmp h p (by omega)]
    · omega
theorem wordT_len {run : List UInt8} {t : Tk} {n : Nat} (h : wordT run = .tok t n) : n = run.length := by
  unfold wordT at h
  repeat' split at h
  all_goals simp at h
  all_goals exact h.2.symm
theorem numT_len {run : List UInt8} {t : Tk} {n : Nat} (h : numT run = .tok t n) : n = run.length := by
  unfold numT at h
  repeat' split at h
  all_goals simp at h
  all_goals exact h.2.symm
theorem take_run (l : List UInt8) : (l.take (runLen l)).length = runLen l := by
  have := runLen_le l
  simp; omega

theorem pieceU_take {l : List UInt8} {b : UInt8} {k : Nat} (h : pieceU l = some (b, k)) {j : Nat} (hj : k ≤ j) (z : List UInt8) : pieceU (l.take j ++ z) = some (b, k) := by
  have hk := pieceU_pos h
  match l, h with
  | [], h => simp [pieceU] at h
  | c :: r, h =>
    obtain ⟨j, rfl⟩ : ∃ i, j = i + 1 := ⟨j - 1, by omega⟩
    unfold pieceU at h ⊢
    simp only [List.take_succ_cons, List.cons_append] at h ⊢
    split at h
    · cases h
    · next h1 =>
      rw [if_neg h1]
      split at h
      · next h2 => rw [if_pos h2]; exact h
      · next h2 =>
        rw [if_neg h2]
        match r, h with
        | [], h => simp at h
        | d :: r, h =>
          simp only at h
          have hk2 : 2 ≤ k := by
            unfold hexPc at h
            repeat' split at h
            all_goals simp at h
            all_goals omega
          obtain ⟨j, rfl⟩ : ∃ i, j = i + 1 := ⟨j - 1, by omega⟩
          simp only [List.take_succ_cons, List.cons_append]
          split at h
          · next h3 => rw [if_pos h3]; exact h
          · next h3 =>
            rw [if_neg h3]
            split at h
            · next h4 => rw [if_pos h4]; exact h
            · next h4 =>
              rw [if_neg h4]
              split at h
              · next h5 =>
                rw [if_pos h5]
                match r, h with
                | [], h => simp [hexPc] at h
                | [e], h => simp [hexPc] at h
                | e :: g :: r, h =>
                  have hk4 : k = 4 := by
                    unfold hexPc at h
                    simp only at h
                    split at h
                    · cases h
                    · simp at h; exact h.2.symm
                  obtain ⟨j, rfl⟩ : ∃ i, j = i + 2 := ⟨j - 2, by omega⟩
                  exact h
              · cases h
theorem quotU_take : ∀ (f : Nat) (l out : List UInt8) (n : Nat) {v : List UInt8} {m : Nat}, quotU f l out n = some (v, m) → ∀ (g : Nat) (z : List UInt8), m - n ≤ g → quotU g (l.take (m - n) ++ z) out n = some (v, m)
  | 0, l, out, n, v, m, h => by simp [quotU] at h
  | f + 1, l, out, n, v, m, h => by
    intro g z hg
    have hle := quotU_le _ _ _ _ h
    obtain ⟨g, rfl⟩ : ∃ i, g = i + 1 := ⟨g - 1, by omega⟩
    obtain ⟨j, hj⟩ : ∃ i, m - n = i + 1 := ⟨m - n - 1, by omega⟩
    match l, h with
    | [], h => simp [quotU] at h
    | c :: r, h =>
      rw [hj, List.take_succ_cons, List.cons_append]
      unfold quotU at h ⊢
      simp only at h ⊢
      split at h
      · cases h
      · next h1 =>
        rw [if_neg h1]
        split at h
        · next h2 => rw [if_pos h2]; exact h
        · next h2 =>
          rw [if_neg h2]
          split at h
          · cases h
          · next b k hp =>
            have hk := pieceU_pos hp
            have hle2 := quotU_le _ _ _ _ h
            have hp2 := pieceU_take hp (j := j + 1) (by omega) z
            rw [List.take_succ_cons, List.cons_append] at hp2
            rw [hp2]
            simp only
            have := quotU_take f _ _ _ h g z (by omega)
            rw [← this]
            congr 1
            rw [← List.cons_append, ← List.take_succ_cons, List.drop_append_of_le_length (by simp at hk hle ⊢; omega), List.drop_take]
            try (congr 2; omega)
theorem signT_cmp {p x y : List UInt8} {t : Tk} (h : Cmp x y) (hs : signT (p ++ x) = .tok t p.length) : signT (p ++ y) = .tok t p.length := by
  unfold signT at hs
  split at hs
  · next w hw =>
    have h1 := List.find?_some hw
    have h2 := List.mem_of_find?_eq_some hw
    unfold Lib.hasPrefix at h1
    have h3 := List.isPrefixOf_iff_prefix.mp h1
    simp at hs
    obtain ⟨rfl, hl⟩ := hs
    have hwp : w = p := by
      obtain ⟨z, hz⟩ := h3
      exact (List.append_inj hz hl).1
    subst hwp
    clear h1 h3 hl
    simp only [sgs, List.mem_cons, List.not_mem_nil, or_false] at h2
    rcases h with rfl | ⟨c, r, r', rfl, rfl⟩ | ⟨r, rfl⟩
    · rcases h2 with rfl | rfl | rfl | rfl | rfl | rfl | rfl | rfl | rfl | rfl | rfl | rfl | rfl | rfl | rfl | rfl | rfl | rfl <;> decide
    · rcases h2 with rfl | rfl | rfl | rfl | rfl | rfl | rfl | rfl | rfl | rfl | rfl | rfl | rfl | rfl | rfl | rfl | rfl | rfl
      all_goals
        simp only [sgs, Lib.hasPrefix, List.find?_cons, List.isPrefixOf, List.cons_append, List.nil_append, Bool.and_true, Bool.true_and, Bool.false_and, beq_self_eq_true] at hw
        simp only [signT, sgs, Lib.hasPrefix, List.find?_cons, List.isPrefixOf, List.cons_append, List.nil_append, Bool.and_true, Bool.true_and, Bool.false_and, beq_self_eq_true]
        try rw [hw]
    · rcases h2 with rfl | rfl | rfl | rfl | rfl | rfl | rfl | rfl | rfl | rfl | rfl | rfl | rfl | rfl | rfl | rfl | rfl | rfl <;> rfl
  · cases hs

/-- a token hangs on its own bytes, and on the next one alone -/
theorem firstT_cmp {p x y : List UInt8} {t : Tk} (hp : p ≠ []) (h : Cmp x y) (hf : firstT (p ++ x) = .tok t p.length) : firstT (p ++ y) = .tok t p.length := by
  match p, hp with
  | c :: p, _ =>
    unfold firstT at hf ⊢
    simp only [List.cons_append] at hf ⊢
    split at hf
    · next hc =>
      rw [if_pos hc]
      have hl := wordT_len hf
      rw [take_run] at hl
      have hr := runLen_cmp h (c :: p) hl.symm
      simp only [List.cons_append] at hr
      rw [hr]
      rw [← hl] at hf
      have e1 : (c :: (p ++ x)).take (c :: p).length = c :: p := by simp
      have e2 : (c :: (p ++ y)).take (c :: p).length = c :: p := by simp
      rw [e1] at hf
      rw [e2]
      exact hf
    · next hc =>
      rw [if_neg hc]
      split at hf
      · next hc2 =>
        rw [if_pos hc2]
        unfold blankT at hf ⊢
        split at hf
        · cases hf
        · next hb =>
          simp at hf
          obtain ⟨rfl, hp0⟩ := hf
          subst hp0
          have hru : runU c = true := by simp [runU, hc2]
          have h1 : runLen ([c] ++ x) = [c].length := by
            simp only [List.cons_append, List.nil_append, List.length_cons, List.length_nil]
            simp only [List.nil_append] at hb
            unfold runLen at hb ⊢
            rw [if_pos hru] at hb ⊢
            omega
          have h2 := runLen_cmp h [c] h1
          simp only [List.cons_append, List.nil_append, List.length_cons, List.length_nil] at h2 ⊢
          rw [if_neg (by omega)]
      · next hc2 =>
        rw [if_neg hc2]
        split at hf
        · next hc3 =>
          rw [if_pos hc3]
          have hl := numT_len hf
          rw [take_run] at hl
          have hr := runLen_cmp h (c :: p) hl.symm
          simp only [List.cons_append] at hr
          rw [hr]
          rw [← hl] at hf
          have e1 : (c :: (p ++ x)).take (c :: p).length = c :: p := by simp
          have e2 : (c :: (p ++ y)).take (c :: p).length = c :: p := by simp
          rw [e1] at hf
          rw [e2]
          exact hf
        · next hc3 =>
          rw [if_neg hc3]
          split at hf
          · next hc4 =>
            rw [if_pos hc4]
            unfold quotT at hf ⊢
            simp only [List.drop_succ_cons, List.drop_zero] at hf ⊢
            split at hf
            · next v m hq =>
              simp at hf
              obtain ⟨rfl, rfl⟩ := hf
              have := quotU_take _ _ _ _ hq (c :: (p ++ y)).length y (by simp; omega)
              have e : (p ++ x).take (p.length + 1 - 1) = p := by simp
              rw [e] at this
              rw [this]
              rfl
            · cases hf
          · next hc4 =>
            rw [if_neg hc4]
            exact signT_cmp (p := c :: p) h hf

theorem comLen_take {r : List UInt8} : ∀ {j : Nat}, comLen r ≤ j → comLen (r.take j) = comLen r := by
  induction r with
  | nil => intro j _; simp
  | cons c r ih =>
    intro j hj
    unfold comLen at hj
    cases j with
    | zero =>
      split at hj
      · next hc => simp [comLen, hc]
      · omega
    | succ j =>
      rw [List.take_succ_cons]
      unfold comLen
      split
      · rfl
      · next hc => rw [if_neg hc] at hj; rw [ih (by omega)]
theorem comLen_app {r z : List UInt8} : comLen (r ++ 10 :: z) = comLen r := by
  induction r with
  | nil => rfl
  | cons c r ih =>
    rw [List.cons_append]
    unfold comLen
    split
    · rfl
    · rw [ih]

/-- ahead of a fault all is well, and it stands at the head of the rest -/
theorem toks_fault : ∀ (N : Nat) (l : List UInt8) (a : Nat) {e : Int} {q : Nat}, l.length ≤ N → toks l a = .bad e q → ∃ k, q = a + k ∧ k < l.length ∧ (∃ ts, toks (l.take k) a = .ok ts) ∧ ∀ b, toks (l.drop k) b = .bad e b
  | 0, l, a, e, q, hN, h => by
    have : l = [] := List.length_eq_zero_iff.mp (by omega)
    subst this
    rw [toks_nil] at h; cases h
  | N + 1, [], a, e, q, hN, h => by rw [toks_nil] at h; cases h
  | N + 1, c :: r, a, e, q, hN, h => by
    simp at hN
    cases hb : blankU c with
    | true =>
      rw [toks_blank r a hb] at h
      obtain ⟨k, hq, hk, ⟨ts, h1⟩, h2⟩ := toks_fault N r (a + 1) hN h
      refine ⟨k + 1, by omega, by simp; omega, ⟨ts, ?_⟩, fun b => ?_⟩
      · rw [List.take_succ_cons, toks_blank _ _ hb]; exact h1
      · rw [List.drop_succ_cons]; exact h2 b
    | false =>
      by_cases hc : c.toNat = 35
      · rw [toks_com r a hc] at h
        have hm := comLen_le r
        obtain ⟨k, hq, hk, ⟨ts, h1⟩, h2⟩ := toks_fault N (r.drop (comLen r)) (a + 1 + comLen r) (by simp; omega) h
        simp at hk
        refine ⟨comLen r + k + 1, by omega, by simp; omega, ⟨ts, ?_⟩, fun b => ?_⟩
        · rw [List.take_succ_cons, toks_com _ _ hc, comLen_take (by omega), List.drop_take, Nat.add_sub_cancel_left]
          exact h1
        · rw [List.drop_succ_cons, ← List.drop_drop]; exact h2 b
      · cases hf : firstT (c :: r) with
        | bad e' =>
          rw [toks_bad a hb hc hf] at h
          simp at h
          obtain ⟨rfl, rfl⟩ := h
          exact ⟨0, by omega, by simp, ⟨_, toks_nil a⟩, fun b => toks_bad b hb hc hf⟩
        | tok t n =>
          rw [toks_tok a hb hc hf] at h
          have hn := firstT_pos hf
          cases hR : toks ((c :: r).drop n) (a + n) with
          | ok ts => rw [hR] at h; simp [Res.cons] at h
          | bad e' q' =>
            rw [hR] at h
            simp [Res.cons] at h
            obtain ⟨rfl, rfl⟩ := h
            obtain ⟨k, hq, hk, ⟨ts, h1⟩, h2⟩ := toks_fault N ((c :: r).drop n) (a + n) (by simp at hn ⊢; omega) hR
            simp at hk hn
            obtain ⟨n, rfl⟩ : ∃ i, n = i + 1 := ⟨n - 1, by omega⟩
            refine ⟨n + 1 + k, by omega, by simp; omega, ⟨{ t with a := a } :: ts, ?_⟩, fun b => ?_⟩
            · have e : (c :: r).take (n + 1 + k) = (c :: r).take (n + 1) ++ ((c :: r).drop (n + 1)).take k := by
                rw [List.take_add]
              have hl : ((c :: r).take (n + 1)).length = n + 1 := by simp; omega
              have hf2 : firstT ((c :: r).take (n + 1) ++ ((c :: r).drop (n + 1)).take k) = .tok t (n + 1) := by
                have := firstT_cmp (p := (c :: r).take (n + 1)) (x := (c :: r).drop (n + 1)) (y := ((c :: r).drop (n + 1)).take k) (t := t) (by simp) (Cmp.take _ _) (by rw [List.take_append_drop, hl]; exact hf)
                rw [hl] at this
                exact this
              rw [e]
              rw [List.take_succ_cons, List.cons_append] at hf2 ⊢
              rw [toks_tok a hb hc hf2]
              have e2 : (c :: (r.take n ++ ((c :: r).drop (n + 1)).take k)).drop (n + 1) = ((c :: r).drop (n + 1)).take k := by
                rw [List.drop_succ_cons, List.drop_append_of_le_length (by simp; omega), List.drop_eq_nil_of_le (by simp; omega), List.nil_append]
              rw [e2, h1]
              rfl
            · rw [← List.drop_drop]; exact h2 b
/-- behind a source without a fault the first wrong byte is told at its place -/
theorem toks_wrong : ∀ (N : Nat) (l : List UInt8) (a : Nat) {ts : List Tk}, l.length ≤ N → toks l a = .ok ts → toks (l ++ [10, 36]) a = .bad 31 (a + l.length + 1)
  | N, [], a, ts, hN, h => by
    rw [List.nil_append, toks_blank [36] a (by decide)]
    rw [toks_bad (c := 36) (r := []) (a + 1) (e := 31) (by decide) (by decide) (by decide)]
    simp
  | 0, c :: r, a, ts, hN, h => by simp at hN
  | N + 1, c :: r, a, ts, hN, h => by
    simp at hN
    rw [List.cons_append]
    cases hb : blankU c with
    | true =>
      rw [toks_blank r a hb] at h
      rw [toks_blank _ a hb, toks_wrong N r (a + 1) hN h]
      simp; omega
    | false =>
      by_cases hc : c.toNat = 35
      · rw [toks_com r a hc] at h
        have hm := comLen_le r
        rw [toks_com _ a hc, comLen_app, List.drop_append_of_le_length hm, toks_wrong N _ _ (by simp; omega) h]
        simp; omega
      · cases hf : firstT (c :: r) with
        | bad e' => rw [toks_bad a hb hc hf] at h; cases h
        | tok t n =>
          rw [toks_tok a hb hc hf] at h
          have hn := firstT_pos hf
          cases hR : toks ((c :: r).drop n) (a + n) with
          | bad e' q' => rw [hR] at h; simp [Res.cons] at h
          | ok ts' =>
            have ih := toks_wrong N ((c :: r).drop n) (a + n) (by simp at hn ⊢; omega) hR
            simp at hn
            obtain ⟨n, rfl⟩ : ∃ i, n = i + 1 := ⟨n - 1, by omega⟩
            have hl : ((c :: r).take (n + 1)).length = n + 1 := by simp; omega
            have hf2 : firstT ((c :: r).take (n + 1) ++ ((c :: r).drop (n + 1) ++ [10, 36])) = .tok t (n + 1) := by
              have := firstT_cmp (p := (c :: r).take (n + 1)) (x := (c :: r).drop (n + 1)) (y := (c :: r).drop (n + 1) ++ [10, 36]) (t := t) (by simp) (Cmp.nl _ _) (by rw [List.take_append_drop, hl]; exact hf)
              rw [hl] at this
              exact this
            rw [← List.append_assoc, List.take_append_drop, List.cons_append] at hf2
            rw [toks_tok a hb hc hf2, ← List.cons_append, List.drop_append_of_le_length (by simp; omega), ih]
            simp [Res.cons]; omega
end Go.Proofs.YthkbcgedjecnlaaDoor
