import Derived.Test.YteiapnidjegdeaaDoorLexCutM
namespace Go.Proofs.YteiapnidjegdeaaDoor
set_option linter.unusedVariables false
set_option linter.unusedSimpArgs false

/-- what stands ahead of the first token -/
theorem toks_lead : ∀ (N : Nat) (l : List UInt8) (a : Nat) {ts : List Tk}, l.length ≤ N → toks l a = .ok ts →
    ∃ k, k ≤ l.length ∧ (∀ b, toks (l.take k) b = .ok [endT (b + k)]) ∧ ((k = l.length ∧ ts = [endT (a + l.length)]) ∨
      ∃ t n rest c r, l.drop k = c :: r ∧ blankU c = false ∧ c.toNat ≠ 35 ∧ firstT (c :: r) = .tok t n ∧ ts = { t with a := ((a + k : Nat) : Int) } :: rest ∧ toks (l.drop (k + n)) (a + k + n) = .ok rest)
  | N, [], a, ts, hN, h => by
    rw [toks_nil] at h
    simp at h
    exact ⟨0, by simp, fun b => by simp [toks_nil], .inl ⟨rfl, by simp [h]⟩⟩
  | 0, c :: r, a, ts, hN, h => by simp at hN
  | N + 1, c :: r, a, ts, hN, h => by
    simp at hN
    cases hb : blankU c with
    | true =>
      rw [toks_blank r a hb] at h
      obtain ⟨k, hk, h1, h2⟩ := toks_lead N r (a + 1) hN h
      refine ⟨k + 1, by simp; omega, fun b => ?_, ?_⟩
      · rw [List.take_succ_cons, toks_blank _ _ hb, h1]
        congr 3; omega
      · rcases h2 with ⟨e1, e2⟩ | ⟨t, n, rest, c', r', e1, e2, e3, e4, e5, e6⟩
        · refine .inl ⟨by simp; omega, ?_⟩
          rw [e2]
          congr 2
          simp; omega
        · refine .inr ⟨t, n, rest, c', r', by rw [List.drop_succ_cons]; exact e1, e2, e3, e4, ?_, ?_⟩
          · rw [e5]; congr 3; omega
          · rw [show k + 1 + n = (k + n) + 1 by omega, List.drop_succ_cons, ← e6]
            congr 1; omega
    | false =>
      by_cases hc : c.toNat = 35
      · rw [toks_com r a hc] at h
        have hm := comLen_le r
        obtain ⟨k, hk, h1, h2⟩ := toks_lead N (r.drop (comLen r)) (a + 1 + comLen r) (by simp; omega) h
        simp at hk
        refine ⟨comLen r + k + 1, by simp; omega, fun b => ?_, ?_⟩
        · rw [List.take_succ_cons, toks_com _ _ hc, comLen_take (by omega), List.drop_take, Nat.add_sub_cancel_left, h1]
          congr 3; omega
        · rcases h2 with ⟨e1, e2⟩ | ⟨t, n, rest, c', r', e1, e2, e3, e4, e5, e6⟩
          · simp at e1
            refine .inl ⟨by simp; omega, ?_⟩
            rw [e2]
            congr 2
            simp; omega
          · refine .inr ⟨t, n, rest, c', r', by rw [List.drop_succ_cons, ← List.drop_drop]; exact e1, e2, e3, e4, ?_, ?_⟩
            · rw [e5]; congr 3; omega
            · rw [show comLen r + k + 1 + n = (comLen r + (k + n)) + 1 by omega, List.drop_succ_cons, ← List.drop_drop, ← e6]
              congr 1; omega
      · cases hf : firstT (c :: r) with
        | bad e' => rw [toks_bad a hb hc hf] at h; cases h
        | tok t n =>
          rw [toks_tok a hb hc hf] at h
          cases hR : toks ((c :: r).drop n) (a + n) with
          | bad e' q' => rw [hR] at h; simp [Res.cons] at h
          | ok ts' =>
            rw [hR] at h
            simp [Res.cons] at h
            refine ⟨0, by simp, fun b => by simp [toks_nil], .inr ⟨t, n, ts', c, r, rfl, hb, hc, hf, ?_, ?_⟩⟩
            · rw [← h]; simp
            · simpa using hR
/-- each piece has its token alone -/
theorem toks_pieces : ∀ (N : Nat) (l : List UInt8) (a : Nat) {ts : List Tk}, l.length ≤ N → toks l a = .ok ts →
    (∃ t0, ts[0]? = some t0 ∧ ∃ k : Nat, t0.a = ((a + k : Nat) : Int) ∧ k ≤ l.length ∧ ∀ b, toks (l.take k) b = .ok [endT (b + k)]) ∧
    ts[ts.length - 1]? = some (endT (a + l.length)) ∧
    ∀ i t u, ts[i]? = some t → ts[i + 1]? = some u → ∃ p q : Nat, t.a = ((a + p : Nat) : Int) ∧ u.a = ((a + q : Nat) : Int) ∧ p < q ∧ q ≤ l.length ∧ toks ((l.drop p).take (q - p)) 0 = .ok [{ t with a := 0 }, endT (q - p)]
  | 0, l, a, ts, hN, h => by
    have : l = [] := List.length_eq_zero_iff.mp (by omega)
    subst this
    rw [toks_nil] at h
    simp at h
    subst h
    exact ⟨⟨_, rfl, 0, by simp [endT], by simp, fun b => by simp [toks_nil]⟩, by simp, fun i t u h1 h2 => by simp at h2⟩
  | N + 1, l, a, ts, hN, h => by
    obtain ⟨k, hk, h1, h2⟩ := toks_lead (N + 1) l a hN h
    rcases h2 with ⟨e1, e2⟩ | ⟨t, n, rest, c, r, e1, e2, e3, e4, e5, e6⟩
    · subst e2
      exact ⟨⟨_, rfl, k, by simp [endT, e1], hk, h1⟩, by simp, fun i t u h1 h2 => by simp at h2⟩
    · have hn := firstT_pos e4
      have hdl : (l.drop k).length = r.length + 1 := by rw [e1]; simp
      simp at hdl hn
      obtain ⟨⟨u0, g0, k2, g1, g2, g3⟩, g4, g5⟩ := toks_pieces N (l.drop (k + n)) (a + k + n) (by simp; omega) e6
      simp at g2
      subst e5
      refine ⟨⟨_, rfl, k, rfl, hk, h1⟩, ?_, ?_⟩
      · have hr : rest.length ≠ 0 := fun e => by
          have := List.length_eq_zero_iff.mp e
          subst this
          simp at g0
        obtain ⟨m, hm⟩ : ∃ m, rest.length = m + 1 := ⟨rest.length - 1, by omega⟩
        rw [hm] at g4
        simp only [List.length_cons, hm, Nat.add_sub_cancel] at g4 ⊢
        rw [List.getElem?_cons_succ, g4]
        congr 2
        simp; omega
      · intro i t' u h7 h8
        cases i with
        | zero =>
          simp at h7 h8
          subst h7
          have hu : u = u0 := Option.some.inj (h8.symm.trans (by simpa using g0))
          subst hu
          refine ⟨k, k + n + k2, rfl, by rw [g1]; congr 1; omega, by omega, by omega, ?_⟩
          have e : k + n + k2 - k = n + k2 := by omega
          rw [e, e1, List.take_add]
          have hl : ((c :: r).take n).length = n := by simp; omega
          have hx : (c :: r).drop n = l.drop (k + n) := by rw [← e1, List.drop_drop]
          rw [hx]
          obtain ⟨n, rfl⟩ : ∃ j, n = j + 1 := ⟨n - 1, by omega⟩
          have hf2 : firstT ((c :: r).take (n + 1) ++ (l.drop (k + (n + 1))).take k2) = .tok t (n + 1) := by
            have := firstT_cmp (p := (c :: r).take (n + 1)) (x := l.drop (k + (n + 1))) (y := (l.drop (k + (n + 1))).take k2) (t := t) (by simp) (Cmp.take _ _) (by rw [← hx, List.take_append_drop, hl]; exact e4)
            rw [hl] at this
            exact this
          rw [List.take_succ_cons, List.cons_append] at hf2 ⊢
          rw [toks_tok 0 e2 e3 hf2]
          have e7 : (c :: (r.take n ++ (l.drop (k + (n + 1))).take k2)).drop (n + 1) = (l.drop (k + (n + 1))).take k2 := by
            rw [List.drop_succ_cons, List.drop_append_of_le_length (by simp; omega), List.drop_eq_nil_of_le (by simp; omega), List.nil_append]
          rw [e7, g3]
          simp [Res.cons]
        | succ i =>
          simp at h7 h8
          obtain ⟨p, q, f1, f2, f3, f4, f5⟩ := g5 i t' u h7 (by simpa using h8)
          simp at f4
          refine ⟨k + n + p, k + n + q, by rw [f1]; congr 1; omega, by rw [f2]; congr 1; omega, by omega, by omega, ?_⟩
          rw [show k + n + q - (k + n + p) = q - p by omega, ← List.drop_drop]
          exact f5
end Go.Proofs.YteiapnidjegdeaaDoor
