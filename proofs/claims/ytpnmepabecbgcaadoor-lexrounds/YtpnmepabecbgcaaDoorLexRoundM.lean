import Derived.Test.YtpnmepabecbgcaaDoorLexJoinA
namespace Go.Proofs.YtpnmepabecbgcaaDoor
set_option linter.unusedVariables false
set_option linter.unusedSimpArgs false

/-- nothing, or a blank and more -/
def Sep (z : List UInt8) : Prop := z = [] ∨ ∃ r, z = 32 :: r
theorem run_sep : ∀ {x z : List UInt8}, (∀ c ∈ x, runU c = true) → Sep z → runLen (x ++ z) = x.length
  | [], z, _, hz => by
    rcases hz with rfl | ⟨r, rfl⟩
    · rfl
    · rfl
  | c :: r, z, h, hz => by
    rw [List.cons_append, runLen, if_pos (h c (by simp)), run_sep (fun d hd => h d (by simp [hd])) hz, List.length_cons]
theorem word_run {x : List UInt8} (h : wordU x = true) : x ≠ [] ∧ x.length ≤ 120 ∧ ∀ c ∈ x, runU c = true := by
  unfold wordU at h
  simp only [Bool.and_eq_true, decide_eq_true_eq] at h
  exact ⟨h.1.1, h.1.2, (run_iff x).1 h.2⟩
theorem word_first {x z : List UInt8} (hw : wordU x = true) (hh : headB letU x = true) (hz : Sep z) : firstT (x ++ z) = wordT x := by
  obtain ⟨hne, _, hr⟩ := word_run hw
  have h1 := run_sep hr hz
  cases x with
  | nil => exact absurd rfl hne
  | cons c r =>
    have hc : letU c = true := hh
    show (if letU c then wordT ((c :: r ++ z).take (runLen (c :: r ++ z))) else _) = _
    rw [if_pos hc, h1, List.take_left]
theorem small_cap {c : UInt8} (h : smallU c = true) : capU c = false := by
  unfold smallU at h; unfold capU; simp at h ⊢; omega
theorem kws_word : ∀ x ∈ kws, wordU x = true ∧ headB letU x = true ∧ headB smallU x = true := by decide
theorem head_or {p q : UInt8 → Bool} (hpq : ∀ c, p c = true → q c = true) : ∀ {x : List UInt8}, headB p x = true → headB q x = true
  | [], h => by cases h
  | c :: r, h => hpq c h
theorem first_name {x z : List UInt8} (h : nameU x = true) (hz : Sep z) : firstT (x ++ z) = .tok ⟨1, x, 0, 0⟩ x.length := by
  have h' := h
  unfold nameU at h'
  simp only [Bool.and_eq_true, Bool.not_eq_true'] at h'
  rw [word_first h'.1.1 (head_or (fun c hc => by unfold letU; rw [hc]; rfl) h'.1.2) hz]
  have := (word_run h'.1.1).2.1
  unfold wordT
  rw [if_neg (by omega), h'.2, h]
  rfl
theorem first_var {x z : List UInt8} (h : varU x = true) (hz : Sep z) : firstT (x ++ z) = .tok ⟨2, x, 0, 0⟩ x.length := by
  have h' := h
  unfold varU at h'
  simp only [Bool.and_eq_true] at h'
  rw [word_first h'.1 (head_or (fun c hc => by unfold letU; rw [hc]; simp) h'.2) hz]
  have := (word_run h'.1).2.1
  have hk : kwU x = false := by
    unfold kwU
    rw [decide_eq_false_iff_not]
    intro hx
    have h3 := (kws_word x hx).2.2
    cases x with
    | nil => cases h3
    | cons c r =>
      have h4 : smallU c = true := h3
      have h5 : capU c = true := h'.2
      rw [small_cap h4] at h5
      cases h5
  have hn : nameU x = false := by
    unfold nameU
    cases x with
    | nil => rfl
    | cons c r =>
      have h5 : capU c = true := h'.2
      have h6 : smallU c = false := by
        cases hs : smallU c
        · rfl
        · rw [small_cap hs] at h5; cases h5
      show (wordU (c :: r) && smallU c && !kwU (c :: r)) = false
      rw [h6]; simp
  unfold wordT
  rw [if_neg (by omega), hk, hn]
  rfl
theorem first_kw {x z : List UInt8} (h : kwU x = true) (hz : Sep z) : firstT (x ++ z) = .tok ⟨6, x, 0, 0⟩ x.length := by
  have hx : x ∈ kws := by unfold kwU at h; simpa using h
  obtain ⟨h1, h2, _⟩ := kws_word x hx
  rw [word_first h1 h2 hz]
  have := (word_run h1).2.1
  unfold wordT
  rw [if_neg (by omega), h]
  rfl
theorem first_blank {z : List UInt8} (hz : Sep z) : firstT ([95] ++ z) = .tok ⟨3, [], 0, 0⟩ 1 := by
  have h1 := run_sep (x := [95]) (by decide) hz
  have h2 : firstT ([95] ++ z) = blankT (runLen ([95] ++ z)) := rfl
  rw [h2, h1]
  rfl
theorem parse_app (M : Nat) : ∀ (l r : List UInt8) (acc a : Nat), Lib.parseUintM M acc l = .ok a → Lib.parseUintM M acc (l ++ r) = Lib.parseUintM M a r
  | [], r, acc, a, h => by
    simp only [Lib.parseUintM] at h
    cases h
    rfl
  | c :: l, r, acc, a, h => by
    rw [List.cons_append]
    unfold Lib.parseUintM at h
    conv => lhs; unfold Lib.parseUintM
    split at h
    · rename_i hc
      rw [if_pos hc]
      split at h
      · cases h
      · rename_i h1
        rw [if_neg h1]
        split at h
        · cases h
        · rename_i h2
          rw [if_neg h2]
          exact parse_app M l r _ a h
    · cases h
theorem digB_toNat (u : Nat) : (VS.digB u).toNat = 48 + u % 10 := by have := VS.digB_nat u; omega
theorem dec_facts : ∀ (N u : Nat), u ≤ N → u < 18446744073709551616 → Lib.parseUintM 18446744073709551615 0 (Lib.decDigits u) = .ok u ∧ (∀ c ∈ Lib.decDigits u, digU c = true) ∧ Lib.decDigits u ≠ [] ∧ (1 ≤ u → (Lib.decDigits u).head? ≠ some 48)
  | N, u, hN, hu => by
    by_cases h : u < 10
    · have e := VS.dec_lt h
      have hd := digB_toNat u
      rw [e]
      refine ⟨?_, ?_, by simp, ?_⟩
      · unfold Lib.parseUintM
        rw [if_pos (by omega), if_neg (by omega), if_neg (by omega), hd]
        unfold Lib.parseUintM
        congr 1
        omega
      · intro c hc
        have : c = VS.digB u := by simpa using hc
        rw [this]
        unfold digU
        simp
        omega
      · intro h1 h2
        have : VS.digB u = 48 := by simpa using h2
        rw [this] at hd
        have h48 : (48 : UInt8).toNat = 48 := rfl
        omega
    · match N, hN with
      | N + 1, hN =>
        obtain ⟨i1, i2, i3, i4⟩ := dec_facts N (u / 10) (by omega) (by omega)
        have e := VS.dec_ge h
        have hd := digB_toNat u
        rw [e]
        refine ⟨?_, ?_, by simp, ?_⟩
        · rw [parse_app _ _ _ _ _ i1]
          unfold Lib.parseUintM
          rw [if_pos (by omega), if_neg (by omega), if_neg (by omega), hd]
          unfold Lib.parseUintM
          congr 1
          omega
        · intro c hc
          rcases List.mem_append.1 hc with hc | hc
          · exact i2 c hc
          · have : c = VS.digB u := by simpa using hc
            rw [this]
            unfold digU
            simp
            omega
        · intro _
          have h2 := i4 (by omega)
          cases hx : Lib.decDigits (u / 10) with
          | nil => exact absurd hx i3
          | cons a r => rw [hx] at h2; simpa using h2
      | 0, hN => omega
theorem dig_run {c : UInt8} (h : digU c = true) : runU c = true ∧ letU c = false ∧ ¬ c.toNat = 95 := by
  unfold digU at h
  unfold runU letU smallU capU digU
  simp at h ⊢
  omega
theorem first_num {u : Nat} (hu : u ≤ 9223372036854775808) {z : List UInt8} (hz : Sep z) : firstT (Lib.decDigits u ++ z) = .tok ⟨4, [], asI64 u, 0⟩ (Lib.decDigits u).length := by
  obtain ⟨h1, h2, h3, h4⟩ := dec_facts u u (Nat.le_refl _) (by omega)
  have hr := run_sep (fun c hc => (dig_run (h2 c hc)).1) hz
  have hn : numT (Lib.decDigits u) = .tok ⟨4, [], asI64 u, 0⟩ (Lib.decDigits u).length := by
    unfold numT Lib.parseUintB
    rw [if_neg h3, show 2 ^ 64 - 1 = 18446744073709551615 from rfl, h1]
    simp only
    rw [if_neg]
    rintro (h | ⟨h, hne⟩)
    · omega
    · by_cases h0 : u = 0
      · subst h0
        exact hne (by rw [VS.dec_lt (by omega)]; rfl)
      · exact h4 (by omega) h
  cases hx : Lib.decDigits u with
  | nil => exact absurd hx h3
  | cons c r =>
    rw [hx] at hr hn h2
    obtain ⟨_, d2, d3⟩ := dig_run (h2 c (by simp))
    have hd := h2 c (by simp)
    have e : firstT (c :: r ++ z) = numT ((c :: r ++ z).take (runLen (c :: r ++ z))) := by
      rw [List.cons_append]
      unfold firstT
      simp only [d2, d3, hd, if_false, if_true, Bool.false_eq_true]
    rw [e, hr, List.take_left]
    exact hn
theorem hex_index : ∀ q : Fin 16, hexU (VS.hexU q.val) = (q.val : Int) := by decide
theorem hex_print : ∀ q : Fin 16, (VS.hexU q.val).toNat ≠ 34 := by decide
theorem piece_back (c : UInt8) (z : List UInt8) : pieceU (VS.pieceQ c ++ z) = some (c, (VS.pieceQ c).length) ∧ ∃ d r, VS.pieceQ c = d :: r ∧ d.toNat ≠ 34 := by
  have hlt := c.toNat_lt
  unfold VS.pieceQ
  by_cases h10 : c.toNat = 10
  · rw [if_pos h10]
    refine ⟨?_, 92, [110], rfl, by decide⟩
    have hc : c = 10 := UInt8.toNat_inj.1 (by rw [h10]; rfl)
    subst hc
    rfl
  · rw [if_neg h10]
    by_cases h34 : c.toNat = 34 ∨ c.toNat = 92
    · rw [if_pos h34]
      refine ⟨?_, 92, [c], rfl, by decide⟩
      show (if (92 : UInt8).toNat < 32 ∨ 126 < (92 : UInt8).toNat then none else if (92 : UInt8).toNat ≠ 92 then some ((92 : UInt8), 1) else (if c.toNat = 110 then some ((10 : UInt8), 2) else if c.toNat = 34 ∨ c.toNat = 92 then some (c, 2) else if c.toNat = 120 then hexPc (92 :: c :: z) else none)) = _
      rw [if_neg (by decide), if_neg (by decide), if_neg (by omega), if_pos h34]
      rfl
    · rw [if_neg h34]
      by_cases hp : 32 ≤ c.toNat ∧ c.toNat ≤ 126
      · rw [if_pos hp]
        refine ⟨?_, c, [], rfl, by omega⟩
        show (if c.toNat < 32 ∨ 126 < c.toNat then none else if c.toNat ≠ 92 then some (c, 1) else _) = _
        rw [if_neg (by omega), if_pos (by omega)]
        rfl
      · rw [if_neg hp]
        have q1 := hex_index ⟨c.toNat / 16, by omega⟩
        have q2 := hex_index ⟨c.toNat % 16, by omega⟩
        simp only at q1 q2
        refine ⟨?_, 92, _, rfl, by decide⟩
        have e : pieceU ([92, 120, VS.hexU (c.toNat / 16), VS.hexU (c.toNat % 16)] ++ z) = hexPc ([92, 120, VS.hexU (c.toNat / 16), VS.hexU (c.toNat % 16)] ++ z) := rfl
        rw [e]
        show (if hexU (VS.hexU (c.toNat / 16)) < 0 ∨ hexU (VS.hexU (c.toNat % 16)) < 0 then none else some (UInt8.ofNat (16 * (hexU (VS.hexU (c.toNat / 16))).toNat + (hexU (VS.hexU (c.toNat % 16))).toNat), 4)) = _
        rw [q1, q2, if_neg (by omega)]
        have : 16 * ((c.toNat / 16 : Nat) : Int).toNat + ((c.toNat % 16 : Nat) : Int).toNat = c.toNat := by simp; omega
        rw [this, UInt8.ofNat_toNat]
        rfl
theorem quot_back : ∀ (s out z : List UInt8) (f n : Nat), (s.flatMap VS.pieceQ).length + 1 ≤ f → out.length + s.length ≤ 200 → quotU f (s.flatMap VS.pieceQ ++ 34 :: z) out n = some (out ++ s, n + (s.flatMap VS.pieceQ).length + 1)
  | [], out, z, f + 1, n, hf, ho => by
    show (if 200 < out.length then none else if (34 : UInt8).toNat = 34 then some (out, n + 1) else _) = _
    rw [if_neg (by simp at ho; omega), if_pos (by decide)]
    simp
  | c :: r, out, z, f + 1, n, hf, ho => by
    obtain ⟨hp, d, dr, hd, hd34⟩ := piece_back c (r.flatMap VS.pieceQ ++ 34 :: z)
    have hlen : (VS.pieceQ c).length = dr.length + 1 := by rw [hd]; rfl
    rw [List.flatMap_cons, List.append_assoc]
    have e : VS.pieceQ c ++ (r.flatMap VS.pieceQ ++ 34 :: z) = d :: (dr ++ (r.flatMap VS.pieceQ ++ 34 :: z)) := by rw [hd]; rfl
    have hp' := hp
    rw [e] at hp' ⊢
    simp only [List.length_cons] at ho
    show (if 200 < out.length then none else if d.toNat = 34 then some (out, n + 1) else match pieceU (d :: (dr ++ (r.flatMap VS.pieceQ ++ 34 :: z))) with | none => none | some (b, k) => quotU f ((d :: (dr ++ (r.flatMap VS.pieceQ ++ 34 :: z))).drop k) (out ++ [b]) (n + k)) = _
    rw [if_neg (by omega), if_neg hd34, hp']
    simp only
    rw [← e, List.drop_left, quot_back r (out ++ [c]) z f _ (by rw [List.flatMap_cons, List.length_append] at hf; omega) (by simp; omega)]
    simp only [List.append_assoc, List.singleton_append, List.length_append, Option.some.injEq, Prod.mk.injEq, true_and]
    omega
  | [], out, z, 0, n, hf, ho => by omega
  | c :: r, out, z, 0, n, hf, ho => by omega
theorem first_quot {s z : List UInt8} (hs : s.length ≤ 200) : firstT ((VS.quoteQ ⟨s.toArray⟩).data.toList ++ z) = .tok ⟨5, s, 0, 0⟩ (VS.quoteQ ⟨s.toArray⟩).data.toList.length := by
  have e : (VS.quoteQ ⟨s.toArray⟩).data.toList = 34 :: (s.flatMap VS.pieceQ ++ [34]) := by simp [VS.quoteQ]
  rw [e]
  have h := quot_back s [] z ((34 :: (s.flatMap VS.pieceQ ++ [34]) ++ z).length) 1 (by simp) (by simpa using hs)
  have hf : firstT (34 :: (s.flatMap VS.pieceQ ++ [34]) ++ z) = quotT (34 :: (s.flatMap VS.pieceQ ++ [34]) ++ z) := rfl
  rw [hf]
  unfold quotT
  have e2 : (34 :: (s.flatMap VS.pieceQ ++ [34]) ++ z).drop 1 = s.flatMap VS.pieceQ ++ 34 :: z := by simp
  rw [e2, h]
  simp
  omega
theorem sgs_first : ∀ x ∈ sgs, ∃ c r, x = c :: r ∧ letU c = false ∧ ¬ c.toNat = 95 ∧ digU c = false ∧ ¬ c.toNat = 34 ∧ blankU c = false ∧ ¬ c.toNat = 35 := by
  intro x hx
  simp only [sgs, List.mem_cons, List.not_mem_nil, or_false] at hx
  rcases hx with rfl | rfl | rfl | rfl | rfl | rfl | rfl | rfl | rfl | rfl | rfl | rfl | rfl | rfl | rfl | rfl | rfl | rfl
  all_goals exact ⟨_, _, rfl, by decide, by decide, by decide, by decide, by decide, by decide⟩
theorem sgs_sep {x z : List UInt8} (hx : x ∈ sgs) (hz : Sep z) : sgs.find? (fun w => Lib.hasPrefix (x ++ z) w) = some x := by
  simp only [sgs, List.mem_cons, List.not_mem_nil, or_false] at hx
  rcases hx with rfl | rfl | rfl | rfl | rfl | rfl | rfl | rfl | rfl | rfl | rfl | rfl | rfl | rfl | rfl | rfl | rfl | rfl
  all_goals
    rcases hz with rfl | ⟨r, rfl⟩
    all_goals rfl
theorem sign_in {x : List UInt8} (h : signB x = true) : x ∈ sgs := by
  unfold signB signT at h
  cases hf : sgs.find? (fun w => Lib.hasPrefix x w) with
  | none => rw [hf] at h; cases h
  | some w =>
    rw [hf] at h
    simp at h
    rw [← h]
    exact List.mem_of_find?_eq_some hf
theorem first_sign {x z : List UInt8} (h : signB x = true) (hz : Sep z) : firstT (x ++ z) = .tok ⟨7, x, 0, 0⟩ x.length := by
  have hx := sign_in h
  obtain ⟨c, r, e, h1, h2, h3, h4, _, _⟩ := sgs_first x hx
  have hf := sgs_sep hx hz
  have e2 : firstT (x ++ z) = signT (x ++ z) := by
    rw [e, List.cons_append]
    unfold firstT
    simp only [h1, h2, h3, h4, if_false, Bool.false_eq_true]
  rw [e2]
  unfold signT
  rw [hf]
end Go.Proofs.YtpnmepabecbgcaaDoor
