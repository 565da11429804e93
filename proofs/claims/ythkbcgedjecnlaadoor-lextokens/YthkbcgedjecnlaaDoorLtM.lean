import Derived.Test.YthkbcgedjecnlaaDoorLexSignR
namespace Go.Proofs.YthkbcgedjecnlaaDoor
open Go.RowKit Go.Maps
set_option linter.unusedVariables false
set_option linter.unusedSimpArgs false

/-- the worth of digits -/
def stepD (a : Nat) (c : UInt8) : Nat := a * 10 + (c.toNat - 48)
def decW (a : Nat) (l : List UInt8) : Nat := l.foldl stepD a
theorem stepD_is (a : Nat) (c : UInt8) : stepD a c = a * 10 + (c.toNat - 48) := rfl
attribute [irreducible] stepD
def allD : List UInt8 → Bool
  | [] => true
  | c :: r => digU c && allD r
theorem decW_nil (a : Nat) : decW a [] = a := by unfold decW; rw [List.foldl_nil]
theorem decW_cons (a : Nat) (c : UInt8) (r : List UInt8) : decW a (c :: r) = decW (a * 10 + (c.toNat - 48)) r := by unfold decW; rw [List.foldl_cons, stepD_is]
theorem decW_snoc (l : List UInt8) (c : UInt8) (a : Nat) : decW a (l ++ [c]) = decW a l * 10 + (c.toNat - 48) := by unfold decW; rw [List.foldl_append, List.foldl_cons, List.foldl_nil, stepD_is]
attribute [irreducible] decW
theorem allD_snoc : ∀ (l : List UInt8) (c : UInt8), allD (l ++ [c]) = (allD l && digU c)
  | [], c => by simp [allD]
  | d :: r, c => by simp [allD, allD_snoc r c, Bool.and_assoc]
theorem decW_lt : ∀ (l : List UInt8) (a : Nat), allD l = true → decW a l < (a + 1) * 10 ^ l.length
  | [], a, _ => by rw [decW_nil]; simp
  | c :: r, a, h => by
    simp only [allD, digU, Bool.and_eq_true, decide_eq_true_eq] at h
    have h1 := decW_lt r (a * 10 + (c.toNat - 48)) h.2
    rw [decW_cons, List.length_cons, Nat.pow_succ]
    refine Nat.lt_of_lt_of_le h1 ?_
    have h2 : a * 10 + (c.toNat - 48) + 1 ≤ (a + 1) * 10 := by omega
    calc (a * 10 + (c.toNat - 48) + 1) * 10 ^ r.length ≤ ((a + 1) * 10) * 10 ^ r.length := Nat.mul_le_mul_right _ h2
      _ = (a + 1) * (10 ^ r.length * 10) := by rw [Nat.mul_assoc, Nat.mul_comm 10]
theorem decW_ge : ∀ (l : List UInt8) (a : Nat), a * 10 ^ l.length ≤ decW a l
  | [], a => by rw [decW_nil]; simp
  | c :: r, a => by
    have h1 := decW_ge r (a * 10 + (c.toNat - 48))
    rw [decW_cons, List.length_cons, Nat.pow_succ]
    refine Nat.le_trans ?_ h1
    calc a * (10 ^ r.length * 10) = (a * 10) * 10 ^ r.length := by rw [Nat.mul_assoc, Nat.mul_comm 10]
      _ ≤ (a * 10 + (c.toNat - 48)) * 10 ^ r.length := Nat.mul_le_mul_right _ (by omega)
theorem decW_self (l : List UInt8) (a : Nat) : a ≤ decW a l := Nat.le_trans (Nat.le_mul_of_pos_right _ (Nat.pow_pos (by omega))) (decW_ge l a)
theorem parse_ok : ∀ (l : List UInt8) (M acc u : Nat), Lib.parseUintM M acc l = .ok u → allD l = true ∧ u = decW acc l
  | [], M, acc, u, h => by simp [Lib.parseUintM] at h; exact ⟨rfl, by rw [decW_nil]; exact h.symm⟩
  | c :: r, M, acc, u, h => by
    unfold Lib.parseUintM at h
    split at h
    · next hd =>
      split at h
      · cases h
      · split at h
        · cases h
        · obtain ⟨h1, h2⟩ := parse_ok r M _ u h
          refine ⟨?_, by rw [decW_cons]; exact h2⟩
          simp only [allD, digU, Bool.and_eq_true, decide_eq_true_eq]
          exact ⟨hd, h1⟩
    · cases h
theorem parse_all : ∀ (l : List UInt8) (M acc : Nat), M < 18446744073709551616 → allD l = true → decW acc l ≤ M → Lib.parseUintM M acc l = .ok (decW acc l)
  | [], M, acc, _, _, _ => by rw [decW_nil]; rfl
  | c :: r, M, acc, hM, h, hm => by
    simp only [allD, digU, Bool.and_eq_true, decide_eq_true_eq] at h
    have h1 := decW_self r (acc * 10 + (c.toNat - 48))
    rw [decW_cons] at hm ⊢
    unfold Lib.parseUintM
    rw [if_pos h.1, if_neg (by omega), if_neg (by omega)]
    exact parse_all r M _ hM h.2 hm
theorem numT_no {l : List UInt8} (h : ∀ u, Lib.parseUintB 64 l = .ok u → 9223372036854775808 < u ∨ (l.head? = some 48 ∧ l ≠ [48])) : numT l = .bad 32 := by
  unfold numT
  cases hp : Lib.parseUintB 64 l with
  | ok u => simp only; rw [if_pos (h u hp)]
  | «syntax» => rfl
  | range => rfl
theorem parseB_ok {l : List UInt8} {u : Nat} (h : Lib.parseUintB 64 l = .ok u) : allD l = true ∧ u = decW 0 l ∧ l ≠ [] := by
  unfold Lib.parseUintB at h
  split at h
  · cases h
  · next hn =>
    obtain ⟨h1, h2⟩ := parse_ok l _ 0 u h
    exact ⟨h1, h2, hn⟩
theorem numT_nil : numT [] = .bad 32 := numT_no (fun u h => absurd rfl (parseB_ok h).2.2)
theorem numT_dig {l : List UInt8} (h : allD l = false) : numT l = .bad 32 := numT_no (fun u hu => by rw [(parseB_ok hu).1] at h; cases h)
theorem numT_zero {l : List UInt8} (h : l.head? = some 48) (h1 : 1 < l.length) : numT l = .bad 32 := numT_no (fun u hu => .inr ⟨h, fun e => by rw [e] at h1; simp at h1⟩)
theorem numT_long {l : List UInt8} (h : 19 < l.length) : numT l = .bad 32 := numT_no (fun u hu => by
  obtain ⟨h1, h2, _⟩ := parseB_ok hu
  match l, h, h1, h2 with
  | [], h, _, _ => simp at h
  | c :: r, h, h1, h2 =>
    simp only [allD, digU, Bool.and_eq_true, decide_eq_true_eq] at h1
    by_cases hc : c.toNat = 48
    · right
      have : c = 48 := UInt8.toNat_inj.1 hc
      refine ⟨by rw [this]; rfl, fun e => by rw [e] at h; simp at h⟩
    · left
      rw [decW_cons, Nat.zero_mul, Nat.zero_add] at h2
      have h3 := decW_ge r (c.toNat - 48)
      rw [← h2] at h3
      have h4 : 10 ^ 19 ≤ 10 ^ r.length := Nat.pow_le_pow_right (by omega) (by simp at h; omega)
      have h5 : 1 * 10 ^ r.length ≤ (c.toNat - 48) * 10 ^ r.length := Nat.mul_le_mul_right _ (by omega)
      have h6 : (10 : Nat) ^ 19 = 10000000000000000000 := by decide
      omega)
theorem decW_small {l : List UInt8} (h : allD l = true) (h19 : l.length ≤ 19) : decW 0 l < 10000000000000000000 := by
  have h1 := decW_lt l 0 h
  have h2 : 10 ^ l.length ≤ 10 ^ 19 := Nat.pow_le_pow_right (by omega) h19
  have h6 : (10 : Nat) ^ 19 = 10000000000000000000 := by decide
  omega
theorem numT_is {l : List UInt8} (h0 : l ≠ []) (h19 : l.length ≤ 19) (hz : ¬ (l.head? = some 48 ∧ 1 < l.length)) (ha : allD l = true) :
    numT l = if 9223372036854775808 < decW 0 l then .bad 32 else .tok ⟨4, [], asI64 (decW 0 l), 0⟩ l.length := by
  have hs := decW_small ha h19
  have hp : Lib.parseUintB 64 l = .ok (decW 0 l) := by
    unfold Lib.parseUintB
    rw [if_neg h0]
    exact parse_all l _ 0 (by decide) ha (by omega)
  have hz' : ¬ (l.head? = some 48 ∧ l ≠ [48]) := fun h => hz ⟨h.1, by
    match l, h0, h with
    | [c], _, h => simp at h; 
    | c :: d :: r, _, _ => simp⟩
  unfold numT
  rw [hp]
  simp only
  by_cases hb : 9223372036854775808 < decW 0 l
  · rw [if_pos (.inl hb), if_pos hb]
  · rw [if_neg (fun h => h.elim hb hz'), if_neg hb]

/-- a quoted text, the bound asked at its end -/
def quotR : Nat → List UInt8 → List UInt8 → Nat → Option (List UInt8 × Nat)
  | 0, _, _, _ => none
  | f + 1, l, out, n =>
    match l with
    | [] => none
    | c :: _ =>
      if c.toNat = 34 then (if 200 < out.length then none else some (out, n + 1))
      else match pieceU l with
        | none => none
        | some (b, k) => quotR f (l.drop k) (out ++ [b]) (n + k)
theorem quotR_nil (f : Nat) (out : List UInt8) (n : Nat) : quotR f [] out n = none := by cases f <;> rfl
theorem quotR_cons (f : Nat) (c : UInt8) (r out : List UInt8) (n : Nat) : quotR (f + 1) (c :: r) out n =
    if c.toNat = 34 then (if 200 < out.length then none else some (out, n + 1)) else match pieceU (c :: r) with | none => none | some (b, k) => quotR f ((c :: r).drop k) (out ++ [b]) (n + k) := rfl
theorem quotR_over : ∀ (f : Nat) (l out : List UInt8) (n : Nat), 200 < out.length → quotR f l out n = none
  | 0, _, _, _, _ => rfl
  | f + 1, [], out, n, _ => rfl
  | f + 1, c :: r, out, n, h => by
    rw [quotR_cons]
    split
    · rfl
    · split
      · rfl
      · exact quotR_over f _ _ _ (by simp; omega)
theorem quotR_is : ∀ (f : Nat) (l out : List UInt8) (n : Nat), quotR f l out n = quotU f l out n
  | 0, _, _, _ => rfl
  | f + 1, [], out, n => rfl
  | f + 1, c :: r, out, n => by
    by_cases h : 200 < out.length
    · rw [quotR_over _ _ _ _ h, quotU_cons, if_pos h]
    · rw [quotR_cons, quotU_cons, if_neg h, if_neg h]
      by_cases hc : c.toNat = 34
      · rw [if_pos hc, if_pos hc]
      · rw [if_neg hc, if_neg hc]
        cases hp : pieceU (c :: r) with
        | none => rfl
        | some bk => exact quotR_is f _ _ _

theorem runLen_take : ∀ l : List UInt8, runLen (l.take (runLen l)) = runLen l
  | [] => rfl
  | c :: r => by
    cases h : runU c with
    | false => rw [runLen_stop h]; rfl
    | true => rw [runLen_go h, List.take_succ_cons, runLen_go h, runLen_take r]
theorem wordT_is {c : UInt8} {r : List UInt8} (hc : letU c = true) (hr : runLen (c :: r) = (c :: r).length) (hl : (c :: r).length ≤ 120) :
    wordT (c :: r) = .tok ⟨if capU c then 2 else if kwU (c :: r) then 6 else 1, c :: r, 0, 0⟩ (c :: r).length := by
  have hw : wordU (c :: r) = true := by
    unfold wordU
    rw [hr]
    simp at hl ⊢
    omega
  have hk : capU c = true → kwU (c :: r) = false := fun h => by
    unfold kwU
    rw [decide_eq_false_iff_not]
    intro hm
    have : ∀ w ∈ kws, headB capU w = false := by decide
    have := this _ hm
    rw [show headB capU (c :: r) = capU c from rfl, h] at this
    cases this
  unfold wordT
  rw [if_neg (by omega)]
  cases h1 : kwU (c :: r) with
  | true =>
    cases h2 : capU c with
    | true => rw [hk h2] at h1; cases h1
    | false => simp
  | false =>
    cases h2 : capU c with
    | true =>
      have h3 : nameU (c :: r) = false := by
        unfold nameU
        rw [show headB smallU (c :: r) = smallU c from rfl]
        have : smallU c = false := by unfold capU at h2; unfold smallU; simp at h2 ⊢; omega
        rw [this]; simp
      simp [h3]
    | false =>
      have h3 : nameU (c :: r) = true := by
        unfold nameU
        rw [show headB smallU (c :: r) = smallU c from rfl, hw, h1]
        unfold letU at hc
        rw [h2] at hc
        simpa using hc
      simp [h3]
theorem hex_at (c : UInt8) : hexU c = if digU c then (c.toNat : Int) - 48 else if 97 ≤ c.toNat ∧ c.toNat ≤ 102 then (c.toNat : Int) - 97 + 10 else -1 := by
  have h : ∀ n : Fin 256, hexU (UInt8.ofNat n.val) = if digU (UInt8.ofNat n.val) then (((UInt8.ofNat n.val).toNat : Nat) : Int) - 48 else if 97 ≤ (UInt8.ofNat n.val).toNat ∧ (UInt8.ofNat n.val).toNat ≤ 102 then (((UInt8.ofNat n.val).toNat : Nat) : Int) - 97 + 10 else -1 := by decide +kernel
  have := h ⟨c.toNat, c.toNat_lt⟩
  simpa using this
theorem toks_len' : ∀ (N : Nat) (l : List UInt8) (a : Nat), l.length ≤ N → (toks l a).ts.length ≤ l.length + 1
  | 0, l, a, hN => by
    have : l = [] := List.length_eq_zero_iff.mp (by omega)
    subst this
    rw [toks_nil]; simp [Res.ts]
  | N + 1, [], a, hN => by rw [toks_nil]; simp [Res.ts]
  | N + 1, c :: r, a, hN => by
    simp at hN
    cases hb : blankU c with
    | true =>
      rw [toks_blank r a hb]
      have := toks_len' N r (a + 1) hN
      simp; omega
    | false =>
      by_cases hc : c.toNat = 35
      · rw [toks_com r a hc]
        have := toks_len' N (r.drop (comLen r)) (a + 1 + comLen r) (by simp; omega)
        simp at this ⊢; omega
      · cases hf : firstT (c :: r) with
        | bad e' => rw [toks_bad a hb hc hf]; simp [Res.ts]
        | tok t n =>
          rw [toks_tok a hb hc hf]
          have hn := firstT_pos hf
          have := toks_len' N ((c :: r).drop n) (a + n) (by simp at hn ⊢; omega)
          cases hR : toks ((c :: r).drop n) (a + n) with
          | ok ts =>
            rw [hR] at this
            simp [Res.cons, Res.ts] at this hn ⊢
            omega
          | bad e' q' => simp [Res.cons, Res.ts]
theorem tokens_len (l : List UInt8) : (tokens l).ts.length ≤ 65537 := by
  unfold tokens
  split
  · simp [Res.ts]
  · have := toks_len' _ l 0 (Nat.le_refl _)
    omega
end Go.Proofs.YthkbcgedjecnlaaDoor
