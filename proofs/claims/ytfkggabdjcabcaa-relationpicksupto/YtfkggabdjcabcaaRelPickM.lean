import Derived.Test.YtfkggabdjcabcaaRelSelB
namespace Go.Proofs.Ytfkggabdjcabcaa
open Go.RowKit Go.Maps
set_option linter.unusedVariables false
set_option linter.unusedSimpArgs false

/-! the mathematics of RelationPicks: masks as numbers, and what a Select of few columns tells -/
theorem bits_and32 (a b : Nat) (ha : a < 4294967296) (hb : b < 4294967296) : bits .and .u32 (a : Int) (b : Int) = ((a &&& b : Nat) : Int) := by
  have hx : a &&& b < 2 ^ 32 := Nat.and_lt_two_pow _ (by omega)
  have h1 : (BitVec.ofInt 32 (a : Int)).toNat = a := by
    rw [BitVec.ofInt_natCast, BitVec.toNat_ofNat]; exact Nat.mod_eq_of_lt (by omega)
  have h2 : (BitVec.ofInt 32 (b : Int)).toNat = b := by
    rw [BitVec.ofInt_natCast, BitVec.toNat_ofNat]; exact Nat.mod_eq_of_lt (by omega)
  show IntKind.u32.wrap ((BitVec.ofInt 32 (a : Int) &&& BitVec.ofInt 32 (b : Int)).toNat : Int) = _
  rw [BitVec.toNat_and, h1, h2]
  simp only [IntKind.wrap, IntKind.signed, IntKind.bits, Bool.false_and, Bool.false_eq_true, if_false]
  omega
theorem bits_or32 (a b : Nat) (ha : a < 4294967296) (hb : b < 4294967296) : bits .or .u32 (a : Int) (b : Int) = ((a ||| b : Nat) : Int) := by
  have hx : a ||| b < 2 ^ 32 := Nat.or_lt_two_pow (by omega) (by omega)
  have h1 : (BitVec.ofInt 32 (a : Int)).toNat = a := by
    rw [BitVec.ofInt_natCast, BitVec.toNat_ofNat]; exact Nat.mod_eq_of_lt (by omega)
  have h2 : (BitVec.ofInt 32 (b : Int)).toNat = b := by
    rw [BitVec.ofInt_natCast, BitVec.toNat_ofNat]; exact Nat.mod_eq_of_lt (by omega)
  show IntKind.u32.wrap ((BitVec.ofInt 32 (a : Int) ||| BitVec.ofInt 32 (b : Int)).toNat : Int) = _
  rw [BitVec.toNat_or, h1, h2]
  simp only [IntKind.wrap, IntKind.signed, IntKind.bits, Bool.false_and, Bool.false_eq_true, if_false]
  omega
theorem and_pow (M k : Nat) : M &&& 2 ^ k = if M.testBit k = true then 2 ^ k else 0 := by
  apply Nat.eq_of_testBit_eq
  intro i
  rw [Nat.testBit_and, Nat.testBit_two_pow]
  by_cases h : k = i
  · subst h
    cases hb : M.testBit k
    · simp
    · simp
  · have hd : decide (k = i) = false := decide_eq_false h
    rw [hd, Bool.and_false]
    split
    · rw [Nat.testBit_two_pow, hd]
    · simp
theorem offB_bit (M k : Nat) (hM : M < 4294967296) (hk : k < 24) : offB (M : Int) k = !M.testBit k := by
  have h2 : (2 : Nat) ^ k < 4294967296 := Nat.lt_of_lt_of_le (Nat.pow_lt_pow_right (by omega) hk) (by decide)
  have e0 : (2 : Int) ^ k = ((2 ^ k : Nat) : Int) := by rw [Int.natCast_pow]; rfl
  have e : ((2 : Int) ^ k % 4294967296) = ((2 ^ k : Nat) : Int) := by
    rw [e0]
    exact Int.emod_eq_of_lt (Int.natCast_nonneg _) (Int.ofNat_lt.2 h2)
  unfold offB
  rw [e, bits_and32 M (2 ^ k) hM h2, and_pow]
  cases M.testBit k
  · rfl
  · have hp : (2 : Nat) ^ k ≠ 0 := by have := Nat.two_pow_pos k; omega
    rw [if_pos rfl]
    rw [Bool.not_true, beq_eq_false_iff_ne]
    omega
theorem shr_bit (M k : Nat) (hM : M < 4294967296) : (bits .and .u32 ((M : Int) / 2 ^ k) 1 == 0) = !M.testBit k := by
  have e : (M : Int) / 2 ^ k = ((M / 2 ^ k : Nat) : Int) := by
    rw [Int.natCast_ediv, Int.natCast_pow]; rfl
  have h2 : M / 2 ^ k < 4294967296 := Nat.lt_of_le_of_lt (Nat.div_le_self _ _) hM
  have := bits_and32 (M / 2 ^ k) 1 h2 (by omega)
  rw [e, show (1 : Int) = ((1 : Nat) : Int) from rfl, this, Nat.testBit_eq_decide_div_mod_eq, Nat.and_one_is_mod]
  have hm : M / 2 ^ k % 2 = 0 ∨ M / 2 ^ k % 2 = 1 := by omega
  rcases hm with h | h <;> rw [h] <;> decide
/-- the same in the first n columns, under a mask -/
def okN (M : Nat) (y x : List Int) : Nat → Bool
  | 0 => true
  | k + 1 => okN M y x k && (decide (y.getD k 0 = x.getD k 0) || !M.testBit k)
theorem okN_iff (M : Nat) (y x : List Int) : ∀ n, okN M y x n = true ↔ ∀ k, k < n → M.testBit k = false ∨ y.getD k 0 = x.getD k 0
  | 0 => by simp [okN]
  | n + 1 => by
    simp only [okN, Bool.and_eq_true, Bool.or_eq_true, decide_eq_true_eq, Bool.not_eq_true']
    rw [okN_iff M y x n]
    constructor
    · rintro ⟨h1, h2⟩ k hk
      rcases Nat.lt_succ_iff_lt_or_eq.1 hk with h | rfl
      · exact h1 k h
      · exact h2.symm
    · intro h
      exact ⟨fun k hk => h k (by omega), (h n (by omega)).symm⟩
theorem under_ok (M : Nat) (hM : M < 4294967296) {y x : List Int} (hy : y.length = 24) (hx : x.length = 24) : (underL ((M &&& 15 : Nat) : Int) y = underL ((M &&& 15 : Nat) : Int) x) ↔ okN M y x 4 = true := by
  have hlt : M &&& 15 < 4294967296 := Nat.lt_of_le_of_lt (Nat.and_le_left) hM
  rw [underL_eq hx hy, okN_iff]
  have hg : ∀ k, k < 24 → (y[k]? = x[k]? ↔ y.getD k 0 = x.getD k 0) := fun k hk => by
    rw [List.getD, List.getD, List.getElem?_eq_getElem (by omega), List.getElem?_eq_getElem (by omega)]
    simp
  constructor
  · intro h k hk
    rcases h k (by omega) with h | h
    · left
      rw [offB_bit _ k hlt (by omega), Nat.testBit_and] at h
      have h15 : (15 : Nat).testBit k = true := by
        have : k = 0 ∨ k = 1 ∨ k = 2 ∨ k = 3 := by omega
        rcases this with rfl | rfl | rfl | rfl <;> decide
      rw [h15] at h
      simpa using h
    · exact .inr ((hg k (by omega)).1 h)
  · intro h k hk
    by_cases h4 : k < 4
    · rcases h k h4 with h | h
      · left
        rw [offB_bit _ k hlt hk, Nat.testBit_and, h]
        rfl
      · exact .inr ((hg k hk).2 h)
    · left
      rw [offB_bit _ k hlt hk, Nat.testBit_and]
      have h15 : (15 : Nat).testBit k = false := Nat.testBit_lt_two_pow (Nat.lt_of_lt_of_le (by decide : 15 < 2 ^ 4) (Nat.pow_le_pow_right (by omega) (by omega)))
      rw [h15]
      simp
/-- the numbers, among the first k, of the rows that are the same in the mask's first four columns -/
def pk (M : Nat) (rows : List (List Int)) (x : List Int) (k : Nat) : List Nat := (List.range k).filter (fun i => okN M (rows.getD i []) x 4)
theorem sel_pk (M : Nat) (hM : M < 4294967296) {rows : List (List Int)} (hr : ∀ r ∈ rows, r.length = 24) {x : List Int} (hx : x.length = 24) : selN ((M &&& 15 : Nat) : Int) rows (underL ((M &&& 15 : Nat) : Int) x) rows.length = pk M rows x rows.length := by
  unfold selN pk
  apply List.filter_congr
  intro i hi
  have hi' : i < rows.length := List.mem_range.1 hi
  have hl : (rows.getD i []).length = 24 := hr _ (by rw [List.getD, List.getElem?_eq_getElem hi']; exact List.getElem_mem hi')
  rw [Bool.eq_iff_iff, decide_eq_true_eq]
  exact under_ok M hM hl hx
theorem pk_succ (M : Nat) (rows : List (List Int)) (x : List Int) (k : Nat) : pk M rows x (k + 1) = if okN M (rows.getD k []) x 4 = true then pk M rows x k ++ [k] else pk M rows x k := by
  unfold pk
  rw [List.range_succ, List.filter_append]
  by_cases h : okN M (rows.getD k []) x 4 = true
  · rw [if_pos h]
    simp only [List.filter_cons, h, if_true, List.filter_nil]
  · rw [if_neg h]
    simp only [List.filter_cons, h, List.filter_nil, Bool.false_eq_true, if_false, List.append_nil]
theorem pk_prefix (M : Nat) (rows : List (List Int)) (x : List Int) (i : Nat) : ∀ n, i ≤ n → ∃ r, pk M rows x n = pk M rows x i ++ r
  | 0, h => by
    have : i = 0 := by omega
    subst this
    exact ⟨[], by simp⟩
  | n + 1, h => by
    by_cases hi : i = n + 1
    · subst hi
      exact ⟨[], by simp⟩
    · obtain ⟨r, hr⟩ := pk_prefix M rows x i n (by omega)
      rw [pk_succ, hr]
      split
      · exact ⟨r ++ [n], by simp⟩
      · exact ⟨r, rfl⟩
theorem pk_len (M : Nat) (rows : List (List Int)) (x : List Int) (k : Nat) : (pk M rows x k).length ≤ k := by
  have := List.length_filter_le (fun i => okN M (rows.getD i []) x 4) (List.range k)
  simpa [pk] using this
/-- the next one -/
theorem pk_at {M : Nat} {rows : List (List Int)} {x : List Int} {i n : Nat} (hi : i < n) (h : okN M (rows.getD i []) x 4 = true) : (pk M rows x n)[(pk M rows x i).length]? = some i := by
  obtain ⟨r, hr⟩ := pk_prefix M rows x (i + 1) n (by omega)
  rw [hr, pk_succ, if_pos h]
  simp
theorem pk_none (rows : List (List Int)) (x : List Int) (n : Nat) : pk 0 rows x n = List.range n := by
  unfold pk
  rw [List.filter_eq_self]
  intro i _
  rw [okN_iff]
  intro k _
  exact .inl (Nat.zero_testBit k)
theorem fit_same {y z : List Int} (ly : y.length = 24) (lz : z.length = 24) (fy : fitB y 4 = true) (fz : fitB z 4 = true) (h : ∀ k, k < 4 → y.getD k 0 = z.getD k 0) : y = z := by
  have hz : ∀ {r : List Int}, fitB r 4 = true → ∀ k, 4 ≤ k → k < 24 → r.getD k 0 = 0 := fun {r} hr k h1 h2 => by
    have := List.all_eq_true.1 hr k (List.mem_range.2 h2)
    simp only [fitAt, Bool.and_eq_true, Bool.or_eq_true, decide_eq_true_eq] at this
    rcases this.2 with h | h
    · omega
    · exact h
  apply List.ext_getElem (by omega)
  intro k h1 h2
  have e : y.getD k 0 = z.getD k 0 := by
    by_cases h4 : k < 4
    · exact h k h4
    · rw [hz fy k (by omega) (by omega), hz fz k (by omega) (by omega)]
  rw [List.getD, List.getD, List.getElem?_eq_getElem h1, List.getElem?_eq_getElem h2] at e
  exact e
/-- by all four columns there is at most one -/
theorem pk_all {rows : List (List Int)} (nd : rows.Nodup) (hf : ∀ r ∈ rows, r.length = 24 ∧ fitB r 4 = true) (x : List Int) : (pk 15 rows x rows.length).length ≤ 1 := by
  have huni : ∀ i j, i < rows.length → j < rows.length → okN 15 (rows.getD i []) x 4 = true → okN 15 (rows.getD j []) x 4 = true → i = j := by
    intro i j hi hj h1 h2
    have gi : rows.getD i [] = rows[i] := by rw [List.getD, List.getElem?_eq_getElem hi]; rfl
    have gj : rows.getD j [] = rows[j] := by rw [List.getD, List.getElem?_eq_getElem hj]; rfl
    rw [gi] at h1
    rw [gj] at h2
    rw [okN_iff] at h1 h2
    have hb : ∀ k, k < 4 → (15 : Nat).testBit k = true := fun k hk => by
      have : k = 0 ∨ k = 1 ∨ k = 2 ∨ k = 3 := by omega
      rcases this with rfl | rfl | rfl | rfl <;> decide
    have he : rows[i] = rows[j] := by
      obtain ⟨l1, f1⟩ := hf rows[i] (List.getElem_mem hi)
      obtain ⟨l2, f2⟩ := hf rows[j] (List.getElem_mem hj)
      exact fit_same l1 l2 f1 f2 (fun k hk => by
        have a := (h1 k hk).resolve_left (by rw [hb k hk]; simp)
        have b := (h2 k hk).resolve_left (by rw [hb k hk]; simp)
        exact a.trans b.symm)
    exact (List.getElem_inj nd).1 he
  match hp : pk 15 rows x rows.length with
  | [] => simp
  | [_] => simp
  | a :: b :: r =>
    exfalso
    have hs : (pk 15 rows x rows.length).Nodup := List.Pairwise.filter _ List.nodup_range
    have ma : a ∈ pk 15 rows x rows.length := by rw [hp]; simp
    have mb : b ∈ pk 15 rows x rows.length := by rw [hp]; simp
    obtain ⟨a1, a2⟩ := List.mem_filter.1 ma
    obtain ⟨b1, b2⟩ := List.mem_filter.1 mb
    have := huni a b (List.mem_range.1 a1) (List.mem_range.1 b1) a2 b2
    subst this
    rw [hp] at hs
    simp at hs
/-- Select by a mask, over a relation of four columns -/
theorem select_pk {w : World} {B t m : Nat} {sv : Value} {rows : List (List Int)} {gone : Int} (h : Rel w B t m sv rows 4 gone) (hlen : rows.length ≤ 100000000) (M : Nat) (hM : M < 4294967296) (x : List Int) (hx : RowOk x) :
    Calls Try.prog 7 #[.pointer (some ⟨t, 0, none⟩), .int .u32 (M : Int), rowV x] w fun e w' => ∃ a c, e = .returned (.slice a (pk M rows x rows.length).length c) ∧ w'.ownsRow w.heap.size 3 1 (.slice a (pk M rows x rows.length).length c) (pk M rows x rows.length).length ((pk M rows x rows.length).map intN) ∧ Below w.heap.size w w' := by
  have := select4 h hlen (M : Int) x hx
  have e15 : bits BinOp.and IntKind.u32 (M : Int) 15 = ((M &&& 15 : Nat) : Int) := bits_and32 M 15 hM (by omega)
  rw [e15, sel_pk M hM (fun r hr => (h.ok r hr).len) hx.len] at this
  exact this
end Go.Proofs.Ytfkggabdjcabcaa
