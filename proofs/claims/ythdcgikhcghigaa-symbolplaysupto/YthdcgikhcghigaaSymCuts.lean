import Derived.Test.YthdcgikhcghigaaSymCut
namespace Go.Proofs.Ythdcgikhcghigaa
open Go.RowKit Go.Maps Go.ChangeMaps
set_option linter.unusedVariables false
set_option linter.unusedSimpArgs false
attribute [local go_sem ↓] Go.wp_at_zero Go.wp_at_succ

theorem tcut_bad {w : World} {B t : Nat} {vs : List V} {most : Int} (h : Table w B t vs most) (n : Int) (hn : n < 0 ∨ vs.length < n) :
    Calls Try.prog 33 #[.pointer (some ⟨t, 0, none⟩), .int .i64 n] w fun e w' => e = .returned (.int .i64 1) ∧ w' = w := by
  obtain ⟨m, sv, T, r⟩ := h
  exact cut_bad T n hn
theorem tcut_ok {w : World} {B t : Nat} {vs : List V} {most : Int} (h : Table w B t vs most) {n : Nat} (hn : n ≤ vs.length) :
    Calls Try.prog 33 #[.pointer (some ⟨t, 0, none⟩), .int .i64 n] w fun e w' => e = .returned (.int .i64 0) ∧ Table w' B t (vs.take n) most ∧ Below B w w' := by
  have hs := h.size
  obtain ⟨m, sv, T, r1, r2, r3⟩ := h
  have key : Calls Try.prog 33 #[.pointer (some ⟨t, 0, none⟩), .int .i64 n] w fun e w' => e = .returned (.int .i64 0) ∧ ∃ sv', Tbl w' t m sv' (vs.take n) most ∧ Touch w w' t m sv sv' := by
    by_cases h1 : n = vs.length
    · exact cut_all T h1
    · exact cut_some T (by omega)
  refine key.mono ?_
  rintro e w' ⟨rfl, sv', T', U⟩
  refine ⟨rfl, ⟨m, sv', T', r1, r2, fun g hg => ?_⟩, U.below hs r1 r2 r3⟩
  rcases U.new g hg with h | h
  · exact r3 g h
  · omega
theorem tval_in {w : World} {B t : Nat} {vs : List V} {most : Int} (h : Table w B t vs most) {i : Nat} (hi : i < vs.length) (hm : vs.length ≤ 2147483647) :
    Calls Try.prog 17 #[.pointer (some ⟨t, 0, none⟩), .int .i32 i] w fun e w' => e = .returned (.tuple #[.agg #[.int .i8 (atV vs i).k, .int .i64 (atV vs i).n, .string (atV vs i).s], .int .i64 0]) ∧ Below w.heap.size w w' := by
  obtain ⟨m, sv, T, r⟩ := h
  exact value_in T hi hm
theorem tval_out {w : World} {B t : Nat} {vs : List V} {most : Int} (h : Table w B t vs most) {i : Nat} (hi : ¬ i < vs.length) (hm : i ≤ 2147483647) :
    Calls Try.prog 17 #[.pointer (some ⟨t, 0, none⟩), .int .i32 i] w fun e w' => e = .returned (.tuple #[.agg #[.int .i8 0, .int .i64 0, .string ⟨#[]⟩], .int .i64 21]) ∧ Below w.heap.size w w' := by
  obtain ⟨m, sv, T, r⟩ := h
  exact value_out T hi hm

theorem atV_take {vs : List V} {i k : Nat} (h : i < k) (hk : k ≤ vs.length) : atV (vs.take k) i = atV vs i := by
  rw [atV_eq (by simp; omega), atV_eq (by omega), List.getElem_take]

theorem find_take_in {vs : List V} (nd : vs.Nodup) {q k : Nat} (hq : q < k) (hk : k ≤ vs.length) : symOf (vs.take k) (atV vs q) = q ∧ decide (atV vs q ∈ vs.take k) = true := by
  have e : (vs.take k)[q]? = some (atV vs q) := by
    rw [List.getElem?_take, if_pos hq, List.getElem?_eq_getElem (by omega), atV_eq (by omega)]
  exact ⟨symOf_at (nd.sublist (List.take_sublist _ _)) e, decide_eq_true (List.mem_of_getElem? e)⟩

theorem find_take_out {vs : List V} (nd : vs.Nodup) {q k : Nat} (hq : ¬ q < k) (hk : q < vs.length) : symOf (vs.take k) (atV vs q) = 0 ∧ decide (atV vs q ∈ vs.take k) = false := by
  have hn : atV vs q ∉ vs.take k := fun hm => not_mem_take nd hk (by
    have : (vs.take k).Sublist (vs.take q) := by
      rw [show vs.take k = (vs.take q).take k by rw [List.take_take]; congr 1; omega]
      exact List.take_sublist _ _
    exact this.subset hm)
  exact ⟨by rw [symOf, if_neg hn], decide_eq_false hn⟩

theorem residue (n : Int) (L : Nat) : ∃ (r : Int) (kk : Nat), n.tmod ((L : Int) + 1) = r ∧ kk ≤ L ∧ ((¬ r < 0 ∧ r = kk) ∨ (r < 0 ∧ -(L : Int) ≤ r ∧ r + L + 1 = kk)) := by
  have h1 : n.tmod ((L : Int) + 1) < (L : Int) + 1 := Int.tmod_lt_of_pos n (by omega)
  have h2 : -((L : Int) + 1) < n.tmod ((L : Int) + 1) := by
    rcases Int.lt_or_le n 0 with hn | hn
    · have := Int.tmod_lt_of_pos (-n) (b := (L : Int) + 1) (by omega)
      rw [Int.neg_tmod] at this
      omega
    · have := Int.tmod_nonneg ((L : Int) + 1) hn
      omega
  by_cases h : n.tmod ((L : Int) + 1) < 0
  · exact ⟨_, (n.tmod ((L : Int) + 1) + L + 1).toNat, rfl, by omega, .inr ⟨h, by omega, by omega⟩⟩
  · exact ⟨_, (n.tmod ((L : Int) + 1)).toNat, rfl, by omega, .inl ⟨h, by omega⟩⟩

end Go.Proofs.Ythdcgikhcghigaa
