import Derived.Test.YthdcgikhcghigaaSymGood
namespace Go.Proofs.Ythdcgikhcghigaa
open Go.RowKit Go.Maps Go.ChangeMaps
set_option linter.unusedVariables false
set_option linter.unusedSimpArgs false
attribute [local go_sem ↓] Go.wp_at_zero Go.wp_at_succ

/-- a table all of whose blocks lie from B on -/
def Table (w : World) (B t : Nat) (vs : List V) (most : Int) : Prop := ∃ m sv, Tbl w t m sv vs most ∧ B ≤ t ∧ B ≤ m ∧ ∀ g, sv.ownBlock = some g → B ≤ g

theorem Table.below {w w' : World} {B t : Nat} {vs : List V} {most : Int} (h : Table w B t vs most) (b : Below w.heap.size w w') : Table w' B t vs most := by
  obtain ⟨m, sv, T, r⟩ := h
  exact ⟨m, sv, T.below b, r⟩
theorem Table.size {w : World} {B t : Nat} {vs : List V} {most : Int} (h : Table w B t vs most) : B ≤ w.heap.size := by
  obtain ⟨m, sv, T, r⟩ := h
  exact Nat.le_of_lt (Nat.lt_of_le_of_lt r.1 T.lts.1)

theorem tlen {w : World} {B t : Nat} {vs : List V} {most : Int} (h : Table w B t vs most) :
    Calls Try.prog 7 #[.pointer (some ⟨t, 0, none⟩)] w fun e w' => e = .returned (.int .i64 vs.length) ∧ w' = w := by
  obtain ⟨m, sv, T, r⟩ := h
  exact len_any T
theorem tfind {w : World} {B t : Nat} {vs : List V} {most : Int} (h : Table w B t vs most) {v : V} (hv : v.wf) :
    Calls Try.prog 15 #[.pointer (some ⟨t, 0, none⟩), .agg #[.int .i8 v.k, .int .i64 v.n, .string v.s]] w fun e w' => e = .returned (.tuple #[.int .i32 (symOf vs v), .bool (decide (v ∈ vs))]) ∧ Below w.heap.size w w' := by
  obtain ⟨m, sv, T, r⟩ := h
  exact find_any T hv
theorem tadd_new {w : World} {B t : Nat} {vs : List V} {most : Int} (h : Table w B t vs most) {v : V} (hv : v.wf) (hc : chk v.k v.n v.s = 0) (hm : v ∉ vs) (hf : vs.length < most) (hb : vs.length ≤ 2147483646) :
    Calls Try.prog 13 #[.pointer (some ⟨t, 0, none⟩), .agg #[.int .i8 v.k, .int .i64 v.n, .string v.s]] w fun e w' => e = .returned (.tuple #[.int .i32 vs.length, .int .i64 0]) ∧ Table w' B t (vs ++ [v]) most ∧ Below B w w' := by
  have hs := h.size
  obtain ⟨m, sv, T, r1, r2, r3⟩ := h
  refine (add_new T hv hc hm hf hb).mono ?_
  rintro e w' ⟨rfl, sv', T', U⟩
  refine ⟨rfl, ⟨m, sv', T', r1, r2, fun g hg => ?_⟩, U.below hs r1 r2 r3⟩
  rcases U.new g hg with h | h
  · exact r3 g h
  · omega

theorem take_snoc {vs : List V} {k : Nat} (h : k < vs.length) : vs.take (k + 1) = vs.take k ++ [atV vs k] := by
  rw [atV_eq h, List.take_add_one, List.getElem?_eq_getElem h]
  rfl

theorem not_mem_take {vs : List V} (nd : vs.Nodup) {k : Nat} (h : k < vs.length) : atV vs k ∉ vs.take k := by
  intro hm
  have h1 := nd.sublist (List.take_sublist (k + 1) vs)
  rw [take_snoc h] at h1
  exact (List.nodup_append.1 h1).2.2 _ hm _ (by simp) rfl

end Go.Proofs.Ythdcgikhcghigaa
