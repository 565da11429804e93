import Derived.Test.YtinncofhidiciaaSymGood
namespace Go.Proofs.Ytinncofhidiciaa
open Go.RowKit Go.Maps Go.ChangeMaps
set_option linter.unusedVariables false
set_option linter.unusedSimpArgs false
attribute [local go_sem ↓] Go.wp_at_zero Go.wp_at_succ

/-- a table all of whose blocks lie from B on -/
def Table (w : World) (B t : Nat) (vs : List V) (most : Int) : Prop := ∃ m sv, Tbl w t m sv vs most ∧ B ≤ t ∧ B ≤ m ∧ ∀ g, sv.ownBlock = some g → B ≤ g

theorem Table.below {w w' : World} {B t : Nat} {vs : List V} {most : Int} (h : Table w B t vs most) (b : Below w.heap.size w w') : Table w' B t vs most := by
  obtain ⟨m, sv, T, r⟩ := h
  exact ⟨m, sv, T.below b, r⟩
theorem Table.size {w : World} {B t : Nat} {vs : List V} {most : Int} (h : Table w B t vs most) : B ≤ w.heap.size := by
  obtain ⟨m, sv, T, r⟩ := h
  exact Nat.le_of_lt (Nat.lt_of_le_of_lt r.1 T.lts.1)

theorem tlen {w : World} {B t : Nat} {vs : List V} {most : Int} (h : Table w B t vs most) :
    Calls Try.prog 12 #[.pointer (some ⟨t, 0, none⟩)] w fun e w' => e = .returned (.int .i64 vs.length) ∧ w' = w := by
  obtain ⟨m, sv, T, r⟩ := h
  exact len_any T
theorem tfind {w : World} {B t : Nat} {vs : List V} {most : Int} (h : Table w B t vs most) {v : V} (hv : v.wf) :
    Calls Try.prog 25 #[.pointer (some ⟨t, 0, none⟩), .agg #[.int .i8 v.k, .int .i64 v.n, .string v.s]] w fun e w' => e = .returned (.tuple #[.int .i32 (symOf vs v), .bool (decide (v ∈ vs))]) ∧ Below w.heap.size w w' := by
  obtain ⟨m, sv, T, r⟩ := h
  exact find_any T hv
theorem tadd_new {w : World} {B t : Nat} {vs : List V} {most : Int} (h : Table w B t vs most) {v : V} (hv : v.wf) (hc : chk v.k v.n v.s = 0) (hm : v ∉ vs) (hf : vs.length < most) (hb : vs.length ≤ 2147483646) :
    Calls Try.prog 28 #[.pointer (some ⟨t, 0, none⟩), .agg #[.int .i8 v.k, .int .i64 v.n, .string v.s]] w fun e w' => e = .returned (.tuple #[.int .i32 vs.length, .int .i64 0]) ∧ Table w' B t (vs ++ [v]) most ∧ Below B w w' := by
  have hs := h.size
  obtain ⟨m, sv, T, r1, r2, r3⟩ := h
  refine (add_new T hv hc hm hf hb).mono ?_
  rintro e w' ⟨rfl, sv', T', U⟩
  refine ⟨rfl, ⟨m, sv', T', r1, r2, fun g hg => ?_⟩, U.below hs r1 r2 r3⟩
  rcases U.new g hg with h | h
  · exact r3 g h
  · omega

theorem take_snoc {vs : List V} {k : Nat} (h : k < vs.length) : vs.take (k + 1) = vs.take k ++ [atV vs k] := by
  rw [atV_eq h, List.take_add_one, List.getElem?_eq_getElem h]
  rfl

theorem not_mem_take {vs : List V} (nd : vs.Nodup) {k : Nat} (h : k < vs.length) : atV vs k ∉ vs.take k := by
  intro hm
  have h1 := nd.sublist (List.take_sublist (k + 1) vs)
  rw [take_snoc h] at h1
  exact (List.nodup_append.1 h1).2.2 _ hm _ (by simp) rfl

set_option maxHeartbeats 3200000 in
theorem filled_any (w : World) (a : Option Addr) (c : Nat) (vs : List V) (most : Nat) (hm : most ≤ 2147483647) (hl : vs.length ≤ most) (hv : Lv w (.slice a vs.length c) vs) (nd : vs.Nodup) (hc : ∀ v ∈ vs, chk v.k v.n v.s = 0) :
    Calls Try.prog 19 #[.slice a vs.length c, .int .i64 most] w fun e w' => ∃ t, e = .returned (.pointer (some ⟨t, 0, none⟩)) ∧ Table w' w.heap.size t vs most ∧ Below w.heap.size w w' := by
  go_enter Try.func19, Try.ntmps19
  go_wp2_with fail
  refine (new_ok _ _ (by omega) (by omega)).mono ?_
  rintro e w1 ⟨rfl, hb1, T1⟩
  have hT1 : Table w1 w.heap.size (w.heap.size + 1) (vs.take 0) most := ⟨_, _, T1, by omega, by omega, fun g hg => by cases hg⟩
  clear T1
  generalize w.heap.size + 1 = t at hT1
  go_wp2
  go_loopw [7] (fun i wr => ∃ k : Nat, k ≤ vs.length ∧ i = .int .i64 k ∧ Below w.heap.size w wr ∧ Table wr w.heap.size t (vs.take k) most) (fun i _ => vs.length - (intOf i).toNat)
  case atStart => exact ⟨0, Nat.zero_le _, rfl, hb1, hT1⟩
  case round =>
    obtain ⟨k, hk, rfl, bel, T⟩ := hrel
    clear hT1 hb1
    by_cases hlt : k < vs.length
    · obtain ⟨g, off, rfl, hg, x0, x1, x2⟩ := (hv.below bel).at hlt
      have huw : (atV vs k).wf := hv.1 _ (atV_mem hlt)
      have huc := hc _ (atV_mem hlt)
      have hno := not_mem_take nd hlt
      have HT : Hid (vs.take (k + 1) = vs.take k ++ [atV vs k]) := take_snoc hlt
      have hlen : (vs.take k).length = k := by simp; omega
      generalize atV vs k = u at x0 x1 x2 huw huc hno HT
      clear hv hc nd
      go_wp2_with fail
      refine (tadd_new T huw huc hno (by rw [hlen]; omega) (by rw [hlen]; omega)).mono ?_
      rintro e w2 ⟨rfl, T2, hb2⟩
      rw [hlen]
      rw [← HT.out] at T2
      have hlen2 : (vs.take (k + 1)).length = k + 1 := by simp; omega
      have bel2 := bel.trans hb2
      clear hb2 T bel x0 x1 x2
      go_wp2_with (go_at_call 12; refine (tlen T2).mono ?_; rintro e w' ⟨rfl, rfl⟩; rw [hlen2])

      go_roundw
      case rel => exact ⟨k + 1, by omega, by go_num, bel2, T2⟩
      case measure => simp [intOf]; omega
    · have e : vs.take k = vs := List.take_of_length_le (by omega)
      rw [e] at T
      clear hv hc nd e
      go_wp2
      go_ret
      exact ⟨t, rfl, T, bel⟩
end Go.Proofs.Ytinncofhidiciaa
