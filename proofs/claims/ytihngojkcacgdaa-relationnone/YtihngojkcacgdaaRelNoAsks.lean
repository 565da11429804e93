import Derived.Test.YtihngojkcacgdaaRelNoAmid
import Derived.Test.YtihngojkcacgdaaRelNoReg8
namespace Go.Proofs.Ytihngojkcacgdaa
open Go.RowKit Go.Maps Go.Shelf
set_option linter.unusedVariables false
set_option linter.unusedSimpArgs false
attribute [local go_sem ↓] Go.wp_at_zero Go.wp_at_succ

set_option maxHeartbeats 3200000 in
set_option maxRecDepth 100000 in
theorem asks_6 {w : World} {t : Nat} {p : Value} (h : BothNo w t p) (on n m mask : Int) (r : List Int) : Calls Try.prog 20 #[.pointer (some ⟨t, 0, none⟩), .agg (opL on 6 n m mask r).toArray] w fun e w' => e = .returned (.bool true) ∧ Below w.heap.size w w' := by
  have O := Lib.hid (opAt_new w on 6 n m mask r)
  have HB := Lib.hid (belowA (w := w) (.cells (opL on 6 n m mask r).toArray 28))
  have HN := Lib.hid (h.below HB.out)
  clear h
  go_enter Try.func20, Try.ntmps20
  go_upto_region 1 with fail
  generalize w.alloc (.cells (opL on 6 n m mask r).toArray 28) = W at O HB HN ⊢
  have hc1 := O.out.c1
  go_upto_region 3 with fail
  clear hc1
  have hB0 : Below W.heap.size W W.drew := (Below.refl _ _).drew
  have HS : Hid (∀ u, Below W.heap.size W u → u.cell? ⟨t, 0, none⟩ = some p ∧ u.cell? ⟨w.heap.size, 2, none⟩ = some (.int .i64 n) ∧ u.cell? ⟨w.heap.size, 3, none⟩ = some (.int .i64 m)) :=
    fun u hu => ⟨(HN.out.below hu).c0, (O.out.below hu).c2, (O.out.below hu).c3⟩
  go_region_held3 (fun u => Below W.heap.size W u ∧ u.cell? ⟨t, 0, none⟩ = some p ∧ u.cell? ⟨w.heap.size, 2, none⟩ = some (.int .i64 n) ∧ u.cell? ⟨w.heap.size, 3, none⟩ = some (.int .i64 m))
    (first | assumption | exact ⟨hB0, HS.out _ hB0⟩ | exact ⟨(by assumption), HS.out _ (by assumption)⟩)
    (first
      | (go_at_call 23; refine (range_no (HN.out.below hB0).no _ _).mono ?_; rintro ee w4 ⟨⟨sq, rfl, hsq⟩, b4⟩; have b4' : Below W.heap.size W w4 := hB0.trans (b4.mono hB0.size); clear b4)
      | fail)
  simp only [Exit.then]
  go_at_K
  have HSQ := Lib.hid hsq
  have HB4 := Lib.hid b4'
  have HS4 : Hid (∀ u, Below w4.heap.size w4 u → u.cell? ⟨t, 1, none⟩ = some (.pointer none) ∧ u.cell? ⟨w.heap.size, 2, none⟩ = some (.int .i64 n) ∧ u.cell? ⟨w.heap.size, 3, none⟩ = some (.int .i64 m)) := fun u hu => by
    have hb := HB4.out.trans (hu.mono HB4.out.size)
    exact ⟨(HN.out.below hb).c1, (O.out.below hb).c2, (O.out.below hb).c3⟩
  have HT : Hid (∀ u, Below w4.heap.size w4 u → ∀ x : Int, Calls Try.prog 22 #[sq, .slice none 0 0, .int .i64 x] u fun e w' => e = .returned (.bool true) ∧ Below w4.heap.size w4 w') :=
    fun u hu x => (tells_no (HSQ.out.below hu) none 0 x).mono fun e w' h => ⟨h.1, hu.trans (h.2.mono hu.size)⟩
  clear hsq b4' HS hB0
  go_upto_region 4 with fail
  have hB0 : Below w4.heap.size w4 w4.drew := (Below.refl _ _).drew
  go_region_held3 (fun u => Below w4.heap.size w4 u ∧ u.cell? ⟨t, 1, none⟩ = some (.pointer none) ∧ u.cell? ⟨w.heap.size, 2, none⟩ = some (.int .i64 n) ∧ u.cell? ⟨w.heap.size, 3, none⟩ = some (.int .i64 m))
    (first | assumption | exact ⟨hB0, HS4.out _ hB0⟩ | exact ⟨(by assumption), HS4.out _ (by assumption)⟩)
    (first
      | (go_at_call 25; refine (rrange_nil _ _ _).mono ?_; rintro ee w3 ⟨rfl, rfl⟩)
      | (go_at_call 22; refine (HT.out _ (by first | assumption | exact hB0) _).mono ?_; rintro ee w5 ⟨rfl, b5⟩)
      | fail)
  all_goals
    go_wp2
    go_ret
    exact ⟨rfl, HB.out.trans ((HB4.out.trans (Below.mono (by assumption) HB4.out.size)).mono HB.out.size)⟩
set_option maxHeartbeats 3200000 in
set_option maxRecDepth 100000 in
theorem asks_8 {w : World} {t : Nat} {p : Value} (h : BothNil w t p) (on n m mask : Int) (r : List Int) : Calls Try.prog 20 #[.pointer (some ⟨t, 0, none⟩), .agg (opL on 8 n m mask r).toArray] w fun e w' => e = .returned (.bool true) ∧ Below w.heap.size w w' := by
  have O := Lib.hid (opAt_new w on 8 n m mask r)
  have HB := Lib.hid (belowA (w := w) (.cells (opL on 8 n m mask r).toArray 28))
  have HN := Lib.hid (h.below HB.out)
  clear h
  go_enter Try.func20, Try.ntmps20
  go_upto_region 1 with fail
  generalize w.alloc (.cells (opL on 8 n m mask r).toArray 28) = W at O HB HN ⊢
  have hc1 := O.out.c1
  go_upto_region 11 with fail
  clear hc1
  refine wp_region_noPanic ?_
  refine wp_region_held (S := fun u => Below W.heap.size W u) (by kernel_rfl) ?_
  refine regKept (w5 := W) (S := fun u => Below W.heap.size W u) (t := t) rfl rfl rfl rfl rfl rfl rfl rfl rfl rfl rfl rfl rfl rfl rfl rfl rfl rfl rfl rfl rfl rfl rfl rfl rfl rfl (by kernel_rfl) (by kernel_rfl) (by kernel_rfl) (fun _ _ _ _ _ h => h) (by simp) rfl (Below.refl _ _).drew (fun u hu => run_loadSeq (HN.out.below hu).c2) ?_
  intro wf hS
  have HBW := Lib.hid (HB.out.trans (hS.mono HB.out.size))
  clear hS HB HN O
  refine NoPanic.normal ?_
  rename_i hK
  refine hK _ _ ?_
  simp (config := { maxSteps := 8000000 }) only [Act.put, List.setIfInBounds_toArray, List.set_cons_succ, List.set_cons_zero]
  go_wp2
  go_ret
  exact ⟨rfl, HBW.out⟩
set_option maxHeartbeats 3200000 in
set_option maxRecDepth 100000 in
theorem asks_10 {w : World} {t : Nat} {p : Value} (h : BothNo w t p) (on n m mask : Int) (r : List Int) : Calls Try.prog 20 #[.pointer (some ⟨t, 0, none⟩), .agg (opL on 10 n m mask r).toArray] w fun e w' => e = .returned (.bool true) ∧ Below w.heap.size w w' := by
  have O := Lib.hid (opAt_new w on 10 n m mask r)
  have HB := Lib.hid (belowA (w := w) (.cells (opL on 10 n m mask r).toArray 28))
  have HN := Lib.hid (h.below HB.out)
  clear h
  go_enter Try.func20, Try.ntmps20
  go_upto_region 1 with fail
  generalize w.alloc (.cells (opL on 10 n m mask r).toArray 28) = W at O HB HN ⊢
  have hc1 := O.out.c1
  go_upto_region 15 with fail
  clear hc1
  have hB0 : Below W.heap.size W W.drew := (Below.refl _ _).drew
  have HS : Hid (∀ u, Below W.heap.size W u → u.cell? ⟨t, 0, none⟩ = some p ∧ u.cell? ⟨t, 1, none⟩ = some (.pointer none)) := fun u hu => ⟨(HN.out.below hu).c0, (HN.out.below hu).c1⟩
  have HD := Lib.hid (sorted_no (HN.out.below hB0).no)
  go_region_held3 (fun u => Below W.heap.size W u ∧ u.cell? ⟨t, 0, none⟩ = some p ∧ u.cell? ⟨t, 1, none⟩ = some (.pointer none))
    (first | assumption | exact ⟨hB0, HS.out _ hB0⟩ | exact ⟨(by assumption), HS.out _ (by assumption)⟩)
    (first
      | (go_at_call 27; refine (sorted_no (HN.out.below (by assumption)).no).mono ?_; rintro ee w3 ⟨rfl, rfl⟩)
      | (go_at_call 28; refine (rsorted_nil _).mono ?_; rintro ee w6 ⟨⟨sa, rfl⟩, b6⟩; have b6' : Below W.heap.size W w6 := hB0.trans (b6.mono hB0.size); clear b6)
      | (go_at_call 26; refine (sameRows_0 _ _ _ _ _).mono ?_; rintro ee w3 ⟨rfl, rfl⟩)
      | fail)
  all_goals
    go_wp2
    go_ret
    exact ⟨rfl, HB.out.trans (b6'.mono HB.out.size)⟩
set_option maxHeartbeats 3200000 in
set_option maxRecDepth 100000 in
theorem asks_12 {w : World} {t : Nat} {p : Value} (h : BothNo w t p) (on n m mask : Int) (r : List Int) : Calls Try.prog 20 #[.pointer (some ⟨t, 0, none⟩), .agg (opL on 12 n m mask r).toArray] w fun e w' => e = .returned (.bool true) ∧ Below w.heap.size w w' := by
  have O := Lib.hid (opAt_new w on 12 n m mask r)
  have HB := Lib.hid (belowA (w := w) (.cells (opL on 12 n m mask r).toArray 28))
  have HN := Lib.hid (h.below HB.out)
  clear h
  go_enter Try.func20, Try.ntmps20
  go_upto_region 1 with fail
  generalize w.alloc (.cells (opL on 12 n m mask r).toArray 28) = W at O HB HN ⊢
  have hc1 := O.out.c1
  go_wp2_with fail
  refine (sizes_no HN.out).mono ?_
  rintro e w2 ⟨rfl, b2⟩
  go_wp2
  go_ret
  exact ⟨rfl, HB.out.trans (b2.mono HB.out.size)⟩
set_option maxHeartbeats 3200000 in
set_option maxRecDepth 100000 in
theorem asks_other {w : World} {t : Nat} {p : Value} (h : BothNo w t p) (on k n m mask : Int) (r : List Int) (h6 : k ≠ 6) (h7 : k ≠ 7) (h8 : k ≠ 8) (h9 : k ≠ 9) (h10 : k ≠ 10) (h12 : k ≠ 12) : Calls Try.prog 20 #[.pointer (some ⟨t, 0, none⟩), .agg (opL on k n m mask r).toArray] w fun e w' => e = .returned (.bool true) ∧ Below w.heap.size w w' := by
  have O := Lib.hid (opAt_new w on k n m mask r)
  have HB := Lib.hid (belowA (w := w) (.cells (opL on k n m mask r).toArray 28))
  have HN := Lib.hid (h.below HB.out)
  clear h
  go_enter Try.func20, Try.ntmps20
  go_upto_region 1 with fail
  generalize w.alloc (.cells (opL on k n m mask r).toArray 28) = W at O HB HN ⊢
  have hc1 := O.out.c1
  clear HN
  have e6 : ((k : Int) == 6) = false := by simpa using h6
  have e7 : ((k : Int) == 7) = false := by simpa using h7
  have e8 : ((k : Int) == 8) = false := by simpa using h8
  have e9 : ((k : Int) == 9) = false := by simpa using h9
  have e10 : ((k : Int) == 10) = false := by simpa using h10
  have e12 : ((k : Int) == 12) = false := by simpa using h12
  clear h6 h7 h8 h9 h10 h12
  go_wp2
  go_ret
  exact ⟨rfl, HB.out⟩
section
attribute [-go_sem] loadVar
set_option maxHeartbeats 3200000 in
set_option maxRecDepth 100000 in
theorem asks_9 {w : World} {t : Nat} {p : Value} (h : BothNo w t p) (on n m mask : Int) (r : List Int) (hr : r.length = 24) : Calls Try.prog 20 #[.pointer (some ⟨t, 0, none⟩), .agg (opL on 9 n m mask r).toArray] w fun e w' => e = .returned (.bool true) ∧ Below w.heap.size w w' := by
  have O := Lib.hid (opAt_new w on 9 n m mask r)
  have HB := Lib.hid (belowA (w := w) (.cells (opL on 9 n m mask r).toArray 28))
  have HN := Lib.hid (h.below HB.out)
  clear h
  go_enter Try.func20, Try.ntmps20
  go_upto_region 1 with fail
  generalize w.alloc (.cells (opL on 9 n m mask r).toArray 28) = W at O HB HN ⊢
  have hc1 := O.out.c1
  have hc1 := run_loadInt hc1
  have hld := O.out.load hr
  go_wp2_with fail
  refine (amid_no HN.out on 9 n m mask r).mono ?_
  rintro e w2 ⟨rfl, b2⟩
  go_wp2
  go_ret
  exact ⟨rfl, HB.out.trans (b2.mono HB.out.size)⟩
end
end Go.Proofs.Ytihngojkcacgdaa
