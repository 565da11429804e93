import Derived.Test.YtihngojkcacgdaaRelNoKeep
import Derived.Test.YtihngojkcacgdaaRelNoReg2
namespace Go.Proofs.Ytihngojkcacgdaa
open Go.RowKit Go.Maps Go.Shelf
set_option linter.unusedVariables false
set_option linter.unusedSimpArgs false
attribute [local go_sem ↓] Go.wp_at_zero Go.wp_at_succ

set_option maxHeartbeats 3200000 in
set_option maxRecDepth 100000 in
theorem does_1 {w : World} {t : Nat} {p : Value} (h : BothNo w t p) (on n m mask : Int) (r : List Int) (hr : r.length = 24) : Calls Try.prog 4 #[.pointer (some ⟨t, 0, none⟩), .agg (opL on 1 n m mask r).toArray] w fun e w' => e = .returned (.bool true) ∧ Below w.heap.size w w' := by
  have O := Lib.hid (opAt_new w on 1 n m mask r)
  have HB := Lib.hid (belowA (w := w) (.cells (opL on 1 n m mask r).toArray 28))
  have HN := Lib.hid (h.below HB.out)
  have hur := Try.underlying26
  have hir : (Try.prog.info? 26).map (·.size) = some (List.map cellI r).length := by rw [List.length_map, hr]; exact infoRow
  clear h
  go_enter Try.func4, Try.ntmps4
  go_upto_region 1 with fail
  generalize w.alloc (.cells (opL on 1 n m mask r).toArray 28) = W at O HB HN ⊢
  have hc1 := O.out.c1
  go_upto_region 3 with fail
  clear hc1
  have hB0 : Below W.heap.size W W.drew := (Below.refl _ _).drew
  have HS : Hid (∀ u, Below W.heap.size W u → Below W.heap.size W u ∧ u.cell? ⟨t, 0, none⟩ = some p ∧ u.rangeAt w.heap.size 5 (List.map cellI r)) := fun u hu => ⟨hu, (HN.out.below hu).c0, (O.out.below hu).row⟩
  have HS2 : Hid (∀ u, Below W.heap.size W u → Below W.heap.size W u ∧ u.cell? ⟨t, 1, none⟩ = some (.pointer none) ∧ u.rangeAt w.heap.size 5 (List.map cellI r)) := fun u hu => ⟨hu, (HN.out.below hu).c1, (O.out.below hu).row⟩
  go_region_held3 (fun u => Below W.heap.size W u ∧ u.cell? ⟨t, 0, none⟩ = some p ∧ u.rangeAt w.heap.size 5 (List.map cellI r))
    (first | assumption | exact HS.out _ hB0 | exact HS.out _ (by assumption))
    (first
      | (go_at_call 8; refine (add_no (HN.out.below hB0).no r).mono ?_; rintro ee w2 ⟨rfl, b2⟩; have b2' : Below W.heap.size W w2 := hB0.trans (b2.mono hB0.size); clear b2)
      | fail)
  simp only [Exit.then]
  go_at_K
  clear hB0 HS
  have HB2 := Lib.hid b2'
  have HS3 : Hid (∀ u, Below w2.heap.size w2 u → Below w2.heap.size w2 u ∧ u.cell? ⟨t, 1, none⟩ = some (.pointer none) ∧ u.rangeAt w.heap.size 5 (List.map cellI r)) := fun u hu => ⟨hu, (HS2.out u (HB2.out.trans (hu.mono HB2.out.size))).2⟩
  clear b2' HS2
  go_upto_region 4 with fail
  have hB0 : Below w2.heap.size w2 w2.drew := (Below.refl _ _).drew
  go_region_held3 (fun u => Below w2.heap.size w2 u ∧ u.cell? ⟨t, 1, none⟩ = some (.pointer none) ∧ u.rangeAt w.heap.size 5 (List.map cellI r))
    (first | assumption | exact HS3.out _ hB0 | exact HS3.out _ (by assumption))
    (first
      | (go_at_call 9; refine (radd_nil r _).mono ?_; rintro ee w3 ⟨rfl, b3⟩; have b3' : Below w2.heap.size w2 w3 := hB0.trans (b3.mono hB0.size); clear b3)
      | fail)
  all_goals
    go_wp2
    go_ret
    exact ⟨rfl, HB.out.trans ((HB2.out.trans (b3'.mono HB2.out.size)).mono HB.out.size)⟩
set_option maxHeartbeats 3200000 in
set_option maxRecDepth 100000 in
theorem does_2 {w : World} {t : Nat} {p : Value} (h : BothNo w t p) (on n m mask : Int) (r : List Int) (hr : r.length = 24) : Calls Try.prog 4 #[.pointer (some ⟨t, 0, none⟩), .agg (opL on 2 n m mask r).toArray] w fun e w' => e = .returned (.bool true) ∧ Below w.heap.size w w' := by
  have O := Lib.hid (opAt_new w on 2 n m mask r)
  have HB := Lib.hid (belowA (w := w) (.cells (opL on 2 n m mask r).toArray 28))
  have HN := Lib.hid (h.below HB.out)
  have hur := Try.underlying26
  have hir : (Try.prog.info? 26).map (·.size) = some (List.map cellI r).length := by rw [List.length_map, hr]; exact infoRow
  clear h
  go_enter Try.func4, Try.ntmps4
  go_upto_region 1 with fail
  generalize w.alloc (.cells (opL on 2 n m mask r).toArray 28) = W at O HB HN ⊢
  have hc1 := O.out.c1
  go_upto_region 7 with fail
  clear hc1
  refine wp_region_noPanic ?_
  refine wp_region_held (S := fun u => Below W.heap.size W u) (by kernel_rfl) ?_
  refine regD2 (w5 := W) (S := fun u => Below W.heap.size W u) (t := t) (B := w.heap.size) (p := p) (r := r) rfl rfl rfl rfl rfl rfl rfl rfl rfl rfl rfl rfl rfl rfl rfl rfl (by kernel_rfl) (by kernel_rfl) (by kernel_rfl) (by kernel_rfl) (by kernel_rfl) (fun _ _ _ _ _ h => h) (by simp) rfl rfl (Below.refl _ _).drew (fun u u' h b => h.trans (b.mono h.size)) (fun u hu => run_loadRel (HN.out.below hu).c0) (fun u hu => run_loadRef (HN.out.below hu).c1) (fun u hu => (O.out.below hu).loadRow hr) (fun u hu => has_no (HN.out.below hu).no r) (fun u hu => rhas_nil r hr u) ?_
  intro wf hS
  have HBW := Lib.hid (HB.out.trans (hS.mono HB.out.size))
  clear hS HB HN O
  refine NoPanic.normal ?_
  rename_i hK
  refine hK _ _ ?_
  simp (config := { maxSteps := 8000000 }) only [Act.put, List.setIfInBounds_toArray, List.set_cons_succ, List.set_cons_zero]
  go_wp2
  go_ret
  exact ⟨rfl, HBW.out⟩
set_option maxHeartbeats 3200000 in
set_option maxRecDepth 100000 in
theorem does_4 {w : World} {t : Nat} {p : Value} (h : BothNo w t p) (on n m mask : Int) (r : List Int) (hr : r.length = 24) : Calls Try.prog 4 #[.pointer (some ⟨t, 0, none⟩), .agg (opL on 4 n m mask r).toArray] w fun e w' => e = .returned (.bool true) ∧ Below w.heap.size w w' := by
  have O := Lib.hid (opAt_new w on 4 n m mask r)
  have HB := Lib.hid (belowA (w := w) (.cells (opL on 4 n m mask r).toArray 28))
  have HN := Lib.hid (h.below HB.out)
  have hur := Try.underlying26
  have hir : (Try.prog.info? 26).map (·.size) = some (List.map cellI r).length := by rw [List.length_map, hr]; exact infoRow
  clear h
  go_enter Try.func4, Try.ntmps4
  go_upto_region 1 with fail
  generalize w.alloc (.cells (opL on 4 n m mask r).toArray 28) = W at O HB HN ⊢
  have hc1 := O.out.c1
  go_upto_region 13 with fail
  clear hc1
  refine wp_region_noPanic ?_
  refine wp_region_held (S := fun u => Below W.heap.size W u) (by kernel_rfl) ?_
  refine regD4 (w5 := W) (S := fun u => Below W.heap.size W u) (t := t) (B := w.heap.size) (p := p) (r := r) rfl rfl rfl rfl rfl rfl rfl rfl rfl rfl rfl rfl rfl rfl rfl rfl (by kernel_rfl) (by kernel_rfl) (by kernel_rfl) (by kernel_rfl) (by kernel_rfl) (fun _ _ _ _ _ h => h) (by simp) rfl rfl (Below.refl _ _).drew (fun u u' h b => h.trans (b.mono h.size)) (fun u hu => run_loadRel (HN.out.below hu).c0) (fun u hu => run_loadRef (HN.out.below hu).c1) (fun u hu => (O.out.below hu).loadRow hr) (fun u hu => remove_no (HN.out.below hu).no r) (fun u hu => rremove_nil r hr u) ?_
  intro wf hS
  have HBW := Lib.hid (HB.out.trans (hS.mono HB.out.size))
  clear hS HB HN O
  refine NoPanic.normal ?_
  rename_i hK
  refine hK _ _ ?_
  simp (config := { maxSteps := 8000000 }) only [Act.put, List.setIfInBounds_toArray, List.set_cons_succ, List.set_cons_zero]
  go_wp2
  go_ret
  exact ⟨rfl, HBW.out⟩
set_option maxHeartbeats 3200000 in
set_option maxRecDepth 100000 in
theorem does_5 {w : World} {t : Nat} {p : Value} (h : BothNo w t p) (on n m mask : Int) (r : List Int) (hr : r.length = 24) : Calls Try.prog 4 #[.pointer (some ⟨t, 0, none⟩), .agg (opL on 5 n m mask r).toArray] w fun e w' => e = .returned (.bool true) ∧ Below w.heap.size w w' := by
  have O := Lib.hid (opAt_new w on 5 n m mask r)
  have HB := Lib.hid (belowA (w := w) (.cells (opL on 5 n m mask r).toArray 28))
  have HN := Lib.hid (h.below HB.out)
  have hur := Try.underlying26
  have hir : (Try.prog.info? 26).map (·.size) = some (List.map cellI r).length := by rw [List.length_map, hr]; exact infoRow
  clear h
  go_enter Try.func4, Try.ntmps4
  go_upto_region 1 with fail
  generalize w.alloc (.cells (opL on 5 n m mask r).toArray 28) = W at O HB HN ⊢
  have hc1 := O.out.c1
  go_upto_region 15 with fail
  clear hc1
  refine wp_region_noPanic ?_
  refine wp_region_held (S := fun u => Below W.heap.size W u) (by kernel_rfl) ?_
  refine regD5 (w5 := W) (S := fun u => Below W.heap.size W u) (t := t) (B := w.heap.size) (p := p) (r := r) rfl rfl rfl rfl rfl rfl rfl rfl rfl rfl rfl rfl rfl rfl rfl rfl rfl rfl rfl rfl (by kernel_rfl) (by kernel_rfl) (by kernel_rfl) (by kernel_rfl) (by kernel_rfl) (by kernel_rfl) (fun _ _ _ _ _ h => h) (by simp) rfl rfl (Below.refl _ _).drew (fun u u' h b => h.trans (b.mono h.size)) (fun u hu => run_loadRel (HN.out.below hu).c0) (fun u hu => run_loadRef (HN.out.below hu).c1) (fun u hu => (O.out.below hu).loadRow hr) (fun u hu => run_loadMask (O.out.below hu).c4) (fun u hu => select_no (HN.out.below hu).no mask r hr) (fun u hu => rselect_nil mask r u) ?_
  intro wf hS
  have HBW := Lib.hid (HB.out.trans (hS.mono HB.out.size))
  clear hS HB HN O
  refine NoPanic.normal ?_
  rename_i hK
  refine hK _ _ ?_
  simp (config := { maxSteps := 8000000 }) only [Act.put, List.setIfInBounds_toArray, List.set_cons_succ, List.set_cons_zero]
  go_wp2
  go_ret
  exact ⟨rfl, HBW.out⟩
end Go.Proofs.Ytihngojkcacgdaa
