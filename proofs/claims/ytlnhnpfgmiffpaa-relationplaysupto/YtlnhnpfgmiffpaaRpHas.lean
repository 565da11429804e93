import Derived.Test.YtlnhnpfgmiffpaaRpReg2
namespace Go.Proofs.Ytlnhnpfgmiffpaa
open Go.RowKit Go.Maps Go.Shelf
set_option linter.unusedVariables false
set_option linter.unusedSimpArgs false
attribute [local go_sem ↓] Go.wp_at_zero Go.wp_at_succ
section
variable {w : World} {b o : Nat} {pT pR : Value} {rows : List (List Int)} {na : Nat} {gn : Int} {E : Nat → Prop}
/-- Has of both sides tells the same -/
theorem pa_has (h : Pa w pT pR rows na gn E) (hlen : rows.length ≤ 100000000) (x : List Int) (hx : RowOk x) : ∃ hv : Bool,
    (∀ u, Below w.heap.size w u → Calls Try.prog 18 #[pT, rowV x] u fun e u' => e = .returned (.bool hv) ∧ Below u.heap.size u u') ∧
    ∀ u, Below w.heap.size w u → Calls Try.prog 19 #[pR, rowV x] u fun e u' => e = .returned (.bool hv) ∧ Below u.heap.size u u' := by
  cases h with
  | nil => exact ⟨false, fun u hu => has_no .nil x, fun u hu => rhas_nil x hx.len u⟩
  | live rel rf na ap => exact ⟨decide (x ∈ rows), fun u hu => hasR_any (rel.keep hu) x hx _ (by simp), fun u hu => rhas_any (rf.keep hu) (by omega) x hx _ (by simp)⟩
set_option maxHeartbeats 3200000 in
set_option maxRecDepth 100000 in
theorem does_2 (h : Bx w b o pT pR rows na gn E) (hlen : rows.length ≤ 100000000) (on n m mask : Int) (r : List Int) (hr : RowOk r) : Calls Try.prog 8 #[.pointer (some ⟨b, o, none⟩), .agg (opL on 2 n m mask r).toArray] w fun e w' => e = .returned (.bool true) ∧ Below w.heap.size w w' := by
  have O := Lib.hid (opAt_new w on 2 n m mask r)
  have HB := Lib.hid (belowA (w := w) (.cells (opL on 2 n m mask r).toArray 42))
  have HN := Lib.hid (h.keep HB.out)
  obtain ⟨hv, k1, k2⟩ := pa_has HN.out.pa hlen r hr
  have HK1 := Lib.hid k1
  have HK2 := Lib.hid k2
  have hr24 := hr.len
  clear h k1 k2 hr hlen
  go_enter Try.func8, Try.ntmps8
  go_upto_region 1 with fail
  generalize w.alloc (.cells (opL on 2 n m mask r).toArray 42) = W at O HB HN HK1 HK2 ⊢
  have hc1 := O.out.c1
  go_upto_region 7 with fail
  clear hc1
  refine wp_region_noPanic ?_
  refine wp_region_held (S := fun u => Below W.heap.size W u) (by kernel_rfl) ?_
  refine regD2 (w5 := W) (S := fun u => Below W.heap.size W u) (t := b) (oo := o) (B := w.heap.size) (p := pT) (pR := pR) (hv := hv) (r := r) rfl rfl rfl rfl rfl rfl rfl rfl rfl rfl rfl rfl rfl rfl rfl rfl (by kernel_rfl) (by kernel_rfl) (by kernel_rfl) (by kernel_rfl) (by kernel_rfl) (fun _ _ _ _ _ h => h) (by simp) rfl rfl (Below.refl _ _).drew (fun u u' h b => h.trans (b.mono h.size)) (fun u hu => run_loadRel (HN.out.keep hu).cT) (fun u hu => run_loadRef (HN.out.keep hu).cR) (fun u hu => (O.out.below hu).loadRow hr24) (fun u hu => HK1.out u hu) (fun u hu => HK2.out u hu) ?_
  intro wf hS
  have HBW := Lib.hid (HB.out.trans (hS.mono HB.out.size))
  clear hS HB HN O HK1 HK2
  refine NoPanic.normal ?_
  rename_i hK
  refine hK _ _ ?_
  simp (config := { maxSteps := 8000000 }) only [Act.put, List.setIfInBounds_toArray, List.set_cons_succ, List.set_cons_zero]
  go_wp2
  go_ret
  exact ⟨rfl, HBW.out⟩
set_option maxHeartbeats 3200000 in
set_option maxRecDepth 100000 in
theorem does_4n (hb : b < w.heap.size) (hT : w.cell? ⟨b, o, none⟩ = some (.pointer none)) (hR : w.cell? ⟨b, o + 1, none⟩ = some (.pointer none)) (on n m mask : Int) (r : List Int) (hr : r.length = 24) : Calls Try.prog 8 #[.pointer (some ⟨b, o, none⟩), .agg (opL on 4 n m mask r).toArray] w fun e w' => e = .returned (.bool true) ∧ Below w.heap.size w w' := by
  have h : Bx w b o (.pointer none) (.pointer none) [] 0 0 (fun _ => False) := ⟨hb, hT, hR, .nil⟩
  have O := Lib.hid (opAt_new w on 4 n m mask r)
  have HB := Lib.hid (belowA (w := w) (.cells (opL on 4 n m mask r).toArray 42))
  have HN := Lib.hid (h.keep HB.out)
  clear h hb hT hR
  go_enter Try.func8, Try.ntmps8
  go_upto_region 1 with fail
  generalize w.alloc (.cells (opL on 4 n m mask r).toArray 42) = W at O HB HN ⊢
  have hc1 := O.out.c1
  go_upto_region 13 with fail
  clear hc1
  refine wp_region_noPanic ?_
  refine wp_region_held (S := fun u => Below W.heap.size W u) (by kernel_rfl) ?_
  refine regD4 (w5 := W) (S := fun u => Below W.heap.size W u) (t := b) (oo := o) (B := w.heap.size) (p := .pointer none) (pR := .pointer none) (r := r) rfl rfl rfl rfl rfl rfl rfl rfl rfl rfl rfl rfl rfl rfl rfl rfl (by kernel_rfl) (by kernel_rfl) (by kernel_rfl) (by kernel_rfl) (by kernel_rfl) (fun _ _ _ _ _ h => h) (by simp) rfl rfl (Below.refl _ _).drew (fun u u' h b => h.trans (b.mono h.size)) (fun u hu => run_loadRel (HN.out.keep hu).cT) (fun u hu => run_loadRef (HN.out.keep hu).cR) (fun u hu => (O.out.below hu).loadRow hr) (fun u hu => remove_no .nil r) (fun u hu => rremove_nil r hr u) ?_
  intro wf hS
  have HBW := Lib.hid (HB.out.trans (hS.mono HB.out.size))
  clear hS HB HN O
  refine NoPanic.normal ?_
  rename_i hK
  refine hK _ _ ?_
  simp (config := { maxSteps := 8000000 }) only [Act.put, List.setIfInBounds_toArray, List.set_cons_succ, List.set_cons_zero]
  go_wp2
  go_ret
  exact ⟨rfl, HBW.out⟩
set_option maxHeartbeats 3200000 in
set_option maxRecDepth 100000 in
theorem does_5 (h : Bx w b o pT pR rows na gn E) (hlen : rows.length ≤ 100000000) (on nn mm : Int) (M : Nat) (hM : M < 4294967296) (r : List Int) (hr : RowOk r) :
    Calls Try.prog 8 #[.pointer (some ⟨b, o, none⟩), .agg (opL on 5 nn mm (M : Int) r).toArray] w fun e w' => e = .returned (.bool true) ∧ Below w.heap.size w w' := by
  have O := Lib.hid (opAt_new w on 5 nn mm (M : Int) r)
  have HB := Lib.hid (belowA (w := w) (.cells (opL on 5 nn mm (M : Int) r).toArray 42))
  have HN := Lib.hid (h.keep HB.out)
  obtain ⟨L, hLl, hsT, hsR⟩ := pa_select HN.out.pa hlen M hM r hr
  have HST := Lib.hid hsT
  have HSR := Lib.hid hsR
  have hr24 := hr.len
  have HLL : Hid (L.length ≤ 1000000000) := by show _ ≤ _; omega
  clear h hlen hsT hsR hM hr hLl
  unfold rowV at HST HSR
  generalize (M : Int) = mask at O HB HN HST HSR ⊢
  go_enter Try.func8, Try.ntmps8
  go_upto_region 1 with fail
  generalize w.alloc (.cells (opL on 5 nn mm mask r).toArray 42) = W at O HB HN HST HSR ⊢
  have hc1 := O.out.c1
  go_upto_region 15 with fail
  clear hc1
  refine wp_region_noPanic ?_
  refine wp_region_held (S := fun u => Below W.heap.size W u) (by kernel_rfl) ?_
  refine regD5 (w5 := W) (S := fun u => Below W.heap.size W u) (t := b) (oo := o) (B := w.heap.size) (p := pT) (pR := pR) (L := L) (r := r) (mask := mask) rfl rfl rfl rfl rfl rfl rfl rfl rfl rfl rfl rfl rfl rfl rfl rfl rfl rfl rfl rfl (by kernel_rfl) (by kernel_rfl) (by kernel_rfl) (by kernel_rfl) (by kernel_rfl) (by kernel_rfl) (fun _ _ _ _ _ h => h) (by simp) rfl rfl (Below.refl _ _).drew (fun u u' h b => h.trans (b.mono h.size)) (fun u hu => run_loadRel (HN.out.keep hu).cT) (fun u hu => run_loadRef (HN.out.keep hu).cR) (fun u hu => (O.out.below hu).loadRow hr24) (fun u hu => run_loadMask (O.out.below hu).c4) (fun u hu => HST.out u hu) (fun u hu => HSR.out u hu) HLL.out ?_
  intro wf v1 v2 hS
  have HBW := Lib.hid (HB.out.trans (hS.mono HB.out.size))
  clear hS HB HN O HST HSR
  refine NoPanic.normal ?_
  rename_i hK
  refine hK _ _ ?_
  simp (config := { maxSteps := 8000000 }) only [Act.put, List.setIfInBounds_toArray, List.set_cons_succ, List.set_cons_zero]
  go_wp2
  go_ret
  exact ⟨rfl, HBW.out⟩
set_option maxHeartbeats 3200000 in
set_option maxRecDepth 100000 in
theorem does_1n (hb : b < w.heap.size) (hT : w.cell? ⟨b, o, none⟩ = some (.pointer none)) (hR : w.cell? ⟨b, o + 1, none⟩ = some (.pointer none)) (on n m mask : Int) (r : List Int) (hr : r.length = 24) : Calls Try.prog 8 #[.pointer (some ⟨b, o, none⟩), .agg (opL on 1 n m mask r).toArray] w fun e w' => e = .returned (.bool true) ∧ Below w.heap.size w w' := by
  have h : Bx w b o (.pointer none) (.pointer none) [] 0 0 (fun _ => False) := ⟨hb, hT, hR, .nil⟩
  have O := Lib.hid (opAt_new w on 1 n m mask r)
  have HB := Lib.hid (belowA (w := w) (.cells (opL on 1 n m mask r).toArray 42))
  have HN := Lib.hid (h.keep HB.out)
  have hur := Try.underlying40
  have hir : (Try.prog.info? 40).map (·.size) = some (List.map cellI r).length := by rw [List.length_map, hr]; exact infoRow
  clear h hb hT hR
  go_enter Try.func8, Try.ntmps8
  go_upto_region 1 with fail
  generalize w.alloc (.cells (opL on 1 n m mask r).toArray 42) = W at O HB HN ⊢
  have hc1 := O.out.c1
  go_upto_region 3 with fail
  clear hc1
  have hB0 : Below W.heap.size W W.drew := (Below.refl _ _).drew
  have HS : Hid (∀ u, Below W.heap.size W u → Below W.heap.size W u ∧ u.cell? ⟨b, o, none⟩ = some (.pointer none) ∧ u.rangeAt w.heap.size 5 (List.map cellI r)) := fun u hu => ⟨hu, (HN.out.keep hu).cT, (O.out.below hu).row⟩
  have HS2 : Hid (∀ u, Below W.heap.size W u → Below W.heap.size W u ∧ u.cell? ⟨b, o + 1, none⟩ = some (.pointer none) ∧ u.rangeAt w.heap.size 5 (List.map cellI r)) := fun u hu => ⟨hu, (HN.out.keep hu).cR, (O.out.below hu).row⟩
  go_region_held3 (fun u => Below W.heap.size W u ∧ u.cell? ⟨b, o, none⟩ = some (.pointer none) ∧ u.rangeAt w.heap.size 5 (List.map cellI r))
    (first | assumption | exact HS.out _ hB0 | exact HS.out _ (by assumption))
    (first
      | (go_at_call 16; refine (add_no .nil r).mono ?_; rintro ee w2 ⟨rfl, b2⟩; have b2' : Below W.heap.size W w2 := hB0.trans (b2.mono hB0.size); clear b2)
      | fail)
  simp only [Exit.then]
  go_at_K
  clear hB0 HS
  have HB2 := Lib.hid b2'
  have HS3 : Hid (∀ u, Below w2.heap.size w2 u → Below w2.heap.size w2 u ∧ u.cell? ⟨b, o + 1, none⟩ = some (.pointer none) ∧ u.rangeAt w.heap.size 5 (List.map cellI r)) := fun u hu => ⟨hu, (HS2.out u (HB2.out.trans (hu.mono HB2.out.size))).2⟩
  clear b2' HS2
  go_upto_region 4 with fail
  have hB0 : Below w2.heap.size w2 w2.drew := (Below.refl _ _).drew
  go_region_held3 (fun u => Below w2.heap.size w2 u ∧ u.cell? ⟨b, o + 1, none⟩ = some (.pointer none) ∧ u.rangeAt w.heap.size 5 (List.map cellI r))
    (first | assumption | exact HS3.out _ hB0 | exact HS3.out _ (by assumption))
    (first
      | (go_at_call 17; refine (radd_nil r _).mono ?_; rintro ee w3 ⟨rfl, b3⟩; have b3' : Below w2.heap.size w2 w3 := hB0.trans (b3.mono hB0.size); clear b3)
      | fail)
  all_goals
    go_wp2
    go_ret
    exact ⟨rfl, HB.out.trans ((HB2.out.trans (b3'.mono HB2.out.size)).mono HB.out.size)⟩
end
end Go.Proofs.Ytlnhnpfgmiffpaa
