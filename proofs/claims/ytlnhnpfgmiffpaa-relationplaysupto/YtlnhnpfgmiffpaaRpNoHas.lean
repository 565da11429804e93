import Derived.Test.YtlnhnpfgmiffpaaRpNoReg
namespace Go.Proofs.Ytlnhnpfgmiffpaa
open Go.RowKit Go.Maps
set_option linter.unusedVariables false
set_option linter.unusedSimpArgs false
attribute [local go_sem ↓] Go.wp_at_zero Go.wp_at_succ

attribute [-go_sem] loadVar
set_option maxHeartbeats 1600000 in
set_option maxRecDepth 100000 in
theorem has_no {w : World} {p : Value} (h : NoRel w p) (r : List Int) : Calls Try.prog 18 #[p, rowV r] w fun e w' => e = .returned (.bool false) ∧ Below w.heap.size w w' := by
  have hb := (Below.refl w.heap.size w).alloc (Nat.le_refl _) (.cells (rowC r) 40)
  have HB := Lib.hid hb
  have HS := Lib.hid (fun u (hu : Below (w.alloc (.cells (rowC r) 40)).heap.size (w.alloc (.cells (rowC r) 40)) u) => there_no ((h.below hb).below hu))
  clear h hb
  unfold rowV
  go_enter Try.func18, Try.ntmps18
  go_upto_region 1 with fail
  generalize w.alloc (.cells (rowC r) 40) = W at HB HS ⊢
  refine wp_region_noPanic ?_
  refine wp_region_held (S := fun u => Below W.heap.size W u) (by kernel_rfl) ?_
  refine regHas (w5 := W) (S := fun u => Below W.heap.size W u) (pv := p) rfl rfl rfl rfl rfl rfl rfl rfl rfl rfl (by kernel_rfl) (by kernel_rfl) (by kernel_rfl) (by kernel_rfl) (fun _ _ _ _ _ h => h) (by simp) rfl (Below.refl _ _).drew (fun u hu => HS.out u hu) ?_
  intro wf hS
  have HBW := Lib.hid (HB.out.trans (hS.mono HB.out.size))
  clear hS HS HB
  refine NoPanic.normal ?_
  rename_i hK
  refine hK _ _ ?_
  simp (config := { maxSteps := 8000000 }) only [Act.put, List.setIfInBounds_toArray, List.set_cons_succ, List.set_cons_zero]
  go_wp2
  go_ret
  exact ⟨rfl, HBW.out⟩
set_option maxHeartbeats 1600000 in
set_option maxRecDepth 100000 in
theorem remove_no {w : World} {p : Value} (h : NoRel w p) (r : List Int) : Calls Try.prog 22 #[p, rowV r] w fun e w' => e = .returned (.bool false) ∧ Below w.heap.size w w' := by
  have hb := (Below.refl w.heap.size w).alloc (Nat.le_refl _) (.cells (rowC r) 40)
  have HB := Lib.hid hb
  have HS := Lib.hid (fun u (hu : Below (w.alloc (.cells (rowC r) 40)).heap.size (w.alloc (.cells (rowC r) 40)) u) => there_no ((h.below hb).below hu))
  clear h hb
  unfold rowV
  go_enter Try.func22, Try.ntmps22
  go_upto_region 1 with fail
  generalize w.alloc (.cells (rowC r) 40) = W at HB HS ⊢
  refine wp_region_noPanic ?_
  refine wp_region_held (S := fun u => Below W.heap.size W u) (by kernel_rfl) ?_
  refine regRem (w5 := W) (S := fun u => Below W.heap.size W u) (pv := p) rfl rfl rfl rfl rfl rfl rfl rfl rfl rfl rfl (by kernel_rfl) (by kernel_rfl) (by kernel_rfl) (by kernel_rfl) (fun _ _ _ _ _ h => h) (by simp) rfl (Below.refl _ _).drew (fun u hu => HS.out u hu) ?_
  intro wf hS
  have HBW := Lib.hid (HB.out.trans (hS.mono HB.out.size))
  clear hS HS HB
  refine NoPanic.normal ?_
  rename_i hK
  refine hK _ _ ?_
  simp (config := { maxSteps := 8000000 }) only [Act.put, List.setIfInBounds_toArray, List.set_cons_succ, List.set_cons_zero]
  go_wp2
  go_ret
  exact ⟨rfl, HBW.out⟩
end Go.Proofs.Ytlnhnpfgmiffpaa
