import Derived.Test.YtlnhnpfgmiffpaaG2
import Derived.Test.YtlnhnpfgmiffpaaG3
import Derived.Test.YtlnhnpfgmiffpaaG5
namespace Go.Proofs.Ytlnhnpfgmiffpaa
open Go.RowKit Go.Maps
set_option linter.unusedVariables false
set_option linter.unusedSimpArgs false
attribute [local go_sem ↓] Go.wp_at_zero Go.wp_at_succ

attribute [-go_sem] loadVar
def rowA : List Int := [3, 1, 0, 0, 0, 0, 0, 0, 0, 0, 0, 0, 0, 0, 0, 0, 0, 0, 0, 0, 0, 0, 0, 0]
def rowB : List Int := [1, 2, 0, 0, 0, 0, 0, 0, 0, 0, 0, 0, 0, 0, 0, 0, 0, 0, 0, 0, 0, 0, 0, 0]
theorem rowA_ok : RowOk rowA := ⟨by decide, by decide⟩
theorem rowB_ok : RowOk rowB := ⟨by decide, by decide⟩
theorem fitA : fitB rowA 2 = true := by decide
theorem fitBB : fitB rowB 2 = true := by decide
set_option maxHeartbeats 3200000 in
set_option maxRecDepth 100000 in
theorem lives10_true (w : World) : Calls Try.prog 12 #[] w fun e w' => e = .returned (.bool true) ∧ Below w.heap.size w w' := by
  have HN := Lib.hid (new_any 2 (by omega) (by omega) w)
  go_enter Try.func12, Try.ntmps12
  go_wp2_with fail
  refine HN.out.mono ?_
  rintro e w1 ⟨t, m, rfl, hR1, b1⟩
  have HB1 := Lib.hid b1
  have HR1 := Lib.hid hR1
  have HA1 := Lib.hid (add_any hR1 b1.size (by simp) rowA rowA_ok)
  clear hR1 b1 HN
  go_wp2_with fail
  refine HA1.out.mono ?_
  rintro e w2 (⟨hf, -⟩ | ⟨-, hf, -⟩ | ⟨-, -, rfl, b2, sv2, hR2⟩)
  · exact absurd (hf.symm.trans fitA) (by decide)
  · cases hf
  have HB2 := Lib.hid (HB1.out.trans b2)
  have HR2 := Lib.hid hR2
  have HA2 := Lib.hid (add_any hR2 HB2.out.size (by simp) rowB rowB_ok)
  clear hR2 b2 HA1 HR1 HB1
  go_wp2_with fail
  refine HA2.out.mono ?_
  rintro e w3 (⟨hf, -⟩ | ⟨-, hf, -⟩ | ⟨-, -, rfl, b3, sv3, hR3⟩)
  · exact absurd (hf.symm.trans fitBB) (by decide)
  · exact absurd hf (by decide)
  have HB3 := Lib.hid (HB2.out.trans b3)
  have HR3 := Lib.hid hR3
  have HA3 := Lib.hid (at_any hR3 1 rowB rfl (by simp))
  clear hR3 b3 HA2 HR2 HB2
  go_wp2_with fail
  refine HA3.out.mono ?_
  rintro e w4 ⟨rfl, b4⟩
  have HB4 := Lib.hid (HB3.out.trans (b4.mono HB3.out.size))
  have HR4 := Lib.hid (HR3.out.keep b4)
  clear HA3 HR3 HB3 b4
  have hst : (storeCells ⟨w4.heap.size, 0, none⟩ (List.map cellI rowB)).run Try.prog (w4.alloc (.cells #[.int .i32 0, .int .i32 0, .int .i32 0, .int .i32 0, .int .i32 0, .int .i32 0, .int .i32 0, .int .i32 0, .int .i32 0, .int .i32 0, .int .i32 0, .int .i32 0, .int .i32 0, .int .i32 0, .int .i32 0, .int .i32 0, .int .i32 0, .int .i32 0, .int .i32 0, .int .i32 0, .int .i32 0, .int .i32 0, .int .i32 0, .int .i32 0] 40)) = .ok () (w4.alloc (.cells (rowC rowB) 40)) := run_storeCells_new w4 40 #[.int .i32 0, .int .i32 0, .int .i32 0, .int .i32 0, .int .i32 0, .int .i32 0, .int .i32 0, .int .i32 0, .int .i32 0, .int .i32 0, .int .i32 0, .int .i32 0, .int .i32 0, .int .i32 0, .int .i32 0, .int .i32 0, .int .i32 0, .int .i32 0, .int .i32 0, .int .i32 0, .int .i32 0, .int .i32 0, .int .i32 0, .int .i32 0] (List.map cellI rowB).toArray (by rw [show (List.map cellI rowB).toArray.size = 24 by decide]; exact infoRow) (by decide) (by kernel_rfl)
  have hA := (Below.refl w4.heap.size w4).alloc (Nat.le_refl _) (.cells (rowC rowB) 40)
  have HR5 := Lib.hid (HR4.out.keep hA)
  have HB5 := Lib.hid (HB4.out.trans (hA.mono HB4.out.size))
  have HRA := Lib.hid (rowAt_new w4 rowB)
  clear hA HR4 HB4
  unfold rowV
  go_upto_region 7 with fail
  generalize w4.alloc (.cells (rowC rowB) 40) = W5 at HR5 HB5 HRA hst ⊢
  clear hst
  have l5 := run_loadRow HRA.out rowB_ok.len
  unfold rowV at l5
  have heq : ∀ u, (binOp .eql 40 (.agg (List.map cellI rowB).toArray) (.agg #[.int .i32 1, .int .i32 2, .int .i32 0, .int .i32 0, .int .i32 0, .int .i32 0, .int .i32 0, .int .i32 0, .int .i32 0, .int .i32 0, .int .i32 0, .int .i32 0, .int .i32 0, .int .i32 0, .int .i32 0, .int .i32 0, .int .i32 0, .int .i32 0, .int .i32 0, .int .i32 0, .int .i32 0, .int .i32 0, .int .i32 0, .int .i32 0])).run Try.prog u = .ok (.bool true) u := fun u => by
    kernel_rfl
  have HLn := Lib.hid (len_yes HR5.out)
  have HAr := Lib.hid (arity_yes HR5.out)
  have HHs := Lib.hid (hasR_any HR5.out rowA rowA_ok true (by simp))
  clear HRA HR5
  go_wp2_with fail
  refine HLn.out.mono ?_
  rintro e w6 ⟨rfl, rfl⟩
  go_wp2_with fail
  refine HAr.out.mono ?_
  rintro e w7 ⟨rfl, rfl⟩
  go_wp2_with fail
  refine HHs.out.mono ?_
  rintro e w8 ⟨rfl, b8⟩
  have HB8 := Lib.hid (HB5.out.trans (b8.mono HB5.out.size))
  clear b8 HHs HAr HLn
  go_wp2
  go_ret
  exact ⟨rfl, HB8.out⟩
end Go.Proofs.Ytlnhnpfgmiffpaa
