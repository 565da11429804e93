import Derived.Test.YtknoffjfhnljcaaDoorTreeBeyond
import Derived.Test.YtknoffjfhnljcaaDoorValueShow2
import Derived.Deep.MidRow
namespace Go.Proofs.YtknoffjfhnljcaaDoor
open Go.RowKit Go.Maps
set_option linter.unusedVariables false
set_option linter.unusedSimpArgs false
attribute [local go_sem ↓] Go.wp_at_zero Go.wp_at_succ

abbrev PWt (w : World) : Prop := Lib.TabIs Tryd.prog w "internal/strconv.uint64pow10" .u64 Lib.pow10Tab
theorem mark_itoa : (⟨#[35]⟩ : ByteArray) ++ ⟨(Lib.itoa 777777).toArray⟩ = markW := by decide +kernel
set_option maxHeartbeats 800000 in
theorem word_any (w : World) (hp : PWt w) : Calls Tryd.prog 22 #[.int .i64 777777] w fun e w' => e = .returned (.string markW) ∧ Below w.heap.size w w' := by
  have hm := mark_itoa
  have hsz : (⟨(Lib.itoa 777777).toArray⟩ : ByteArray).size ≤ 20 := by decide +kernel
  go_enter Tryd.func22, Tryd.ntmps22
  go_wp2_with fail
  refine (Tryd.strconv_Itoa 777777 (by omega) (by omega) _ hp).mono ?_
  rintro e w1 ⟨rfl, k, os, rfl⟩
  have hb := Lib.below_grow w.heap.size w (Nat.le_refl _) k os
  generalize Go.Sort.grow (w.drewN k) os = w1 at hb ⊢
  generalize (⟨(Lib.itoa 777777).toArray⟩ : ByteArray) = S at hm hsz ⊢
  go_wp2
  go_ret
  exact ⟨by first | rfl | (rw [← hm]; rfl), hb⟩
end Go.Proofs.YtknoffjfhnljcaaDoor
