import Derived.Test.YtoagnkbmeafmoaaGreatDoorName
import Derived.Test.YtoagnkbmeafmoaaGreatDoorNums
import Derived.Test.YtoagnkbmeafmoaaGreatDoorOrder
namespace Go.Proofs.YtoagnkbmeafmoaaGreatDoor.AR
open Go.RowKit
set_option linter.unusedVariables false
attribute [local go_sem ↓] Go.wp_at_zero Go.wp_at_succ

set_option maxHeartbeats 800000 in
theorem show_name (s : ByteArray) (w : World) (hs : s.size ≤ maxLen) (hc : chk 2 0 s = 0) (hn : nameB s = true) :
    Calls Tryz.prog 20 #[.agg #[.int .i8 2, .int .i64 0, .string s]] w fun e w' => e = .returned (.tuple #[.string s, .int .i64 0]) ∧ Below w.heap.size w w' := by
  go_enter Tryz.func20, Tryz.ntmps20
  go_wp2_with fail
  refine (vcheck_any _ _ _ _ hs).mono ?_
  rintro e w1 ⟨rfl, hb1⟩
  obtain ⟨hc1, hf1⟩ := bcell hb1
  go_wp2_with (go_at_call 82; refine (isName_any _ _ hs).mono ?_; rintro e w' ⟨rfl, rfl⟩)
  go_ret2
  exact ⟨rfl, ((Below.refl _ _).alloc (Nat.le_refl _) _).trans (hb1.mono (by simp))⟩

end Go.Proofs.YtoagnkbmeafmoaaGreatDoor.AR
