import Derived.Test.YtmadbakpdmkebaaDoorName
import Derived.Test.YtmadbakpdmkebaaDoorNums
import Derived.Test.YtmadbakpdmkebaaDoorOrder
namespace Go.Proofs.YtmadbakpdmkebaaDoor
open Go.RowKit
set_option linter.unusedVariables false
attribute [local go_sem ↓] Go.wp_at_zero Go.wp_at_succ

set_option maxHeartbeats 800000 in
theorem show_name (s : ByteArray) (w : World) (hs : s.size ≤ maxLen) (hc : chk 2 0 s = 0) (hn : nameB s = true) :
    Calls Tryd.prog 14 #[.agg #[.int .i8 2, .int .i64 0, .string s]] w fun e w' => e = .returned (.tuple #[.string s, .int .i64 0]) ∧ Below w.heap.size w w' := by
  go_enter Tryd.func14, Tryd.ntmps14
  go_wp2_with fail
  refine (vcheck_any _ _ _ _ hs).mono ?_
  rintro e w1 ⟨rfl, hb1⟩
  obtain ⟨hc1, hf1⟩ := bcell hb1
  go_wp2_with (go_at_call 29; refine (isName_any _ _ hs).mono ?_; rintro e w' ⟨rfl, rfl⟩)
  go_ret2
  exact ⟨rfl, ((Below.refl _ _).alloc (Nat.le_refl _) _).trans (hb1.mono (by simp))⟩

set_option maxHeartbeats 1600000 in
theorem ordered_true (xy yz xz : Int) (w : World) (h : O3 xy yz xz) :
    Calls Tryd.prog 6 #[.int .i64 xy, .int .i64 yz, .int .i64 xz, .int .i64 (-xy), .int .i64 (-yz), .int .i64 (-xz), .bool (xy == 0), .bool (yz == 0), .bool (xz == 0)] w fun e w' => e = .returned (.bool true) ∧ w' = w := by
  unfold O3 at h
  obtain rfl | rfl | rfl : xy = -1 ∨ xy = 0 ∨ xy = 1 := by omega
  all_goals
    obtain rfl | rfl | rfl : yz = -1 ∨ yz = 0 ∨ yz = 1 := by omega
    all_goals
      obtain rfl | rfl | rfl : xz = -1 ∨ xz = 0 ∨ xz = 1 := by omega
      all_goals first
        | (exfalso; omega)
        | (clear h
           go_enter Tryd.func6, Tryd.ntmps6
           go_wp2
           go_ret
           exact ⟨rfl, rfl⟩)

end Go.Proofs.YtmadbakpdmkebaaDoor
