import Derived.Test.YtkgoceomkkohmaaDoorArArithW
import Derived.Test.YtkgoceomkkohmaaDoorRingMath
namespace Go.Proofs.YtkgoceomkkohmaaDoor.AR
open Go.RowKit Go.Maps
set_option linter.unusedVariables false
set_option linter.unusedSimpArgs false
attribute [local go_sem ↓] Go.wp_at_zero Go.wp_at_succ

/-! the reference's Arith -/
theorem back_size (s : ByteArray) (k : Nat) : (⟨(backL s k).toArray⟩ : ByteArray).size = (backL s k).length := by
  show (backL s k).toArray.size = _
  simp
end Go.Proofs.YtkgoceomkkohmaaDoor.AR
