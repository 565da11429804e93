import Derived.Test.YtoppgalbmijhdaaDoorName
namespace Go.Proofs.YtoppgalbmijhdaaDoor
open Go.RowKit
set_option linter.unusedVariables false
attribute [local go_sem ↓] Go.wp_at_zero Go.wp_at_succ

/-- a word: its first byte from lo to hi, letters, digits and _ behind it, at most 120 bytes -/
def wordB (lo hi : Int) (s : ByteArray) : Bool := decide (s.size ≠ 0) && decide (s.size ≤ 120) && decide (lo ≤ byteAt s 0 ∧ byteAt s 0 ≤ hi) && lettersB s s.size
def varB (s : ByteArray) : Bool := wordB 65 90 s
theorem nameB_word (s : ByteArray) : nameB s = (wordB 97 122 s && !kwB s) := by
  unfold nameB wordB smallB
  cases decide (s.size ≠ 0) <;> cases decide (s.size ≤ 120) <;> cases decide (97 ≤ byteAt s 0 ∧ byteAt s 0 ≤ 122) <;> cases kwB s <;> cases lettersB s s.size <;> rfl

end Go.Proofs.YtoppgalbmijhdaaDoor
