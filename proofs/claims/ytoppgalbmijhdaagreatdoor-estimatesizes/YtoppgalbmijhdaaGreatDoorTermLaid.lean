import Derived.Test.YtoppgalbmijhdaaGreatDoorRows
import Derived.Test.YtoppgalbmijhdaaGreatDoorSoWord
import Derived.OpenShut
import Derived.Lib.LaidTab
import Derived.Stop.LaidErr
namespace Go.Proofs.YtoppgalbmijhdaaGreatDoor
open Go.RowKit
set_option linter.unusedVariables false
set_option linter.unusedSimpArgs false

/-- the table of powers, off a card's list of three tables -/
abbrev laidW : List (String × DataW Unit) := [("math/bits.deBruijn32tab", Rows.laid_math_bits_deBruijn32tab), ("math/bits.deBruijn64tab", Rows.laid_math_bits_deBruijn64tab), ("internal/strconv.uint64pow10", Rows.laid_internal_strconv_uint64pow10)]
theorem pw_of_laid {W : World} (h : laidMetH Tryz.prog laidW W) : PWt W := by
  have h0 : laidMet Tryz.prog laidW W := h
  have h2 := h0.tail.tail
  unfold PWt
  rw [show Lib.pow10Tab = [1, 10, 100, 1000, 10000, 100000, 1000000, 10000000, 100000000, 1000000000, 10000000000, 100000000000, 1000000000000, 10000000000000, 100000000000000, 1000000000000000, 10000000000000000, 100000000000000000, 1000000000000000000, 10000000000000000000] by decide]
  exact Lib.tabIs_of_head (g := 0) (by kernel_rfl) (by kernel_rfl) Tryz.underlying123 Tryz.underlying97 (by kernel_rfl) (by kernel_rfl) h2
end Go.Proofs.YtoppgalbmijhdaaGreatDoor
