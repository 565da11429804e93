import Derived.Test.YtheihplldbccpaaGreatDoorRows
import Derived.Test.YtheihplldbccpaaGreatDoorG7
import Derived.OpenShut
import Derived.Lib.LaidTab
import Derived.Stop.LaidErr
namespace Go.Proofs.YtheihplldbccpaaGreatDoor
open Go.RowKit
set_option linter.unusedVariables false
set_option linter.unusedSimpArgs false

/-- the table of powers and the numbers of kids, off a card's list of four tables -/
abbrev laidX : List (String × DataW Unit) := [("math/bits.deBruijn32tab", Rows.laid_math_bits_deBruijn32tab), ("math/bits.deBruijn64tab", Rows.laid_math_bits_deBruijn64tab), ("internal/strconv.uint64pow10", Rows.laid_internal_strconv_uint64pow10), ("pedigree/term.kidCounts", Rows.laid_pedigree_term_kidCounts)]
theorem pwx_of_laid {W : World} (h : laidMetH Tryz.prog laidX W) : PWt W := by
  have h0 : laidMet Tryz.prog laidX W := h
  have h2 := h0.tail.tail
  unfold PWt
  rw [show Lib.pow10Tab = [1, 10, 100, 1000, 10000, 100000, 1000000, 10000000, 100000000, 1000000000, 10000000000, 100000000000, 1000000000000, 10000000000000, 100000000000000, 1000000000000000, 10000000000000000, 100000000000000000, 1000000000000000000, 10000000000000000000] by decide]
  exact Lib.tabIs_of_head (g := 1) (by kernel_rfl) (by kernel_rfl) Tryz.underlying158 Tryz.underlying151 (by kernel_rfl) (by kernel_rfl) h2
def kidTabX : List Int := [0, 1, 2, 2, 2, 2, 2, 2, 1, 1, 1]
theorem ktx_of_laid {W : World} (h : laidMetH Tryz.prog laidX W) : KT W := by
  have h0 : laidMet Tryz.prog laidX W := h
  have t : Lib.TabIs Tryz.prog W "pedigree/term.kidCounts" .i64 kidTabX :=
    Lib.tabIs_of_head (g := 0) (by kernel_rfl) (by kernel_rfl) Tryz.underlying144 Tryz.underlying3 (by kernel_rfl) (by kernel_rfl) h0.tail.tail.tail
  have hg : Tryz.prog.globalNamed "pedigree/term.kidCounts" = some 0 := by kernel_rfl
  refine ⟨World.block_lt_of_cell? _ _ (t.cell hg 0 (by decide)), fun i hi => ?_⟩
  rw [t.cell hg i (by show i < 11; exact hi)]
  match i, hi with
  | 0, _ => rfl
  | 1, _ => rfl
  | 2, _ => rfl
  | 3, _ => rfl
  | 4, _ => rfl
  | 5, _ => rfl
  | 6, _ => rfl
  | 7, _ => rfl
  | 8, _ => rfl
  | 9, _ => rfl
  | 10, _ => rfl
theorem gx_of_laid {W : World} (h : laidMetH Tryz.prog laidX W) : PWt W ∧ KT W := ⟨pwx_of_laid h, ktx_of_laid h⟩
end Go.Proofs.YtheihplldbccpaaGreatDoor
