import Derived.Test.YtoagnkbmeafmoaaGreatDoorRows
import Derived.Test.YtoagnkbmeafmoaaGreatDoorOwA
import Derived.OpenShut
import Derived.Lib.LaidTab
import Derived.Stop.LaidErr
namespace Go.Proofs.YtoagnkbmeafmoaaGreatDoor
open Go.RowKit
set_option linter.unusedVariables false
set_option linter.unusedSimpArgs false

/-- the tables, off a card's list of four -/
abbrev laidS : List (String × DataW Unit) := [("math/bits.deBruijn32tab", Rows.laid_math_bits_deBruijn32tab), ("math/bits.deBruijn64tab", Rows.laid_math_bits_deBruijn64tab), ("internal/strconv.uint64pow10", Rows.laid_internal_strconv_uint64pow10), ("pedigree/value.takings", Rows.laid_pedigree_value_takings)]
theorem gs_of_laid {W : World} (h : laidMetH Tryz.prog laidS W) : Gs W := by
  have h0 : laidMet Tryz.prog laidS W := h
  have h2 := h0.tail.tail
  refine ⟨?_, ?_⟩
  · unfold PWt
    rw [show Lib.pow10Tab = [1, 10, 100, 1000, 10000, 100000, 1000000, 10000000, 100000000, 1000000000, 10000000000, 100000000000, 1000000000000, 10000000000000, 100000000000000, 1000000000000000, 10000000000000000, 100000000000000000, 1000000000000000000, 10000000000000000000] by decide]
    exact Lib.tabIs_of_head (g := 2) (by kernel_rfl) (by kernel_rfl) Tryz.underlying352 Tryz.underlying332 (by kernel_rfl) (by kernel_rfl) h2
  · have t : Lib.TabIs Tryz.prog W "pedigree/value.takings" .i8 [0, 1, 2, 2, 2, 2, 2, 4, 3, 3, 3] :=
      Lib.tabIs_of_head (g := 0) (by kernel_rfl) (by kernel_rfl) Tryz.underlying285 Tryz.underlying94 (by kernel_rfl) (by kernel_rfl) h2.tail
    have hg : Tryz.prog.globalNamed "pedigree/value.takings" = some 0 := by kernel_rfl
    refine ⟨World.block_lt_of_cell? _ _ (t.cell hg 0 (by decide)), fun i hi => ?_⟩
    rw [t.cell hg i (by show i < 11; exact hi)]
    match i, hi with
    | 0, _ => rfl
    | 1, _ => rfl
    | 2, _ => rfl
    | 3, _ => rfl
    | 4, _ => rfl
    | 5, _ => rfl
    | 6, _ => rfl
    | 7, _ => rfl
    | 8, _ => rfl
    | 9, _ => rfl
    | 10, _ => rfl
end Go.Proofs.YtoagnkbmeafmoaaGreatDoor
