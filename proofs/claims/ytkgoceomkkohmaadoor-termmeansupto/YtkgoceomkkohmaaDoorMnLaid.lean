import Derived.Test.YtkgoceomkkohmaaDoorRows
import Derived.Test.YtkgoceomkkohmaaDoorMnW
import Derived.OpenShut
import Derived.Lib.LaidTab
import Derived.Stop.LaidErr
namespace Go.Proofs.YtkgoceomkkohmaaDoor
open Go.RowKit
set_option linter.unusedVariables false
set_option linter.unusedSimpArgs false

/-- how operations take their values, and the numbers of kids, off a card's list of five tables -/
abbrev laidM : List (String × DataW Unit) := [("math/bits.deBruijn32tab", Rows.laid_math_bits_deBruijn32tab), ("math/bits.deBruijn64tab", Rows.laid_math_bits_deBruijn64tab), ("internal/strconv.uint64pow10", Rows.laid_internal_strconv_uint64pow10), ("pedigree/value.takings", Rows.laid_pedigree_value_takings), ("pedigree/term.kidCounts", Rows.laid_pedigree_term_kidCounts)]
def kidTabM : List Int := [0, 1, 2, 2, 2, 2, 2, 2, 1, 1, 1]
theorem ktm_of_laid {W : World} (h : laidMetH Tryd.prog laidM W) : KT W := by
  have h0 : laidMet Tryd.prog laidM W := h
  have t : Lib.TabIs Tryd.prog W "pedigree/term.kidCounts" .i64 kidTabM :=
    Lib.tabIs_of_head (g := 0) (by kernel_rfl) (by kernel_rfl) Tryd.underlying77 Tryd.underlying3 (by kernel_rfl) (by kernel_rfl) h0.tail.tail.tail.tail
  have hg : Tryd.prog.globalNamed "pedigree/term.kidCounts" = some 0 := by kernel_rfl
  refine ⟨World.block_lt_of_cell? _ _ (t.cell hg 0 (by decide)), fun i hi => ?_⟩
  rw [t.cell hg i (by show i < 11; exact hi)]
  match i, hi with
  | 0, _ => rfl
  | 1, _ => rfl
  | 2, _ => rfl
  | 3, _ => rfl
  | 4, _ => rfl
  | 5, _ => rfl
  | 6, _ => rfl
  | 7, _ => rfl
  | 8, _ => rfl
  | 9, _ => rfl
  | 10, _ => rfl
def takTabM : List Int := [0, 1, 2, 2, 2, 2, 2, 4, 3, 3, 3]
theorem tkm_of_laid {W : World} (h : laidMetH Tryd.prog laidM W) : AR.Tab W := by
  have h0 : laidMet Tryd.prog laidM W := h
  have t : Lib.TabIs Tryd.prog W "pedigree/value.takings" .i8 takTabM :=
    Lib.tabIs_of_head (g := 1) (by kernel_rfl) (by kernel_rfl) Tryd.underlying80 Tryd.underlying69 (by kernel_rfl) (by kernel_rfl) h0.tail.tail.tail
  have hg : Tryd.prog.globalNamed "pedigree/value.takings" = some 1 := by kernel_rfl
  refine ⟨World.block_lt_of_cell? _ _ (t.cell hg 0 (by decide)), fun i hi => ?_⟩
  rw [t.cell hg i (by show i < 11; exact hi)]
  match i, hi with
  | 0, _ => rfl
  | 1, _ => rfl
  | 2, _ => rfl
  | 3, _ => rfl
  | 4, _ => rfl
  | 5, _ => rfl
  | 6, _ => rfl
  | 7, _ => rfl
  | 8, _ => rfl
  | 9, _ => rfl
  | 10, _ => rfl
theorem gm_of_laid {W : World} (h : laidMetH Tryd.prog laidM W) : KT W ∧ AR.Tab W := ⟨ktm_of_laid h, tkm_of_laid h⟩
theorem termMeans_card_walk (d : Nat) (e : E) (a : Option Addr) (c : Nat) (l : List B) (a1 : Option Addr) (c1 : Nat) (m : List B) (a2 : Option Addr) (c2 : Nat) (w : World) (hG : KT w ∧ AR.Tab w) (hE : EIs w d e a c) (hll : l.length ≤ 1048576) (hL : Lb w (.slice a1 l.length c1) l) (hml : m.length ≤ 1048576) (hM : Lb w (.slice a2 m.length c2) m) :
    Calls Tryd.prog 3 #[e.val a c, .slice a1 l.length c1, .slice a2 m.length c2] w fun r w' => r = .returned (.bool true) ∧ Below w.heap.size w w' :=
  termMeans_walk d e a c l m a1 a2 c1 c2 w hG hE hL hM hll hml
end Go.Proofs.YtkgoceomkkohmaaDoor
