import Derived.Test.YtlmpdidecdkncaaGreatDoorRows
import Derived.Test.YtlmpdidecdkncaaGreatDoorG29
import Derived.OpenShut
import Derived.Lib.LaidTab
import Derived.Stop.LaidErr
import Derived.Test.YtlmpdidecdkncaaGreatDoorTtW
section
namespace Go.Proofs.YtlmpdidecdkncaaGreatDoor
open Go.RowKit
set_option linter.unusedVariables false
set_option linter.unusedSimpArgs false

/-- how operations take their values, and the numbers of kids, off a card's list of five tables -/
abbrev laidM : List (String × DataW Unit) := [("math/bits.deBruijn32tab", Rows.laid_math_bits_deBruijn32tab), ("math/bits.deBruijn64tab", Rows.laid_math_bits_deBruijn64tab), ("internal/strconv.uint64pow10", Rows.laid_internal_strconv_uint64pow10), ("pedigree/value.takings", Rows.laid_pedigree_value_takings), ("pedigree/term.kidCounts", Rows.laid_pedigree_term_kidCounts)]
def kidTabM : List Int := [0, 1, 2, 2, 2, 2, 2, 2, 1, 1, 1]
theorem ktm_of_laid {W : World} (h : laidMetH Tryz.prog laidM W) : KT W := by
  have h0 : laidMet Tryz.prog laidM W := h
  have t : Lib.TabIs Tryz.prog W "pedigree/term.kidCounts" .i64 kidTabM :=
    Lib.tabIs_of_head (g := 0) (by kernel_rfl) (by kernel_rfl) Tryz.underlying145 Tryz.underlying3 (by kernel_rfl) (by kernel_rfl) h0.tail.tail.tail.tail
  have hg : Tryz.prog.globalNamed "pedigree/term.kidCounts" = some 0 := by kernel_rfl
  refine ⟨World.block_lt_of_cell? _ _ (t.cell hg 0 (by decide)), fun i hi => ?_⟩
  rw [t.cell hg i (by show i < 11; exact hi)]
  match i, hi with
  | 0, _ => rfl
  | 1, _ => rfl
  | 2, _ => rfl
  | 3, _ => rfl
  | 4, _ => rfl
  | 5, _ => rfl
  | 6, _ => rfl
  | 7, _ => rfl
  | 8, _ => rfl
  | 9, _ => rfl
  | 10, _ => rfl
def takTabM : List Int := [0, 1, 2, 2, 2, 2, 2, 4, 3, 3, 3]
theorem tkm_of_laid {W : World} (h : laidMetH Tryz.prog laidM W) : LV.Tab W := by
  have h0 : laidMet Tryz.prog laidM W := h
  have t : Lib.TabIs Tryz.prog W "pedigree/value.takings" .i8 takTabM :=
    Lib.tabIs_of_head (g := 2) (by kernel_rfl) (by kernel_rfl) Tryz.underlying177 Tryz.underlying160 (by kernel_rfl) (by kernel_rfl) h0.tail.tail.tail
  have hg : Tryz.prog.globalNamed "pedigree/value.takings" = some 2 := by kernel_rfl
  refine ⟨World.block_lt_of_cell? _ _ (t.cell hg 0 (by decide)), fun i hi => ?_⟩
  rw [t.cell hg i (by show i < 11; exact hi)]
  match i, hi with
  | 0, _ => rfl
  | 1, _ => rfl
  | 2, _ => rfl
  | 3, _ => rfl
  | 4, _ => rfl
  | 5, _ => rfl
  | 6, _ => rfl
  | 7, _ => rfl
  | 8, _ => rfl
  | 9, _ => rfl
  | 10, _ => rfl
theorem gt_of_laid {W : World} (h : laidMetH Tryz.prog laidM W) : LV.Tab W ∧ KT W := ⟨tkm_of_laid h, ktm_of_laid h⟩
end Go.Proofs.YtlmpdidecdkncaaGreatDoor
end
section
namespace Go.Proofs.YtlmpdidecdkncaaGreatDoor
open Go.RowKit Go.Maps
set_option linter.unusedVariables false
theorem termTwice_card_walk (n : Nat) (r : R3) (p : RP) (o1 o2 o3 : Value) (pr : ByteArray) (va : Option Addr) (vc : Nat) (ts : List T) (o4 o5 : Value) (sa : Option Addr) (sc : Nat) (s : List P) (ta : Option Addr) (tc : Nat) (t : List P) (o6 o7 : Value) (W : World) (hG : LV.Tab W ∧ KT W) (hR : RIs W n r p) (hl : Lt W (.slice va ts.length vc) ts) (htl : ts.length ≤ 1048576) (hs : Lp W (.slice sa s.length sc) s) (ht : Lp W (.slice ta t.length tc) t) (hst : s.length + t.length ≤ 1048576) :
    Calls Tryz.prog 4 #[.agg #[.string r.pr, .slice p.a r.hd.length p.c, .slice p.ba r.bd.length p.bc, o1, o2, o3, .string pr, .slice va ts.length vc, o4, o5, .slice sa s.length sc, .slice ta t.length tc, o6, o7]] W fun e w' => e = .returned (.bool true) ∧ Below W.heap.size W w' :=
  termTwice_walk n r p o1 o2 o3 pr va vc ts o4 o5 sa sc s ta tc t o6 o7 W hG hR hl htl hs ht hst
end Go.Proofs.YtlmpdidecdkncaaGreatDoor
end
