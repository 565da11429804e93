import Derived.Test.YtkgoceomkkohmaaDoorTermVal
import Derived.BigQuiet
import Derived.Deep.RegionWith
namespace Go.Proofs.YtkgoceomkkohmaaDoor
open Go.RowKit Go.Maps
set_option linter.unusedVariables false
set_option linter.unusedSimpArgs false
attribute [local go_sem ↓] Go.wp_at_zero Go.wp_at_succ

theorem below_drewN {B : Nat} {a w : World} (h : Below B a w) (n : Nat) : Below B a (w.drewN n) := ⟨h.os, h.tape, h.output, h.size, h.block⟩
/-- what a term is under binds (the zero value, if it is a name that they don't have) -/
def bndV (l : List B) (t : T) : V := if t.v = noS then t.a else (seek l t.v).getD V0
def bndOk (l : List B) (t : T) : Bool := if t.v = noS then true else ((seek l t.v).map okV).getD false
end Go.Proofs.YtkgoceomkkohmaaDoor
