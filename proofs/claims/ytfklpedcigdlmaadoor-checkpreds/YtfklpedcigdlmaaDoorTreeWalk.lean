import Derived.Test.YtfklpedcigdlmaaDoorTermHand
import Derived.Test.YtfklpedcigdlmaaDoorTermTree
namespace Go.Proofs.YtfklpedcigdlmaaDoor
open Go.RowKit Go.Maps
set_option linter.unusedVariables false
set_option linter.unusedSimpArgs false
attribute [local go_sem ↓] Go.wp_at_zero Go.wp_at_succ

/-- the terms of an expression, of at most so many levels, in their order -/
def termsD : Nat → E → List T
  | 0, _ => []
  | d + 1, e => e.t :: e.kids.flatMap (termsD d)
theorem termsD_succ (d : Nat) (e : E) : termsD (d + 1) e = e.t :: e.kids.flatMap (termsD d) := rfl
theorem vsT_append : ∀ (l m : List T) (ns : List ByteArray), vsT ns (l ++ m) = vsT (vsT ns l) m
  | [], m, ns => rfl
  | t :: l, m, ns => by rw [List.cons_append, vsT_step, vsT_step, vsT_append l m]
theorem flat_drop (d : Nat) {l : List E} {k : Nat} (h : k < l.length) : (l.drop k).flatMap (termsD d) = termsD d (atE l k) ++ (l.drop (k + 1)).flatMap (termsD d) := by
  rw [List.drop_eq_getElem_cons h, List.flatMap_cons, atE_eq h]
end Go.Proofs.YtfklpedcigdlmaaDoor
