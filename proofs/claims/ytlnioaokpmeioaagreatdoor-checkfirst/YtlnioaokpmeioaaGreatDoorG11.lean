import Derived.Test.YtlnioaokpmeioaaGreatDoorLmMQ
import Derived.Test.YtlnioaokpmeioaaGreatDoorG20
import Derived.Test.YtlnioaokpmeioaaGreatDoorG9
import Derived.Test.YtlnioaokpmeioaaGreatDoorG42
import Derived.Test.YtlnioaokpmeioaaGreatDoorG10
section
namespace Go.Proofs.YtlnioaokpmeioaaGreatDoor
open Go.RowKit Go.Maps
set_option linter.unusedVariables false
set_option linter.unusedSimpArgs false
attribute [local go_sem ↓] Go.wp_at_zero Go.wp_at_succ

theorem allS_take {f : ByteArray → Bool} {l : List ByteArray} {k : Nat} (h : k < l.length) : (l.take (k + 1)).all f = ((l.take k).all f && f (atS l k)) := by
  have e : l.take (k + 1) = l.take k ++ [l[k]] := by rw [List.take_add_one, List.getElem?_eq_getElem h]; rfl
  rw [e, List.all_append, atS_eq h]
  simp
theorem allS_not {f : ByteArray → Bool} {l : List ByteArray} {k : Nat} (h : k < l.length) (hn : f (atS l k) = false) : l.all f = false := by
  rw [← Bool.not_eq_true]
  intro ha
  rw [List.all_eq_true] at ha
  rw [atS_eq h] at hn
  rw [ha _ (List.getElem_mem h)] at hn
  cases hn
end Go.Proofs.YtlnioaokpmeioaaGreatDoor
end
section
namespace Go.Proofs.YtlnioaokpmeioaaGreatDoor
open Go.RowKit Go.Maps
set_option linter.unusedVariables false
set_option linter.unusedSimpArgs false
attribute [local go_sem ↓] Go.wp_at_zero Go.wp_at_succ

theorem belowA {w : World} (o : Obj) : Below w.heap.size w (w.alloc o) := (Below.refl _ _).alloc (Nat.le_refl _) _
end Go.Proofs.YtlnioaokpmeioaaGreatDoor
end
section
namespace Go.Proofs.YtlnioaokpmeioaaGreatDoor
open Go.RowKit Go.Maps
set_option linter.unusedVariables false
set_option linter.unusedSimpArgs false
attribute [local go_sem ↓] Go.wp_at_zero Go.wp_at_succ

/-- the variables of a literal, if it is a claim -/
def avX (y : XL) : List ByteArray := if y.x.k = 1 then vsT [] y.x.ts else []
/-- the variables of a body's claims -/
def avL (l : List XL) : List ByteArray := l.flatMap avX
/-- a body's equations -/
def eqX (d : Nat) (y : XL) : List Qn := if y.x.k = 3 ∧ y.x.rel = 1 then [(sdE d y.x.l, sdE d y.x.r)] else []
def eqL (d : Nat) (l : List XL) : List Qn := l.flatMap (eqX d)
/-- what a body's claims find -/
def atN (l : List XL) : List ByteArray := (avL l).foldl addN []
theorem takeXL {l : List XL} {k : Nat} (h : k < l.length) : l.take (k + 1) = l.take k ++ [atL l k] := by rw [List.take_add_one, List.getElem?_eq_getElem h, atL_eq h]; rfl
theorem atN_take {l : List XL} {k : Nat} (h : k < l.length) : atN (l.take (k + 1)) = (avX (atL l k)).foldl addN (atN (l.take k)) := by
  unfold atN avL
  rw [takeXL h, List.flatMap_append, List.foldl_append]
  simp
theorem takeS {l : List ByteArray} {k : Nat} (h : k < l.length) : l.take (k + 1) = l.take k ++ [atS l k] := by rw [List.take_add_one, List.getElem?_eq_getElem h, atS_eq h]; rfl
theorem foldN_take {l : List ByteArray} {k : Nat} (out : List ByteArray) (h : k < l.length) : (l.take (k + 1)).foldl addN out = addN ((l.take k).foldl addN out) (atS l k) := by
  rw [takeS h, List.foldl_append]
  rfl
theorem foldN_len : ∀ (l out : List ByteArray), (l.foldl addN out).length ≤ out.length + l.length
  | [], out => by simp
  | n :: l, out => by
    have := foldN_len l (addN out n)
    have h2 : (addN out n).length ≤ out.length + 1 := by unfold addN; split <;> simp
    simp only [List.foldl_cons, List.length_cons]
    omega
theorem infoStrL : (Tryz.prog.info? 9).map (fun i => (i.zero, i.size, i.bytes)) = some (some (.string ⟨#[]⟩), 1, 16) := by kernel_rfl
end Go.Proofs.YtlnioaokpmeioaaGreatDoor
end
