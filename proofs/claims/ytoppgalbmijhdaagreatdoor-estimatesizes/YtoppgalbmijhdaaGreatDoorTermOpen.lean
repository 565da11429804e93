import Derived.Test.YtoppgalbmijhdaaGreatDoorTmA
import Derived.ProofKit
import Derived.OpenShut
import Derived.ShutString
import Derived.Lib.SmallJoins
import Derived.Deep.CondSized
namespace Go.Proofs.YtoppgalbmijhdaaGreatDoor
open Go.ChangeShapes Go.WideShapes Go.ChangeAt Go.RowKit Go.Joins
set_option linter.unusedVariables false
set_option linter.unusedSimpArgs false
set_option maxRecDepth 100000

theorem own : ownKnob Tryz.prog.godebug = none := by kernel_rfl
theorem laidOut : laidOutB Tryz.prog = true := by kernel_rfl
theorem cellsKV : Tryz.prog.cellsOf 55 = 3 := by kernel_rfl
theorem cellsKK : Tryz.prog.cellsOf 53 = 1 := by kernel_rfl
theorem cellsKN : Tryz.prog.cellsOf 2 = 1 := by kernel_rfl
theorem cellsKS : Tryz.prog.cellsOf 9 = 1 := by kernel_rfl
section
variable {H : Type} {enc : TypeId × Value → H} {w : World}

/-- one value's three cells -/
theorem value_cells {base : Nat} {spare : Nat → Bool} {held : Bool} {n : Nat} {cs : List Value} {y : DataW H × List MemPlace} (hl : cs.length = 3) (h : DataW.trod enc Tryz.prog w base spare held n 55 cs = some y) :
    ∃ u : V, cs = [.int .i8 u.k, .int .i64 u.n, .string u.s] ∧ u.wf := by
  obtain ⟨xs, k, hk, hxy, _, hxl, hf⟩ := DataW.trod_struct Tryz.underlying55 h
  match xs, hxl, cs, hl with
  | [y0, y1, y2], _, [v0, v1, v2], _ =>
    have g0 := hf 0 _ rfl
    have g1 := hf 1 _ rfl
    have g2 := hf 2 _ rfl
    simp [cellsKK, cellsKN, cellsKS] at g0 g1 g2
    obtain ⟨a, e0, _, w0⟩ := DataW.trod_int Tryz.underlying53 g0
    obtain ⟨b, e1, _, w1⟩ := DataW.trod_int Tryz.underlying2 g1
    obtain ⟨s, e2, _, hs⟩ := DataW.trod_string Tryz.underlying9 g2
    simp at e0 e1 e2
    subst e0 e1 e2
    exact ⟨⟨a, b, s⟩, rfl, ⟨w0, w1, hs⟩⟩

end
end Go.Proofs.YtoppgalbmijhdaaGreatDoor
