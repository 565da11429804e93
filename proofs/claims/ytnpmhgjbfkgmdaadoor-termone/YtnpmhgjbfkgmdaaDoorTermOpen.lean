import Derived.Test.YtnpmhgjbfkgmdaaDoorTermTerm
import Derived.ProofKit
import Derived.OpenShut
import Derived.ShutString
import Derived.Lib.SmallJoins
import Derived.Deep.CondSized
namespace Go.Proofs.YtnpmhgjbfkgmdaaDoor
open Go.ChangeShapes Go.WideShapes Go.ChangeAt Go.RowKit Go.Joins
set_option linter.unusedVariables false
set_option linter.unusedSimpArgs false
set_option maxRecDepth 100000

theorem own : ownKnob Tryd.prog.godebug = none := by kernel_rfl
theorem laidOut : laidOutB Tryd.prog = true := by kernel_rfl
theorem cellsKV : Tryd.prog.cellsOf 36 = 3 := by kernel_rfl
theorem cellsKT : Tryd.prog.cellsOf 38 = 4 := by kernel_rfl
theorem cellsKK : Tryd.prog.cellsOf 34 = 1 := by kernel_rfl
theorem cellsKN : Tryd.prog.cellsOf 2 = 1 := by kernel_rfl
theorem cellsKS : Tryd.prog.cellsOf 9 = 1 := by kernel_rfl
section
variable {H : Type} {enc : TypeId × Value → H} {w : World}

/-- one value's three cells -/
theorem value_cells {base : Nat} {spare : Nat → Bool} {held : Bool} {n : Nat} {cs : List Value} {y : DataW H × List MemPlace} (hl : cs.length = 3) (h : DataW.trod enc Tryd.prog w base spare held n 36 cs = some y) :
    ∃ u : V, cs = [.int .i8 u.k, .int .i64 u.n, .string u.s] ∧ u.wf := by
  obtain ⟨xs, k, hk, hxy, _, hxl, hf⟩ := DataW.trod_struct Tryd.underlying36 h
  match xs, hxl, cs, hl with
  | [y0, y1, y2], _, [v0, v1, v2], _ =>
    have g0 := hf 0 _ rfl
    have g1 := hf 1 _ rfl
    have g2 := hf 2 _ rfl
    simp [cellsKK, cellsKN, cellsKS] at g0 g1 g2
    obtain ⟨a, e0, _, w0⟩ := DataW.trod_int Tryd.underlying34 g0
    obtain ⟨b, e1, _, w1⟩ := DataW.trod_int Tryd.underlying2 g1
    obtain ⟨s, e2, _, hs⟩ := DataW.trod_string Tryd.underlying9 g2
    simp at e0 e1 e2
    subst e0 e1 e2
    exact ⟨⟨a, b, s⟩, rfl, ⟨w0, w1, hs⟩⟩

/-- one term's four cells -/
theorem term_cells {base : Nat} {spare : Nat → Bool} {held : Bool} {n : Nat} {cs : List Value} {y : DataW H × List MemPlace} (hl : cs.length = 4) (h : DataW.trod enc Tryd.prog w base spare held n 38 cs = some y) :
    ∃ t : T, cs = [.string t.v, .int .i8 t.a.k, .int .i64 t.a.n, .string t.a.s] ∧ t.wf := by
  obtain ⟨xs, k, hk, hxy, _, hxl, hf⟩ := DataW.trod_struct Tryd.underlying38 h
  match xs, hxl, cs, hl with
  | [y0, y1], _, [v0, v1, v2, v3], _ =>
    have g0 := hf 0 _ rfl
    have g1 := hf 1 _ rfl
    simp [cellsKV, cellsKS] at g0 g1
    obtain ⟨s, e0, _, hs⟩ := DataW.trod_string Tryd.underlying9 g0
    obtain ⟨u, e1, hu⟩ := value_cells rfl g1
    simp at e0 e1
    obtain ⟨rfl, rfl, rfl⟩ := e1
    subst e0
    exact ⟨⟨s, u⟩, rfl, ⟨hs, hu⟩⟩

theorem open_term {base : Nat} {spare : Nat → Bool} {held : Bool} {r : Reach} {b0 : Nat} {v : Value} {d : DataW H} {p : List MemPlace}
    (hv : Value.okWide Tryd.prog w r b0 38 v) (h : DataW.Trod enc Tryd.prog w base spare held 38 v d p) :
    ∃ t : T, v = t.val ∧ t.wf := by
  obtain ⟨cs, rfl, hcs⟩ := okWide_struct Tryd.underlying38 hv
  obtain ⟨m, hm⟩ := h
  rw [cellsKT] at hcs
  obtain ⟨t, e, ht⟩ := term_cells (by simpa [Value.cells] using hcs) hm
  refine ⟨t, ?_, ht⟩
  have : cs.toList = [.string t.v, .int .i8 t.a.k, .int .i64 t.a.n, .string t.a.s] := e
  unfold T.val
  congr 1
  exact Array.toList_inj.1 this
end
end Go.Proofs.YtnpmhgjbfkgmdaaDoor
