import Derived.Test.YtihngojkcacgdaaRelNoLaw
import Derived.ProofKit
import Derived.OpenShut
import Derived.Lib.SmallJoins
import Derived.Deep.CondSized
namespace Go.Proofs.Ytihngojkcacgdaa
open Go.ChangeShapes Go.WideShapes Go.ChangeAt Go.RowKit Go.Joins
set_option linter.unusedVariables false
set_option linter.unusedSimpArgs false
set_option maxRecDepth 100000

theorem own : ownKnob Try.prog.godebug = none := by kernel_rfl
theorem laidOut : laidOutB Try.prog = true := by kernel_rfl
theorem cellsKI : Try.prog.cellsOf 3 = 1 := by kernel_rfl
theorem cellsKM : Try.prog.cellsOf 23 = 1 := by kernel_rfl
theorem cellsKO : Try.prog.cellsOf 28 = 29 := by kernel_rfl
section
variable {H : Type} {enc : TypeId × Value → H} {w : World}
/-- a row's 24 cells -/
theorem row_cells {base : Nat} {spare : Nat → Bool} {held : Bool} {n : Nat} {cs : List Value} {y : DataW H × List MemPlace} (hl : cs.length = 24) (h : DataW.trod enc Try.prog w base spare held n 26 cs = some y) :
    ∃ r : List Int, r.length = 24 ∧ cs = r.map cellI := by
  obtain ⟨xs, k, hk, hxy, _, hxl, hf⟩ := DataW.trod_array Try.underlying26 h
  have hall : ∀ v ∈ cs, ∃ a : Int, v = cellI a := by
    intro v hv
    obtain ⟨i, hi, rfl⟩ := List.getElem_of_mem hv
    have g := hf i (by omega)
    rw [cellsSym, List.getElem?_eq_getElem (by omega)] at g
    obtain ⟨a, e, _, _⟩ := DataW.trod_int Try.underlying24 g
    refine ⟨a, ?_⟩
    have e0 := congrArg (fun l => l[0]?) e
    simp [List.getElem?_take, List.getElem?_drop, List.getElem?_eq_getElem hi] at e0
    exact e0
  have hex : ∀ l : List Value, (∀ v ∈ l, ∃ a : Int, v = cellI a) → ∃ r : List Int, l = r.map cellI := by
    intro l
    induction l with
    | nil => intro _; exact ⟨[], rfl⟩
    | cons v l ih =>
      intro hl
      obtain ⟨a, rfl⟩ := hl v (by simp)
      obtain ⟨r, rfl⟩ := ih (fun x hx => hl x (by simp [hx]))
      exact ⟨a :: r, rfl⟩
  obtain ⟨r, rfl⟩ := hex cs hall
  exact ⟨r, by simpa using hl, rfl⟩
theorem op_cells {base : Nat} {spare : Nat → Bool} {held : Bool} {n : Nat} {cs : List Value} {y : DataW H × List MemPlace} (hl : cs.length = 29) (h : DataW.trod enc Try.prog w base spare held n 28 cs = some y) :
    ∃ (on k nn m mask : Int) (r : List Int), r.length = 24 ∧ cs = opL on k nn m mask r := by
  obtain ⟨xs, k, hk, hxy, _, hxl, hf⟩ := DataW.trod_struct Try.underlying28 h
  match xs, hxl, cs, hl with
  | [y0, y1, y2, y3, y4, y5], _, v0 :: v1 :: v2 :: v3 :: v4 :: rest, hl =>
    have hrest : rest.length = 24 := by simpa using hl
    have g0 := hf 0 _ rfl
    have g1 := hf 1 _ rfl
    have g2 := hf 2 _ rfl
    have g3 := hf 3 _ rfl
    have g4 := hf 4 _ rfl
    have g5 := hf 5 _ rfl
    simp [cellsKI, cellsKM, cellsRow, List.take_of_length_le (Nat.le_of_eq hrest)] at g0 g1 g2 g3 g4 g5
    obtain ⟨a0, e0, _, _⟩ := DataW.trod_int Try.underlying3 g0
    obtain ⟨a1, e1, _, _⟩ := DataW.trod_int Try.underlying3 g1
    obtain ⟨a2, e2, _, _⟩ := DataW.trod_int Try.underlying3 g2
    obtain ⟨a3, e3, _, _⟩ := DataW.trod_int Try.underlying3 g3
    obtain ⟨a4, e4, _, _⟩ := DataW.trod_int Try.underlying23 g4
    obtain ⟨r, hr, e5⟩ := row_cells hrest g5
    simp at e0 e1 e2 e3 e4
    subst e0 e1 e2 e3 e4 e5
    exact ⟨a0, a1, a2, a3, a4, r, hr, rfl⟩
theorem open_op {base : Nat} {spare : Nat → Bool} {held : Bool} {rr : Reach} {b0 : Nat} {v : Value} {d : DataW H} {p : List MemPlace}
    (hv : Value.okWide Try.prog w rr b0 28 v) (h : DataW.Trod enc Try.prog w base spare held 28 v d p) :
    ∃ (on k nn m mask : Int) (r : List Int), r.length = 24 ∧ v = .agg (opL on k nn m mask r).toArray := by
  obtain ⟨cs, rfl, hcs⟩ := okWide_struct Try.underlying28 hv
  obtain ⟨m, hm⟩ := h
  rw [cellsKO] at hcs
  obtain ⟨on, k, nn, m', mask, r, hr, e⟩ := op_cells (by simpa [Value.cells] using hcs) hm
  refine ⟨on, k, nn, m', mask, r, hr, ?_⟩
  have : cs.toList = opL on k nn m' mask r := e
  congr 1
  exact Array.toList_inj.1 this
end
end Go.Proofs.Ytihngojkcacgdaa
