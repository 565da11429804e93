import Derived.Test.YtanffdllapnghaaRelSplOpen
namespace Go.Proofs.Ytanffdllapnghaa
open Go.ChangeShapes Go.WideShapes Go.ChangeAt Go.RowKit Go.Joins Go.Deep
set_option linter.unusedVariables false
set_option linter.unusedSimpArgs false
set_option maxRecDepth 100000

theorem okWide_arr {P : Program} {w : World} {r : Reach} {base : Nat} {t : TypeId} {v : Value} {n : Nat} {e : TypeId} (ht : P.underlying t = some (.array n e)) (h : Value.okWide P w r base t v) : ∃ cs, v = .agg cs ∧ cs.size = P.cellsOf t := by
  simp only [Value.okWide, ht] at h
  obtain ⟨cs, h1, h2, _⟩ := h
  exact ⟨cs, h1, h2⟩
section
variable {H : Type} {enc : TypeId × Value → H} {w : World}
theorem open_row {rr : Reach} {b0 : Nat} {v : Value} {d : DataW H} {p : List MemPlace}
    (hv : Value.okWide Try.prog w rr b0 25 v) (h : DataW.Trod enc Try.prog w 0 (fun _ => true) true 25 v d p) :
    ∃ x : List Int, v = rowV x ∧ RowOk x := by
  obtain ⟨cs, rfl, hcs⟩ := okWide_arr Try.underlying25 hv
  obtain ⟨m, hm⟩ := h
  rw [cellsKR] at hcs
  obtain ⟨r, hr, e⟩ := row_cells (by simpa [Value.cells] using hcs) hm
  refine ⟨r, ?_, hr⟩
  have : cs.toList = r.map cellI := e
  unfold rowV
  congr 1
  exact Array.toList_inj.1 this
end
end Go.Proofs.Ytanffdllapnghaa
