import Derived.Test.YtmmaidniaafkgaaSymOpen
import Derived.Test.YtmmaidniaafkgaaSnLaw
import Derived.Deep.CondSized
namespace Go.Proofs.Ytmmaidniaafkgaa
open Go.ChangeShapes Go.WideShapes Go.ChangeAt Go.RowKit Go.Joins Go.Deep
set_option linter.unusedVariables false
set_option linter.unusedSimpArgs false
set_option maxRecDepth 100000

theorem cellsKI : Try.prog.cellsOf 3 = 1 := by kernel_rfl
theorem cellsKL : Try.prog.cellsOf 26 = 1 := by kernel_rfl
theorem cellsKR : Try.prog.cellsOf 29 = 24 := by kernel_rfl
theorem cellsKY : Try.prog.cellsOf 27 = 1 := by kernel_rfl
theorem cellsKO : Try.prog.cellsOf 31 = 32 := by kernel_rfl
section
variable {H : Type} {enc : TypeId × Value → H} {w : World}
/-- a row's 24 cells -/
theorem row_cells {base : Nat} {spare : Nat → Bool} {held : Bool} {n : Nat} {cs : List Value} {y : DataW H × List MemPlace} (hl : cs.length = 24) (h : DataW.trod enc Try.prog w base spare held n 29 cs = some y) :
    ∃ r : List Int, r.length = 24 ∧ cs = r.map cellI := by
  obtain ⟨xs, k, hk, hxy, _, hxl, hf⟩ := DataW.trod_array Try.underlying29 h
  have hall : ∀ v ∈ cs, ∃ a : Int, v = cellI a := by
    intro v hv
    obtain ⟨i, hi, rfl⟩ := List.getElem_of_mem hv
    have g := hf i (by omega)
    rw [cellsKY, List.getElem?_eq_getElem (by omega)] at g
    obtain ⟨a, e, _, _⟩ := DataW.trod_int Try.underlying27 g
    refine ⟨a, ?_⟩
    have e0 := congrArg (fun l => l[0]?) e
    simp [List.getElem?_take, List.getElem?_drop, List.getElem?_eq_getElem hi] at e0
    exact e0
  have hex : ∀ l : List Value, (∀ v ∈ l, ∃ a : Int, v = cellI a) → ∃ r : List Int, l = r.map cellI := by
    intro l
    induction l with
    | nil => intro _; exact ⟨[], rfl⟩
    | cons v l ih =>
      intro hl
      obtain ⟨a, rfl⟩ := hl v (by simp)
      obtain ⟨r, rfl⟩ := ih (fun x hx => hl x (by simp [hx]))
      exact ⟨a :: r, rfl⟩
  obtain ⟨r, rfl⟩ := hex cs hall
  exact ⟨r, by simpa using hl, rfl⟩
theorem op_cells {held : Bool} {n : Nat} {cs : List Value} {y : DataW H × List MemPlace} (hl : cs.length = 32) (h : DataW.trod enc Try.prog w 0 (fun _ => true) held n 31 cs = some y) :
    ∃ (on k nn m : Int) (v : V) (a : Option Addr) (c : Nat) (us : List V) (r : List Int), r.length = 24 ∧ cs = opL on k nn m v (.slice a us.length c) r ∧ Lv w (.slice a us.length c) us ∧ us.length ≤ Rows.uptoBulk y.1 := by
  obtain ⟨xs, k, hk, hxy, _, hxl, hf⟩ := DataW.trod_struct Try.underlying31 h
  match xs, hxl, cs, hl with
  | [y0, y1, y2, y3, y4, y5, y6], _, v0 :: v1 :: v2 :: v3 :: v4 :: v5 :: v6 :: v7 :: rest, hl =>
    have hrest : rest.length = 24 := by simpa using hl
    have g0 := hf 0 _ rfl
    have g1 := hf 1 _ rfl
    have g2 := hf 2 _ rfl
    have g3 := hf 3 _ rfl
    have g4 := hf 4 _ rfl
    have g5 := hf 5 _ rfl
    have g6 := hf 6 _ rfl
    simp [cellsKI, cellsKV, cellsKL, cellsKR, List.take_of_length_le (Nat.le_of_eq hrest)] at g0 g1 g2 g3 g4 g5 g6
    obtain ⟨a0, e0, _, _⟩ := DataW.trod_int Try.underlying3 g0
    obtain ⟨a1, e1, _, _⟩ := DataW.trod_int Try.underlying3 g1
    obtain ⟨a2, e2, _, _⟩ := DataW.trod_int Try.underlying3 g2
    obtain ⟨a3, e3, _, _⟩ := DataW.trod_int Try.underlying3 g3
    obtain ⟨u, e4, _⟩ := value_cells rfl g4
    obtain ⟨a, us, c, e5, hL, hx⟩ := open_values g5
    obtain ⟨r, hr, e6⟩ := row_cells hrest g6
    simp at e0 e1 e2 e3 e4 e5
    obtain ⟨rfl, rfl, rfl⟩ := e4
    subst e0 e1 e2 e3 e5 e6
    refine ⟨a0, a1, a2, a3, u, a, c, us, r, hr, rfl, hL, ?_⟩
    have hb : us.length ≤ Rows.uptoBulk y5.1 := by
      rcases hx with ⟨_, h0⟩ | ⟨elems, sp, he, hl'⟩
      · omega
      · rw [he]
        have := bulk_length elems
        simp only [Rows.uptoBulk]
        omega
    rw [hxy]
    simp only [List.map_cons, List.map_nil, Rows.uptoBulk, Rows.uptoBulkAll]
    omega
theorem open_op {rr : Reach} {b0 : Nat} {x : Value} {d : DataW H} {p : List MemPlace}
    (hv : Value.okWide Try.prog w rr b0 31 x) (h : DataW.Trod enc Try.prog w 0 (fun _ => true) true 31 x d p) :
    ∃ (on k nn m : Int) (v : V) (a : Option Addr) (c : Nat) (us : List V) (r : List Int), r.length = 24 ∧ x = .agg (opL on k nn m v (.slice a us.length c) r).toArray ∧ Lv w (.slice a us.length c) us ∧ us.length ≤ Rows.uptoBulk d := by
  obtain ⟨cs, rfl, hcs⟩ := okWide_struct Try.underlying31 hv
  obtain ⟨m, hm⟩ := h
  rw [cellsKO] at hcs
  obtain ⟨on, k, nn, m', v, a, c, us, r, hr, e, hL, hb⟩ := op_cells (by simpa [Value.cells] using hcs) hm
  refine ⟨on, k, nn, m', v, a, c, us, r, hr, ?_, hL, hb⟩
  have : cs.toList = opL on k nn m' v (.slice a us.length c) r := e
  congr 1
  exact Array.toList_inj.1 this
end
end Go.Proofs.Ytmmaidniaafkgaa
