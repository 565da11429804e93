import Derived.Test.YtfkggabdjcabcaaRelSplOpen
import Derived.Test.YtfkggabdjcabcaaRelPickW
namespace Go.Proofs.Ytfkggabdjcabcaa
open Go.ChangeShapes Go.WideShapes Go.ChangeAt Go.RowKit Go.Joins Go.Deep
set_option linter.unusedVariables false
set_option linter.unusedSimpArgs false
set_option maxRecDepth 100000

theorem cellsKM : Try.prog.cellsOf 24 = 1 := by kernel_rfl
theorem cellsKL : Try.prog.cellsOf 22 = 1 := by kernel_rfl
theorem cellsKP : Try.prog.cellsOf 29 = 27 := by kernel_rfl
theorem mask_nat {n : Int} (h : (Lit.int .u32 n).wf = true) : ∃ M : Nat, n = (M : Int) ∧ M < 4294967296 := by
  have h2 : (0 : Int) ≤ n ∧ n ≤ 4294967295 := by
    simp [Lit.wf, IntKind.min, IntKind.max, IntKind.signed, IntKind.bits] at h
    omega
  exact ⟨n.toNat, by omega, by omega⟩
section
variable {H : Type} {enc : TypeId × Value → H} {w : World}
theorem pick_cells {held : Bool} {n : Nat} {cs : List Value} {y : DataW H × List MemPlace} (hl : cs.length = 27) (h : DataW.trod enc Try.prog w 0 (fun _ => true) held n 29 cs = some y) :
    ∃ (a : Option Addr) (ts : List Tn) (c M1 M2 : Nat) (x : List Int), cs = pickL a ts.length c M1 M2 x ∧ LtC w (.slice a ts.length c) ts ∧ M1 < 4294967296 ∧ M2 < 4294967296 ∧ RowOk x ∧ ts.length ≤ Rows.uptoBulk y.1 := by
  obtain ⟨xs, k, hk, hxy, _, hxl, hf⟩ := DataW.trod_struct Try.underlying29 h
  match xs, hxl, cs, hl with
  | [y0, y1, y2, y3], _, v0 :: v1 :: v2 :: rest, hl =>
    have hrest : rest.length = 24 := by simpa using hl
    have g0 := hf 0 _ rfl
    have g1 := hf 1 _ rfl
    have g2 := hf 2 _ rfl
    have g3 := hf 3 _ rfl
    simp [cellsKL, cellsKM, cellsKR, List.take_of_length_le (Nat.le_of_eq hrest)] at g0 g1 g2 g3
    obtain ⟨a, ts, c, e0, hL, hx⟩ := open_turns g0
    obtain ⟨m1, e1, _, w1⟩ := DataW.trod_int Try.underlying24 g1
    obtain ⟨m2, e2, _, w2⟩ := DataW.trod_int Try.underlying24 g2
    obtain ⟨r, hr, e3⟩ := row_cells hrest g3
    simp at e0 e1 e2
    obtain ⟨M1, rfl, h1⟩ := mask_nat w1
    obtain ⟨M2, rfl, h2⟩ := mask_nat w2
    subst e0 e1 e2 e3
    refine ⟨a, ts, c, M1, M2, r, rfl, hL, h1, h2, hr, ?_⟩
    have hb : ts.length ≤ Rows.uptoBulk y0.1 := by
      rcases hx with ⟨_, h0⟩ | ⟨elems, sp, he, hl'⟩
      · omega
      · rw [he]
        have := bulk_length elems
        simp only [Rows.uptoBulk]
        omega
    rw [hxy]
    simp only [List.map_cons, List.map_nil, Rows.uptoBulk, Rows.uptoBulkAll]
    omega
theorem open_pick {rr : Reach} {b0 : Nat} {v : Value} {d : DataW H} {p : List MemPlace}
    (hv : Value.okWide Try.prog w rr b0 29 v) (h : DataW.Trod enc Try.prog w 0 (fun _ => true) true 29 v d p) :
    ∃ (a : Option Addr) (ts : List Tn) (c M1 M2 : Nat) (x : List Int), v = .agg (pickL a ts.length c M1 M2 x).toArray ∧ LtC w (.slice a ts.length c) ts ∧ M1 < 4294967296 ∧ M2 < 4294967296 ∧ RowOk x ∧ ts.length ≤ Rows.uptoBulk d := by
  obtain ⟨cs, rfl, hcs⟩ := okWide_struct Try.underlying29 hv
  obtain ⟨m, hm⟩ := h
  rw [cellsKP] at hcs
  obtain ⟨a, ts, c, M1, M2, x, e, hr⟩ := pick_cells (by simpa [Value.cells] using hcs) hm
  refine ⟨a, ts, c, M1, M2, x, ?_, hr⟩
  have : cs.toList = pickL a ts.length c M1 M2 x := e
  congr 1
  exact Array.toList_inj.1 this
end
end Go.Proofs.Ytfkggabdjcabcaa
