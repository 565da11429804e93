import Derived.Test.YtoppgalbmijhdaaDoorSoM
import Derived.Test.YtoppgalbmijhdaaDoorEsMap
namespace Go.Proofs.YtoppgalbmijhdaaDoor
open Go.RowKit Go.Maps Go.ChangeMaps
set_option linter.unusedVariables false
set_option linter.unusedSimpArgs false

/-! the maps of package estimate: their keys -/
def bV (x : Nat × V) : Value := .agg #[.int .i64 x.1, .int .i8 x.2.k, .int .i64 x.2.n, .string x.2.s]
def bOk (x : Nat × V) : Prop := x.1 ≤ 1152921504606846976 ∧ x.2.wf
def nV' (x : Nat) : Value := .int .i64 x
def nOk (x : Nat) : Prop := x ≤ 1152921504606846976
def sV' (x : ByteArray) : Value := .string x
def sOk (x : ByteArray) : Prop := x.size ≤ maxLen
theorem bV_inj (a b : Nat × V) (h : bV a = bV b) : a = b := by
  obtain ⟨i, k, n, s⟩ := a
  obtain ⟨j, k', n', s'⟩ := b
  simp only [bV, Value.agg.injEq] at h
  have h' := congrArg Array.toList h
  simp at h'
  obtain ⟨e1, rfl, rfl, rfl⟩ := h'
  have : i = j := by omega
  subst this
  rfl
theorem wf64 {i : Nat} (h : i ≤ 1152921504606846976) : (Lit.int .i64 (i : Int)).wf = true := by
  simp only [Lit.wf, Bool.and_eq_true, decide_eq_true_eq]
  exact ⟨Int.le_trans (by decide) (Int.natCast_nonneg i), Int.le_trans (Int.ofNat_le.2 h) (by decide)⟩
theorem laidOutE : laidOutB Tryd.prog = true := by kernel_rfl
theorem keyRowB : (75 : TypeId) < Tryd.prog.types.size := of_decide_eq_true (by kernel_rfl)
theorem keyAtB : Tryd.prog.keyTypeAt 4 75 = true := by kernel_rfl
theorem keyedB : Keyed Tryd.prog 75 := Keyed.of_law (deep_law_laid laidOutE (m := 4) (by omega) keyRowB keyAtB (by rw [Tryd.underlying75]))
theorem keyFitB : Tryd.prog.keyType 75 = true := by kernel_rfl
theorem keyFuelB : ∃ f, Tryd.prog.types.size + 1 = f + 3 := by
  have h : 1 < Tryd.prog.types.size := of_decide_eq_true (by kernel_rfl)
  generalize Tryd.prog.types.size = n at h
  exact ⟨n - 2, by omega⟩
theorem cellsB : Tryd.prog.cellsOf 75 = 4 := by kernel_rfl
theorem cellsBV : Tryd.prog.cellsOf 38 = 3 := by kernel_rfl
theorem cellsBK : Tryd.prog.cellsOf 36 = 1 := by kernel_rfl
theorem cellsBN : Tryd.prog.cellsOf 2 = 1 := by kernel_rfl
theorem cellsBI : Tryd.prog.cellsOf 3 = 1 := by kernel_rfl
theorem cellsBS : Tryd.prog.cellsOf 9 = 1 := by kernel_rfl
theorem keyOf_b (x : Nat × V) (h : bOk x) : ∃ l, keyOf Tryd.prog 75 (bV x) = some l := by
  have hf : (bV x).formed Tryd.prog 75 = true := by simp [bV, Value.formed, Tryd.underlying75, cellsB]
  have h64 := wf64 h.1
  have hl : Tryd.prog.keyLits (Tryd.prog.types.size + 1) 75 (bV x).cells.toList = some [.int .i64 x.1, .int .i8 x.2.k, .int .i64 x.2.n, .string x.2.s.data.toList] := by
    obtain ⟨f, hf⟩ := keyFuelB
    rw [hf]
    simp [Program.keyLits, bV, Value.cells, Tryd.underlying75, Tryd.underlying38, Tryd.underlying36, Tryd.underlying2, Tryd.underlying3, Tryd.underlying9, cellsB, cellsBV, cellsBK, cellsBN, cellsBI, cellsBS, h64, h.2.kind, h.2.num, h.2.text]
    rw [if_pos (by decide)]
    rfl
  refine ⟨.string (keyBytes [.int .i64 x.1, .int .i8 x.2.k, .int .i64 x.2.n, .string x.2.s.data.toList]), ?_⟩
  unfold keyOf
  rw [Tryd.underlying75]
  simp only [keyFitB, hf, hl]
  rfl
/-- numbers of beginnings -/
theorem mkB : MK Tryd.prog 72 75 3 (.int .i64 0) bV bOk :=
  ⟨Tryd.underlying72, fun w => by kernel_rfl, keyedB, keyOf_b, bV_inj⟩
/-- values of columns -/
theorem mkS : MK Tryd.prog 78 75 77 (.agg #[]) bV bOk :=
  ⟨Tryd.underlying78, fun w => by kernel_rfl, keyedB, keyOf_b, bV_inj⟩
/-- a set of numbers -/
theorem mkN : MK Tryd.prog 73 3 77 (.agg #[]) nV' nOk :=
  ⟨Tryd.underlying73, fun w => by kernel_rfl, int_keyed Tryd.underlying3, fun x h => ⟨.int .i64 x, by
    unfold keyOf mapKey nV'
    rw [Tryd.underlying3]
    simp [wf64 h]⟩, fun a b h => by unfold nV' at h; simp at h; omega⟩
theorem keyOf_st (s : ByteArray) (h : s.size ≤ maxLen) : keyOf Tryd.prog 9 (.string s) = some (.string s.data.toList) := by
  unfold keyOf mapKey
  rw [Tryd.underlying9]
  simp [h]
/-- tuples by names -/
theorem mkT : MK Tryd.prog 57 9 58 (.slice none 0 0) sV' sOk :=
  ⟨Tryd.underlying57, fun w => by kernel_rfl, string_keyed Tryd.underlying9, fun x h => ⟨.string x.data.toList, keyOf_st x h⟩, fun a b h => by unfold sV' at h; injection h⟩
theorem run_mkB (u : World) : (Instr.makeMap 72 none).run Tryd.prog u = .ok (.map (some u.heap.size)) (u.alloc (.map #[] 0)) := by kernel_rfl
theorem run_mkN (u : World) : (Instr.makeMap 73 none).run Tryd.prog u = .ok (.map (some u.heap.size)) (u.alloc (.map #[] 0)) := by kernel_rfl
theorem run_mkS (u : World) : (Instr.makeMap 78 none).run Tryd.prog u = .ok (.map (some u.heap.size)) (u.alloc (.map #[] 0)) := by kernel_rfl
theorem run_mkT (u : World) : (Instr.makeMap 57 none).run Tryd.prog u = .ok (.map (some u.heap.size)) (u.alloc (.map #[] 0)) := by kernel_rfl
end Go.Proofs.YtoppgalbmijhdaaDoor
