import Derived.Test.YtoppgalbmijhdaaGreatDoorSoM
import Derived.Test.YtoppgalbmijhdaaGreatDoorEsMap
namespace Go.Proofs.YtoppgalbmijhdaaGreatDoor
open Go.RowKit Go.Maps Go.ChangeMaps
set_option linter.unusedVariables false
set_option linter.unusedSimpArgs false

/-! the maps of package estimate: their keys -/
def bV (x : Nat × V) : Value := .agg #[.int .i64 x.1, .int .i8 x.2.k, .int .i64 x.2.n, .string x.2.s]
def bOk (x : Nat × V) : Prop := x.1 ≤ 1152921504606846976 ∧ x.2.wf
def nV' (x : Nat) : Value := .int .i64 x
def nOk (x : Nat) : Prop := x ≤ 1152921504606846976
def sV' (x : ByteArray) : Value := .string x
def sOk (x : ByteArray) : Prop := x.size ≤ maxLen
theorem bV_inj (a b : Nat × V) (h : bV a = bV b) : a = b := by
  obtain ⟨i, k, n, s⟩ := a
  obtain ⟨j, k', n', s'⟩ := b
  simp only [bV, Value.agg.injEq] at h
  have h' := congrArg Array.toList h
  simp at h'
  obtain ⟨e1, rfl, rfl, rfl⟩ := h'
  have : i = j := by omega
  subst this
  rfl
theorem wf64 {i : Nat} (h : i ≤ 1152921504606846976) : (Lit.int .i64 (i : Int)).wf = true := by
  simp only [Lit.wf, Bool.and_eq_true, decide_eq_true_eq]
  exact ⟨Int.le_trans (by decide) (Int.natCast_nonneg i), Int.le_trans (Int.ofNat_le.2 h) (by decide)⟩
theorem laidOutE : laidOutB Tryz.prog = true := by kernel_rfl
theorem keyRowB : (69 : TypeId) < Tryz.prog.types.size := of_decide_eq_true (by kernel_rfl)
theorem keyAtB : Tryz.prog.keyTypeAt 4 69 = true := by kernel_rfl
theorem keyedB : Keyed Tryz.prog 69 := Keyed.of_law (deep_law_laid laidOutE (m := 4) (by omega) keyRowB keyAtB (by rw [Tryz.underlying69]))
theorem keyFitB : Tryz.prog.keyType 69 = true := by kernel_rfl
theorem keyFuelB : ∃ f, Tryz.prog.types.size + 1 = f + 3 := by
  have h : 1 < Tryz.prog.types.size := of_decide_eq_true (by kernel_rfl)
  generalize Tryz.prog.types.size = n at h
  exact ⟨n - 2, by omega⟩
theorem cellsB : Tryz.prog.cellsOf 69 = 4 := by kernel_rfl
theorem cellsBV : Tryz.prog.cellsOf 55 = 3 := by kernel_rfl
theorem cellsBK : Tryz.prog.cellsOf 53 = 1 := by kernel_rfl
theorem cellsBN : Tryz.prog.cellsOf 2 = 1 := by kernel_rfl
theorem cellsBI : Tryz.prog.cellsOf 3 = 1 := by kernel_rfl
theorem cellsBS : Tryz.prog.cellsOf 9 = 1 := by kernel_rfl
theorem keyOf_b (x : Nat × V) (h : bOk x) : ∃ l, keyOf Tryz.prog 69 (bV x) = some l := by
  have hf : (bV x).formed Tryz.prog 69 = true := by simp [bV, Value.formed, Tryz.underlying69, cellsB]
  have h64 := wf64 h.1
  have hl : Tryz.prog.keyLits (Tryz.prog.types.size + 1) 69 (bV x).cells.toList = some [.int .i64 x.1, .int .i8 x.2.k, .int .i64 x.2.n, .string x.2.s.data.toList] := by
    obtain ⟨f, hf⟩ := keyFuelB
    rw [hf]
    simp [Program.keyLits, bV, Value.cells, Tryz.underlying69, Tryz.underlying55, Tryz.underlying53, Tryz.underlying2, Tryz.underlying3, Tryz.underlying9, cellsB, cellsBV, cellsBK, cellsBN, cellsBI, cellsBS, h64, h.2.kind, h.2.num, h.2.text]
    rw [if_pos (by decide)]
    rfl
  refine ⟨.string (keyBytes [.int .i64 x.1, .int .i8 x.2.k, .int .i64 x.2.n, .string x.2.s.data.toList]), ?_⟩
  unfold keyOf
  rw [Tryz.underlying69]
  simp only [keyFitB, hf, hl]
  rfl
/-- numbers of beginnings -/
theorem mkB : MK Tryz.prog 66 69 3 (.int .i64 0) bV bOk :=
  ⟨Tryz.underlying66, fun w => by kernel_rfl, keyedB, keyOf_b, bV_inj⟩
/-- values of columns -/
theorem mkS : MK Tryz.prog 72 69 71 (.agg #[]) bV bOk :=
  ⟨Tryz.underlying72, fun w => by kernel_rfl, keyedB, keyOf_b, bV_inj⟩
/-- a set of numbers -/
theorem mkN : MK Tryz.prog 67 3 71 (.agg #[]) nV' nOk :=
  ⟨Tryz.underlying67, fun w => by kernel_rfl, int_keyed Tryz.underlying3, fun x h => ⟨.int .i64 x, by
    unfold keyOf mapKey nV'
    rw [Tryz.underlying3]
    simp [wf64 h]⟩, fun a b h => by unfold nV' at h; simp at h; omega⟩
theorem keyOf_st (s : ByteArray) (h : s.size ≤ maxLen) : keyOf Tryz.prog 9 (.string s) = some (.string s.data.toList) := by
  unfold keyOf mapKey
  rw [Tryz.underlying9]
  simp [h]
/-- tuples by names -/
theorem mkT : MK Tryz.prog 40 9 41 (.slice none 0 0) sV' sOk :=
  ⟨Tryz.underlying40, fun w => by kernel_rfl, string_keyed Tryz.underlying9, fun x h => ⟨.string x.data.toList, keyOf_st x h⟩, fun a b h => by unfold sV' at h; injection h⟩
theorem run_mkB (u : World) : (Instr.makeMap 66 none).run Tryz.prog u = .ok (.map (some u.heap.size)) (u.alloc (.map #[] 0)) := by kernel_rfl
theorem run_mkN (u : World) : (Instr.makeMap 67 none).run Tryz.prog u = .ok (.map (some u.heap.size)) (u.alloc (.map #[] 0)) := by kernel_rfl
theorem run_mkS (u : World) : (Instr.makeMap 72 none).run Tryz.prog u = .ok (.map (some u.heap.size)) (u.alloc (.map #[] 0)) := by kernel_rfl
theorem run_mkT (u : World) : (Instr.makeMap 40 none).run Tryz.prog u = .ok (.map (some u.heap.size)) (u.alloc (.map #[] 0)) := by kernel_rfl
end Go.Proofs.YtoppgalbmijhdaaGreatDoor
