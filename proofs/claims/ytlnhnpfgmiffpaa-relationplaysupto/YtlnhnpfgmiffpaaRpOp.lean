import Derived.Test.YtlnhnpfgmiffpaaG2
namespace Go.Proofs.Ytlnhnpfgmiffpaa
open Go.RowKit Go.Maps
set_option linter.unusedVariables false
set_option linter.unusedSimpArgs false

/-- one call, as the law has it -/
def opL (on k n m mask : Int) (r : List Int) : List Value := .int .i64 on :: .int .i64 k :: .int .i64 n :: .int .i64 m :: .int .u32 mask :: r.map cellI
theorem opL_len (on k n m mask : Int) {r : List Int} (hr : r.length = 24) : (opL on k n m mask r).length = 29 := by simp [opL, hr]
theorem infoOp : (Try.prog.info? 42).map (·.size) = some 29 := by kernel_rfl
def OpAt (w : World) (b : Nat) (on k n m mask : Int) (r : List Int) : Prop := w.heap[b]? = some (.cells (opL on k n m mask r).toArray 42 (0, 0))
theorem opAt_new (w : World) (on k n m mask : Int) (r : List Int) : OpAt (w.alloc (.cells (opL on k n m mask r).toArray 42)) w.heap.size on k n m mask r := heap_alloc_new w _
section
variable {w w' : World} {b : Nat} {on k n m mask : Int} {r : List Int}
theorem OpAt.lt (h : OpAt w b on k n m mask r) : b < w.heap.size := (Array.getElem?_eq_some_iff.1 h).1
theorem OpAt.below (h : OpAt w b on k n m mask r) (hb : Below w.heap.size w w') : OpAt w' b on k n m mask r := (hb.block b h.lt).trans h
theorem OpAt.c1 (h : OpAt w b on k n m mask r) : w.cell? ⟨b, 1, none⟩ = some (.int .i64 k) := by
  have h1 : w.heap[b]? = some (.cells (opL on k n m mask r).toArray 42 (0, 0)) := h
  simp [World.cell?, h1, opL]
theorem OpAt.c2 (h : OpAt w b on k n m mask r) : w.cell? ⟨b, 2, none⟩ = some (.int .i64 n) := by
  have h1 : w.heap[b]? = some (.cells (opL on k n m mask r).toArray 42 (0, 0)) := h
  simp [World.cell?, h1, opL]
theorem OpAt.c3 (h : OpAt w b on k n m mask r) : w.cell? ⟨b, 3, none⟩ = some (.int .i64 m) := by
  have h1 : w.heap[b]? = some (.cells (opL on k n m mask r).toArray 42 (0, 0)) := h
  simp [World.cell?, h1, opL]
theorem OpAt.c4 (h : OpAt w b on k n m mask r) : w.cell? ⟨b, 4, none⟩ = some (.int .u32 mask) := by
  have h1 : w.heap[b]? = some (.cells (opL on k n m mask r).toArray 42 (0, 0)) := h
  simp [World.cell?, h1, opL]
theorem OpAt.row (h : OpAt w b on k n m mask r) : w.rangeAt b 5 (List.map cellI r) := fun j v hv => by
  have h1 : w.heap[b]? = some (.cells (opL on k n m mask r).toArray 42 (0, 0)) := h
  show w.cell? ⟨b, 5 + j, none⟩ = some v
  simp only [World.cell?, h1]
  rw [Nat.add_comm]
  simpa [opL] using hv
theorem OpAt.load (h : OpAt w b on k n m mask r) (hr : r.length = 24) : (loadVar 42 ⟨b, 0, none⟩).run Try.prog w = .ok (.agg (opL on k n m mask r).toArray) w :=
  run_loadVar_row _ _ 42 42 _ (0, 0) _ h Try.underlying42 rfl (by simp only [List.size_toArray, opL_len _ _ _ _ _ hr]; exact infoOp)
theorem OpAt.loadRow (h : OpAt w b on k n m mask r) (hr : r.length = 24) : (loadVar 40 ⟨b, 5, none⟩).run Try.prog w = .ok (.agg (List.map cellI r).toArray) w :=
  run_loadVar_mid w b 5 40 (List.map cellI r) _ h.row Try.underlying40 rfl (by rw [List.length_map, hr]; exact infoRow)
end
end Go.Proofs.Ytlnhnpfgmiffpaa
