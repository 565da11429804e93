import Derived.Test.YthdcgikhcghigaaSpLent
namespace Go.Proofs.Ythdcgikhcghigaa
open Go.RowKit Go.Maps Go.Shelf
set_option linter.unusedVariables false
set_option linter.unusedSimpArgs false
attribute [local go_sem ↓] Go.wp_at_zero Go.wp_at_succ

theorem own_set {w : World} {B : Nat} {e : TypeId} {k g n cap : Nat} {xs : List Value} (h : w.ownsRow B e k (.slice (some ⟨g, 0, none⟩) n cap) n xs) {i : Nat} (hi : i < xs.length) (u : Value) : (w.setCell ⟨g, i, none⟩ u).ownsRow B e k (.slice (some ⟨g, 0, none⟩) n cap) n (xs.set i u) := by
  obtain ⟨hl, ⟨h1, _⟩ | ⟨g', cap', cur, hv, h0, hb, hn, hc, hs, ht⟩⟩ := h
  · cases h1
  · cases hv
    refine ⟨by simp [hl], .inr ⟨g, cap, cur.setIfInBounds i u, rfl, h0, heap_setCell_same w g i cur e u hb, hn, hc, by simp [hs], ?_⟩⟩
    rw [Array.toList_setIfInBounds, List.take_set, ht]
theorem own_cell {w : World} {B : Nat} {e : TypeId} {k g n cap : Nat} {xs : List Value} (h : w.ownsRow B e k (.slice (some ⟨g, 0, none⟩) n cap) n xs) {i : Nat} {u : Value} (hi : xs[i]? = some u) : w.cell? ⟨g, i, none⟩ = some u ∧ w.frozen? ⟨g, i, none⟩ = false ∧ g < w.heap.size ∧ B ≤ g := by
  obtain ⟨hl, ⟨h1, _⟩ | ⟨g', cap', cur, hv, h0, hb, hn, hc, hs, ht⟩⟩ := h
  · cases h1
  · cases hv
    refine ⟨?_, ?_, (Array.getElem?_eq_some_iff.1 hb).1, h0⟩
    · rw [← ht, List.getElem?_take] at hi
      split at hi
      · unfold World.cell?
        simp only [hb]
        simpa using hi
      · cases hi
    · unfold World.frozen?
      simp only [hb]
      simp
theorem set3 (u : V) : ∀ (vs : List V) (j : Nat), j < vs.length → (((vs.flatMap V.cells).set (j * 3) (.int .i8 u.k)).set (j * 3 + 1) (.int .i64 u.n)).set (j * 3 + 2) (.string u.s) = (vs.set j u).flatMap V.cells
  | [], j, h => absurd h (by simp)
  | t :: r, 0, h => by simp [V.cells]
  | t :: r, j + 1, h => by
    have ih := set3 u r j (by simpa using h)
    have hc : t.cells.length = 3 := rfl
    rw [List.set_cons_succ, List.flatMap_cons, List.flatMap_cons, ← ih]
    rw [List.set_append_right _ _ (by rw [hc]; omega), List.set_append_right _ _ (by rw [hc]; omega), List.set_append_right _ _ (by rw [hc]; omega), hc]
    rw [show (j + 1) * 3 - 3 = j * 3 by omega, show (j + 1) * 3 + 1 - 3 = j * 3 + 1 by omega, show (j + 1) * 3 + 2 - 3 = j * 3 + 2 by omega]
def put3 (w : World) (g j : Nat) (u : V) : World := ((w.setCell ⟨g, j * 3, none⟩ (.int .i8 u.k)).setCell ⟨g, j * 3 + 1, none⟩ (.int .i64 u.n)).setCell ⟨g, j * 3 + 2, none⟩ (.string u.s)
theorem own_put3 {w : World} {B g n cap : Nat} {vs : List V} {j : Nat} (u : V) (hj : j < vs.length) (h : w.ownsRow B 39 3 (.slice (some ⟨g, 0, none⟩) n cap) n (vs.flatMap V.cells)) : (put3 w g j u).ownsRow B 39 3 (.slice (some ⟨g, 0, none⟩) n cap) n ((vs.set j u).flatMap V.cells) := by
  have hl := cells_length vs
  rw [← set3 u vs j hj]
  have o1 := own_set h (i := j * 3) (by omega) (.int .i8 u.k)
  have o2 := own_set o1 (i := j * 3 + 1) (by simp only [List.length_set]; omega) (.int .i64 u.n)
  exact own_set o2 (i := j * 3 + 2) (by simp only [List.length_set]; omega) (.string u.s)
theorem put3_below {w w' : World} {B g j : Nat} {u : V} (h : Below B w w') (hg : B ≤ g) : Below B w (put3 w' g j u) :=
  ((h.setCell (p := ⟨g, _, none⟩) hg _).setCell (p := ⟨g, _, none⟩) hg _).setCell (p := ⟨g, _, none⟩) hg _
theorem put3_other {w : World} {g j k : Nat} {u : V} (h : k ≠ g) : (put3 w g j u).heap[k]? = w.heap[k]? :=
  ((Below.heap_setCell _ _ _ _ h).trans (Below.heap_setCell _ _ _ _ h)).trans (Below.heap_setCell _ _ _ _ h)
theorem put3_size {w : World} {g j : Nat} {u : V} : (put3 w g j u).heap.size = w.heap.size := by simp [put3, World.setCell]
/-- one value of a lent list written over -/
theorem LentAt.put {w : World} {B g cap : Nat} {us : List V} (h : LentAt w B g cap us) {i : Nat} (hi : i < us.length) (u : V) : LentAt (put3 w g i u) B g cap (us.set i u) := by
  refine ⟨by rw [List.length_set]; exact h.1, h.2.1, ?_⟩
  have := own_put3 u (vs := us ++ marks 70) (j := i) (by rw [List.length_append]; omega) h.2.2
  rw [List.length_set, ← List.set_append_left _ _ hi]
  exact this
theorem LentAt.frozen {w : World} {B g cap : Nat} {us : List V} (h : LentAt w B g cap us) (i : Nat) : w.frozen? ⟨g, i, none⟩ = false := by
  obtain ⟨hl, h1 | ⟨g', cap', cur, hv, h0, hb, hn, hc, hs, ht⟩⟩ := h.2.2
  · obtain ⟨h1, _⟩ := h1; cases h1
  · cases hv
    unfold World.frozen?
    simp only [hb]
    simp
abbrev cellI (i : Int) : Value := .int .i32 i
/-- one call, as the law has it -/
def opL (on k n m : Int) (v : V) (lv : Value) (r : List Int) : List Value := .int .i64 on :: .int .i64 k :: .int .i64 n :: .int .i64 m :: .int .i8 v.k :: .int .i64 v.n :: .string v.s :: lv :: r.map cellI
theorem opL_len (on k n m : Int) (v : V) (lv : Value) {r : List Int} (hr : r.length = 24) : (opL on k n m v lv r).length = 32 := by simp [opL, hr]
theorem infoOp : (Try.prog.info? 45).map (·.size) = some 32 := by kernel_rfl
def OpAt (w : World) (b : Nat) (on k n m : Int) (v : V) (lv : Value) (r : List Int) : Prop := w.heap[b]? = some (.cells (opL on k n m v lv r).toArray 45 (0, 0))
theorem opAt_new (w : World) (on k n m : Int) (v : V) (lv : Value) (r : List Int) : OpAt (w.alloc (.cells (opL on k n m v lv r).toArray 45)) w.heap.size on k n m v lv r := heap_alloc_new w _
section
variable {w w' : World} {b : Nat} {on k n m : Int} {v : V} {lv : Value} {r : List Int}
theorem OpAt.lt (h : OpAt w b on k n m v lv r) : b < w.heap.size := (Array.getElem?_eq_some_iff.1 h).1
theorem OpAt.below (h : OpAt w b on k n m v lv r) (hb : Below w.heap.size w w') : OpAt w' b on k n m v lv r := (hb.block b h.lt).trans h
theorem OpAt.c1 (h : OpAt w b on k n m v lv r) : w.cell? ⟨b, 1, none⟩ = some (.int .i64 k) := by
  have h1 : w.heap[b]? = some (.cells (opL on k n m v lv r).toArray 45 (0, 0)) := h
  simp [World.cell?, h1, opL]
theorem OpAt.c2 (h : OpAt w b on k n m v lv r) : w.cell? ⟨b, 2, none⟩ = some (.int .i64 n) := by
  have h1 : w.heap[b]? = some (.cells (opL on k n m v lv r).toArray 45 (0, 0)) := h
  simp [World.cell?, h1, opL]
theorem OpAt.c3 (h : OpAt w b on k n m v lv r) : w.cell? ⟨b, 3, none⟩ = some (.int .i64 m) := by
  have h1 : w.heap[b]? = some (.cells (opL on k n m v lv r).toArray 45 (0, 0)) := h
  simp [World.cell?, h1, opL]
theorem OpAt.c4 (h : OpAt w b on k n m v lv r) : w.cell? ⟨b, 4, none⟩ = some (.int .i8 v.k) := by
  have h1 : w.heap[b]? = some (.cells (opL on k n m v lv r).toArray 45 (0, 0)) := h
  simp [World.cell?, h1, opL]
theorem OpAt.c5 (h : OpAt w b on k n m v lv r) : w.cell? ⟨b, 5, none⟩ = some (.int .i64 v.n) := by
  have h1 : w.heap[b]? = some (.cells (opL on k n m v lv r).toArray 45 (0, 0)) := h
  simp [World.cell?, h1, opL]
theorem OpAt.c6 (h : OpAt w b on k n m v lv r) : w.cell? ⟨b, 6, none⟩ = some (.string v.s) := by
  have h1 : w.heap[b]? = some (.cells (opL on k n m v lv r).toArray 45 (0, 0)) := h
  simp [World.cell?, h1, opL]
theorem OpAt.c7 (h : OpAt w b on k n m v lv r) : w.cell? ⟨b, 7, none⟩ = some (lv) := by
  have h1 : w.heap[b]? = some (.cells (opL on k n m v lv r).toArray 45 (0, 0)) := h
  simp [World.cell?, h1, opL]
theorem OpAt.row (h : OpAt w b on k n m v lv r) : w.rangeAt b 8 (List.map cellI r) := fun j u hu => by
  have h1 : w.heap[b]? = some (.cells (opL on k n m v lv r).toArray 45 (0, 0)) := h
  show w.cell? ⟨b, 8 + j, none⟩ = some u
  simp only [World.cell?, h1]
  rw [Nat.add_comm]
  simpa [opL] using hu
theorem OpAt.load (h : OpAt w b on k n m v lv r) (hr : r.length = 24) : (loadVar 45 ⟨b, 0, none⟩).run Try.prog w = .ok (.agg (opL on k n m v lv r).toArray) w :=
  run_loadVar_row _ _ 45 45 _ (0, 0) _ h Try.underlying45 rfl (by simp only [List.size_toArray, opL_len _ _ _ _ _ _ hr]; exact infoOp)
theorem OpAt.loadV (h : OpAt w b on k n m v lv r) : (loadVar 39 ⟨b, 4, none⟩).run Try.prog w = .ok (.agg #[.int .i8 v.k, .int .i64 v.n, .string v.s]) w := by
  have c4 := h.c4
  have c5 := h.c5
  have c6 := h.c6
  simp [loadVar, go_sem, c4, c5, c6]
end
end Go.Proofs.Ythdcgikhcghigaa
