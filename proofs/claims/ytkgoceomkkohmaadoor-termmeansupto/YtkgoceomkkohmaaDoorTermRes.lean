import Derived.Test.YtkgoceomkkohmaaDoorTermAtom
import Derived.Deep.MidRow
namespace Go.Proofs.YtkgoceomkkohmaaDoor
open Go.RowKit Go.Maps
set_option linter.unusedVariables false
set_option linter.unusedSimpArgs false
attribute [local go_sem ↓] Go.wp_at_zero Go.wp_at_succ

theorem kept_cell {w w1 : World} {c : Array Value} {T : TypeId} (hb : Below (w.alloc (.cells c T)).heap.size (w.alloc (.cells c T)) w1) (i : Nat) (v : Value) (hi : c[i]? = some v) : w1.cell? ⟨w.heap.size, i, none⟩ = some v := by
  rw [hb.cell (p := ⟨w.heap.size, i, none⟩) (by simp)]
  unfold World.cell?
  simp only [heap_alloc_new]
  exact hi
theorem kept_frozen {w w1 : World} {c : Array Value} {T : TypeId} (hb : Below (w.alloc (.cells c T)).heap.size (w.alloc (.cells c T)) w1) (i : Nat) : w1.frozen? ⟨w.heap.size, i, none⟩ = false := by
  rw [hb.frozen (p := ⟨w.heap.size, i, none⟩) (by simp)]
  unfold World.frozen?
  simp only [heap_alloc_new]
  simp
theorem kept_lt {w w1 : World} {c : Array Value} {T : TypeId} (hb : Below (w.alloc (.cells c T)).heap.size (w.alloc (.cells c T)) w1) : w.heap.size < w1.heap.size := by
  have := hb.size
  simp at this
  omega
theorem term_results {fn : Func} {sl : Nat} (hr : fn.results = #[.cell sl 28]) {W : World} {tmps : Array Value} {b : Nat} {x0 x1 x2 x3 : Value} (h2 : tmps.getD sl undef = .pointer (some ⟨b, 0, none⟩))
    (c0 : W.cell? ⟨b, 0, none⟩ = some x0) (c1 : W.cell? ⟨b, 1, none⟩ = some x1) (c2 : W.cell? ⟨b, 2, none⟩ = some x2) (c3 : W.cell? ⟨b, 3, none⟩ = some x3) :
    (results fn tmps).run Tryd.prog W = .ok (.agg #[x0, x1, x2, x3]) W := by
  have hl : (loadVar 28 ⟨b, 0, none⟩).run Tryd.prog W = .ok (.agg #[x0, x1, x2, x3]) W := by
    refine run_loadVar_mid W b 0 28 [x0, x1, x2, x3] _ (fun j v hj => ?_) Tryd.underlying28 rfl (by kernel_rfl)
    match j, hj with
    | 0, hj => simp at hj; subst hj; exact c0
    | 1, hj => simp at hj; subst hj; exact c1
    | 2, hj => simp at hj; subst hj; exact c2
    | 3, hj => simp at hj; subst hj; exact c3
  have e0 : results fn tmps = (do
      let x ← asAddr (tmps.getD sl undef)
      loadVar 28 x) := by
    simp [results, hr]
  rw [e0, h2]
  simp [asAddr, hl, Result.andThen]
/-- the cells of a term in block b, that may be written -/
def Own4 (w : World) (b : Nat) : Prop := (∃ y0 y1 y2 y3, w.cell? ⟨b, 0, none⟩ = some y0 ∧ w.cell? ⟨b, 1, none⟩ = some y1 ∧ w.cell? ⟨b, 2, none⟩ = some y2 ∧ w.cell? ⟨b, 3, none⟩ = some y3) ∧
  w.frozen? ⟨b, 0, none⟩ = false ∧ w.frozen? ⟨b, 1, none⟩ = false ∧ w.frozen? ⟨b, 2, none⟩ = false ∧ w.frozen? ⟨b, 3, none⟩ = false ∧ b < w.heap.size
theorem own4 {w w1 : World} {a b c d : Value} {T : TypeId} (hb : Below (w.alloc (.cells #[a, b, c, d] T)).heap.size (w.alloc (.cells #[a, b, c, d] T)) w1) : Own4 w1 w.heap.size :=
  ⟨⟨_, _, _, _, kept_cell hb 0 _ rfl, kept_cell hb 1 _ rfl, kept_cell hb 2 _ rfl, kept_cell hb 3 _ rfl⟩, kept_frozen hb 0, kept_frozen hb 1, kept_frozen hb 2, kept_frozen hb 3, kept_lt hb⟩
theorem Own4.below {w w1 : World} {b : Nat} (h : Own4 w b) (hb : Below w.heap.size w w1) : Own4 w1 b := by
  obtain ⟨⟨y0, y1, y2, y3, c0, c1, c2, c3⟩, f0, f1, f2, f3, hl⟩ := h
  refine ⟨⟨y0, y1, y2, y3, ?_, ?_, ?_, ?_⟩, ?_, ?_, ?_, ?_, Nat.lt_of_lt_of_le hl hb.size⟩
  all_goals first | rw [hb.cell (by exact hl)]; assumption | rw [hb.frozen (by exact hl)]; assumption
theorem term_done {fn : Func} {sl : Nat} (hr : fn.results = #[.cell sl 28]) {w w1 : World} {tmps : Array Value} {b : Nat} {x0 x1 x2 x3 v : Value}
    (ho : Own4 w1 b) (hB : w.heap.size ≤ b) (hb : Below w.heap.size w w1)
    (h2 : tmps.getD sl undef = .pointer (some ⟨b, 0, none⟩)) (hv : v = .agg #[x0, x1, x2, x3]) :
    bodyPost Tryd.prog fn (fun e w' => e = .returned v ∧ Below w.heap.size w w') .ret { tmps := tmps, defers := [] }
      ((((w1.setCell ⟨b, 0, none⟩ x0).setCell ⟨b, 1, none⟩ x1).setCell ⟨b, 2, none⟩ x2).setCell ⟨b, 3, none⟩ x3) := by
  obtain ⟨⟨y0, y1, y2, y3, c0, c1, c2, c3⟩, f0, f1, f2, f3, hl⟩ := ho
  refine bodyPost_ret (term_results hr (x0 := x0) (x1 := x1) (x2 := x2) (x3 := x3) h2 ?_ ?_ ?_ ?_) rfl ⟨by rw [hv], ?_⟩
  · go_simp
  · go_simp
  · go_simp
  · go_simp
  · exact ((((hb.setCell (p := ⟨b, 0, none⟩) hB _).setCell (p := ⟨b, 1, none⟩) hB _).setCell (p := ⟨b, 2, none⟩) hB _).setCell (p := ⟨b, 3, none⟩) hB _)

theorem atP_wf {l : List P} (h : ∀ t ∈ l, t.wf) (i : Nat) : (atP l i).wf := by
  by_cases hi : i < l.length
  · rw [atP_eq hi]; exact h _ (List.getElem_mem hi)
  · unfold atP
    rw [List.getD, List.getElem?_eq_none (by omega)]
    exact ⟨by decide, T0.ok⟩
theorem res_wf {s : List P} (hs : ∀ p ∈ s, p.wf) {t : T} (ht : t.wf) : (res s t).wf := by
  unfold res
  cases hf : s.find? (fun p => decide (p.v = t.v)) with
  | none => exact ht
  | some p => exact (hs p (List.mem_of_find?_eq_some hf)).term
theorem bind_wf {s : List P} (hs : ∀ p ∈ s, p.wf) {n : ByteArray} {t : T} (hn : n.size ≤ maxLen) (ht : t.wf) : ∀ p ∈ bindP s n t, p.wf := by
  intro p hp
  unfold bindP at hp
  rw [List.mem_append] at hp
  rcases hp with hp | hp
  · obtain ⟨q, hq, rfl⟩ := List.mem_map.1 hp
    have := hs q hq
    split
    · exact ⟨this.text, ht⟩
    · exact this
  · obtain rfl := List.mem_singleton.1 hp
    exact ⟨hn, ht⟩
/-- as long as no pair is found, what stands for the term is what stands for it under the rest -/
theorem res_drop {s : List P} {t : T} {k : Nat} (h : k < s.length) : res (s.drop k) t = if (atP s k).v = t.v then (atP s k).t else res (s.drop (k + 1)) t := by
  rw [List.drop_eq_getElem_cons h, atP_eq h]
  unfold res
  rw [List.find?_cons]
  by_cases e : s[k].v = t.v
  · simp [e]
  · simp [e]
theorem eq_bytes (a b : ByteArray) : (a.toList == b.toList) = decide (a = b) := by
  by_cases h : a = b
  · subst h; simp
  · have : ¬ a.toList = b.toList := fun e => h (toList_inj e)
    rw [decide_eq_false h, beq_eq_false_iff_ne]
    exact this

end Go.Proofs.YtkgoceomkkohmaaDoor
