import Derived.Test.YthkbcgedjecnlaaDoorLexGlob
import Derived.Test.YthkbcgedjecnlaaDoorShelf
namespace Go.Proofs.YthkbcgedjecnlaaDoor
open Go.RowKit
set_option linter.unusedVariables false
set_option linter.unusedSimpArgs false
attribute [local go_sem ↓] Go.wp_at_zero Go.wp_at_succ

def tkV (t : Tk) : Value := .agg #[.int .i8 t.k, .string ⟨t.s.toArray⟩, .int .i64 t.n, .int .i64 t.a]
def noTk : Value := .agg #[.int .i8 0, .string ⟨#[]⟩, .int .i64 0, .int .i64 0]
def fstV : Fst → Value
  | .bad e => .tuple #[noTk, .int .i64 0, .int .i64 e]
  | .tok t n => .tuple #[tkV t, .int .i64 n, .int .i64 0]

theorem heap_new (w : World) (o : Obj) : (w.alloc o).heap[w.heap.size]? = some o := by
  show (w.heap.push o)[w.heap.size]? = _
  simp
theorem kept_cell {w w1 : World} {c : Array Value} {T : TypeId} (hb : Below (w.alloc (.cells c T)).heap.size (w.alloc (.cells c T)) w1) (i : Nat) (v : Value) (hi : c[i]? = some v) : w1.cell? ⟨w.heap.size, i, none⟩ = some v := by
  rw [hb.cell (p := ⟨w.heap.size, i, none⟩) (by simp)]
  unfold World.cell?
  simp only [heap_new]
  exact hi
theorem kept_frozen {w w1 : World} {c : Array Value} {T : TypeId} (hb : Below (w.alloc (.cells c T)).heap.size (w.alloc (.cells c T)) w1) (i : Nat) : w1.frozen? ⟨w.heap.size, i, none⟩ = false := by
  rw [hb.frozen (p := ⟨w.heap.size, i, none⟩) (by simp)]
  unfold World.frozen?
  simp only [heap_new]
  simp
theorem tok_results {fn : Func} (hr : fn.results = #[.cell 2 37, .tmp 3, .tmp 4]) {W : World} {tmps : Array Value} {b : Nat} {x0 x1 x2 x3 wd er : Value} (h2 : tmps.getD 2 undef = .pointer (some ⟨b, 0, none⟩)) (h3 : tmps.getD 3 undef = wd) (h4 : tmps.getD 4 undef = er)
    (c0 : W.cell? ⟨b, 0, none⟩ = some x0) (c1 : W.cell? ⟨b, 1, none⟩ = some x1) (c2 : W.cell? ⟨b, 2, none⟩ = some x2) (c3 : W.cell? ⟨b, 3, none⟩ = some x3) :
    (results fn tmps).run Tryd.prog W = .ok (.tuple #[.agg #[x0, x1, x2, x3], wd, er]) W := by
  have hl : (loadVar 37 ⟨b, 0, none⟩).run Tryd.prog W = .ok (.agg #[x0, x1, x2, x3]) W := by
    refine run_loadVar_mid W b 0 37 [x0, x1, x2, x3] _ (fun j v hj => ?_) Tryd.underlying37 rfl (by kernel_rfl)
    match j, hj with
    | 0, hj => simp at hj; subst hj; exact c0
    | 1, hj => simp at hj; subst hj; exact c1
    | 2, hj => simp at hj; subst hj; exact c2
    | 3, hj => simp at hj; subst hj; exact c3
  have e0 : results fn tmps = (do
      let x ← asAddr (tmps.getD 2 undef)
      let x ← loadVar 37 x
      pure (.tuple #[x, tmps.getD 3 undef, tmps.getD 4 undef])) := by
    simp [results, hr]
  rw [e0, h2, h3, h4]
  simp [asAddr, hl, Result.andThen]
theorem kept_lt {w w1 : World} {c : Array Value} {T : TypeId} (hb : Below (w.alloc (.cells c T)).heap.size (w.alloc (.cells c T)) w1) : w.heap.size < w1.heap.size := by
  have := hb.size
  simp at this
  omega

/-- the cells of a token in block b, that may be written -/
def Own4 (w : World) (b : Nat) : Prop := (∃ y0 y1 y2 y3, w.cell? ⟨b, 0, none⟩ = some y0 ∧ w.cell? ⟨b, 1, none⟩ = some y1 ∧ w.cell? ⟨b, 2, none⟩ = some y2 ∧ w.cell? ⟨b, 3, none⟩ = some y3) ∧
  w.frozen? ⟨b, 0, none⟩ = false ∧ w.frozen? ⟨b, 1, none⟩ = false ∧ w.frozen? ⟨b, 2, none⟩ = false ∧ w.frozen? ⟨b, 3, none⟩ = false ∧ b < w.heap.size
theorem own4 {w w1 : World} {a b c d : Value} {T : TypeId} (hb : Below (w.alloc (.cells #[a, b, c, d] T)).heap.size (w.alloc (.cells #[a, b, c, d] T)) w1) : Own4 w1 w.heap.size :=
  ⟨⟨_, _, _, _, kept_cell hb 0 _ rfl, kept_cell hb 1 _ rfl, kept_cell hb 2 _ rfl, kept_cell hb 3 _ rfl⟩, kept_frozen hb 0, kept_frozen hb 1, kept_frozen hb 2, kept_frozen hb 3, kept_lt hb⟩
theorem Own4.below {w w1 : World} {b : Nat} (h : Own4 w b) (hb : Below w.heap.size w w1) : Own4 w1 b := by
  obtain ⟨⟨y0, y1, y2, y3, c0, c1, c2, c3⟩, f0, f1, f2, f3, hl⟩ := h
  refine ⟨⟨y0, y1, y2, y3, ?_, ?_, ?_, ?_⟩, ?_, ?_, ?_, ?_, Nat.lt_of_lt_of_le hl hb.size⟩
  all_goals first | rw [hb.cell (by exact hl)]; assumption | rw [hb.frozen (by exact hl)]; assumption
theorem tok_done {fn : Func} (hr : fn.results = #[.cell 2 37, .tmp 3, .tmp 4]) {w w1 : World} {tmps : Array Value} {b : Nat} {x0 x1 x2 x3 wd er v : Value}
    (ho : Own4 w1 b) (hB : w.heap.size ≤ b) (hb : Below w.heap.size w w1)
    (h2 : tmps.getD 2 undef = .pointer (some ⟨b, 0, none⟩)) (h3 : tmps.getD 3 undef = wd) (h4 : tmps.getD 4 undef = er) (hv : v = .tuple #[.agg #[x0, x1, x2, x3], wd, er]) :
    bodyPost Tryd.prog fn (fun e w' => e = .returned v ∧ Below w.heap.size w w') .ret { tmps := tmps, defers := [] }
      ((((w1.setCell ⟨b, 0, none⟩ x0).setCell ⟨b, 1, none⟩ x1).setCell ⟨b, 2, none⟩ x2).setCell ⟨b, 3, none⟩ x3) := by
  obtain ⟨⟨y0, y1, y2, y3, c0, c1, c2, c3⟩, f0, f1, f2, f3, hl⟩ := ho
  refine bodyPost_ret (tok_results hr (x0 := x0) (x1 := x1) (x2 := x2) (x3 := x3) h2 h3 h4 ?_ ?_ ?_ ?_) rfl ⟨by rw [hv], ?_⟩
  · go_simp
  · go_simp
  · go_simp
  · go_simp
  · exact ((((hb.setCell (p := ⟨b, 0, none⟩) hB _).setCell (p := ⟨b, 1, none⟩) hB _).setCell (p := ⟨b, 2, none⟩) hB _).setCell (p := ⟨b, 3, none⟩) hB _)

theorem tok_done_new {fn : Func} (hr : fn.results = #[.cell 2 37, .tmp 3, .tmp 4]) {w : World} {tmps : Array Value} {x0 x1 x2 x3 wd er v : Value}
    (h2 : tmps.getD 2 undef = .pointer (some ⟨w.heap.size, 0, none⟩)) (h3 : tmps.getD 3 undef = wd) (h4 : tmps.getD 4 undef = er) (hv : v = .tuple #[.agg #[x0, x1, x2, x3], wd, er]) :
    bodyPost Tryd.prog fn (fun e w' => e = .returned v ∧ Below w.heap.size w w') .ret { tmps := tmps, defers := [] } (w.alloc (.cells #[x0, x1, x2, x3] 37)) := by
  have hb := Below.refl (w.alloc (.cells #[x0, x1, x2, x3] 37)).heap.size (w.alloc (.cells #[x0, x1, x2, x3] 37))
  exact bodyPost_ret (tok_results hr (x0 := x0) (x1 := x1) (x2 := x2) (x3 := x3) h2 h3 h4 (kept_cell hb 0 _ rfl) (kept_cell hb 1 _ rfl) (kept_cell hb 2 _ rfl) (kept_cell hb 3 _ rfl)) rfl ⟨by rw [hv], (Below.refl _ _).alloc (Nat.le_refl _) _⟩

set_option maxHeartbeats 1600000 in
theorem blank_any (s : ByteArray) (w : World) (hs : s.size ≤ maxLen) : Calls Tryd.prog 24 #[.string s] w fun e w' => e = .returned (fstV (blankT (runLen s.data.toList))) ∧ Below w.heap.size w w' := by
  unfold blankT
  by_cases h : 1 < runLen s.data.toList
  · rw [if_pos h]
    go_enter Tryd.func24, Tryd.ntmps24
    go_wp2_with fail
    refine (runLength_any _ _ hs).mono ?_
    generalize runLen s.data.toList = r at h
    rintro e w1 ⟨rfl, hb1⟩
    have h' : (1 : Int) < (r : Int) := by omega
    have ho := own4 hb1
    have hb := ((Below.refl w.heap.size w).alloc (Nat.le_refl _) _).trans (hb1.mono (by simp))
    have HO : Hid _ := ho
    obtain ⟨⟨y0, y1, y2, y3, c0, c1, c2, c3⟩, f0, f1, f2, f3, hl⟩ := ho
    clear hb1
    go_wp2
    exact tok_done Tryd.results24 HO.out (Nat.le_refl _) hb rfl rfl rfl rfl
  · rw [if_neg h]
    go_enter Tryd.func24, Tryd.ntmps24
    go_wp2_with fail
    refine (runLength_any _ _ hs).mono ?_
    generalize runLen s.data.toList = r at h
    rintro e w1 ⟨rfl, hb1⟩
    have h' : ¬ (1 : Int) < (r : Int) := by omega
    have ho := own4 hb1
    have hb := ((Below.refl w.heap.size w).alloc (Nat.le_refl _) _).trans (hb1.mono (by simp))
    have HO : Hid _ := ho
    obtain ⟨⟨y0, y1, y2, y3, c0, c1, c2, c3⟩, f0, f1, f2, f3, hl⟩ := ho
    clear hb1
    go_wp2
    exact tok_done Tryd.results24 HO.out (Nat.le_refl _) hb rfl rfl rfl rfl
end Go.Proofs.YthkbcgedjecnlaaDoor
