import Derived.Test.YtnpmhgjbfkgmdaaDoorTermMatch
import Derived.Test.YtnpmhgjbfkgmdaaDoorTermUni
namespace Go.Proofs.YtnpmhgjbfkgmdaaDoor
open Go.RowKit Go.Maps
set_option linter.unusedVariables false
set_option linter.unusedSimpArgs false
attribute [local go_sem ↓] Go.wp_at_zero Go.wp_at_succ

theorem one_results {fn : Func} {sl : Nat} (hr : fn.results = #[.cell sl 36]) {W : World} {tmps : Array Value} {b : Nat} {x0 x1 x2 : Value} (h2 : tmps.getD sl undef = .pointer (some ⟨b, 0, none⟩))
    (c0 : W.cell? ⟨b, 0, none⟩ = some x0) (c1 : W.cell? ⟨b, 1, none⟩ = some x1) (c2 : W.cell? ⟨b, 2, none⟩ = some x2) :
    (results fn tmps).run Tryd.prog W = .ok (.agg #[x0, x1, x2]) W := by
  have hl : (loadVar 36 ⟨b, 0, none⟩).run Tryd.prog W = .ok (.agg #[x0, x1, x2]) W := by
    refine run_loadVar_mid W b 0 36 [x0, x1, x2] _ (fun j v hj => ?_) Tryd.underlying36 rfl (by kernel_rfl)
    match j, hj with
    | 0, hj => simp at hj; subst hj; exact c0
    | 1, hj => simp at hj; subst hj; exact c1
    | 2, hj => simp at hj; subst hj; exact c2
  have e0 : results fn tmps = (do
      let x ← asAddr (tmps.getD sl undef)
      loadVar 36 x) := by
    simp [results, hr]
  rw [e0, h2]
  simp [asAddr, hl, Result.andThen]
theorem one_done {fn : Func} {sl : Nat} (hr : fn.results = #[.cell sl 36]) {w w1 : World} {tmps : Array Value} {b : Nat} {x0 x1 x2 v : Value}
    (ho : Own3 w1 b) (hB : w.heap.size ≤ b) (hb : Below w.heap.size w w1)
    (h2 : tmps.getD sl undef = .pointer (some ⟨b, 0, none⟩)) (hv : v = .agg #[x0, x1, x2]) :
    bodyPost Tryd.prog fn (fun e w' => e = .returned v ∧ Below w.heap.size w w') .ret { tmps := tmps, defers := [] }
      (((w1.setCell ⟨b, 0, none⟩ x0).setCell ⟨b, 1, none⟩ x1).setCell ⟨b, 2, none⟩ x2) := by
  obtain ⟨⟨y0, y1, y2, c0, c1, c2⟩, f0, f1, f2, hl⟩ := ho
  refine bodyPost_ret (one_results hr (x0 := x0) (x1 := x1) (x2 := x2) h2 ?_ ?_ ?_) rfl ⟨by rw [hv], ?_⟩
  · go_simp
  · go_simp
  · go_simp
  · exact (((hb.setCell (p := ⟨b, 0, none⟩) hB _).setCell (p := ⟨b, 1, none⟩) hB _).setCell (p := ⟨b, 2, none⟩) hB _)

theorem Num_any (n : Int) (w : World) : Calls Tryd.prog 12 #[.int .i64 n] w fun e w' => e = .returned (.agg #[.int .i8 1, .int .i64 n, .string ⟨#[]⟩]) ∧ Below w.heap.size w w' := by
  have HO : Hid (Own3 (w.alloc (.cells #[.int .i8 0, .int .i64 0, .string ⟨#[]⟩] 36)) w.heap.size) := own3 (Below.refl _ _)
  go_enter Tryd.func12, Tryd.ntmps12
  go_wp2
  refine bodyPost_ret (one_results Tryd.results12 (b := w.heap.size) (x0 := .int .i8 1) (x1 := .int .i64 n) (x2 := .string ⟨#[]⟩) ?_ ?_ ?_ ?_) rfl ⟨rfl, ?_⟩
  · rfl
  · go_simp
  · go_simp
  · go_simp
  · exact (Below.refl _ _).alloc (Nat.le_refl _) _
end Go.Proofs.YtnpmhgjbfkgmdaaDoor
