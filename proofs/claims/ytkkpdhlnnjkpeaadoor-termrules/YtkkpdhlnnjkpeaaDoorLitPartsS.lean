import Derived.Test.YtkkpdhlnnjkpeaaDoorLitTwinW
import Derived.Test.YtkkpdhlnnjkpeaaDoorTreeBeyondS
import Derived.Test.YtkkpdhlnnjkpeaaDoorTreeBeyond
namespace Go.Proofs.YtkkpdhlnnjkpeaaDoor
open Go.RowKit Go.Maps
set_option linter.unusedVariables false
set_option linter.unusedSimpArgs false
attribute [local go_sem ↓] Go.wp_at_zero Go.wp_at_succ

theorem next_below {wc u v : World} (h : Below wc.heap.size wc u) (h2 : Below u.heap.size u v) : Below wc.heap.size wc v := h.trans (h2.mono h.size)
theorem wrap_mid {d : Int} (h0 : -1000 ≤ d) (h1 : d ≤ 300000000000000) : IntKind.i64.wrap d = d := by simp [IntKind.wrap, IntKind.bits, IntKind.signed]; omega
set_option maxHeartbeats 3200000 in
theorem literalPartsS_any (d : Nat) (x : Lit4) (p : LP) (w : World) (h : LIs w d x p) (lf : Nat) (hlf : lf ≤ 1048576) :
    Calls Tryd.prog 28 #[x.val p, .int .i64 (lf : Int)] w fun r w' => ∃ n : Int, r = .returned (.int .i64 n) ∧ Below w.heap.size w w' ∧ (0 ≤ n ∧ n ≤ (lf : Int) + 1) ∧ (n ≤ (lf : Int) → x.ts.length ≤ 1048576 ∧ (smallE d x.l ∧ szD d x.l ≤ 1048576) ∧ (smallE d x.r ∧ szD d x.r ≤ 1048576)) := by
  have HE1 : Hid (∀ u, Below w.heap.size w u → Calls Tryd.prog 46 #[x.l.val p.la p.lc, .int .i64 (lf : Int)] u fun r w' => ∃ n : Int, r = .returned (.int .i64 n) ∧ Below u.heap.size u w' ∧ (0 ≤ n ∧ n ≤ (lf : Int) + 1) ∧ (n ≤ (lf : Int) → smallE d x.l ∧ (szD d x.l : Int) ≤ n)) := fun u hu => exprPartsS_any d x.l p.la p.lc u (h.l.below hu) lf hlf
  have HE2 : Hid (∀ u (z : Int), 0 ≤ z → z ≤ 1048576 → Below w.heap.size w u → Calls Tryd.prog 46 #[x.r.val p.ra p.rc, .int .i64 z] u fun r w' => ∃ n : Int, r = .returned (.int .i64 n) ∧ Below u.heap.size u w' ∧ (0 ≤ n ∧ n ≤ z + 1) ∧ (n ≤ z → smallE d x.r ∧ (szD d x.r : Int) ≤ n)) := fun u z h0 h1 hu => by
    obtain ⟨m, rfl⟩ : ∃ m : Nat, z = m := ⟨z.toNat, by omega⟩
    exact exprPartsS_any d x.r p.ra p.rc u (h.r.below hu) m (by omega)
  have BA := (Below.refl w.heap.size w).alloc (Nat.le_refl _) (.cells #[.int .i8 x.k, .string x.pr, .slice p.a x.ts.length p.c, .int .i8 x.rel, .int .i8 x.l.op, .string x.l.t.v, .int .i8 x.l.t.a.k, .int .i64 x.l.t.a.n, .string x.l.t.a.s, .slice p.la x.l.kids.length p.lc, .int .i8 x.r.op, .string x.r.t.v, .int .i8 x.r.t.a.k, .int .i64 x.r.t.a.n, .string x.r.t.a.s, .slice p.ra x.r.kids.length p.rc] 68)
  have HR0 : Hid (RL (w.alloc (.cells #[.int .i8 x.k, .string x.pr, .slice p.a x.ts.length p.c, .int .i8 x.rel, .int .i8 x.l.op, .string x.l.t.v, .int .i8 x.l.t.a.k, .int .i64 x.l.t.a.n, .string x.l.t.a.s, .slice p.la x.l.kids.length p.lc, .int .i8 x.r.op, .string x.r.t.v, .int .i8 x.r.t.a.k, .int .i64 x.r.t.a.n, .string x.r.t.a.s, .slice p.ra x.r.kids.length p.rc] 68)) w.heap.size 68 [.int .i8 x.k, .string x.pr, .slice p.a x.ts.length p.c, .int .i8 x.rel, .int .i8 x.l.op, .string x.l.t.v, .int .i8 x.l.t.a.k, .int .i64 x.l.t.a.n, .string x.l.t.a.s, .slice p.la x.l.kids.length p.lc, .int .i8 x.r.op, .string x.r.t.v, .int .i8 x.r.t.a.k, .int .i64 x.r.t.a.n, .string x.r.t.a.s, .slice p.ra x.r.kids.length p.rc]) := rl_new w #[.int .i8 x.k, .string x.pr, .slice p.a x.ts.length p.c, .int .i8 x.rel, .int .i8 x.l.op, .string x.l.t.v, .int .i8 x.l.t.a.k, .int .i64 x.l.t.a.n, .string x.l.t.a.s, .slice p.la x.l.kids.length p.lc, .int .i8 x.r.op, .string x.r.t.v, .int .i8 x.r.t.a.k, .int .i64 x.r.t.a.n, .string x.r.t.a.s, .slice p.ra x.r.kids.length p.rc] 68
  have HBA : Hid (Below w.heap.size w _) := BA
  have hln := h.ln
  have hlen1 : IntKind.i64.wrap (1 + (x.ts.length : Int)) = 1 + (x.ts.length : Int) := wrap_mid (by omega) (by omega)
  clear h BA
  unfold Lit4.val E.val at *
  go_enter Tryd.func28, Tryd.ntmps28
  go_upto_region 1 with fail
  generalize hWW : w.alloc (.cells #[.int .i8 x.k, .string x.pr, .slice p.a x.ts.length p.c, .int .i8 x.rel, .int .i8 x.l.op, .string x.l.t.v, .int .i8 x.l.t.a.k, .int .i64 x.l.t.a.n, .string x.l.t.a.s, .slice p.la x.l.kids.length p.lc, .int .i8 x.r.op, .string x.r.t.v, .int .i8 x.r.t.a.k, .int .i64 x.r.t.a.n, .string x.r.t.a.s, .slice p.ra x.r.kids.length p.rc] 68) = W at HR0 HBA ⊢
  clear hWW
  have HC : Hid (∀ u, Below W.heap.size W u → Below w.heap.size w u ∧ u.cell? ⟨w.heap.size, 2, none⟩ = some (.slice p.a x.ts.length p.c) ∧ u.cell? ⟨w.heap.size, 4, none⟩ = some (.int .i8 x.l.op) ∧ u.cell? ⟨w.heap.size, 5, none⟩ = some (.string x.l.t.v) ∧ u.cell? ⟨w.heap.size, 6, none⟩ = some (.int .i8 x.l.t.a.k) ∧ u.cell? ⟨w.heap.size, 7, none⟩ = some (.int .i64 x.l.t.a.n) ∧ u.cell? ⟨w.heap.size, 8, none⟩ = some (.string x.l.t.a.s) ∧ u.cell? ⟨w.heap.size, 9, none⟩ = some (.slice p.la x.l.kids.length p.lc)) := fun u hu => by
    have hr := RL.below HR0.out hu
    exact ⟨HBA.out.trans (hu.mono HBA.out.size), (hr.at (j := 2) rfl), (hr.at (j := 4) rfl), (hr.at (j := 5) rfl), (hr.at (j := 6) rfl), (hr.at (j := 7) rfl), (hr.at (j := 8) rfl), (hr.at (j := 9) rfl)⟩
  have hB0 : Below W.heap.size W W.drew := (Below.refl _ _).drew
  have hS0 := HC.out _ (Below.refl _ _)
  go_region_held3 (fun u => (Below W.heap.size W u) ∧ u.cell? ⟨w.heap.size, 2, none⟩ = some (.slice p.a x.ts.length p.c) ∧ u.cell? ⟨w.heap.size, 4, none⟩ = some (.int .i8 x.l.op) ∧ u.cell? ⟨w.heap.size, 5, none⟩ = some (.string x.l.t.v) ∧ u.cell? ⟨w.heap.size, 6, none⟩ = some (.int .i8 x.l.t.a.k) ∧ u.cell? ⟨w.heap.size, 7, none⟩ = some (.int .i64 x.l.t.a.n) ∧ u.cell? ⟨w.heap.size, 8, none⟩ = some (.string x.l.t.a.s) ∧ u.cell? ⟨w.heap.size, 9, none⟩ = some (.slice p.la x.l.kids.length p.lc))
    (first
      | assumption
      | exact ⟨hB0, (HC.out _ hB0).2⟩
      | exact ⟨(by assumption), (HC.out _ (by assumption)).2⟩)
    (first
      | (go_at_call 46; refine Calls.mono (HE1.out _ (HC.out _ (by assumption)).1) ?_; rintro ee wf ⟨n1, rfl, bf, ⟨hn0, hn1⟩, hsm⟩; have HSM : Hid _ := hsm; clear hsm; have bf' := next_below (wc := W) (by assumption) bf; have hw2 : IntKind.i64.wrap (1 + (x.ts.length : Int) + n1) = 1 + (x.ts.length : Int) + n1 := wrap_mid (by omega) (by omega))
      | fail)
  have H1 : Hid (RL wf w.heap.size 68 [.int .i8 x.k, .string x.pr, .slice p.a x.ts.length p.c, .int .i8 x.rel, .int .i8 x.l.op, .string x.l.t.v, .int .i8 x.l.t.a.k, .int .i64 x.l.t.a.n, .string x.l.t.a.s, .slice p.la x.l.kids.length p.lc, .int .i8 x.r.op, .string x.r.t.v, .int .i8 x.r.t.a.k, .int .i64 x.r.t.a.n, .string x.r.t.a.s, .slice p.ra x.r.kids.length p.rc]) := RL.below HR0.out bf'
  have B1 : Hid (Below w.heap.size w wf) := (HC.out _ bf').1
  clear HC hB0 hS0 HR0 HBA bf bf' HE1
  by_cases hbig : (lf : Int) < 1 + (x.ts.length : Int) + n1
  · have hw3 : IntKind.i64.wrap ((lf : Int) + 1) = (lf : Int) + 1 := wrap_mid (by omega) (by omega)
    go_wp2
    go_ret
    exact ⟨_, rfl, B1.out, ⟨by omega, by omega⟩, fun h => absurd h (by omega)⟩
  · have hw3 : IntKind.i64.wrap ((lf : Int) - (1 + (x.ts.length : Int) + n1)) = (lf : Int) - (1 + (x.ts.length : Int) + n1) := wrap_mid (by omega) (by omega)
    have z10 := H1.out.at (j := 10) rfl
    have z11 := H1.out.at (j := 11) rfl
    have z12 := H1.out.at (j := 12) rfl
    have z13 := H1.out.at (j := 13) rfl
    have z14 := H1.out.at (j := 14) rfl
    have z15 := H1.out.at (j := 15) rfl
    go_wp2_with fail
    refine Calls.mono (HE2.out _ _ (by omega) (by omega) B1.out) ?_
    rintro ee w2 ⟨n2, rfl, b2, ⟨hm0, hm1⟩, hsm⟩
    have HS2 : Hid _ := hsm
    have hw4 : IntKind.i64.wrap (1 + (x.ts.length : Int) + n1 + n2) = 1 + (x.ts.length : Int) + n1 + n2 := wrap_mid (by omega) (by omega)
    clear hsm
    go_wp2
    go_ret
    exact ⟨_, rfl, B1.out.trans (b2.mono B1.out.size), ⟨by omega, by omega⟩, fun h => ⟨by omega, ⟨(HSM.out (by omega)).1, by have := (HSM.out (by omega)).2; omega⟩, ⟨(HS2.out (by omega)).1, by have := (HS2.out (by omega)).2; omega⟩⟩⟩
end Go.Proofs.YtkkpdhlnnjkpeaaDoor
