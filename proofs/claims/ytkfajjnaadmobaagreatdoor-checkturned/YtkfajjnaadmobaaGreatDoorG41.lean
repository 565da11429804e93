import Derived.Test.YtkfajjnaadmobaaGreatDoorG10
import Derived.Test.YtkfajjnaadmobaaGreatDoorG20
import Derived.Test.YtkfajjnaadmobaaGreatDoorG9
section
namespace Go.Proofs.YtkfajjnaadmobaaGreatDoor
open Go.RowKit Go.Maps
set_option linter.unusedVariables false
set_option linter.unusedSimpArgs false
attribute [local go_sem ↓] Go.wp_at_zero Go.wp_at_succ

set_option maxHeartbeats 6400000 in
theorem twinLiteral_any (d : Nat) (x : Lit4) (p : LP) (w : World) (hp : PWt w) (hs : x.ts.length ≤ 1048576) (hl : smallE d x.l) (hr : smallE d x.r) (hX : LIs w d x p) :
    Calls Tryz.prog 24 #[x.val p] w fun r w' => ∃ p', r = .returned (x.val p') ∧ Below w.heap.size w w' ∧ TwL w' w.heap.size d x p' := by
  have BA := (Below.refl w.heap.size w).alloc (Nat.le_refl _) (.cells #[.int .i8 x.k, .string x.pr, .slice p.a x.ts.length p.c, .int .i8 x.rel, .int .i8 x.l.op, .string x.l.t.v, .int .i8 x.l.t.a.k, .int .i64 x.l.t.a.n, .string x.l.t.a.s, .slice p.la x.l.kids.length p.lc, .int .i8 x.r.op, .string x.r.t.v, .int .i8 x.r.t.a.k, .int .i64 x.r.t.a.n, .string x.r.t.a.s, .slice p.ra x.r.kids.length p.rc] 48)
  have BB := BA.alloc BA.size (.cells #[.int .i8 0, .string ⟨#[]⟩, .slice none 0 0, .int .i8 0, .int .i8 0, .string ⟨#[]⟩, .int .i8 0, .int .i64 0, .string ⟨#[]⟩, .slice none 0 0, .int .i8 0, .string ⟨#[]⟩, .int .i8 0, .int .i64 0, .string ⟨#[]⟩, .slice none 0 0] 48)
  have HA : Hid (∀ u, Below w.heap.size w u → Calls Tryz.prog 40 #[.agg #[.string x.pr, .slice p.a x.ts.length p.c]] u fun r w' => ∃ a', r = .returned (.agg #[.string x.pr, .slice a' x.ts.length (x.ts.length + 1)]) ∧ Below u.heap.size u w' ∧ TwT w' u.heap.size x.ts a' (x.ts.length + 1)) := fun u hu => twinAtom_any x.pr _ x.ts u (tab_below hp hu) (Nat.le_trans hs (by decide)) (hX.ts.below hu)
  have HE1 : Hid (∀ u, Below w.heap.size w u → Calls Tryz.prog 41 #[x.l.val p.la p.lc] u fun r w' => ∃ a', r = .returned (x.l.val a' (x.l.kids.length + 1)) ∧ Below u.heap.size u w' ∧ TwIs w' u.heap.size d x.l a' (x.l.kids.length + 1)) := fun u hu => twinOK d x.l p.la p.lc u (tab_below hp hu) hl (hX.l.below hu)
  have HE2 : Hid (∀ u, Below w.heap.size w u → Calls Tryz.prog 41 #[x.r.val p.ra p.rc] u fun r w' => ∃ a', r = .returned (x.r.val a' (x.r.kids.length + 1)) ∧ Below u.heap.size u w' ∧ TwIs w' u.heap.size d x.r a' (x.r.kids.length + 1)) := fun u hu => twinOK d x.r p.ra p.rc u (tab_below hp hu) hr (hX.r.below hu)
  have HR0 : Hid (RL ((w.alloc (.cells #[.int .i8 x.k, .string x.pr, .slice p.a x.ts.length p.c, .int .i8 x.rel, .int .i8 x.l.op, .string x.l.t.v, .int .i8 x.l.t.a.k, .int .i64 x.l.t.a.n, .string x.l.t.a.s, .slice p.la x.l.kids.length p.lc, .int .i8 x.r.op, .string x.r.t.v, .int .i8 x.r.t.a.k, .int .i64 x.r.t.a.n, .string x.r.t.a.s, .slice p.ra x.r.kids.length p.rc] 48)).alloc (.cells #[.int .i8 0, .string ⟨#[]⟩, .slice none 0 0, .int .i8 0, .int .i8 0, .string ⟨#[]⟩, .int .i8 0, .int .i64 0, .string ⟨#[]⟩, .slice none 0 0, .int .i8 0, .string ⟨#[]⟩, .int .i8 0, .int .i64 0, .string ⟨#[]⟩, .slice none 0 0] 48)) w.heap.size 48 [.int .i8 x.k, .string x.pr, .slice p.a x.ts.length p.c, .int .i8 x.rel, .int .i8 x.l.op, .string x.l.t.v, .int .i8 x.l.t.a.k, .int .i64 x.l.t.a.n, .string x.l.t.a.s, .slice p.la x.l.kids.length p.lc, .int .i8 x.r.op, .string x.r.t.v, .int .i8 x.r.t.a.k, .int .i64 x.r.t.a.n, .string x.r.t.a.s, .slice p.ra x.r.kids.length p.rc]) := (rl_new w #[.int .i8 x.k, .string x.pr, .slice p.a x.ts.length p.c, .int .i8 x.rel, .int .i8 x.l.op, .string x.l.t.v, .int .i8 x.l.t.a.k, .int .i64 x.l.t.a.n, .string x.l.t.a.s, .slice p.la x.l.kids.length p.lc, .int .i8 x.r.op, .string x.r.t.v, .int .i8 x.r.t.a.k, .int .i64 x.r.t.a.n, .string x.r.t.a.s, .slice p.ra x.r.kids.length p.rc] 48).below ((Below.refl _ _).alloc (Nat.le_refl _) _)
  have HR1 : Hid (RL ((w.alloc (.cells #[.int .i8 x.k, .string x.pr, .slice p.a x.ts.length p.c, .int .i8 x.rel, .int .i8 x.l.op, .string x.l.t.v, .int .i8 x.l.t.a.k, .int .i64 x.l.t.a.n, .string x.l.t.a.s, .slice p.la x.l.kids.length p.lc, .int .i8 x.r.op, .string x.r.t.v, .int .i8 x.r.t.a.k, .int .i64 x.r.t.a.n, .string x.r.t.a.s, .slice p.ra x.r.kids.length p.rc] 48)).alloc (.cells #[.int .i8 0, .string ⟨#[]⟩, .slice none 0 0, .int .i8 0, .int .i8 0, .string ⟨#[]⟩, .int .i8 0, .int .i64 0, .string ⟨#[]⟩, .slice none 0 0, .int .i8 0, .string ⟨#[]⟩, .int .i8 0, .int .i64 0, .string ⟨#[]⟩, .slice none 0 0] 48)) (w.heap.size + 1) 48 [.int .i8 0, .string ⟨#[]⟩, .slice none 0 0, .int .i8 0, .int .i8 0, .string ⟨#[]⟩, .int .i8 0, .int .i64 0, .string ⟨#[]⟩, .slice none 0 0, .int .i8 0, .string ⟨#[]⟩, .int .i8 0, .int .i64 0, .string ⟨#[]⟩, .slice none 0 0]) := by
    have := rl_new (w.alloc (.cells #[.int .i8 x.k, .string x.pr, .slice p.a x.ts.length p.c, .int .i8 x.rel, .int .i8 x.l.op, .string x.l.t.v, .int .i8 x.l.t.a.k, .int .i64 x.l.t.a.n, .string x.l.t.a.s, .slice p.la x.l.kids.length p.lc, .int .i8 x.r.op, .string x.r.t.v, .int .i8 x.r.t.a.k, .int .i64 x.r.t.a.n, .string x.r.t.a.s, .slice p.ra x.r.kids.length p.rc] 48)) #[.int .i8 0, .string ⟨#[]⟩, .slice none 0 0, .int .i8 0, .int .i8 0, .string ⟨#[]⟩, .int .i8 0, .int .i64 0, .string ⟨#[]⟩, .slice none 0 0, .int .i8 0, .string ⟨#[]⟩, .int .i8 0, .int .i64 0, .string ⟨#[]⟩, .slice none 0 0] 48
    rw [World.size_alloc] at this
    exact this
  have HB : Hid (Below w.heap.size w _) := BB
  have HSZ : Hid (w.heap.size + 2 ≤ ((w.alloc (.cells #[.int .i8 x.k, .string x.pr, .slice p.a x.ts.length p.c, .int .i8 x.rel, .int .i8 x.l.op, .string x.l.t.v, .int .i8 x.l.t.a.k, .int .i64 x.l.t.a.n, .string x.l.t.a.s, .slice p.la x.l.kids.length p.lc, .int .i8 x.r.op, .string x.r.t.v, .int .i8 x.r.t.a.k, .int .i64 x.r.t.a.n, .string x.r.t.a.s, .slice p.ra x.r.kids.length p.rc] 48)).alloc (.cells #[.int .i8 0, .string ⟨#[]⟩, .slice none 0 0, .int .i8 0, .int .i8 0, .string ⟨#[]⟩, .int .i8 0, .int .i64 0, .string ⟨#[]⟩, .slice none 0 0, .int .i8 0, .string ⟨#[]⟩, .int .i8 0, .int .i64 0, .string ⟨#[]⟩, .slice none 0 0] 48)).heap.size) := by show _ ≤ _; simp
  clear hp hl hr hX BA BB
  unfold Lit4.val E.val at *
  go_enter Tryz.func24, Tryz.ntmps24
  go_wp2_with fail
  refine Calls.mono (HA.out _ HB.out) ?_
  rintro r w1 ⟨a1, rfl, b1, t1⟩
  have B1 : Hid (Below w.heap.size w ((w1.setCell ⟨w.heap.size, 1, none⟩ (.string x.pr)).setCell ⟨w.heap.size, 2, none⟩ (.slice a1 x.ts.length (x.ts.length + 1)))) := (((HB.out.trans (b1.mono HB.out.size)).setCell (p := ⟨w.heap.size, 1, none⟩) (by simp) _).setCell (p := ⟨w.heap.size, 2, none⟩) (by simp) _)
  have H0 : Hid (RL w1 w.heap.size 48 [.int .i8 x.k, .string x.pr, .slice p.a x.ts.length p.c, .int .i8 x.rel, .int .i8 x.l.op, .string x.l.t.v, .int .i8 x.l.t.a.k, .int .i64 x.l.t.a.n, .string x.l.t.a.s, .slice p.la x.l.kids.length p.lc, .int .i8 x.r.op, .string x.r.t.v, .int .i8 x.r.t.a.k, .int .i64 x.r.t.a.n, .string x.r.t.a.s, .slice p.ra x.r.kids.length p.rc]) := RL.below HR0.out b1
  have H1 : Hid (RL ((w1.setCell ⟨w.heap.size, 1, none⟩ (.string x.pr)).setCell ⟨w.heap.size, 2, none⟩ (.slice a1 x.ts.length (x.ts.length + 1))) w.heap.size 48 [.int .i8 x.k, .string x.pr, .slice a1 x.ts.length (x.ts.length + 1), .int .i8 x.rel, .int .i8 x.l.op, .string x.l.t.v, .int .i8 x.l.t.a.k, .int .i64 x.l.t.a.n, .string x.l.t.a.s, .slice p.la x.l.kids.length p.lc, .int .i8 x.r.op, .string x.r.t.v, .int .i8 x.r.t.a.k, .int .i64 x.r.t.a.n, .string x.r.t.a.s, .slice p.ra x.r.kids.length p.rc]) := ((H0.out.set 1 (.string x.pr)).set 2 (.slice a1 x.ts.length (x.ts.length + 1)))
  have K1 : Hid (RL ((w1.setCell ⟨w.heap.size, 1, none⟩ (.string x.pr)).setCell ⟨w.heap.size, 2, none⟩ (.slice a1 x.ts.length (x.ts.length + 1))) (w.heap.size + 1) 48 [.int .i8 0, .string ⟨#[]⟩, .slice none 0 0, .int .i8 0, .int .i8 0, .string ⟨#[]⟩, .int .i8 0, .int .i64 0, .string ⟨#[]⟩, .slice none 0 0, .int .i8 0, .string ⟨#[]⟩, .int .i8 0, .int .i64 0, .string ⟨#[]⟩, .slice none 0 0]) := ((RL.below HR1.out b1).other (by omega) _).other (by omega) _
  have T1 : Hid (TwT ((w1.setCell ⟨w.heap.size, 1, none⟩ (.string x.pr)).setCell ⟨w.heap.size, 2, none⟩ (.slice a1 x.ts.length (x.ts.length + 1))) (w.heap.size + 2) x.ts a1 (x.ts.length + 1)) := ((t1.lower HSZ.out).set (by omega)).set (by omega)
  have Z1 : Hid (w.heap.size + 2 ≤ ((w1.setCell ⟨w.heap.size, 1, none⟩ (.string x.pr)).setCell ⟨w.heap.size, 2, none⟩ (.slice a1 x.ts.length (x.ts.length + 1))).heap.size) := by have := HSZ.out; have := b1.size; show _ ≤ _; simp only [World.size_setCell]; omega
  have u0 := H0.out.at (j := 0) rfl
  have u1 := H0.out.at (j := 1) rfl
  have u2 := H0.out.at (j := 2) rfl
  have u3 := H0.out.at (j := 3) rfl
  have u4 := H0.out.at (j := 4) rfl
  have u5 := H0.out.at (j := 5) rfl
  have u6 := H0.out.at (j := 6) rfl
  have u7 := H0.out.at (j := 7) rfl
  have u8 := H0.out.at (j := 8) rfl
  have u9 := H0.out.at (j := 9) rfl
  have u10 := H0.out.at (j := 10) rfl
  have u11 := H0.out.at (j := 11) rfl
  have u12 := H0.out.at (j := 12) rfl
  have u13 := H0.out.at (j := 13) rfl
  have u14 := H0.out.at (j := 14) rfl
  have u15 := H0.out.at (j := 15) rfl
  have g1 := World.rowIs.frozen H0.out 1
  have g2 := World.rowIs.frozen H0.out 2
  clear b1 HR0 HR1 HB HA t1 HSZ H0
  go_wp2_with fail
  clear u0 u1 u2 u3 u4 u5 u6 u7 u8 u9 u10 u11 u12 u13 u14 u15 g1 g2
  generalize ((w1.setCell ⟨w.heap.size, 1, none⟩ (.string x.pr)).setCell ⟨w.heap.size, 2, none⟩ (.slice a1 x.ts.length (x.ts.length + 1))) = W1 at B1 H1 K1 T1 Z1 ⊢
  refine Calls.mono (HE1.out _ B1.out) ?_
  rintro r w2 ⟨a2, rfl, b2, t2⟩
  have B2 : Hid (Below w.heap.size w ((((((w2.setCell ⟨w.heap.size, 4, none⟩ (.int .i8 x.l.op)).setCell ⟨w.heap.size, 5, none⟩ (.string x.l.t.v)).setCell ⟨w.heap.size, 6, none⟩ (.int .i8 x.l.t.a.k)).setCell ⟨w.heap.size, 7, none⟩ (.int .i64 x.l.t.a.n)).setCell ⟨w.heap.size, 8, none⟩ (.string x.l.t.a.s)).setCell ⟨w.heap.size, 9, none⟩ (.slice a2 x.l.kids.length (x.l.kids.length + 1)))) := (((((((B1.out.trans (b2.mono B1.out.size)).setCell (p := ⟨w.heap.size, 4, none⟩) (by simp) _).setCell (p := ⟨w.heap.size, 5, none⟩) (by simp) _).setCell (p := ⟨w.heap.size, 6, none⟩) (by simp) _).setCell (p := ⟨w.heap.size, 7, none⟩) (by simp) _).setCell (p := ⟨w.heap.size, 8, none⟩) (by simp) _).setCell (p := ⟨w.heap.size, 9, none⟩) (by simp) _)
  have H0 : Hid (RL w2 w.heap.size 48 [.int .i8 x.k, .string x.pr, .slice a1 x.ts.length (x.ts.length + 1), .int .i8 x.rel, .int .i8 x.l.op, .string x.l.t.v, .int .i8 x.l.t.a.k, .int .i64 x.l.t.a.n, .string x.l.t.a.s, .slice p.la x.l.kids.length p.lc, .int .i8 x.r.op, .string x.r.t.v, .int .i8 x.r.t.a.k, .int .i64 x.r.t.a.n, .string x.r.t.a.s, .slice p.ra x.r.kids.length p.rc]) := RL.below H1.out b2
  have H2 : Hid (RL ((((((w2.setCell ⟨w.heap.size, 4, none⟩ (.int .i8 x.l.op)).setCell ⟨w.heap.size, 5, none⟩ (.string x.l.t.v)).setCell ⟨w.heap.size, 6, none⟩ (.int .i8 x.l.t.a.k)).setCell ⟨w.heap.size, 7, none⟩ (.int .i64 x.l.t.a.n)).setCell ⟨w.heap.size, 8, none⟩ (.string x.l.t.a.s)).setCell ⟨w.heap.size, 9, none⟩ (.slice a2 x.l.kids.length (x.l.kids.length + 1))) w.heap.size 48 [.int .i8 x.k, .string x.pr, .slice a1 x.ts.length (x.ts.length + 1), .int .i8 x.rel, .int .i8 x.l.op, .string x.l.t.v, .int .i8 x.l.t.a.k, .int .i64 x.l.t.a.n, .string x.l.t.a.s, .slice a2 x.l.kids.length (x.l.kids.length + 1), .int .i8 x.r.op, .string x.r.t.v, .int .i8 x.r.t.a.k, .int .i64 x.r.t.a.n, .string x.r.t.a.s, .slice p.ra x.r.kids.length p.rc]) := ((((((H0.out.set 4 (.int .i8 x.l.op)).set 5 (.string x.l.t.v)).set 6 (.int .i8 x.l.t.a.k)).set 7 (.int .i64 x.l.t.a.n)).set 8 (.string x.l.t.a.s)).set 9 (.slice a2 x.l.kids.length (x.l.kids.length + 1)))
  have K2 : Hid (RL ((((((w2.setCell ⟨w.heap.size, 4, none⟩ (.int .i8 x.l.op)).setCell ⟨w.heap.size, 5, none⟩ (.string x.l.t.v)).setCell ⟨w.heap.size, 6, none⟩ (.int .i8 x.l.t.a.k)).setCell ⟨w.heap.size, 7, none⟩ (.int .i64 x.l.t.a.n)).setCell ⟨w.heap.size, 8, none⟩ (.string x.l.t.a.s)).setCell ⟨w.heap.size, 9, none⟩ (.slice a2 x.l.kids.length (x.l.kids.length + 1))) (w.heap.size + 1) 48 [.int .i8 0, .string ⟨#[]⟩, .slice none 0 0, .int .i8 0, .int .i8 0, .string ⟨#[]⟩, .int .i8 0, .int .i64 0, .string ⟨#[]⟩, .slice none 0 0, .int .i8 0, .string ⟨#[]⟩, .int .i8 0, .int .i64 0, .string ⟨#[]⟩, .slice none 0 0]) := (((((((RL.below K1.out b2).other (by omega) _).other (by omega) _).other (by omega) _).other (by omega) _).other (by omega) _).other (by omega) _)
  have T2 : Hid (TwT ((((((w2.setCell ⟨w.heap.size, 4, none⟩ (.int .i8 x.l.op)).setCell ⟨w.heap.size, 5, none⟩ (.string x.l.t.v)).setCell ⟨w.heap.size, 6, none⟩ (.int .i8 x.l.t.a.k)).setCell ⟨w.heap.size, 7, none⟩ (.int .i64 x.l.t.a.n)).setCell ⟨w.heap.size, 8, none⟩ (.string x.l.t.a.s)).setCell ⟨w.heap.size, 9, none⟩ (.slice a2 x.l.kids.length (x.l.kids.length + 1))) (w.heap.size + 2) x.ts a1 (x.ts.length + 1)) := (((((((T1.out.below b2).set (by omega)).set (by omega)).set (by omega)).set (by omega)).set (by omega)).set (by omega))
  have L2 : Hid (TwIs ((((((w2.setCell ⟨w.heap.size, 4, none⟩ (.int .i8 x.l.op)).setCell ⟨w.heap.size, 5, none⟩ (.string x.l.t.v)).setCell ⟨w.heap.size, 6, none⟩ (.int .i8 x.l.t.a.k)).setCell ⟨w.heap.size, 7, none⟩ (.int .i64 x.l.t.a.n)).setCell ⟨w.heap.size, 8, none⟩ (.string x.l.t.a.s)).setCell ⟨w.heap.size, 9, none⟩ (.slice a2 x.l.kids.length (x.l.kids.length + 1))) (w.heap.size + 2) d x.l a2 (x.l.kids.length + 1)) := (((((((t2.lower Z1.out).set (by omega)).set (by omega)).set (by omega)).set (by omega)).set (by omega)).set (by omega))
  have Z2 : Hid (w.heap.size + 2 ≤ ((((((w2.setCell ⟨w.heap.size, 4, none⟩ (.int .i8 x.l.op)).setCell ⟨w.heap.size, 5, none⟩ (.string x.l.t.v)).setCell ⟨w.heap.size, 6, none⟩ (.int .i8 x.l.t.a.k)).setCell ⟨w.heap.size, 7, none⟩ (.int .i64 x.l.t.a.n)).setCell ⟨w.heap.size, 8, none⟩ (.string x.l.t.a.s)).setCell ⟨w.heap.size, 9, none⟩ (.slice a2 x.l.kids.length (x.l.kids.length + 1))).heap.size) := by have := Z1.out; have := b2.size; show _ ≤ _; simp only [World.size_setCell]; omega
  have u0 := H0.out.at (j := 0) rfl
  have u1 := H0.out.at (j := 1) rfl
  have u2 := H0.out.at (j := 2) rfl
  have u3 := H0.out.at (j := 3) rfl
  have u4 := H0.out.at (j := 4) rfl
  have u5 := H0.out.at (j := 5) rfl
  have u6 := H0.out.at (j := 6) rfl
  have u7 := H0.out.at (j := 7) rfl
  have u8 := H0.out.at (j := 8) rfl
  have u9 := H0.out.at (j := 9) rfl
  have u10 := H0.out.at (j := 10) rfl
  have u11 := H0.out.at (j := 11) rfl
  have u12 := H0.out.at (j := 12) rfl
  have u13 := H0.out.at (j := 13) rfl
  have u14 := H0.out.at (j := 14) rfl
  have u15 := H0.out.at (j := 15) rfl
  have g4 := World.rowIs.frozen H0.out 4
  have g5 := World.rowIs.frozen H0.out 5
  have g6 := World.rowIs.frozen H0.out 6
  have g7 := World.rowIs.frozen H0.out 7
  have g8 := World.rowIs.frozen H0.out 8
  have g9 := World.rowIs.frozen H0.out 9
  clear b2 B1 H1 K1 T1 Z1 HE1 t2 H0
  go_wp2_with fail
  clear u0 u1 u2 u3 u4 u5 u6 u7 u8 u9 u10 u11 u12 u13 u14 u15 g4 g5 g6 g7 g8 g9
  generalize ((((((w2.setCell ⟨w.heap.size, 4, none⟩ (.int .i8 x.l.op)).setCell ⟨w.heap.size, 5, none⟩ (.string x.l.t.v)).setCell ⟨w.heap.size, 6, none⟩ (.int .i8 x.l.t.a.k)).setCell ⟨w.heap.size, 7, none⟩ (.int .i64 x.l.t.a.n)).setCell ⟨w.heap.size, 8, none⟩ (.string x.l.t.a.s)).setCell ⟨w.heap.size, 9, none⟩ (.slice a2 x.l.kids.length (x.l.kids.length + 1))) = W2 at B2 H2 K2 T2 L2 Z2 ⊢
  refine Calls.mono (HE2.out _ B2.out) ?_
  rintro r w3 ⟨a3, rfl, b3, t3⟩
  have B3 : Hid (Below w.heap.size w w3) := B2.out.trans (b3.mono B2.out.size)
  have H3 : Hid (RL w3 w.heap.size 48 [.int .i8 x.k, .string x.pr, .slice a1 x.ts.length (x.ts.length + 1), .int .i8 x.rel, .int .i8 x.l.op, .string x.l.t.v, .int .i8 x.l.t.a.k, .int .i64 x.l.t.a.n, .string x.l.t.a.s, .slice a2 x.l.kids.length (x.l.kids.length + 1), .int .i8 x.r.op, .string x.r.t.v, .int .i8 x.r.t.a.k, .int .i64 x.r.t.a.n, .string x.r.t.a.s, .slice p.ra x.r.kids.length p.rc]) := RL.below H2.out b3
  have K3 : Hid (RL w3 (w.heap.size + 1) 48 [.int .i8 0, .string ⟨#[]⟩, .slice none 0 0, .int .i8 0, .int .i8 0, .string ⟨#[]⟩, .int .i8 0, .int .i64 0, .string ⟨#[]⟩, .slice none 0 0, .int .i8 0, .string ⟨#[]⟩, .int .i8 0, .int .i64 0, .string ⟨#[]⟩, .slice none 0 0]) := RL.below K2.out b3
  have T3 : Hid (TwT w3 (w.heap.size + 2) x.ts a1 (x.ts.length + 1)) := T2.out.below b3
  have L3 : Hid (TwIs w3 (w.heap.size + 2) d x.l a2 (x.l.kids.length + 1)) := L2.out.below b3
  have R3 : Hid (TwIs w3 (w.heap.size + 2) d x.r a3 (x.r.kids.length + 1)) := t3.lower Z2.out
  clear b3 B2 H2 K2 T2 L2 Z2 HE2 t3
  have u0 := H3.out.at (j := 0) rfl
  have u1 := H3.out.at (j := 1) rfl
  have u2 := H3.out.at (j := 2) rfl
  have u3 := H3.out.at (j := 3) rfl
  have u4 := H3.out.at (j := 4) rfl
  have u5 := H3.out.at (j := 5) rfl
  have u6 := H3.out.at (j := 6) rfl
  have u7 := H3.out.at (j := 7) rfl
  have u8 := H3.out.at (j := 8) rfl
  have u9 := H3.out.at (j := 9) rfl
  have u10 := H3.out.at (j := 10) rfl
  have u11 := H3.out.at (j := 11) rfl
  have u12 := H3.out.at (j := 12) rfl
  have u13 := H3.out.at (j := 13) rfl
  have u14 := H3.out.at (j := 14) rfl
  have u15 := H3.out.at (j := 15) rfl
  have g10 := World.rowIs.frozen H3.out 10
  have g11 := World.rowIs.frozen H3.out 11
  have g12 := World.rowIs.frozen H3.out 12
  have g13 := World.rowIs.frozen H3.out 13
  have g14 := World.rowIs.frozen H3.out 14
  have g15 := World.rowIs.frozen H3.out 15
  have v0 := K3.out.at (j := 0) rfl
  have v1 := K3.out.at (j := 1) rfl
  have v2 := K3.out.at (j := 2) rfl
  have v3 := K3.out.at (j := 3) rfl
  have v4 := K3.out.at (j := 4) rfl
  have v5 := K3.out.at (j := 5) rfl
  have v6 := K3.out.at (j := 6) rfl
  have v7 := K3.out.at (j := 7) rfl
  have v8 := K3.out.at (j := 8) rfl
  have v9 := K3.out.at (j := 9) rfl
  have v10 := K3.out.at (j := 10) rfl
  have v11 := K3.out.at (j := 11) rfl
  have v12 := K3.out.at (j := 12) rfl
  have v13 := K3.out.at (j := 13) rfl
  have v14 := K3.out.at (j := 14) rfl
  have v15 := K3.out.at (j := 15) rfl
  have f0 := World.rowIs.frozen K3.out 0
  have f1 := World.rowIs.frozen K3.out 1
  have f2 := World.rowIs.frozen K3.out 2
  have f3 := World.rowIs.frozen K3.out 3
  have f4 := World.rowIs.frozen K3.out 4
  have f5 := World.rowIs.frozen K3.out 5
  have f6 := World.rowIs.frozen K3.out 6
  have f7 := World.rowIs.frozen K3.out 7
  have f8 := World.rowIs.frozen K3.out 8
  have f9 := World.rowIs.frozen K3.out 9
  have f10 := World.rowIs.frozen K3.out 10
  have f11 := World.rowIs.frozen K3.out 11
  have f12 := World.rowIs.frozen K3.out 12
  have f13 := World.rowIs.frozen K3.out 13
  have f14 := World.rowIs.frozen K3.out 14
  have f15 := World.rowIs.frozen K3.out 15
  go_wp2
  have hF := ((((((((((((((((((((((K3.out.other (i := 10) (by omega : w.heap.size + 1 ≠ w.heap.size) (.int .i8 x.r.op)).other (i := 11) (by omega : w.heap.size + 1 ≠ w.heap.size) (.string x.r.t.v)).other (i := 12) (by omega : w.heap.size + 1 ≠ w.heap.size) (.int .i8 x.r.t.a.k)).other (i := 13) (by omega : w.heap.size + 1 ≠ w.heap.size) (.int .i64 x.r.t.a.n)).other (i := 14) (by omega : w.heap.size + 1 ≠ w.heap.size) (.string x.r.t.a.s)).other (i := 15) (by omega : w.heap.size + 1 ≠ w.heap.size) (.slice a3 x.r.kids.length (x.r.kids.length + 1))).set 0 (.int .i8 x.k)).set 1 (.string x.pr)).set 2 (.slice a1 x.ts.length (x.ts.length + 1))).set 3 (.int .i8 x.rel)).set 4 (.int .i8 x.l.op)).set 5 (.string x.l.t.v)).set 6 (.int .i8 x.l.t.a.k)).set 7 (.int .i64 x.l.t.a.n)).set 8 (.string x.l.t.a.s)).set 9 (.slice a2 x.l.kids.length (x.l.kids.length + 1))).set 10 (.int .i8 x.r.op)).set 11 (.string x.r.t.v)).set 12 (.int .i8 x.r.t.a.k)).set 13 (.int .i64 x.r.t.a.n)).set 14 (.string x.r.t.a.s)).set 15 (.slice a3 x.r.kids.length (x.r.kids.length + 1)))
  refine bodyPost_ret (rl_results Tryz.results24 (v := .agg #[.int .i8 x.k, .string x.pr, .slice a1 x.ts.length (x.ts.length + 1), .int .i8 x.rel, .int .i8 x.l.op, .string x.l.t.v, .int .i8 x.l.t.a.k, .int .i64 x.l.t.a.n, .string x.l.t.a.s, .slice a2 x.l.kids.length (x.l.kids.length + 1), .int .i8 x.r.op, .string x.r.t.v, .int .i8 x.r.t.a.k, .int .i64 x.r.t.a.n, .string x.r.t.a.s, .slice a3 x.r.kids.length (x.r.kids.length + 1)]) rfl (run_loadVar_mid _ _ 0 48 [.int .i8 x.k, .string x.pr, .slice a1 x.ts.length (x.ts.length + 1), .int .i8 x.rel, .int .i8 x.l.op, .string x.l.t.v, .int .i8 x.l.t.a.k, .int .i64 x.l.t.a.n, .string x.l.t.a.s, .slice a2 x.l.kids.length (x.l.kids.length + 1), .int .i8 x.r.op, .string x.r.t.v, .int .i8 x.r.t.a.k, .int .i64 x.r.t.a.n, .string x.r.t.a.s, .slice a3 x.r.kids.length (x.r.kids.length + 1)] _ (RL.range hF) Tryz.underlying48 rfl (by kernel_rfl))) rfl ⟨⟨a1, x.ts.length + 1, a2, x.l.kids.length + 1, a3, x.r.kids.length + 1⟩, rfl, ?_, ?_, ?_, ?_⟩
  · exact ((((((((((((((((((((((B3.out.setCell (p := ⟨w.heap.size, 10, none⟩) (by simp) _).setCell (p := ⟨w.heap.size, 11, none⟩) (by simp) _).setCell (p := ⟨w.heap.size, 12, none⟩) (by simp) _).setCell (p := ⟨w.heap.size, 13, none⟩) (by simp) _).setCell (p := ⟨w.heap.size, 14, none⟩) (by simp) _).setCell (p := ⟨w.heap.size, 15, none⟩) (by simp) _).setCell (p := ⟨w.heap.size + 1, 0, none⟩) (by simp) _).setCell (p := ⟨w.heap.size + 1, 1, none⟩) (by simp) _).setCell (p := ⟨w.heap.size + 1, 2, none⟩) (by simp) _).setCell (p := ⟨w.heap.size + 1, 3, none⟩) (by simp) _).setCell (p := ⟨w.heap.size + 1, 4, none⟩) (by simp) _).setCell (p := ⟨w.heap.size + 1, 5, none⟩) (by simp) _).setCell (p := ⟨w.heap.size + 1, 6, none⟩) (by simp) _).setCell (p := ⟨w.heap.size + 1, 7, none⟩) (by simp) _).setCell (p := ⟨w.heap.size + 1, 8, none⟩) (by simp) _).setCell (p := ⟨w.heap.size + 1, 9, none⟩) (by simp) _).setCell (p := ⟨w.heap.size + 1, 10, none⟩) (by simp) _).setCell (p := ⟨w.heap.size + 1, 11, none⟩) (by simp) _).setCell (p := ⟨w.heap.size + 1, 12, none⟩) (by simp) _).setCell (p := ⟨w.heap.size + 1, 13, none⟩) (by simp) _).setCell (p := ⟨w.heap.size + 1, 14, none⟩) (by simp) _).setCell (p := ⟨w.heap.size + 1, 15, none⟩) (by simp) _)
  · exact ((((((((((((((((((((((T3.out.set (by omega)).set (by omega)).set (by omega)).set (by omega)).set (by omega)).set (by omega)).set (by omega)).set (by omega)).set (by omega)).set (by omega)).set (by omega)).set (by omega)).set (by omega)).set (by omega)).set (by omega)).set (by omega)).set (by omega)).set (by omega)).set (by omega)).set (by omega)).set (by omega)).set (by omega)).lower (by omega)
  · exact ((((((((((((((((((((((L3.out.set (by omega)).set (by omega)).set (by omega)).set (by omega)).set (by omega)).set (by omega)).set (by omega)).set (by omega)).set (by omega)).set (by omega)).set (by omega)).set (by omega)).set (by omega)).set (by omega)).set (by omega)).set (by omega)).set (by omega)).set (by omega)).set (by omega)).set (by omega)).set (by omega)).set (by omega)).lower (by omega)
  · exact ((((((((((((((((((((((R3.out.set (by omega)).set (by omega)).set (by omega)).set (by omega)).set (by omega)).set (by omega)).set (by omega)).set (by omega)).set (by omega)).set (by omega)).set (by omega)).set (by omega)).set (by omega)).set (by omega)).set (by omega)).set (by omega)).set (by omega)).set (by omega)).set (by omega)).set (by omega)).set (by omega)).set (by omega)).lower (by omega)
end Go.Proofs.YtkfajjnaadmobaaGreatDoor
end
section
namespace Go.Proofs.YtkfajjnaadmobaaGreatDoor
open Go.RowKit Go.Maps
set_option linter.unusedVariables false
set_option linter.unusedSimpArgs false
attribute [local go_sem ↓] Go.wp_at_zero Go.wp_at_succ

/-- the terms of a literal, in their order -/
def termsL (d : Nat) (x : Lit4) : List T := x.ts ++ (termsD d x.l ++ termsD d x.r)
/-- a literal's sixteen cells at a place -/
structure LAt (w : World) (g o : Nat) (x : Lit4) (p : LP) : Prop where
  k : w.cell? ⟨g, o, none⟩ = some (.int .i8 x.k)
  pr : w.cell? ⟨g, o + 1, none⟩ = some (.string x.pr)
  ts : w.cell? ⟨g, o + 2, none⟩ = some (.slice p.a x.ts.length p.c)
  rel : w.cell? ⟨g, o + 3, none⟩ = some (.int .i8 x.rel)
  l : XAt w g (o + 4) x.l.op x.l.t (.slice p.la x.l.kids.length p.lc)
  r : XAt w g (o + 10) x.r.op x.r.t (.slice p.ra x.r.kids.length p.rc)
theorem liRule (v : Value) (w : World) : (Instr.typeAssert (.iface 154 v) 20 115 true).run Tryz.prog w = .ok (.tuple #[.pointer none, .bool false]) w := by kernel_rfl
theorem liLiteral (v : Value) (w : World) : (Instr.typeAssert (.iface 154 v) 20 154 true).run Tryz.prog w = .ok (.tuple #[v, .bool true]) w := by kernel_rfl
set_option maxHeartbeats 3200000 in
set_option maxRecDepth 100000 in
theorem walkLiteral_any {B : Nat} {w0 : World} {bo bs bm : Nat} {ns : List ByteArray} {sv : Value} {w : World} (h : Vst B w0 bo bs bm ns sv w) (hB : B = w0.heap.size) (g o : Nat) (hg : g < B) (d : Nat) (x : Lit4) (p : LP) (hx : LAt w0 g o x p) (hL : LIs w0 d x p) (hn : ns.length + (termsL d x).length ≤ 4398046511104) :
    Calls Tryz.prog 64 #[.iface 154 (.pointer (some ⟨g, o, none⟩)), handV bs bo] w fun e w' => (∃ u, e = .returned u) ∧ ∃ sv', Vst B w0 bo bs bm (vsT ns (termsL d x)) sv' w' := by
  unfold termsL at hn ⊢
  simp only [List.length_append] at hn
  rw [vsT_append, vsT_append]
  have l1 := vsT_len x.ts ns
  have l2 := vsT_len (termsD d x.l) (vsT ns x.ts)
  have HA : Hid _ := walkAtom_any h hB g (o + 1) hg p.a p.c x.ts hx.ts hL.ts (by omega)
  have HL1 : Hid (∀ sv1 w1, Vst B w0 bo bs bm (vsT ns x.ts) sv1 w1 → Calls Tryz.prog 64 #[.iface 128 (.pointer (some ⟨g, o + 4, none⟩)), handE bs bo] w1 fun e' w' => (∃ u, e' = .returned u) ∧ ∃ sv', Vst B w0 bo bs bm (vsT (vsT ns x.ts) (termsD d x.l)) sv' w') := fun sv1 w1 hv => walkExpr_any hB d _ sv1 w1 x.l p.la p.lc g (o + 4) hv hg hx.l hL.l (by omega)
  have HL2 : Hid (∀ sv1 w1, Vst B w0 bo bs bm (vsT (vsT ns x.ts) (termsD d x.l)) sv1 w1 → Calls Tryz.prog 64 #[.iface 128 (.pointer (some ⟨g, o + 10, none⟩)), handE bs bo] w1 fun e' w' => (∃ u, e' = .returned u) ∧ ∃ sv', Vst B w0 bo bs bm (vsT (vsT (vsT ns x.ts) (termsD d x.l)) (termsD d x.r)) sv' w') := fun sv1 w1 hv => walkExpr_any hB d _ sv1 w1 x.r p.ra p.rc g (o + 10) hv hg hx.r hL.r (by omega)
  have h1 := liRule (.pointer (some ⟨g, o, none⟩))
  have h2 := liLiteral (.pointer (some ⟨g, o, none⟩))
  unfold handV at HA ⊢
  unfold handE at HL1 HL2
  generalize vsT (vsT (vsT ns x.ts) (termsD d x.l)) (termsD d x.r) = n3 at HL2 ⊢
  generalize vsT (vsT ns x.ts) (termsD d x.l) = n2 at HL1 HL2
  generalize vsT ns x.ts = n1 at HA HL1
  clear l1 l2 h hx hL hn
  go_enter Tryz.func64, Tryz.ntmps64
  go_wp2_with fail
  refine Calls.mono HA.out ?_
  rintro e w1 ⟨⟨u, rfl⟩, sv1, hv1⟩
  go_wp2_with fail
  refine Calls.mono (HL1.out _ _ hv1) ?_
  rintro e w2 ⟨⟨u2, rfl⟩, sv2, hv2⟩
  go_wp2_with fail
  refine Calls.mono (HL2.out _ _ hv2) ?_
  rintro e w3 ⟨⟨u3, rfl⟩, sv3, hv3⟩
  go_wp2
  go_end0
  exact ⟨⟨_, rfl⟩, _, hv3⟩
end Go.Proofs.YtkfajjnaadmobaaGreatDoor
end
