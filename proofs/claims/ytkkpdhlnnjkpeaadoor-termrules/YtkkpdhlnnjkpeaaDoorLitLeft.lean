import Derived.Test.YtkkpdhlnnjkpeaaDoorLitTwin
namespace Go.Proofs.YtkkpdhlnnjkpeaaDoor
open Go.RowKit Go.Maps
set_option linter.unusedVariables false
set_option linter.unusedSimpArgs false
attribute [local go_sem ↓] Go.wp_at_zero Go.wp_at_succ

/-- a literal's copy, its marks behind its lists -/
structure TwL (w : World) (lo d : Nat) (x : Lit4) (p : LP) : Prop where
  ts : TwT w lo x.ts p.a p.c
  l : TwIs w lo d x.l p.la p.lc
  r : TwIs w lo d x.r p.ra p.rc
theorem TwL.below {w w' : World} {lo d : Nat} {x : Lit4} {p : LP} (h : TwL w lo d x p) (b : Below w.heap.size w w') : TwL w' lo d x p := ⟨h.ts.below b, h.l.below b, h.r.below b⟩
set_option maxHeartbeats 3200000 in
theorem leftLiteral_any (d : Nat) (x : Lit4) (p p0 : LP) (lo : Nat) (w : World) (hs : x.ts.length ≤ 1048576) (hp : PWt w) (hW : TwL w lo d x p) (hX : LIs w d x p0) :
    Calls Tryd.prog 44 #[x.val p, x.val p0] w fun r w' => r = .returned (.bool true) ∧ Below w.heap.size w w' := by
  have BA := (Below.refl w.heap.size w).alloc (Nat.le_refl _) (.cells #[.int .i8 x.k, .string x.pr, .slice p.a x.ts.length p.c, .int .i8 x.rel, .int .i8 x.l.op, .string x.l.t.v, .int .i8 x.l.t.a.k, .int .i64 x.l.t.a.n, .string x.l.t.a.s, .slice p.la x.l.kids.length p.lc, .int .i8 x.r.op, .string x.r.t.v, .int .i8 x.r.t.a.k, .int .i64 x.r.t.a.n, .string x.r.t.a.s, .slice p.ra x.r.kids.length p.rc] 68)
  have BB := BA.alloc BA.size (.cells #[.int .i8 x.k, .string x.pr, .slice p0.a x.ts.length p0.c, .int .i8 x.rel, .int .i8 x.l.op, .string x.l.t.v, .int .i8 x.l.t.a.k, .int .i64 x.l.t.a.n, .string x.l.t.a.s, .slice p0.la x.l.kids.length p0.lc, .int .i8 x.r.op, .string x.r.t.v, .int .i8 x.r.t.a.k, .int .i64 x.r.t.a.n, .string x.r.t.a.s, .slice p0.ra x.r.kids.length p0.rc] 68)
  have HA : Hid (∀ u, Below w.heap.size w u → Calls Tryd.prog 62 #[.agg #[.string x.pr, .slice p.a x.ts.length p.c], .agg #[.string x.pr, .slice p0.a x.ts.length p0.c]] u fun r w' => r = .returned (.bool true) ∧ Below u.heap.size u w') := fun u hu => leftAtom_any x.pr x.ts p.a p0.a p.c p0.c lo u hs (tab_below hp hu) (hW.ts.below hu) (hX.ts.below hu)
  have HE1 : Hid (∀ u, Below w.heap.size w u → Calls Tryd.prog 63 #[x.l.val p.la p.lc, x.l.val p0.la p0.lc] u fun r w' => r = .returned (.bool true) ∧ Below u.heap.size u w') := fun u hu => leftOK d x.l p.la p0.la p.lc p0.lc lo u (tab_below hp hu) (hW.l.below hu) (hX.l.below hu)
  have HE2 : Hid (∀ u, Below w.heap.size w u → Calls Tryd.prog 63 #[x.r.val p.ra p.rc, x.r.val p0.ra p0.rc] u fun r w' => r = .returned (.bool true) ∧ Below u.heap.size u w') := fun u hu => leftOK d x.r p.ra p0.ra p.rc p0.rc lo u (tab_below hp hu) (hW.r.below hu) (hX.r.below hu)
  have HR0 : Hid (RL ((w.alloc (.cells #[.int .i8 x.k, .string x.pr, .slice p.a x.ts.length p.c, .int .i8 x.rel, .int .i8 x.l.op, .string x.l.t.v, .int .i8 x.l.t.a.k, .int .i64 x.l.t.a.n, .string x.l.t.a.s, .slice p.la x.l.kids.length p.lc, .int .i8 x.r.op, .string x.r.t.v, .int .i8 x.r.t.a.k, .int .i64 x.r.t.a.n, .string x.r.t.a.s, .slice p.ra x.r.kids.length p.rc] 68)).alloc (.cells #[.int .i8 x.k, .string x.pr, .slice p0.a x.ts.length p0.c, .int .i8 x.rel, .int .i8 x.l.op, .string x.l.t.v, .int .i8 x.l.t.a.k, .int .i64 x.l.t.a.n, .string x.l.t.a.s, .slice p0.la x.l.kids.length p0.lc, .int .i8 x.r.op, .string x.r.t.v, .int .i8 x.r.t.a.k, .int .i64 x.r.t.a.n, .string x.r.t.a.s, .slice p0.ra x.r.kids.length p0.rc] 68)) w.heap.size 68 [.int .i8 x.k, .string x.pr, .slice p.a x.ts.length p.c, .int .i8 x.rel, .int .i8 x.l.op, .string x.l.t.v, .int .i8 x.l.t.a.k, .int .i64 x.l.t.a.n, .string x.l.t.a.s, .slice p.la x.l.kids.length p.lc, .int .i8 x.r.op, .string x.r.t.v, .int .i8 x.r.t.a.k, .int .i64 x.r.t.a.n, .string x.r.t.a.s, .slice p.ra x.r.kids.length p.rc]) := (rl_new w #[.int .i8 x.k, .string x.pr, .slice p.a x.ts.length p.c, .int .i8 x.rel, .int .i8 x.l.op, .string x.l.t.v, .int .i8 x.l.t.a.k, .int .i64 x.l.t.a.n, .string x.l.t.a.s, .slice p.la x.l.kids.length p.lc, .int .i8 x.r.op, .string x.r.t.v, .int .i8 x.r.t.a.k, .int .i64 x.r.t.a.n, .string x.r.t.a.s, .slice p.ra x.r.kids.length p.rc] 68).below ((Below.refl _ _).alloc (Nat.le_refl _) _)
  have HR1 : Hid (RL ((w.alloc (.cells #[.int .i8 x.k, .string x.pr, .slice p.a x.ts.length p.c, .int .i8 x.rel, .int .i8 x.l.op, .string x.l.t.v, .int .i8 x.l.t.a.k, .int .i64 x.l.t.a.n, .string x.l.t.a.s, .slice p.la x.l.kids.length p.lc, .int .i8 x.r.op, .string x.r.t.v, .int .i8 x.r.t.a.k, .int .i64 x.r.t.a.n, .string x.r.t.a.s, .slice p.ra x.r.kids.length p.rc] 68)).alloc (.cells #[.int .i8 x.k, .string x.pr, .slice p0.a x.ts.length p0.c, .int .i8 x.rel, .int .i8 x.l.op, .string x.l.t.v, .int .i8 x.l.t.a.k, .int .i64 x.l.t.a.n, .string x.l.t.a.s, .slice p0.la x.l.kids.length p0.lc, .int .i8 x.r.op, .string x.r.t.v, .int .i8 x.r.t.a.k, .int .i64 x.r.t.a.n, .string x.r.t.a.s, .slice p0.ra x.r.kids.length p0.rc] 68)) (w.heap.size + 1) 68 [.int .i8 x.k, .string x.pr, .slice p0.a x.ts.length p0.c, .int .i8 x.rel, .int .i8 x.l.op, .string x.l.t.v, .int .i8 x.l.t.a.k, .int .i64 x.l.t.a.n, .string x.l.t.a.s, .slice p0.la x.l.kids.length p0.lc, .int .i8 x.r.op, .string x.r.t.v, .int .i8 x.r.t.a.k, .int .i64 x.r.t.a.n, .string x.r.t.a.s, .slice p0.ra x.r.kids.length p0.rc]) := by
    have := rl_new (w.alloc (.cells #[.int .i8 x.k, .string x.pr, .slice p.a x.ts.length p.c, .int .i8 x.rel, .int .i8 x.l.op, .string x.l.t.v, .int .i8 x.l.t.a.k, .int .i64 x.l.t.a.n, .string x.l.t.a.s, .slice p.la x.l.kids.length p.lc, .int .i8 x.r.op, .string x.r.t.v, .int .i8 x.r.t.a.k, .int .i64 x.r.t.a.n, .string x.r.t.a.s, .slice p.ra x.r.kids.length p.rc] 68)) #[.int .i8 x.k, .string x.pr, .slice p0.a x.ts.length p0.c, .int .i8 x.rel, .int .i8 x.l.op, .string x.l.t.v, .int .i8 x.l.t.a.k, .int .i64 x.l.t.a.n, .string x.l.t.a.s, .slice p0.la x.l.kids.length p0.lc, .int .i8 x.r.op, .string x.r.t.v, .int .i8 x.r.t.a.k, .int .i64 x.r.t.a.n, .string x.r.t.a.s, .slice p0.ra x.r.kids.length p0.rc] 68
    rw [World.size_alloc] at this
    exact this
  have HB : Hid (Below w.heap.size w _) := BB
  clear hp hW hX BA BB
  unfold Lit4.val E.val at *
  go_enter Tryd.func44, Tryd.ntmps44
  go_wp2_with fail
  refine Calls.mono (HA.out _ HB.out) ?_
  rintro ee w1 ⟨rfl, b1⟩
  have B1 : Hid (Below w.heap.size w w1) := HB.out.trans (b1.mono HB.out.size)
  have H0 : Hid (RL w1 w.heap.size 68 _) := RL.below HR0.out b1
  have H1 : Hid (RL w1 (w.heap.size + 1) 68 _) := RL.below HR1.out b1
  have u0 := H0.out.at (j := 0) rfl
  have u1 := H0.out.at (j := 1) rfl
  have u2 := H0.out.at (j := 2) rfl
  have u3 := H0.out.at (j := 3) rfl
  have u4 := H0.out.at (j := 4) rfl
  have u5 := H0.out.at (j := 5) rfl
  have u6 := H0.out.at (j := 6) rfl
  have u7 := H0.out.at (j := 7) rfl
  have u8 := H0.out.at (j := 8) rfl
  have u9 := H0.out.at (j := 9) rfl
  have u10 := H0.out.at (j := 10) rfl
  have u11 := H0.out.at (j := 11) rfl
  have u12 := H0.out.at (j := 12) rfl
  have u13 := H0.out.at (j := 13) rfl
  have u14 := H0.out.at (j := 14) rfl
  have u15 := H0.out.at (j := 15) rfl
  have v0 := H1.out.at (j := 0) rfl
  have v1 := H1.out.at (j := 1) rfl
  have v2 := H1.out.at (j := 2) rfl
  have v3 := H1.out.at (j := 3) rfl
  have v4 := H1.out.at (j := 4) rfl
  have v5 := H1.out.at (j := 5) rfl
  have v6 := H1.out.at (j := 6) rfl
  have v7 := H1.out.at (j := 7) rfl
  have v8 := H1.out.at (j := 8) rfl
  have v9 := H1.out.at (j := 9) rfl
  have v10 := H1.out.at (j := 10) rfl
  have v11 := H1.out.at (j := 11) rfl
  have v12 := H1.out.at (j := 12) rfl
  have v13 := H1.out.at (j := 13) rfl
  have v14 := H1.out.at (j := 14) rfl
  have v15 := H1.out.at (j := 15) rfl
  clear b1 HR0 HR1 HB HA
  go_wp2_with fail
  refine Calls.mono (HE1.out _ B1.out) ?_
  rintro ee w2 ⟨rfl, b2⟩
  have B2 : Hid (Below w.heap.size w w2) := B1.out.trans (b2.mono B1.out.size)
  have H2 : Hid (RL w2 w.heap.size 68 _) := RL.below H0.out b2
  have H3 : Hid (RL w2 (w.heap.size + 1) 68 _) := RL.below H1.out b2
  clear b2 H0 H1 HE1 u0 u1 u2 u3 u4 u5 u6 u7 u8 u9 u10 u11 u12 u13 u14 u15 v0 v1 v2 v3 v4 v5 v6 v7 v8 v9 v10 v11 v12 v13 v14 v15 B1
  have u0 := H2.out.at (j := 0) rfl
  have u1 := H2.out.at (j := 1) rfl
  have u2 := H2.out.at (j := 2) rfl
  have u3 := H2.out.at (j := 3) rfl
  have u4 := H2.out.at (j := 4) rfl
  have u5 := H2.out.at (j := 5) rfl
  have u6 := H2.out.at (j := 6) rfl
  have u7 := H2.out.at (j := 7) rfl
  have u8 := H2.out.at (j := 8) rfl
  have u9 := H2.out.at (j := 9) rfl
  have u10 := H2.out.at (j := 10) rfl
  have u11 := H2.out.at (j := 11) rfl
  have u12 := H2.out.at (j := 12) rfl
  have u13 := H2.out.at (j := 13) rfl
  have u14 := H2.out.at (j := 14) rfl
  have u15 := H2.out.at (j := 15) rfl
  have v0 := H3.out.at (j := 0) rfl
  have v1 := H3.out.at (j := 1) rfl
  have v2 := H3.out.at (j := 2) rfl
  have v3 := H3.out.at (j := 3) rfl
  have v4 := H3.out.at (j := 4) rfl
  have v5 := H3.out.at (j := 5) rfl
  have v6 := H3.out.at (j := 6) rfl
  have v7 := H3.out.at (j := 7) rfl
  have v8 := H3.out.at (j := 8) rfl
  have v9 := H3.out.at (j := 9) rfl
  have v10 := H3.out.at (j := 10) rfl
  have v11 := H3.out.at (j := 11) rfl
  have v12 := H3.out.at (j := 12) rfl
  have v13 := H3.out.at (j := 13) rfl
  have v14 := H3.out.at (j := 14) rfl
  have v15 := H3.out.at (j := 15) rfl
  go_wp2_with fail
  refine Calls.mono (HE2.out _ B2.out) ?_
  rintro ee w3 ⟨rfl, b3⟩
  have B3 : Hid (Below w.heap.size w w3) := B2.out.trans (b3.mono B2.out.size)
  clear b3 H2 H3 HE2 u0 u1 u2 u3 u4 u5 u6 u7 u8 u9 u10 u11 u12 u13 u14 u15 v0 v1 v2 v3 v4 v5 v6 v7 v8 v9 v10 v11 v12 v13 v14 v15 B2
  go_wp2
  go_ret
  exact ⟨rfl, B3.out⟩
end Go.Proofs.YtkkpdhlnnjkpeaaDoor
