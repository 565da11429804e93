import Derived.Test.YtmmkpcbelofkmaaGreatDoorG46
import Derived.Test.YtmmkpcbelofkmaaGreatDoorG8
import Derived.Test.YtmmkpcbelofkmaaGreatDoorTreeLeft
section
namespace Go.Proofs.YtmmkpcbelofkmaaGreatDoor
open Go.RowKit Go.Maps
set_option linter.unusedVariables false
set_option linter.unusedSimpArgs false
attribute [local go_sem ↓] Go.wp_at_zero Go.wp_at_succ

/-- a block that holds these cells -/
def RL (w : World) (b : Nat) (t : TypeId) (l : List Value) : Prop := w.rowIs b t l.length (fun j => l.getD j .nilIface)
theorem RL.set {w : World} {b : Nat} {t : TypeId} {l : List Value} (h : RL w b t l) (i : Nat) (v : Value) : RL (w.setCell ⟨b, i, none⟩ v) b t (l.set i v) := by
  unfold RL
  rw [List.length_set]
  refine (World.rowIs.set h i v).congr fun j hj => ?_
  by_cases e : j = i
  · subst e
    rw [if_pos rfl]
    simp [List.getD, List.getElem?_set_self hj]
  · rw [if_neg e]
    simp [List.getD, List.getElem?_set_ne (Ne.symm e)]
theorem RL.other {w : World} {b g i : Nat} {t : TypeId} {l : List Value} (h : RL w b t l) (e : b ≠ g) (v : Value) : RL (w.setCell ⟨g, i, none⟩ v) b t l := World.rowIs.setOther h e v
theorem RL.at {w : World} {b : Nat} {t : TypeId} {l : List Value} (h : RL w b t l) {j : Nat} {v : Value} (e : l[j]? = some v) : w.cell? ⟨b, j, none⟩ = some v := by
  obtain ⟨hj, hv⟩ := List.getElem?_eq_some_iff.1 e
  rw [World.rowIs.cell h hj]
  simp [List.getD, e]
theorem RL.below {w w' : World} {b : Nat} {t : TypeId} {l : List Value} (h : RL w b t l) (hb : Below w.heap.size w w') : RL w' b t l := World.rowIs.of_block h (hb.block b (World.rowIs.lt h))
theorem rl_new (w : World) (c : Array Value) (t : TypeId) : RL (w.alloc (.cells c t)) w.heap.size t c.toList := by
  have := World.rowIs_alloc w c t (fun j => c.toList.getD j .nilIface) (fun i hi => by simp [List.getD, hi])
  unfold RL
  rw [Array.length_toList]
  exact this
theorem rl_results {fn : Func} {sl : Nat} {ty : TypeId} (hr : fn.results = #[.cell sl ty]) {W : World} {tmps : Array Value} {b : Nat} {v : Value} (h2 : tmps.getD sl undef = .pointer (some ⟨b, 0, none⟩)) (hl : (loadVar ty ⟨b, 0, none⟩).run Tryz.prog W = .ok v W) :
    (results fn tmps).run Tryz.prog W = .ok v W := by
  have e0 : results fn tmps = (do
      let x ← asAddr (tmps.getD sl undef)
      loadVar ty x) := by
    simp [results, hr]
  rw [e0, h2]
  simp [asAddr, hl, Result.andThen]
theorem RL.range {w : World} {b : Nat} {t : TypeId} {l : List Value} (h : RL w b t l) : ∀ j v, l[j]? = some v → w.cell? ⟨b, 0 + j, none⟩ = some v := fun j v e => by
  rw [Nat.zero_add]
  exact h.at e
set_option maxHeartbeats 1600000 in
theorem twinAtom_any (pr : ByteArray) (v : Value) (ts : List T) (w : World) (hp : PWt w) (hs : ts.length ≤ 4398046511104) (hL : Lt w v ts) :
    Calls Tryz.prog 7 #[.agg #[.string pr, v]] w fun r w' => ∃ a', r = .returned (.agg #[.string pr, .slice a' ts.length (ts.length + 1)]) ∧ Below w.heap.size w w' ∧ TwT w' w.heap.size ts a' (ts.length + 1) := by
  have HL : Hid (Lt w v ts) := hL
  obtain ⟨a, c, rfl, hc1, hc2, -⟩ := hL.form
  have BA := (Below.refl w.heap.size w).alloc (Nat.le_refl _) (.cells #[.string pr, .slice a ts.length c] 28)
  have BB := BA.alloc BA.size (.cells #[.string ⟨#[]⟩, .slice none 0 0] 28)
  have HR0 : Hid (RL _ w.heap.size 28 [.string pr, .slice a ts.length c]) := (rl_new w #[.string pr, .slice a ts.length c] 28).below ((Below.refl _ _).alloc (Nat.le_refl _) (.cells #[.string ⟨#[]⟩, .slice none 0 0] 28))
  have HR1 : Hid (RL ((w.alloc (.cells #[.string pr, .slice a ts.length c] 28)).alloc (.cells #[.string ⟨#[]⟩, .slice none 0 0] 28)) (w.heap.size + 1) 28 [.string ⟨#[]⟩, .slice none 0 0]) := by
    have := rl_new (w.alloc (.cells #[.string pr, .slice a ts.length c] 28)) #[.string ⟨#[]⟩, .slice none 0 0] 28
    rw [World.size_alloc] at this
    exact this
  have HT : Hid _ := twinTerms_any _ ts _ (tab_below hp BB) hs (HL.out.below BB)
  have HBB : Hid (Below w.heap.size w _) := BB
  clear hp BA BB HL hL
  go_enter Tryz.func7, Tryz.ntmps7
  go_wp2_with fail
  refine Calls.mono HT.out ?_
  rintro r w1 ⟨a', rfl, b1, htw⟩
  have HA : Hid (RL w1 w.heap.size 28 [.string pr, .slice a ts.length c]) := RL.below HR0.out b1
  have HB : Hid (RL w1 (w.heap.size + 1) 28 [.string ⟨#[]⟩, .slice none 0 0]) := RL.below HR1.out b1
  have HTW : Hid (TwT w1 (w.heap.size + 2) ts a' (ts.length + 1)) := htw.lower (by simp)
  have HB1 : Hid (Below w.heap.size w w1) := HBB.out.trans (b1.mono HBB.out.size)
  have x0 := HA.out.at (j := 0) rfl
  have x1 := HA.out.at (j := 1) rfl
  have g1 := World.rowIs.frozen HA.out 1
  have y0 := HB.out.at (j := 0) rfl
  have y1 := HB.out.at (j := 1) rfl
  have f0 := World.rowIs.frozen HB.out 0
  have f1 := World.rowIs.frozen HB.out 1
  clear b1 htw HR0 HR1 HT HBB
  go_wp2
  have hF := (RL.other (i := 1) HB.out (by omega : w.heap.size + 1 ≠ w.heap.size) (.slice a' ts.length (ts.length + 1))).set 0 (.string pr) |>.set 1 (.slice a' ts.length (ts.length + 1))
  refine bodyPost_ret (rl_results Tryz.results7 (v := .agg #[.string pr, .slice a' ts.length (ts.length + 1)]) rfl (run_loadVar_mid _ _ 0 28 [.string pr, .slice a' ts.length (ts.length + 1)] _ hF.range Tryz.underlying28 rfl (by kernel_rfl))) rfl ⟨a', rfl, ?_, ?_⟩
  · exact ((HB1.out.setCell (p := ⟨w.heap.size, 1, none⟩) (Nat.le_refl _) _).setCell (p := ⟨w.heap.size + 1, 0, none⟩) (by simp) _).setCell (p := ⟨w.heap.size + 1, 1, none⟩) (by simp) _
  · exact (((HTW.out.set (by omega)).set (by omega)).set (by omega)).lower (by omega)
set_option maxHeartbeats 1600000 in
theorem leftAtom_any (pr : ByteArray) (ts : List T) (a a0 : Option Addr) (c c0 lo : Nat) (w : World) (hs : ts.length ≤ 4398046511104) (hp : PWt w) (hW : TwT w lo ts a c) (hL : Lt w (.slice a0 ts.length c0) ts) :
    Calls Tryz.prog 12 #[.agg #[.string pr, .slice a ts.length c], .agg #[.string pr, .slice a0 ts.length c0]] w fun r w' => r = .returned (.bool true) ∧ Below w.heap.size w w' := by
  have BA := (Below.refl w.heap.size w).alloc (Nat.le_refl _) (.cells #[.string pr, .slice a ts.length c] 28)
  have BB := BA.alloc BA.size (.cells #[.string pr, .slice a0 ts.length c0] 28)
  have HL : Hid _ := leftTerms_any ts a a0 c c0 lo _ hs (tab_below hp BB) (hW.below BB) (hL.below BB)
  have HB : Hid (Below w.heap.size w _) := BB
  have e0 : (pr.toList == pr.toList) = true := by simp
  clear hp hW hL BA BB
  go_enter Tryz.func12, Tryz.ntmps12
  go_wp2_with (go_at_call 29; refine Calls.mono HL.out ?_; rintro ee w1 ⟨rfl, b1⟩)
  go_ret
  exact ⟨rfl, HB.out.trans (b1.mono HB.out.size)⟩
end Go.Proofs.YtmmkpcbelofkmaaGreatDoor
end
section
namespace Go.Proofs.YtmmkpcbelofkmaaGreatDoor
open Go.RowKit Go.Maps
set_option linter.unusedVariables false
set_option linter.unusedSimpArgs false
attribute [local go_sem ↓] Go.wp_at_zero Go.wp_at_succ

/-- a literal's copy, its marks behind its lists -/
structure TwL (w : World) (lo d : Nat) (x : Lit4) (p : LP) : Prop where
  ts : TwT w lo x.ts p.a p.c
  l : TwIs w lo d x.l p.la p.lc
  r : TwIs w lo d x.r p.ra p.rc
theorem TwL.below {w w' : World} {lo d : Nat} {x : Lit4} {p : LP} (h : TwL w lo d x p) (b : Below w.heap.size w w') : TwL w' lo d x p := ⟨h.ts.below b, h.l.below b, h.r.below b⟩
set_option maxHeartbeats 3200000 in
theorem leftLiteral_any (d : Nat) (x : Lit4) (p p0 : LP) (lo : Nat) (w : World) (hs : x.ts.length ≤ 1048576) (hp : PWt w) (hW : TwL w lo d x p) (hX : LIs w d x p0) :
    Calls Tryz.prog 113 #[x.val p, x.val p0] w fun r w' => r = .returned (.bool true) ∧ Below w.heap.size w w' := by
  have BA := (Below.refl w.heap.size w).alloc (Nat.le_refl _) (.cells #[.int .i8 x.k, .string x.pr, .slice p.a x.ts.length p.c, .int .i8 x.rel, .int .i8 x.l.op, .string x.l.t.v, .int .i8 x.l.t.a.k, .int .i64 x.l.t.a.n, .string x.l.t.a.s, .slice p.la x.l.kids.length p.lc, .int .i8 x.r.op, .string x.r.t.v, .int .i8 x.r.t.a.k, .int .i64 x.r.t.a.n, .string x.r.t.a.s, .slice p.ra x.r.kids.length p.rc] 109)
  have BB := BA.alloc BA.size (.cells #[.int .i8 x.k, .string x.pr, .slice p0.a x.ts.length p0.c, .int .i8 x.rel, .int .i8 x.l.op, .string x.l.t.v, .int .i8 x.l.t.a.k, .int .i64 x.l.t.a.n, .string x.l.t.a.s, .slice p0.la x.l.kids.length p0.lc, .int .i8 x.r.op, .string x.r.t.v, .int .i8 x.r.t.a.k, .int .i64 x.r.t.a.n, .string x.r.t.a.s, .slice p0.ra x.r.kids.length p0.rc] 109)
  have HA : Hid (∀ u, Below w.heap.size w u → Calls Tryz.prog 12 #[.agg #[.string x.pr, .slice p.a x.ts.length p.c], .agg #[.string x.pr, .slice p0.a x.ts.length p0.c]] u fun r w' => r = .returned (.bool true) ∧ Below u.heap.size u w') := fun u hu => leftAtom_any x.pr x.ts p.a p0.a p.c p0.c lo u (Nat.le_trans hs (by decide)) (tab_below hp hu) (hW.ts.below hu) (hX.ts.below hu)
  have HE1 : Hid (∀ u, Below w.heap.size w u → Calls Tryz.prog 142 #[x.l.val p.la p.lc, x.l.val p0.la p0.lc] u fun r w' => r = .returned (.bool true) ∧ Below u.heap.size u w') := fun u hu => leftOK d x.l p.la p0.la p.lc p0.lc lo u (tab_below hp hu) (hW.l.below hu) (hX.l.below hu)
  have HE2 : Hid (∀ u, Below w.heap.size w u → Calls Tryz.prog 142 #[x.r.val p.ra p.rc, x.r.val p0.ra p0.rc] u fun r w' => r = .returned (.bool true) ∧ Below u.heap.size u w') := fun u hu => leftOK d x.r p.ra p0.ra p.rc p0.rc lo u (tab_below hp hu) (hW.r.below hu) (hX.r.below hu)
  have HR0 : Hid (RL ((w.alloc (.cells #[.int .i8 x.k, .string x.pr, .slice p.a x.ts.length p.c, .int .i8 x.rel, .int .i8 x.l.op, .string x.l.t.v, .int .i8 x.l.t.a.k, .int .i64 x.l.t.a.n, .string x.l.t.a.s, .slice p.la x.l.kids.length p.lc, .int .i8 x.r.op, .string x.r.t.v, .int .i8 x.r.t.a.k, .int .i64 x.r.t.a.n, .string x.r.t.a.s, .slice p.ra x.r.kids.length p.rc] 109)).alloc (.cells #[.int .i8 x.k, .string x.pr, .slice p0.a x.ts.length p0.c, .int .i8 x.rel, .int .i8 x.l.op, .string x.l.t.v, .int .i8 x.l.t.a.k, .int .i64 x.l.t.a.n, .string x.l.t.a.s, .slice p0.la x.l.kids.length p0.lc, .int .i8 x.r.op, .string x.r.t.v, .int .i8 x.r.t.a.k, .int .i64 x.r.t.a.n, .string x.r.t.a.s, .slice p0.ra x.r.kids.length p0.rc] 109)) w.heap.size 109 [.int .i8 x.k, .string x.pr, .slice p.a x.ts.length p.c, .int .i8 x.rel, .int .i8 x.l.op, .string x.l.t.v, .int .i8 x.l.t.a.k, .int .i64 x.l.t.a.n, .string x.l.t.a.s, .slice p.la x.l.kids.length p.lc, .int .i8 x.r.op, .string x.r.t.v, .int .i8 x.r.t.a.k, .int .i64 x.r.t.a.n, .string x.r.t.a.s, .slice p.ra x.r.kids.length p.rc]) := (rl_new w #[.int .i8 x.k, .string x.pr, .slice p.a x.ts.length p.c, .int .i8 x.rel, .int .i8 x.l.op, .string x.l.t.v, .int .i8 x.l.t.a.k, .int .i64 x.l.t.a.n, .string x.l.t.a.s, .slice p.la x.l.kids.length p.lc, .int .i8 x.r.op, .string x.r.t.v, .int .i8 x.r.t.a.k, .int .i64 x.r.t.a.n, .string x.r.t.a.s, .slice p.ra x.r.kids.length p.rc] 109).below ((Below.refl _ _).alloc (Nat.le_refl _) _)
  have HR1 : Hid (RL ((w.alloc (.cells #[.int .i8 x.k, .string x.pr, .slice p.a x.ts.length p.c, .int .i8 x.rel, .int .i8 x.l.op, .string x.l.t.v, .int .i8 x.l.t.a.k, .int .i64 x.l.t.a.n, .string x.l.t.a.s, .slice p.la x.l.kids.length p.lc, .int .i8 x.r.op, .string x.r.t.v, .int .i8 x.r.t.a.k, .int .i64 x.r.t.a.n, .string x.r.t.a.s, .slice p.ra x.r.kids.length p.rc] 109)).alloc (.cells #[.int .i8 x.k, .string x.pr, .slice p0.a x.ts.length p0.c, .int .i8 x.rel, .int .i8 x.l.op, .string x.l.t.v, .int .i8 x.l.t.a.k, .int .i64 x.l.t.a.n, .string x.l.t.a.s, .slice p0.la x.l.kids.length p0.lc, .int .i8 x.r.op, .string x.r.t.v, .int .i8 x.r.t.a.k, .int .i64 x.r.t.a.n, .string x.r.t.a.s, .slice p0.ra x.r.kids.length p0.rc] 109)) (w.heap.size + 1) 109 [.int .i8 x.k, .string x.pr, .slice p0.a x.ts.length p0.c, .int .i8 x.rel, .int .i8 x.l.op, .string x.l.t.v, .int .i8 x.l.t.a.k, .int .i64 x.l.t.a.n, .string x.l.t.a.s, .slice p0.la x.l.kids.length p0.lc, .int .i8 x.r.op, .string x.r.t.v, .int .i8 x.r.t.a.k, .int .i64 x.r.t.a.n, .string x.r.t.a.s, .slice p0.ra x.r.kids.length p0.rc]) := by
    have := rl_new (w.alloc (.cells #[.int .i8 x.k, .string x.pr, .slice p.a x.ts.length p.c, .int .i8 x.rel, .int .i8 x.l.op, .string x.l.t.v, .int .i8 x.l.t.a.k, .int .i64 x.l.t.a.n, .string x.l.t.a.s, .slice p.la x.l.kids.length p.lc, .int .i8 x.r.op, .string x.r.t.v, .int .i8 x.r.t.a.k, .int .i64 x.r.t.a.n, .string x.r.t.a.s, .slice p.ra x.r.kids.length p.rc] 109)) #[.int .i8 x.k, .string x.pr, .slice p0.a x.ts.length p0.c, .int .i8 x.rel, .int .i8 x.l.op, .string x.l.t.v, .int .i8 x.l.t.a.k, .int .i64 x.l.t.a.n, .string x.l.t.a.s, .slice p0.la x.l.kids.length p0.lc, .int .i8 x.r.op, .string x.r.t.v, .int .i8 x.r.t.a.k, .int .i64 x.r.t.a.n, .string x.r.t.a.s, .slice p0.ra x.r.kids.length p0.rc] 109
    rw [World.size_alloc] at this
    exact this
  have HB : Hid (Below w.heap.size w _) := BB
  clear hp hW hX BA BB
  unfold Lit4.val E.val at *
  go_enter Tryz.func113, Tryz.ntmps113
  go_wp2_with fail
  refine Calls.mono (HA.out _ HB.out) ?_
  rintro ee w1 ⟨rfl, b1⟩
  have B1 : Hid (Below w.heap.size w w1) := HB.out.trans (b1.mono HB.out.size)
  have H0 : Hid (RL w1 w.heap.size 109 _) := RL.below HR0.out b1
  have H1 : Hid (RL w1 (w.heap.size + 1) 109 _) := RL.below HR1.out b1
  have u0 := H0.out.at (j := 0) rfl
  have u1 := H0.out.at (j := 1) rfl
  have u2 := H0.out.at (j := 2) rfl
  have u3 := H0.out.at (j := 3) rfl
  have u4 := H0.out.at (j := 4) rfl
  have u5 := H0.out.at (j := 5) rfl
  have u6 := H0.out.at (j := 6) rfl
  have u7 := H0.out.at (j := 7) rfl
  have u8 := H0.out.at (j := 8) rfl
  have u9 := H0.out.at (j := 9) rfl
  have u10 := H0.out.at (j := 10) rfl
  have u11 := H0.out.at (j := 11) rfl
  have u12 := H0.out.at (j := 12) rfl
  have u13 := H0.out.at (j := 13) rfl
  have u14 := H0.out.at (j := 14) rfl
  have u15 := H0.out.at (j := 15) rfl
  have v0 := H1.out.at (j := 0) rfl
  have v1 := H1.out.at (j := 1) rfl
  have v2 := H1.out.at (j := 2) rfl
  have v3 := H1.out.at (j := 3) rfl
  have v4 := H1.out.at (j := 4) rfl
  have v5 := H1.out.at (j := 5) rfl
  have v6 := H1.out.at (j := 6) rfl
  have v7 := H1.out.at (j := 7) rfl
  have v8 := H1.out.at (j := 8) rfl
  have v9 := H1.out.at (j := 9) rfl
  have v10 := H1.out.at (j := 10) rfl
  have v11 := H1.out.at (j := 11) rfl
  have v12 := H1.out.at (j := 12) rfl
  have v13 := H1.out.at (j := 13) rfl
  have v14 := H1.out.at (j := 14) rfl
  have v15 := H1.out.at (j := 15) rfl
  clear b1 HR0 HR1 HB HA
  go_wp2_with fail
  refine Calls.mono (HE1.out _ B1.out) ?_
  rintro ee w2 ⟨rfl, b2⟩
  have B2 : Hid (Below w.heap.size w w2) := B1.out.trans (b2.mono B1.out.size)
  have H2 : Hid (RL w2 w.heap.size 109 _) := RL.below H0.out b2
  have H3 : Hid (RL w2 (w.heap.size + 1) 109 _) := RL.below H1.out b2
  clear b2 H0 H1 HE1 u0 u1 u2 u3 u4 u5 u6 u7 u8 u9 u10 u11 u12 u13 u14 u15 v0 v1 v2 v3 v4 v5 v6 v7 v8 v9 v10 v11 v12 v13 v14 v15 B1
  have u0 := H2.out.at (j := 0) rfl
  have u1 := H2.out.at (j := 1) rfl
  have u2 := H2.out.at (j := 2) rfl
  have u3 := H2.out.at (j := 3) rfl
  have u4 := H2.out.at (j := 4) rfl
  have u5 := H2.out.at (j := 5) rfl
  have u6 := H2.out.at (j := 6) rfl
  have u7 := H2.out.at (j := 7) rfl
  have u8 := H2.out.at (j := 8) rfl
  have u9 := H2.out.at (j := 9) rfl
  have u10 := H2.out.at (j := 10) rfl
  have u11 := H2.out.at (j := 11) rfl
  have u12 := H2.out.at (j := 12) rfl
  have u13 := H2.out.at (j := 13) rfl
  have u14 := H2.out.at (j := 14) rfl
  have u15 := H2.out.at (j := 15) rfl
  have v0 := H3.out.at (j := 0) rfl
  have v1 := H3.out.at (j := 1) rfl
  have v2 := H3.out.at (j := 2) rfl
  have v3 := H3.out.at (j := 3) rfl
  have v4 := H3.out.at (j := 4) rfl
  have v5 := H3.out.at (j := 5) rfl
  have v6 := H3.out.at (j := 6) rfl
  have v7 := H3.out.at (j := 7) rfl
  have v8 := H3.out.at (j := 8) rfl
  have v9 := H3.out.at (j := 9) rfl
  have v10 := H3.out.at (j := 10) rfl
  have v11 := H3.out.at (j := 11) rfl
  have v12 := H3.out.at (j := 12) rfl
  have v13 := H3.out.at (j := 13) rfl
  have v14 := H3.out.at (j := 14) rfl
  have v15 := H3.out.at (j := 15) rfl
  go_wp2_with fail
  refine Calls.mono (HE2.out _ B2.out) ?_
  rintro ee w3 ⟨rfl, b3⟩
  have B3 : Hid (Below w.heap.size w w3) := B2.out.trans (b3.mono B2.out.size)
  clear b3 H2 H3 HE2 u0 u1 u2 u3 u4 u5 u6 u7 u8 u9 u10 u11 u12 u13 u14 u15 v0 v1 v2 v3 v4 v5 v6 v7 v8 v9 v10 v11 v12 v13 v14 v15 B2
  go_wp2
  go_ret
  exact ⟨rfl, B3.out⟩
end Go.Proofs.YtmmkpcbelofkmaaGreatDoor
end
