import Derived.Test.YteeiiojiipkplaaDoorLitVars
import Derived.Deep.RegionHeld3
import Derived.Deep.MidRow
namespace Go.Proofs.YteeiiojiipkplaaDoor
open Go.RowKit Go.Maps
set_option linter.unusedVariables false
set_option linter.unusedSimpArgs false
attribute [local go_sem ↓] Go.wp_at_zero Go.wp_at_succ

theorem TwL.is {w w0 : World} {lo d : Nat} {x : Lit4} {p q : LP} (h : TwL w lo d x q) (h0 : LIs w0 d x p) (hs : x.ts.length ≤ 1048576) : LIs w d x q :=
  ⟨h0.kb, h0.rb, h0.pb, h0.ln, h.ts.lt h0.ts hs, h.l.eis h0.l, h.r.eis h0.r⟩
theorem next_of {wc u v : World} (h : Below wc.heap.size wc u) (b : Below u.heap.size u v) : Below wc.heap.size wc v := h.trans (b.mono h.size)
theorem load_lit {u : World} {b : Nat} {cs : List Value} (h : RL u b 38 cs) (hl : cs.length = 16) : (Instr.loadAt 38 (.pointer (some ⟨b, 0, none⟩))).run Tryd.prog u = .ok (.agg cs.toArray) u :=
  run_loadAt_mid u b 0 _ cs _ (fun j v hv => by rw [Nat.zero_add]; exact RL.at h hv) Tryd.underlying38 rfl (by rw [hl]; kernel_rfl)
theorem load_litV {u : World} {b : Nat} {cs : List Value} (h : RL u b 38 cs) (hl : cs.length = 16) : (loadVar 38 ⟨b, 0, none⟩).run Tryd.prog u = .ok (.agg cs.toArray) u :=
  run_loadVar_mid u b 0 _ cs _ (fun j v hv => by rw [Nat.zero_add]; exact RL.at h hv) Tryd.underlying38 rfl (by rw [hl]; kernel_rfl)
theorem one_beyond (d : Nat) (x : Lit4) (p : LP) (w : World) (hX : LIs w d x p) :
    Calls Tryd.prog 4 #[.slice (some ⟨w.heap.size + 1, 0, none⟩) 1 1] ((w.alloc (.cells #[.int .i8 x.k, .string x.pr, .slice p.a x.ts.length p.c, .int .i8 x.rel, .int .i8 x.l.op, .string x.l.t.v, .int .i8 x.l.t.a.k, .int .i64 x.l.t.a.n, .string x.l.t.a.s, .slice p.la x.l.kids.length p.lc, .int .i8 x.r.op, .string x.r.t.v, .int .i8 x.r.t.a.k, .int .i64 x.r.t.a.n, .string x.r.t.a.s, .slice p.ra x.r.kids.length p.rc] 38)).alloc (.cells #[.int .i8 x.k, .string x.pr, .slice p.a x.ts.length p.c, .int .i8 x.rel, .int .i8 x.l.op, .string x.l.t.v, .int .i8 x.l.t.a.k, .int .i64 x.l.t.a.n, .string x.l.t.a.s, .slice p.la x.l.kids.length p.lc, .int .i8 x.r.op, .string x.r.t.v, .int .i8 x.r.t.a.k, .int .i64 x.r.t.a.n, .string x.r.t.a.s, .slice p.ra x.r.kids.length p.rc] 38)) fun r w' => ∃ b : Bool, r = .returned (.bool b) ∧ Below ((w.alloc (.cells #[.int .i8 x.k, .string x.pr, .slice p.a x.ts.length p.c, .int .i8 x.rel, .int .i8 x.l.op, .string x.l.t.v, .int .i8 x.l.t.a.k, .int .i64 x.l.t.a.n, .string x.l.t.a.s, .slice p.la x.l.kids.length p.lc, .int .i8 x.r.op, .string x.r.t.v, .int .i8 x.r.t.a.k, .int .i64 x.r.t.a.n, .string x.r.t.a.s, .slice p.ra x.r.kids.length p.rc] 38)).alloc (.cells #[.int .i8 x.k, .string x.pr, .slice p.a x.ts.length p.c, .int .i8 x.rel, .int .i8 x.l.op, .string x.l.t.v, .int .i8 x.l.t.a.k, .int .i64 x.l.t.a.n, .string x.l.t.a.s, .slice p.la x.l.kids.length p.lc, .int .i8 x.r.op, .string x.r.t.v, .int .i8 x.r.t.a.k, .int .i64 x.r.t.a.n, .string x.r.t.a.s, .slice p.ra x.r.kids.length p.rc] 38)).heap.size ((w.alloc (.cells #[.int .i8 x.k, .string x.pr, .slice p.a x.ts.length p.c, .int .i8 x.rel, .int .i8 x.l.op, .string x.l.t.v, .int .i8 x.l.t.a.k, .int .i64 x.l.t.a.n, .string x.l.t.a.s, .slice p.la x.l.kids.length p.lc, .int .i8 x.r.op, .string x.r.t.v, .int .i8 x.r.t.a.k, .int .i64 x.r.t.a.n, .string x.r.t.a.s, .slice p.ra x.r.kids.length p.rc] 38)).alloc (.cells #[.int .i8 x.k, .string x.pr, .slice p.a x.ts.length p.c, .int .i8 x.rel, .int .i8 x.l.op, .string x.l.t.v, .int .i8 x.l.t.a.k, .int .i64 x.l.t.a.n, .string x.l.t.a.s, .slice p.la x.l.kids.length p.lc, .int .i8 x.r.op, .string x.r.t.v, .int .i8 x.r.t.a.k, .int .i64 x.r.t.a.n, .string x.r.t.a.s, .slice p.ra x.r.kids.length p.rc] 38)) w' ∧ (b = false → smallL d x) := by
  have BA := (Below.refl w.heap.size w).alloc (Nat.le_refl _) (.cells #[.int .i8 x.k, .string x.pr, .slice p.a x.ts.length p.c, .int .i8 x.rel, .int .i8 x.l.op, .string x.l.t.v, .int .i8 x.l.t.a.k, .int .i64 x.l.t.a.n, .string x.l.t.a.s, .slice p.la x.l.kids.length p.lc, .int .i8 x.r.op, .string x.r.t.v, .int .i8 x.r.t.a.k, .int .i64 x.r.t.a.n, .string x.r.t.a.s, .slice p.ra x.r.kids.length p.rc] 38)
  have BB := BA.alloc BA.size (.cells #[.int .i8 x.k, .string x.pr, .slice p.a x.ts.length p.c, .int .i8 x.rel, .int .i8 x.l.op, .string x.l.t.v, .int .i8 x.l.t.a.k, .int .i64 x.l.t.a.n, .string x.l.t.a.s, .slice p.la x.l.kids.length p.lc, .int .i8 x.r.op, .string x.r.t.v, .int .i8 x.r.t.a.k, .int .i64 x.r.t.a.n, .string x.r.t.a.s, .slice p.ra x.r.kids.length p.rc] 38)
  have HR : RL ((w.alloc (.cells #[.int .i8 x.k, .string x.pr, .slice p.a x.ts.length p.c, .int .i8 x.rel, .int .i8 x.l.op, .string x.l.t.v, .int .i8 x.l.t.a.k, .int .i64 x.l.t.a.n, .string x.l.t.a.s, .slice p.la x.l.kids.length p.lc, .int .i8 x.r.op, .string x.r.t.v, .int .i8 x.r.t.a.k, .int .i64 x.r.t.a.n, .string x.r.t.a.s, .slice p.ra x.r.kids.length p.rc] 38)).alloc (.cells #[.int .i8 x.k, .string x.pr, .slice p.a x.ts.length p.c, .int .i8 x.rel, .int .i8 x.l.op, .string x.l.t.v, .int .i8 x.l.t.a.k, .int .i64 x.l.t.a.n, .string x.l.t.a.s, .slice p.la x.l.kids.length p.lc, .int .i8 x.r.op, .string x.r.t.v, .int .i8 x.r.t.a.k, .int .i64 x.r.t.a.n, .string x.r.t.a.s, .slice p.ra x.r.kids.length p.rc] 38)) (w.heap.size + 1) 38 [.int .i8 x.k, .string x.pr, .slice p.a x.ts.length p.c, .int .i8 x.rel, .int .i8 x.l.op, .string x.l.t.v, .int .i8 x.l.t.a.k, .int .i64 x.l.t.a.n, .string x.l.t.a.s, .slice p.la x.l.kids.length p.lc, .int .i8 x.r.op, .string x.r.t.v, .int .i8 x.r.t.a.k, .int .i64 x.r.t.a.n, .string x.r.t.a.s, .slice p.ra x.r.kids.length p.rc] := by
    have := rl_new (w.alloc (.cells #[.int .i8 x.k, .string x.pr, .slice p.a x.ts.length p.c, .int .i8 x.rel, .int .i8 x.l.op, .string x.l.t.v, .int .i8 x.l.t.a.k, .int .i64 x.l.t.a.n, .string x.l.t.a.s, .slice p.la x.l.kids.length p.lc, .int .i8 x.r.op, .string x.r.t.v, .int .i8 x.r.t.a.k, .int .i64 x.r.t.a.n, .string x.r.t.a.s, .slice p.ra x.r.kids.length p.rc] 38)) #[.int .i8 x.k, .string x.pr, .slice p.a x.ts.length p.c, .int .i8 x.rel, .int .i8 x.l.op, .string x.l.t.v, .int .i8 x.l.t.a.k, .int .i64 x.l.t.a.n, .string x.l.t.a.s, .slice p.la x.l.kids.length p.lc, .int .i8 x.r.op, .string x.r.t.v, .int .i8 x.r.t.a.k, .int .i64 x.r.t.a.n, .string x.r.t.a.s, .slice p.ra x.r.kids.length p.rc] 38
    rw [World.size_alloc] at this
    exact this
  refine Calls.mono (beyondLiterals_any d [⟨x, p⟩] (w.heap.size + 1) ((w.alloc (.cells #[.int .i8 x.k, .string x.pr, .slice p.a x.ts.length p.c, .int .i8 x.rel, .int .i8 x.l.op, .string x.l.t.v, .int .i8 x.l.t.a.k, .int .i64 x.l.t.a.n, .string x.l.t.a.s, .slice p.la x.l.kids.length p.lc, .int .i8 x.r.op, .string x.r.t.v, .int .i8 x.r.t.a.k, .int .i64 x.r.t.a.n, .string x.r.t.a.s, .slice p.ra x.r.kids.length p.rc] 38)).alloc (.cells #[.int .i8 x.k, .string x.pr, .slice p.a x.ts.length p.c, .int .i8 x.rel, .int .i8 x.l.op, .string x.l.t.v, .int .i8 x.l.t.a.k, .int .i64 x.l.t.a.n, .string x.l.t.a.s, .slice p.la x.l.kids.length p.lc, .int .i8 x.r.op, .string x.r.t.v, .int .i8 x.r.t.a.k, .int .i64 x.r.t.a.n, .string x.r.t.a.s, .slice p.ra x.r.kids.length p.rc] 38)) (by simp) (World.rowIs.lt HR) (fun i hi j v hj => ?_) (fun y hy => by obtain rfl := List.mem_singleton.1 hy; exact hX.below BB)) ?_
  · obtain rfl : i = 0 := by simpa using hi
    rw [Nat.zero_mul, Nat.zero_add]
    exact HR.at hj
  · rintro r w' ⟨b, rfl, hb, hs⟩
    exact ⟨b, rfl, hb, fun h => hs h ⟨x, p⟩ (by simp)⟩
attribute [-go_sem] loadVar
set_option maxHeartbeats 6400000 in
theorem termLiterals_walk (d : Nat) (x : Lit4) (p : LP) (w : World) (hG : PWt w ∧ KT w) (hX : LIs w (d + 1) x p) :
    Calls Tryd.prog 3 #[x.val p] w fun r w' => r = .returned (.bool true) ∧ Below w.heap.size w w' := by
  have BA := (Below.refl w.heap.size w).alloc (Nat.le_refl _) (.cells #[.int .i8 x.k, .string x.pr, .slice p.a x.ts.length p.c, .int .i8 x.rel, .int .i8 x.l.op, .string x.l.t.v, .int .i8 x.l.t.a.k, .int .i64 x.l.t.a.n, .string x.l.t.a.s, .slice p.la x.l.kids.length p.lc, .int .i8 x.r.op, .string x.r.t.v, .int .i8 x.r.t.a.k, .int .i64 x.r.t.a.n, .string x.r.t.a.s, .slice p.ra x.r.kids.length p.rc] 38)
  have HBB : Hid (Below w.heap.size w ((w.alloc (.cells #[.int .i8 x.k, .string x.pr, .slice p.a x.ts.length p.c, .int .i8 x.rel, .int .i8 x.l.op, .string x.l.t.v, .int .i8 x.l.t.a.k, .int .i64 x.l.t.a.n, .string x.l.t.a.s, .slice p.la x.l.kids.length p.lc, .int .i8 x.r.op, .string x.r.t.v, .int .i8 x.r.t.a.k, .int .i64 x.r.t.a.n, .string x.r.t.a.s, .slice p.ra x.r.kids.length p.rc] 38)).alloc (.cells #[.int .i8 x.k, .string x.pr, .slice p.a x.ts.length p.c, .int .i8 x.rel, .int .i8 x.l.op, .string x.l.t.v, .int .i8 x.l.t.a.k, .int .i64 x.l.t.a.n, .string x.l.t.a.s, .slice p.la x.l.kids.length p.lc, .int .i8 x.r.op, .string x.r.t.v, .int .i8 x.r.t.a.k, .int .i64 x.r.t.a.n, .string x.r.t.a.s, .slice p.ra x.r.kids.length p.rc] 38))) := BA.alloc BA.size (.cells #[.int .i8 x.k, .string x.pr, .slice p.a x.ts.length p.c, .int .i8 x.rel, .int .i8 x.l.op, .string x.l.t.v, .int .i8 x.l.t.a.k, .int .i64 x.l.t.a.n, .string x.l.t.a.s, .slice p.la x.l.kids.length p.lc, .int .i8 x.r.op, .string x.r.t.v, .int .i8 x.r.t.a.k, .int .i64 x.r.t.a.n, .string x.r.t.a.s, .slice p.ra x.r.kids.length p.rc] 38)
  have HBY : Hid _ := one_beyond (d + 1) x p w hX
  have HRX : Hid (RL ((w.alloc (.cells #[.int .i8 x.k, .string x.pr, .slice p.a x.ts.length p.c, .int .i8 x.rel, .int .i8 x.l.op, .string x.l.t.v, .int .i8 x.l.t.a.k, .int .i64 x.l.t.a.n, .string x.l.t.a.s, .slice p.la x.l.kids.length p.lc, .int .i8 x.r.op, .string x.r.t.v, .int .i8 x.r.t.a.k, .int .i64 x.r.t.a.n, .string x.r.t.a.s, .slice p.ra x.r.kids.length p.rc] 38)).alloc (.cells #[.int .i8 x.k, .string x.pr, .slice p.a x.ts.length p.c, .int .i8 x.rel, .int .i8 x.l.op, .string x.l.t.v, .int .i8 x.l.t.a.k, .int .i64 x.l.t.a.n, .string x.l.t.a.s, .slice p.la x.l.kids.length p.lc, .int .i8 x.r.op, .string x.r.t.v, .int .i8 x.r.t.a.k, .int .i64 x.r.t.a.n, .string x.r.t.a.s, .slice p.ra x.r.kids.length p.rc] 38)) w.heap.size 38 [.int .i8 x.k, .string x.pr, .slice p.a x.ts.length p.c, .int .i8 x.rel, .int .i8 x.l.op, .string x.l.t.v, .int .i8 x.l.t.a.k, .int .i64 x.l.t.a.n, .string x.l.t.a.s, .slice p.la x.l.kids.length p.lc, .int .i8 x.r.op, .string x.r.t.v, .int .i8 x.r.t.a.k, .int .i64 x.r.t.a.n, .string x.r.t.a.s, .slice p.ra x.r.kids.length p.rc]) := (rl_new w #[.int .i8 x.k, .string x.pr, .slice p.a x.ts.length p.c, .int .i8 x.rel, .int .i8 x.l.op, .string x.l.t.v, .int .i8 x.l.t.a.k, .int .i64 x.l.t.a.n, .string x.l.t.a.s, .slice p.la x.l.kids.length p.lc, .int .i8 x.r.op, .string x.r.t.v, .int .i8 x.r.t.a.k, .int .i64 x.r.t.a.n, .string x.r.t.a.s, .slice p.ra x.r.kids.length p.rc] 38).below ((Below.refl _ _).alloc (Nat.le_refl _) _)
  have HG : Hid (∀ u, Below w.heap.size w u → PWt u ∧ KT u) := fun u hu => ⟨tab_below hG.1 hu, hG.2.below hu⟩
  have HX : Hid (∀ u, Below w.heap.size w u → LIs u (d + 1) x p) := fun u hu => hX.below hu
  clear hG hX BA
  have hagg := @loadVar.eq_1
  unfold Lit4.val
  go_enter Tryd.func3, Tryd.ntmps3
  go_wp2_with fail
  refine Calls.mono HBY.out ?_
  rintro r w1 ⟨bb, rfl, b1, hsm⟩
  have B1 : Hid (Below w.heap.size w w1) := HBB.out.trans (b1.mono HBB.out.size)
  have HX1 : Hid (RL w1 w.heap.size 38 [.int .i8 x.k, .string x.pr, .slice p.a x.ts.length p.c, .int .i8 x.rel, .int .i8 x.l.op, .string x.l.t.v, .int .i8 x.l.t.a.k, .int .i64 x.l.t.a.n, .string x.l.t.a.s, .slice p.la x.l.kids.length p.lc, .int .i8 x.r.op, .string x.r.t.v, .int .i8 x.r.t.a.k, .int .i64 x.r.t.a.n, .string x.r.t.a.s, .slice p.ra x.r.kids.length p.rc]) := RL.below HRX.out b1
  have HSM : Hid _ := hsm
  clear hsm b1 HBY HBB HRX
  cases bb
  · as_aux_lemma =>
    have hsm2 : smallL (d + 1) x := HSM.out (by first | rfl | trivial)
    have HSL : Hid (smallL (d + 1) x) := hsm2
    clear hsm2 HSM
    have k0 := HX1.out.at (j := 0) rfl
    have k1 := HX1.out.at (j := 1) rfl
    have k2 := HX1.out.at (j := 2) rfl
    have k3 := HX1.out.at (j := 3) rfl
    have k4 := HX1.out.at (j := 4) rfl
    have k5 := HX1.out.at (j := 5) rfl
    have k6 := HX1.out.at (j := 6) rfl
    have k7 := HX1.out.at (j := 7) rfl
    have k8 := HX1.out.at (j := 8) rfl
    have k9 := HX1.out.at (j := 9) rfl
    have k10 := HX1.out.at (j := 10) rfl
    have k11 := HX1.out.at (j := 11) rfl
    have k12 := HX1.out.at (j := 12) rfl
    have k13 := HX1.out.at (j := 13) rfl
    have k14 := HX1.out.at (j := 14) rfl
    have k15 := HX1.out.at (j := 15) rfl
    have HTW0 : Hid _ := twinLiteral_any (d + 1) x p w1 (HG.out _ B1.out).1 HSL.out.1 HSL.out.2.1.1 HSL.out.2.2.1 (HX.out _ B1.out)
    unfold Lit4.val at HTW0
    go_wp2_with fail
    refine Calls.mono HTW0.out ?_
    rintro r w2 ⟨q, rfl, b2, htw⟩
    have B2 : Hid (Below w.heap.size w w2) := B1.out.trans (b2.mono B1.out.size)
    have HX2 : Hid (RL w2 w.heap.size 38 [.int .i8 x.k, .string x.pr, .slice p.a x.ts.length p.c, .int .i8 x.rel, .int .i8 x.l.op, .string x.l.t.v, .int .i8 x.l.t.a.k, .int .i64 x.l.t.a.n, .string x.l.t.a.s, .slice p.la x.l.kids.length p.lc, .int .i8 x.r.op, .string x.r.t.v, .int .i8 x.r.t.a.k, .int .i64 x.r.t.a.n, .string x.r.t.a.s, .slice p.ra x.r.kids.length p.rc]) := RL.below HX1.out b2
    have HTW : Hid (TwL w2 w1.heap.size (d + 1) x q) := htw
    clear k0 k1 k2 k3 k4 k5 k6 k7 k8 k9 k10 k11 k12 k13 k14 k15 b2 htw HX1 HTW0
    have HB3 : Hid (Below w2.heap.size w2 (w2.alloc (.cells #[.int .i8 x.k, .string x.pr, .slice q.a x.ts.length q.c, .int .i8 x.rel, .int .i8 x.l.op, .string x.l.t.v, .int .i8 x.l.t.a.k, .int .i64 x.l.t.a.n, .string x.l.t.a.s, .slice q.la x.l.kids.length q.lc, .int .i8 x.r.op, .string x.r.t.v, .int .i8 x.r.t.a.k, .int .i64 x.r.t.a.n, .string x.r.t.a.s, .slice q.ra x.r.kids.length q.rc] 38))) := (Below.refl w2.heap.size w2).alloc (Nat.le_refl _) _
    have HY : Hid (RL (w2.alloc (.cells #[.int .i8 x.k, .string x.pr, .slice q.a x.ts.length q.c, .int .i8 x.rel, .int .i8 x.l.op, .string x.l.t.v, .int .i8 x.l.t.a.k, .int .i64 x.l.t.a.n, .string x.l.t.a.s, .slice q.la x.l.kids.length q.lc, .int .i8 x.r.op, .string x.r.t.v, .int .i8 x.r.t.a.k, .int .i64 x.r.t.a.n, .string x.r.t.a.s, .slice q.ra x.r.kids.length q.rc] 38)) w2.heap.size 38 [.int .i8 x.k, .string x.pr, .slice q.a x.ts.length q.c, .int .i8 x.rel, .int .i8 x.l.op, .string x.l.t.v, .int .i8 x.l.t.a.k, .int .i64 x.l.t.a.n, .string x.l.t.a.s, .slice q.la x.l.kids.length q.lc, .int .i8 x.r.op, .string x.r.t.v, .int .i8 x.r.t.a.k, .int .i64 x.r.t.a.n, .string x.r.t.a.s, .slice q.ra x.r.kids.length q.rc]) := rl_new w2 #[.int .i8 x.k, .string x.pr, .slice q.a x.ts.length q.c, .int .i8 x.rel, .int .i8 x.l.op, .string x.l.t.v, .int .i8 x.l.t.a.k, .int .i64 x.l.t.a.n, .string x.l.t.a.s, .slice q.la x.l.kids.length q.lc, .int .i8 x.r.op, .string x.r.t.v, .int .i8 x.r.t.a.k, .int .i64 x.r.t.a.n, .string x.r.t.a.s, .slice q.ra x.r.kids.length q.rc] 38
    go_upto_region 4 with fail
    generalize w2.alloc (.cells #[.int .i8 x.k, .string x.pr, .slice q.a x.ts.length q.c, .int .i8 x.rel, .int .i8 x.l.op, .string x.l.t.v, .int .i8 x.l.t.a.k, .int .i64 x.l.t.a.n, .string x.l.t.a.s, .slice q.la x.l.kids.length q.lc, .int .i8 x.r.op, .string x.r.t.v, .int .i8 x.r.t.a.k, .int .i64 x.r.t.a.n, .string x.r.t.a.s, .slice q.ra x.r.kids.length q.rc] 38) = W at HB3 HY ⊢
    as_aux_lemma =>
    have HC : Hid (∀ u, Below W.heap.size W u → (Below w2.heap.size w2 u ∧ Below w.heap.size w u) ∧ u.cell? ⟨w.heap.size, 0, none⟩ = some (.int .i8 x.k) ∧ u.cell? ⟨w.heap.size, 1, none⟩ = some (.string x.pr) ∧ u.cell? ⟨w.heap.size, 2, none⟩ = some (.slice p.a x.ts.length p.c) ∧ u.cell? ⟨w.heap.size, 3, none⟩ = some (.int .i8 x.rel) ∧ u.cell? ⟨w.heap.size, 4, none⟩ = some (.int .i8 x.l.op) ∧ u.cell? ⟨w.heap.size, 5, none⟩ = some (.string x.l.t.v) ∧ u.cell? ⟨w.heap.size, 6, none⟩ = some (.int .i8 x.l.t.a.k) ∧ u.cell? ⟨w.heap.size, 7, none⟩ = some (.int .i64 x.l.t.a.n) ∧ u.cell? ⟨w.heap.size, 8, none⟩ = some (.string x.l.t.a.s) ∧ u.cell? ⟨w.heap.size, 9, none⟩ = some (.slice p.la x.l.kids.length p.lc) ∧ u.cell? ⟨w.heap.size, 10, none⟩ = some (.int .i8 x.r.op) ∧ u.cell? ⟨w.heap.size, 11, none⟩ = some (.string x.r.t.v) ∧ u.cell? ⟨w.heap.size, 12, none⟩ = some (.int .i8 x.r.t.a.k) ∧ u.cell? ⟨w.heap.size, 13, none⟩ = some (.int .i64 x.r.t.a.n) ∧ u.cell? ⟨w.heap.size, 14, none⟩ = some (.string x.r.t.a.s) ∧ u.cell? ⟨w.heap.size, 15, none⟩ = some (.slice p.ra x.r.kids.length p.rc) ∧ u.cell? ⟨w2.heap.size, 0, none⟩ = some (.int .i8 x.k) ∧ u.cell? ⟨w2.heap.size, 1, none⟩ = some (.string x.pr) ∧ u.cell? ⟨w2.heap.size, 2, none⟩ = some (.slice q.a x.ts.length q.c) ∧ u.cell? ⟨w2.heap.size, 3, none⟩ = some (.int .i8 x.rel) ∧ u.cell? ⟨w2.heap.size, 4, none⟩ = some (.int .i8 x.l.op) ∧ u.cell? ⟨w2.heap.size, 5, none⟩ = some (.string x.l.t.v) ∧ u.cell? ⟨w2.heap.size, 6, none⟩ = some (.int .i8 x.l.t.a.k) ∧ u.cell? ⟨w2.heap.size, 7, none⟩ = some (.int .i64 x.l.t.a.n) ∧ u.cell? ⟨w2.heap.size, 8, none⟩ = some (.string x.l.t.a.s) ∧ u.cell? ⟨w2.heap.size, 9, none⟩ = some (.slice q.la x.l.kids.length q.lc) ∧ u.cell? ⟨w2.heap.size, 10, none⟩ = some (.int .i8 x.r.op) ∧ u.cell? ⟨w2.heap.size, 11, none⟩ = some (.string x.r.t.v) ∧ u.cell? ⟨w2.heap.size, 12, none⟩ = some (.int .i8 x.r.t.a.k) ∧ u.cell? ⟨w2.heap.size, 13, none⟩ = some (.int .i64 x.r.t.a.n) ∧ u.cell? ⟨w2.heap.size, 14, none⟩ = some (.string x.r.t.a.s) ∧ u.cell? ⟨w2.heap.size, 15, none⟩ = some (.slice q.ra x.r.kids.length q.rc)) := fun u hu => by
      have hu2 := HB3.out.trans (hu.mono HB3.out.size)
      have hx := RL.below HX2.out hu2
      have hy := RL.below HY.out hu
      exact ⟨⟨hu2, B2.out.trans (hu2.mono B2.out.size)⟩, hx.at (j := 0) rfl, hx.at (j := 1) rfl, hx.at (j := 2) rfl, hx.at (j := 3) rfl, hx.at (j := 4) rfl, hx.at (j := 5) rfl, hx.at (j := 6) rfl, hx.at (j := 7) rfl, hx.at (j := 8) rfl, hx.at (j := 9) rfl, hx.at (j := 10) rfl, hx.at (j := 11) rfl, hx.at (j := 12) rfl, hx.at (j := 13) rfl, hx.at (j := 14) rfl, hx.at (j := 15) rfl, hy.at (j := 0) rfl, hy.at (j := 1) rfl, hy.at (j := 2) rfl, hy.at (j := 3) rfl, hy.at (j := 4) rfl, hy.at (j := 5) rfl, hy.at (j := 6) rfl, hy.at (j := 7) rfl, hy.at (j := 8) rfl, hy.at (j := 9) rfl, hy.at (j := 10) rfl, hy.at (j := 11) rfl, hy.at (j := 12) rfl, hy.at (j := 13) rfl, hy.at (j := 14) rfl, hy.at (j := 15) rfl⟩
    have HEu : Hid (∀ u, Below W.heap.size W u → LIs u (d + 1) x p) := fun u hu => HX.out _ (HC.out u hu).1.2
    have HEt : Hid (∀ u, Below W.heap.size W u → LIs u (d + 1) x q) := fun u hu => (HTW.out.below (HC.out u hu).1.1).is (HX.out _ (HC.out u hu).1.2) HSL.out.1
    obtain ⟨n0, hn0⟩ : ∃ n0, errB (litB x) = n0 := ⟨_, rfl⟩
    obtain ⟨ns, hns⟩ : ∃ ns, vsT [] (termsL (d + 1) x) = ns := ⟨_, rfl⟩
    have hlen : (termsL (d + 1) x).length ≤ 4398046511104 := by
      have h := HSL.out
      unfold smallL szD at h
      unfold termsL
      simp only [List.length_append]
      omega
    have HK1 : Hid (∀ u, Below W.heap.size W u → Calls Tryd.prog 6 #[x.val q] u fun r w' => r = .returned (.int .i64 n0) ∧ Below u.heap.size u w') := fun u hu => by
      have := checkLiteral_any (d + 1) x q u (HG.out _ (HC.out u hu).1.2).2 (HEt.out u hu)
      rw [hn0] at this
      exact this
    have HK2 : Hid (∀ u, Below W.heap.size W u → Calls Tryd.prog 7 #[x.val p] u fun r w' => r = .returned (.int .i64 n0) ∧ Below u.heap.size u w') := fun u hu => by
      have := rcheckLiteral_any (d + 1) x p u (HEu.out u hu)
      rw [hn0] at this
      exact this
    have HK3 : Hid (∀ u, Below W.heap.size W u → Calls Tryd.prog 9 #[x.val q] u fun r w' => ∃ sv, r = .returned sv ∧ Ls w' sv ns.length (ns.flatMap strB) ∧ Below u.heap.size u w') := fun u hu => by
      have := vliteralVars_any (d + 1) x q u (HEt.out u hu) hlen
      rw [hns] at this
      exact this
    have HK4 : Hid (∀ u, Below W.heap.size W u → Calls Tryd.prog 10 #[x.val p] u fun r w' => ∃ sv, r = .returned sv ∧ Ls w' sv ns.length (ns.flatMap strB) ∧ Below u.heap.size u w') := fun u hu => by
      have := rliteralVars_any (d + 1) x p u (HEu.out u hu) HSL.out.1 HSL.out.2.1.2 HSL.out.2.2.2
      rw [hns] at this
      exact this
    have HK7 : Hid (∀ u, Below W.heap.size W u → Calls Tryd.prog 11 #[x.val q, x.val p] u fun r w' => r = .returned (.bool true) ∧ Below u.heap.size u w') := fun u hu => leftLiteral_any (d + 1) x q p w1.heap.size u HSL.out.1 (HG.out _ (HC.out u hu).1.2).1 (HTW.out.below (HC.out u hu).1.1) (HEu.out u hu)
    have HLY : ∀ u, Below W.heap.size W u → (Instr.loadAt 38 (.pointer (some ⟨w2.heap.size, 0, none⟩))).run Tryd.prog u = .ok (x.val q) u := fun u hu => load_lit (RL.below HY.out hu) rfl
    have HLX : ∀ u, Below W.heap.size W u → (Instr.loadAt 38 (.pointer (some ⟨w.heap.size, 0, none⟩))).run Tryd.prog u = .ok (x.val p) u := fun u hu => load_lit (RL.below HX2.out (HB3.out.trans (hu.mono HB3.out.size))) rfl
    have HLY2 : ∀ u, Below W.heap.size W u → (loadVar 38 ⟨w2.heap.size, 0, none⟩).run Tryd.prog u = .ok (x.val q) u := fun u hu => load_litV (RL.below HY.out hu) rfl
    have HLX2 : ∀ u, Below W.heap.size W u → (loadVar 38 ⟨w.heap.size, 0, none⟩).run Tryd.prog u = .ok (x.val p) u := fun u hu => load_litV (RL.below HX2.out (HB3.out.trans (hu.mono HB3.out.size))) rfl
    have hvp : .agg #[.int .i8 x.k, .string x.pr, .slice p.a x.ts.length p.c, .int .i8 x.rel, .int .i8 x.l.op, .string x.l.t.v, .int .i8 x.l.t.a.k, .int .i64 x.l.t.a.n, .string x.l.t.a.s, .slice p.la x.l.kids.length p.lc, .int .i8 x.r.op, .string x.r.t.v, .int .i8 x.r.t.a.k, .int .i64 x.r.t.a.n, .string x.r.t.a.s, .slice p.ra x.r.kids.length p.rc] = x.val p := rfl
    have hvq : .agg #[.int .i8 x.k, .string x.pr, .slice q.a x.ts.length q.c, .int .i8 x.rel, .int .i8 x.l.op, .string x.l.t.v, .int .i8 x.l.t.a.k, .int .i64 x.l.t.a.n, .string x.l.t.a.s, .slice q.la x.l.kids.length q.lc, .int .i8 x.r.op, .string x.r.t.v, .int .i8 x.r.t.a.k, .int .i64 x.r.t.a.n, .string x.r.t.a.s, .slice q.ra x.r.kids.length q.rc] = x.val q := rfl
    rw [hvp, hvq]
    clear hvp hvq
    generalize x.val q = QV at HK1 HK3 HK7 HLY HLY2 ⊢
    generalize x.val p = PV at HK2 HK4 HK7 HLX HLX2 ⊢
    have hB0 : Below W.heap.size W W.drew := (Below.refl _ _).drew
    have HEND : Hid (∀ u, Below W.heap.size W u → Below w.heap.size w u) := fun u hu => (HC.out u hu).1.2
    clear HX2 HY HTW HB3 B2 hn0 hns HEu HEt HG HX HSL B1 hlen HC
    clear hagg
    as_aux_lemma =>
    go_region_held3 (fun u => Below W.heap.size W u)
      (first
        | assumption
        | exact hB0)
      (first
        | (go_at_call 6; refine Calls.mono (HK1.out _ (by assumption)) ?_; rintro ee w3 ⟨rfl, b3⟩; have b3' := next_of (wc := W) (by assumption) b3)
        | (go_at_call 7; refine Calls.mono (HK2.out _ (by assumption)) ?_; rintro ee w4 ⟨rfl, b4⟩; have b4' := next_of (wc := W) (by assumption) b4)
        | (go_at_call 9; refine Calls.mono (HK3.out _ (by assumption)) ?_; rintro ee w5 ⟨sv5, rfl, hs5, b5⟩; have b5' := next_of (wc := W) (by assumption) b5; have HS5 : Hid (∀ u, Below w5.heap.size w5 u → Ls u sv5 ns.length (ns.flatMap strB)) := fun u hu => hs5.below hu; clear hs5)
        | (go_at_call 10; refine Calls.mono (HK4.out _ (by assumption)) ?_; rintro ee w6 ⟨sv6, rfl, hs6, b6⟩; have b6' := next_of (wc := W) (by assumption) b6; have HSM : Hid _ := sameTexts_same sv5 sv6 ns w6 (HS5.out _ b6) hs6; clear hs6)
        | (go_at_call 8; refine Calls.mono HSM.out ?_; rintro ee w7 ⟨rfl, b7⟩; have b7' := next_of (wc := W) (by assumption) b7)
        | (go_at_call 11; refine Calls.mono (HK7.out _ (by assumption)) ?_; rintro ee w10 ⟨rfl, b10⟩; have b10' := next_of (wc := W) (by assumption) b10)
        | fail)
    go_wp2
    go_ret
    exact ⟨rfl, HEND.out _ (by assumption)⟩
  · go_wp2
    go_ret
    exact ⟨rfl, B1.out⟩
end Go.Proofs.YteeiiojiipkplaaDoor
