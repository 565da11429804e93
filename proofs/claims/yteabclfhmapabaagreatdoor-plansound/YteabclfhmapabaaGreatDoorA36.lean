import Derived.Test.YteabclfhmapabaaGreatDoorA35
section
namespace Go.Proofs.YteabclfhmapabaaGreatDoor
open Go.RowKit Go.Maps
set_option linter.unusedVariables false
set_option linter.unusedSimpArgs false
attribute [local go_sem ↓] Go.wp_at_zero Go.wp_at_succ
variable {dec : Dec}

theorem eqE_iff (e f : E) : e = f ↔ e.op = f.op ∧ e.t = f.t ∧ e.kids = f.kids := by
  obtain ⟨o, t, k⟩ := e
  obtain ⟨o', t', k'⟩ := f
  simp only [op_mk, t_mk, kids_mk, E.mk.injEq]
theorem next_ofU {wc u v : World} (h : Below wc.heap.size wc u) (b : Below u.heap.size u v) : Below wc.heap.size wc v := h.trans (b.mono h.size)
/-- what SameExpr says of two expressions of at most d levels -/
def SameOK (dec : Dec) (d : Nat) : Prop := ∀ (e f : E) (a a0 : Option Addr) (c c0 : Nat) (w : World), EIs w d e a c → EIs w d f a0 c0 →
  Calls Tryz.prog 77 #[e.val a c, f.val a0 c0] w fun r w' => r = .returned (.bool (eqB dec e f)) ∧ Below w.heap.size w w'
set_option maxHeartbeats 3200000 in
theorem sameExprs_any (d : Nat) (hT : SameOK dec d) (e f : E) (a a0 : Option Addr) (c c0 : Nat) (w : World) (hW : EIs w (d + 1) e a c) (hE : EIs w (d + 1) f a0 c0) :
    Calls Tryz.prog 91 #[.slice a e.kids.length c, .slice a0 f.kids.length c0] w fun r w' => r = .returned (.bool (eqB dec e.kids f.kids)) ∧ Below w.heap.size w w' := by
  obtain ⟨op, t, kids⟩ := e
  obtain ⟨op', t', kids'⟩ := f
  obtain ⟨hop, htw, hc1, hc2, hk⟩ := hW
  obtain ⟨hop', htw', hc1', hc2', hk'⟩ := hE
  simp only [op_mk, t_mk, kids_mk] at *
  have HT : Hid _ := hT
  have HK : Hid _ := hk
  have HK' : Hid _ := hk'
  have hlen := hop.2
  have hlen' := hop'.2
  obtain ⟨BB, hBB⟩ : ∃ BB, eqB dec kids kids' = BB := ⟨_, rfl⟩
  rw [hBB]
  have HBB : Hid (eqB dec kids kids' = BB) := hBB
  clear hT hk hk' hop hop' htw htw' hc2 hc2' hBB
  by_cases hll : kids'.length = kids.length
  · rw [hll] at HK' hc1' ⊢
    have HLen : Hid (kids'.length = kids.length) := hll
    clear hlen' hll
    go_enter Tryz.func91, Tryz.ntmps91
    go_wp2
    go_loopw [5] (fun i wr => ∃ k : Nat, k ≤ kids.length ∧ i = .int .i64 k ∧ Below w.heap.size w wr ∧ Hid (∀ j, j < k → atE kids j = atE kids' j)) (fun i _ => kids.length - (intOf i).toNat)
    case atStart => exact ⟨0, Nat.zero_le _, rfl, Below.refl _ _, fun j hj => absurd hj (by omega)⟩
    case round =>
    obtain ⟨k, hk, rfl, bel, HS⟩ := hrel
    by_cases hlt : k < kids.length
    · have hlt' : (k : Int) < (kids.length : Int) := by omega
      obtain ⟨g, off, rfl, hg, hKS⟩ := HK.out (by omega)
      obtain ⟨g', off', rfl, hg', hKS'⟩ := HK'.out (by omega)
      obtain ⟨a1, c1, hx1, hE1⟩ := hKS k hlt
      obtain ⟨a2, c2, hx2, hE2⟩ := hKS' k hlt
      have HC : Hid (∀ u, Below w.heap.size w u → (u.cell? ⟨g, off + k * 6, none⟩ = some (.int .i8 (atE kids k).op) ∧ u.cell? ⟨g, off + k * 6 + 1, none⟩ = some (.string (atE kids k).t.v) ∧ u.cell? ⟨g, off + k * 6 + 2, none⟩ = some (.int .i8 (atE kids k).t.a.k) ∧ u.cell? ⟨g, off + k * 6 + 3, none⟩ = some (.int .i64 (atE kids k).t.a.n) ∧ u.cell? ⟨g, off + k * 6 + 4, none⟩ = some (.string (atE kids k).t.a.s) ∧ u.cell? ⟨g, off + k * 6 + 5, none⟩ = some (.slice a1 (atE kids k).kids.length c1)) ∧ (u.cell? ⟨g', off' + k * 6, none⟩ = some (.int .i8 (atE kids' k).op) ∧ u.cell? ⟨g', off' + k * 6 + 1, none⟩ = some (.string (atE kids' k).t.v) ∧ u.cell? ⟨g', off' + k * 6 + 2, none⟩ = some (.int .i8 (atE kids' k).t.a.k) ∧ u.cell? ⟨g', off' + k * 6 + 3, none⟩ = some (.int .i64 (atE kids' k).t.a.n) ∧ u.cell? ⟨g', off' + k * 6 + 4, none⟩ = some (.string (atE kids' k).t.a.s) ∧ u.cell? ⟨g', off' + k * 6 + 5, none⟩ = some (.slice a2 (atE kids' k).kids.length c2))) := fun u hu => by
        obtain ⟨x0, x1, x2, x3, x4, x5⟩ := hx1.below hu hg
        obtain ⟨y0, y1, y2, y3, y4, y5⟩ := hx2.below hu hg'
        exact ⟨⟨x0, x1, x2, x3, x4, x5⟩, ⟨y0, y1, y2, y3, y4, y5⟩⟩
      have HW : Hid (∀ u, Below w.heap.size w u → Calls Tryz.prog 77 #[(atE kids k).val a1 c1, (atE kids' k).val a2 c2] u fun r w' => r = .returned (.bool (eqB dec (atE kids k) (atE kids' k))) ∧ Below u.heap.size u w') := fun u hu => HT.out _ _ a1 a2 c1 c2 u (hE1.below hu) (hE2.below hu)
      generalize hq : eqB dec (atE kids k) (atE kids' k) = Q at HW
      have HQ : Hid (eqB dec (atE kids k) (atE kids' k) = Q) := hq
      clear hq
      generalize hgx : atE kids k = x at HC HW
      generalize hgy : atE kids' k = y at HC HW
      have hS0 := HC.out _ bel
      clear hKS hKS' hx1 hx2 hE1 hE2 hg' hg hgx hgy
      cases Q
      all_goals
        go_wp2_with fail
        go_region_held3 (fun u => (Below w.heap.size w u) ∧ (u.cell? ⟨g, off + k * 6, none⟩ = some (.int .i8 x.op) ∧ u.cell? ⟨g, off + k * 6 + 1, none⟩ = some (.string x.t.v) ∧ u.cell? ⟨g, off + k * 6 + 2, none⟩ = some (.int .i8 x.t.a.k) ∧ u.cell? ⟨g, off + k * 6 + 3, none⟩ = some (.int .i64 x.t.a.n) ∧ u.cell? ⟨g, off + k * 6 + 4, none⟩ = some (.string x.t.a.s) ∧ u.cell? ⟨g, off + k * 6 + 5, none⟩ = some (.slice a1 x.kids.length c1)) ∧ (u.cell? ⟨g', off' + k * 6, none⟩ = some (.int .i8 y.op) ∧ u.cell? ⟨g', off' + k * 6 + 1, none⟩ = some (.string y.t.v) ∧ u.cell? ⟨g', off' + k * 6 + 2, none⟩ = some (.int .i8 y.t.a.k) ∧ u.cell? ⟨g', off' + k * 6 + 3, none⟩ = some (.int .i64 y.t.a.n) ∧ u.cell? ⟨g', off' + k * 6 + 4, none⟩ = some (.string y.t.a.s) ∧ u.cell? ⟨g', off' + k * 6 + 5, none⟩ = some (.slice a2 y.kids.length c2)))
          (first
            | assumption
            | exact ⟨bel.drew, HC.out _ bel.drew⟩
            | exact ⟨(by assumption), HC.out _ (by assumption)⟩)
          (first
            | (go_at_call 77; refine (HW.out _ bel.drew).mono ?_; rintro ee w2 ⟨rfl, b2⟩; have b2' : Below w.heap.size w w2 := bel.drew.trans (b2.mono bel.size))
            | fail)
        go_wp2
      · go_ret
        refine ⟨?_, b2'⟩
        rw [← HBB.out, eqB_f (fun e => eqB_ne HQ.out (by rw [e]))]
        rfl
      · go_roundw
        case rel => exact ⟨k + 1, by omega, by go_num, b2', fun j hj => by
          by_cases e : j = k
          · rw [e]; exact eqB_eq HQ.out
          · exact HS.out j (by omega)⟩
        case measure => simp [intOf]; omega
    · obtain rfl : k = kids.length := by omega
      go_wp2
      go_ret
      refine ⟨?_, bel⟩
      rw [← HBB.out, eqB_t (by
        refine List.ext_getElem HLen.out.symm fun i h1 h2 => ?_
        have := HS.out i h1
        rw [atE_eq h1, atE_eq h2] at this
        exact this)]
      rfl
  · have hneq : ((kids.length : Int) != (kids'.length : Int)) = true := by simp only [bne_iff_ne, ne_eq]; omega
    have HN : Hid (¬ kids'.length = kids.length) := hll
    clear hll
    go_enter Tryz.func91, Tryz.ntmps91
    go_wp2
    go_ret
    refine ⟨?_, Below.refl _ _⟩
    rw [← HBB.out, eqB_f (fun e => HN.out (by rw [e]))]
    rfl
set_option maxHeartbeats 3200000 in
theorem sameExpr_step (d : Nat) (hT : SameOK dec d) : SameOK dec (d + 1) := by
  intro e f a a0 c c0 w hW hE
  have BA := (Below.refl w.heap.size w).alloc (Nat.le_refl _) (.cells #[.int .i8 e.op, .string e.t.v, .int .i8 e.t.a.k, .int .i64 e.t.a.n, .string e.t.a.s, .slice a e.kids.length c] 51)
  have BB := BA.alloc BA.size (.cells #[.int .i8 f.op, .string f.t.v, .int .i8 f.t.a.k, .int .i64 f.t.a.n, .string f.t.a.s, .slice a0 f.kids.length c0] 51)
  have HL : Hid _ := sameExprs_any (dec := dec) d hT e f a a0 c c0 _ (hW.below BB) (hE.below BB)
  have hQ := run_eqT e.t f.t
  have HB : Hid (Below w.heap.size w _) := BB
  obtain ⟨R, hR⟩ : ∃ R, eqB dec e f = R := ⟨_, rfl⟩
  rw [hR]
  have HR : Hid (eqB dec e f = R) := hR
  clear hW hE BA BB hR
  unfold E.val
  by_cases h0 : e.op = f.op
  · have e0 : (e.op == f.op) = true := by rw [h0]; simp
    by_cases h1 : e.t = f.t
    · rw [decide_eq_true h1] at hQ
      have HE : Hid (R = eqB dec e.kids f.kids) := by
        show R = _
        rw [← HR.out]
        cases q : eqB dec e.kids f.kids
        · exact eqB_f (fun h => eqB_ne q (by rw [h]))
        · exact eqB_t ((eqE_iff e f).2 ⟨h0, h1, eqB_eq q⟩)
      rw [HE.out]
      generalize eqB dec e.kids f.kids = Q at HL
      clear h0 h1
      go_enter Tryz.func77, Tryz.ntmps77
      go_wp2_with (go_at_call 91; refine Calls.mono HL.out ?_; rintro ee w1 ⟨rfl, b1⟩)
      go_ret
      exact ⟨rfl, HB.out.trans (b1.mono HB.out.size)⟩
    · rw [decide_eq_false h1] at hQ
      have HN : Hid (R = false) := by show R = _; rw [← HR.out]; exact eqB_f (fun q => h1 (by rw [q]))
      clear h0 h1 HL
      go_enter Tryz.func77, Tryz.ntmps77
      go_wp2
      go_ret
      exact ⟨by rw [HN.out]; rfl, HB.out⟩
  · have e0 : (e.op == f.op) = false := by rw [beq_eq_false_iff_ne]; exact h0
    have HN : Hid (R = false) := by show R = _; rw [← HR.out]; exact eqB_f (fun q => h0 (by rw [q]))
    clear h0 HL hQ
    go_enter Tryz.func77, Tryz.ntmps77
    go_wp2
    go_ret
    exact ⟨by rw [HN.out]; rfl, HB.out⟩
theorem sameOK : ∀ d, SameOK dec d
  | 0 => fun _ _ _ _ _ _ _ h _ => h.elim
  | d + 1 => sameExpr_step d (sameOK d)
set_option maxHeartbeats 6400000 in
theorem sameLiteral_any (d : Nat) (x y : Lit4) (p q : LP) (w : World) (hX : LIs w d x p) (hY : LIs w d y q) :
    Calls Tryz.prog 57 #[x.val p, y.val q] w fun r w' => r = .returned (.bool (eqB dec x y)) ∧ Below w.heap.size w w' := by
  have BA := (Below.refl w.heap.size w).alloc (Nat.le_refl _) (.cells #[.int .i8 x.k, .string x.pr, .slice p.a x.ts.length p.c, .int .i8 x.rel, .int .i8 x.l.op, .string x.l.t.v, .int .i8 x.l.t.a.k, .int .i64 x.l.t.a.n, .string x.l.t.a.s, .slice p.la x.l.kids.length p.lc, .int .i8 x.r.op, .string x.r.t.v, .int .i8 x.r.t.a.k, .int .i64 x.r.t.a.n, .string x.r.t.a.s, .slice p.ra x.r.kids.length p.rc] 53)
  have BB := BA.alloc BA.size (.cells #[.int .i8 y.k, .string y.pr, .slice q.a y.ts.length q.c, .int .i8 y.rel, .int .i8 y.l.op, .string y.l.t.v, .int .i8 y.l.t.a.k, .int .i64 y.l.t.a.n, .string y.l.t.a.s, .slice q.la y.l.kids.length q.lc, .int .i8 y.r.op, .string y.r.t.v, .int .i8 y.r.t.a.k, .int .i64 y.r.t.a.n, .string y.r.t.a.s, .slice q.ra y.r.kids.length q.rc] 53)
  have HA : Hid (∀ u, Below w.heap.size w u → Calls Tryz.prog 76 #[.agg #[.string x.pr, .slice p.a x.ts.length p.c], .agg #[.string y.pr, .slice q.a y.ts.length q.c]] u fun r w' => r = .returned (.bool (eqB dec (x.pr, x.ts) (y.pr, y.ts))) ∧ Below u.heap.size u w') := fun u hu => sameAtom_any x.pr y.pr x.ts y.ts _ _ u (hX.ts.below hu) (hY.ts.below hu)
  have HE1 : Hid (∀ u, Below w.heap.size w u → Calls Tryz.prog 77 #[x.l.val p.la p.lc, y.l.val q.la q.lc] u fun r w' => r = .returned (.bool (eqB dec x.l y.l)) ∧ Below u.heap.size u w') := fun u hu => sameOK d x.l y.l p.la q.la p.lc q.lc u (hX.l.below hu) (hY.l.below hu)
  have HE2 : Hid (∀ u, Below w.heap.size w u → Calls Tryz.prog 77 #[x.r.val p.ra p.rc, y.r.val q.ra q.rc] u fun r w' => r = .returned (.bool (eqB dec x.r y.r)) ∧ Below u.heap.size u w') := fun u hu => sameOK d x.r y.r p.ra q.ra p.rc q.rc u (hX.r.below hu) (hY.r.below hu)
  have HR0 : Hid (RL ((w.alloc (.cells #[.int .i8 x.k, .string x.pr, .slice p.a x.ts.length p.c, .int .i8 x.rel, .int .i8 x.l.op, .string x.l.t.v, .int .i8 x.l.t.a.k, .int .i64 x.l.t.a.n, .string x.l.t.a.s, .slice p.la x.l.kids.length p.lc, .int .i8 x.r.op, .string x.r.t.v, .int .i8 x.r.t.a.k, .int .i64 x.r.t.a.n, .string x.r.t.a.s, .slice p.ra x.r.kids.length p.rc] 53)).alloc (.cells #[.int .i8 y.k, .string y.pr, .slice q.a y.ts.length q.c, .int .i8 y.rel, .int .i8 y.l.op, .string y.l.t.v, .int .i8 y.l.t.a.k, .int .i64 y.l.t.a.n, .string y.l.t.a.s, .slice q.la y.l.kids.length q.lc, .int .i8 y.r.op, .string y.r.t.v, .int .i8 y.r.t.a.k, .int .i64 y.r.t.a.n, .string y.r.t.a.s, .slice q.ra y.r.kids.length q.rc] 53)) w.heap.size 53 [.int .i8 x.k, .string x.pr, .slice p.a x.ts.length p.c, .int .i8 x.rel, .int .i8 x.l.op, .string x.l.t.v, .int .i8 x.l.t.a.k, .int .i64 x.l.t.a.n, .string x.l.t.a.s, .slice p.la x.l.kids.length p.lc, .int .i8 x.r.op, .string x.r.t.v, .int .i8 x.r.t.a.k, .int .i64 x.r.t.a.n, .string x.r.t.a.s, .slice p.ra x.r.kids.length p.rc]) := (rl_new w #[.int .i8 x.k, .string x.pr, .slice p.a x.ts.length p.c, .int .i8 x.rel, .int .i8 x.l.op, .string x.l.t.v, .int .i8 x.l.t.a.k, .int .i64 x.l.t.a.n, .string x.l.t.a.s, .slice p.la x.l.kids.length p.lc, .int .i8 x.r.op, .string x.r.t.v, .int .i8 x.r.t.a.k, .int .i64 x.r.t.a.n, .string x.r.t.a.s, .slice p.ra x.r.kids.length p.rc] 53).below ((Below.refl _ _).alloc (Nat.le_refl _) _)
  have HR1 : Hid (RL ((w.alloc (.cells #[.int .i8 x.k, .string x.pr, .slice p.a x.ts.length p.c, .int .i8 x.rel, .int .i8 x.l.op, .string x.l.t.v, .int .i8 x.l.t.a.k, .int .i64 x.l.t.a.n, .string x.l.t.a.s, .slice p.la x.l.kids.length p.lc, .int .i8 x.r.op, .string x.r.t.v, .int .i8 x.r.t.a.k, .int .i64 x.r.t.a.n, .string x.r.t.a.s, .slice p.ra x.r.kids.length p.rc] 53)).alloc (.cells #[.int .i8 y.k, .string y.pr, .slice q.a y.ts.length q.c, .int .i8 y.rel, .int .i8 y.l.op, .string y.l.t.v, .int .i8 y.l.t.a.k, .int .i64 y.l.t.a.n, .string y.l.t.a.s, .slice q.la y.l.kids.length q.lc, .int .i8 y.r.op, .string y.r.t.v, .int .i8 y.r.t.a.k, .int .i64 y.r.t.a.n, .string y.r.t.a.s, .slice q.ra y.r.kids.length q.rc] 53)) (w.heap.size + 1) 53 [.int .i8 y.k, .string y.pr, .slice q.a y.ts.length q.c, .int .i8 y.rel, .int .i8 y.l.op, .string y.l.t.v, .int .i8 y.l.t.a.k, .int .i64 y.l.t.a.n, .string y.l.t.a.s, .slice q.la y.l.kids.length q.lc, .int .i8 y.r.op, .string y.r.t.v, .int .i8 y.r.t.a.k, .int .i64 y.r.t.a.n, .string y.r.t.a.s, .slice q.ra y.r.kids.length q.rc]) := by
    have := rl_new (w.alloc (.cells #[.int .i8 x.k, .string x.pr, .slice p.a x.ts.length p.c, .int .i8 x.rel, .int .i8 x.l.op, .string x.l.t.v, .int .i8 x.l.t.a.k, .int .i64 x.l.t.a.n, .string x.l.t.a.s, .slice p.la x.l.kids.length p.lc, .int .i8 x.r.op, .string x.r.t.v, .int .i8 x.r.t.a.k, .int .i64 x.r.t.a.n, .string x.r.t.a.s, .slice p.ra x.r.kids.length p.rc] 53)) #[.int .i8 y.k, .string y.pr, .slice q.a y.ts.length q.c, .int .i8 y.rel, .int .i8 y.l.op, .string y.l.t.v, .int .i8 y.l.t.a.k, .int .i64 y.l.t.a.n, .string y.l.t.a.s, .slice q.la y.l.kids.length q.lc, .int .i8 y.r.op, .string y.r.t.v, .int .i8 y.r.t.a.k, .int .i64 y.r.t.a.n, .string y.r.t.a.s, .slice q.ra y.r.kids.length q.rc] 53
    rw [World.size_alloc] at this
    exact this
  have HB : Hid (Below w.heap.size w _) := BB
  obtain ⟨R, hR⟩ : ∃ R, eqB dec x y = R := ⟨_, rfl⟩
  rw [hR]
  have HR : Hid (eqB dec x y = R) := hR
  clear hX hY BA BB hR
  unfold Lit4.val E.val at *
  by_cases hk : x.k = y.k
  · have ek : (x.k == y.k) = true := by rw [hk]; simp
    by_cases hl : x.rel = y.rel
    · have el : (x.rel == y.rel) = true := by rw [hl]; simp
      have HQ1 : Hid (eqB dec (x.pr, x.ts) (y.pr, y.ts) = false → R = false) := fun h => by rw [← HR.out]; exact eqB_f (fun e => eqB_ne h (by rw [e]))
      have HQ2 : Hid (eqB dec x.l y.l = false → R = false) := fun h => by rw [← HR.out]; exact eqB_f (fun e => eqB_ne h (by rw [e]))
      have HQ3 : Hid (eqB dec (x.pr, x.ts) (y.pr, y.ts) = true → eqB dec x.l y.l = true → R = eqB dec x.r y.r) := fun h1 h2 => by
        rw [← HR.out]
        cases q : eqB dec x.r y.r
        · exact eqB_f (fun e => eqB_ne q (by rw [e]))
        · obtain ⟨k1, p1, t1, r1, l1, z1⟩ := x
          obtain ⟨k2, p2, t2, r2, l2, z2⟩ := y
          dsimp only at hk hl h1 h2 q
          have h1 := eqB_eq h1
          injection h1 with h3 h4
          have h2 := eqB_eq h2
          have h5 := eqB_eq q
          subst hk hl h2 h3 h4 h5
          exact eqB_t rfl
      generalize eqB dec (x.pr, x.ts) (y.pr, y.ts) = Q1 at HA HQ1 HQ3
      generalize eqB dec x.l y.l = Q2 at HE1 HQ2 HQ3
      generalize eqB dec x.r y.r = Q3 at HE2 HQ3
      clear hk hl
      go_enter Tryz.func57, Tryz.ntmps57
      go_wp2_with fail
      refine Calls.mono (HA.out _ HB.out) ?_
      rintro ee w1 ⟨rfl, b1⟩
      have B1 : Hid (Below w.heap.size w w1) := HB.out.trans (b1.mono HB.out.size)
      have H0 : Hid (RL w1 w.heap.size 53 _) := RL.below HR0.out b1
      have H1 : Hid (RL w1 (w.heap.size + 1) 53 _) := RL.below HR1.out b1
      cases Q1
      · have HN : R = false := by first | exact HQ1.out rfl | exact HQ1.out trivial | exact HQ1.out
        clear b1 HR0 HR1 HB HA HE1 HE2 HQ1 HQ2 HQ3
        go_wp2
        go_ret
        exact ⟨by rw [HN]; rfl, B1.out⟩
      have u0 := H0.out.at (j := 0) rfl
      have u1 := H0.out.at (j := 1) rfl
      have u2 := H0.out.at (j := 2) rfl
      have u3 := H0.out.at (j := 3) rfl
      have u4 := H0.out.at (j := 4) rfl
      have u5 := H0.out.at (j := 5) rfl
      have u6 := H0.out.at (j := 6) rfl
      have u7 := H0.out.at (j := 7) rfl
      have u8 := H0.out.at (j := 8) rfl
      have u9 := H0.out.at (j := 9) rfl
      have u10 := H0.out.at (j := 10) rfl
      have u11 := H0.out.at (j := 11) rfl
      have u12 := H0.out.at (j := 12) rfl
      have u13 := H0.out.at (j := 13) rfl
      have u14 := H0.out.at (j := 14) rfl
      have u15 := H0.out.at (j := 15) rfl
      have v0 := H1.out.at (j := 0) rfl
      have v1 := H1.out.at (j := 1) rfl
      have v2 := H1.out.at (j := 2) rfl
      have v3 := H1.out.at (j := 3) rfl
      have v4 := H1.out.at (j := 4) rfl
      have v5 := H1.out.at (j := 5) rfl
      have v6 := H1.out.at (j := 6) rfl
      have v7 := H1.out.at (j := 7) rfl
      have v8 := H1.out.at (j := 8) rfl
      have v9 := H1.out.at (j := 9) rfl
      have v10 := H1.out.at (j := 10) rfl
      have v11 := H1.out.at (j := 11) rfl
      have v12 := H1.out.at (j := 12) rfl
      have v13 := H1.out.at (j := 13) rfl
      have v14 := H1.out.at (j := 14) rfl
      have v15 := H1.out.at (j := 15) rfl
      clear b1 HR0 HR1 HB HA
      go_wp2_with fail
      refine Calls.mono (HE1.out _ B1.out) ?_
      rintro ee w2 ⟨rfl, b2⟩
      have B2 : Hid (Below w.heap.size w w2) := B1.out.trans (b2.mono B1.out.size)
      have H2 : Hid (RL w2 w.heap.size 53 _) := RL.below H0.out b2
      have H3 : Hid (RL w2 (w.heap.size + 1) 53 _) := RL.below H1.out b2
      clear b2 H0 H1 HE1 u0 u1 u2 u3 u4 u5 u6 u7 u8 u9 u10 u11 u12 u13 u14 u15 v0 v1 v2 v3 v4 v5 v6 v7 v8 v9 v10 v11 v12 v13 v14 v15 B1
      cases Q2
      · have HN : R = false := by first | exact HQ2.out rfl | exact HQ2.out trivial | exact HQ2.out
        clear HE2 HQ1 HQ2 HQ3
        go_wp2
        go_ret
        exact ⟨by rw [HN]; rfl, B2.out⟩
      have u0 := H2.out.at (j := 0) rfl
      have u1 := H2.out.at (j := 1) rfl
      have u2 := H2.out.at (j := 2) rfl
      have u3 := H2.out.at (j := 3) rfl
      have u4 := H2.out.at (j := 4) rfl
      have u5 := H2.out.at (j := 5) rfl
      have u6 := H2.out.at (j := 6) rfl
      have u7 := H2.out.at (j := 7) rfl
      have u8 := H2.out.at (j := 8) rfl
      have u9 := H2.out.at (j := 9) rfl
      have u10 := H2.out.at (j := 10) rfl
      have u11 := H2.out.at (j := 11) rfl
      have u12 := H2.out.at (j := 12) rfl
      have u13 := H2.out.at (j := 13) rfl
      have u14 := H2.out.at (j := 14) rfl
      have u15 := H2.out.at (j := 15) rfl
      have v0 := H3.out.at (j := 0) rfl
      have v1 := H3.out.at (j := 1) rfl
      have v2 := H3.out.at (j := 2) rfl
      have v3 := H3.out.at (j := 3) rfl
      have v4 := H3.out.at (j := 4) rfl
      have v5 := H3.out.at (j := 5) rfl
      have v6 := H3.out.at (j := 6) rfl
      have v7 := H3.out.at (j := 7) rfl
      have v8 := H3.out.at (j := 8) rfl
      have v9 := H3.out.at (j := 9) rfl
      have v10 := H3.out.at (j := 10) rfl
      have v11 := H3.out.at (j := 11) rfl
      have v12 := H3.out.at (j := 12) rfl
      have v13 := H3.out.at (j := 13) rfl
      have v14 := H3.out.at (j := 14) rfl
      have v15 := H3.out.at (j := 15) rfl
      have HN : Hid (R = Q3) := by first | exact HQ3.out rfl rfl | exact HQ3.out trivial rfl | exact HQ3.out rfl | exact HQ3.out trivial trivial | exact HQ3.out trivial | exact HQ3.out
      clear H2 H3 HQ1 HQ2 HQ3
      go_wp2_with fail
      refine Calls.mono (HE2.out _ B2.out) ?_
      rintro ee w3 ⟨rfl, b3⟩
      go_wp2
      go_ret
      exact ⟨by rw [HN.out]; rfl, B2.out.trans (b3.mono B2.out.size)⟩
    · have el : (x.rel == y.rel) = false := by rw [beq_eq_false_iff_ne]; exact hl
      have HN : Hid (R = false) := by show R = _; rw [← HR.out]; exact eqB_f (fun e => hl (by rw [e]))
      clear hk hl HA HE1 HE2 HR0 HR1
      go_enter Tryz.func57, Tryz.ntmps57
      go_wp2
      go_ret
      exact ⟨by rw [HN.out]; rfl, HB.out⟩
  · have ek : (x.k == y.k) = false := by rw [beq_eq_false_iff_ne]; exact hk
    have HN : Hid (R = false) := by show R = _; rw [← HR.out]; exact eqB_f (fun e => hk (by rw [e]))
    clear hk HA HE1 HE2 HR0 HR1
    go_enter Tryz.func57, Tryz.ntmps57
    go_wp2
    go_ret
    exact ⟨by rw [HN.out]; rfl, HB.out⟩
end Go.Proofs.YteabclfhmapabaaGreatDoor
end
section
namespace Go.Proofs.YteabclfhmapabaaGreatDoor
open Go.RowKit Go.Maps
set_option linter.unusedVariables false
set_option linter.unusedSimpArgs false
attribute [local go_sem ↓] Go.wp_at_zero Go.wp_at_succ
variable {dec : Dec}
attribute [-go_sem] loadVar storeVar

set_option maxHeartbeats 3200000 in
theorem sameLiterals_any (d : Nat) (v v' : Value) (l m : List XL) (w : World) (h1 : Lb w v d l) (h2 : Lb w v' d m) :
    Calls Tryz.prog 28 #[v, v'] w fun r w' => r = .returned (.bool (eqB dec (l.map XL.x) (m.map XL.x))) ∧ Below w.heap.size w w' := by
  have HC : Hid (∀ i, i < l.length → i < m.length → ∀ u, Below w.heap.size w u → Calls Tryz.prog 57 #[.agg (atL l i).cells.toArray, .agg (atL m i).cells.toArray] u fun r w' => r = .returned (.bool (eqB dec (XL.x (atL l i)) (XL.x (atL m i)))) ∧ Below u.heap.size u w') := fun i hi hj u hu => by
    rw [XL.val_eq, XL.val_eq]
    exact sameLiteral_any d _ _ _ _ u ((h1.at_is hi).below hu) ((h2.at_is hj).below hu)
  obtain ⟨a, c, rfl, hc1, hc2, hk⟩ := h1.form
  obtain ⟨a', c', rfl, hc1', hc2', hk'⟩ := h2.form
  have hmax : l.length ≤ maxLen := Nat.le_trans hc1 hc2
  have hmax2 : m.length ≤ maxLen := Nat.le_trans hc1' hc2'
  unfold maxLen at hmax hmax2
  have HK : Hid _ := hk
  have HK' : Hid _ := hk'
  obtain ⟨BB, hBB⟩ : ∃ BB, eqB dec (l.map XL.x) (m.map XL.x) = BB := ⟨_, rfl⟩
  rw [hBB]
  have HBB : Hid (eqB dec (l.map XL.x) (m.map XL.x) = BB) := hBB
  clear hk hk' h1 h2 hc2 hc2' hBB
  by_cases hlen : m.length = l.length
  · rw [hlen] at HK' HC hc1' ⊢
    have HLen : Hid (m.length = l.length) := hlen
    clear hmax2 hlen
    go_enter Tryz.func28, Tryz.ntmps28
    go_wp2
    go_loopw [5] (fun i wr => ∃ k : Nat, k ≤ l.length ∧ i = .int .i64 k ∧ Below w.heap.size w wr ∧ Hid (∀ j, j < k → XL.x (atL l j) = XL.x (atL m j))) (fun i _ => l.length - (intOf i).toNat)
    case atStart => exact ⟨0, Nat.zero_le _, rfl, Below.refl _ _, fun j hj => absurd hj (by omega)⟩
    case round =>
    obtain ⟨k, hk, rfl, bel, HS⟩ := hrel
    by_cases hlt : k < l.length
    · have hlt' : (k : Int) < (l.length : Int) := by omega
      have hk0 : (0 : Int) ≤ (k : Int) := by omega
      obtain ⟨g, off, rfl, hg, hKS⟩ := HK.out (by omega)
      obtain ⟨g', off', rfl, hg', hKS'⟩ := HK'.out (by omega)
      have HL1 : Hid (∀ u, Below w.heap.size w u → (loadVar 53 ⟨g, off + k * 16, none⟩).run Tryz.prog u = .ok (.agg (atL l k).cells.toArray) u) := fun u hu => load_Lit (range_below (hKS k hlt) hu hg) rfl
      have HL2 : Hid (∀ u, Below w.heap.size w u → (loadVar 53 ⟨g', off' + k * 16, none⟩).run Tryz.prog u = .ok (.agg (atL m k).cells.toArray) u) := fun u hu => load_Lit (range_below (hKS' k hlt) hu hg') rfl
      have HI : Hid _ := HC.out k hlt hlt
      generalize hq : eqB dec (XL.x (atL l k)) (XL.x (atL m k)) = Q at HI
      have HQ : Hid (eqB dec (XL.x (atL l k)) (XL.x (atL m k)) = Q) := hq
      clear hq
      generalize Value.agg (atL l k).cells.toArray = QV at HL1 HI
      generalize Value.agg (atL m k).cells.toArray = RV at HL2 HI
      have hl1 : ∀ u, Below w.heap.size w u → (loadVar 53 ⟨g, off + k * 16, none⟩).run Tryz.prog u = .ok QV u := HL1.out
      have hl2 : ∀ u, Below w.heap.size w u → (loadVar 53 ⟨g', off' + k * 16, none⟩).run Tryz.prog u = .ok RV u := HL2.out
      have hS0 := bel
      clear hKS hKS' HL1 HL2
      cases Q
      all_goals
        go_wp2_with fail
        go_region_held3 (fun u => (Below w.heap.size w u))
          (first
            | assumption
            | exact bel.drew)
          (first
            | (go_at_call 57; refine Calls.mono (HI.out _ (by first | assumption | exact bel.drew)) ?_; rintro ee w2 ⟨rfl, b2⟩; have b2' : Below w.heap.size w w2 := next_ofU (by first | assumption | exact bel.drew) b2)
            | fail)
        go_wp2
      · go_ret
        refine ⟨?_, b2'⟩
        rw [← HBB.out, eqB_f (fun e => eqB_ne HQ.out (by
          have hm : k < m.length := by rw [HLen.out]; exact hlt
          have := congrArg (fun z => z[k]?) e
          simp only [List.getElem?_map, List.getElem?_eq_getElem hlt, List.getElem?_eq_getElem hm, Option.map_some, Option.some.injEq] at this
          rw [atL_eq hlt, atL_eq hm]
          exact this))]
        rfl
      · go_roundw
        case rel => exact ⟨k + 1, by omega, by go_num, b2', fun j hj => by
          by_cases e : j = k
          · rw [e]; exact eqB_eq HQ.out
          · exact HS.out j (by omega)⟩
        case measure => simp [intOf]; omega
    · obtain rfl : k = l.length := by omega
      go_wp2
      go_ret
      refine ⟨?_, bel⟩
      rw [← HBB.out, eqB_t (by
        refine List.ext_getElem (by rw [List.length_map, List.length_map]; exact HLen.out.symm) fun i h1 h2 => ?_
        rw [List.length_map] at h1 h2
        have := HS.out i h1
        rw [atL_eq h1, atL_eq h2] at this
        rw [List.getElem_map, List.getElem_map]
        exact this)]
      rfl
  · have hneq : ((l.length : Int) != (m.length : Int)) = true := by simp only [bne_iff_ne, ne_eq]; omega
    have HN : Hid (¬ m.length = l.length) := hlen
    clear hlen
    go_enter Tryz.func28, Tryz.ntmps28
    go_wp2
    go_ret
    refine ⟨?_, Below.refl _ _⟩
    rw [← HBB.out, eqB_f (fun e => HN.out (by have := congrArg List.length e; rw [List.length_map, List.length_map] at this; exact this.symm))]
    rfl
end Go.Proofs.YteabclfhmapabaaGreatDoor
end
section
namespace Go.Proofs.YteabclfhmapabaaGreatDoor
open Go.RowKit Go.Maps
set_option linter.unusedVariables false
set_option linter.unusedSimpArgs false
attribute [local go_sem ↓] Go.wp_at_zero Go.wp_at_succ
variable {dec : Dec}

/-- is it the same rule? -/
def sameR (dec : Dec) (r s : R3) : Bool := @decide (PU.RSame r s) (dec.d _)
theorem sameR_t {r s : R3} (h : PU.RSame r s) : sameR dec r s = true := by unfold sameR; exact @decide_eq_true _ (dec.d _) h
theorem sameR_f {r s : R3} (h : ¬ PU.RSame r s) : sameR dec r s = false := by unfold sameR; exact @decide_eq_false _ (dec.d _) h
set_option maxHeartbeats 3200000 in
theorem sameRule_any (d : Nat) (r s : R3) (p q : RP) (w : World) (hR : RIs w d r p) (hS : RIs w d s q) :
    Calls Tryz.prog 10 #[r.val p, s.val q] w fun e w' => e = .returned (.bool (sameR dec r s)) ∧ Below w.heap.size w w' := by
  unfold R3.val
  have BA := (Below.refl w.heap.size w).alloc (Nat.le_refl _) (.cells #[.string r.pr, .slice p.a r.hd.length p.c, .slice p.ba r.bd.length p.bc] 25)
  have BB := BA.alloc BA.size (.cells #[.string s.pr, .slice q.a s.hd.length q.c, .slice q.ba s.bd.length q.bc] 25)
  have HR0 : Hid (RL ((w.alloc (.cells #[.string r.pr, .slice p.a r.hd.length p.c, .slice p.ba r.bd.length p.bc] 25)).alloc (.cells #[.string s.pr, .slice q.a s.hd.length q.c, .slice q.ba s.bd.length q.bc] 25)) w.heap.size 25 [.string r.pr, .slice p.a r.hd.length p.c, .slice p.ba r.bd.length p.bc]) := (rl_new w #[.string r.pr, .slice p.a r.hd.length p.c, .slice p.ba r.bd.length p.bc] 25).below ((Below.refl _ _).alloc (Nat.le_refl _) _)
  have HR1 : Hid (RL ((w.alloc (.cells #[.string r.pr, .slice p.a r.hd.length p.c, .slice p.ba r.bd.length p.bc] 25)).alloc (.cells #[.string s.pr, .slice q.a s.hd.length q.c, .slice q.ba s.bd.length q.bc] 25)) (w.heap.size + 1) 25 [.string s.pr, .slice q.a s.hd.length q.c, .slice q.ba s.bd.length q.bc]) := by
    have := rl_new (w.alloc (.cells #[.string r.pr, .slice p.a r.hd.length p.c, .slice p.ba r.bd.length p.bc] 25)) #[.string s.pr, .slice q.a s.hd.length q.c, .slice q.ba s.bd.length q.bc] 25
    rw [World.size_alloc] at this
    exact this
  have HA : Hid _ := sameArgs_any (dec := dec) _ _ r.hd s.hd _ (hR.hd.below BB) (hS.hd.below BB)
  have HB : Hid (∀ u, Below w.heap.size w u → Calls Tryz.prog 28 #[.slice p.ba r.bd.length p.bc, .slice q.ba s.bd.length q.bc] u fun e w' => e = .returned (.bool (eqB dec (r.bd.map XL.x) (s.bd.map XL.x))) ∧ Below u.heap.size u w') := fun u hu => sameLiterals_any d _ _ r.bd s.bd u (hR.bd.below hu) (hS.bd.below hu)
  have HBB : Hid (Below w.heap.size w _) := BB
  obtain ⟨R, hRR⟩ : ∃ R, sameR dec r s = R := ⟨_, rfl⟩
  rw [hRR]
  have HRR : Hid (sameR dec r s = R) := hRR
  clear BA BB hR hS hRR
  by_cases hp : r.pr = s.pr
  · have e0 : (r.pr.toList == s.pr.toList) = true := by rw [hp]; simp
    have HQ1 : Hid (eqB dec r.hd s.hd = false → R = false) := fun h => by rw [← HRR.out]; exact sameR_f (fun e => eqB_ne h e.hd)
    have HQ2 : Hid (eqB dec r.hd s.hd = true → R = eqB dec (r.bd.map XL.x) (s.bd.map XL.x)) := fun h => by
      rw [← HRR.out]
      cases q : eqB dec (r.bd.map XL.x) (s.bd.map XL.x)
      · exact sameR_f (fun e => eqB_ne q e.bd)
      · exact sameR_t ⟨hp, eqB_eq h, eqB_eq q⟩
    generalize eqB dec r.hd s.hd = Q1 at HA HQ1 HQ2
    generalize eqB dec (r.bd.map XL.x) (s.bd.map XL.x) = Q2 at HB HQ2
    clear hp
    go_enter Tryz.func10, Tryz.ntmps10
    go_wp2_with fail
    refine Calls.mono HA.out ?_
    rintro ee w1 ⟨rfl, b1⟩
    have B1 : Hid (Below w.heap.size w w1) := HBB.out.trans (b1.mono HBB.out.size)
    have H0 : Hid (RL w1 w.heap.size 25 _) := RL.below HR0.out b1
    have H1 : Hid (RL w1 (w.heap.size + 1) 25 _) := RL.below HR1.out b1
    cases Q1
    · have HN : R = false := by first | exact HQ1.out rfl | exact HQ1.out trivial | exact HQ1.out
      clear b1 HR0 HR1 HBB HA HB HQ1 HQ2
      go_wp2
      go_ret
      exact ⟨by rw [HN]; rfl, B1.out⟩
    have u2 := H0.out.at (j := 2) rfl
    have v2 := H1.out.at (j := 2) rfl
    have HN : Hid (R = Q2) := by first | exact HQ2.out rfl | exact HQ2.out trivial | exact HQ2.out
    clear b1 HR0 HR1 HBB HA HQ1 HQ2
    go_wp2_with fail
    refine Calls.mono (HB.out _ B1.out) ?_
    rintro ee w2 ⟨rfl, b2⟩
    go_wp2
    go_ret
    exact ⟨by rw [HN.out]; rfl, B1.out.trans (b2.mono B1.out.size)⟩
  · have e0 : (r.pr.toList == s.pr.toList) = false := by
      rw [beq_eq_false_iff_ne]
      exact fun h => hp (toList_inj h)
    have HN : Hid (R = false) := by show R = _; rw [← HRR.out]; exact sameR_f (fun e => hp e.pr)
    clear hp HA HB HR0 HR1
    go_enter Tryz.func10, Tryz.ntmps10
    go_wp2
    go_ret
    exact ⟨by rw [HN.out]; rfl, HBB.out⟩
end Go.Proofs.YteabclfhmapabaaGreatDoor
end
