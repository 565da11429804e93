import Derived.Test.YtgplipfebnigiaaGreatDoorG33
import Derived.Test.YtgplipfebnigiaaGreatDoorG32
section
namespace Go.Proofs.YtgplipfebnigiaaGreatDoor
open Go.RowKit Go.Maps
set_option linter.unusedVariables false
set_option linter.unusedSimpArgs false
attribute [local go_sem ↓] Go.wp_at_zero Go.wp_at_succ
variable {dec : Dec}

theorem neqTd (x y : T) (w : World) : (binOp .neq 46 (.agg #[.string x.v, .int .i8 x.a.k, .int .i64 x.a.n, .string x.a.s]) (.agg #[.string y.v, .int .i8 y.a.k, .int .i64 y.a.n, .string y.a.s])).run Tryz.prog w = .ok (.bool (!decide (x = y))) w := run_neqT x y w
set_option maxHeartbeats 3200000 in
theorem sameP_step (d : Nat) (hT : SameP dec d) : SameP dec (d + 1) := by
  intro e f a a0 c c0 w hW hE
  have BA := (Below.refl w.heap.size w).alloc (Nat.le_refl _) (.cells #[.int .i8 e.op, .string e.t.v, .int .i8 e.t.a.k, .int .i64 e.t.a.n, .string e.t.a.s, .slice a e.kids.length c] 74)
  have BB := BA.alloc BA.size (.cells #[.int .i8 f.op, .string f.t.v, .int .i8 f.t.a.k, .int .i64 f.t.a.n, .string f.t.a.s, .slice a0 f.kids.length c0] 74)
  have HL : Hid _ := equalExprs_any (dec := dec) d hT e f a a0 c c0 _ (hW.below BB) (hE.below BB)
  have hQ := run_eqT e.t f.t
  have HB : Hid (Below w.heap.size w _) := BB
  obtain ⟨R, hR⟩ : ∃ R, eqB dec e f = R := ⟨_, rfl⟩
  rw [hR]
  have HR : Hid (eqB dec e f = R) := hR
  clear hW hE BA BB hR
  unfold E.val
  by_cases h0 : e.op = f.op
  · have e0 : (e.op == f.op) = true := by rw [h0]; simp
    by_cases h1 : e.t = f.t
    · rw [decide_eq_true h1] at hQ
      have HE : Hid (R = eqB dec e.kids f.kids) := by
        show R = _
        rw [← HR.out]
        cases q : eqB dec e.kids f.kids
        · exact eqB_f (fun h => eqB_ne q (by rw [h]))
        · exact eqB_t ((eqE_iff e f).2 ⟨h0, h1, eqB_eq q⟩)
      rw [HE.out]
      generalize eqB dec e.kids f.kids = Q at HL
      clear h0 h1
      go_enter Tryz.func103, Tryz.ntmps103
      go_wp2_with (go_at_call 129; refine Calls.mono HL.out ?_; rintro ee w1 ⟨rfl, b1⟩)
      go_ret
      exact ⟨rfl, HB.out.trans (b1.mono HB.out.size)⟩
    · rw [decide_eq_false h1] at hQ
      have HN : Hid (R = false) := by show R = _; rw [← HR.out]; exact eqB_f (fun q => h1 (by rw [q]))
      clear h0 h1 HL
      go_enter Tryz.func103, Tryz.ntmps103
      go_wp2
      go_ret
      exact ⟨by rw [HN.out]; rfl, HB.out⟩
  · have e0 : (e.op == f.op) = false := by rw [beq_eq_false_iff_ne]; exact h0
    have HN : Hid (R = false) := by show R = _; rw [← HR.out]; exact eqB_f (fun q => h0 (by rw [q]))
    clear h0 HL hQ
    go_enter Tryz.func103, Tryz.ntmps103
    go_wp2
    go_ret
    exact ⟨by rw [HN.out]; rfl, HB.out⟩
theorem samePOK : ∀ d, SameP dec d
  | 0 => fun _ _ _ _ _ _ _ h _ => h.elim
  | d + 1 => sameP_step d (samePOK d)
/-- what the reference's sameExpr says of two expressions of at most d levels -/
def SameQ (dec : Dec) (d : Nat) : Prop := ∀ (e f : E) (a a0 : Option Addr) (c c0 : Nat) (w : World), EIs w d e a c → EIs w d f a0 c0 →
  Calls Tryz.prog 105 #[e.val a c, f.val a0 c0] w fun r w' => r = .returned (.bool (eqB dec e f)) ∧ Below w.heap.size w w'
set_option maxHeartbeats 6400000 in
theorem sameQ_step (d : Nat) (hT : SameQ dec d) : SameQ dec (d + 1) := by
  intro e f a a0 c c0 w hW hE
  have hA1 := belowA (w := w) (.cells #[.int .i8 e.op, .string e.t.v, .int .i8 e.t.a.k, .int .i64 e.t.a.n, .string e.t.a.s, .slice a e.kids.length c] 74)
  have hA2 := belowA (w := w.alloc (.cells #[.int .i8 e.op, .string e.t.v, .int .i8 e.t.a.k, .int .i64 e.t.a.n, .string e.t.a.s, .slice a e.kids.length c] 74)) (.cells #[.int .i8 f.op, .string f.t.v, .int .i8 f.t.a.k, .int .i64 f.t.a.n, .string f.t.a.s, .slice a0 f.kids.length c0] 74)
  have HB := Lib.hid (hA1.trans (hA2.mono hA1.size))
  have HR0 := Lib.hid ((rl_new w #[.int .i8 e.op, .string e.t.v, .int .i8 e.t.a.k, .int .i64 e.t.a.n, .string e.t.a.s, .slice a e.kids.length c] 74).below hA2)
  have hR1 := rl_new (w.alloc (.cells #[.int .i8 e.op, .string e.t.v, .int .i8 e.t.a.k, .int .i64 e.t.a.n, .string e.t.a.s, .slice a e.kids.length c] 74)) #[.int .i8 f.op, .string f.t.v, .int .i8 f.t.a.k, .int .i64 f.t.a.n, .string f.t.a.s, .slice a0 f.kids.length c0] 74
  rw [World.size_alloc] at hR1
  have HR1 := Lib.hid hR1
  have hQ := neqTd e.t f.t
  obtain ⟨R, hR⟩ : ∃ R, eqB dec e f = R := ⟨_, rfl⟩
  rw [hR]
  have HR := Lib.hid hR
  have HT := Lib.hid hT
  obtain ⟨hop, htw, hc1, hc2, hk⟩ := hW
  obtain ⟨hop', htw', hc1', hc2', hk'⟩ := hE
  have HK := Lib.hid hk
  have HK' := Lib.hid hk'
  have hlen := hop.2
  have hlen' := hop'.2
  clear hA1 hA2 hR1 hR hT hk hk' hop hop' htw htw' hc2 hc2'
  unfold E.val
  go_enter Tryz.func105, Tryz.ntmps105
  go_upto_region 1 with fail
  generalize (w.alloc (.cells #[.int .i8 e.op, .string e.t.v, .int .i8 e.t.a.k, .int .i64 e.t.a.n, .string e.t.a.s, .slice a e.kids.length c] 74)).alloc (.cells #[.int .i8 f.op, .string f.t.v, .int .i8 f.t.a.k, .int .i64 f.t.a.n, .string f.t.a.s, .slice a0 f.kids.length c0] 74) = W at HB HR0 HR1 ⊢
  have x0 := HR0.out.at (j := 0) rfl
  have z0 := HR1.out.at (j := 0) rfl
  have x1 := HR0.out.at (j := 1) rfl
  have z1 := HR1.out.at (j := 1) rfl
  have x2 := HR0.out.at (j := 2) rfl
  have z2 := HR1.out.at (j := 2) rfl
  have x3 := HR0.out.at (j := 3) rfl
  have z3 := HR1.out.at (j := 3) rfl
  have x4 := HR0.out.at (j := 4) rfl
  have z4 := HR1.out.at (j := 4) rfl
  have x5 := HR0.out.at (j := 5) rfl
  have z5 := HR1.out.at (j := 5) rfl
  by_cases h0 : e.op = f.op
  · have e0 : (e.op != f.op) = false := by rw [h0]; simp
    by_cases h1 : e.t = f.t
    · rw [decide_eq_true h1] at hQ
      by_cases h2 : f.kids.length = e.kids.length
      · have HE := Lib.hid (fun k : e.kids = f.kids => (eqE_iff e f).2 ⟨h0, h1, k⟩)
        have HNE := Lib.hid (fun (h : ¬ e.kids = f.kids) (q : e = f) => h (by rw [q]))
        rw [h2] at HK' hc1' HR1 z5
        have HLen := Lib.hid h2
        clear h0 h1 h2 hlen'
        go_wp2
        clear x0 x1 x2 x3 x4 x5 z0 z1 z2 z3 z4 z5 hQ e0
        generalize hke : e.kids = kids at HK HK' HR0 HR1 HE HNE HLen hc1 hc1' hlen
        generalize hkf : f.kids = kids' at HK HK' HE HNE HLen
        clear hke hkf
        go_loopw [5] (fun i wr => ∃ k : Nat, k ≤ kids.length ∧ i = .int .i64 k ∧ Below W.heap.size W wr ∧ Hid (∀ j, j < k → atE kids j = atE kids' j)) (fun i _ => kids.length - (intOf i).toNat)
        case atStart => exact ⟨0, Nat.zero_le _, rfl, Below.refl _ _, fun j hj => absurd hj (by omega)⟩
        case round =>
        obtain ⟨k, hk, rfl, bel, HS⟩ := hrel
        have HBF := Lib.hid (HB.out.trans (bel.mono HB.out.size))
        have x5 := (HR0.out.below bel).at (j := 5) rfl
        have z5 := (HR1.out.below bel).at (j := 5) rfl
        by_cases hlt : k < kids.length
        · have hlt' : (k : Int) < (kids.length : Int) := by omega
          obtain ⟨g, off, rfl, hg, hKS⟩ := HK.out (by omega)
          obtain ⟨g', off', rfl, hg', hKS'⟩ := HK'.out (by omega)
          obtain ⟨a1, c1, hx1, hE1⟩ := hKS k hlt
          obtain ⟨a2, c2, hx2, hE2⟩ := hKS' k hlt
          have HC : Hid (∀ u, Below W.heap.size W u → (u.cell? ⟨w.heap.size, 5, none⟩ = some (.slice (some ⟨g, off, none⟩) kids.length c) ∧ u.cell? ⟨w.heap.size + 1, 5, none⟩ = some (.slice (some ⟨g', off', none⟩) kids.length c0)) ∧ (u.cell? ⟨g, off + k * 6, none⟩ = some (.int .i8 (atE kids k).op) ∧ u.cell? ⟨g, off + k * 6 + 1, none⟩ = some (.string (atE kids k).t.v) ∧ u.cell? ⟨g, off + k * 6 + 2, none⟩ = some (.int .i8 (atE kids k).t.a.k) ∧ u.cell? ⟨g, off + k * 6 + 3, none⟩ = some (.int .i64 (atE kids k).t.a.n) ∧ u.cell? ⟨g, off + k * 6 + 4, none⟩ = some (.string (atE kids k).t.a.s) ∧ u.cell? ⟨g, off + k * 6 + 5, none⟩ = some (.slice a1 (atE kids k).kids.length c1)) ∧ (u.cell? ⟨g', off' + k * 6, none⟩ = some (.int .i8 (atE kids' k).op) ∧ u.cell? ⟨g', off' + k * 6 + 1, none⟩ = some (.string (atE kids' k).t.v) ∧ u.cell? ⟨g', off' + k * 6 + 2, none⟩ = some (.int .i8 (atE kids' k).t.a.k) ∧ u.cell? ⟨g', off' + k * 6 + 3, none⟩ = some (.int .i64 (atE kids' k).t.a.n) ∧ u.cell? ⟨g', off' + k * 6 + 4, none⟩ = some (.string (atE kids' k).t.a.s) ∧ u.cell? ⟨g', off' + k * 6 + 5, none⟩ = some (.slice a2 (atE kids' k).kids.length c2))) := fun u hu => by
            have hwu := HB.out.trans (hu.mono HB.out.size)
            obtain ⟨x0, x1, x2, x3, x4, x5⟩ := hx1.below hwu hg
            obtain ⟨y0, y1, y2, y3, y4, y5⟩ := hx2.below hwu hg'
            exact ⟨⟨(HR0.out.below hu).at (j := 5) rfl, (HR1.out.below hu).at (j := 5) rfl⟩, ⟨x0, x1, x2, x3, x4, x5⟩, ⟨y0, y1, y2, y3, y4, y5⟩⟩
          have HW : Hid (∀ u, Below W.heap.size W u → Calls Tryz.prog 105 #[(atE kids k).val a1 c1, (atE kids' k).val a2 c2] u fun r w' => r = .returned (.bool (eqB dec (atE kids k) (atE kids' k))) ∧ Below u.heap.size u w') := fun u hu => HT.out _ _ a1 a2 c1 c2 u (hE1.below (HB.out.trans (hu.mono HB.out.size))) (hE2.below (HB.out.trans (hu.mono HB.out.size)))
          generalize hq : eqB dec (atE kids k) (atE kids' k) = Q at HW
          have HQ := Lib.hid hq
          clear hq
          generalize hgx : atE kids k = x at HC HW
          generalize hgy : atE kids' k = y at HC HW
          have hS0 := HC.out _ bel
          clear hKS hKS' hx1 hx2 hE1 hE2 hg' hg hgx hgy
          unfold E.val at HW
          cases Q
          all_goals
            go_wp2_with fail
            go_region_held3 (fun u => (Below W.heap.size W u) ∧ (u.cell? ⟨w.heap.size, 5, none⟩ = some (.slice (some ⟨g, off, none⟩) kids.length c) ∧ u.cell? ⟨w.heap.size + 1, 5, none⟩ = some (.slice (some ⟨g', off', none⟩) kids.length c0)) ∧ (u.cell? ⟨g, off + k * 6, none⟩ = some (.int .i8 x.op) ∧ u.cell? ⟨g, off + k * 6 + 1, none⟩ = some (.string x.t.v) ∧ u.cell? ⟨g, off + k * 6 + 2, none⟩ = some (.int .i8 x.t.a.k) ∧ u.cell? ⟨g, off + k * 6 + 3, none⟩ = some (.int .i64 x.t.a.n) ∧ u.cell? ⟨g, off + k * 6 + 4, none⟩ = some (.string x.t.a.s) ∧ u.cell? ⟨g, off + k * 6 + 5, none⟩ = some (.slice a1 x.kids.length c1)) ∧ (u.cell? ⟨g', off' + k * 6, none⟩ = some (.int .i8 y.op) ∧ u.cell? ⟨g', off' + k * 6 + 1, none⟩ = some (.string y.t.v) ∧ u.cell? ⟨g', off' + k * 6 + 2, none⟩ = some (.int .i8 y.t.a.k) ∧ u.cell? ⟨g', off' + k * 6 + 3, none⟩ = some (.int .i64 y.t.a.n) ∧ u.cell? ⟨g', off' + k * 6 + 4, none⟩ = some (.string y.t.a.s) ∧ u.cell? ⟨g', off' + k * 6 + 5, none⟩ = some (.slice a2 y.kids.length c2)))
              (first
                | assumption
                | exact ⟨bel.drew, HC.out _ bel.drew⟩
                | exact ⟨(by assumption), HC.out _ (by assumption)⟩)
              (first
                | (go_at_call 105; refine (HW.out _ bel.drew).mono ?_; rintro ee w2 ⟨rfl, b2⟩; have b2' : Below W.heap.size W w2 := bel.drew.trans (b2.mono bel.size))
                | fail)
            go_wp2
          · go_ret
            refine ⟨?_, HB.out.trans (b2'.mono HB.out.size)⟩
            rw [← HR.out, eqB_f (HNE.out (fun e => eqB_ne HQ.out (by rw [e])))]
            rfl
          · go_roundw
            case rel => exact ⟨k + 1, by omega, by go_num, b2', fun j hj => by
              by_cases e : j = k
              · rw [e]; exact eqB_eq HQ.out
              · exact HS.out j (by omega)⟩
            case measure => simp [intOf]; omega
        · obtain rfl : k = kids.length := by omega
          go_wp2
          go_ret
          refine ⟨?_, HBF.out⟩
          rw [← HR.out, eqB_t (HE.out (by
            refine List.ext_getElem HLen.out.symm fun i h1 h2 => ?_
            have := HS.out i h1
            rw [atE_eq h1, atE_eq h2] at this
            exact this))]
          rfl
      · have hneq : ((e.kids.length : Int) != (f.kids.length : Int)) = true := by simp only [bne_iff_ne, ne_eq]; omega
        have HN : Hid (R = false) := by show R = _; rw [← HR.out]; exact eqB_f (fun q => h2 (by rw [q]))
        clear h0 h1 h2
        go_wp2
        go_ret
        exact ⟨by rw [HN.out]; rfl, HB.out⟩
    · rw [decide_eq_false h1] at hQ
      have HN : Hid (R = false) := by show R = _; rw [← HR.out]; exact eqB_f (fun q => h1 (by rw [q]))
      clear h0 h1
      go_wp2
      go_ret
      exact ⟨by rw [HN.out]; rfl, HB.out⟩
  · have e0 : (e.op != f.op) = true := by rw [bne_iff_ne]; exact h0
    have HN : Hid (R = false) := by show R = _; rw [← HR.out]; exact eqB_f (fun q => h0 (by rw [q]))
    clear h0 hQ
    go_wp2
    go_ret
    exact ⟨by rw [HN.out]; rfl, HB.out⟩
theorem sameQOK : ∀ d, SameQ dec d
  | 0 => fun _ _ _ _ _ _ _ h _ => h.elim
  | d + 1 => sameQ_step d (sameQOK d)
end Go.Proofs.YtgplipfebnigiaaGreatDoor
end
section
namespace Go.Proofs.YtgplipfebnigiaaGreatDoor
open Go.RowKit Go.Maps
set_option linter.unusedVariables false
set_option linter.unusedSimpArgs false
attribute [local go_sem ↓] Go.wp_at_zero Go.wp_at_succ
variable {dec : Dec}

set_option maxHeartbeats 6400000 in
theorem sameLiteralP_any (d : Nat) (x y : Lit4) (p q : LP) (w : World) (hX : LIs w d x p) (hY : LIs w d y q) :
    Calls Tryz.prog 65 #[x.val p, y.val q] w fun r w' => r = .returned (.bool (eqB dec x y)) ∧ Below w.heap.size w w' := by
  have BA := (Below.refl w.heap.size w).alloc (Nat.le_refl _) (.cells #[.int .i8 x.k, .string x.pr, .slice p.a x.ts.length p.c, .int .i8 x.rel, .int .i8 x.l.op, .string x.l.t.v, .int .i8 x.l.t.a.k, .int .i64 x.l.t.a.n, .string x.l.t.a.s, .slice p.la x.l.kids.length p.lc, .int .i8 x.r.op, .string x.r.t.v, .int .i8 x.r.t.a.k, .int .i64 x.r.t.a.n, .string x.r.t.a.s, .slice p.ra x.r.kids.length p.rc] 89)
  have BB := BA.alloc BA.size (.cells #[.int .i8 y.k, .string y.pr, .slice q.a y.ts.length q.c, .int .i8 y.rel, .int .i8 y.l.op, .string y.l.t.v, .int .i8 y.l.t.a.k, .int .i64 y.l.t.a.n, .string y.l.t.a.s, .slice q.la y.l.kids.length q.lc, .int .i8 y.r.op, .string y.r.t.v, .int .i8 y.r.t.a.k, .int .i64 y.r.t.a.n, .string y.r.t.a.s, .slice q.ra y.r.kids.length q.rc] 89)
  have HA : Hid (∀ u, Below w.heap.size w u → Calls Tryz.prog 102 #[.slice p.a x.ts.length p.c, .slice q.a y.ts.length q.c] u fun r w' => r = .returned (.bool (eqB dec x.ts y.ts)) ∧ Below u.heap.size u w') := fun u hu => eqTerms_any _ _ x.ts y.ts u (hX.ts.below hu) (hY.ts.below hu)
  have HE1 : Hid (∀ u, Below w.heap.size w u → Calls Tryz.prog 103 #[x.l.val p.la p.lc, y.l.val q.la q.lc] u fun r w' => r = .returned (.bool (eqB dec x.l y.l)) ∧ Below u.heap.size u w') := fun u hu => samePOK d x.l y.l p.la q.la p.lc q.lc u (hX.l.below hu) (hY.l.below hu)
  have HE2 : Hid (∀ u, Below w.heap.size w u → Calls Tryz.prog 103 #[x.r.val p.ra p.rc, y.r.val q.ra q.rc] u fun r w' => r = .returned (.bool (eqB dec x.r y.r)) ∧ Below u.heap.size u w') := fun u hu => samePOK d x.r y.r p.ra q.ra p.rc q.rc u (hX.r.below hu) (hY.r.below hu)
  have HR0 : Hid (RL ((w.alloc (.cells #[.int .i8 x.k, .string x.pr, .slice p.a x.ts.length p.c, .int .i8 x.rel, .int .i8 x.l.op, .string x.l.t.v, .int .i8 x.l.t.a.k, .int .i64 x.l.t.a.n, .string x.l.t.a.s, .slice p.la x.l.kids.length p.lc, .int .i8 x.r.op, .string x.r.t.v, .int .i8 x.r.t.a.k, .int .i64 x.r.t.a.n, .string x.r.t.a.s, .slice p.ra x.r.kids.length p.rc] 89)).alloc (.cells #[.int .i8 y.k, .string y.pr, .slice q.a y.ts.length q.c, .int .i8 y.rel, .int .i8 y.l.op, .string y.l.t.v, .int .i8 y.l.t.a.k, .int .i64 y.l.t.a.n, .string y.l.t.a.s, .slice q.la y.l.kids.length q.lc, .int .i8 y.r.op, .string y.r.t.v, .int .i8 y.r.t.a.k, .int .i64 y.r.t.a.n, .string y.r.t.a.s, .slice q.ra y.r.kids.length q.rc] 89)) w.heap.size 89 [.int .i8 x.k, .string x.pr, .slice p.a x.ts.length p.c, .int .i8 x.rel, .int .i8 x.l.op, .string x.l.t.v, .int .i8 x.l.t.a.k, .int .i64 x.l.t.a.n, .string x.l.t.a.s, .slice p.la x.l.kids.length p.lc, .int .i8 x.r.op, .string x.r.t.v, .int .i8 x.r.t.a.k, .int .i64 x.r.t.a.n, .string x.r.t.a.s, .slice p.ra x.r.kids.length p.rc]) := (rl_new w #[.int .i8 x.k, .string x.pr, .slice p.a x.ts.length p.c, .int .i8 x.rel, .int .i8 x.l.op, .string x.l.t.v, .int .i8 x.l.t.a.k, .int .i64 x.l.t.a.n, .string x.l.t.a.s, .slice p.la x.l.kids.length p.lc, .int .i8 x.r.op, .string x.r.t.v, .int .i8 x.r.t.a.k, .int .i64 x.r.t.a.n, .string x.r.t.a.s, .slice p.ra x.r.kids.length p.rc] 89).below ((Below.refl _ _).alloc (Nat.le_refl _) _)
  have HR1 : Hid (RL ((w.alloc (.cells #[.int .i8 x.k, .string x.pr, .slice p.a x.ts.length p.c, .int .i8 x.rel, .int .i8 x.l.op, .string x.l.t.v, .int .i8 x.l.t.a.k, .int .i64 x.l.t.a.n, .string x.l.t.a.s, .slice p.la x.l.kids.length p.lc, .int .i8 x.r.op, .string x.r.t.v, .int .i8 x.r.t.a.k, .int .i64 x.r.t.a.n, .string x.r.t.a.s, .slice p.ra x.r.kids.length p.rc] 89)).alloc (.cells #[.int .i8 y.k, .string y.pr, .slice q.a y.ts.length q.c, .int .i8 y.rel, .int .i8 y.l.op, .string y.l.t.v, .int .i8 y.l.t.a.k, .int .i64 y.l.t.a.n, .string y.l.t.a.s, .slice q.la y.l.kids.length q.lc, .int .i8 y.r.op, .string y.r.t.v, .int .i8 y.r.t.a.k, .int .i64 y.r.t.a.n, .string y.r.t.a.s, .slice q.ra y.r.kids.length q.rc] 89)) (w.heap.size + 1) 89 [.int .i8 y.k, .string y.pr, .slice q.a y.ts.length q.c, .int .i8 y.rel, .int .i8 y.l.op, .string y.l.t.v, .int .i8 y.l.t.a.k, .int .i64 y.l.t.a.n, .string y.l.t.a.s, .slice q.la y.l.kids.length q.lc, .int .i8 y.r.op, .string y.r.t.v, .int .i8 y.r.t.a.k, .int .i64 y.r.t.a.n, .string y.r.t.a.s, .slice q.ra y.r.kids.length q.rc]) := by
    have := rl_new (w.alloc (.cells #[.int .i8 x.k, .string x.pr, .slice p.a x.ts.length p.c, .int .i8 x.rel, .int .i8 x.l.op, .string x.l.t.v, .int .i8 x.l.t.a.k, .int .i64 x.l.t.a.n, .string x.l.t.a.s, .slice p.la x.l.kids.length p.lc, .int .i8 x.r.op, .string x.r.t.v, .int .i8 x.r.t.a.k, .int .i64 x.r.t.a.n, .string x.r.t.a.s, .slice p.ra x.r.kids.length p.rc] 89)) #[.int .i8 y.k, .string y.pr, .slice q.a y.ts.length q.c, .int .i8 y.rel, .int .i8 y.l.op, .string y.l.t.v, .int .i8 y.l.t.a.k, .int .i64 y.l.t.a.n, .string y.l.t.a.s, .slice q.la y.l.kids.length q.lc, .int .i8 y.r.op, .string y.r.t.v, .int .i8 y.r.t.a.k, .int .i64 y.r.t.a.n, .string y.r.t.a.s, .slice q.ra y.r.kids.length q.rc] 89
    rw [World.size_alloc] at this
    exact this
  have HB : Hid (Below w.heap.size w _) := BB
  obtain ⟨R, hR⟩ : ∃ R, eqB dec x y = R := ⟨_, rfl⟩
  rw [hR]
  have HR : Hid (eqB dec x y = R) := hR
  clear hX hY BA BB hR
  unfold Lit4.val E.val at *
  by_cases hk : x.k = y.k
  · have ek : (x.k == y.k) = true := by rw [hk]; simp
    by_cases hp : x.pr = y.pr
    · have ep : (x.pr.toList == y.pr.toList) = true := by rw [hp]; simp
      have HQ1 : Hid (eqB dec x.ts y.ts = false → R = false) := fun h => by rw [← HR.out]; exact eqB_f (fun e => eqB_ne h (by rw [e]))
      have HQ2 : Hid (eqB dec x.l y.l = false → R = false) := fun h => by rw [← HR.out]; exact eqB_f (fun e => eqB_ne h (by rw [e]))
      have HQ0 : Hid (¬ x.rel = y.rel → R = false) := fun h => by rw [← HR.out]; exact eqB_f (fun e => h (by rw [e]))
      have HQ3 : Hid (x.rel = y.rel → eqB dec x.ts y.ts = true → eqB dec x.l y.l = true → R = eqB dec x.r y.r) := fun hl h1 h2 => by
        rw [← HR.out]
        cases q : eqB dec x.r y.r
        · exact eqB_f (fun e => eqB_ne q (by rw [e]))
        · obtain ⟨k1, p1, t1, r1, l1, z1⟩ := x
          obtain ⟨k2, p2, t2, r2, l2, z2⟩ := y
          dsimp only at hk hp hl h1 h2 q
          have h1 := eqB_eq h1
          have h2 := eqB_eq h2
          have h5 := eqB_eq q
          subst hk hp hl h1 h2 h5
          exact eqB_t rfl
      generalize eqB dec x.ts y.ts = Q1 at HA HQ1 HQ3
      generalize eqB dec x.l y.l = Q2 at HE1 HQ2 HQ3
      generalize eqB dec x.r y.r = Q3 at HE2 HQ3
      clear hk hp
      go_enter Tryz.func65, Tryz.ntmps65
      go_wp2_with fail
      refine Calls.mono (HA.out _ HB.out) ?_
      rintro ee w1 ⟨rfl, b1⟩
      have B1 : Hid (Below w.heap.size w w1) := HB.out.trans (b1.mono HB.out.size)
      have H0 : Hid (RL w1 w.heap.size 89 _) := RL.below HR0.out b1
      have H1 : Hid (RL w1 (w.heap.size + 1) 89 _) := RL.below HR1.out b1
      cases Q1
      · have HN : R = false := by first | exact HQ1.out rfl | exact HQ1.out trivial | exact HQ1.out
        clear b1 HR0 HR1 HB HA HE1 HE2 HQ1 HQ2 HQ3 HQ0
        go_wp2
        go_ret
        exact ⟨by rw [HN]; rfl, B1.out⟩
      have u0 := H0.out.at (j := 0) rfl
      have v0 := H1.out.at (j := 0) rfl
      have u1 := H0.out.at (j := 1) rfl
      have v1 := H1.out.at (j := 1) rfl
      have u2 := H0.out.at (j := 2) rfl
      have v2 := H1.out.at (j := 2) rfl
      have u3 := H0.out.at (j := 3) rfl
      have v3 := H1.out.at (j := 3) rfl
      have u4 := H0.out.at (j := 4) rfl
      have v4 := H1.out.at (j := 4) rfl
      have u5 := H0.out.at (j := 5) rfl
      have v5 := H1.out.at (j := 5) rfl
      have u6 := H0.out.at (j := 6) rfl
      have v6 := H1.out.at (j := 6) rfl
      have u7 := H0.out.at (j := 7) rfl
      have v7 := H1.out.at (j := 7) rfl
      have u8 := H0.out.at (j := 8) rfl
      have v8 := H1.out.at (j := 8) rfl
      have u9 := H0.out.at (j := 9) rfl
      have v9 := H1.out.at (j := 9) rfl
      have u10 := H0.out.at (j := 10) rfl
      have v10 := H1.out.at (j := 10) rfl
      have u11 := H0.out.at (j := 11) rfl
      have v11 := H1.out.at (j := 11) rfl
      have u12 := H0.out.at (j := 12) rfl
      have v12 := H1.out.at (j := 12) rfl
      have u13 := H0.out.at (j := 13) rfl
      have v13 := H1.out.at (j := 13) rfl
      have u14 := H0.out.at (j := 14) rfl
      have v14 := H1.out.at (j := 14) rfl
      have u15 := H0.out.at (j := 15) rfl
      have v15 := H1.out.at (j := 15) rfl
      clear b1 HR0 HR1 HB HA
      by_cases hl : x.rel = y.rel
      · have el : (x.rel == y.rel) = true := by rw [hl]; simp
        have HQ4 : Hid (Q2 = true → R = Q3) := fun h => HQ3.out hl rfl h
        clear hl HQ3 HQ0 HQ1
        go_wp2_with fail
        refine Calls.mono (HE1.out _ B1.out) ?_
        rintro ee w2 ⟨rfl, b2⟩
        have B2 : Hid (Below w.heap.size w w2) := B1.out.trans (b2.mono B1.out.size)
        cases Q2
        · have HN : R = false := by first | exact HQ2.out rfl | exact HQ2.out trivial | exact HQ2.out
          clear b2 H0 H1 B1 HE1 HE2 HQ2 HQ4
          go_wp2
          go_ret
          exact ⟨by rw [HN]; rfl, B2.out⟩
        have K0 : Hid (RL w2 w.heap.size 89 _) := RL.below H0.out b2
        have K1 : Hid (RL w2 (w.heap.size + 1) 89 _) := RL.below H1.out b2
        have HN : R = Q3 := by first | exact HQ4.out rfl | exact HQ4.out trivial | exact HQ4.out
        clear u0 v0 u1 v1 u2 v2 u3 v3 u4 v4 u5 v5 u6 v6 u7 v7 u8 v8 u9 v9 u10 v10 u11 v11 u12 v12 u13 v13 u14 v14 u15 v15
        have u0 := K0.out.at (j := 0) rfl
        have v0 := K1.out.at (j := 0) rfl
        have u1 := K0.out.at (j := 1) rfl
        have v1 := K1.out.at (j := 1) rfl
        have u2 := K0.out.at (j := 2) rfl
        have v2 := K1.out.at (j := 2) rfl
        have u3 := K0.out.at (j := 3) rfl
        have v3 := K1.out.at (j := 3) rfl
        have u4 := K0.out.at (j := 4) rfl
        have v4 := K1.out.at (j := 4) rfl
        have u5 := K0.out.at (j := 5) rfl
        have v5 := K1.out.at (j := 5) rfl
        have u6 := K0.out.at (j := 6) rfl
        have v6 := K1.out.at (j := 6) rfl
        have u7 := K0.out.at (j := 7) rfl
        have v7 := K1.out.at (j := 7) rfl
        have u8 := K0.out.at (j := 8) rfl
        have v8 := K1.out.at (j := 8) rfl
        have u9 := K0.out.at (j := 9) rfl
        have v9 := K1.out.at (j := 9) rfl
        have u10 := K0.out.at (j := 10) rfl
        have v10 := K1.out.at (j := 10) rfl
        have u11 := K0.out.at (j := 11) rfl
        have v11 := K1.out.at (j := 11) rfl
        have u12 := K0.out.at (j := 12) rfl
        have v12 := K1.out.at (j := 12) rfl
        have u13 := K0.out.at (j := 13) rfl
        have v13 := K1.out.at (j := 13) rfl
        have u14 := K0.out.at (j := 14) rfl
        have v14 := K1.out.at (j := 14) rfl
        have u15 := K0.out.at (j := 15) rfl
        have v15 := K1.out.at (j := 15) rfl
        clear b2 H0 H1 B1 HE1 HQ2 HQ4
        go_wp2_with fail
        refine Calls.mono (HE2.out _ B2.out) ?_
        rintro ee w3 ⟨rfl, b3⟩
        have B3 : Hid (Below w.heap.size w w3) := B2.out.trans (b3.mono B2.out.size)
        clear K0 K1 b3
        go_wp2
        go_ret
        exact ⟨by rw [HN]; rfl, B3.out⟩
      · have el : (x.rel == y.rel) = false := by rw [beq_eq_false_iff_ne]; exact hl
        have HN : R = false := HQ0.out hl
        clear hl HQ3 HQ0 HQ1 HQ2 HE1 HE2
        go_wp2
        go_ret
        exact ⟨by rw [HN]; rfl, B1.out⟩
    · have ep : (x.pr.toList == y.pr.toList) = false := by
        rw [beq_eq_false_iff_ne]
        exact fun h => hp (toList_inj h)
      have HN : Hid (R = false) := by show R = _; rw [← HR.out]; exact eqB_f (fun e => hp (by rw [e]))
      clear hk hp HA HE1 HE2 HR0 HR1
      go_enter Tryz.func65, Tryz.ntmps65
      go_wp2
      go_ret
      exact ⟨by rw [HN.out]; rfl, HB.out⟩
  · have ek : (x.k == y.k) = false := by rw [beq_eq_false_iff_ne]; exact hk
    have HN : Hid (R = false) := by show R = _; rw [← HR.out]; exact eqB_f (fun e => hk (by rw [e]))
    clear hk HA HE1 HE2 HR0 HR1
    go_enter Tryz.func65, Tryz.ntmps65
    go_wp2
    go_ret
    exact ⟨by rw [HN.out]; rfl, HB.out⟩
theorem samePLOK (d : Nat) : SamePL dec d := fun x y p q w h1 h2 => sameLiteralP_any d x y p q w h1 h2
end Go.Proofs.YtgplipfebnigiaaGreatDoor
end
section
namespace Go.Proofs.YtgplipfebnigiaaGreatDoor
open Go.RowKit Go.Maps
set_option linter.unusedVariables false
set_option linter.unusedSimpArgs false
attribute [local go_sem ↓] Go.wp_at_zero Go.wp_at_succ
variable {dec : Dec}

set_option maxHeartbeats 3200000 in
theorem sameRuleP_any (d : Nat) (r s : R3) (p q : RP) (w : World) (hR : RIs w d r p) (hS : RIs w d s q) :
    Calls Tryz.prog 31 #[r.val p, s.val q] w fun e w' => e = .returned (.bool (sameR dec r s)) ∧ Below w.heap.size w w' := by
  unfold R3.val
  have BA := (Below.refl w.heap.size w).alloc (Nat.le_refl _) (.cells #[.string r.pr, .slice p.a r.hd.length p.c, .slice p.ba r.bd.length p.bc] 25)
  have BB := BA.alloc BA.size (.cells #[.string s.pr, .slice q.a s.hd.length q.c, .slice q.ba s.bd.length q.bc] 25)
  have HR0 : Hid (RL ((w.alloc (.cells #[.string r.pr, .slice p.a r.hd.length p.c, .slice p.ba r.bd.length p.bc] 25)).alloc (.cells #[.string s.pr, .slice q.a s.hd.length q.c, .slice q.ba s.bd.length q.bc] 25)) w.heap.size 25 [.string r.pr, .slice p.a r.hd.length p.c, .slice p.ba r.bd.length p.bc]) := (rl_new w #[.string r.pr, .slice p.a r.hd.length p.c, .slice p.ba r.bd.length p.bc] 25).below ((Below.refl _ _).alloc (Nat.le_refl _) _)
  have HR1 : Hid (RL ((w.alloc (.cells #[.string r.pr, .slice p.a r.hd.length p.c, .slice p.ba r.bd.length p.bc] 25)).alloc (.cells #[.string s.pr, .slice q.a s.hd.length q.c, .slice q.ba s.bd.length q.bc] 25)) (w.heap.size + 1) 25 [.string s.pr, .slice q.a s.hd.length q.c, .slice q.ba s.bd.length q.bc]) := by
    have := rl_new (w.alloc (.cells #[.string r.pr, .slice p.a r.hd.length p.c, .slice p.ba r.bd.length p.bc] 25)) #[.string s.pr, .slice q.a s.hd.length q.c, .slice q.ba s.bd.length q.bc] 25
    rw [World.size_alloc] at this
    exact this
  have HA : Hid _ := eqArgs_any (dec := dec) _ _ r.hd s.hd _ (hR.hd.below BB) (hS.hd.below BB)
  have HB : Hid (∀ u, Below w.heap.size w u → Calls Tryz.prog 64 #[.slice p.ba r.bd.length p.bc, .slice q.ba s.bd.length q.bc, .func (.func 65) #[] #[]] u fun e w' => e = .returned (.bool (eqB dec (r.bd.map XL.x) (s.bd.map XL.x))) ∧ Below u.heap.size u w') := fun u hu => equalLits_any d (samePLOK d) _ _ r.bd s.bd u (hR.bd.below hu) (hS.bd.below hu)
  have HBB : Hid (Below w.heap.size w _) := BB
  obtain ⟨R, hRR⟩ : ∃ R, sameR dec r s = R := ⟨_, rfl⟩
  rw [hRR]
  have HRR : Hid (sameR dec r s = R) := hRR
  clear BA BB hR hS hRR
  by_cases hp : r.pr = s.pr
  · have e0 : (r.pr.toList == s.pr.toList) = true := by rw [hp]; simp
    have HQ1 : Hid (eqB dec r.hd s.hd = false → R = false) := fun h => by rw [← HRR.out]; exact sameR_f (fun e => eqB_ne h e.hd)
    have HQ2 : Hid (eqB dec r.hd s.hd = true → R = eqB dec (r.bd.map XL.x) (s.bd.map XL.x)) := fun h => by
      rw [← HRR.out]
      cases q : eqB dec (r.bd.map XL.x) (s.bd.map XL.x)
      · exact sameR_f (fun e => eqB_ne q e.bd)
      · exact sameR_t ⟨hp, eqB_eq h, eqB_eq q⟩
    generalize eqB dec r.hd s.hd = Q1 at HA HQ1 HQ2
    generalize eqB dec (r.bd.map XL.x) (s.bd.map XL.x) = Q2 at HB HQ2
    clear hp
    go_enter Tryz.func31, Tryz.ntmps31
    go_wp2_with fail
    refine Calls.mono HA.out ?_
    rintro ee w1 ⟨rfl, b1⟩
    have B1 : Hid (Below w.heap.size w w1) := HBB.out.trans (b1.mono HBB.out.size)
    have H0 : Hid (RL w1 w.heap.size 25 _) := RL.below HR0.out b1
    have H1 : Hid (RL w1 (w.heap.size + 1) 25 _) := RL.below HR1.out b1
    cases Q1
    · have HN : R = false := by first | exact HQ1.out rfl | exact HQ1.out trivial | exact HQ1.out
      clear b1 HR0 HR1 HBB HA HB HQ1 HQ2
      go_wp2
      go_ret
      exact ⟨by rw [HN]; rfl, B1.out⟩
    have u2 := H0.out.at (j := 2) rfl
    have v2 := H1.out.at (j := 2) rfl
    have HN : Hid (R = Q2) := by first | exact HQ2.out rfl | exact HQ2.out trivial | exact HQ2.out
    clear b1 HR0 HR1 HBB HA HQ1 HQ2
    go_wp2_with fail
    refine Calls.mono (HB.out _ B1.out) ?_
    rintro ee w2 ⟨rfl, b2⟩
    go_wp2
    go_ret
    exact ⟨by rw [HN.out]; rfl, B1.out.trans (b2.mono B1.out.size)⟩
  · have e0 : (r.pr.toList == s.pr.toList) = false := by
      rw [beq_eq_false_iff_ne]
      exact fun h => hp (toList_inj h)
    have HN : Hid (R = false) := by show R = _; rw [← HRR.out]; exact sameR_f (fun e => hp e.pr)
    clear hp HA HB HR0 HR1
    go_enter Tryz.func31, Tryz.ntmps31
    go_wp2
    go_ret
    exact ⟨by rw [HN.out]; rfl, HBB.out⟩
end Go.Proofs.YtgplipfebnigiaaGreatDoor
end
section
namespace Go.Proofs.YtgplipfebnigiaaGreatDoor
open Go.RowKit Go.Maps
set_option linter.unusedVariables false
set_option linter.unusedSimpArgs false
attribute [local go_sem ↓] Go.wp_at_zero Go.wp_at_succ
variable {dec : Dec}

set_option maxHeartbeats 6400000 in
theorem rsameLiteral_any (d : Nat) (x y : Lit4) (p q : LP) (w : World) (hX : LIs w d x p) (hY : LIs w d y q) :
    Calls Tryz.prog 66 #[x.val p, y.val q] w fun r w' => r = .returned (.bool (eqB dec x y)) ∧ Below w.heap.size w w' := by
  have BA := (Below.refl w.heap.size w).alloc (Nat.le_refl _) (.cells #[.int .i8 x.k, .string x.pr, .slice p.a x.ts.length p.c, .int .i8 x.rel, .int .i8 x.l.op, .string x.l.t.v, .int .i8 x.l.t.a.k, .int .i64 x.l.t.a.n, .string x.l.t.a.s, .slice p.la x.l.kids.length p.lc, .int .i8 x.r.op, .string x.r.t.v, .int .i8 x.r.t.a.k, .int .i64 x.r.t.a.n, .string x.r.t.a.s, .slice p.ra x.r.kids.length p.rc] 89)
  have BB := BA.alloc BA.size (.cells #[.int .i8 y.k, .string y.pr, .slice q.a y.ts.length q.c, .int .i8 y.rel, .int .i8 y.l.op, .string y.l.t.v, .int .i8 y.l.t.a.k, .int .i64 y.l.t.a.n, .string y.l.t.a.s, .slice q.la y.l.kids.length q.lc, .int .i8 y.r.op, .string y.r.t.v, .int .i8 y.r.t.a.k, .int .i64 y.r.t.a.n, .string y.r.t.a.s, .slice q.ra y.r.kids.length q.rc] 89)
  have HA : Hid (∀ u, Below w.heap.size w u → Calls Tryz.prog 104 #[.agg #[.string x.pr, .slice p.a x.ts.length p.c], .agg #[.string y.pr, .slice q.a y.ts.length q.c]] u fun r w' => r = .returned (.bool (eqB dec (x.pr, x.ts) (y.pr, y.ts))) ∧ Below u.heap.size u w') := fun u hu => rsameAtom_any x.pr y.pr x.ts y.ts _ _ u (hX.ts.below hu) (hY.ts.below hu)
  have HE1 : Hid (∀ u, Below w.heap.size w u → Calls Tryz.prog 105 #[x.l.val p.la p.lc, y.l.val q.la q.lc] u fun r w' => r = .returned (.bool (eqB dec x.l y.l)) ∧ Below u.heap.size u w') := fun u hu => sameQOK d x.l y.l p.la q.la p.lc q.lc u (hX.l.below hu) (hY.l.below hu)
  have HE2 : Hid (∀ u, Below w.heap.size w u → Calls Tryz.prog 105 #[x.r.val p.ra p.rc, y.r.val q.ra q.rc] u fun r w' => r = .returned (.bool (eqB dec x.r y.r)) ∧ Below u.heap.size u w') := fun u hu => sameQOK d x.r y.r p.ra q.ra p.rc q.rc u (hX.r.below hu) (hY.r.below hu)
  have HR0 : Hid (RL ((w.alloc (.cells #[.int .i8 x.k, .string x.pr, .slice p.a x.ts.length p.c, .int .i8 x.rel, .int .i8 x.l.op, .string x.l.t.v, .int .i8 x.l.t.a.k, .int .i64 x.l.t.a.n, .string x.l.t.a.s, .slice p.la x.l.kids.length p.lc, .int .i8 x.r.op, .string x.r.t.v, .int .i8 x.r.t.a.k, .int .i64 x.r.t.a.n, .string x.r.t.a.s, .slice p.ra x.r.kids.length p.rc] 89)).alloc (.cells #[.int .i8 y.k, .string y.pr, .slice q.a y.ts.length q.c, .int .i8 y.rel, .int .i8 y.l.op, .string y.l.t.v, .int .i8 y.l.t.a.k, .int .i64 y.l.t.a.n, .string y.l.t.a.s, .slice q.la y.l.kids.length q.lc, .int .i8 y.r.op, .string y.r.t.v, .int .i8 y.r.t.a.k, .int .i64 y.r.t.a.n, .string y.r.t.a.s, .slice q.ra y.r.kids.length q.rc] 89)) w.heap.size 89 [.int .i8 x.k, .string x.pr, .slice p.a x.ts.length p.c, .int .i8 x.rel, .int .i8 x.l.op, .string x.l.t.v, .int .i8 x.l.t.a.k, .int .i64 x.l.t.a.n, .string x.l.t.a.s, .slice p.la x.l.kids.length p.lc, .int .i8 x.r.op, .string x.r.t.v, .int .i8 x.r.t.a.k, .int .i64 x.r.t.a.n, .string x.r.t.a.s, .slice p.ra x.r.kids.length p.rc]) := (rl_new w #[.int .i8 x.k, .string x.pr, .slice p.a x.ts.length p.c, .int .i8 x.rel, .int .i8 x.l.op, .string x.l.t.v, .int .i8 x.l.t.a.k, .int .i64 x.l.t.a.n, .string x.l.t.a.s, .slice p.la x.l.kids.length p.lc, .int .i8 x.r.op, .string x.r.t.v, .int .i8 x.r.t.a.k, .int .i64 x.r.t.a.n, .string x.r.t.a.s, .slice p.ra x.r.kids.length p.rc] 89).below ((Below.refl _ _).alloc (Nat.le_refl _) _)
  have HR1 : Hid (RL ((w.alloc (.cells #[.int .i8 x.k, .string x.pr, .slice p.a x.ts.length p.c, .int .i8 x.rel, .int .i8 x.l.op, .string x.l.t.v, .int .i8 x.l.t.a.k, .int .i64 x.l.t.a.n, .string x.l.t.a.s, .slice p.la x.l.kids.length p.lc, .int .i8 x.r.op, .string x.r.t.v, .int .i8 x.r.t.a.k, .int .i64 x.r.t.a.n, .string x.r.t.a.s, .slice p.ra x.r.kids.length p.rc] 89)).alloc (.cells #[.int .i8 y.k, .string y.pr, .slice q.a y.ts.length q.c, .int .i8 y.rel, .int .i8 y.l.op, .string y.l.t.v, .int .i8 y.l.t.a.k, .int .i64 y.l.t.a.n, .string y.l.t.a.s, .slice q.la y.l.kids.length q.lc, .int .i8 y.r.op, .string y.r.t.v, .int .i8 y.r.t.a.k, .int .i64 y.r.t.a.n, .string y.r.t.a.s, .slice q.ra y.r.kids.length q.rc] 89)) (w.heap.size + 1) 89 [.int .i8 y.k, .string y.pr, .slice q.a y.ts.length q.c, .int .i8 y.rel, .int .i8 y.l.op, .string y.l.t.v, .int .i8 y.l.t.a.k, .int .i64 y.l.t.a.n, .string y.l.t.a.s, .slice q.la y.l.kids.length q.lc, .int .i8 y.r.op, .string y.r.t.v, .int .i8 y.r.t.a.k, .int .i64 y.r.t.a.n, .string y.r.t.a.s, .slice q.ra y.r.kids.length q.rc]) := by
    have := rl_new (w.alloc (.cells #[.int .i8 x.k, .string x.pr, .slice p.a x.ts.length p.c, .int .i8 x.rel, .int .i8 x.l.op, .string x.l.t.v, .int .i8 x.l.t.a.k, .int .i64 x.l.t.a.n, .string x.l.t.a.s, .slice p.la x.l.kids.length p.lc, .int .i8 x.r.op, .string x.r.t.v, .int .i8 x.r.t.a.k, .int .i64 x.r.t.a.n, .string x.r.t.a.s, .slice p.ra x.r.kids.length p.rc] 89)) #[.int .i8 y.k, .string y.pr, .slice q.a y.ts.length q.c, .int .i8 y.rel, .int .i8 y.l.op, .string y.l.t.v, .int .i8 y.l.t.a.k, .int .i64 y.l.t.a.n, .string y.l.t.a.s, .slice q.la y.l.kids.length q.lc, .int .i8 y.r.op, .string y.r.t.v, .int .i8 y.r.t.a.k, .int .i64 y.r.t.a.n, .string y.r.t.a.s, .slice q.ra y.r.kids.length q.rc] 89
    rw [World.size_alloc] at this
    exact this
  have HB : Hid (Below w.heap.size w _) := BB
  obtain ⟨R, hR⟩ : ∃ R, eqB dec x y = R := ⟨_, rfl⟩
  rw [hR]
  have HR : Hid (eqB dec x y = R) := hR
  clear hX hY BA BB hR
  unfold Lit4.val E.val at *
  by_cases hk : x.k = y.k
  · have ek : (x.k == y.k) = true := by rw [hk]; simp
    by_cases hl : x.rel = y.rel
    · have el : (x.rel == y.rel) = true := by rw [hl]; simp
      have HQ1 : Hid (eqB dec (x.pr, x.ts) (y.pr, y.ts) = false → R = false) := fun h => by rw [← HR.out]; exact eqB_f (fun e => eqB_ne h (by rw [e]))
      have HQ2 : Hid (eqB dec x.l y.l = false → R = false) := fun h => by rw [← HR.out]; exact eqB_f (fun e => eqB_ne h (by rw [e]))
      have HQ3 : Hid (eqB dec (x.pr, x.ts) (y.pr, y.ts) = true → eqB dec x.l y.l = true → R = eqB dec x.r y.r) := fun h1 h2 => by
        rw [← HR.out]
        cases q : eqB dec x.r y.r
        · exact eqB_f (fun e => eqB_ne q (by rw [e]))
        · obtain ⟨k1, p1, t1, r1, l1, z1⟩ := x
          obtain ⟨k2, p2, t2, r2, l2, z2⟩ := y
          dsimp only at hk hl h1 h2 q
          have h1 := eqB_eq h1
          injection h1 with h3 h4
          have h2 := eqB_eq h2
          have h5 := eqB_eq q
          subst hk hl h2 h3 h4 h5
          exact eqB_t rfl
      generalize eqB dec (x.pr, x.ts) (y.pr, y.ts) = Q1 at HA HQ1 HQ3
      generalize eqB dec x.l y.l = Q2 at HE1 HQ2 HQ3
      generalize eqB dec x.r y.r = Q3 at HE2 HQ3
      clear hk hl
      go_enter Tryz.func66, Tryz.ntmps66
      go_wp2_with fail
      refine Calls.mono (HA.out _ HB.out) ?_
      rintro ee w1 ⟨rfl, b1⟩
      have B1 : Hid (Below w.heap.size w w1) := HB.out.trans (b1.mono HB.out.size)
      have H0 : Hid (RL w1 w.heap.size 89 _) := RL.below HR0.out b1
      have H1 : Hid (RL w1 (w.heap.size + 1) 89 _) := RL.below HR1.out b1
      cases Q1
      · have HN : R = false := by first | exact HQ1.out rfl | exact HQ1.out trivial | exact HQ1.out
        clear b1 HR0 HR1 HB HA HE1 HE2 HQ1 HQ2 HQ3
        go_wp2
        go_ret
        exact ⟨by rw [HN]; rfl, B1.out⟩
      have u0 := H0.out.at (j := 0) rfl
      have u1 := H0.out.at (j := 1) rfl
      have u2 := H0.out.at (j := 2) rfl
      have u3 := H0.out.at (j := 3) rfl
      have u4 := H0.out.at (j := 4) rfl
      have u5 := H0.out.at (j := 5) rfl
      have u6 := H0.out.at (j := 6) rfl
      have u7 := H0.out.at (j := 7) rfl
      have u8 := H0.out.at (j := 8) rfl
      have u9 := H0.out.at (j := 9) rfl
      have u10 := H0.out.at (j := 10) rfl
      have u11 := H0.out.at (j := 11) rfl
      have u12 := H0.out.at (j := 12) rfl
      have u13 := H0.out.at (j := 13) rfl
      have u14 := H0.out.at (j := 14) rfl
      have u15 := H0.out.at (j := 15) rfl
      have v0 := H1.out.at (j := 0) rfl
      have v1 := H1.out.at (j := 1) rfl
      have v2 := H1.out.at (j := 2) rfl
      have v3 := H1.out.at (j := 3) rfl
      have v4 := H1.out.at (j := 4) rfl
      have v5 := H1.out.at (j := 5) rfl
      have v6 := H1.out.at (j := 6) rfl
      have v7 := H1.out.at (j := 7) rfl
      have v8 := H1.out.at (j := 8) rfl
      have v9 := H1.out.at (j := 9) rfl
      have v10 := H1.out.at (j := 10) rfl
      have v11 := H1.out.at (j := 11) rfl
      have v12 := H1.out.at (j := 12) rfl
      have v13 := H1.out.at (j := 13) rfl
      have v14 := H1.out.at (j := 14) rfl
      have v15 := H1.out.at (j := 15) rfl
      clear b1 HR0 HR1 HB HA
      go_wp2_with fail
      refine Calls.mono (HE1.out _ B1.out) ?_
      rintro ee w2 ⟨rfl, b2⟩
      have B2 : Hid (Below w.heap.size w w2) := B1.out.trans (b2.mono B1.out.size)
      have H2 : Hid (RL w2 w.heap.size 89 _) := RL.below H0.out b2
      have H3 : Hid (RL w2 (w.heap.size + 1) 89 _) := RL.below H1.out b2
      clear b2 H0 H1 HE1 u0 u1 u2 u3 u4 u5 u6 u7 u8 u9 u10 u11 u12 u13 u14 u15 v0 v1 v2 v3 v4 v5 v6 v7 v8 v9 v10 v11 v12 v13 v14 v15 B1
      cases Q2
      · have HN : R = false := by first | exact HQ2.out rfl | exact HQ2.out trivial | exact HQ2.out
        clear HE2 HQ1 HQ2 HQ3
        go_wp2
        go_ret
        exact ⟨by rw [HN]; rfl, B2.out⟩
      have u0 := H2.out.at (j := 0) rfl
      have u1 := H2.out.at (j := 1) rfl
      have u2 := H2.out.at (j := 2) rfl
      have u3 := H2.out.at (j := 3) rfl
      have u4 := H2.out.at (j := 4) rfl
      have u5 := H2.out.at (j := 5) rfl
      have u6 := H2.out.at (j := 6) rfl
      have u7 := H2.out.at (j := 7) rfl
      have u8 := H2.out.at (j := 8) rfl
      have u9 := H2.out.at (j := 9) rfl
      have u10 := H2.out.at (j := 10) rfl
      have u11 := H2.out.at (j := 11) rfl
      have u12 := H2.out.at (j := 12) rfl
      have u13 := H2.out.at (j := 13) rfl
      have u14 := H2.out.at (j := 14) rfl
      have u15 := H2.out.at (j := 15) rfl
      have v0 := H3.out.at (j := 0) rfl
      have v1 := H3.out.at (j := 1) rfl
      have v2 := H3.out.at (j := 2) rfl
      have v3 := H3.out.at (j := 3) rfl
      have v4 := H3.out.at (j := 4) rfl
      have v5 := H3.out.at (j := 5) rfl
      have v6 := H3.out.at (j := 6) rfl
      have v7 := H3.out.at (j := 7) rfl
      have v8 := H3.out.at (j := 8) rfl
      have v9 := H3.out.at (j := 9) rfl
      have v10 := H3.out.at (j := 10) rfl
      have v11 := H3.out.at (j := 11) rfl
      have v12 := H3.out.at (j := 12) rfl
      have v13 := H3.out.at (j := 13) rfl
      have v14 := H3.out.at (j := 14) rfl
      have v15 := H3.out.at (j := 15) rfl
      have HN : Hid (R = Q3) := by first | exact HQ3.out rfl rfl | exact HQ3.out trivial rfl | exact HQ3.out rfl | exact HQ3.out trivial trivial | exact HQ3.out trivial | exact HQ3.out
      clear H2 H3 HQ1 HQ2 HQ3
      go_wp2_with fail
      refine Calls.mono (HE2.out _ B2.out) ?_
      rintro ee w3 ⟨rfl, b3⟩
      go_wp2
      go_ret
      exact ⟨by rw [HN.out]; rfl, B2.out.trans (b3.mono B2.out.size)⟩
    · have el : (x.rel == y.rel) = false := by rw [beq_eq_false_iff_ne]; exact hl
      have HN : Hid (R = false) := by show R = _; rw [← HR.out]; exact eqB_f (fun e => hl (by rw [e]))
      clear hk hl HA HE1 HE2 HR0 HR1
      go_enter Tryz.func66, Tryz.ntmps66
      go_wp2
      go_ret
      exact ⟨by rw [HN.out]; rfl, HB.out⟩
  · have ek : (x.k == y.k) = false := by rw [beq_eq_false_iff_ne]; exact hk
    have HN : Hid (R = false) := by show R = _; rw [← HR.out]; exact eqB_f (fun e => hk (by rw [e]))
    clear hk HA HE1 HE2 HR0 HR1
    go_enter Tryz.func66, Tryz.ntmps66
    go_wp2
    go_ret
    exact ⟨by rw [HN.out]; rfl, HB.out⟩
end Go.Proofs.YtgplipfebnigiaaGreatDoor
end
section
namespace Go.Proofs.YtgplipfebnigiaaGreatDoor
open Go.RowKit Go.Maps
set_option linter.unusedVariables false
set_option linter.unusedSimpArgs false
attribute [local go_sem ↓] Go.wp_at_zero Go.wp_at_succ
variable {dec : Dec}

theorem load_s9 {u : World} {a : Addr} {v : ByteArray} (h : u.cell? a = some (.string v)) : (loadVar 9 a).run Tryz.prog u = .ok (.string v) u := by go_simp
theorem load_s22 {u : World} {a : Addr} {v : Value} (h : u.cell? a = some v) : (loadVar 22 a).run Tryz.prog u = .ok v u := by go_simp
theorem load_s23 {u : World} {a : Addr} {v : Value} (h : u.cell? a = some v) : (loadVar 23 a).run Tryz.prog u = .ok v u := by go_simp
attribute [-go_sem] loadVar
set_option maxHeartbeats 6400000 in
set_option maxRecDepth 100000 in
theorem rsameRule_any (d : Nat) (r s : R3) (p q : RP) (w : World) (hR : RIs w d r p) (hS : RIs w d s q) :
    Calls Tryz.prog 32 #[r.val p, s.val q] w fun e w' => e = .returned (.bool (sameR dec r s)) ∧ Below w.heap.size w w' := by
  unfold R3.val
  have hA1 := belowA (w := w) (.cells #[.string r.pr, .slice p.a r.hd.length p.c, .slice p.ba r.bd.length p.bc] 25)
  have hA2 := belowA (w := (w.alloc (.cells #[.string r.pr, .slice p.a r.hd.length p.c, .slice p.ba r.bd.length p.bc] 25))) (.cells #[.string s.pr, .slice q.a s.hd.length q.c, .slice q.ba s.bd.length q.bc] 25)
  have HB := Lib.hid (hA1.trans (hA2.mono hA1.size))
  have HR0 := Lib.hid ((rl_new w #[.string r.pr, .slice p.a r.hd.length p.c, .slice p.ba r.bd.length p.bc] 25).below hA2)
  have hR1 := rl_new (w.alloc (.cells #[.string r.pr, .slice p.a r.hd.length p.c, .slice p.ba r.bd.length p.bc] 25)) #[.string s.pr, .slice q.a s.hd.length q.c, .slice q.ba s.bd.length q.bc] 25
  rw [World.size_alloc] at hR1
  have HR1 := Lib.hid hR1
  obtain ⟨R, hRR⟩ : ∃ R, sameR dec r s = R := ⟨_, rfl⟩
  rw [hRR]
  have HRR := Lib.hid hRR
  have HC : Hid (∀ i, i < r.bd.length → i < s.bd.length → ∀ u, Below w.heap.size w u → Calls Tryz.prog 66 #[.agg (atL r.bd i).cells.toArray, .agg (atL s.bd i).cells.toArray] u fun e w' => e = .returned (.bool (eqB dec (XL.x (atL r.bd i)) (XL.x (atL s.bd i)))) ∧ Below u.heap.size u w') := fun i hi hj u hu => by
    rw [XL.val_eq, XL.val_eq]
    exact rsameLiteral_any d _ _ _ _ u ((hR.bd.at_is hi).below hu) ((hS.bd.at_is hj).below hu)
  obtain ⟨a1, c1, e1, hc1, hc2, hk1⟩ := hR.hd.form
  obtain ⟨a2, c2, e2, hd1, hd2, hk2⟩ := hS.hd.form
  obtain ⟨a3, c3, e3, he1, he2, hk3⟩ := hR.bd.form
  obtain ⟨a4, c4, e4, hf1, hf2, hk4⟩ := hS.bd.form
  injection e1 with e1 _ e1'
  injection e2 with e2 _ e2'
  injection e3 with e3 _ e3'
  injection e4 with e4 _ e4'
  subst e1 e1' e2 e2' e3 e3' e4 e4'
  have hm1 : r.hd.length ≤ maxLen := Nat.le_trans hc1 hc2
  have hm2 : s.hd.length ≤ maxLen := Nat.le_trans hd1 hd2
  have hm3 : r.bd.length ≤ maxLen := Nat.le_trans he1 he2
  have hm4 : s.bd.length ≤ maxLen := Nat.le_trans hf1 hf2
  unfold maxLen at hm1 hm2 hm3 hm4
  have HK1 := Lib.hid hk1
  have HK2 := Lib.hid hk2
  have HK3 := Lib.hid hk3
  have HK4 := Lib.hid hk4
  clear hA1 hA2 hR1 hRR hk1 hk2 hk3 hk4 hc2 hd2 he2 hf2 hR hS
  go_enter Tryz.func32, Tryz.ntmps32
  go_upto_region 1 with fail
  generalize (w.alloc (.cells #[.string r.pr, .slice p.a r.hd.length p.c, .slice p.ba r.bd.length p.bc] 25)).alloc (.cells #[.string s.pr, .slice q.a s.hd.length q.c, .slice q.ba s.bd.length q.bc] 25) = W at HB HR0 HR1 ⊢
  have l0 := load_s9 (HR0.out.at (j := 0) rfl)
  have l1 := load_s22 (HR0.out.at (j := 1) rfl)
  have l2 := load_s23 (HR0.out.at (j := 2) rfl)
  have m0 := load_s9 (HR1.out.at (j := 0) rfl)
  have m1 := load_s22 (HR1.out.at (j := 1) rfl)
  have m2 := load_s23 (HR1.out.at (j := 2) rfl)
  by_cases hp : r.pr = s.pr
  · have e0 : (r.pr.toList == s.pr.toList) = true := by rw [hp]; simp
    by_cases h1 : s.hd.length = r.hd.length
    · by_cases h2 : s.bd.length = r.bd.length
      · have HT := Lib.hid (fun (k1 : r.hd = s.hd) (k2 : r.bd.map XL.x = s.bd.map XL.x) => HRR.out.symm.trans (sameR_t (dec := dec) ⟨hp, k1, k2⟩))
        have HF1 := Lib.hid (fun (k : ¬ r.hd = s.hd) => HRR.out.symm.trans (sameR_f (dec := dec) (fun e => k e.hd)))
        have HF2 := Lib.hid (fun (k : ¬ r.bd.map XL.x = s.bd.map XL.x) => HRR.out.symm.trans (sameR_f (dec := dec) (fun e => k e.bd)))
        rw [h1] at HK2 hd1 HR1 m1
        rw [h2] at HK4 hf1 HR1 m2 HC
        have HL1 := Lib.hid h1
        have HL2 := Lib.hid h2
        clear hp h1 h2 hm2 hm4
        go_wp2
        have H0 : Hid (∀ u, Below W.heap.size W u → (loadVar 22 ⟨w.heap.size, 1, none⟩).run Tryz.prog u = .ok (.slice p.a r.hd.length p.c) u) := fun u hu => load_s22 ((HR0.out.below hu).at (j := 1) rfl)
        have H1 : Hid (∀ u, Below W.heap.size W u → (loadVar 22 ⟨w.heap.size + 1, 1, none⟩).run Tryz.prog u = .ok (.slice q.a r.hd.length q.c) u) := fun u hu => load_s22 ((HR1.out.below hu).at (j := 1) rfl)
        have H2 : Hid (∀ u, Below W.heap.size W u → (loadVar 23 ⟨w.heap.size, 2, none⟩).run Tryz.prog u = .ok (.slice p.ba r.bd.length p.bc) u) := fun u hu => load_s23 ((HR0.out.below hu).at (j := 2) rfl)
        have H3 : Hid (∀ u, Below W.heap.size W u → (loadVar 23 ⟨w.heap.size + 1, 2, none⟩).run Tryz.prog u = .ok (.slice q.ba r.bd.length q.bc) u) := fun u hu => load_s23 ((HR1.out.below hu).at (j := 2) rfl)
        clear l0 l1 l2 m0 m1 m2 HR0 HR1 e0
        go_loopw [5] (fun i wr => ∃ k : Nat, k ≤ r.hd.length ∧ i = .int .i64 k ∧ Below W.heap.size W wr ∧ Hid (∀ j, j < k → atA r.hd j = atA s.hd j)) (fun i _ => r.hd.length - (intOf i).toNat)
        case atStart => exact ⟨0, Nat.zero_le _, rfl, Below.refl _ _, fun j hj => absurd hj (by omega)⟩
        case round =>
        obtain ⟨k, hk, rfl, bel, HS⟩ := hrel
        have l1 := H0.out wr bel
        by_cases hlt : k < r.hd.length
        · have hlt' : (k : Int) < (r.hd.length : Int) := by omega
          have hk0 : (0 : Int) ≤ (k : Int) := by omega
          obtain ⟨g, off, ha, hg, hKS⟩ := HK1.out (by omega)
          obtain ⟨g2, off2, ha2, hg2, hKS2⟩ := HK2.out (by omega)
          rw [ha] at l1 H0
          rw [ha2] at H1
          clear ha ha2
          have hh0 := H0.out
          have hh1 := H1.out
          have hl1 : ∀ u, Below W.heap.size W u → (loadVar 94 ⟨g, off + k * 5, none⟩).run Tryz.prog u = .ok (.agg (atA r.hd k).cells.toArray) u := fun u hu => load_Arg (range_below (hKS k hlt) (HB.out.trans (hu.mono HB.out.size)) hg) rfl
          have hl2 : ∀ u, Below W.heap.size W u → (loadVar 94 ⟨g2, off2 + k * 5, none⟩).run Tryz.prog u = .ok (.agg (atA s.hd k).cells.toArray) u := fun u hu => load_Arg (range_below (hKS2 k hlt) (HB.out.trans (hu.mono HB.out.size)) hg2) rfl
          obtain ⟨Q, hq⟩ : ∃ Q, eqB dec (atA r.hd k) (atA s.hd k) = Q := ⟨_, rfl⟩
          have HQ := Lib.hid hq
          have hQ : ∀ u, (binOp .neq 94 (.agg (atA r.hd k).cells.toArray) (.agg (atA s.hd k).cells.toArray)).run Tryz.prog u = .ok (.bool (!Q)) u := fun u => by
            cases Q
            · exact neqAn (eqB_ne hq) u
            · exact neqA (eqB_eq hq) u
          generalize atA r.hd k = x at hl1 hQ
          generalize atA s.hd k = y at hl2 hQ
          unfold A5.cells at hl1 hl2 hQ
          have hS0 := bel
          clear hKS hKS2 hq H0 H1 H2 H3
          cases Q
          all_goals
            simp only [Bool.not_false, Bool.not_true] at hQ
            go_wp2_with fail
            go_region_held3 (fun u => (Below W.heap.size W u))
              (first
                | assumption
                | exact bel.drew)
              (fail)
            go_wp2
          · go_ret
            refine ⟨?_, HB.out.trans (Below.mono (by first | exact bel.drew | assumption | exact below_drewN bel _) HB.out.size)⟩
            rw [HF1.out (fun e => eqB_ne HQ.out (by rw [e]))]
            rfl
          · go_roundw
            case rel => exact ⟨k + 1, by omega, by go_num, (by first | exact bel.drew | assumption | exact below_drewN bel _), fun j hj => by
              by_cases e : j = k
              · rw [e]; exact eqB_eq HQ.out
              · exact HS.out j (by omega)⟩
            case measure => simp [intOf]; omega
        · obtain rfl : k = r.hd.length := by omega
          have HE1 : Hid (r.hd = s.hd) := by
            refine List.ext_getElem HL1.out.symm fun i h1 h2 => ?_
            have := HS.out i h1
            rw [atA_eq h1, atA_eq h2] at this
            exact this
          obtain ⟨W0, hW0⟩ : ∃ W0, W0 = wr := ⟨_, rfl⟩
          have HB0 : Hid (Below W.heap.size W W0) := by rw [hW0]; exact bel
          rw [← hW0] at l1 ⊢
          clear hW0 bel HS
          go_wp2
          clear l1 H0 H1
          go_loopw [6] (fun i wr => ∃ k : Nat, k ≤ r.bd.length ∧ i = .int .i64 k ∧ Below W.heap.size W wr ∧ Hid (∀ j, j < k → XL.x (atL r.bd j) = XL.x (atL s.bd j))) (fun i _ => r.bd.length - (intOf i).toNat)
          case atStart => exact ⟨0, Nat.zero_le _, rfl, HB0.out, fun j hj => absurd hj (by omega)⟩
          case round =>
          obtain ⟨k, hk, rfl, bel, HS⟩ := hrel
          have l1 := H2.out wr bel
          by_cases hlt : k < r.bd.length
          · have hlt' : (k : Int) < (r.bd.length : Int) := by omega
            have hk0 : (0 : Int) ≤ (k : Int) := by omega
            obtain ⟨g, off, ha, hg, hKS⟩ := HK3.out (by omega)
            obtain ⟨g2, off2, ha2, hg2, hKS2⟩ := HK4.out (by omega)
            rw [ha] at l1 H2
            rw [ha2] at H3
            clear ha ha2
            have hh0 := H2.out
            have hh1 := H3.out
            have hl1 : ∀ u, Below W.heap.size W u → (loadVar 89 ⟨g, off + k * 16, none⟩).run Tryz.prog u = .ok (.agg (atL r.bd k).cells.toArray) u := fun u hu => load_Lit (range_below (hKS k hlt) (HB.out.trans (hu.mono HB.out.size)) hg) rfl
            have hl2 : ∀ u, Below W.heap.size W u → (loadVar 89 ⟨g2, off2 + k * 16, none⟩).run Tryz.prog u = .ok (.agg (atL s.bd k).cells.toArray) u := fun u hu => load_Lit (range_below (hKS2 k hlt) (HB.out.trans (hu.mono HB.out.size)) hg2) rfl
            have HI : Hid (∀ u, Below W.heap.size W u → _) := fun u hu => HC.out k hlt hlt u (HB.out.trans (hu.mono HB.out.size))
            generalize hq : eqB dec (XL.x (atL r.bd k)) (XL.x (atL s.bd k)) = Q at HI
            have HQ := Lib.hid hq
            clear hq
            generalize Value.agg (atL r.bd k).cells.toArray = QV at hl1 HI
            generalize Value.agg (atL s.bd k).cells.toArray = RV at hl2 HI
            have hS0 := bel
            clear hKS hKS2 H2 H3
            cases Q
            all_goals
              go_wp2_with fail
              go_region_held3 (fun u => (Below W.heap.size W u))
                (first
                  | assumption
                  | exact bel.drew)
                (first
                  | (go_at_call 66; refine Calls.mono (HI.out _ (by first | assumption | exact bel.drew)) ?_; rintro ee w2 ⟨rfl, b2⟩; have b2' : Below W.heap.size W w2 := next_ofU (by first | assumption | exact bel.drew) b2)
                  | fail)
              go_wp2
            · go_ret
              refine ⟨?_, HB.out.trans (b2'.mono HB.out.size)⟩
              rw [HF2.out (fun e => eqB_ne HQ.out (by
                have hm : k < s.bd.length := by rw [HL2.out]; exact hlt
                have := congrArg (fun z => z[k]?) e
                simp only [List.getElem?_map, List.getElem?_eq_getElem hlt, List.getElem?_eq_getElem hm, Option.map_some, Option.some.injEq] at this
                rw [atL_eq hlt, atL_eq hm]
                exact this))]
              rfl
            · go_roundw
              case rel => exact ⟨k + 1, by omega, by go_num, b2', fun j hj => by
                by_cases e : j = k
                · rw [e]; exact eqB_eq HQ.out
                · exact HS.out j (by omega)⟩
              case measure => simp [intOf]; omega
          · obtain rfl : k = r.bd.length := by omega
            go_wp2
            go_ret
            refine ⟨?_, HB.out.trans (bel.mono HB.out.size)⟩
            rw [HT.out HE1.out (by
              refine List.ext_getElem (by rw [List.length_map, List.length_map]; exact HL2.out.symm) fun i h1 h2 => ?_
              rw [List.length_map] at h1 h2
              have := HS.out i h1
              rw [atL_eq h1, atL_eq h2] at this
              rw [List.getElem_map, List.getElem_map]
              exact this)]
            rfl
      · have hneq : ((r.bd.length : Int) != (s.bd.length : Int)) = true := by simp only [bne_iff_ne, ne_eq]; omega
        have HN : Hid (R = false) := by show R = _; rw [← HRR.out]; exact sameR_f (fun e => h2 (by have := congrArg List.length e.bd; rw [List.length_map, List.length_map] at this; exact this.symm))
        rw [h1] at m1
        clear hp h1 h2 HC HK1 HK2 HK3 HK4
        go_wp2
        go_ret
        exact ⟨by rw [HN.out]; rfl, HB.out⟩
    · have hneq : ((r.hd.length : Int) != (s.hd.length : Int)) = true := by simp only [bne_iff_ne, ne_eq]; omega
      have HN : Hid (R = false) := by show R = _; rw [← HRR.out]; exact sameR_f (fun e => h1 (by rw [e.hd]))
      clear hp h1 HC HK1 HK2 HK3 HK4
      go_wp2
      go_ret
      exact ⟨by rw [HN.out]; rfl, HB.out⟩
  · have e0 : (r.pr.toList == s.pr.toList) = false := by
      rw [beq_eq_false_iff_ne]
      exact fun h => hp (toList_inj h)
    have HN : Hid (R = false) := by show R = _; rw [← HRR.out]; exact sameR_f (fun e => hp e.pr)
    clear hp HC HK1 HK2 HK3 HK4
    go_wp2
    go_ret
    exact ⟨by rw [HN.out]; rfl, HB.out⟩
end Go.Proofs.YtgplipfebnigiaaGreatDoor
end
