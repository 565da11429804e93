import Derived.Test.YtgplipfebnigiaaGreatDoorG36
import Derived.Test.YtgplipfebnigiaaGreatDoorG37
import Derived.Test.YtgplipfebnigiaaGreatDoorG26
import Derived.Deep.RegionHeld3
namespace Go.Proofs.YtgplipfebnigiaaGreatDoor
open Go.RowKit Go.Maps
set_option linter.unusedVariables false
set_option linter.unusedSimpArgs false
attribute [local go_sem ↓] Go.wp_at_zero Go.wp_at_succ
attribute [-go_sem] loadVar

theorem load_RuleV {u : World} {b : Nat} {cs : List Value} (h : RL u b 25 cs) (hl : cs.length = 3) : (loadVar 25 ⟨b, 0, none⟩).run Tryz.prog u = .ok (.agg cs.toArray) u :=
  run_loadVar_mid u b 0 _ cs _ (RL.range h) Tryz.underlying25 rfl (by rw [hl]; kernel_rfl)
theorem next_ofR {wc u v : World} (h : Below wc.heap.size wc u) (b : Below u.heap.size u v) : Below wc.heap.size wc v := h.trans (b.mono h.size)
theorem like_same {dec : Dec} {r s t : R3} (h1 : LikeR r s) (h2 : LikeR r t) : sameR dec s t = true := sameR_t ⟨h1.pr.trans h2.pr.symm, h1.hd.trans h2.hd.symm, h1.map.trans h2.map.symm⟩
theorem LikeR.alike {dec : Dec} {d : Nat} {r s r' s' : R3} (h : LikeR r r') (k : LikeR s s') : alikeB dec d r' s' = alikeB dec d r s := by
  unfold alikeB
  rw [h.ruleB d, k.ruleB d, sameR_like (h.canR d) (k.canR d)]
theorem LIs.up1 {w : World} {d : Nat} {x : Lit4} {p : LP} (h : LIs w d x p) : LIs w (d + 1) x p := ⟨h.kb, h.rb, h.pb, h.ln, h.ts, h.l.more, h.r.more⟩
theorem RIs.up1 {w : World} {d : Nat} {r : R3} {p : RP} (h : RIs w d r p) : RIs w (d + 1) r p := ⟨h.pb, h.hl, h.bl, h.hd, ⟨h.bd.lies, fun y hy => (h.bd.each y hy).up1⟩⟩
theorem RIs.up {w : World} {d : Nat} {r : R3} {p : RP} (h : RIs w d r p) : ∀ n, RIs w (d + n) r p
  | 0 => h
  | n + 1 => (h.up n).up1
set_option maxHeartbeats 6400000 in
set_option maxRecDepth 100000 in
theorem termCanons_one (d : Nat) (a b : R3) (p q : RP) (w : World) (hG : PWt w ∧ KT w) (hA : RIs w d a p) (hB : RIs w d b q) :
    Calls Tryz.prog 3 #[a.val p, b.val q] w fun e w' => e = .returned (.bool true) ∧ Below w.heap.size w w' := by
  have dec : Dec := ⟨Classical.propDecidable⟩
  have hA1 := belowA (w := w) (.cells #[.string a.pr, .slice p.a a.hd.length p.c, .slice p.ba a.bd.length p.bc] 25)
  have hA2 := belowA (w := (w.alloc (.cells #[.string a.pr, .slice p.a a.hd.length p.c, .slice p.ba a.bd.length p.bc] 25))) (.cells #[.string b.pr, .slice q.a b.hd.length q.c, .slice q.ba b.bd.length q.bc] 25)
  have HB0 := Lib.hid (hA1.trans (hA2.mono hA1.size))
  have HA0 := Lib.hid ((rl_new w #[.string a.pr, .slice p.a a.hd.length p.c, .slice p.ba a.bd.length p.bc] 25).below hA2)
  have hR1 := rl_new (w.alloc (.cells #[.string a.pr, .slice p.a a.hd.length p.c, .slice p.ba a.bd.length p.bc] 25)) #[.string b.pr, .slice q.a b.hd.length q.c, .slice q.ba b.bd.length q.bc] 25
  rw [World.size_alloc] at hR1
  have HQ0 := Lib.hid hR1
  have HG : Hid (∀ u, Below w.heap.size w u → PWt u ∧ KT u) := fun u hu => ⟨tab_below hG.1 hu, hG.2.below hu⟩
  have HX : Hid (∀ u, Below w.heap.size w u → RIs u d a p) := fun u hu => hA.below hu
  have HY : Hid (∀ u, Below w.heap.size w u → RIs u d b q) := fun u hu => hB.below hu
  clear hA1 hA2 hR1 hG hA hB
  unfold R3.val
  have hagg := @loadVar.eq_1
  go_enter Tryz.func3, Tryz.ntmps3
  go_upto_region 1 with fail
  generalize (w.alloc (.cells #[.string a.pr, .slice p.a a.hd.length p.c, .slice p.ba a.bd.length p.bc] 25)).alloc (.cells #[.string b.pr, .slice q.a b.hd.length q.c, .slice q.ba b.bd.length q.bc] 25) = W0 at HB0 HA0 HQ0 ⊢
  have k0 := HA0.out.at (j := 0) rfl
  have k1 := HA0.out.at (j := 1) rfl
  have k2 := HA0.out.at (j := 2) rfl
  have m0 := HQ0.out.at (j := 0) rfl
  have m1 := HQ0.out.at (j := 1) rfl
  have m2 := HQ0.out.at (j := 2) rfl
  have hA3 := belowA (w := W0) (.cells #[.string a.pr, .slice p.a a.hd.length p.c, .slice p.ba a.bd.length p.bc, .string b.pr, .slice q.a b.hd.length q.c, .slice q.ba b.bd.length q.bc] 25)
  have HB1 := Lib.hid (HB0.out.trans (hA3.mono HB0.out.size))
  have HLR : Hid (Lr (W0.alloc (.cells #[.string a.pr, .slice p.a a.hd.length p.c, .slice p.ba a.bd.length p.bc, .string b.pr, .slice q.a b.hd.length q.c, .slice q.ba b.bd.length q.bc] 25)) (.slice (some ⟨W0.heap.size, 0, none⟩) 2 2) d [⟨a, p⟩, ⟨b, q⟩]) := ⟨ls_own (World.ownsRow_lit (base := W0.heap.size) (e := 25) (size := 3) W0 #[.string a.pr, .slice p.a a.hd.length p.c, .slice p.ba a.bd.length p.bc, .string b.pr, .slice q.a b.hd.length q.c, .slice q.ba b.bd.length q.bc] 2 (Nat.le_refl _) (by decide) rfl), fun i hi => by
    match i, hi with
    | 0, _ => exact HX.out _ HB1.out
    | 1, _ => exact HY.out _ HB1.out⟩
  have HBY := Lib.hid (beyondRules_any d _ _ _ (by simp) HLR.out)
  have HA1 := Lib.hid (HA0.out.below hA3)
  have HQ1 := Lib.hid (HQ0.out.below hA3)
  clear hA3 HLR
  go_wp2_with fail
  refine HBY.out.mono ?_
  rintro e w1 ⟨bb, rfl, b1, hsm⟩
  have B1 := Lib.hid (HB1.out.trans (b1.mono HB1.out.size))
  have HA2 := Lib.hid (HA1.out.below b1)
  have HQ2 := Lib.hid (HQ1.out.below b1)
  have HSM := Lib.hid hsm
  clear hsm b1 HBY HB0 HB1 HA0 HQ0 HA1 HQ1 k0 k1 k2 m0 m1 m2
  cases bb
  · as_aux_lemma =>
    have hsm2 := HSM.out (by first | rfl | trivial)
    have hsa : smallR d a := hsm2.each 0 (by simp)
    have hsb : smallR d b := hsm2.each 1 (by simp)
    have HSA := Lib.hid hsa
    have HSB := Lib.hid hsb
    clear hsm2 HSM hsa hsb
    have k0 := HA2.out.at (j := 0) rfl
    have k1 := HA2.out.at (j := 1) rfl
    have k2 := HA2.out.at (j := 2) rfl
    obtain ⟨ee, hee⟩ : ∃ ee, errB (ruleB d a) = ee := ⟨_, rfl⟩
    have HC1 := Lib.hid (rcanon_any d a p w1 (HX.out _ B1.out) HSA.out)
    rw [hee] at HC1
    have HEE := Lib.hid hee
    unfold R3.val at HC1
    clear hee
    go_wp2_with fail
    refine HC1.out.mono ?_
    rintro e w2 ⟨X, xp, rfl, b2, hx, hfx⟩
    have hA3 := belowA (w := w2) (.cells #[.string X.pr, .slice xp.a X.hd.length xp.c, .slice xp.ba X.bd.length xp.bc] 25)
    have HW2 := Lib.hid (b2.trans (hA3.mono b2.size))
    have B2 := Lib.hid (B1.out.trans (HW2.out.mono B1.out.size))
    have HA3 := Lib.hid (HA2.out.below HW2.out)
    have HQ3 := Lib.hid (HQ2.out.below HW2.out)
    have HWX := Lib.hid (rl_new w2 #[.string X.pr, .slice xp.a X.hd.length xp.c, .slice xp.ba X.bd.length xp.bc] 25)
    have HXI := Lib.hid (hfx.is.below hA3)
    have HXL := Lib.hid hx
    clear hA3 hx hfx b2 HC1 HA2 HQ2 HW2 k0 k1 k2
    go_upto_region 4 with fail
    generalize w2.alloc (.cells #[.string X.pr, .slice xp.a X.hd.length xp.c, .slice xp.ba X.bd.length xp.bc] 25) = W2 at B2 HA3 HQ3 HWX HXI ⊢
    as_aux_lemma =>
    have k0 := HA3.out.at (j := 0) rfl
    have k1 := HA3.out.at (j := 1) rfl
    have k2 := HA3.out.at (j := 2) rfl
    have HT1 := Lib.hid (twinRule_any d a p W2 (HG.out _ B2.out).1 HSA.out.hd HSA.out.bd HSA.out.each (HX.out _ B2.out))
    unfold R3.val at HT1
    go_wp2_with fail
    refine HT1.out.mono ?_
    rintro e w3 ⟨s, sp, rfl, b3, hls, htw⟩
    have hA3 := belowA (w := w3) (.cells #[.string s.pr, .slice sp.a s.hd.length sp.c, .slice sp.ba s.bd.length sp.bc] 25)
    have HW3 := Lib.hid (b3.trans (hA3.mono b3.size))
    have B3 := Lib.hid (B2.out.trans (HW3.out.mono B2.out.size))
    have HA4 := Lib.hid (HA3.out.below HW3.out)
    have HQ4 := Lib.hid (HQ3.out.below HW3.out)
    have HWX4 := Lib.hid (HWX.out.below HW3.out)
    have HXI4 := Lib.hid (HXI.out.below HW3.out)
    have HWS := Lib.hid (rl_new w3 #[.string s.pr, .slice sp.a s.hd.length sp.c, .slice sp.ba s.bd.length sp.bc] 25)
    have HST := Lib.hid (htw.below hA3)
    have HSL := Lib.hid hls
    clear hA3 hls htw b3 HT1 HA3 HQ3 HWX HXI HW3 k0 k1 k2
    go_upto_region 5 with fail
    generalize w3.alloc (.cells #[.string s.pr, .slice sp.a s.hd.length sp.c, .slice sp.ba s.bd.length sp.bc] 25) = W3 at B3 HA4 HQ4 HWX4 HXI4 HWS HST ⊢
    as_aux_lemma =>
    have k0 := HQ4.out.at (j := 0) rfl
    have k1 := HQ4.out.at (j := 1) rfl
    have k2 := HQ4.out.at (j := 2) rfl
    have HT1 := Lib.hid (twinRule_any d b q W3 (HG.out _ B3.out).1 HSB.out.hd HSB.out.bd HSB.out.each (HY.out _ B3.out))
    unfold R3.val at HT1
    go_wp2_with fail
    refine HT1.out.mono ?_
    rintro e w4 ⟨t, tp, rfl, b4, hlt, htw⟩
    have hA3 := belowA (w := w4) (.cells #[.string t.pr, .slice tp.a t.hd.length tp.c, .slice tp.ba t.bd.length tp.bc] 25)
    have HW4 := Lib.hid (b4.trans (hA3.mono b4.size))
    have B4 := Lib.hid (B3.out.trans (HW4.out.mono B3.out.size))
    have HA5 := Lib.hid (HA4.out.below HW4.out)
    have HQ5 := Lib.hid (HQ4.out.below HW4.out)
    have HWX5 := Lib.hid (HWX4.out.below HW4.out)
    have HXI5 := Lib.hid (HXI4.out.below HW4.out)
    have HWS5 := Lib.hid (HWS.out.below HW4.out)
    have HST5 := Lib.hid (HST.out.below HW4.out)
    have HWT := Lib.hid (rl_new w4 #[.string t.pr, .slice tp.a t.hd.length tp.c, .slice tp.ba t.bd.length tp.bc] 25)
    have HTT := Lib.hid (htw.below hA3)
    have HTL := Lib.hid hlt
    clear hA3 hlt htw b4 HT1 HA4 HQ4 HWX4 HXI4 HWS HST HW4 k0 k1 k2
    go_upto_region 6 with fail
    generalize w4.alloc (.cells #[.string t.pr, .slice tp.a t.hd.length tp.c, .slice tp.ba t.bd.length tp.bc] 25) = W4 at B4 HA5 HQ5 HWX5 HXI5 HWS5 HST5 HWT HTT ⊢
    as_aux_lemma =>
    have HSI : Hid (∀ u, Below W4.heap.size W4 u → RIs u d s sp) := fun u hu => (HST5.out.below hu).is HSL.out (HX.out _ B4.out) HSA.out
    have HTI : Hid (∀ u, Below W4.heap.size W4 u → RIs u d t tp) := fun u hu => (HTT.out.below hu).is HTL.out (HY.out _ B4.out) HSB.out
    have k0 := HWS5.out.at (j := 0) rfl
    have k1 := HWS5.out.at (j := 1) rfl
    have k2 := HWS5.out.at (j := 2) rfl
    have HC2 := Lib.hid (canon_any d s sp W4 (HG.out _ B4.out).2 (HG.out _ B4.out).1 (HSI.out _ (Below.refl _ _)) (HSL.out.small HSA.out))
    rw [HSL.out.ruleB d, HEE.out] at HC2
    unfold R3.val at HC2
    go_wp2_with fail
    refine HC2.out.mono ?_
    rintro e w5 ⟨Z, zp, rfl, b5, hz, hfz⟩
    have hA3 := belowA (w := w5) (.cells #[.string Z.pr, .slice zp.a Z.hd.length zp.c, .slice zp.ba Z.bd.length zp.bc] 25)
    have HW5 := Lib.hid (b5.trans (hA3.mono b5.size))
    have B5 := Lib.hid (B4.out.trans (HW5.out.mono B4.out.size))
    have HA6 := Lib.hid (HA5.out.below HW5.out)
    have HQ6 := Lib.hid (HQ5.out.below HW5.out)
    have HWX6 := Lib.hid (HWX5.out.below HW5.out)
    have HXI6 := Lib.hid (HXI5.out.below HW5.out)
    have HWS6 := Lib.hid (HWS5.out.below HW5.out)
    have HST6 := Lib.hid (HST5.out.below HW5.out)
    have HWT6 := Lib.hid (HWT.out.below HW5.out)
    have HTT6 := Lib.hid (HTT.out.below HW5.out)
    have HWZ := Lib.hid (rl_new w5 #[.string Z.pr, .slice zp.a Z.hd.length zp.c, .slice zp.ba Z.bd.length zp.bc] 25)
    have HZI := Lib.hid (hfz.is.below hA3)
    have HSAME : Hid (sameR dec Z X = true) := like_same ((HSL.out.canR d).trans hz) HXL.out
    clear hA3 hz hfz b5 HC2 HA5 HQ5 HWX5 HXI5 HWS5 HST5 HWT HTT HW5 k0 k1 k2
    go_upto_region 7 with fail
    generalize w5.alloc (.cells #[.string Z.pr, .slice zp.a Z.hd.length zp.c, .slice zp.ba Z.bd.length zp.bc] 25) = W at B5 HA6 HQ6 HWX6 HXI6 HWS6 HST6 HWT6 HTT6 HWZ HZI ⊢
    as_aux_lemma =>
    have HC : Hid (∀ u, Below W.heap.size W u → Below w.heap.size w u) := fun u hu => B5.out.trans (hu.mono B5.out.size)
    have HSI6 : Hid (∀ u, Below W.heap.size W u → RIs u d s sp) := fun u hu => (HST6.out.below hu).is HSL.out (HX.out _ B5.out) HSA.out
    have HTI6 : Hid (∀ u, Below W.heap.size W u → RIs u d t tp) := fun u hu => (HTT6.out.below hu).is HTL.out (HY.out _ B5.out) HSB.out
    have HK1 : Hid (∀ u, Below W.heap.size W u → Calls Tryz.prog 9 #[Z.val zp, X.val xp] u fun r w' => r = .returned (.bool true) ∧ Below u.heap.size u w') := fun u hu => by
      have := sameRule_any (dec := dec) d Z X zp xp u (HZI.out.below hu) (HXI6.out.below hu)
      rw [HSAME.out] at this
      exact this
    obtain ⟨Q1, hq1⟩ : ∃ Q1, alikeB dec d a b = Q1 := ⟨_, rfl⟩
    obtain ⟨Q2, hq2⟩ : ∃ Q2, alikeB dec d b a = Q2 := ⟨_, rfl⟩
    have HK2 : Hid (∀ u, Below W.heap.size W u → Calls Tryz.prog 10 #[s.val sp, t.val tp] u fun r w' => r = .returned (.bool Q1) ∧ Below u.heap.size u w') := fun u hu => by
      have := alike_any (dec := dec) d s t sp tp u (HG.out _ (HC.out u hu)).2 (HG.out _ (HC.out u hu)).1 (HSI6.out u hu) (HTI6.out u hu) (HSL.out.small HSA.out) (HTL.out.small HSB.out)
      rw [HSL.out.alike HTL.out, hq1] at this
      exact this
    have HK3 : Hid (∀ u, Below W.heap.size W u → Calls Tryz.prog 11 #[a.val p, b.val q] u fun r w' => r = .returned (.bool Q1) ∧ Below u.heap.size u w') := fun u hu => by
      have := ralike_any (dec := dec) d a b p q u (HX.out _ (HC.out u hu)) (HY.out _ (HC.out u hu)) HSA.out HSB.out
      rw [hq1] at this
      exact this
    have HK4 : Hid (∀ u, Below W.heap.size W u → Calls Tryz.prog 10 #[t.val tp, s.val sp] u fun r w' => r = .returned (.bool Q2) ∧ Below u.heap.size u w') := fun u hu => by
      have := alike_any (dec := dec) d t s tp sp u (HG.out _ (HC.out u hu)).2 (HG.out _ (HC.out u hu)).1 (HTI6.out u hu) (HSI6.out u hu) (HTL.out.small HSB.out) (HSL.out.small HSA.out)
      rw [HTL.out.alike HSL.out, hq2] at this
      exact this
    have HK5 : Hid (∀ u, Below W.heap.size W u → Calls Tryz.prog 11 #[b.val q, a.val p] u fun r w' => r = .returned (.bool Q2) ∧ Below u.heap.size u w') := fun u hu => by
      have := ralike_any (dec := dec) d b a q p u (HY.out _ (HC.out u hu)) (HX.out _ (HC.out u hu)) HSB.out HSA.out
      rw [hq2] at this
      exact this
    have HK6 : Hid (∀ u, Below W.heap.size W u → Calls Tryz.prog 12 #[s.val sp, a.val p] u fun r w' => r = .returned (.bool true) ∧ Below u.heap.size u w') := fun u hu => leftRule_any d a s p sp _ u (HG.out _ (HC.out u hu)).1 HSL.out HSA.out (HST6.out.below hu) (HX.out _ (HC.out u hu))
    have HK7 : Hid (∀ u, Below W.heap.size W u → Calls Tryz.prog 12 #[t.val tp, b.val q] u fun r w' => r = .returned (.bool true) ∧ Below u.heap.size u w') := fun u hu => leftRule_any d b t q tp _ u (HG.out _ (HC.out u hu)).1 HTL.out HSB.out (HTT6.out.below hu) (HY.out _ (HC.out u hu))
    have L1 : ∀ u, Below W.heap.size W u → (loadVar 25 ⟨w.heap.size, 0, none⟩).run Tryz.prog u = .ok (a.val p) u := fun u hu => load_RuleV (RL.below HA6.out hu) rfl
    have L2 : ∀ u, Below W.heap.size W u → (loadVar 25 ⟨w.heap.size + 1, 0, none⟩).run Tryz.prog u = .ok (b.val q) u := fun u hu => load_RuleV (RL.below HQ6.out hu) rfl
    have L3 : ∀ u, Below W.heap.size W u → (loadVar 25 ⟨w2.heap.size, 0, none⟩).run Tryz.prog u = .ok (X.val xp) u := fun u hu => load_RuleV (RL.below HWX6.out hu) rfl
    have L4 : ∀ u, Below W.heap.size W u → (loadVar 25 ⟨w3.heap.size, 0, none⟩).run Tryz.prog u = .ok (s.val sp) u := fun u hu => load_RuleV (RL.below HWS6.out hu) rfl
    have L5 : ∀ u, Below W.heap.size W u → (loadVar 25 ⟨w4.heap.size, 0, none⟩).run Tryz.prog u = .ok (t.val tp) u := fun u hu => load_RuleV (RL.below HWT6.out hu) rfl
    have L6 : ∀ u, Below W.heap.size W u → (loadVar 25 ⟨w5.heap.size, 0, none⟩).run Tryz.prog u = .ok (Z.val zp) u := fun u hu => load_RuleV (RL.below HWZ.out hu) rfl
    generalize a.val p = VA at HK3 HK5 HK6 L1
    generalize b.val q = VB at HK3 HK5 HK7 L2
    generalize X.val xp = VX at HK1 L3
    generalize s.val sp = VS at HK2 HK4 HK6 L4
    generalize t.val tp = VT at HK2 HK4 HK7 L5
    generalize Z.val zp = VZ at HK1 L6
    have hB0 : Below W.heap.size W W.drew := (Below.refl _ _).drew
    have hnn : (ee == ee) = true := by simp
    clear hq1 hq2 B1 B2 B3 B4 B5 HA6 HQ6 HWX6 HXI6 HWS6 HST6 HWT6 HTT6 HWZ HZI HSAME HSL HTL HXL HG HX HY HSA HSB HEE HSI HTI HSI6 HTI6
    clear hagg
    go_region_held3 (fun u => Below W.heap.size W u)
      (first
        | (with_reducible assumption)
        | (with_reducible exact hB0))
      (first
        | (go_at_call 9; (with_reducible refine Calls.mono (HK1.out _ (by assumption)) ?_); rintro ee w11 ⟨rfl, b11⟩; have b11' := next_ofR (wc := W) (by assumption) b11)
        | (go_at_call 10; (with_reducible refine Calls.mono (HK2.out _ (by assumption)) ?_); rintro ee w12 ⟨rfl, b12⟩; have b12' := next_ofR (wc := W) (by assumption) b12)
        | (go_at_call 11; (with_reducible refine Calls.mono (HK3.out _ (by assumption)) ?_); rintro ee w13 ⟨rfl, b13⟩; have b13' := next_ofR (wc := W) (by assumption) b13)
        | (go_at_call 10; (with_reducible refine Calls.mono (HK4.out _ (by assumption)) ?_); rintro ee w14 ⟨rfl, b14⟩; have b14' := next_ofR (wc := W) (by assumption) b14)
        | (go_at_call 11; (with_reducible refine Calls.mono (HK5.out _ (by assumption)) ?_); rintro ee w15 ⟨rfl, b15⟩; have b15' := next_ofR (wc := W) (by assumption) b15)
        | (go_at_call 12; (with_reducible refine Calls.mono (HK6.out _ (by assumption)) ?_); rintro ee w16 ⟨rfl, b16⟩; have b16' := next_ofR (wc := W) (by assumption) b16)
        | (go_at_call 12; (with_reducible refine Calls.mono (HK7.out _ (by assumption)) ?_); rintro ee w17 ⟨rfl, b17⟩; have b17' := next_ofR (wc := W) (by assumption) b17)
        | fail)
    go_wp2
    go_ret
    exact ⟨rfl, HC.out _ (by assumption)⟩
  · go_wp2
    go_ret
    exact ⟨rfl, B1.out⟩
theorem termCanons_walk (d1 : Nat) (a : R3) (p : RP) (d2 : Nat) (b : R3) (q : RP) (w : World) (hG : PWt w ∧ KT w) (hA : RIs w (d1 + 1) a p) (hB : RIs w (d2 + 1) b q) :
    Calls Tryz.prog 3 #[a.val p, b.val q] w fun e w' => e = .returned (.bool true) ∧ Below w.heap.size w w' :=
  termCanons_one (d1 + 1 + (d2 + 1)) a b p q w hG (hA.up (d2 + 1)) (by have := hB.up (d1 + 1); rw [Nat.add_comm (d2 + 1) (d1 + 1)] at this; exact this)
end Go.Proofs.YtgplipfebnigiaaGreatDoor
