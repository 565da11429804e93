import Derived.Test.YtklflppgaciifaaGreatDoorG30
import Derived.Test.YtklflppgaciifaaGreatDoorG21
import Derived.Test.YtklflppgaciifaaGreatDoorG32
import Derived.Test.YtklflppgaciifaaGreatDoorG26
import Derived.Deep.RegionHeld3
namespace Go.Proofs.YtklflppgaciifaaGreatDoor
open Go.RowKit Go.Maps
set_option linter.unusedVariables false
set_option linter.unusedSimpArgs false
attribute [local go_sem ↓] Go.wp_at_zero Go.wp_at_succ
attribute [-go_sem] loadVar

theorem load_RuleV {u : World} {b : Nat} {cs : List Value} (h : RL u b 29 cs) (hl : cs.length = 3) : (loadVar 29 ⟨b, 0, none⟩).run Tryz.prog u = .ok (.agg cs.toArray) u :=
  run_loadVar_mid u b 0 _ cs _ (RL.range h) Tryz.underlying29 rfl (by rw [hl]; kernel_rfl)
theorem load_AtomV {u : World} {b : Nat} {cs : List Value} (h : RL u b 25 cs) (hl : cs.length = 2) : (loadVar 25 ⟨b, 0, none⟩).run Tryz.prog u = .ok (.agg cs.toArray) u :=
  run_loadVar_mid u b 0 _ cs _ (RL.range h) Tryz.underlying25 rfl (by rw [hl]; kernel_rfl)
theorem next_ofR {wc u v : World} (h : Below wc.heap.size wc u) (b : Below u.heap.size u v) : Below wc.heap.size wc v := h.trans (b.mono h.size)
theorem like_same {dec : Dec} {r s t : R3} (h1 : LikeR r s) (h2 : LikeR r t) : sameR dec s t = true := sameR_t ⟨h1.pr.trans h2.pr.symm, h1.hd.trans h2.hd.symm, h1.map.trans h2.map.symm⟩
theorem like_same' {dec : Dec} {r r' s t : R3} (h0 : LikeR r r') (h1 : LikeR r s) (h2 : LikeR r' t) : sameR dec t s = true := like_same (h0.trans h2) h1
set_option maxHeartbeats 6400000 in
set_option maxRecDepth 100000 in
theorem termApplies_walk (d : Nat) (sv : Value) (s : List P) (pr : ByteArray) (v : Value) (ts : List T) (r : R3) (p : RP) (w : World) (hG : PWt w ∧ KT w) (hs : Lp w sv s) (hsl : s.length ≤ 1048576) (hl : Lt w v ts) (htl : ts.length ≤ 1048576) (hR : RIs w d r p) :
    Calls Tryz.prog 3 #[sv, .agg #[.string pr, v], r.val p] w fun e w' => e = .returned (.bool true) ∧ Below w.heap.size w w' := by
  have dec : Dec := ⟨Classical.propDecidable⟩
  obtain ⟨sa, sc, rfl, _, _, _⟩ := hs.form
  obtain ⟨va, vc, rfl, _, _, _⟩ := hl.form
  have hA1 := belowA (w := w) (.cells #[.string pr, .slice va ts.length vc] 25)
  have hA2 := belowA (w := w.alloc (.cells #[.string pr, .slice va ts.length vc] 25)) (.cells #[.string r.pr, .slice p.a r.hd.length p.c, .slice p.ba r.bd.length p.bc] 29)
  have HB0 := Lib.hid (hA1.trans (hA2.mono hA1.size))
  have HA0 := Lib.hid ((rl_new w #[.string pr, .slice va ts.length vc] 25).below hA2)
  have hR1 := rl_new (w.alloc (.cells #[.string pr, .slice va ts.length vc] 25)) #[.string r.pr, .slice p.a r.hd.length p.c, .slice p.ba r.bd.length p.bc] 29
  rw [World.size_alloc] at hR1
  have HR0 := Lib.hid hR1
  have HG : Hid (∀ u, Below w.heap.size w u → PWt u ∧ KT u) := fun u hu => ⟨tab_below hG.1 hu, hG.2.below hu⟩
  have HX : Hid (∀ u, Below w.heap.size w u → RIs u d r p) := fun u hu => hR.below hu
  have HLP : Hid (∀ u, Below w.heap.size w u → Lp u (.slice sa s.length sc) s) := fun u hu => hs.below hu
  have HLT : Hid (∀ u, Below w.heap.size w u → Lt u (.slice va ts.length vc) ts) := fun u hu => hl.below hu
  clear hA1 hA2 hR1 hG hR hs hl
  unfold R3.val
  have hagg := @loadVar.eq_1
  go_enter Tryz.func3, Tryz.ntmps3
  go_upto_region 1 with fail
  generalize (w.alloc (.cells #[.string pr, .slice va ts.length vc] 25)).alloc (.cells #[.string r.pr, .slice p.a r.hd.length p.c, .slice p.ba r.bd.length p.bc] 29) = W0 at HB0 HA0 HR0 ⊢
  have k0 := HR0.out.at (j := 0) rfl
  have k1 := HR0.out.at (j := 1) rfl
  have k2 := HR0.out.at (j := 2) rfl
  have HBY := Lib.hid (beyondRule_any d r p _ (HX.out _ HB0.out))
  unfold R3.val at HBY
  go_wp2_with fail
  refine HBY.out.mono ?_
  rintro e w1 ⟨bb, rfl, b1, hsm⟩
  have B1 := Lib.hid (HB0.out.trans (b1.mono HB0.out.size))
  have HA1 := Lib.hid (HA0.out.below b1)
  have HR1 := Lib.hid (HR0.out.below b1)
  have HSM := Lib.hid hsm
  clear hsm b1 HBY HB0 HA0 HR0 k0 k1 k2
  cases bb
  · as_aux_lemma =>
    have hsm2 : smallR d r := HSM.out (by first | rfl | trivial)
    have HSL := Lib.hid hsm2
    clear hsm2 HSM
    have HT1 := Lib.hid (twinPairs_any _ s w1 (HG.out _ B1.out).1 hsl (HLP.out _ B1.out))
    go_wp2_with fail
    refine HT1.out.mono ?_
    rintro e w2 ⟨ua, rfl, b2, htwp⟩
    have B2 := Lib.hid (B1.out.trans (b2.mono B1.out.size))
    have HA2 := Lib.hid (HA1.out.below b2)
    have HR2 := Lib.hid (HR1.out.below b2)
    have HTP := Lib.hid htwp
    clear htwp b2 HT1 HA1 HR1
    have k0 := HA2.out.at (j := 0) rfl
    have k1 := HA2.out.at (j := 1) rfl
    have HT2 := Lib.hid (twinAtom_any pr _ ts w2 (HG.out _ B2.out).1 htl (HLT.out _ B2.out))
    go_wp2_with fail
    refine HT2.out.mono ?_
    rintro e w3 ⟨ba, rfl, b3, htwt⟩
    have hA := belowA (w := w3) (.cells #[.string pr, .slice ba ts.length (ts.length + 1)] 25)
    have HW3 := Lib.hid (b3.trans (hA.mono b3.size))
    have B3 := Lib.hid (B2.out.trans (HW3.out.mono B2.out.size))
    have HA3 := Lib.hid (HA2.out.below HW3.out)
    have HR3 := Lib.hid (HR2.out.below HW3.out)
    have HTP3 := Lib.hid (HTP.out.below HW3.out)
    have HTT := Lib.hid (htwt.below hA)
    have HBX := Lib.hid (rl_new w3 #[.string pr, .slice ba ts.length (ts.length + 1)] 25)
    clear htwt b3 hA HT2 HA2 HR2 HTP HW3 k0 k1
    go_upto_region 5 with fail
    generalize w3.alloc (.cells #[.string pr, .slice ba ts.length (ts.length + 1)] 25) = W3 at B3 HA3 HR3 HTP3 HTT HBX ⊢
    as_aux_lemma =>
    have k0 := HR3.out.at (j := 0) rfl
    have k1 := HR3.out.at (j := 1) rfl
    have k2 := HR3.out.at (j := 2) rfl
    have HT3 := Lib.hid (twinRule_any d r p W3 (HG.out _ B3.out).1 HSL.out.hd HSL.out.bd HSL.out.each (HX.out _ B3.out))
    unfold R3.val at HT3
    go_wp2_with fail
    refine HT3.out.mono ?_
    rintro e w4 ⟨t, q, rfl, b4, hlk, htw⟩
    have hA := belowA (w := w4) (.cells #[.string t.pr, .slice q.a t.hd.length q.c, .slice q.ba t.bd.length q.bc] 29)
    have HW4 := Lib.hid (b4.trans (hA.mono b4.size))
    have B4 := Lib.hid (B3.out.trans (HW4.out.mono B3.out.size))
    have HA4 := Lib.hid (HA3.out.below HW4.out)
    have HR4 := Lib.hid (HR3.out.below HW4.out)
    have HTP4 := Lib.hid (HTP3.out.below HW4.out)
    have HTT4 := Lib.hid (HTT.out.below HW4.out)
    have HBX4 := Lib.hid (HBX.out.below HW4.out)
    have HTW := Lib.hid (htw.below hA)
    have HLK := Lib.hid hlk
    have HTX := Lib.hid (rl_new w4 #[.string t.pr, .slice q.a t.hd.length q.c, .slice q.ba t.bd.length q.bc] 29)
    clear htw b4 hA hlk HT3 HA3 HR3 HTP3 HTT HBX HW4 k0 k1 k2
    go_upto_region 6 with fail
    generalize w4.alloc (.cells #[.string t.pr, .slice q.a t.hd.length q.c, .slice q.ba t.bd.length q.bc] 29) = W4 at B4 HA4 HR4 HTP4 HTT4 HBX4 HTW HTX ⊢
    as_aux_lemma =>
    have k0 := HR4.out.at (j := 0) rfl
    have k1 := HR4.out.at (j := 1) rfl
    have k2 := HR4.out.at (j := 2) rfl
    have HT4 := Lib.hid (rApplyRule_any _ s d r p W4 (HX.out _ B4.out) HSL.out (HLP.out _ B4.out))
    unfold R3.val at HT4
    obtain ⟨n0, hn0⟩ : ∃ n0, errB (okR s d r) = n0 := ⟨_, rfl⟩
    rw [hn0] at HT4
    have HN0 := Lib.hid hn0
    clear hn0
    go_wp2_with fail
    refine HT4.out.mono ?_
    rintro e w5 ⟨R, rp, rfl, b5, hlr, hir⟩
    have hA := belowA (w := w5) (.cells #[.string R.pr, .slice rp.a R.hd.length rp.c, .slice rp.ba R.bd.length rp.bc] 29)
    have HW5 := Lib.hid (b5.trans (hA.mono b5.size))
    have B5 := Lib.hid (B4.out.trans (HW5.out.mono B4.out.size))
    have HA5 := Lib.hid (HA4.out.below HW5.out)
    have HR5 := Lib.hid (HR4.out.below HW5.out)
    have HTP5 := Lib.hid (HTP4.out.below HW5.out)
    have HTT5 := Lib.hid (HTT4.out.below HW5.out)
    have HBX5 := Lib.hid (HBX4.out.below HW5.out)
    have HTW5 := Lib.hid (HTW.out.below HW5.out)
    have HTX5 := Lib.hid (HTX.out.below HW5.out)
    have HIR := Lib.hid (hir.below hA)
    have HLR := Lib.hid hlr
    have HWX := Lib.hid (rl_new w5 #[.string R.pr, .slice rp.a R.hd.length rp.c, .slice rp.ba R.bd.length rp.bc] 29)
    clear hir b5 hA hlr HT4 HA4 HR4 HTP4 HTT4 HBX4 HTW HTX HW5 k0 k1 k2
    go_upto_region 7 with fail
    generalize w5.alloc (.cells #[.string R.pr, .slice rp.a R.hd.length rp.c, .slice rp.ba R.bd.length rp.bc] 29) = W5 at B5 HA5 HR5 HTP5 HTT5 HBX5 HTW5 HTX5 HIR HWX ⊢
    as_aux_lemma =>
    have k0 := HBX5.out.at (j := 0) rfl
    have k1 := HBX5.out.at (j := 1) rfl
    have HT5 := Lib.hid (apply_all _ s pr _ ts W5 (HTP5.out.lp (HLP.out _ B5.out) hsl) hsl (HTT5.out.lt (HLT.out _ B5.out) htl) htl)
    go_wp2_with fail
    refine HT5.out.mono ?_
    rintro e w6 ⟨xa, xc, rfl, hlx, b6⟩
    have hA := belowA (w := w6) (.cells #[.string pr, .slice xa ts.length xc] 25)
    have HW6 := Lib.hid (b6.trans (hA.mono b6.size))
    have B6 := Lib.hid (B5.out.trans (HW6.out.mono B5.out.size))
    have HA6 := Lib.hid (HA5.out.below HW6.out)
    have HR6 := Lib.hid (HR5.out.below HW6.out)
    have HTP6 := Lib.hid (HTP5.out.below HW6.out)
    have HTT6 := Lib.hid (HTT5.out.below HW6.out)
    have HBX6 := Lib.hid (HBX5.out.below HW6.out)
    have HTW6 := Lib.hid (HTW5.out.below HW6.out)
    have HTX6 := Lib.hid (HTX5.out.below HW6.out)
    have HIR6 := Lib.hid (HIR.out.below HW6.out)
    have HWX6 := Lib.hid (HWX.out.below HW6.out)
    have HLX := Lib.hid (hlx.below hA)
    have HXX := Lib.hid (rl_new w6 #[.string pr, .slice xa ts.length xc] 25)
    clear hlx b6 hA HT5 HA5 HR5 HTP5 HTT5 HBX5 HTW5 HTX5 HIR HWX HW6 k0 k1
    go_upto_region 8 with fail
    generalize w6.alloc (.cells #[.string pr, .slice xa ts.length xc] 25) = W6 at B6 HA6 HR6 HTP6 HTT6 HBX6 HTW6 HTX6 HIR6 HWX6 HLX HXX ⊢
    as_aux_lemma =>
    have k0 := HTX6.out.at (j := 0) rfl
    have k1 := HTX6.out.at (j := 1) rfl
    have k2 := HTX6.out.at (j := 2) rfl
    have HT6 := Lib.hid (applyRule_any _ s d t q W6 (HG.out _ B6.out).2 (HTW6.out.is HLK.out (HX.out _ B6.out) HSL.out) (HLK.out.small HSL.out) (HTP6.out.lp (HLP.out _ B6.out) hsl) hsl)
    unfold R3.val at HT6
    rw [HLK.out.okR s d, HN0.out] at HT6
    go_wp2_with fail
    refine HT6.out.mono ?_
    rintro e w7 ⟨Y, yp, rfl, b7, hly, hiy⟩
    have hA := belowA (w := w7) (.cells #[.string Y.pr, .slice yp.a Y.hd.length yp.c, .slice yp.ba Y.bd.length yp.bc] 29)
    have HW7 := Lib.hid (b7.trans (hA.mono b7.size))
    have B7 := Lib.hid (B6.out.trans (HW7.out.mono B6.out.size))
    have HA7 := Lib.hid (HA6.out.below HW7.out)
    have HR7 := Lib.hid (HR6.out.below HW7.out)
    have HTP7 := Lib.hid (HTP6.out.below HW7.out)
    have HTT7 := Lib.hid (HTT6.out.below HW7.out)
    have HBX7 := Lib.hid (HBX6.out.below HW7.out)
    have HTW7 := Lib.hid (HTW6.out.below HW7.out)
    have HTX7 := Lib.hid (HTX6.out.below HW7.out)
    have HIR7 := Lib.hid (HIR6.out.below HW7.out)
    have HWX7 := Lib.hid (HWX6.out.below HW7.out)
    have HLX7 := Lib.hid (HLX.out.below HW7.out)
    have HXX7 := Lib.hid (HXX.out.below HW7.out)
    have HIY := Lib.hid (hiy.below hA)
    have HSAME : Hid (sameR dec Y R = true) := like_same' (HLK.out.resR s d) HLR.out hly
    have HYX := Lib.hid (rl_new w7 #[.string Y.pr, .slice yp.a Y.hd.length yp.c, .slice yp.ba Y.bd.length yp.bc] 29)
    clear hly hiy b7 hA HT6 HA6 HR6 HTP6 HTT6 HBX6 HTW6 HTX6 HIR6 HWX6 HLX HXX HW7 k0 k1 k2 HN0
    go_upto_region 9 with fail
    generalize w7.alloc (.cells #[.string Y.pr, .slice yp.a Y.hd.length yp.c, .slice yp.ba Y.bd.length yp.bc] 29) = W at B7 HA7 HR7 HTP7 HTT7 HBX7 HTW7 HTX7 HIR7 HWX7 HLX7 HXX7 HIY HYX ⊢
    as_aux_lemma =>
    have HC : Hid (∀ u, Below W.heap.size W u → Below w.heap.size w u) := fun u hu => B7.out.trans (hu.mono B7.out.size)
    have HK1 : Hid (∀ u, Below W.heap.size W u → Calls Tryz.prog 12 #[.slice sa s.length sc, .agg #[.string pr, .slice va ts.length vc]] u fun e w' => ∃ a c, e = .returned (.agg #[.string pr, .slice a ts.length c]) ∧ Below u.heap.size u w' ∧ Calls Tryz.prog 11 #[.agg #[.string pr, .slice xa ts.length xc], .agg #[.string pr, .slice a ts.length c]] w' fun r w'' => r = .returned (.bool true) ∧ Below w'.heap.size w' w'') := fun u hu => by
      refine (rApply_any _ s pr _ ts u (HLP.out _ (HC.out u hu)) (HLT.out _ (HC.out u hu)) htl).mono ?_
      rintro e w' ⟨a, c, h1, h2, h3, -⟩
      refine ⟨a, c, h1, h3, sameAtom_same pr (ts.map (putT s)) _ _ w' ?_ h2⟩
      have := (HLX7.out.below hu).below h3
      rw [putT_fun] at this
      exact this
    have HK3 : Hid (∀ u, Below W.heap.size W u → Calls Tryz.prog 13 #[Y.val yp, R.val rp] u fun r w' => r = .returned (.bool true) ∧ Below u.heap.size u w') := fun u hu => by
      have := sameRule_any (dec := dec) d Y R yp rp u (HIY.out.below hu) (HIR7.out.below hu)
      rw [HSAME.out] at this
      exact this
    have HK4 : Hid (∀ u, Below W.heap.size W u → Calls Tryz.prog 14 #[.slice ua s.length (s.length + 1), .slice sa s.length sc] u fun r w' => r = .returned (.bool true) ∧ Below u.heap.size u w') := fun u hu => leftPairs_any s _ _ _ _ _ u hsl (HG.out _ (HC.out u hu)).1 (HTP7.out.below hu) (HLP.out _ (HC.out u hu))
    have HK5 : Hid (∀ u, Below W.heap.size W u → Calls Tryz.prog 15 #[.agg #[.string pr, .slice ba ts.length (ts.length + 1)], .agg #[.string pr, .slice va ts.length vc]] u fun r w' => r = .returned (.bool true) ∧ Below u.heap.size u w') := fun u hu => leftAtom_any pr ts _ _ _ _ _ u htl (HG.out _ (HC.out u hu)).1 (HTT7.out.below hu) (HLT.out _ (HC.out u hu))
    have HK6 : Hid (∀ u, Below W.heap.size W u → Calls Tryz.prog 16 #[t.val q, r.val p] u fun r w' => r = .returned (.bool true) ∧ Below u.heap.size u w') := fun u hu => leftRule_any d r t p q _ u (HG.out _ (HC.out u hu)).1 HLK.out HSL.out (HTW7.out.below hu) (HX.out _ (HC.out u hu))
    have HLA : ∀ u, Below W.heap.size W u → (loadVar 25 ⟨w.heap.size, 0, none⟩).run Tryz.prog u = .ok (.agg #[.string pr, .slice va ts.length vc]) u := fun u hu => load_AtomV (RL.below HA7.out hu) rfl
    have HLR0 : ∀ u, Below W.heap.size W u → (loadVar 29 ⟨w.heap.size + 1, 0, none⟩).run Tryz.prog u = .ok (r.val p) u := fun u hu => load_RuleV (RL.below HR7.out hu) rfl
    have HLB : ∀ u, Below W.heap.size W u → (loadVar 25 ⟨w3.heap.size, 0, none⟩).run Tryz.prog u = .ok (.agg #[.string pr, .slice ba ts.length (ts.length + 1)]) u := fun u hu => load_AtomV (RL.below HBX7.out hu) rfl
    have HLT2 : ∀ u, Below W.heap.size W u → (loadVar 29 ⟨w4.heap.size, 0, none⟩).run Tryz.prog u = .ok (t.val q) u := fun u hu => load_RuleV (RL.below HTX7.out hu) rfl
    have HLW : ∀ u, Below W.heap.size W u → (loadVar 29 ⟨w5.heap.size, 0, none⟩).run Tryz.prog u = .ok (R.val rp) u := fun u hu => load_RuleV (RL.below HWX7.out hu) rfl
    have HLX2 : ∀ u, Below W.heap.size W u → (loadVar 25 ⟨w6.heap.size, 0, none⟩).run Tryz.prog u = .ok (.agg #[.string pr, .slice xa ts.length xc]) u := fun u hu => load_AtomV (RL.below HXX7.out hu) rfl
    have HLY : ∀ u, Below W.heap.size W u → (loadVar 29 ⟨w7.heap.size, 0, none⟩).run Tryz.prog u = .ok (Y.val yp) u := fun u hu => load_RuleV (RL.below HYX.out hu) rfl
    generalize Value.agg #[.string pr, .slice xa ts.length xc] = XV at HK1 HLX2
    generalize Value.agg #[.string pr, .slice ba ts.length (ts.length + 1)] = BV at HK5 HLB
    generalize Value.agg #[.string pr, .slice va ts.length vc] = AV at HK1 HK5 HLA
    generalize r.val p = PV at HK6 HLR0
    generalize t.val q = TV at HK6 HLT2
    generalize R.val rp = RV at HK3 HLW
    generalize Y.val yp = YV at HK3 HLY
    have hB0 : Below W.heap.size W W.drew := (Below.refl _ _).drew
    have hnn : (n0 == n0) = true := by simp
    clear B7 HA7 HR7 HTP7 HTT7 HBX7 HTW7 HTX7 HIR7 HWX7 HLX7 HXX7 HIY HYX HSAME HLK HLR HSL HG HX HLP HLT B1 B2 B3 B4 B5 B6
    clear hagg
    go_region_held3 (fun u => Below W.heap.size W u)
      (first
        | (with_reducible assumption)
        | (with_reducible exact hB0))
      (first
        | (go_at_call 12; (with_reducible refine Calls.mono (HK1.out _ (by assumption)) ?_); rintro ee w10 ⟨a10, c10, rfl, b10, hsa⟩; have b10' := next_ofR (wc := W) (by assumption) b10; have HSA := Lib.hid hsa; clear hsa)
        | (go_at_call 11; (with_reducible refine Calls.mono HSA.out ?_); rintro ee w11 ⟨rfl, b11⟩; have b11' := next_ofR (wc := W) (by assumption) b11)
        | (go_at_call 13; (with_reducible refine Calls.mono (HK3.out _ (by assumption)) ?_); rintro ee w12 ⟨rfl, b12⟩; have b12' := next_ofR (wc := W) (by assumption) b12)
        | (go_at_call 14; (with_reducible refine Calls.mono (HK4.out _ (by assumption)) ?_); rintro ee w13 ⟨rfl, b13⟩; have b13' := next_ofR (wc := W) (by assumption) b13)
        | (go_at_call 15; (with_reducible refine Calls.mono (HK5.out _ (by assumption)) ?_); rintro ee w14 ⟨rfl, b14⟩; have b14' := next_ofR (wc := W) (by assumption) b14)
        | (go_at_call 16; (with_reducible refine Calls.mono (HK6.out _ (by assumption)) ?_); rintro ee w15 ⟨rfl, b15⟩; have b15' := next_ofR (wc := W) (by assumption) b15)
        | fail)
    go_wp2
    go_ret
    exact ⟨rfl, HC.out _ (by assumption)⟩
  · go_wp2
    go_ret
    exact ⟨rfl, B1.out⟩
end Go.Proofs.YtklflppgaciifaaGreatDoor
