import Derived.Test.YtgplipfebnigiaaGreatDoorAkRn
import Derived.Test.YtgplipfebnigiaaGreatDoorAkReg
import Derived.Test.YtgplipfebnigiaaGreatDoorG41
import Derived.Test.YtgplipfebnigiaaGreatDoorG19
import Derived.Deep.RegionHeld3
namespace Go.Proofs.YtgplipfebnigiaaGreatDoor
open Go.RowKit Go.Maps
set_option linter.unusedVariables false
set_option linter.unusedSimpArgs false
attribute [local go_sem ↓] Go.wp_at_zero Go.wp_at_succ

theorem LikeR.alikeA {dec : Dec} {d : Nat} {r s r' s' : R3} (h : LikeR r r') (k : LikeR s s') : alikeB dec d r' s' = alikeB dec d r s := by
  unfold alikeB
  rw [h.ruleB d, k.ruleB d, sameR_like (h.canR d) (k.canR d)]
theorem resR_ok {s : List P} {d : Nat} {r : R3} (h1 : ruleB d r = true) (h2 : ruleB d (apR (putT s) d r) = true) : okR s d r = true ∧ resR s d r = apR (putT s) d r := by
  have h : okR s d r = true := by unfold okR; rw [h1, h2]; rfl
  exact ⟨h, by unfold resR; rw [h]; rfl⟩
theorem lp_one (u : World) (nl n0 : ByteArray) (h1 : nl.size ≤ maxLen) (h2 : n0.size ≤ maxLen) {u2 : World} (hb : Below (u.alloc (.cells #[.string nl, .string n0, .int .i8 0, .int .i64 0, .string ⟨#[]⟩] 49)).heap.size (u.alloc (.cells #[.string nl, .string n0, .int .i8 0, .int .i64 0, .string ⟨#[]⟩] 49)) u2) : Lp u2 (.slice (some ⟨u.heap.size, 0, none⟩) 1 1) [⟨nl, ⟨n0, V0⟩⟩] := by
  refine Lp.below ⟨ls_own (World.ownsRow_lit (base := u.heap.size) (e := 49) (size := 5) u #[.string nl, .string n0, .int .i8 0, .int .i64 0, .string ⟨#[]⟩] 1 (Nat.le_refl _) (by decide) rfl), fun p hp => ?_⟩ hb
  rw [List.mem_singleton.1 hp]
  exact ⟨h1, h2, V0.ok⟩
abbrev GA (w : World) : Prop := (LV.Tab w ∧ KT w) ∧ PWt w
set_option maxHeartbeats 12800000 in
set_option maxRecDepth 100000 in
theorem termAlike_one (d : Nat) (r : R3) (p : RP) (by_ : Int) (w : World) (hG : GA w) (hR : RIs w d r p) :
    Calls Tryz.prog 4 #[r.val p, .int .i64 by_] w fun e w' => e = .returned (.bool true) ∧ Below w.heap.size w w' := by
  have dec : Dec := ⟨Classical.propDecidable⟩
  have HB0 := Lib.hid (belowA (w := w) (.cells #[.string r.pr, .slice p.a r.hd.length p.c, .slice p.ba r.bd.length p.bc] 25))
  have HR0 := Lib.hid (rl_new w #[.string r.pr, .slice p.a r.hd.length p.c, .slice p.ba r.bd.length p.bc] 25)
  have HG : Hid (∀ u, Below w.heap.size w u → LV.Tab u ∧ KT u ∧ PWt u) := fun u hu => ⟨hG.1.1.below hu, hG.1.2.below hu, tab_below hG.2 hu⟩
  have HX : Hid (∀ u, Below w.heap.size w u → RIs u d r p) := fun u hu => hR.below hu
  clear hG hR
  unfold R3.val
  go_enter Tryz.func4, Tryz.ntmps4
  go_upto_region 1 with fail
  generalize w.alloc (.cells #[.string r.pr, .slice p.a r.hd.length p.c, .slice p.ba r.bd.length p.bc] 25) = W0 at HB0 HR0 ⊢
  have k0 := HR0.out.at (j := 0) rfl
  have k1 := HR0.out.at (j := 1) rfl
  have k2 := HR0.out.at (j := 2) rfl
  have HBY := Lib.hid (beyondRule_any d r p _ (HX.out _ HB0.out))
  unfold R3.val at HBY
  go_wp2_with fail
  refine HBY.out.mono ?_
  rintro e w1 ⟨bb, rfl, b1, hsm⟩
  have B1 := Lib.hid (HB0.out.trans (b1.mono HB0.out.size))
  have HR1 := Lib.hid (HR0.out.below b1)
  have HSM := Lib.hid hsm
  clear hsm b1 HBY HB0 HR0 k0 k1 k2
  cases bb
  · have hsm2 := HSM.out (by first | rfl | trivial)
    have HS := Lib.hid hsm2
    clear hsm2 HSM
    have HLV := Lib.hid (LV.lives_any w1 (HG.out _ B1.out).1 (HG.out _ B1.out).2.1)
    go_wp2_with fail
    refine HLV.out.mono ?_
    rintro e w2 ⟨rfl, b2⟩
    have B2 := Lib.hid (B1.out.trans (b2.mono B1.out.size))
    have HR2 := Lib.hid (HR1.out.below b2)
    clear b2 HLV HR1 B1
    have k0 := HR2.out.at (j := 0) rfl
    have k1 := HR2.out.at (j := 1) rfl
    have k2 := HR2.out.at (j := 2) rfl
    obtain ⟨ea, hea⟩ : ∃ ea, errB (ruleB d r) = ea := ⟨_, rfl⟩
    have HEA := Lib.hid hea
    have HC1 := Lib.hid (canon_any d r p w2 (HG.out _ B2.out).2.1 (HG.out _ B2.out).2.2 (HX.out _ B2.out) HS.out)
    rw [hea] at HC1
    unfold R3.val at HC1
    go_wp2_with fail
    refine HC1.out.mono ?_
    rintro e w3 ⟨C, cp, rfl, b3, hc, hfc⟩
    have hA := belowA (w := w3) (.cells #[.string C.pr, .slice cp.a C.hd.length cp.c, .slice cp.ba C.bd.length cp.bc] 25)
    have HW3 := Lib.hid (b3.trans (hA.mono b3.size))
    have B3 := Lib.hid (B2.out.trans (HW3.out.mono B2.out.size))
    have HR3 := Lib.hid (HR2.out.below HW3.out)
    have HC3 := Lib.hid (rl_new w3 #[.string C.pr, .slice cp.a C.hd.length cp.c, .slice cp.ba C.bd.length cp.bc] 25)
    have HCI := Lib.hid (hfc.is.below hA)
    have HCL := Lib.hid hc
    clear hA hc hfc b3 HC1 HR2 HW3 k0 k1 k2 B2
    go_upto_region 6 with fail
    generalize w3.alloc (.cells #[.string C.pr, .slice cp.a C.hd.length cp.c, .slice cp.ba C.bd.length cp.bc] 25) = W3 at B3 HR3 HC3 HCI ⊢
    have k0 := HR3.out.at (j := 0) rfl
    have k1 := HR3.out.at (j := 1) rfl
    have k2 := HR3.out.at (j := 2) rfl
    have HCK := Lib.hid (rcheckRule_any d r p W3 (HX.out _ B3.out) HS.out)
    rw [hea] at HCK
    unfold R3.val at HCK
    clear hea
    go_wp2_with fail
    refine HCK.out.mono ?_
    rintro e w4 ⟨rfl, b4⟩
    have B4 := Lib.hid (B3.out.trans (b4.mono B3.out.size))
    have HR4 := Lib.hid (HR3.out.below b4)
    have HC4 := Lib.hid (HC3.out.below b4)
    have HCI4 := Lib.hid (HCI.out.below b4)
    have HAL : Hid (∀ (x y : R3) (xp yp : RP) (u : World) (Q : Bool), Below w.heap.size w u → RIs u d x xp → RIs u d y yp → smallR d x → smallR d y → alikeB dec d x y = Q → Calls Tryz.prog 10 #[.agg #[.string x.pr, .slice xp.a x.hd.length xp.c, .slice xp.ba x.bd.length xp.bc], .agg #[.string y.pr, .slice yp.a y.hd.length yp.c, .slice yp.ba y.bd.length yp.bc]] u fun e w' => e = .returned (.bool Q) ∧ Below u.heap.size u w') := fun x y xp yp u Q hu h1 h2 h3 h4 hq => by
      have := alike_any (dec := dec) d x y xp yp u (HG.out u hu).2.1 (HG.out u hu).2.2 h1 h2 h3 h4
      rw [hq] at this
      exact this
    clear b4 HCK HR3 HC3 HCI k0 k1 k2 B3
    cases hrb : ruleB d r
    · have hia : ea = 40 := by rw [← HEA.out, hrb]; rfl
      subst hia
      have HK := Lib.hid (HAL.out r r p p w4 false B4.out (HX.out _ B4.out) (HX.out _ B4.out) HS.out HS.out (alikeB_no hrb))
      clear HAL HEA
      have k0 := HR4.out.at (j := 0) rfl
      have k1 := HR4.out.at (j := 1) rfl
      have k2 := HR4.out.at (j := 2) rfl
      go_wp2_with fail
      refine HK.out.mono ?_
      rintro e w5 ⟨rfl, b5⟩
      have B5 := Lib.hid (B4.out.trans (b5.mono B4.out.size))
      clear HK b5 k0 k1 k2
      go_wp2
      go_ret
      exact ⟨rfl, B5.out⟩
    have hia : ea = 0 := by rw [← HEA.out, hrb]; rfl
    subst hia
    have HRB := Lib.hid hrb
    have HCS : Hid (smallR d C) := HCL.out.small (by rw [canR_is hrb]; exact apR_small _ HS.out)
    have HCB : Hid (ruleB d C = true) := by show _ = _; rw [HCL.out.ruleB d]; exact ruleB_can hrb
    clear HEA hrb
    have k0 := HC4.out.at (j := 0) rfl
    have k1 := HC4.out.at (j := 1) rfl
    have k2 := HC4.out.at (j := 2) rfl
    have HC2 := Lib.hid (canon_any d C cp w4 (HG.out _ B4.out).2.1 (HG.out _ B4.out).2.2 HCI4.out HCS.out)
    rw [HCB.out, show errB true = 0 from rfl] at HC2
    unfold R3.val at HC2
    go_wp2_with fail
    refine HC2.out.mono ?_
    rintro e w5 ⟨Z, zp, rfl, b5, hz, hfz⟩
    have hA := belowA (w := w5) (.cells #[.string Z.pr, .slice zp.a Z.hd.length zp.c, .slice zp.ba Z.bd.length zp.bc] 25)
    have HW5 := Lib.hid (b5.trans (hA.mono b5.size))
    have B5 := Lib.hid (B4.out.trans (HW5.out.mono B4.out.size))
    have HR5 := Lib.hid (HR4.out.below HW5.out)
    have HC5 := Lib.hid (HC4.out.below HW5.out)
    have HCI5 := Lib.hid (HCI4.out.below HW5.out)
    have HZ5 := Lib.hid (rl_new w5 #[.string Z.pr, .slice zp.a Z.hd.length zp.c, .slice zp.ba Z.bd.length zp.bc] 25)
    have HZI := Lib.hid (hfz.is.below hA)
    have HSAME : Hid (sameR dec C Z = true) := by
      show _ = _
      have h1 := HCL.out.canR d
      rw [canR_can HRB.out] at h1
      have h2 := h1.trans hz
      have h0 := HCL.out
      exact sameR_t ⟨h0.pr.trans h2.pr.symm, h0.hd.trans h2.hd.symm, h0.map.trans h2.map.symm⟩
    clear hA hz hfz b5 HC2 HR4 HC4 HCI4 HW5 k0 k1 k2 B4
    go_upto_region 9 with fail
    generalize w5.alloc (.cells #[.string Z.pr, .slice zp.a Z.hd.length zp.c, .slice zp.ba Z.bd.length zp.bc] 25) = W5 at B5 HR5 HC5 HCI5 HZ5 HZI ⊢
    have k0 := HC5.out.at (j := 0) rfl
    have k1 := HC5.out.at (j := 1) rfl
    have k2 := HC5.out.at (j := 2) rfl
    have m0 := HZ5.out.at (j := 0) rfl
    have m1 := HZ5.out.at (j := 1) rfl
    have m2 := HZ5.out.at (j := 2) rfl
    have HK0 : Hid (Calls Tryz.prog 9 #[.agg #[.string C.pr, .slice cp.a C.hd.length cp.c, .slice cp.ba C.bd.length cp.bc], .agg #[.string Z.pr, .slice zp.a Z.hd.length zp.c, .slice zp.ba Z.bd.length zp.bc]] W5 fun e w' => e = .returned (.bool true) ∧ Below W5.heap.size W5 w') := by
      have := sameRule_any (dec := dec) d C Z cp zp W5 HCI5.out HZI.out
      rw [HSAME.out] at this
      exact this
    go_wp2_with fail
    refine HK0.out.mono ?_
    rintro e w6 ⟨rfl, b6⟩
    have B6 := Lib.hid (B5.out.trans (b6.mono B5.out.size))
    have HR6 := Lib.hid (HR5.out.below b6)
    have HC6 := Lib.hid (HC5.out.below b6)
    have HCI6 := Lib.hid (HCI5.out.below b6)
    clear b6 HK0 HR5 HC5 HCI5 HZ5 HZI HSAME B5 k0 k1 k2 m0 m1 m2
    have HQ1 : Hid (alikeB dec d r r = true) := alikeB_t HRB.out HRB.out rfl
    have HQ2 : Hid (alikeB dec d r C = true) := by
      show _ = _
      rw [(LikeR.refl r).alikeA HCL.out]
      exact alikeB_t HRB.out (ruleB_can HRB.out) (canR_can HRB.out).symm
    have HQ3 : Hid (alikeB dec d C r = true) := by
      show _ = _
      rw [HCL.out.alikeA (LikeR.refl r)]
      exact alikeB_t (ruleB_can HRB.out) HRB.out (canR_can HRB.out)
    have k0 := HR6.out.at (j := 0) rfl
    have k1 := HR6.out.at (j := 1) rfl
    have k2 := HR6.out.at (j := 2) rfl
    have HK := Lib.hid (HAL.out r r p p w6 true B6.out (HX.out _ B6.out) (HX.out _ B6.out) HS.out HS.out HQ1.out)
    go_wp2_with fail
    refine HK.out.mono ?_
    rintro e w7 ⟨rfl, b7⟩
    have B7 := Lib.hid (B6.out.trans (b7.mono B6.out.size))
    have HR7 := Lib.hid (HR6.out.below b7)
    have HC7 := Lib.hid (HC6.out.below b7)
    have HCI7 := Lib.hid (HCI6.out.below b7)
    clear HK b7 HR6 HC6 HCI6 B6 k0 k1 k2
    have k0 := HR7.out.at (j := 0) rfl
    have k1 := HR7.out.at (j := 1) rfl
    have k2 := HR7.out.at (j := 2) rfl
    have m0 := HC7.out.at (j := 0) rfl
    have m1 := HC7.out.at (j := 1) rfl
    have m2 := HC7.out.at (j := 2) rfl
    have HK := Lib.hid (HAL.out r C p cp w7 true B7.out (HX.out _ B7.out) HCI7.out HS.out HCS.out HQ2.out)
    go_wp2_with fail
    refine HK.out.mono ?_
    rintro e w8 ⟨rfl, b8⟩
    have B8 := Lib.hid (B7.out.trans (b8.mono B7.out.size))
    have HR8 := Lib.hid (HR7.out.below b8)
    have HC8 := Lib.hid (HC7.out.below b8)
    have HCI8 := Lib.hid (HCI7.out.below b8)
    clear HK b8 HR7 HC7 HCI7 B7 k0 k1 k2 m0 m1 m2
    have k0 := HC8.out.at (j := 0) rfl
    have k1 := HC8.out.at (j := 1) rfl
    have k2 := HC8.out.at (j := 2) rfl
    have m0 := HR8.out.at (j := 0) rfl
    have m1 := HR8.out.at (j := 1) rfl
    have m2 := HR8.out.at (j := 2) rfl
    have HK := Lib.hid (HAL.out C r cp p w8 true B8.out HCI8.out (HX.out _ B8.out) HCS.out HS.out HQ3.out)
    go_wp2_with fail
    refine HK.out.mono ?_
    rintro e w9 ⟨rfl, b9⟩
    have B9 := Lib.hid (B8.out.trans (b9.mono B8.out.size))
    have HR9 := Lib.hid (HR8.out.below b9)
    clear HK b9 HR8 B8 k0 k1 k2 m0 m1 m2
    clear HQ1 HQ2 HQ3 HCS HCB HCL HC8 HCI8
    have h24 := ruleB_vars HRB.out
    obtain ⟨vs, hvs⟩ : ∃ vs, vsT [] (termsR d r) = vs := ⟨_, rfl⟩
    rw [hvs] at h24
    have HVS := Lib.hid hvs
    have hmv := moved_ok HRB.out (rnC by_ vs.length)
    rw [hvs] at hmv
    have hres := resR_ok HRB.out hmv.1
    have HMV := Lib.hid hmv
    obtain ⟨G, hGd⟩ : ∃ G, apR (putT (rnP vs (rnC by_ vs.length) vs.length)) d r = G := ⟨_, rfl⟩
    rw [hGd] at HMV hres
    have HGS : Hid (smallR d G) := by show smallR d G; rw [← hGd]; exact apR_small _ HS.out
    have HRN : Hid (∀ u, Below w9.heap.size w9 u → Calls Tryz.prog 17 #[.agg #[.string r.pr, .slice p.a r.hd.length p.c, .slice p.ba r.bd.length p.bc], .int .i64 by_] u fun e w' => ∃ sp, e = .returned sp ∧ Below u.heap.size u w' ∧ ∀ u2, Below w'.heap.size w' u2 → Calls Tryz.prog 16 #[sp, .agg #[.string r.pr, .slice p.a r.hd.length p.c, .slice p.ba r.bd.length p.bc]] u2 fun e w'' => ∃ X xp, e = .returned (.tuple #[.agg #[.string X.pr, .slice xp.a X.hd.length xp.c, .slice xp.ba X.bd.length xp.bc], .int .i64 0]) ∧ Below u2.heap.size u2 w'' ∧ Frr u2.heap.size w'' d X xp ∧ LikeR G X) := fun u hu => by
      have hbu := B9.out.trans (hu.mono B9.out.size)
      refine (renamed_any d r p by_ vs u HVS.out h24 (HX.out u hbu) HS.out).mono ?_
      rintro e w' ⟨sp, h1, h2, h3⟩
      refine ⟨sp, h1, h2, fun u2 hu2 => ?_⟩
      have hbu2 := hbu.trans ((h2.trans (hu2.mono h2.size)).mono hbu.size)
      have := applyRule_fr sp _ d r p u2 (HG.out u2 hbu2).2.1 (HX.out u2 hbu2) HS.out (h3.below hu2) (by rw [rnP_len]; omega)
      rw [hres.1, hres.2] at this
      refine this.mono ?_
      rintro e w'' ⟨X, xp, h1, h2, h3, h4⟩
      exact ⟨X, xp, h1, h2, h4, h3⟩
    have HLE : Hid (∀ u, Below w9.heap.size w9 u → (loadVar 25 ⟨w.heap.size, 0, none⟩).run Tryz.prog u = .ok (.agg #[.string r.pr, .slice p.a r.hd.length p.c, .slice p.ba r.bd.length p.bc]) u) := fun u hu =>
      run_loadVar_mid u _ 0 25 [.string r.pr, .slice p.a r.hd.length p.c, .slice p.ba r.bd.length p.bc] _ (RL.range (HR9.out.below hu)) Tryz.underlying25 rfl (by kernel_rfl)
    clear hmv hres hvs hGd
    go_upto_region 11 with fail
    refine wp_region_noPanic ?_
    refine wp_region_held (S := fun u => Below w9.heap.size w9 u) (by kernel_rfl) ?_
    refine reg11 (w5 := w9) (b3 := w.heap.size) (d := d) (rv := .agg #[.string r.pr, .slice p.a r.hd.length p.c, .slice p.ba r.bd.length p.bc]) (bv := .int .i64 by_) (G := G) rfl rfl rfl rfl rfl rfl rfl rfl rfl rfl rfl (by kernel_rfl) (by kernel_rfl) (by kernel_rfl) (by kernel_rfl) (by kernel_rfl) (by kernel_rfl) (by kernel_rfl) (by kernel_rfl) (by kernel_rfl) (fun _ _ _ _ _ h => h) (by simp) rfl rfl HLE.out HRN.out ?_
    intro af wf b9 M mp hAg h20 h21 hRL hBf hMI hML
    refine NoPanic.normal ?_
    rename_i hK
    refine hK _ _ ?_
    have hf := hAg.form
    unfold js_reg11 at hf
    simp only [List.foldl_cons, List.foldl_nil] at hf
    have h20' : af.tmps.getD 9 undef = .pointer (some ⟨b9, 0, none⟩) := by simpa [Act.eval] using h20
    have h21' : af.tmps.getD 6 undef = .int .i64 0 := by simpa [Act.eval] using h21
    rw [h20', h21'] at hf
    generalize af.tmps.getD 67 undef = g67 at hf
    generalize af.tmps.getD 68 undef = g68 at hf
    generalize af.tmps.getD 69 undef = g69 at hf
    generalize af.tmps.getD 70 undef = g70 at hf
    generalize af.tmps.getD 71 undef = g71 at hf
    generalize af.tmps.getD 72 undef = g72 at hf
    generalize af.tmps.getD 73 undef = g73 at hf
    generalize af.tmps.getD 74 undef = g74 at hf
    clear h20 h21 h20' h21' hAg
    subst hf
    have B10 := Lib.hid (B9.out.trans (hBf.mono B9.out.size))
    have HR10 := Lib.hid (HR9.out.below hBf)
    have HM10 := Lib.hid hRL
    have HMI10 := Lib.hid hMI
    have HML := Lib.hid hML
    have HMS : Hid (smallR d M) := HML.out.small HGS.out
    have HQ4 : Hid (alikeB dec d M r = true) := by
      show _ = _
      rw [HML.out.alikeA (LikeR.refl r)]
      exact alikeB_t HMV.out.1 HRB.out HMV.out.2
    have HQ5 : Hid (alikeB dec d r M = true) := by
      show _ = _
      rw [(LikeR.refl r).alikeA HML.out]
      exact alikeB_t HRB.out HMV.out.1 HMV.out.2.symm
    clear hRL hMI hML hBf HRN HLE HMV HGS HR9 B9
    simp (config := { maxSteps := 8000000 }) only [List.setIfInBounds_toArray, List.set_cons_succ, List.set_cons_zero]
    generalize wf = w10 at *
    have k0 := HM10.out.at (j := 0) rfl
    have k1 := HM10.out.at (j := 1) rfl
    have k2 := HM10.out.at (j := 2) rfl
    have m0 := HR10.out.at (j := 0) rfl
    have m1 := HR10.out.at (j := 1) rfl
    have m2 := HR10.out.at (j := 2) rfl
    have HK := Lib.hid (HAL.out M r mp p w10 true B10.out HMI10.out (HX.out _ B10.out) HMS.out HS.out HQ4.out)
    go_wp2_with fail
    refine HK.out.mono ?_
    rintro e w11 ⟨rfl, b11⟩
    have B11 := Lib.hid (B10.out.trans (b11.mono B10.out.size))
    have HR11 := Lib.hid (HR10.out.below b11)
    have HM11 := Lib.hid (HM10.out.below b11)
    have HMI11 := Lib.hid (HMI10.out.below b11)
    clear HK b11 HR10 HM10 HMI10 B10 k0 k1 k2 m0 m1 m2
    have k0 := HR11.out.at (j := 0) rfl
    have k1 := HR11.out.at (j := 1) rfl
    have k2 := HR11.out.at (j := 2) rfl
    have m0 := HM11.out.at (j := 0) rfl
    have m1 := HM11.out.at (j := 1) rfl
    have m2 := HM11.out.at (j := 2) rfl
    have HK := Lib.hid (HAL.out r M p mp w11 true B11.out (HX.out _ B11.out) HMI11.out HS.out HMS.out HQ5.out)
    go_wp2_with fail
    refine HK.out.mono ?_
    rintro e w12 ⟨rfl, b12⟩
    have B12 := Lib.hid (B11.out.trans (b12.mono B11.out.size))
    have HR12 := Lib.hid (HR11.out.below b12)
    clear HK b12 HR11 B11 k0 k1 k2 m0 m1 m2
    clear HQ4 HQ5 HMS HML HM11 HMI11
    have k0 := HR12.out.at (j := 0) rfl
    have k1 := HR12.out.at (j := 1) rfl
    have k2 := HR12.out.at (j := 2) rfl
    have HRV := Lib.hid (rruleVars_any d r p w12 (HX.out _ B12.out) HS.out.terms)
    rw [HVS.out] at HRV
    unfold R3.val at HRV
    go_wp2_with fail
    refine HRV.out.mono ?_
    rintro e w13 ⟨sv, rfl, hls, b13⟩
    obtain ⟨a0, c0, rfl, hc1, hc2, hat⟩ := ls_str hls
    have B13 := Lib.hid (B12.out.trans (b13.mono B12.out.size))
    have HR13 := Lib.hid (HR12.out.below b13)
    have HAT := Lib.hid hat
    clear hat hls hc1 hc2 b13 HRV HR12 B12 k0 k1 k2
    by_cases h2 : vs.length < 2
    · have h2' : (vs.length : Int) < 2 := by omega
      clear HAL
      go_wp2
      go_ret
      exact ⟨rfl, B13.out⟩
    have h2' : ¬ (vs.length : Int) < 2 := by omega
    obtain ⟨g, off, ha, hg, hT⟩ := HAT.out (by omega)
    rw [ha]
    have HSZ := Lib.hid (vsT_size (HX.out _ B13.out))
    rw [HVS.out] at HSZ
    obtain ⟨n0, hn0⟩ : ∃ n0, atS vs 0 = n0 := ⟨_, rfl⟩
    obtain ⟨nl, hnl⟩ : ∃ nl, atS vs (vs.length - 1) = nl := ⟨_, rfl⟩
    have hz0 : n0.size ≤ maxLen := by rw [← hn0, atS_eq (by omega)]; exact HSZ.out _ (List.getElem_mem _)
    have hzl : nl.size ≤ maxLen := by rw [← hnl, atS_eq (by omega)]; exact HSZ.out _ (List.getElem_mem _)
    have hone := one_ok HRB.out HVS.out (by omega) hn0.symm hnl.symm
    have hres := resR_ok HRB.out hone.1
    have HONE := Lib.hid hone
    obtain ⟨G, hGd⟩ : ∃ G, apR (putT [⟨nl, ⟨n0, V0⟩⟩]) d r = G := ⟨_, rfl⟩
    rw [hGd] at HONE hres
    have HGS : Hid (smallR d G) := by show smallR d G; rw [← hGd]; exact apR_small _ HS.out
    have HL0 : Hid (∀ u, Below w13.heap.size w13 u → (loadVar 9 ⟨g, off, none⟩).run Tryz.prog u = .ok (.string n0) u) := fun u hu => by
      have h := hT 0 (by omega)
      rw [hn0, Nat.add_zero] at h
      exact load_s9 (by rw [hu.cell (p := ⟨g, off, none⟩) hg]; exact h)
    have HLL : Hid (∀ u, Below w13.heap.size w13 u → (loadVar 9 ⟨g, off + (vs.length - 1), none⟩).run Tryz.prog u = .ok (.string nl) u) := fun u hu => by
      have h := hT (vs.length - 1) (by omega)
      rw [hnl] at h
      exact load_s9 (by rw [hu.cell (p := ⟨g, off + (vs.length - 1), none⟩) hg]; exact h)
    have HLE : Hid (∀ u, Below w13.heap.size w13 u → (loadVar 25 ⟨w.heap.size, 0, none⟩).run Tryz.prog u = .ok (.agg #[.string r.pr, .slice p.a r.hd.length p.c, .slice p.ba r.bd.length p.bc]) u) := fun u hu =>
      run_loadVar_mid u _ 0 25 [.string r.pr, .slice p.a r.hd.length p.c, .slice p.ba r.bd.length p.bc] _ (RL.range (HR13.out.below hu)) Tryz.underlying25 rfl (by kernel_rfl)
    have HC2 : Hid (∀ u, Below w13.heap.size w13 u → ∀ u2, Below (u.alloc (.cells #[.string nl, .string n0, .int .i8 0, .int .i64 0, .string ⟨#[]⟩] 49)).heap.size (u.alloc (.cells #[.string nl, .string n0, .int .i8 0, .int .i64 0, .string ⟨#[]⟩] 49)) u2 → Calls Tryz.prog 16 #[.slice (some ⟨u.heap.size, 0, none⟩) 1 1, .agg #[.string r.pr, .slice p.a r.hd.length p.c, .slice p.ba r.bd.length p.bc]] u2 fun e w' => ∃ X xp, e = .returned (.tuple #[.agg #[.string X.pr, .slice xp.a X.hd.length xp.c, .slice xp.ba X.bd.length xp.bc], .int .i64 0]) ∧ Below u2.heap.size u2 w' ∧ Frr u2.heap.size w' d X xp ∧ LikeR G X) := fun u hu u2 hu2 => by
      have hbu := B13.out.trans (hu.mono B13.out.size)
      have hA := belowA (w := u) (.cells #[.string nl, .string n0, .int .i8 0, .int .i64 0, .string ⟨#[]⟩] 49)
      have hbu2 := hbu.trans ((hA.trans (hu2.mono hA.size)).mono hbu.size)
      have := applyRule_fr _ _ d r p u2 (HG.out u2 hbu2).2.1 (HX.out u2 hbu2) HS.out (lp_one u nl n0 hzl hz0 hu2) (by simp)
      rw [hres.1, hres.2] at this
      refine this.mono ?_
      rintro e w'' ⟨X, xp, h1, h2, h3, h4⟩
      exact ⟨X, xp, h1, h2, h4, h3⟩
    have hn2 : 2 ≤ vs.length := by omega
    clear hone hres hGd hT ha hn0 hnl h2 HSZ HAT
    go_upto_region 17 with fail
    refine wp_region_noPanic ?_
    refine wp_region_held (S := fun u => Below w13.heap.size w13 u) (by kernel_rfl) ?_
    refine reg17 (w5 := w13) (b3 := w.heap.size) (d := d) (g := g) (off := off) (nn := vs.length) (cc := c0) (rv := .agg #[.string r.pr, .slice p.a r.hd.length p.c, .slice p.ba r.bd.length p.bc]) (vv := .slice (some ⟨g, off, none⟩) vs.length c0) (nl := nl) (n0 := n0) (G := G) rfl rfl rfl rfl rfl rfl rfl rfl rfl rfl rfl rfl rfl rfl rfl rfl rfl rfl rfl rfl (by kernel_rfl) (by kernel_rfl) (by kernel_rfl) (by kernel_rfl) (by kernel_rfl) (by kernel_rfl) (by kernel_rfl) (by kernel_rfl) (by kernel_rfl) (by kernel_rfl) (by kernel_rfl) (fun _ _ _ _ _ h => h) (by simp) rfl rfl rfl hn2 h24 HLE.out HLL.out HL0.out (fun u _ => avariable_any n0 u) HC2.out ?_
    intro af wf b11 N np hAg h20 h21 hRL hBf hNI hNL
    refine NoPanic.normal ?_
    rename_i hK
    refine hK _ _ ?_
    have hf := hAg.form
    unfold js_reg17 at hf
    simp only [List.foldl_cons, List.foldl_nil] at hf
    have h20' : af.tmps.getD 11 undef = .pointer (some ⟨b11, 0, none⟩) := by simpa [Act.eval] using h20
    have h21' : af.tmps.getD 6 undef = .int .i64 0 := by simpa [Act.eval] using h21
    rw [h20', h21'] at hf
    generalize af.tmps.getD 94 undef = g94 at hf
    generalize af.tmps.getD 95 undef = g95 at hf
    generalize af.tmps.getD 96 undef = g96 at hf
    generalize af.tmps.getD 97 undef = g97 at hf
    generalize af.tmps.getD 98 undef = g98 at hf
    generalize af.tmps.getD 99 undef = g99 at hf
    generalize af.tmps.getD 100 undef = g100 at hf
    generalize af.tmps.getD 101 undef = g101 at hf
    generalize af.tmps.getD 102 undef = g102 at hf
    generalize af.tmps.getD 103 undef = g103 at hf
    generalize af.tmps.getD 104 undef = g104 at hf
    generalize af.tmps.getD 105 undef = g105 at hf
    generalize af.tmps.getD 106 undef = g106 at hf
    generalize af.tmps.getD 107 undef = g107 at hf
    generalize af.tmps.getD 108 undef = g108 at hf
    generalize af.tmps.getD 109 undef = g109 at hf
    generalize af.tmps.getD 110 undef = g110 at hf
    clear h20 h21 h20' h21' hAg
    subst hf
    have B14 := Lib.hid (B13.out.trans (hBf.mono B13.out.size))
    have HR14 := Lib.hid (HR13.out.below hBf)
    have HN14 := Lib.hid hRL
    have HNI14 := Lib.hid hNI
    have HNL := Lib.hid hNL
    have HNS : Hid (smallR d N) := HNL.out.small HGS.out
    have HQ6 : Hid (alikeB dec d N r = false) := by
      show _ = _
      rw [HNL.out.alikeA (LikeR.refl r)]
      exact alikeB_f (by rw [HVS.out]; exact HONE.out.2)
    have HQ7 : Hid (alikeB dec d r N = false) := by
      show _ = _
      rw [(LikeR.refl r).alikeA HNL.out]
      exact alikeB_f (by rw [HVS.out]; exact fun e => HONE.out.2 e.symm)
    clear hRL hNI hNL hBf HC2 HLE HLL HL0 HONE HGS HR13 B13
    simp (config := { maxSteps := 8000000 }) only [List.setIfInBounds_toArray, List.set_cons_succ, List.set_cons_zero]
    generalize wf = w14 at *
    have k0 := HN14.out.at (j := 0) rfl
    have k1 := HN14.out.at (j := 1) rfl
    have k2 := HN14.out.at (j := 2) rfl
    have m0 := HR14.out.at (j := 0) rfl
    have m1 := HR14.out.at (j := 1) rfl
    have m2 := HR14.out.at (j := 2) rfl
    have HK := Lib.hid (HAL.out N r np p w14 false B14.out HNI14.out (HX.out _ B14.out) HNS.out HS.out HQ6.out)
    go_wp2_with fail
    refine HK.out.mono ?_
    rintro e w15 ⟨rfl, b15⟩
    have B15 := Lib.hid (B14.out.trans (b15.mono B14.out.size))
    have HR15 := Lib.hid (HR14.out.below b15)
    have HN15 := Lib.hid (HN14.out.below b15)
    have HNI15 := Lib.hid (HNI14.out.below b15)
    clear HK b15 HR14 HN14 HNI14 B14 k0 k1 k2 m0 m1 m2
    have k0 := HR15.out.at (j := 0) rfl
    have k1 := HR15.out.at (j := 1) rfl
    have k2 := HR15.out.at (j := 2) rfl
    have m0 := HN15.out.at (j := 0) rfl
    have m1 := HN15.out.at (j := 1) rfl
    have m2 := HN15.out.at (j := 2) rfl
    have HK := Lib.hid (HAL.out r N p np w15 false B15.out (HX.out _ B15.out) HNI15.out HS.out HNS.out HQ7.out)
    go_wp2_with fail
    refine HK.out.mono ?_
    rintro e w16 ⟨rfl, b16⟩
    have B16 := Lib.hid (B15.out.trans (b16.mono B15.out.size))
    have HR16 := Lib.hid (HR15.out.below b16)
    clear HK b16 HR15 B15 k0 k1 k2 m0 m1 m2
    go_wp2
    go_ret
    exact ⟨rfl, B16.out⟩
  · go_wp2
    go_ret
    exact ⟨rfl, B1.out⟩
theorem termAlike_walk (d : Nat) (r : R3) (p : RP) (x : Int) (w : World) (hG : GA w) (hR : RIs w (d + 1) r p) (wx : (Lit.int .i64 x).wf = true) :
    Calls Tryz.prog 4 #[r.val p, .int .i64 x] w fun e w' => e = .returned (.bool true) ∧ Below w.heap.size w w' := termAlike_one (d + 1) r p x w hG hR
end Go.Proofs.YtgplipfebnigiaaGreatDoor
