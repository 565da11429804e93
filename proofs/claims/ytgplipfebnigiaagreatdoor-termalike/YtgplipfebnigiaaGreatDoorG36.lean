import Derived.Test.YtgplipfebnigiaaGreatDoorG35
import Derived.Test.YtgplipfebnigiaaGreatDoorG29
import Derived.Test.YtgplipfebnigiaaGreatDoorG24
import Derived.Test.YtgplipfebnigiaaGreatDoorAlP
import Derived.Test.YtgplipfebnigiaaGreatDoorG34
section
namespace Go.Proofs.YtgplipfebnigiaaGreatDoor
open Go.RowKit Go.Maps
set_option linter.unusedVariables false
set_option linter.unusedSimpArgs false
attribute [local go_sem ↓] Go.wp_at_zero Go.wp_at_succ

set_option maxHeartbeats 3200000 in
set_option maxRecDepth 100000 in
theorem canon_any (d : Nat) (r : R3) (p : RP) (w : World) (hT : KT w) (hP : PWt w) (hR : RIs w d r p) (hs : smallR d r) :
    Calls Tryz.prog 8 #[r.val p] w fun e w' => ∃ r' p', e = .returned (.tuple #[r'.val p', .int .i64 (errB (ruleB d r))]) ∧ Below w.heap.size w w' ∧ LikeR (canR d r) r' ∧ Frr w.heap.size w' d r' p' := by
  obtain ⟨i0, hi0, hz0, hz1, hz2⟩ := info_parts infoCnP
  have HT := Lib.hid hT
  have HP := Lib.hid hP
  have HRI := Lib.hid hR
  have HSM := Lib.hid hs
  obtain ⟨ok, hok⟩ : ∃ ok, ok = ruleB d r := ⟨_, rfl⟩
  have HOK := Lib.hid hok
  rw [← hok]
  have hA1 := belowA (w := w) (.cells #[.string r.pr, .slice p.a r.hd.length p.c, .slice p.ba r.bd.length p.bc] 25)
  have hA2 := belowA (w := w.alloc (.cells #[.string r.pr, .slice p.a r.hd.length p.c, .slice p.ba r.bd.length p.bc] 25)) (.cells #[.string ⟨#[]⟩, .slice none 0 0, .slice none 0 0] 25)
  have HB0 := Lib.hid (hA1.trans (hA2.mono hA1.size))
  have HR0 := Lib.hid ((rl_new w #[.string r.pr, .slice p.a r.hd.length p.c, .slice p.ba r.bd.length p.bc] 25).below hA2)
  have hR1 := rl_new (w.alloc (.cells #[.string r.pr, .slice p.a r.hd.length p.c, .slice p.ba r.bd.length p.bc] 25)) #[.string ⟨#[]⟩, .slice none 0 0, .slice none 0 0] 25
  rw [World.size_alloc] at hR1
  have HR1 := Lib.hid hR1
  have HSZ : Hid (((w.alloc (.cells #[.string r.pr, .slice p.a r.hd.length p.c, .slice p.ba r.bd.length p.bc] 25)).alloc (.cells #[.string ⟨#[]⟩, .slice none 0 0, .slice none 0 0] 25)).heap.size = w.heap.size + 2) := by show _ = _; simp
  clear hA1 hA2 hR1 hok hT hP hR hs
  unfold R3.val
  go_enter Tryz.func8, Tryz.ntmps8
  go_upto_region 1 with fail
  generalize (w.alloc (.cells #[.string r.pr, .slice p.a r.hd.length p.c, .slice p.ba r.bd.length p.bc] 25)).alloc (.cells #[.string ⟨#[]⟩, .slice none 0 0, .slice none 0 0] 25) = W at HB0 HR0 HR1 HSZ ⊢
  have y0 := HR0.out.at (j := 0) rfl
  have y1 := HR0.out.at (j := 1) rfl
  have y2 := HR0.out.at (j := 2) rfl
  have HIR := Lib.hid (isRule_any d r p W (HT.out.below HB0.out) (HRI.out.below HB0.out) HSM.out)
  unfold R3.val at HIR
  go_wp2_with fail
  refine HIR.out.mono ?_
  rintro e w1 ⟨rfl, b1⟩
  have HB1 := Lib.hid (HB0.out.trans (b1.mono HB0.out.size))
  have HR0' := Lib.hid (HR0.out.below b1)
  have HR1' := Lib.hid (HR1.out.below b1)
  have HSZ1 : Hid (w.heap.size + 2 ≤ w1.heap.size) := by show _ ≤ _; rw [← HSZ.out]; exact b1.size
  clear HIR HR0 HR1 HB0 HSZ y0 y1 y2 b1
  cases hrb : ruleB d r
  · have HF : Hid (ok = false) := by show _ = _; rw [HOK.out]; exact hrb
    have HRES : Hid (canR d r = noR) := by show _ = _; unfold canR; rw [hrb]; rfl
    have o0 := HR1'.out.at (j := 0) rfl
    have o1 := HR1'.out.at (j := 1) rfl
    have o2 := HR1'.out.at (j := 2) rfl
    have f0 := World.rowIs.frozen HR1'.out 0
    have f1 := World.rowIs.frozen HR1'.out 1
    have f2 := World.rowIs.frozen HR1'.out 2
    have HD1 := Lib.hid (res3_rl HR1'.out ⟨#[]⟩ (.slice none 0 0) (.slice none 0 0))
    have HD2 := Lib.hid (res3_below (g := w.heap.size + 1) HB1.out (by omega) ⟨#[]⟩ (.slice none 0 0) (.slice none 0 0))
    unfold res3 at HD1 HD2
    clear HR0' HR1' HB1 hrb
    go_wp2
    refine bodyPost_ret (rl_resAB Tryz.results8 (v := .agg #[.string ⟨#[]⟩, .slice none 0 0, .slice none 0 0]) (u := .int .i64 40) rfl rfl (run_loadVar_mid _ _ 0 25 [.string ⟨#[]⟩, .slice none 0 0, .slice none 0 0] _ HD1.out.range Tryz.underlying25 rfl (by kernel_rfl))) rfl ?_
    refine ⟨noR, ⟨none, 0, none, 0⟩, by rw [HF.out]; rfl, HD2.out, ?_, fun u _ _ => noR_is u d⟩
    rw [HRES.out]
    exact LikeR.refl _
  · have HF : Hid (ok = true) := by show _ = _; rw [HOK.out]; exact hrb
    have HRES := Lib.hid (resR_cn hrb)
    have HOKR := Lib.hid (okR_cn hrb)
    have hv24 := ruleB_vars hrb
    have y0 := HR0'.out.at (j := 0) rfl
    have y1 := HR0'.out.at (j := 1) rfl
    have y2 := HR0'.out.at (j := 2) rfl
    have HVS := Lib.hid (vsT_size HRI.out)
    have HRV := Lib.hid (vruleVars_any d r p w1 (HRI.out.below HB1.out) (by have := HSM.out.terms; omega))
    unfold cnR at HRES HOKR
    unfold R3.val at HRV
    generalize vsT [] (termsR d r) = vs at HRES HOKR hv24 HVS HRV
    clear hrb
    go_wp2_with fail
    refine HRV.out.mono ?_
    rintro e w2 ⟨sv, rfl, hls, b2⟩
    obtain ⟨a0, c0, rfl, hc1, hc2, hat⟩ := ls_str hls
    have HAT := Lib.hid hat
    have HB2 := Lib.hid (HB1.out.trans (b2.mono HB1.out.size))
    have HQ0 := Lib.hid (HR0'.out.below b2)
    have HQ1 := Lib.hid (HR1'.out.below b2)
    have HSZ2 : Hid (w.heap.size + 2 ≤ w2.heap.size) := Nat.le_trans HSZ1.out b2.size
    clear hat hls hc1 hc2 b2 HRV HR0' HR1' HB1 HSZ1 y0 y1 y2
    go_wp2
    go_loopw [4, 14] (fun v i wr => ∃ (k : Nat) (a' : Option Addr) (c' : Nat), k ≤ vs.length ∧ i = .int .i64 k ∧ v = .slice a' k c' ∧ Hid (wr.ownsRow w2.heap.size 49 5 (.slice a' k c') k ((cnP vs k).flatMap P.cells)) ∧ Hid (Below w2.heap.size w2 wr)) (fun _ i _ => vs.length - (intOf i).toNat)
    case atStart => exact ⟨0, none, 0, Nat.zero_le _, rfl, rfl, World.ownsRow_nil _ _ _ _, Below.refl _ _⟩
    case round =>
      obtain ⟨k, a', c', hk, rfl, rfl, HO, HB⟩ := hrel
      by_cases hlt : k < vs.length
      · have hlt' : (k : Int) < (vs.length : Int) := by omega
        have hk0 : (0 : Int) ≤ (k : Int) := by omega
        obtain ⟨g, off, rfl, hg, hT⟩ := HAT.out (by omega)
        have x0 : wr.cell? ⟨g, off + k, none⟩ = some (.string (atS vs k)) := by rw [HB.out.cell (p := ⟨g, off + k, none⟩) hg]; exact hT k hlt
        have HTK := Lib.hid (cnP_cells vs k)
        have hm := cnS_cat k
        have hsz := cnS_short (i := k) (by omega)
        have HIT := Lib.hid (Tryz.strconv_Itoa (k : Int) (by omega) (by omega) wr (tab_below HP.out (HB2.out.trans (HB.out.mono HB2.out.size))))
        generalize (⟨(Lib.itoa (k : Int)).toArray⟩ : ByteArray) = S at hm hsz HIT
        generalize cnS k = C at hm HTK
        generalize atS vs k = nm at x0 HTK
        clear hT
        go_wp2_with fail
        refine HIT.out.mono ?_
        rintro e w3 ⟨rfl, q, os, rfl⟩
        have hb3 := Lib.below_grow wr.heap.size wr (Nat.le_refl _) q os
        generalize Go.Sort.grow (wr.drewN q) os = w3 at hb3 ⊢
        have HB3 := Lib.hid (HB.out.trans (hb3.mono HB.out.size))
        have HO3 := Lib.hid (own_below HO.out hb3)
        have hzz : w2.heap.size ≤ w3.heap.size := HB3.out.size
        clear hb3 HIT HO HB x0
        go_wp2_with (at_builtin; refine wpList_append_own_at _ rfl _ _ 37 rfl w2.heap.size 49 i0 _ 5 64 Tryz.underlying37 hi0 hz0 hz1 hz2 rfl (by decide) _ _ _ rfl (own_below HO3.out ((Below.refl _ _).alloc (Nat.le_refl _) _)) ⟨_, 0, none⟩ 1 1 [.string nm, .string C, .int .i8 0, .int .i64 0, .string ⟨#[]⟩] rfl rfl (lit_news _ #[.string nm, .string C, .int .i8 0, .int .i64 0, .string ⟨#[]⟩] _) (by simp [Value.oneCell']) (by unfold maxLen; omega) (by omega) (by simp; omega) ?_; intro v' w4 hown' hgrow hnil hloc)
        obtain ⟨a2, c2, rfl, _⟩ := own_form hown'
        have HB4 : Hid (Below w2.heap.size w2 w4) := (HB3.out.alloc HB3.out.size _).grown hgrow (by simp; omega) (fun j hj => (HO3.out.lt j hj).1)
        have HO4 : Hid (w4.ownsRow w2.heap.size 49 5 (.slice a2 (k + 1) c2) (k + 1) ((cnP vs (k + 1)).flatMap P.cells)) := by
          show World.ownsRow _ _ _ _ _ _ _
          rw [HTK.out]
          exact hown'
        clear hown' hgrow hnil hloc
        go_wp2
        go_roundw
        case rel => exact ⟨k + 1, a2, c2, by omega, by go_num, rfl, HO4, HB4⟩
        case measure => simp [intOf]; omega
      · obtain rfl : k = vs.length := by omega
        have HLP : Hid (Lp wr (.slice a' vs.length c') (cnP vs vs.length)) := ⟨by rw [cnP_len]; exact ls_own HO.out, cnP_wf HVS.out (Nat.le_refl _) hv24⟩
        have HBW := Lib.hid (HB2.out.trans (HB.out.mono HB2.out.size))
        have HAP := Lib.hid (applyRule_fr (.slice a' vs.length c') (cnP vs vs.length) d r p wr (HT.out.below HBW.out) (HRI.out.below HBW.out) HSM.out HLP.out (by rw [cnP_len]; omega))
        rw [HRES.out, HOKR.out] at HAP
        have HK1 := Lib.hid (HQ1.out.below HB.out)
        have HK0 := Lib.hid (HQ0.out.below HB.out)
        have z0 := HK0.out.at (j := 0) rfl
        have z1 := HK0.out.at (j := 1) rfl
        have z2 := HK0.out.at (j := 2) rfl
        have HSZ3 : Hid (w.heap.size + 2 ≤ wr.heap.size) := Nat.le_trans HSZ2.out HB.out.size
        unfold R3.val at HAP
        clear HO HB HLP HRES HOKR HQ0 HQ1 HSZ2 HB2
        go_wp2_with fail
        refine HAP.out.mono ?_
        rintro e w5 ⟨R, q, rfl, b5, hlike, his⟩
        have HLIKE := Lib.hid hlike
        have HK15 := Lib.hid (HK1.out.below b5)
        have HBF := Lib.hid (HBW.out.trans (b5.mono HBW.out.size))
        have o0 := HK15.out.at (j := 0) rfl
        have o1 := HK15.out.at (j := 1) rfl
        have o2 := HK15.out.at (j := 2) rfl
        have f0 := World.rowIs.frozen HK15.out 0
        have f1 := World.rowIs.frozen HK15.out 1
        have f2 := World.rowIs.frozen HK15.out 2
        have HD1 := Lib.hid (res3_rl HK15.out R.pr (.slice q.a R.hd.length q.c) (.slice q.ba R.bd.length q.bc))
        have HD2 := Lib.hid (res3_below (g := w.heap.size + 1) HBF.out (by omega) R.pr (.slice q.a R.hd.length q.c) (.slice q.ba R.bd.length q.bc))
        have HD3 : Hid (Frr w.heap.size (res3 w5 (w.heap.size + 1) R.pr (.slice q.a R.hd.length q.c) (.slice q.ba R.bd.length q.bc)) d R q) := fun u h1 h2 => his u (by rw [res3_size] at h1; exact h1) (fun b hb1 hb2 => by have := HSZ3.out; rw [h2 b (by omega) (by rw [res3_size]; exact hb2), res3_other _ _ _ _ _ (by omega)])
        unfold res3 at HD1 HD2 HD3
        clear HK15 HBF his hlike b5 HAP HK0 HK1 z0 z1 z2
        go_wp2
        refine bodyPost_ret (rl_resAB Tryz.results8 (v := .agg #[.string R.pr, .slice q.a R.hd.length q.c, .slice q.ba R.bd.length q.bc]) (u := .int .i64 0) rfl rfl (run_loadVar_mid _ _ 0 25 [.string R.pr, .slice q.a R.hd.length q.c, .slice q.ba R.bd.length q.bc] _ HD1.out.range Tryz.underlying25 rfl (by kernel_rfl))) rfl ?_
        exact ⟨R, q, by rw [HF.out]; rfl, HD2.out, HLIKE.out, HD3.out⟩
end Go.Proofs.YtgplipfebnigiaaGreatDoor
end
section
namespace Go.Proofs.YtgplipfebnigiaaGreatDoor
open Go.RowKit Go.Maps
set_option linter.unusedVariables false
set_option linter.unusedSimpArgs false
attribute [local go_sem ↓] Go.wp_at_zero Go.wp_at_succ

set_option maxHeartbeats 3200000 in
set_option maxRecDepth 100000 in
theorem rcanon_any (d : Nat) (r : R3) (p : RP) (w : World) (hR : RIs w d r p) (hs : smallR d r) :
    Calls Tryz.prog 6 #[r.val p] w fun e w' => ∃ r' p', e = .returned (.tuple #[r'.val p', .int .i64 (errB (ruleB d r))]) ∧ Below w.heap.size w w' ∧ LikeR (canR d r) r' ∧ Frr w.heap.size w' d r' p' := by
  obtain ⟨i0, hi0, hz0, hz1, hz2⟩ := info_parts infoCnP
  have HRI := Lib.hid hR
  have HSM := Lib.hid hs
  obtain ⟨ok, hok⟩ : ∃ ok, ok = ruleB d r := ⟨_, rfl⟩
  have HOK := Lib.hid hok
  rw [← hok]
  have hA1 := belowA (w := w) (.cells #[.string r.pr, .slice p.a r.hd.length p.c, .slice p.ba r.bd.length p.bc] 25)
  have hA2 := belowA (w := w.alloc (.cells #[.string r.pr, .slice p.a r.hd.length p.c, .slice p.ba r.bd.length p.bc] 25)) (.cells #[.string ⟨#[]⟩, .slice none 0 0, .slice none 0 0] 25)
  have HB0 := Lib.hid (hA1.trans (hA2.mono hA1.size))
  have HR0 := Lib.hid ((rl_new w #[.string r.pr, .slice p.a r.hd.length p.c, .slice p.ba r.bd.length p.bc] 25).below hA2)
  have hR1 := rl_new (w.alloc (.cells #[.string r.pr, .slice p.a r.hd.length p.c, .slice p.ba r.bd.length p.bc] 25)) #[.string ⟨#[]⟩, .slice none 0 0, .slice none 0 0] 25
  rw [World.size_alloc] at hR1
  have HR1 := Lib.hid hR1
  have HSZ : Hid (((w.alloc (.cells #[.string r.pr, .slice p.a r.hd.length p.c, .slice p.ba r.bd.length p.bc] 25)).alloc (.cells #[.string ⟨#[]⟩, .slice none 0 0, .slice none 0 0] 25)).heap.size = w.heap.size + 2) := by show _ = _; simp
  clear hA1 hA2 hR1 hok hR hs
  unfold R3.val
  go_enter Tryz.func6, Tryz.ntmps6
  go_upto_region 1 with fail
  generalize (w.alloc (.cells #[.string r.pr, .slice p.a r.hd.length p.c, .slice p.ba r.bd.length p.bc] 25)).alloc (.cells #[.string ⟨#[]⟩, .slice none 0 0, .slice none 0 0] 25) = W at HB0 HR0 HR1 HSZ ⊢
  have y0 := HR0.out.at (j := 0) rfl
  have y1 := HR0.out.at (j := 1) rfl
  have y2 := HR0.out.at (j := 2) rfl
  have HIR := Lib.hid (rrule_any d r p W (HRI.out.below HB0.out) HSM.out)
  unfold R3.val at HIR
  go_wp2_with fail
  refine HIR.out.mono ?_
  rintro e w1 ⟨rfl, b1⟩
  have HB1 := Lib.hid (HB0.out.trans (b1.mono HB0.out.size))
  have HR0' := Lib.hid (HR0.out.below b1)
  have HR1' := Lib.hid (HR1.out.below b1)
  have HSZ1 : Hid (w.heap.size + 2 ≤ w1.heap.size) := by show _ ≤ _; rw [← HSZ.out]; exact b1.size
  clear HIR HR0 HR1 HB0 HSZ y0 y1 y2 b1
  cases hrb : ruleB d r
  · have HF : Hid (ok = false) := by show _ = _; rw [HOK.out]; exact hrb
    have HRES : Hid (canR d r = noR) := by show _ = _; unfold canR; rw [hrb]; rfl
    have o0 := HR1'.out.at (j := 0) rfl
    have o1 := HR1'.out.at (j := 1) rfl
    have o2 := HR1'.out.at (j := 2) rfl
    have f0 := World.rowIs.frozen HR1'.out 0
    have f1 := World.rowIs.frozen HR1'.out 1
    have f2 := World.rowIs.frozen HR1'.out 2
    have HD1 := Lib.hid (res3_rl HR1'.out ⟨#[]⟩ (.slice none 0 0) (.slice none 0 0))
    have HD2 := Lib.hid (res3_below (g := w.heap.size + 1) HB1.out (by omega) ⟨#[]⟩ (.slice none 0 0) (.slice none 0 0))
    unfold res3 at HD1 HD2
    clear HR0' HR1' HB1 hrb
    go_wp2
    refine bodyPost_ret (rl_resAB Tryz.results6 (v := .agg #[.string ⟨#[]⟩, .slice none 0 0, .slice none 0 0]) (u := .int .i64 40) rfl rfl (run_loadVar_mid _ _ 0 25 [.string ⟨#[]⟩, .slice none 0 0, .slice none 0 0] _ HD1.out.range Tryz.underlying25 rfl (by kernel_rfl))) rfl ?_
    refine ⟨noR, ⟨none, 0, none, 0⟩, by rw [HF.out]; rfl, HD2.out, ?_, fun u _ _ => noR_is u d⟩
    rw [HRES.out]
    exact LikeR.refl _
  · have HF : Hid (ok = true) := by show _ = _; rw [HOK.out]; exact hrb
    have HRES : Hid (apR (putT (cnR d r)) d r = canR d r) := by show _ = _; unfold canR; rw [hrb]; rfl
    have hv24 := ruleB_vars hrb
    have y0 := HR0'.out.at (j := 0) rfl
    have y1 := HR0'.out.at (j := 1) rfl
    have y2 := HR0'.out.at (j := 2) rfl
    have HVS := Lib.hid (vsT_size HRI.out)
    have HRV := Lib.hid (rruleVars_any d r p w1 (HRI.out.below HB1.out) HSM.out.terms)
    unfold cnR at HRES
    unfold R3.val at HRV
    generalize vsT [] (termsR d r) = vs at HRES hv24 HVS HRV
    clear hrb
    go_wp2_with fail
    refine HRV.out.mono ?_
    rintro e w2 ⟨sv, rfl, hls, b2⟩
    obtain ⟨a0, c0, rfl, hc1, hc2, hat⟩ := ls_str hls
    have HAT := Lib.hid hat
    have HB2 := Lib.hid (HB1.out.trans (b2.mono HB1.out.size))
    have HQ0 := Lib.hid (HR0'.out.below b2)
    have HQ1 := Lib.hid (HR1'.out.below b2)
    have HSZ2 : Hid (w.heap.size + 2 ≤ w2.heap.size) := Nat.le_trans HSZ1.out b2.size
    clear hat hls hc1 hc2 b2 HRV HR0' HR1' HB1 HSZ1 y0 y1 y2
    go_wp2
    go_loopw [5, 6] (fun v i wr => ∃ (k : Nat) (a' : Option Addr) (c' : Nat), k ≤ vs.length ∧ i = .int .i64 k ∧ v = .slice a' k c' ∧ Hid (wr.ownsRow w2.heap.size 49 5 (.slice a' k c') k ((cnP vs k).flatMap P.cells)) ∧ Hid (Below w2.heap.size w2 wr)) (fun _ i _ => vs.length - (intOf i).toNat)
    case atStart => exact ⟨0, none, 0, Nat.zero_le _, rfl, rfl, World.ownsRow_nil _ _ _ _, Below.refl _ _⟩
    case round =>
      obtain ⟨k, a', c', hk, rfl, rfl, HO, HB⟩ := hrel
      by_cases hlt : k < vs.length
      · have hlt' : (k : Int) < (vs.length : Int) := by omega
        have hk0 : (0 : Int) ≤ (k : Int) := by omega
        obtain ⟨g, off, rfl, hg, hT⟩ := HAT.out (by omega)
        have x0 : wr.cell? ⟨g, off + k, none⟩ = some (.string (atS vs k)) := by rw [HB.out.cell (p := ⟨g, off + k, none⟩) hg]; exact hT k hlt
        have HTK := Lib.hid (cnP_cells vs k)
        have HCN : Hid (∀ u, Calls Tryz.prog 22 #[.int .i64 k] u fun e w' => e = .returned (.string (cnS k)) ∧ Below u.heap.size u w') := fun u => canonical_any k (by omega) u
        have HX : Hid (∀ u, Below w2.heap.size w2 u → u.cell? ⟨g, off + k, none⟩ = some (.string (atS vs k))) := fun u hu => by rw [hu.cell (p := ⟨g, off + k, none⟩) hg]; exact hT k hlt
        generalize cnS k = C at HTK HCN
        generalize atS vs k = nm at x0 HTK HX
        clear hT
        go_wp2_with fail
        go_region_law (first
          | (refine step_call rfl 22 Tryz.func22 (by kernel_rfl) (by kernel_rfl) #[.tmp 24] _ rfl #[.int .i64 (k : Int)] (by simp [Act.eval, Act.put]) (HCN.out wr.drew) ?_
             rintro ee w3 ⟨rfl, b3⟩
             refine ⟨_, rfl, ?_⟩
             have hb3 : Below wr.heap.size wr w3 := (Below.refl wr.heap.size wr).drew.trans b3
             have HB3 := Lib.hid (HB.out.trans (hb3.mono HB.out.size))
             have x3 := HX.out w3 HB3.out
             have HO3 := Lib.hid (own_below (own_below HO.out hb3) (belowA (w := w3) (.cells #[.string nm, .string C, .int .i8 0, .int .i64 0, .string ⟨#[]⟩] 49)))
             have HC := Lib.hid (lit_news w3 #[.string nm, .string C, .int .i8 0, .int .i64 0, .string ⟨#[]⟩] 49)
             have HBA := Lib.hid (HB3.out.trans ((belowA (w := w3) (.cells #[.string nm, .string C, .int .i8 0, .int .i64 0, .string ⟨#[]⟩] 49)).mono HB3.out.size))
             clear hb3 b3)
          | (refine step_append_own rfl (.tmp 19) (.tmp 28) 37 rfl 49 i0 _ 5 64 Tryz.underlying37 hi0 hz0 hz1 hz2 rfl (by decide) w2.heap.size (.slice a' k c') k _ (by simp [Act.eval, Act.put]) HO3.out ⟨w3.heap.size, 0, none⟩ 1 1 [.string nm, .string C, .int .i8 0, .int .i64 0, .string ⟨#[]⟩] (by simp [Act.eval, Act.put]) rfl HC.out (by simp [Value.oneCell']) (by unfold maxLen; omega) (by omega) HBA.out.size ?_
             intro v' w4 hown' hgrow hloc
             obtain ⟨a2, c2, rfl, _⟩ := own_form hown'
             have HB4 : Hid (Below w2.heap.size w2 w4) := HBA.out.grown hgrow HBA.out.size (fun j hj => (HO3.out.lt j hj).1)
             have HO4 : Hid (w4.ownsRow w2.heap.size 49 5 (.slice a2 (k + 1) c2) (k + 1) ((cnP vs (k + 1)).flatMap P.cells)) := by
               show World.ownsRow _ _ _ _ _ _ _
               rw [HTK.out]
               exact hown'
             clear hown' hgrow hloc))
        all_goals
          go_wp2
          go_roundw
          case rel => exact ⟨k + 1, a2, c2, by omega, by go_num, rfl, HO4, HB4⟩
          case measure => simp [intOf]; omega
      · obtain rfl : k = vs.length := by omega
        have HLP : Hid (Lp wr (.slice a' vs.length c') (cnP vs vs.length)) := ⟨by rw [cnP_len]; exact ls_own HO.out, cnP_wf HVS.out (Nat.le_refl _) hv24⟩
        have HBW := Lib.hid (HB2.out.trans (HB.out.mono HB2.out.size))
        have HAP := Lib.hid (replaced_any (cnP vs vs.length) d r p (.slice a' vs.length c') wr (HRI.out.below HBW.out) HSM.out HLP.out)
        rw [HRES.out] at HAP
        have HK1 := Lib.hid (HQ1.out.below HB.out)
        have HK0 := Lib.hid (HQ0.out.below HB.out)
        have z0 := HK0.out.at (j := 0) rfl
        have z1 := HK0.out.at (j := 1) rfl
        have z2 := HK0.out.at (j := 2) rfl
        have HSZ3 : Hid (w.heap.size + 2 ≤ wr.heap.size) := Nat.le_trans HSZ2.out HB.out.size
        unfold R3.val at HAP
        clear HO HB HLP HRES HQ0 HQ1 HSZ2 HB2
        go_wp2_with fail
        refine HAP.out.mono ?_
        rintro e w5 ⟨R, q, rfl, b5, hlike, his⟩
        have HLIKE := Lib.hid hlike
        have HK15 := Lib.hid (HK1.out.below b5)
        have HBF := Lib.hid (HBW.out.trans (b5.mono HBW.out.size))
        have o0 := HK15.out.at (j := 0) rfl
        have o1 := HK15.out.at (j := 1) rfl
        have o2 := HK15.out.at (j := 2) rfl
        have f0 := World.rowIs.frozen HK15.out 0
        have f1 := World.rowIs.frozen HK15.out 1
        have f2 := World.rowIs.frozen HK15.out 2
        have HD1 := Lib.hid (res3_rl HK15.out R.pr (.slice q.a R.hd.length q.c) (.slice q.ba R.bd.length q.bc))
        have HD2 := Lib.hid (res3_below (g := w.heap.size + 1) HBF.out (by omega) R.pr (.slice q.a R.hd.length q.c) (.slice q.ba R.bd.length q.bc))
        have HD3 : Hid (Frr w.heap.size (res3 w5 (w.heap.size + 1) R.pr (.slice q.a R.hd.length q.c) (.slice q.ba R.bd.length q.bc)) d R q) := fun u h1 h2 => his u (by rw [res3_size] at h1; exact h1) (fun b hb1 hb2 => by have := HSZ3.out; rw [h2 b (by omega) (by rw [res3_size]; exact hb2), res3_other _ _ _ _ _ (by omega)])
        unfold res3 at HD1 HD2 HD3
        clear HK15 HBF his hlike b5 HAP HK0 HK1 z0 z1 z2
        go_wp2
        refine bodyPost_ret (rl_resAB Tryz.results6 (v := .agg #[.string R.pr, .slice q.a R.hd.length q.c, .slice q.ba R.bd.length q.bc]) (u := .int .i64 0) rfl rfl (run_loadVar_mid _ _ 0 25 [.string R.pr, .slice q.a R.hd.length q.c, .slice q.ba R.bd.length q.bc] _ HD1.out.range Tryz.underlying25 rfl (by kernel_rfl))) rfl ?_
        exact ⟨R, q, by rw [HF.out]; rfl, HD2.out, HLIKE.out, HD3.out⟩
end Go.Proofs.YtgplipfebnigiaaGreatDoor
end
section
namespace Go.Proofs.YtgplipfebnigiaaGreatDoor
open Go.RowKit Go.Maps
set_option linter.unusedVariables false
set_option linter.unusedSimpArgs false
attribute [local go_sem ↓] Go.wp_at_zero Go.wp_at_succ
variable {dec : Dec}

/-- are the rules alike? -/
def alikeB (dec : Dec) (d : Nat) (r s : R3) : Bool := ruleB d r && (ruleB d s && sameR dec (canR d r) (canR d s))
theorem sameR_like {r s r' s' : R3} (h : LikeR r r') (k : LikeR s s') : sameR dec r s = sameR dec r' s' := by
  cases e : sameR dec r' s'
  · exact sameR_f (fun q => sameR_ne e ⟨h.pr.trans (q.pr.trans k.pr.symm), h.hd.trans (q.hd.trans k.hd.symm), h.map.trans (q.bd.trans k.map.symm)⟩)
  · have q := sameR_eq e
    exact sameR_t ⟨h.pr.symm.trans (q.pr.trans k.pr), h.hd.symm.trans (q.hd.trans k.hd), h.map.symm.trans (q.bd.trans k.map)⟩
set_option maxHeartbeats 6400000 in
set_option maxRecDepth 100000 in
theorem alike_any (d : Nat) (r s : R3) (p q : RP) (w : World) (hT : KT w) (hP : PWt w) (hR : RIs w d r p) (hS : RIs w d s q) (hr : smallR d r) (hs : smallR d s) :
    Calls Tryz.prog 10 #[r.val p, s.val q] w fun e w' => e = .returned (.bool (alikeB dec d r s)) ∧ Below w.heap.size w w' := by
  unfold R3.val
  have HT := Lib.hid hT
  have HP := Lib.hid hP
  have hA1 := belowA (w := w) (.cells #[.string r.pr, .slice p.a r.hd.length p.c, .slice p.ba r.bd.length p.bc] 25)
  have hA2 := belowA (w := (w.alloc (.cells #[.string r.pr, .slice p.a r.hd.length p.c, .slice p.ba r.bd.length p.bc] 25))) (.cells #[.string s.pr, .slice q.a s.hd.length q.c, .slice q.ba s.bd.length q.bc] 25)
  have HB := Lib.hid (hA1.trans (hA2.mono hA1.size))
  have HR0 := Lib.hid ((rl_new w #[.string r.pr, .slice p.a r.hd.length p.c, .slice p.ba r.bd.length p.bc] 25).below hA2)
  have hR1 := rl_new (w.alloc (.cells #[.string r.pr, .slice p.a r.hd.length p.c, .slice p.ba r.bd.length p.bc] 25)) #[.string s.pr, .slice q.a s.hd.length q.c, .slice q.ba s.bd.length q.bc] 25
  rw [World.size_alloc] at hR1
  have HR1 := Lib.hid hR1
  have HRI := Lib.hid hR
  have HSI := Lib.hid hS
  have HSM := Lib.hid hs
  have HRM := Lib.hid hr
  obtain ⟨R, hRR⟩ : ∃ R, alikeB dec d r s = R := ⟨_, rfl⟩
  rw [hRR]
  have HRR := Lib.hid hRR
  clear hA1 hA2 hR1 hRR hR hS hs hr hT hP
  go_enter Tryz.func10, Tryz.ntmps10
  go_upto_region 1 with fail
  generalize (w.alloc (.cells #[.string r.pr, .slice p.a r.hd.length p.c, .slice p.ba r.bd.length p.bc] 25)).alloc (.cells #[.string s.pr, .slice q.a s.hd.length q.c, .slice q.ba s.bd.length q.bc] 25) = W at HB HR0 HR1 ⊢
  have y0 := HR0.out.at (j := 0) rfl
  have y1 := HR0.out.at (j := 1) rfl
  have y2 := HR0.out.at (j := 2) rfl
  have HC1 := Lib.hid (canon_any d r p W (HT.out.below HB.out) (tab_below HP.out HB.out) (HRI.out.below HB.out) HRM.out)
  obtain ⟨ia, hia⟩ : ∃ ia, errB (ruleB d r) = ia := ⟨_, rfl⟩
  rw [hia] at HC1
  have HIA := Lib.hid hia
  unfold R3.val at HC1
  clear hia
  go_wp2_with fail
  refine HC1.out.mono ?_
  rintro e w1 ⟨X, xp, rfl, b1, hx, hfx⟩
  have hA3 := belowA (w := w1) (.cells #[.string X.pr, .slice xp.a X.hd.length xp.c, .slice xp.ba X.bd.length xp.bc] 25)
  have HBx := Lib.hid (b1.trans (hA3.mono b1.size))
  have HRx := Lib.hid (rl_new w1 #[.string X.pr, .slice xp.a X.hd.length xp.c, .slice xp.ba X.bd.length xp.bc] 25)
  have HXI := Lib.hid (hfx.is.below hA3)
  have HX := Lib.hid hx
  clear hA3 hx hfx b1 HC1 y0 y1 y2 HR0
  go_upto_region 2 with fail
  generalize w1.alloc (.cells #[.string X.pr, .slice xp.a X.hd.length xp.c, .slice xp.ba X.bd.length xp.bc] 25) = W1 at HBx HRx HXI ⊢
  have HB1 := Lib.hid (HB.out.trans (HBx.out.mono HB.out.size))
  have HR1' := Lib.hid (HR1.out.below HBx.out)
  have y0 := HR1'.out.at (j := 0) rfl
  have y1 := HR1'.out.at (j := 1) rfl
  have y2 := HR1'.out.at (j := 2) rfl
  have HC2 := Lib.hid (canon_any d s q W1 (HT.out.below HB1.out) (tab_below HP.out HB1.out) (HSI.out.below HB1.out) HSM.out)
  obtain ⟨ib, hib⟩ : ∃ ib, errB (ruleB d s) = ib := ⟨_, rfl⟩
  rw [hib] at HC2
  have HIB := Lib.hid hib
  unfold R3.val at HC2
  clear hib
  go_wp2_with fail
  refine HC2.out.mono ?_
  rintro e w2 ⟨Y, yp, rfl, b2, hy, hfy⟩
  have hA3 := belowA (w := w2) (.cells #[.string Y.pr, .slice yp.a Y.hd.length yp.c, .slice yp.ba Y.bd.length yp.bc] 25)
  have HBy := Lib.hid (b2.trans (hA3.mono b2.size))
  have HRy := Lib.hid (rl_new w2 #[.string Y.pr, .slice yp.a Y.hd.length yp.c, .slice yp.ba Y.bd.length yp.bc] 25)
  have HYI := Lib.hid (hfy.is.below hA3)
  have HY := Lib.hid hy
  clear hA3 hy hfy b2 HC2 y0 y1 y2 HR1 HR1'
  go_upto_region 3 with fail
  generalize w2.alloc (.cells #[.string Y.pr, .slice yp.a Y.hd.length yp.c, .slice yp.ba Y.bd.length yp.bc] 25) = W2 at HBy HRy HYI ⊢
  have HB2 := Lib.hid (HB1.out.trans (HBy.out.mono HB1.out.size))
  cases ha : ruleB d r
  · have hi : ia = 40 := by rw [← HIA.out, ha]; rfl
    have HN : Hid (R = false) := by show R = _; rw [← HRR.out]; unfold alikeB; rw [ha]; rfl
    subst hi
    clear ha
    go_wp2
    go_ret
    exact ⟨by rw [HN.out]; rfl, HB2.out⟩
  · have hi : ia = 0 := by rw [← HIA.out, ha]; rfl
    subst hi
    cases hb : ruleB d s
    · have hi : ib = 40 := by rw [← HIB.out, hb]; rfl
      have HN : Hid (R = false) := by show R = _; rw [← HRR.out]; unfold alikeB; rw [ha, hb]; rfl
      subst hi
      clear ha hb
      go_wp2
      go_ret
      exact ⟨by rw [HN.out]; rfl, HB2.out⟩
    · have hi : ib = 0 := by rw [← HIB.out, hb]; rfl
      subst hi
      have HN : Hid (R = sameR dec X Y) := by show R = _; rw [← HRR.out]; unfold alikeB; rw [ha, hb, sameR_like HX.out HY.out]; rfl
      have HSR := Lib.hid (sameRuleP_any (dec := dec) d X Y xp yp W2 (HXI.out.below HBy.out) HYI.out)
      rw [← HN.out] at HSR
      have HRx' := Lib.hid (HRx.out.below HBy.out)
      have x0 := HRx'.out.at (j := 0) rfl
      have x1 := HRx'.out.at (j := 1) rfl
      have x2 := HRx'.out.at (j := 2) rfl
      have z0 := HRy.out.at (j := 0) rfl
      have z1 := HRy.out.at (j := 1) rfl
      have z2 := HRy.out.at (j := 2) rfl
      unfold R3.val at HSR
      clear ha hb
      go_wp2_with fail
      refine HSR.out.mono ?_
      rintro e w3 ⟨rfl, b3⟩
      have HB3 := Lib.hid (HB2.out.trans (b3.mono HB2.out.size))
      clear b3 x0 x1 x2 z0 z1 z2 HSR
      cases R
      all_goals
        go_wp2
        go_ret
        exact ⟨rfl, HB3.out⟩
set_option maxHeartbeats 6400000 in
set_option maxRecDepth 100000 in
theorem ralike_any (d : Nat) (r s : R3) (p q : RP) (w : World) (hR : RIs w d r p) (hS : RIs w d s q) (hr : smallR d r) (hs : smallR d s) :
    Calls Tryz.prog 11 #[r.val p, s.val q] w fun e w' => e = .returned (.bool (alikeB dec d r s)) ∧ Below w.heap.size w w' := by
  unfold R3.val
  have hA1 := belowA (w := w) (.cells #[.string r.pr, .slice p.a r.hd.length p.c, .slice p.ba r.bd.length p.bc] 25)
  have hA2 := belowA (w := (w.alloc (.cells #[.string r.pr, .slice p.a r.hd.length p.c, .slice p.ba r.bd.length p.bc] 25))) (.cells #[.string s.pr, .slice q.a s.hd.length q.c, .slice q.ba s.bd.length q.bc] 25)
  have HB := Lib.hid (hA1.trans (hA2.mono hA1.size))
  have HR0 := Lib.hid ((rl_new w #[.string r.pr, .slice p.a r.hd.length p.c, .slice p.ba r.bd.length p.bc] 25).below hA2)
  have hR1 := rl_new (w.alloc (.cells #[.string r.pr, .slice p.a r.hd.length p.c, .slice p.ba r.bd.length p.bc] 25)) #[.string s.pr, .slice q.a s.hd.length q.c, .slice q.ba s.bd.length q.bc] 25
  rw [World.size_alloc] at hR1
  have HR1 := Lib.hid hR1
  have HRI := Lib.hid hR
  have HSI := Lib.hid hS
  have HSM := Lib.hid hs
  have HRM := Lib.hid hr
  obtain ⟨R, hRR⟩ : ∃ R, alikeB dec d r s = R := ⟨_, rfl⟩
  rw [hRR]
  have HRR := Lib.hid hRR
  clear hA1 hA2 hR1 hRR hR hS hs hr
  go_enter Tryz.func11, Tryz.ntmps11
  go_upto_region 1 with fail
  generalize (w.alloc (.cells #[.string r.pr, .slice p.a r.hd.length p.c, .slice p.ba r.bd.length p.bc] 25)).alloc (.cells #[.string s.pr, .slice q.a s.hd.length q.c, .slice q.ba s.bd.length q.bc] 25) = W at HB HR0 HR1 ⊢
  have y0 := HR0.out.at (j := 0) rfl
  have y1 := HR0.out.at (j := 1) rfl
  have y2 := HR0.out.at (j := 2) rfl
  have HC1 := Lib.hid (rcanon_any d r p W (HRI.out.below HB.out) HRM.out)
  obtain ⟨ia, hia⟩ : ∃ ia, errB (ruleB d r) = ia := ⟨_, rfl⟩
  rw [hia] at HC1
  have HIA := Lib.hid hia
  unfold R3.val at HC1
  clear hia
  go_wp2_with fail
  refine HC1.out.mono ?_
  rintro e w1 ⟨X, xp, rfl, b1, hx, hfx⟩
  have hA3 := belowA (w := w1) (.cells #[.string X.pr, .slice xp.a X.hd.length xp.c, .slice xp.ba X.bd.length xp.bc] 25)
  have HBx := Lib.hid (b1.trans (hA3.mono b1.size))
  have HRx := Lib.hid (rl_new w1 #[.string X.pr, .slice xp.a X.hd.length xp.c, .slice xp.ba X.bd.length xp.bc] 25)
  have HXI := Lib.hid (hfx.is.below hA3)
  have HX := Lib.hid hx
  clear hA3 hx hfx b1 HC1 y0 y1 y2 HR0
  go_upto_region 2 with fail
  generalize w1.alloc (.cells #[.string X.pr, .slice xp.a X.hd.length xp.c, .slice xp.ba X.bd.length xp.bc] 25) = W1 at HBx HRx HXI ⊢
  have HB1 := Lib.hid (HB.out.trans (HBx.out.mono HB.out.size))
  have HR1' := Lib.hid (HR1.out.below HBx.out)
  have y0 := HR1'.out.at (j := 0) rfl
  have y1 := HR1'.out.at (j := 1) rfl
  have y2 := HR1'.out.at (j := 2) rfl
  have HC2 := Lib.hid (rcanon_any d s q W1 (HSI.out.below HB1.out) HSM.out)
  obtain ⟨ib, hib⟩ : ∃ ib, errB (ruleB d s) = ib := ⟨_, rfl⟩
  rw [hib] at HC2
  have HIB := Lib.hid hib
  unfold R3.val at HC2
  clear hib
  go_wp2_with fail
  refine HC2.out.mono ?_
  rintro e w2 ⟨Y, yp, rfl, b2, hy, hfy⟩
  have hA3 := belowA (w := w2) (.cells #[.string Y.pr, .slice yp.a Y.hd.length yp.c, .slice yp.ba Y.bd.length yp.bc] 25)
  have HBy := Lib.hid (b2.trans (hA3.mono b2.size))
  have HRy := Lib.hid (rl_new w2 #[.string Y.pr, .slice yp.a Y.hd.length yp.c, .slice yp.ba Y.bd.length yp.bc] 25)
  have HYI := Lib.hid (hfy.is.below hA3)
  have HY := Lib.hid hy
  clear hA3 hy hfy b2 HC2 y0 y1 y2 HR1 HR1'
  go_upto_region 3 with fail
  generalize w2.alloc (.cells #[.string Y.pr, .slice yp.a Y.hd.length yp.c, .slice yp.ba Y.bd.length yp.bc] 25) = W2 at HBy HRy HYI ⊢
  have HB2 := Lib.hid (HB1.out.trans (HBy.out.mono HB1.out.size))
  cases ha : ruleB d r
  · have hi : ia = 40 := by rw [← HIA.out, ha]; rfl
    have HN : Hid (R = false) := by show R = _; rw [← HRR.out]; unfold alikeB; rw [ha]; rfl
    subst hi
    clear ha
    go_wp2
    go_ret
    exact ⟨by rw [HN.out]; rfl, HB2.out⟩
  · have hi : ia = 0 := by rw [← HIA.out, ha]; rfl
    subst hi
    cases hb : ruleB d s
    · have hi : ib = 40 := by rw [← HIB.out, hb]; rfl
      have HN : Hid (R = false) := by show R = _; rw [← HRR.out]; unfold alikeB; rw [ha, hb]; rfl
      subst hi
      clear ha hb
      go_wp2
      go_ret
      exact ⟨by rw [HN.out]; rfl, HB2.out⟩
    · have hi : ib = 0 := by rw [← HIB.out, hb]; rfl
      subst hi
      have HN : Hid (R = sameR dec X Y) := by show R = _; rw [← HRR.out]; unfold alikeB; rw [ha, hb, sameR_like HX.out HY.out]; rfl
      have HSR := Lib.hid (rsameRule_any (dec := dec) d X Y xp yp W2 (HXI.out.below HBy.out) HYI.out)
      rw [← HN.out] at HSR
      have HRx' := Lib.hid (HRx.out.below HBy.out)
      have x0 := HRx'.out.at (j := 0) rfl
      have x1 := HRx'.out.at (j := 1) rfl
      have x2 := HRx'.out.at (j := 2) rfl
      have z0 := HRy.out.at (j := 0) rfl
      have z1 := HRy.out.at (j := 1) rfl
      have z2 := HRy.out.at (j := 2) rfl
      unfold R3.val at HSR
      clear ha hb
      go_wp2_with fail
      refine HSR.out.mono ?_
      rintro e w3 ⟨rfl, b3⟩
      have HB3 := Lib.hid (HB2.out.trans (b3.mono HB2.out.size))
      clear b3 x0 x1 x2 z0 z1 z2 HSR
      cases R
      all_goals
        go_wp2
        go_ret
        exact ⟨rfl, HB3.out⟩
end Go.Proofs.YtgplipfebnigiaaGreatDoor
end
