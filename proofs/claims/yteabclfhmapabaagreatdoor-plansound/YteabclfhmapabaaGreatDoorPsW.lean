import Derived.Test.YteabclfhmapabaaGreatDoorPsU
import Derived.Test.YteabclfhmapabaaGreatDoorPlLv
namespace Go.Proofs.YteabclfhmapabaaGreatDoor
open Go.RowKit Go.Maps Go.Shelf
set_option linter.unusedVariables false
set_option linter.unusedSimpArgs false
attribute [local go_sem ↓] Go.wp_at_zero Go.wp_at_succ
attribute [-go_sem] loadVar
set_option maxHeartbeats 12800000 in
set_option maxRecDepth 100000 in
theorem planSound_walk (d : Nat) (r : R3) (p : RP) (first : Int) (w : World) (hG : KT w ∧ DT w) (hR : RIs w (d + 1) r p) {v : Value} {l : List ByteArray} (hl : Ls w v l.length (l.flatMap strB)) (hsz : ∀ i, i < l.length → (atS l i).size ≤ maxLen) (hfw : (Lit.int .i64 first).wf = true) :
    Calls Tryz.prog 3 #[r.val p, v, .int .i64 first] w fun e w' => e = .returned (.bool true) ∧ Below w.heap.size w w' := by
  have dec : Dec := ⟨Classical.propDecidable⟩
  obtain ⟨hKT, hDT⟩ := hG
  obtain ⟨pa, pc, pba, pbc⟩ := p
  unfold R3.val
  simp only at hR ⊢
  have hA0 := belowA (w := w) (.cells #[.string r.pr, .slice pa r.hd.length pc, .slice pba r.bd.length pbc] 25)
  have HB0 := Lib.hid hA0
  have HRL := Lib.hid (rl_new w #[.string r.pr, .slice pa r.hd.length pc, .slice pba r.bd.length pbc] 25)
  have HR := Lib.hid (hR.below hA0)
  have HK := Lib.hid (hKT.below hA0)
  have HD := Lib.hid (hDT.below hA0)
  have HL := Lib.hid (hl.below hA0)
  have HSZ := Lib.hid hsz
  obtain ⟨la, lc, rfl, hlc1, hlc2, _⟩ := ls_str hl
  unfold maxLen at hlc2
  have hld := load_ruB HRL.out
  have HBY := Lib.hid (beyondRule_any (d + 1) r ⟨pa, pc, pba, pbc⟩ _ HR.out)
  unfold R3.val at HBY
  simp only at HBY
  obtain ⟨i0, hi0, hz0, hz1, hz2⟩ := info_parts infoIntS
  obtain ⟨fs, hfs⟩ := lim_ex (eqL (d + 1) r.bd) (atN r.bd) (eqL_ok _ _)
  have HFS := Lib.hid hfs
  clear hKT hDT hR hl hsz hA0 hfs hfw
  go_enter Tryz.func3, Tryz.ntmps3
  go_wp2_with fail
  refine HBY.out.mono ?_
  clear hld HBY
  obtain ⟨W, hW⟩ : ∃ W, W = w.alloc (.cells #[.string r.pr, .slice pa r.hd.length pc, .slice pba r.bd.length pbc] 25) := ⟨_, rfl⟩
  rw [← hW] at HR HB0 HRL HK HD HL ⊢
  clear hW
  rintro e w1 ⟨b, rfl, b1, hsm⟩
  cases b
  case true =>
    have HF := Lib.hid (HB0.out.trans (b1.mono HB0.out.size))
    clear b1 hsm
    go_wp2
    go_ret
    exact ⟨rfl, HF.out⟩
  case false =>
  have HSM := Lib.hid (hsm rfl)
  have l1 := load_ruB (RL.below HRL.out b1)
  have HB1 := Lib.hid b1
  have HM1 := Lib.hid (makeS_any d r ⟨pa, pc, pba, pbc⟩ w1 (HK.out.below b1) (HD.out.below b1) (HR.out.below b1) HSM.out HSM.out.terms (HL.out.below b1) HSZ.out first)
  unfold R3.val at HM1
  simp only at HM1
  clear b1 hsm
  go_wp2_with fail
  refine HM1.out.mono ?_
  rintro e w2 ⟨b2, pr1, ra1, rn1, rc1, ba1, bn1, bc1, sa1, sn1, sc1, er, rfl, hC⟩
  have HB2 : Hid (Below W.heap.size W w2) := HB1.out.trans (b2.mono HB1.out.size)
  have HC := Lib.hid hC
  clear hC b2 HM1 l1 HB1
  have hAP := belowA (w := w2) (.cells #[.string pr1, .slice ra1 rn1 rc1, .slice ba1 bn1 bc1, .slice sa1 sn1 sc1] 30)
  have HAP := Lib.hid hAP
  have HPL := Lib.hid (rl_new w2 #[.string pr1, .slice ra1 rn1 rc1, .slice ba1 bn1 bc1, .slice sa1 sn1 sc1] 30)
  have HBP : Hid (Below W.heap.size W (w2.alloc (.cells #[.string pr1, .slice ra1 rn1 rc1, .slice ba1 bn1 bc1, .slice sa1 sn1 sc1] 30))) := HB2.out.trans (hAP.mono HB2.out.size)
  have l2 := load_ruB (RL.below HRL.out HBP.out)
  have HM2 := Lib.hid (makeS_any d r ⟨pa, pc, pba, pbc⟩ _ (HK.out.below HBP.out) (HD.out.below HBP.out) (HR.out.below HBP.out) HSM.out HSM.out.terms (lsNil _) sz0 (-1))
  unfold R3.val at HM2
  simp only at HM2
  clear hAP HB2
  go_wp2_with fail
  refine HM2.out.mono ?_
  generalize hW2 : w2.alloc (.cells #[.string pr1, .slice ra1 rn1 rc1, .slice ba1 bn1 bc1, .slice sa1 sn1 sc1] 30) = W2 at HAP HPL HBP l2 ⊢
  clear hW2 l2 HM2
  rintro e w3 ⟨b3, pr2, ra2, rn2, rc2, ba2, bn2, bc2, sa2, sn2, sc2, er2, rfl, hC2⟩
  obtain ⟨fe, hfe⟩ : ∃ fe, ruE (d + 1) r fs = fe := ⟨_, rfl⟩
  have he2 := mkC_nil hC2 HFS.out
  rw [hfe] at he2
  subst he2
  have HFE := Lib.hid hfe
  clear hC2 hfe
  have hAQ := belowA (w := w3) (.cells #[.string pr2, .slice ra2 rn2 rc2, .slice ba2 bn2 bc2, .slice sa2 sn2 sc2] 30)
  have HB3 : Hid (Below W2.heap.size W2 (w3.alloc (.cells #[.string pr2, .slice ra2 rn2 rc2, .slice ba2 bn2 bc2, .slice sa2 sn2 sc2] 30))) := b3.trans (hAQ.mono b3.size)
  have HBQ : Hid (Below W.heap.size W (w3.alloc (.cells #[.string pr2, .slice ra2 rn2 rc2, .slice ba2 bn2 bc2, .slice sa2 sn2 sc2] 30))) := HBP.out.trans (HB3.out.mono HBP.out.size)
  have l3 := load_ruB (RL.below HRL.out HBQ.out)
  have HCK : Hid (∀ u, Below W.heap.size W u → Calls Tryz.prog 6 #[.agg #[.string r.pr, .slice pa r.hd.length pc, .slice pba r.bd.length pbc]] u fun e u' => e = .returned (.int .i64 er2) ∧ Below u.heap.size u u') := fun u hu => by
    have := ckRule_any d r ⟨pa, pc, pba, pbc⟩ u (HK.out.below hu) (HR.out.below hu) HSM.out fs HFS.out
    rw [HFE.out] at this
    exact this
  have HCQ := Lib.hid (HCK.out _ HBQ.out)
  clear b3 hAQ
  go_wp2_with fail
  refine HCQ.out.mono ?_
  generalize hW3 : w3.alloc (.cells #[.string pr2, .slice ra2 rn2 rc2, .slice ba2 bn2 bc2, .slice sa2 sn2 sc2] 30) = W3 at HB3 HBQ l3 ⊢
  clear hW3 l3 HCQ
  rintro e w4 ⟨rfl, b4⟩
  have HB4 : Hid (Below W.heap.size W w4) := HBQ.out.trans (b4.mono HBQ.out.size)
  have HB24 : Hid (Below W2.heap.size W2 w4) := HB3.out.trans (b4.mono HB3.out.size)
  have l4 := load_ruB (RL.below HRL.out HB4.out)
  clear b4 HBQ HB3
  have hC := HC.out
  clear HC
  unfold MkC at hC
  rcases hC with ⟨rfl, hrb⟩ | ⟨rfl, hrb, hkn⟩ | ⟨rfl, hrb, hkn, f1, hlk, hne⟩ | ⟨rfl, hrb, hkn, hfn, hia⟩ | ⟨rfl, y, q, xs, rfl, rfl, rfl, rfl, rfl, rfl, rfl, rfl, hY⟩
  · obtain rfl : er2 = 40 := HFE.out.symm.trans (ru_no fs hrb)
    have HC4 := Lib.hid (HCK.out w4 HB4.out)
    clear hrb
    go_wp2_with fail
    refine HC4.out.mono ?_
    rintro e w5 ⟨rfl, b5⟩
    have HB5 : Hid (Below W.heap.size W w5) := HB4.out.trans (b5.mono HB4.out.size)
    clear b5 HC4 l4
    have HLV := Lib.hid (lives12_any (HK.out.below HB5.out) (HD.out.below HB5.out))
    go_wp2_with fail
    refine HLV.out.mono ?_
    rintro e w6 ⟨rfl, b6⟩
    have HF := Lib.hid (HB0.out.trans ((HB5.out.trans (b6.mono HB5.out.size)).mono HB0.out.size))
    clear b6 HLV
    go_wp2
    go_ret
    exact ⟨rfl, HF.out⟩
  · skip
    have HTW : Hid (Calls Tryz.prog 8 #[.slice la l.length lc] w4 fun e w' => e = .returned (.bool true) ∧ Below w4.heap.size w4 w') := (twice_any (HL.out.below HB4.out) HSZ.out).mono (by
      rintro e w' ⟨rfl, b⟩
      exact ⟨by rw [hkn]; rfl, b⟩)
    clear hrb hkn
    go_wp2_with fail
    refine HTW.out.mono ?_
    rintro e w5 ⟨rfl, b5⟩
    have HB5 : Hid (Below W.heap.size W w5) := HB4.out.trans (b5.mono HB4.out.size)
    have l5 := load_litsY (RL.at (RL.below HRL.out HB5.out) (j := 2) rfl)
    clear b5 HTW l4
    rcases first_cs (l := r.bd) first with hf | ⟨hf, hf2⟩ | rfl | ⟨k, rfl, hk⟩
    · clear l5
      have HLV := Lib.hid (lives12_any (HK.out.below HB5.out) (HD.out.below HB5.out))
      go_wp2_with fail
      refine HLV.out.mono ?_
      rintro e w6 ⟨rfl, b6⟩
      have HF := Lib.hid (HB0.out.trans ((HB5.out.trans (b6.mono HB5.out.size)).mono HB0.out.size))
      clear b6 HLV
      go_wp2
      go_ret
      exact ⟨rfl, HF.out⟩
    · skip
      have HLV := Lib.hid (lives12_any (HK.out.below HB5.out) (HD.out.below HB5.out))
      go_wp2_with fail
      refine HLV.out.mono ?_
      rintro e w6 ⟨rfl, b6⟩
      have HF := Lib.hid (HB0.out.trans ((HB5.out.trans (b6.mono HB5.out.size)).mono HB0.out.size))
      clear b6 HLV
      go_wp2
      go_ret
      exact ⟨rfl, HF.out⟩
    · have hf : ¬ (r.bd.length : Int) ≤ -1 := by omega
      have HLV := Lib.hid (lives12_any (HK.out.below HB5.out) (HD.out.below HB5.out))
      go_wp2_with fail
      refine HLV.out.mono ?_
      rintro e w6 ⟨rfl, b6⟩
      have HF := Lib.hid (HB0.out.trans ((HB5.out.trans (b6.mono HB5.out.size)).mono HB0.out.size))
      clear b6 HLV
      go_wp2
      go_ret
      exact ⟨rfl, HF.out⟩
    · have hf1 : ¬ (k : Int) < -1 := by omega
      have hf2 : ¬ (r.bd.length : Int) ≤ (k : Int) := by omega
      have hf3 : (0 : Int) ≤ (k : Int) := by omega
      have hf4 : (k : Int) < (r.bd.length : Int) := by omega
      obtain ⟨a2, c2, hac2, hd1, hd2, hat2⟩ := HR.out.bd.form
      injection hac2 with e4 e5 e6
      obtain ⟨g2, o2, hga, hg2, hr2⟩ := hat2 (by omega)
      have lk := load_kindK ((range_below (hr2 k hk) HB5.out hg2) 0 _ rfl)
      rw [Nat.add_zero] at lk
      have hpb : pba = some ⟨g2, o2, none⟩ := e4.trans hga
      clear hat2 hr2 e5 e6 hd1 hd2
      generalize (atL r.bd k).x.k = kd at lk
      clear hga e4
      subst hpb
      by_cases hkd : kd = 1
      · subst hkd
        have HLV := Lib.hid (lives12_any (HK.out.below HB5.out) (HD.out.below HB5.out))
        go_wp2_with fail
        refine HLV.out.mono ?_
        rintro e w6 ⟨rfl, b6⟩
        have HF := Lib.hid (HB0.out.trans ((HB5.out.trans (b6.mono HB5.out.size)).mono HB0.out.size))
        clear b6 HLV
        go_wp2
        go_ret
        exact ⟨rfl, HF.out⟩
      · have hx1 : (kd == 1) = false := by rw [beq_eq_false_iff_ne]; exact hkd
        have hx2 : (kd != 1) = true := by rw [bne_iff_ne]; exact hkd
        clear hkd
        have HLV := Lib.hid (lives12_any (HK.out.below HB5.out) (HD.out.below HB5.out))
        go_wp2_with fail
        refine HLV.out.mono ?_
        rintro e w6 ⟨rfl, b6⟩
        have HF := Lib.hid (HB0.out.trans ((HB5.out.trans (b6.mono HB5.out.size)).mono HB0.out.size))
        clear b6 HLV
        go_wp2
        go_ret
        exact ⟨rfl, HF.out⟩
  · skip
    obtain rfl : er2 = 73 := HFE.out.symm.trans (ru_73 HFS.out hrb hlk hne)
    have HTW : Hid (Calls Tryz.prog 8 #[.slice la l.length lc] w4 fun e w' => e = .returned (.bool false) ∧ Below w4.heap.size w4 w') := (twice_any (HL.out.below HB4.out) HSZ.out).mono (by
      rintro e w' ⟨rfl, b⟩
      exact ⟨by rw [hkn]; rfl, b⟩)
    clear hrb hkn hlk hne
    go_wp2_with fail
    refine HTW.out.mono ?_
    rintro e w5 ⟨rfl, b5⟩
    have HB5 : Hid (Below W.heap.size W w5) := HB4.out.trans (b5.mono HB4.out.size)
    have l5 := load_litsY (RL.at (RL.below HRL.out HB5.out) (j := 2) rfl)
    clear b5 HTW l4
    rcases first_cs (l := r.bd) first with hf | ⟨hf, hf2⟩ | rfl | ⟨k, rfl, hk⟩
    · clear l5
      have HLV := Lib.hid (lives12_any (HK.out.below HB5.out) (HD.out.below HB5.out))
      go_wp2_with fail
      refine HLV.out.mono ?_
      rintro e w6 ⟨rfl, b6⟩
      have HF := Lib.hid (HB0.out.trans ((HB5.out.trans (b6.mono HB5.out.size)).mono HB0.out.size))
      clear b6 HLV
      go_wp2
      go_ret
      exact ⟨rfl, HF.out⟩
    · skip
      have HLV := Lib.hid (lives12_any (HK.out.below HB5.out) (HD.out.below HB5.out))
      go_wp2_with fail
      refine HLV.out.mono ?_
      rintro e w6 ⟨rfl, b6⟩
      have HF := Lib.hid (HB0.out.trans ((HB5.out.trans (b6.mono HB5.out.size)).mono HB0.out.size))
      clear b6 HLV
      go_wp2
      go_ret
      exact ⟨rfl, HF.out⟩
    · have hf : ¬ (r.bd.length : Int) ≤ -1 := by omega
      have HLV := Lib.hid (lives12_any (HK.out.below HB5.out) (HD.out.below HB5.out))
      go_wp2_with fail
      refine HLV.out.mono ?_
      rintro e w6 ⟨rfl, b6⟩
      have HF := Lib.hid (HB0.out.trans ((HB5.out.trans (b6.mono HB5.out.size)).mono HB0.out.size))
      clear b6 HLV
      go_wp2
      go_ret
      exact ⟨rfl, HF.out⟩
    · have hf1 : ¬ (k : Int) < -1 := by omega
      have hf2 : ¬ (r.bd.length : Int) ≤ (k : Int) := by omega
      have hf3 : (0 : Int) ≤ (k : Int) := by omega
      have hf4 : (k : Int) < (r.bd.length : Int) := by omega
      obtain ⟨a2, c2, hac2, hd1, hd2, hat2⟩ := HR.out.bd.form
      injection hac2 with e4 e5 e6
      obtain ⟨g2, o2, hga, hg2, hr2⟩ := hat2 (by omega)
      have lk := load_kindK ((range_below (hr2 k hk) HB5.out hg2) 0 _ rfl)
      rw [Nat.add_zero] at lk
      have hpb : pba = some ⟨g2, o2, none⟩ := e4.trans hga
      clear hat2 hr2 e5 e6 hd1 hd2
      generalize (atL r.bd k).x.k = kd at lk
      clear hga e4
      subst hpb
      by_cases hkd : kd = 1
      · subst hkd
        have HLV := Lib.hid (lives12_any (HK.out.below HB5.out) (HD.out.below HB5.out))
        go_wp2_with fail
        refine HLV.out.mono ?_
        rintro e w6 ⟨rfl, b6⟩
        have HF := Lib.hid (HB0.out.trans ((HB5.out.trans (b6.mono HB5.out.size)).mono HB0.out.size))
        clear b6 HLV
        go_wp2
        go_ret
        exact ⟨rfl, HF.out⟩
      · have hx1 : (kd == 1) = false := by rw [beq_eq_false_iff_ne]; exact hkd
        have hx2 : (kd != 1) = true := by rw [bne_iff_ne]; exact hkd
        clear hkd
        have HLV := Lib.hid (lives12_any (HK.out.below HB5.out) (HD.out.below HB5.out))
        go_wp2_with fail
        refine HLV.out.mono ?_
        rintro e w6 ⟨rfl, b6⟩
        have HF := Lib.hid (HB0.out.trans ((HB5.out.trans (b6.mono HB5.out.size)).mono HB0.out.size))
        clear b6 HLV
        go_wp2
        go_ret
        exact ⟨rfl, HF.out⟩
  · skip
    have HTW : Hid (Calls Tryz.prog 8 #[.slice la l.length lc] w4 fun e w' => e = .returned (.bool false) ∧ Below w4.heap.size w4 w') := (twice_any (HL.out.below HB4.out) HSZ.out).mono (by
      rintro e w' ⟨rfl, b⟩
      exact ⟨by rw [hkn]; rfl, b⟩)
    clear hrb hkn
    go_wp2_with fail
    refine HTW.out.mono ?_
    rintro e w5 ⟨rfl, b5⟩
    have HB5 : Hid (Below W.heap.size W w5) := HB4.out.trans (b5.mono HB4.out.size)
    have l5 := load_litsY (RL.at (RL.below HRL.out HB5.out) (j := 2) rfl)
    clear b5 HTW l4
    rcases first_cs (l := r.bd) first with hf | ⟨hf, hf2⟩ | rfl | ⟨k, rfl, hk⟩
    · clear l5
      clear hfn hia
      have HLV := Lib.hid (lives12_any (HK.out.below HB5.out) (HD.out.below HB5.out))
      go_wp2_with fail
      refine HLV.out.mono ?_
      rintro e w6 ⟨rfl, b6⟩
      have HF := Lib.hid (HB0.out.trans ((HB5.out.trans (b6.mono HB5.out.size)).mono HB0.out.size))
      clear b6 HLV
      go_wp2
      go_ret
      exact ⟨rfl, HF.out⟩
    · skip
      clear hfn hia
      have HLV := Lib.hid (lives12_any (HK.out.below HB5.out) (HD.out.below HB5.out))
      go_wp2_with fail
      refine HLV.out.mono ?_
      rintro e w6 ⟨rfl, b6⟩
      have HF := Lib.hid (HB0.out.trans ((HB5.out.trans (b6.mono HB5.out.size)).mono HB0.out.size))
      clear b6 HLV
      go_wp2
      go_ret
      exact ⟨rfl, HF.out⟩
    · exact absurd rfl hfn
    · have hf1 : ¬ (k : Int) < -1 := by omega
      have hf2 : ¬ (r.bd.length : Int) ≤ (k : Int) := by omega
      have hf3 : (0 : Int) ≤ (k : Int) := by omega
      have hf4 : (k : Int) < (r.bd.length : Int) := by omega
      obtain ⟨a2, c2, hac2, hd1, hd2, hat2⟩ := HR.out.bd.form
      injection hac2 with e4 e5 e6
      obtain ⟨g2, o2, hga, hg2, hr2⟩ := hat2 (by omega)
      have lk := load_kindK ((range_below (hr2 k hk) HB5.out hg2) 0 _ rfl)
      rw [Nat.add_zero] at lk
      have hpb : pba = some ⟨g2, o2, none⟩ := e4.trans hga
      clear hat2 hr2 e5 e6 hd1 hd2
      have hkd := isAt_k hk hia
      generalize (atL r.bd k).x.k = kd at lk hkd
      have hx1 : (kd == 1) = false := by rw [beq_eq_false_iff_ne]; exact hkd
      have hx2 : (kd != 1) = true := by rw [bne_iff_ne]; exact hkd
      clear hkd hfn hia hga e4
      subst hpb
      have HLV := Lib.hid (lives12_any (HK.out.below HB5.out) (HD.out.below HB5.out))
      go_wp2_with fail
      refine HLV.out.mono ?_
      rintro e w6 ⟨rfl, b6⟩
      have HF := Lib.hid (HB0.out.trans ((HB5.out.trans (b6.mono HB5.out.size)).mono HB0.out.size))
      clear b6 HLV
      go_wp2
      go_ret
      exact ⟨rfl, HF.out⟩
  · obtain ⟨qa, qc, qba, qbc⟩ := q
    simp only at HPL HCK HB24 HAP hY ⊢
    have HY4 := Lib.hid ((hY.below HAP.out).below HB24.out)
    have HNN := Lib.hid (And.intro hY.nd (And.intro hY.ps hY.fst))
    have hlen := hY.len
    have hl16 := bodyN_y hY.rb
    have l5 := load_PlP (RL.below HPL.out HB24.out) rfl
    have HRT := Lib.hid (right_y HY4.out (HK.out.below HB4.out) HSM.out HSM.out.terms (HL.out.below HB4.out) HSZ.out)
    simp only at HRT
    have hn1 : ((xs.length : Int) != (r.bd.length : Int)) = false := by rw [bne_eq_false_iff_eq, hlen]
    have hn2 : (xs.length != r.bd.length) = false := by rw [bne_eq_false_iff_eq, hlen]
    have hx16 : xs.length ≤ 16 := by omega
    clear hY hlen hl16 HAP HCK l4
    go_wp2_with fail
    refine HRT.out.mono ?_
    rintro e w5 ⟨rfl, b5⟩
    have HB5 : Hid (Below W.heap.size W w5) := HB4.out.trans (b5.mono HB4.out.size)
    have HB25 : Hid (Below W2.heap.size W2 w5) := HB24.out.trans (b5.mono HB24.out.size)
    have HY5 := Lib.hid (HY4.out.below b5)
    have l6 := load_stsP (RL.at (RL.below HPL.out HB25.out) (j := 3) rfl)
    have l7 := load_litsY (RL.at (RL.below HRL.out HB5.out) (j := 2) rfl)
    have l8 := load_ruPl (RL.below HPL.out HB25.out)
    have l9 := load_ruB (RL.below HRL.out HB5.out)
    have HSR : Hid (Calls Tryz.prog 10 #[.agg #[.string y.pr, .slice qa y.hd.length qc, .slice qba y.bd.length qbc], .agg #[.string r.pr, .slice pa r.hd.length pc, .slice pba r.bd.length pbc]] w5 fun e w' => e = .returned (.bool true) ∧ Below w5.heap.size w5 w') := by
      have := sameRule_any (dec := dec) (d + 1) y r ⟨qa, qc, qba, qbc⟩ ⟨pa, pc, pba, pbc⟩ w5 HY5.out.ri (HR.out.below HB5.out)
      rw [like_sameR HY5.out.lk] at this
      exact this
    clear b5 HB24 HB4 HY4 l5 HRT
    go_wp2_with fail
    refine HSR.out.mono ?_
    rintro e w6 ⟨rfl, b6⟩
    have HB6 : Hid (Below W.heap.size W w6) := HB5.out.trans (b6.mono HB5.out.size)
    have HPL6 := Lib.hid (RL.below HPL.out (HB25.out.trans (b6.mono HB25.out.size)))
    have HZ6 := Lib.hid (HY5.out.lz.below b6)
    obtain ⟨sa', sc', hac, hz1c, hz2c, hat⟩ := HZ6.out.form
    injection hac with e1 e2 e3
    subst e1 e3
    have HAT := Lib.hid hat
    unfold maxLen at hz2c
    clear b6 HB25 HB5 HY5 l6 l7 l8 l9 HSR hat e2 hn1 hn2 HPL HZ6
    go_wp2
    go_loopw [12, 13, 14] (fun sv i _ wr => ∃ (j : Nat) (ga : Option Addr) (gc : Nat), j ≤ xs.length ∧ i = .int .i64 j ∧ sv = .slice ga j gc ∧ Hid (wr.ownsRow w6.heap.size 3 1 (.slice ga j gc) j ((xs.take j).map sI)) ∧ Hid (Below w6.heap.size w6 wr)) (fun _ i _ _ => xs.length - (intOf i).toNat)
    case atStart => exact ⟨0, none, 0, Nat.zero_le _, rfl, rfl, by rw [List.take_zero]; exact World.ownsRow_nil _ _ _ _, Below.refl _ _⟩
    case round =>
      obtain ⟨j, ga, gc, hj, rfl, rfl, HO, HBX⟩ := hrel
      obtain ⟨X, rfl⟩ : ∃ X, X = wr := ⟨_, rfl⟩
      have ls := load_stsP (RL.at (RL.below HPL6.out HBX.out) (j := 3) rfl)
      have HXS := Lib.hid (seen_form HO.out hj)
      by_cases hlt : j < xs.length
      · have hlt' : (j : Int) < (xs.length : Int) := by omega
        have hj0 : (0 : Int) ≤ (j : Int) := by omega
        obtain ⟨g2, o2, rfl, hg2, hr2⟩ := HAT.out (by omega)
        have HRJ := Lib.hid (range_below (hr2 j hlt) HBX.out hg2)
        have HGX : Hid (g2 < X.heap.size) := Nat.lt_of_lt_of_le hg2 HBX.out.size
        have HPX := Lib.hid (RL.below HPL6.out HBX.out)
        have HNE : Hid (∀ m, m < j → ¬ (atZ xs m).s.i = (atZ xs j).s.i) := fun m hm => nd_ne HNN.out.1 HNN.out.2.1 hm hlt
        have HTK := Lib.hid (take_sI hlt)
        clear hr2 hg2
        have e0 : (atZ xs j).cells = [.int .i8 (atZ xs j).s.k, .int .i64 (atZ xs j).s.i, .int .u32 (atZ xs j).s.m, .slice (atZ xs j).a (atZ xs j).s.g.length (atZ xs j).c] := rfl
        rw [e0] at HRJ
        clear e0
        generalize atZ xs j = z at HRJ HNE HTK
        go_wp2
        go_loopw [14] (fun i u => ∃ m : Nat, m ≤ j ∧ i = .int .i64 m ∧ Hid (Below X.heap.size X u)) (fun i _ => j - (intOf i).toNat)
        case atStart => exact ⟨0, Nat.zero_le _, rfl, Below.refl _ _⟩
        case round =>
          obtain ⟨m, hm, rfl, HBU⟩ := hrel
          by_cases hlm : m < j
          · have hlm' : (m : Int) < (j : Int) := by omega
            have hm0 : (0 : Int) ≤ (m : Int) := by omega
            obtain ⟨g1, o1, rfl, hg1, hc1⟩ := HXS.out (by omega)
            have HLA := Lib.hid (load_intP (((HBU.out.drew).cell (p := ⟨g1, o1 + m, none⟩) hg1).trans (hc1 m hlm)))
            have HLB := Lib.hid (load_stsP (RL.at (RL.below HPX.out HBU.out.drew) (j := 3) rfl))
            have HLC := Lib.hid (load_intP ((range_below HRJ.out HBU.out.drew HGX.out) 1 _ rfl))
            have HEQ := Lib.hid (eqlI_run (HNE.out m hlm))
            clear hc1 hg1 ls
            generalize (atZ xs m).s.i = xi at HLA HEQ
            go_upto_region 23 with fail
            refine wp_region_noPanic ?_
            refine wp_region_held (S := fun v => v = wr.drew) (by kernel_rfl) ?_
            refine psu23 (w5 := wr) (S := fun v => v = wr.drew) (b7 := w2.heap.size) (g1 := g1) (f1 := o1) (k := j) (c1 := gc) (m := m) (g2 := g2) (f2 := o2) (n := xs.length) (c2 := sc1) (j := j) (x := xi) (y := z.s.i) rfl rfl rfl rfl rfl rfl rfl rfl rfl rfl rfl (by kernel_rfl) (by kernel_rfl) (by kernel_rfl) (by intros; assumption) (by simp) rfl rfl rfl rfl rfl hlm hlt (fun v hv => by rw [hv]; exact HLA.out) (fun v hv => by rw [hv]; exact HLB.out) (fun v hv => by rw [hv]; exact HLC.out) HEQ.out ?_
            rintro wc rfl
            refine NoPanic.normal ?_
            rename_i hK1 hK2
            first | refine hK2 _ _ ?_ | refine hK1 _ _ ?_
            simp (config := { maxSteps := 8000000 }) only [Act.put, List.getElem_toArray, List.getElem_cons_zero, List.getElem_cons_succ, List.setIfInBounds_toArray, List.set_cons_succ, List.set_cons_zero]
            have HBV : Hid (Below X.heap.size X wr.drew) := HBU.out.drew
            clear hK1 hK2 HLA HLB HLC HEQ HBU
            go_wp2
            go_roundw
            case rel => exact ⟨m + 1, by omega, by go_num, HBV⟩
            case measure => simp [intOf]; omega
          · have hmj : ((m : Nat) : Int) = (j : Int) := by omega
            have hnl : ¬ (m : Int) < (j : Int) := by omega
            have lsw := load_stsP (RL.at (RL.below HPX.out HBU.out) (j := 3) rfl)
            have lz := load_intP ((range_below HRJ.out HBU.out HGX.out) 1 _ rfl)
            have HOU := Lib.hid (own_below HO.out HBU.out)
            clear hmj ls
            generalize z.s.i = zi at lz HTK
            have hzw : w6.heap.size ≤ wr.heap.size := Nat.le_trans HBX.out.size HBU.out.size
            have HBW : Hid (Below w6.heap.size w6 wr) := HBX.out.trans (HBU.out.mono HBX.out.size)
            go_wp2_with (at_builtin; refine wpList_append_own_at _ rfl _ _ 56 rfl w6.heap.size 3 i0 _ 1 8 Tryz.underlying56 hi0 hz0 hz1 hz2 rfl (by decide) _ _ _ rfl (own_below HOU.out (belowA _)) ⟨_, 0, none⟩ 1 1 [.int .i64 zi] rfl rfl (lit_news _ #[.int .i64 zi] _) (by simp [Value.oneCell']) (by unfold maxLen; omega) (by omega) (by simp; omega) ?_; intro v7 w7 own7 hg7 hn7 hl7)
            obtain ⟨a7, c7, rfl, _⟩ := own_form own7
            have HB7 : Hid (Below w6.heap.size w6 w7) := (HBW.out.trans ((belowA _).mono hzw)).grown hg7 (by simp; omega) (fun i hi => (HOU.out.lt i hi).1)
            have HO7 : Hid (w7.ownsRow w6.heap.size 3 1 (.slice a7 (j + 1) c7) (j + 1) ((xs.take (j + 1)).map sI)) := by
              show World.ownsRow _ _ _ _ _ _ _
              rw [HTK.out]
              exact own7
            clear own7 hg7 hn7 hl7 lsw lz HOU HBW hzw
            go_roundw
            case rel => exact ⟨j + 1, a7, c7, by omega, by go_num, rfl, HO7, HB7⟩
            case measure => simp [intOf]; omega
      · obtain rfl : j = xs.length := by omega
        have hF := HNN.out.2.2
        have HB7 : Hid (Below W.heap.size W X) := HB6.out.trans (HBX.out.mono HB6.out.size)
        have HLV := Lib.hid (lives12_any (HK.out.below HB7.out) (HD.out.below HB7.out))
        rcases hF with rfl | ⟨hf0, hf1, hf2⟩
        · go_wp2_with fail
          refine HLV.out.mono ?_
          rintro e w8 ⟨rfl, b8⟩
          have HF := Lib.hid (HB0.out.trans ((HB7.out.trans (b8.mono HB7.out.size)).mono HB0.out.size))
          clear b8 HLV
          go_wp2
          go_ret
          exact ⟨rfl, HF.out⟩
        · have hf3 : ¬ first < 0 := by omega
          have hf4 : (0 : Int) < (xs.length : Int) := by omega
          obtain ⟨g1, o1, rfl, hg1, hc1⟩ := HXS.out hf1
          have lz := load_intP (hc1 0 hf1)
          rw [hf2, Nat.add_zero] at lz
          clear hc1 hg1 hf2
          go_wp2_with fail
          refine HLV.out.mono ?_
          rintro e w8 ⟨rfl, b8⟩
          have HF := Lib.hid (HB0.out.trans ((HB7.out.trans (b8.mono HB7.out.size)).mono HB0.out.size))
          clear b8 HLV
          go_wp2
          go_ret
          exact ⟨rfl, HF.out⟩
end Go.Proofs.YteabclfhmapabaaGreatDoor
