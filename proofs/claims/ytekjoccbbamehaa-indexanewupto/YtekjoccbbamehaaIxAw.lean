import Derived.Test.YtekjoccbbamehaaIxTwo
import Derived.Test.YtekjoccbbamehaaIxLives
import Derived.Test.YtekjoccbbamehaaRelNum
namespace Go.Proofs.Ytekjoccbbamehaa
open Go.RowKit Go.Maps Go.ChangeMaps
set_option linter.unusedVariables false
set_option linter.unusedSimpArgs false
attribute [local go_sem ↓] Go.wp_at_zero Go.wp_at_succ
attribute [-go_sem] loadVar

theorem bookY_ptr (t : Nat) (w : World) : (binOp .eql 27 (.pointer (some ⟨t, 0, none⟩)) (.pointer none)).run Try.prog w = .ok (.bool false) w := by kernel_rfl
theorem load_intA {w : World} {v : Value} {l : List Int} (h : IntsAt w v l) {q : Nat} (hq : q < l.length) : ∃ g off c, v = .slice (some ⟨g, off, none⟩) l.length c ∧ ∀ u, Below w.heap.size w u → (loadVar 3 ⟨g, off + q, none⟩).run Try.prog u = .ok (.int .i64 (l.getD q 0)) u := by
  obtain ⟨a, c, rfl, _, h0 | ⟨g, off, rfl, hg, hc⟩⟩ := h
  · rw [h0] at hq
    simp at hq
  · exact ⟨g, off, c, rfl, fun u hu => run_loadInt ((hu.cell (p := ⟨g, off + q, none⟩) hg).trans (hc q hq))⟩
set_option maxHeartbeats 12800000 in
set_option maxRecDepth 100000 in
theorem indexAnew_true (wd : Nat) (hwd : wd < 256) (v : Value) (l : List (List Int)) (v2 : Value) (l2 : List Int) (M : Nat) (hM : M < 4294967296) (x0 : List Int) (hx0 : RowOk x0) (w : World) (hl : Lrw w v l) (hln : l.length ≤ 1048576) (hl2 : IntsAt w v2 l2) (hln2 : l2.length ≤ 1048576) :
    Calls Try.prog 4 #[.int .u8 (wd : Int), v, v2, .int .u32 (M : Int), rowV x0] w fun e w' => e = .returned (.bool true) ∧ Below w.heap.size w w' := by
  have hA0 := belowA (w := w) (.cells (rowC x0) 34)
  have HX0 := Lib.hid (rowAt_new w x0)
  have HXO := Lib.hid hx0
  have HL := Lib.hid (hl.below hA0)
  have HL2 := Lib.hid hl2
  have HB0 := Lib.hid hA0
  obtain ⟨_, la, lc, rfl, _⟩ := hl
  obtain ⟨a2, c2, rfl, _, _⟩ := hl2
  have HLV := Lib.hid (lives11_true (w.alloc (.cells (rowC x0) 34)))
  have hW0 : (w.alloc (.cells (rowC x0) 34)).heap.size = w.heap.size + 1 := by simp
  clear hx0 hA0
  unfold rowV
  go_enter Try.func4, Try.ntmps4
  go_upto_region 1 with fail
  generalize w.alloc (.cells (rowC x0) 34) = W0 at HX0 HL HB0 HLV hW0 ⊢
  go_wp2_with fail
  refine HLV.out.mono ?_
  rintro e w1 ⟨rfl, b1⟩
  have HB1 := Lib.hid b1
  have HC : Hid (w.heap.size < w1.heap.size) := by
    have := b1.size
    show _ < _
    omega
  clear HLV b1
  go_wp2_with fail
  have hnn : ((wd : Int) % 25) = ((wd % 25 : Nat) : Int) := by omega
  have hn24 : wd % 25 ≤ 24 := by omega
  rw [hnn]
  clear hnn
  generalize wd % 25 = n at hn24 ⊢
  refine (filled_any n hn24 _ l w1 (HL.out.below HB1.out) hln).mono ?_
  rintro e w2 ⟨t, m, bk, rfl, hF⟩
  obtain ⟨sv, B, mb, hB, hrb⟩ : ∃ sv B mb, w1.heap.size ≤ B ∧ Rb w2 w1.heap.size B t m sv (fillL n l) n 0 bk mb [] := by
    obtain ⟨⟨sv, h1, h2 | ⟨B, bk', mb, e, hB, h2⟩⟩, h3⟩ := hF
    · cases h2
    · cases e
      exact ⟨sv, B, mb, hB, h2⟩
  have hrl : (fillL n l).length ≤ 1048576 := by
    have := fillL_len n l l.length (Nat.le_refl _)
    rw [List.take_length] at this
    omega
  have HAN : Hid (An w w2 w1.heap.size B w.heap.size t m bk mb n 0) := ⟨⟨[], sv, fillL n l, 0, x0, hrb, (HX0.out.below HB1.out).below (hF.bel.mono (Nat.le_refl _)), HXO.out, hrl, Nat.le_refl _⟩, (HB0.out.trans (HB1.out.mono HB0.out.size)).trans (hF.bel.mono (Nat.le_of_lt HC.out)), Nat.le_refl _, HC.out, hB, hF.bel.size⟩
  have hpt := fun u => bookY_ptr bk u
  have HLW := Lib.hid (low_any M hM n hn24 w2)
  clear hF hrb hB hrl HL HB1 HX0 HXO HB0 hW0
  go_wp2_with fail
  refine HLW.out.mono ?_
  rintro e w3 ⟨rfl, rfl⟩
  have h1 := low_lt M n hn24
  have hm1 : M % 2 ^ n < 2 ^ n := Nat.mod_lt _ (Nat.two_pow_pos n)
  have HC1 : Hid (colB ((M % 2 ^ n : Nat) : Int) n = true) := colB_low _ n hm1
  clear HLW hpt hm1
  generalize M % 2 ^ n = M1 at h1 HC1 ⊢
  generalize w1.heap.size = C at HC HAN
  clear hM
  go_wp2
  go_loopw [14] (fun iv wr => ∃ k : Nat, k ≤ l2.length + 1 ∧ iv = .int .i64 ((k : Int) - 1) ∧ Hid (An w wr C B w.heap.size t m bk mb n k)) (fun iv _ => l2.length + 1 - (intOf iv + 1).toNat)
  case atStart => exact ⟨0, by omega, rfl, HAN.out⟩
  case round =>
    clear HAN
    obtain ⟨k, hk, rfl, HI⟩ := hrel
    obtain ⟨U, rfl⟩ : ∃ U, U = wr := ⟨_, rfl⟩
    by_cases hlt : k < l2.length + 1
    · obtain rfl | ⟨q, rfl⟩ : k = 0 ∨ ∃ q, k = q + 1 := by
        cases k with
        | zero => exact .inl rfl
        | succ j => exact .inr ⟨j, rfl⟩
      · rw [show (((0 : Nat) : Int) - 1) = -1 from rfl]
        have hl1 : (-1 : Int) < (l2.length : Int) := by omega
        obtain ⟨⟨is, sv, rows, gone, x, hrb, hrx, hxo, hrl, hgn⟩, hbl, hlo⟩ := HI.out
        have HLO := Lib.hid hlo
        have HGN := Lib.hid hgn
        have HXO := Lib.hid hxo
        have h24 : x.length = 24 := hxo.len
        have HNB := Lib.hid (new_bk hrb.rel (by omega))
        have HRB := Lib.hid hrb
        have HRX := Lib.hid hrx
        have HBL := Lib.hid hbl
        clear hrb hrx hbl hlo hgn hxo HI
        go_wp2_with fail
        refine HNB.out.mono ?_
        rintro e w6 ⟨bk2, mb2, rfl, hbk, b6⟩
        have HFR := Lib.hid (Rb.made HRB.out.rel HRB.out.lo.1 hbk b6)
        have HDJ : Hid (∀ k, BX bk mb is k → ¬ BX bk2 mb2 [] k) := fun k hk hk2 => by
          have e1 := (HRB.out.bo.flt hk).2
          have e2 := (hbk.flt hk2).1
          omega
        have HRB6 := Lib.hid (HRB.out.keep b6)
        have HRX6 := Lib.hid (HRX.out.below b6)
        have HBL6 := Lib.hid (HBL.out.trans (b6.mono HBL.out.size))
        have hpt := fun u => bookY_ptr bk2 u
        have HB2 := Lib.hid (Nat.le_trans HLO.out.2.2.2 (Nat.le_refl _))
        generalize hB2 : U.heap.size = B2 at HFR
        have HBB2 : Hid (C ≤ B2) := hB2 ▸ HLO.out.2.2.2
        clear hbk b6 HNB HRB HRX HBL HB2 hB2
        have HMK := Lib.hid (masks_none HFR.out.bo)
        go_wp2_with fail
        refine HMK.out.mono ?_
        rintro e w7 ⟨rfl, b7⟩
        have HFR7 := Lib.hid (HFR.out.keep b7)
        have HRB7 := Lib.hid (HRB6.out.keep b7)
        have HRX7 := Lib.hid (HRX6.out.below b7)
        have HBL7 := Lib.hid (HBL6.out.trans (b7.mono HBL6.out.size))
        clear b7 HMK HFR HRB6 HRX6 HBL6
        have HSN := Lib.hid (seen_none HFR7.out.bo (wf_mask M1 h1) (by simp))
        go_wp2_with fail
        refine HSN.out.mono ?_
        rintro e w8 ⟨rfl, rfl⟩
        clear HSN hpt
        have l8 := run_loadRow HRX7.out h24
        have HLK := Lib.hid (HRB7.out.look2 hn24 (by omega) (wf_mask M1 h1) HC1.out HXO.out)
        unfold rowV at l8 HLK
        go_wp2_with fail
        refine HLK.out.mono ?_
        rintro e w9 ⟨is9, j9, pv, rfl, hown, hno, hA⟩
        have HRB9 := Lib.hid (HRB7.out.asked hA)
        have hot := HRB7.out.other HFR7.out HDJ.out hA
        have HFR9 := Lib.hid hot.1
        have HDJ9 := Lib.hid hot.2
        have hbw : Below B _ _ := HRB7.out.asked_below hA
        have HRX9 := Lib.hid (HRX7.out.blw (hbw.mono HLO.out.2.2.1) HLO.out.2.1)
        have HBL9 := Lib.hid (HBL7.out.trans (hbw.mono (Nat.le_trans (Nat.le_of_lt (Nat.lt_of_le_of_lt HLO.out.1 HLO.out.2.1)) HLO.out.2.2.1)))
        have HJ9 : Hid (j9 ∈ is9 ∧ j9.m = (M1 : Int) ∧ j9.seen = rows.length) := ⟨hA.mem, hA.jm, hA.js⟩
        have HPV : Hid ((w9.ownsRow _ 3 1 pv (selX (M1 : Int) rows x).length (numC (selX (M1 : Int) rows x))) ∧ ∀ k, BX bk2 mb2 [] k → pv.ownBlock ≠ some k) := ⟨hown, fun k hk e => by
          have e1 := (HFR7.out.bo.flt hk).2
          have e2 := (hown.lt k e).1
          omega⟩
        clear hown hno hA hot hbw HLK HRB7 HFR7 HDJ HRX7 HBL7 l8
        have l9 := run_loadRow HRX9.out h24
        have HLK := Lib.hid (HFR9.out.look2 hn24 (by omega) (wf_mask M1 h1) HC1.out HXO.out)
        unfold rowV at l9 HLK
        go_wp2_with fail
        refine HLK.out.mono ?_
        rintro e w10 ⟨is10, j10, qv, rfl, hown, hno, hA⟩
        have HFR10 := Lib.hid (HFR9.out.asked hA)
        have hot := HFR9.out.other HRB9.out (fun k hk hk2 => HDJ9.out k hk2 hk) hA
        have HRB10 := Lib.hid hot.1
        have HDJ10 := Lib.hid hot.2
        have hbw : Below B2 _ _ := HFR9.out.asked_below hA
        have HRX10 := Lib.hid (HRX9.out.blw (hbw.mono HBB2.out) HLO.out.2.1)
        have HBL10 := Lib.hid (HBL9.out.trans (hbw.mono (Nat.le_trans (Nat.le_of_lt (Nat.lt_of_le_of_lt HLO.out.1 HLO.out.2.1)) HBB2.out)))
        have HMS := Lib.hid hA.first
        have HSI := Lib.hid (sameInts_any (IntsAt.of_own (own_asked HPV.out.1 HPV.out.2 hA).1 (Nat.le_trans (selX_len _ _ _) (by omega))) (IntsAt.of_own hown (Nat.le_trans (selX_len _ _ _) (by omega))))
        rw [decide_eq_true rfl] at HSI
        clear hown hno hA hot hbw HLK HRB9 HFR9 HDJ9 HRX9 HBL9 l9 HPV
        go_wp2_with fail
        refine HSI.out.mono ?_
        rintro e w11 ⟨rfl, b11⟩
        have HFR11 := Lib.hid (HFR10.out.keep b11)
        have HRB11 := Lib.hid (HRB10.out.keep b11)
        have HRX11 := Lib.hid (HRX10.out.below b11)
        have HBL11 := Lib.hid (HBL10.out.trans (b11.mono HBL10.out.size))
        have HSN := Lib.hid (seen_some HRB11.out.bo (wf_mask M1 h1) HJ9.out.1 HJ9.out.2.1)
        rw [HJ9.out.2.2] at HSN
        have HLE := Lib.hid (len_yes HRB11.out.rel)
        clear HSI b11 HFR10 HRB10 HRX10 HBL10
        go_wp2_with fail
        refine HSN.out.mono ?_
        rintro e w12 ⟨rfl, rfl⟩
        go_wp2_with fail
        refine HLE.out.mono ?_
        rintro e w13 ⟨rfl, rfl⟩
        clear HSN HLE HJ9
        have HD1 := Lib.hid (HRB11.out.distinct hn24 (by omega) (wf_mask M1 h1) HC1.out)
        go_wp2_with fail
        refine HD1.out.mono ?_
        rintro e w14 ⟨is14, j14, rfl, hA⟩
        have HRB14 := Lib.hid (HRB11.out.asked hA)
        have hot := HRB11.out.other HFR11.out (fun k hk hk2 => HDJ10.out k hk2 hk) hA
        have HFR14 := Lib.hid hot.1
        have hbw : Below B _ _ := HRB11.out.asked_below hA
        have HRX14 := Lib.hid (HRX11.out.blw (hbw.mono HLO.out.2.2.1) HLO.out.2.1)
        have HBL14 := Lib.hid (HBL11.out.trans (hbw.mono (Nat.le_trans (Nat.le_of_lt (Nat.lt_of_le_of_lt HLO.out.1 HLO.out.2.1)) HLO.out.2.2.1)))
        have HDJ14 := Lib.hid hot.2
        clear hA hot hbw HD1 HRB11 HFR11 HRX11 HBL11 HDJ10
        have HD2 := Lib.hid (HFR14.out.distinct hn24 (by omega) (wf_mask M1 h1) HC1.out)
        go_wp2_with fail
        refine HD2.out.mono ?_
        rintro e w15 ⟨is15, j15, rfl, hA⟩
        have HFR15 := Lib.hid (HFR14.out.asked hA)
        have hot := HFR14.out.other HRB14.out (fun k hk hk2 => HDJ14.out k hk2 hk) hA
        have HRB15 := Lib.hid hot.1
        have hbw : Below B2 _ _ := HFR14.out.asked_below hA
        have HRX15 := Lib.hid (HRX14.out.blw (hbw.mono HBB2.out) HLO.out.2.1)
        have HBL15 := Lib.hid (HBL14.out.trans (hbw.mono (Nat.le_trans (Nat.le_of_lt (Nat.lt_of_le_of_lt HLO.out.1 HLO.out.2.1)) HBB2.out)))
        obtain ⟨j, hj1, hj2⟩ := mask_single (hA.again HMS.out)
        have hbo := HFR15.out.bo
        rw [hj1] at hbo
        have HMK := Lib.hid (masks_one hbo)
        rw [hj2] at HMK
        clear hA hot hbw HD2 HRB14 HFR14 HRX14 HBL14 HDJ14 hj1 hj2 hbo HFR15 HMS
        generalize (grpN (M1 : Int) rows rows.length).length = dn
        go_wp2_with fail
        refine HMK.out.mono ?_
        rintro e w16 ⟨g, cap, rfl, hcl, hgl, b16⟩
        have HRB16 := Lib.hid (HRB15.out.keep b16)
        have HRX16 := Lib.hid (HRX15.out.below b16)
        have HBL16 := Lib.hid (HBL15.out.trans (b16.mono HBL15.out.size))
        have HCL := Lib.hid (And.intro hcl hgl)
        clear b16 HMK HRB15 HRX15 HBL15 hcl hgl
        go_wp2_with fail
        have hA := belowA (w := w16) (.cells #[.int .u32 (M1 : Int)] 24)
        have hnc : (w16.alloc (.cells #[.int .u32 (M1 : Int)] 24)).cell? ⟨w16.heap.size, 0, none⟩ = some (.int .u32 (M1 : Int)) := by go_simp
        refine (sameMasks_one ((hA.cell (p := ⟨g, 0, none⟩) HCL.out.2).trans HCL.out.1) hnc (Nat.lt_of_lt_of_le HCL.out.2 hA.size) (by simp)).mono ?_
        rintro e w17 ⟨rfl, b17⟩
        have HN : Hid (An w w17 C B w.heap.size t m bk mb n (0 + 1)) := ⟨⟨is14, sv, rows, gone, x, (HRB16.out.keep hA).keep b17, (HRX16.out.below hA).below b17, HXO.out, hrl, by have := HGN.out; omega⟩, (HBL16.out.trans (hA.mono HBL16.out.size)).trans (b17.mono (Nat.le_trans HBL16.out.size hA.size)), HLO.out.1, HLO.out.2.1, HLO.out.2.2.1, by
          have e1 := ((HRB16.out.keep hA).keep b17).lo.1
          exact e1⟩
        clear hA hnc b17 HRB16 HRX16 HBL16 HCL HXO HLO HGN
        go_wp2
        go_roundw
        case rel => exact ⟨0 + 1, by omega, by go_num, HN.out⟩
        case measure => first | (simp [intOf]; done) | (simp [intOf]; omega)
      · rw [show (((q + 1 : Nat) : Int) - 1) = (q : Int) by omega]
        have hqt : q < l2.length := by omega
        have hl1 : (q : Int) < (l2.length : Int) := by omega
        have hq0 : (0 : Int) ≤ (q : Int) := by omega
        obtain ⟨ga, oa, ca, ea, hlz⟩ := load_intA HL2.out hqt
        cases ea
        have HLZ := Lib.hid hlz
        clear hlz
        generalize l2.getD q 0 = z at HLZ
        obtain ⟨⟨is, sv, rows, gone, x, hrb, hrx, hxo, hrl, hgn⟩, hbl, hlo⟩ := HI.out
        have HLE := Lib.hid (len_yes hrb.rel)
        have HRB := Lib.hid hrb
        have HRX := Lib.hid hrx
        have HBL := Lib.hid hbl
        have HLO := Lib.hid hlo
        have HGN := Lib.hid hgn
        have HXO := Lib.hid hxo
        clear hrb hrx hbl hlo hgn hxo HI
        go_wp2_with fail
        refine HLE.out.mono ?_
        rintro e w5 ⟨rfl, rfl⟩
        clear HLE
        go_upto_if 54 with fail
        go_cut [15] from 42 to 184 (fun _ wc => Hid (An w wc C B w.heap.size t m bk mb n (q + 1 + 1)))
        case first =>
          by_cases hpos : 0 < rows.length
          · have hpos' : (0 : Int) < (rows.length : Int) := by omega
            have hne : ¬ (rows.length : Int) = 0 := by omega
            have hne' : ¬ rows.length = 0 := by omega
            have HLEN : Hid (∀ u, Below w5.heap.size w5 u → Calls Try.prog 8 #[.pointer (some ⟨t, 0, none⟩)] u fun e w' => e = .returned (.int .i64 (rows.length : Int)) ∧ w' = u) := fun u hu => len_yes (HRB.out.keep hu).rel
            have HS : Hid (∀ u, Below w5.heap.size w5 u → Below w5.heap.size w5 u ∧ (loadVar 3 ⟨ga, oa + q, none⟩).run Try.prog u = .ok (.int .i64 z) u) := fun u hu => ⟨hu, HLZ.out u (HBL.out.trans (hu.mono HBL.out.size))⟩
            go_upto_region 12 with fail
            have hB0 : Below w5.heap.size w5 w5.drew := (Below.refl _ _).drew
            go_region_held3 (fun u => Below w5.heap.size w5 u ∧ (loadVar 3 ⟨ga, oa + q, none⟩).run Try.prog u = .ok (.int .i64 z) u)
              (first | assumption | exact HS.out _ hB0 | exact HS.out _ (by assumption))
              (first
                | (go_at_call 8; refine (HLEN.out _ (by first | exact hB0 | assumption)).mono ?_; rintro ee w6 ⟨rfl, rfl⟩)
                | fail)
            simp only [Exit.then]
            go_at_K
            have hzl : -(rows.length : Int) < z.tmod (rows.length : Int) := Int.lt_tmod_of_pos z hpos'
            have hzh : z.tmod (rows.length : Int) < (rows.length : Int) := Int.tmod_lt_of_pos z hpos'
            generalize z.tmod (rows.length : Int) = zz at hzl hzh ⊢
            have HBW : Hid (Below w5.heap.size w5 w5.drew) := hB0
            clear HS hB0 hne hne'
            generalize hV : w5.drew = V at HBW ⊢
            clear hV
            go_upto_if 63 with fail
            go_cut [15] from 42 to 184 (fun kv wc => ∃ ii : Nat, ii < rows.length ∧ kv = .int .i64 (ii : Int) ∧ Hid (Below w5.heap.size w5 wc))
            case first =>
              by_cases hz : zz < 0
              · obtain ⟨ii, hii⟩ : ∃ ii : Nat, zz + (rows.length : Int) = (ii : Int) := ⟨(zz + (rows.length : Int)).toNat, by omega⟩
                have hil : ii < rows.length := by omega
                have HLE := Lib.hid (HLEN.out _ HBW.out)
                have hwr : IntKind.i64.wrap (zz + (rows.length : Int)) = (ii : Int) := by
                  rw [hii]
                  simp [IntKind.wrap, IntKind.signed, IntKind.bits]
                  omega
                go_wp2_with fail
                refine HLE.out.mono ?_
                rintro e w6 ⟨rfl, rfl⟩
                clear hii HLE
                go_wp2_with fail
                go_meet
                exact ⟨ii, hil, by first | rfl | (rw [hwr]), HBW.out⟩
              · obtain ⟨ii, rfl⟩ : ∃ ii : Nat, zz = (ii : Int) := ⟨zz.toNat, by omega⟩
                have hil : ii < rows.length := by omega
                go_wp2_with fail
                go_meet
                exact ⟨ii, hil, rfl, HBW.out⟩
            case rest =>
              obtain ⟨ii, hil, rfl, HBX⟩ := hcut
              clear HBW hzl hzh HLEN
              obtain ⟨y, hy⟩ : ∃ y, rows[ii]? = some y := ⟨rows[ii], List.getElem?_eq_getElem hil⟩
              have HYO : Hid (RowOk y) := HRB.out.rel.ok y (List.mem_of_getElem? hy)
              have y24 : y.length = 24 := HYO.out.len
              have HRBx := Lib.hid (HRB.out.keep HBX.out)
              have HRXx := Lib.hid (HRX.out.below HBX.out)
              have HBLx := Lib.hid (HBL.out.trans (HBX.out.mono HBL.out.size))
              have HAT := Lib.hid (at_any HRBx.out.rel ii y hy (by omega))
              have HYI := Lib.hid hy
              clear HRB HRX HBL HBX hy
              go_wp2_with fail
              refine HAT.out.mono ?_
              rintro e w7 ⟨rfl, b7⟩
              have hst := store_fresh w7 y y24
              have hA := belowA (w := w7) (.cells (rowC y) 34)
              have HRY := Lib.hid (rowAt_new w7 y)
              have HYB : Hid (∀ k, k < w7.heap.size → k ≠ w7.heap.size) := fun k hk => by omega
              have HRB7 := Lib.hid (HRBx.out.keep b7)
              have HYR : Hid (w7.heap.size ≠ t ∧ w7.heap.size ≠ m ∧ sv.ownBlock ≠ some w7.heap.size) := ⟨fun e => by have := (HRB7.out.rlt (.inl e)).2; omega, fun e => by have := (HRB7.out.rlt (.inr (.inl e))).2; omega, fun e => by have := (HRB7.out.rlt (.inr (.inr e))).2; omega⟩
              have HRB8 := Lib.hid (HRB7.out.keep hA)
              have HRX8 := Lib.hid ((HRXx.out.below b7).below hA)
              have HBL8 := Lib.hid ((HBLx.out.trans (b7.mono HBLx.out.size)).trans (hA.mono (HBLx.out.trans (b7.mono HBLx.out.size)).size))
              clear hA b7 HAT HRB7 HYB HRBx HRXx HBLx
              unfold rowV
              go_upto_region 16 with fail
              generalize w7.alloc (.cells (rowC y) 34) = W7 at HRY HRB8 HRX8 HBL8 hst ⊢
              generalize w7.heap.size = yb at HRY HYR hst ⊢
              clear hst
              have hwg : IntKind.i64.wrap ((gone : Int) + 1) = (gone : Int) + 1 := by
                have := HGN.out
                simp [IntKind.wrap, IntKind.signed, IntKind.bits]
                omega
              have ly := run_loadRow HRY.out y24
              have HRM := Lib.hid (remove_yes HRB8.out.rel HRB8.out.lo.1 (by omega) y HYO.out HYI.out hwg)
              unfold rowV at ly HRM
              clear hwg
              go_wp2_with fail
              refine HRM.out.mono ?_
              rintro e w8 ⟨rfl, ⟨sv8, hR8, hloc⟩, hT⟩
              have HRB9 : Hid (Rb w8 C B t m sv8 (rows.eraseIdx ii) n ((gone + 1 : Nat) : Int) bk mb is) := HRB8.out.goes (by omega) hT hR8 (fun g hg => .inr (hloc g hg))
              have HRY9 : Hid (RowAt w8 yb y) := (hT.block yb HRY.out.lt HYR.out.1 HYR.out.2.1 HYR.out.2.2).trans HRY.out
              have HRX9 := Lib.hid (HRX8.out.blw (HRB8.out.touch_below hT) HLO.out.2.1)
              have HBL9 := Lib.hid (HBL8.out.trans ((HRB8.out.touch_below hT).mono (Nat.le_of_lt (Nat.lt_of_le_of_lt HLO.out.1 HLO.out.2.1))))
              have HYR9 : Hid (yb ≠ t ∧ yb ≠ m ∧ sv8.ownBlock ≠ some yb) := ⟨HYR.out.1, HYR.out.2.1, fun e => by
                have e1 := hloc yb e
                have e2 := HRY.out.lt
                omega⟩
              have hel : (rows.eraseIdx ii).length ≤ 1048575 := by
                rw [List.length_eraseIdx_of_lt hil]
                omega
              generalize rows.eraseIdx ii = rows9 at HRB9 hel
              clear hR8 hloc hT HRM ly HRB8 HRX8 HBL8 HRY HYR HYI
              have lz := HLZ.out _ HBL9.out
              go_upto_if 82 with fail
              go_cut [17] from 42 to 184 (fun _ wc => Hid (∃ sv' rows', Rb wc C B t m sv' rows' n ((gone + 1 : Nat) : Int) bk mb is ∧ RowAt wc yb y ∧ RowAt wc w.heap.size x ∧ rows'.length ≤ 1048576 ∧ Below w.heap.size w wc))
              case first =>
                obtain ⟨d, hd⟩ : ∃ d : Bool, (z.tmod 3 == 0) = d := ⟨_, rfl⟩
                rw [hd]
                clear hd lz
                cases d
                · have HN : Hid (∃ sv' rows', Rb w8 C B t m sv' rows' n ((gone + 1 : Nat) : Int) bk mb is ∧ RowAt w8 yb y ∧ RowAt w8 w.heap.size x ∧ rows'.length ≤ 1048576 ∧ Below w.heap.size w w8) := ⟨sv8, rows9, HRB9.out, HRY9.out, HRX9.out, by omega, HBL9.out⟩
                  clear HRB9 HRY9 HRX9 HBL9 HYR9
                  go_wp2_with fail
                  go_meet
                  exact HN
                · have ly := run_loadRow HRY9.out y24
                  have HAD := Lib.hid (add_anyT HRB9.out.rel HRB9.out.lo.1 (by omega) y HYO.out)
                  unfold rowV at ly HAD
                  go_wp2_with fail
                  refine HAD.out.mono ?_
                  rintro e w9 hcase
                  have HN : Hid ((∃ p q, e = .returned (.tuple #[p, q])) ∧ ∃ sv' rows', Rb w9 C B t m sv' rows' n ((gone + 1 : Nat) : Int) bk mb is ∧ RowAt w9 yb y ∧ RowAt w9 w.heap.size x ∧ rows'.length ≤ 1048576 ∧ Below w.heap.size w w9) := by
                    rcases hcase with ⟨-, rfl, b9⟩ | ⟨-, -, rfl, b9⟩ | ⟨-, -, rfl, hT, sv', hR, hloc⟩
                    · exact ⟨⟨_, _, rfl⟩, sv8, rows9, HRB9.out.keep b9, HRY9.out.below b9, HRX9.out.below b9, by omega, HBL9.out.trans (b9.mono HBL9.out.size)⟩
                    · exact ⟨⟨_, _, rfl⟩, sv8, rows9, HRB9.out.keep b9, HRY9.out.below b9, HRX9.out.below b9, by omega, HBL9.out.trans (b9.mono HBL9.out.size)⟩
                    · exact ⟨⟨_, _, rfl⟩, sv', rows9 ++ [y], HRB9.out.add hT hR hloc, (hT.block yb HRY9.out.lt HYR9.out.1 HYR9.out.2.1 HYR9.out.2.2).trans HRY9.out, HRX9.out.blw (HRB9.out.touch_below hT) HLO.out.2.1, by rw [List.length_append, List.length_singleton]; omega, HBL9.out.trans ((HRB9.out.touch_below hT).mono (Nat.le_of_lt (Nat.lt_of_le_of_lt HLO.out.1 HLO.out.2.1)))⟩
                  obtain ⟨⟨p1, p2, rfl⟩, hN⟩ := HN.out
                  have HN2 := Lib.hid hN
                  clear hcase HN hN ly HAD HRB9 HRY9 HRX9 HBL9 HYR9
                  go_wp2_with fail
                  go_meet
                  exact HN2
              case rest =>
                obtain ⟨sv', rows', hrb, hry, hrx, hrl', hbl⟩ := hcut.out
                have ly := run_loadRow hry y24
                have HBX' : Hid (wc.heap[w.heap.size]? = some (.cells (rowC x) 34 (0, 0))) := hrx
                have x24 : x.length = 24 := HXO.out.len
                have HN : Hid (An w (wc.setRow w.heap.size (List.map cellI y).toArray) C B w.heap.size t m bk mb n (q + 1 + 1)) := by
                  have hle := HLO.out.2.1
                  have htx : Tx (fun k => k = w.heap.size) wc (wc.setRow w.heap.size (List.map cellI y).toArray) := ⟨rfl, rfl, rfl, by simp, fun k _ hk => setRow_other wc w.heap.size k _ hk⟩
                  refine ⟨⟨is, sv', rows', gone + 1, y, hrb.but hle (Nat.lt_of_lt_of_le hle HLO.out.2.2.1) htx, setRow_heap wc w.heap.size _ _ _ (0, 0) hrx, HYO.out, hrl', by have := HGN.out; omega⟩, hbl.trans (htx.below hbl.size (fun k hk => Nat.le_of_eq hk.symm)), Nat.le_refl _, hle, HLO.out.2.2.1, Nat.le_trans hrb.lo.1 htx.size⟩
                unfold rowV at ly
                clear hcut hrb hry hrx hbl HRB9 HRY9 HRX9 HBL9 HYR9 lz
                go_wp2_with (refine wpList_storeRow _ rfl (.tmp 9) (.tmp 86) 34 rfl w.heap.size (rowC x) (List.map cellI y).toArray rfl rfl HBX'.out (by simp [infoRow, y24]) (by simp [rowC, x24, y24]) (by simp [cellI, Value.oneCell']) ?_)
                simp only [Act.put]
                go_meet
                exact HN
          · have hpos' : ¬ (0 : Int) < (rows.length : Int) := by omega
            have HN : Hid (An w w5 C B w.heap.size t m bk mb n (q + 1 + 1)) := ⟨⟨is, sv, rows, gone, x, HRB.out, HRX.out, HXO.out, hrl, by have := HGN.out; omega⟩, HBL.out, HLO.out⟩
            clear HRB HRX HXO HGN HBL HLO
            go_wp2_with fail
            go_meet
            exact HN
        case rest =>
          have HI := hcut
          clear hcut HRB HRX HBL HLO HGN HXO hrl
          obtain ⟨U, rfl⟩ : ∃ U, U = wc := ⟨_, rfl⟩
          have lz := HLZ.out _ HI.out.bel
          go_upto_if 96 with fail
          obtain ⟨d, hd⟩ : ∃ d : Bool, (z.tmod 2 == 0) = d := ⟨_, rfl⟩
          rw [hd]
          clear hd lz HLZ
          cases d
          · clear is sv rows gone x
            obtain ⟨⟨is, sv, rows, gone, x, hrb, hrx, hxo, hrl, hgn⟩, hbl, hlo⟩ := HI.out
            have HLO := Lib.hid hlo
            have HGN := Lib.hid hgn
            have HXO := Lib.hid hxo
            have h24 : x.length = 24 := hxo.len
            have HNB := Lib.hid (new_bk hrb.rel (by omega))
            have HRB := Lib.hid hrb
            have HRX := Lib.hid hrx
            have HBL := Lib.hid hbl
            clear hrb hrx hbl hlo hgn hxo HI
            go_wp2_with fail
            refine HNB.out.mono ?_
            rintro e w6 ⟨bk2, mb2, rfl, hbk, b6⟩
            have HFR := Lib.hid (Rb.made HRB.out.rel HRB.out.lo.1 hbk b6)
            have HDJ : Hid (∀ k, BX bk mb is k → ¬ BX bk2 mb2 [] k) := fun k hk hk2 => by
              have e1 := (HRB.out.bo.flt hk).2
              have e2 := (hbk.flt hk2).1
              omega
            have HRB6 := Lib.hid (HRB.out.keep b6)
            have HRX6 := Lib.hid (HRX.out.below b6)
            have HBL6 := Lib.hid (HBL.out.trans (b6.mono HBL.out.size))
            have hpt := fun u => bookY_ptr bk2 u
            have HB2 := Lib.hid (Nat.le_trans HLO.out.2.2.2 (Nat.le_refl _))
            generalize hB2 : U.heap.size = B2 at HFR
            have HBB2 : Hid (C ≤ B2) := hB2 ▸ HLO.out.2.2.2
            clear hbk b6 HNB HRB HRX HBL HB2 hB2
            have HMK := Lib.hid (masks_none HFR.out.bo)
            go_wp2_with fail
            refine HMK.out.mono ?_
            rintro e w7 ⟨rfl, b7⟩
            have HFR7 := Lib.hid (HFR.out.keep b7)
            have HRB7 := Lib.hid (HRB6.out.keep b7)
            have HRX7 := Lib.hid (HRX6.out.below b7)
            have HBL7 := Lib.hid (HBL6.out.trans (b7.mono HBL6.out.size))
            clear b7 HMK HFR HRB6 HRX6 HBL6
            have HSN := Lib.hid (seen_none HFR7.out.bo (wf_mask M1 h1) (by simp))
            go_wp2_with fail
            refine HSN.out.mono ?_
            rintro e w8 ⟨rfl, rfl⟩
            clear HSN hpt
            have l8 := run_loadRow HRX7.out h24
            have HLK := Lib.hid (HRB7.out.look2 hn24 (by omega) (wf_mask M1 h1) HC1.out HXO.out)
            unfold rowV at l8 HLK
            go_wp2_with fail
            refine HLK.out.mono ?_
            rintro e w9 ⟨is9, j9, pv, rfl, hown, hno, hA⟩
            have HRB9 := Lib.hid (HRB7.out.asked hA)
            have hot := HRB7.out.other HFR7.out HDJ.out hA
            have HFR9 := Lib.hid hot.1
            have HDJ9 := Lib.hid hot.2
            have hbw : Below B _ _ := HRB7.out.asked_below hA
            have HRX9 := Lib.hid (HRX7.out.blw (hbw.mono HLO.out.2.2.1) HLO.out.2.1)
            have HBL9 := Lib.hid (HBL7.out.trans (hbw.mono (Nat.le_trans (Nat.le_of_lt (Nat.lt_of_le_of_lt HLO.out.1 HLO.out.2.1)) HLO.out.2.2.1)))
            have HJ9 : Hid (j9 ∈ is9 ∧ j9.m = (M1 : Int) ∧ j9.seen = rows.length) := ⟨hA.mem, hA.jm, hA.js⟩
            have HPV : Hid ((w9.ownsRow _ 3 1 pv (selX (M1 : Int) rows x).length (numC (selX (M1 : Int) rows x))) ∧ ∀ k, BX bk2 mb2 [] k → pv.ownBlock ≠ some k) := ⟨hown, fun k hk e => by
              have e1 := (HFR7.out.bo.flt hk).2
              have e2 := (hown.lt k e).1
              omega⟩
            clear hown hno hA hot hbw HLK HRB7 HFR7 HDJ HRX7 HBL7 l8
            have l9 := run_loadRow HRX9.out h24
            have HLK := Lib.hid (HFR9.out.look2 hn24 (by omega) (wf_mask M1 h1) HC1.out HXO.out)
            unfold rowV at l9 HLK
            go_wp2_with fail
            refine HLK.out.mono ?_
            rintro e w10 ⟨is10, j10, qv, rfl, hown, hno, hA⟩
            have HFR10 := Lib.hid (HFR9.out.asked hA)
            have hot := HFR9.out.other HRB9.out (fun k hk hk2 => HDJ9.out k hk2 hk) hA
            have HRB10 := Lib.hid hot.1
            have HDJ10 := Lib.hid hot.2
            have hbw : Below B2 _ _ := HFR9.out.asked_below hA
            have HRX10 := Lib.hid (HRX9.out.blw (hbw.mono HBB2.out) HLO.out.2.1)
            have HBL10 := Lib.hid (HBL9.out.trans (hbw.mono (Nat.le_trans (Nat.le_of_lt (Nat.lt_of_le_of_lt HLO.out.1 HLO.out.2.1)) HBB2.out)))
            have HMS := Lib.hid hA.first
            have HSI := Lib.hid (sameInts_any (IntsAt.of_own (own_asked HPV.out.1 HPV.out.2 hA).1 (Nat.le_trans (selX_len _ _ _) (by omega))) (IntsAt.of_own hown (Nat.le_trans (selX_len _ _ _) (by omega))))
            rw [decide_eq_true rfl] at HSI
            clear hown hno hA hot hbw HLK HRB9 HFR9 HDJ9 HRX9 HBL9 l9 HPV
            go_wp2_with fail
            refine HSI.out.mono ?_
            rintro e w11 ⟨rfl, b11⟩
            have HFR11 := Lib.hid (HFR10.out.keep b11)
            have HRB11 := Lib.hid (HRB10.out.keep b11)
            have HRX11 := Lib.hid (HRX10.out.below b11)
            have HBL11 := Lib.hid (HBL10.out.trans (b11.mono HBL10.out.size))
            have HSN := Lib.hid (seen_some HRB11.out.bo (wf_mask M1 h1) HJ9.out.1 HJ9.out.2.1)
            rw [HJ9.out.2.2] at HSN
            have HLE := Lib.hid (len_yes HRB11.out.rel)
            clear HSI b11 HFR10 HRB10 HRX10 HBL10
            go_wp2_with fail
            refine HSN.out.mono ?_
            rintro e w12 ⟨rfl, rfl⟩
            go_wp2_with fail
            refine HLE.out.mono ?_
            rintro e w13 ⟨rfl, rfl⟩
            clear HSN HLE HJ9
            have HD1 := Lib.hid (HRB11.out.distinct hn24 (by omega) (wf_mask M1 h1) HC1.out)
            go_wp2_with fail
            refine HD1.out.mono ?_
            rintro e w14 ⟨is14, j14, rfl, hA⟩
            have HRB14 := Lib.hid (HRB11.out.asked hA)
            have hot := HRB11.out.other HFR11.out (fun k hk hk2 => HDJ10.out k hk2 hk) hA
            have HFR14 := Lib.hid hot.1
            have hbw : Below B _ _ := HRB11.out.asked_below hA
            have HRX14 := Lib.hid (HRX11.out.blw (hbw.mono HLO.out.2.2.1) HLO.out.2.1)
            have HBL14 := Lib.hid (HBL11.out.trans (hbw.mono (Nat.le_trans (Nat.le_of_lt (Nat.lt_of_le_of_lt HLO.out.1 HLO.out.2.1)) HLO.out.2.2.1)))
            have HDJ14 := Lib.hid hot.2
            clear hA hot hbw HD1 HRB11 HFR11 HRX11 HBL11 HDJ10
            have HD2 := Lib.hid (HFR14.out.distinct hn24 (by omega) (wf_mask M1 h1) HC1.out)
            go_wp2_with fail
            refine HD2.out.mono ?_
            rintro e w15 ⟨is15, j15, rfl, hA⟩
            have HFR15 := Lib.hid (HFR14.out.asked hA)
            have hot := HFR14.out.other HRB14.out (fun k hk hk2 => HDJ14.out k hk2 hk) hA
            have HRB15 := Lib.hid hot.1
            have hbw : Below B2 _ _ := HFR14.out.asked_below hA
            have HRX15 := Lib.hid (HRX14.out.blw (hbw.mono HBB2.out) HLO.out.2.1)
            have HBL15 := Lib.hid (HBL14.out.trans (hbw.mono (Nat.le_trans (Nat.le_of_lt (Nat.lt_of_le_of_lt HLO.out.1 HLO.out.2.1)) HBB2.out)))
            obtain ⟨j, hj1, hj2⟩ := mask_single (hA.again HMS.out)
            have hbo := HFR15.out.bo
            rw [hj1] at hbo
            have HMK := Lib.hid (masks_one hbo)
            rw [hj2] at HMK
            clear hA hot hbw HD2 HRB14 HFR14 HRX14 HBL14 HDJ14 hj1 hj2 hbo HFR15 HMS
            generalize (grpN (M1 : Int) rows rows.length).length = dn
            go_wp2_with fail
            refine HMK.out.mono ?_
            rintro e w16 ⟨g, cap, rfl, hcl, hgl, b16⟩
            have HRB16 := Lib.hid (HRB15.out.keep b16)
            have HRX16 := Lib.hid (HRX15.out.below b16)
            have HBL16 := Lib.hid (HBL15.out.trans (b16.mono HBL15.out.size))
            have HCL := Lib.hid (And.intro hcl hgl)
            clear b16 HMK HRB15 HRX15 HBL15 hcl hgl
            go_wp2_with fail
            have hA := belowA (w := w16) (.cells #[.int .u32 (M1 : Int)] 24)
            have hnc : (w16.alloc (.cells #[.int .u32 (M1 : Int)] 24)).cell? ⟨w16.heap.size, 0, none⟩ = some (.int .u32 (M1 : Int)) := by go_simp
            refine (sameMasks_one ((hA.cell (p := ⟨g, 0, none⟩) HCL.out.2).trans HCL.out.1) hnc (Nat.lt_of_lt_of_le HCL.out.2 hA.size) (by simp)).mono ?_
            rintro e w17 ⟨rfl, b17⟩
            have HN : Hid (An w w17 C B w.heap.size t m bk mb n (q + 1 + 1)) := ⟨⟨is14, sv, rows, gone, x, (HRB16.out.keep hA).keep b17, (HRX16.out.below hA).below b17, HXO.out, hrl, by have := HGN.out; omega⟩, (HBL16.out.trans (hA.mono HBL16.out.size)).trans (b17.mono (Nat.le_trans HBL16.out.size hA.size)), HLO.out.1, HLO.out.2.1, HLO.out.2.2.1, by
              have e1 := ((HRB16.out.keep hA).keep b17).lo.1
              exact e1⟩
            clear hA hnc b17 HRB16 HRX16 HBL16 HCL HXO HLO HGN
            go_wp2
            go_roundw
            case rel => exact ⟨q + 1 + 1, by omega, by go_num, HN.out⟩
            case measure => first | (simp [intOf]; done) | (simp [intOf]; omega)
          · go_wp2
            go_roundw
            case rel => exact ⟨q + 1 + 1, by omega, by go_num, HI.out⟩
            case measure => simp [intOf]; omega
    · obtain rfl : k = l2.length + 1 := by omega
      rw [show (((l2.length + 1 : Nat) : Int) - 1) = (l2.length : Int) by omega]
      have HF := Lib.hid HI.out.bel
      clear HI
      go_wp2
      go_ret
      exact ⟨rfl, HF.out⟩
end Go.Proofs.Ytekjoccbbamehaa
