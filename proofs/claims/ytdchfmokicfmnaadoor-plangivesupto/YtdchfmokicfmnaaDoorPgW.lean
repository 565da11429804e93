import Derived.Test.YtdchfmokicfmnaaDoorPgD
namespace Go.Proofs.YtdchfmokicfmnaaDoor
open Go.RowKit Go.Maps Go.Shelf
set_option linter.unusedVariables false
set_option linter.unusedSimpArgs false
attribute [local go_sem ↓] Go.wp_at_zero Go.wp_at_succ
attribute [-go_sem] loadVar
set_option maxHeartbeats 12800000 in
set_option maxRecDepth 100000 in
theorem planGives_walk (d : Nat) (r : R3) (p : RP) (xs : List SX) (w : World) (hG : KT w ∧ DT w) (hR : RIs w (d + 1) r p) {sa : Option Addr} {sc : Nat} (hX : Lz w (.slice sa xs.length sc) xs) {v : Value} {l : List ByteArray} (hl : Ls w v l.length (l.flatMap strB)) (hsz : ∀ i, i < l.length → (atS l i).size ≤ maxLen) (hll : l.length ≤ 1048576) :
    Calls Tryd.prog 3 #[.agg #[.string r.pr, .slice p.a r.hd.length p.c, .slice p.ba r.bd.length p.bc, .slice sa xs.length sc], v] w fun e w' => e = .returned (.bool true) ∧ Below w.heap.size w w' := by
  obtain ⟨hKT, hDT⟩ := hG
  obtain ⟨pa, pc, pba, pbc⟩ := p
  simp only at hR ⊢
  have hA0 := belowA (w := w) (.cells #[.string r.pr, .slice pa r.hd.length pc, .slice pba r.bd.length pbc, .slice sa xs.length sc] 28)
  have HB0 := Lib.hid hA0
  have HRL := Lib.hid (rl_new w #[.string r.pr, .slice pa r.hd.length pc, .slice pba r.bd.length pbc, .slice sa xs.length sc] 28)
  have HR := Lib.hid (hR.below hA0)
  have HX := Lib.hid (hX.below hA0)
  have HK := Lib.hid (hKT.below hA0)
  have HD := Lib.hid (hDT.below hA0)
  have HL := Lib.hid (hl.below hA0)
  have HSZ := Lib.hid hsz
  obtain ⟨la, lc, rfl, hlc1, hlc2, _⟩ := ls_str hl
  unfold maxLen at hlc2
  have hld := load_ruleP HRL.out
  have HBY := Lib.hid (beyondRule_any (d + 1) r ⟨pa, pc, pba, pbc⟩ _ HR.out)
  unfold R3.val at HBY
  simp only at HBY
  obtain ⟨i0, hi0, hz0, hz1, hz2⟩ := info_parts infoStrL
  clear hKT hDT hR hX hl hsz hA0
  go_enter Tryd.func3, Tryd.ntmps3
  go_wp2_with fail
  refine HBY.out.mono ?_
  clear hld HBY
  obtain ⟨W, hW⟩ : ∃ W, W = w.alloc (.cells #[.string r.pr, .slice pa r.hd.length pc, .slice pba r.bd.length pbc, .slice sa xs.length sc] 28) := ⟨_, rfl⟩
  rw [← hW] at HR HX HB0 HRL HK HD HL ⊢
  clear hW
  rintro e w1 ⟨b, rfl, b1, hsm⟩
  cases b
  case true =>
    have HF := Lib.hid (HB0.out.trans (b1.mono HB0.out.size))
    clear b1 hsm
    go_wp2
    go_ret
    exact ⟨rfl, HF.out⟩
  case false =>
  have HSM := Lib.hid (hsm rfl)
  have l1 := load_planP (RL.below HRL.out b1)
  have HB1 := Lib.hid b1
  have HRG := Lib.hid (right_any d r ⟨pa, pc, pba, pbc⟩ xs w1 (HK.out.below b1) (HR.out.below b1) HSM.out HSM.out.terms (HX.out.below b1) (HL.out.below b1) HSZ.out)
  simp only at HRG
  clear b1 hsm
  go_wp2_with fail
  refine HRG.out.mono ?_
  rintro e w2 ⟨b2, hcase⟩
  obtain ⟨rb, rfl, hrb⟩ := rgM_of hcase
  have HB2 : Hid (Below W.heap.size W w2) := HB1.out.trans (b2.mono HB1.out.size)
  clear hcase b2 HRG l1 HB1
  cases rb
  case false =>
    have HLV := Lib.hid (lives12_any (HK.out.below HB2.out) (HD.out.below HB2.out))
    clear hrb
    go_wp2_with fail
    refine HLV.out.mono ?_
    rintro e w3 ⟨rfl, b3⟩
    have HF := Lib.hid (HB0.out.trans ((HB2.out.trans (b3.mono HB2.out.size)).mono HB0.out.size))
    clear b3 HLV
    go_wp2
    go_ret
    exact ⟨rfl, HF.out⟩
  case true =>
  have HRM := Lib.hid (hrb rfl)
  have HBD := Lib.hid (bdR_of HRM.out.rb HSM.out.terms)
  have HLB := Lib.hid (litsB_of HRM.out.rb)
  clear hrb
  have hzz : W.heap.size ≤ w2.heap.size := HB2.out.size
  go_wp2_with (at_builtin; refine wpList_appL rfl (.tmp 22) (.tmp 23) 29 9 rfl Tryd.underlying29 hi0 hz0 hz1 hz2 rfl (by decide) (b := w2.heap.size) (v := .slice (some ⟨w2.heap.size, 0, none⟩) 0 0) (n := 0) (xs := []) (a := la) (c := lc) (m := l.length) (ys := l.flatMap strB) (by simp [Act.eval, Act.put]) (World.ownsRow_lit w2 #[] 0 (Nat.le_refl _) (by decide) rfl) (by simp [Act.eval, Act.put]) ((HL.out.below HB2.out).below (belowA _)) (strB_cells l) (strB_one l) (by unfold maxLen; omega) (by omega) (by simp) ?_; intro v5 w5 own5 hg5 hl5; have bel5 : Hid (Below w2.heap.size w2 w5) := (belowA _).grown hg5 (by simp) (fun j hj => by simp [Value.ownBlock] at hj; omega); rw [Nat.zero_add, List.nil_append] at own5; clear hg5 hl5)
  obtain ⟨oa, oc, rfl, _⟩ := own_form own5
  have HO5 : Hid (w5.ownsRow W.heap.size 9 1 (.slice oa l.length oc) l.length (l.flatMap strB)) := own_base own5 hzz
  have HB5 : Hid (Below W.heap.size W w5) := HB2.out.trans (bel5.out.mono hzz)
  have HM5 := Lib.hid (LpM.start xs HBD.out hll)
  have hbn := HBD.out.bn
  obtain ⟨a', c', hac, hc1, hc2, hat⟩ := HX.out.form
  injection hac with e1 e2 e3
  subst e1 e3
  have HAT := Lib.hid hat
  obtain ⟨a2, c2, hac2, hd1, hd2, hat2⟩ := HR.out.bd.form
  injection hac2 with e4 e5 e6
  subst e4 e6
  have HAL := Lib.hid hat2
  unfold maxLen at hc2 hd2
  clear own5 bel5 hat hat2 e2 e5 HB2 hzz
  go_wp2
  go_loopw [5, 6, 7, 8, 9, 10, 11] (fun hv i _ _ _ _ _ wr => ∃ (j left : Nat) (ss : List ByteArray) (ha : Option Addr) (hc : Nat), j ≤ xs.length ∧ i = .int .i64 j ∧ hv = .slice ha ss.length hc ∧ Hid (LpM d r l xs j ss left) ∧ Hid (wr.ownsRow W.heap.size 9 1 (.slice ha ss.length hc) ss.length (ss.flatMap strB)) ∧ Hid (Below W.heap.size W wr)) (fun _ i _ _ _ _ _ _ => xs.length - (intOf i).toNat)
  case atStart => exact ⟨0, _, l, oa, oc, Nat.zero_le _, rfl, rfl, HM5, HO5, HB5⟩
  case round =>
    clear HO5 HB5 HM5
    obtain ⟨j, left, ss, ha, hc, hj, rfl, rfl, HM, HO, HB⟩ := hrel
    have ls := load_stsP (RL.at (RL.below HRL.out HB.out) (j := 3) rfl)
    by_cases hlt : j < xs.length
    · have hlt' : (j : Int) < (xs.length : Int) := by omega
      have hj0 : (0 : Int) ≤ (j : Int) := by omega
      obtain ⟨g, off, rfl, hg, hr⟩ := HAT.out (by omega)
      have lst := load_stR (range_below (hr j hlt) HB.out hg) rfl
      have HLX := Lib.hid ((HX.out.at_is hlt).below HB.out)
      obtain ⟨k, hrd, hnx⟩ := HM.out.step HBD.out HLB.out HRM.out hlt
      have HRD := Lib.hid hrd
      have HNX := Lib.hid hnx
      have hkn : k < r.bd.length := hrd.kn
      obtain ⟨g2, off2, rfl, hg2, hr2⟩ := HAL.out (by omega)
      have HR2 := Lib.hid (hr2 k hkn)
      have HG2 := Lib.hid hg2
      have HLI := Lib.hid ((HR.out.bd.at_is hkn).below HB.out)
      have hsl := HM.out.len
      have hgl := hrd.len
      clear hr hg hr2 hg2 hrd hnx HM
      generalize atL r.bd k = L at HR2 HLI HRD
      generalize atZ xs j = y at lst HLX HRD HNX hgl
      obtain ⟨⟨sk, si, sm, sg⟩, ya, yc⟩ := y
      unfold SX.cells at lst
      simp only at lst HLX HRD HNX hgl
      obtain ⟨x, q⟩ := L
      unfold XL.cells at HR2
      simp only at HR2 HLI
      obtain rfl : si = (k : Int) := HRD.out.ki
      have hk0 : (0 : Int) ≤ (k : Int) := by omega
      have hkl : (k : Int) < (r.bd.length : Int) := by omega
      have HBL : Hid (Below wr.heap.size wr (wr.alloc (.cells #[.int .i8 sk, .int .i64 (k : Int), .int .u32 sm, .slice ya sg.length yc] 38))) := belowA _
      have HRS := Lib.hid (rl_new wr #[.int .i8 sk, .int .i64 (k : Int), .int .u32 sm, .slice ya sg.length yc] 38)
      go_upto_region 10 with fail
      obtain ⟨U, hU⟩ : ∃ U, U = wr.alloc (.cells #[.int .i8 sk, .int .i64 (k : Int), .int .u32 sm, .slice ya sg.length yc] 38) := ⟨_, rfl⟩
      rw [← hU] at HBL HRS ⊢
      have HBU : Hid (Below W.heap.size W U) := HB.out.trans (HBL.out.mono HB.out.size)
      have HOU := Lib.hid (own_below HO.out HBL.out)
      have HLXU := Lib.hid (HLX.out.below HBL.out)
      have HLIU := Lib.hid (HLI.out.below HBL.out)
      clear hU lst ls HLX HLI HO HB HBL
      have li := load_intP (RL.at HRS.out (j := 1) rfl)
      have lq := load_litsQ (RL.at (RL.below HRL.out HBU.out) (j := 2) rfl)
      have lit := load_Lit (range_below HR2.out HBU.out HG2.out) rfl
      have HBL2 : Hid (Below U.heap.size U (U.alloc (.cells #[.int .i8 x.k, .string x.pr, .slice q.a x.ts.length q.c, .int .i8 x.rel, .int .i8 x.l.op, .string x.l.t.v, .int .i8 x.l.t.a.k, .int .i64 x.l.t.a.n, .string x.l.t.a.s, .slice q.la x.l.kids.length q.lc, .int .i8 x.r.op, .string x.r.t.v, .int .i8 x.r.t.a.k, .int .i64 x.r.t.a.n, .string x.r.t.a.s, .slice q.ra x.r.kids.length q.rc] 54))) := belowA _
      have HRX := Lib.hid (rl_new U #[.int .i8 x.k, .string x.pr, .slice q.a x.ts.length q.c, .int .i8 x.rel, .int .i8 x.l.op, .string x.l.t.v, .int .i8 x.l.t.a.k, .int .i64 x.l.t.a.n, .string x.l.t.a.s, .slice q.la x.l.kids.length q.lc, .int .i8 x.r.op, .string x.r.t.v, .int .i8 x.r.t.a.k, .int .i64 x.r.t.a.n, .string x.r.t.a.s, .slice q.ra x.r.kids.length q.rc] 54)
      go_upto_region 13 with fail
      obtain ⟨U2, hU2⟩ : ∃ U2, U2 = U.alloc (.cells #[.int .i8 x.k, .string x.pr, .slice q.a x.ts.length q.c, .int .i8 x.rel, .int .i8 x.l.op, .string x.l.t.v, .int .i8 x.l.t.a.k, .int .i64 x.l.t.a.n, .string x.l.t.a.s, .slice q.la x.l.kids.length q.lc, .int .i8 x.r.op, .string x.r.t.v, .int .i8 x.r.t.a.k, .int .i64 x.r.t.a.n, .string x.r.t.a.s, .slice q.ra x.r.kids.length q.rc] 54) := ⟨_, rfl⟩
      rw [← hU2] at HBL2 HRX ⊢
      have lx := load_litX HRX.out rfl
      have HLV := Lib.hid (literalOwn_any (d + 1) x q U2 (HLIU.out.below HBL2.out) (by have := HRD.out.vars; simp only at this; omega))
      unfold Lit4.val at HLV
      clear hU2 li lq lit
      go_wp2_with fail
      refine HLV.out.mono ?_
      rintro e w3 ⟨sv, rfl, hown, b3⟩
      obtain ⟨va, vc, rfl, _⟩ := own_form hown
      have HB23 : Hid (Below U.heap.size U w3) := HBL2.out.trans (b3.mono HBL2.out.size)
      have HVO := Lib.hid hown
      have HRS3 := Lib.hid (RL.below HRS.out HB23.out)
      have HRX3 := Lib.hid (RL.below HRX.out b3)
      have HB3 : Hid (Below W.heap.size W w3) := HBU.out.trans (HB23.out.mono HBU.out.size)
      have HO3 := Lib.hid (own_below HOU.out HB23.out)
      have HNB : Hid (∀ g, (Value.slice ha ss.length hc).ownBlock = some g → g < U2.heap.size) := fun g hg => Nat.lt_of_lt_of_le (HOU.out.lt g hg).2 HBL2.out.size
      have HLX3 := Lib.hid (HLXU.out.below HB23.out)
      have HLI3 := Lib.hid (HLIU.out.below HB23.out)
      clear hown b3 HB23 HLV lx HRS HRX HOU HLXU HLIU HBU HBL2
      obtain ⟨a3, c3, hac, hc1', hc2', hat⟩ := ls_str HLX3.out
      injection hac with e1 e2 e3
      subst e1 e3
      have HSG := Lib.hid hat
      unfold maxLen at hc2'
      clear hat e2
      generalize wr.heap.size = b7 at HRS3 ⊢
      generalize U.heap.size = b8 at HRX3 ⊢
      go_wp2
      go_loopw [10] (fun i u => ∃ m : Nat, m ≤ sg.length ∧ i = .int .i64 m ∧ Hid (Below w3.heap.size w3 u)) (fun i _ => sg.length - (intOf i).toNat)
      case atStart => exact ⟨0, Nat.zero_le _, rfl, Below.refl _ _⟩
      case round =>
        obtain ⟨m, hm, rfl, HBV⟩ := hrel
        have lgs := load_ssP (RL.at (RL.below HRS3.out HBV.out) (j := 3) rfl)
        by_cases hlm : m < sg.length
        · have hlm' : (m : Int) < (sg.length : Int) := by omega
          have hm0 : (0 : Int) ≤ (m : Int) := by omega
          obtain ⟨g3, off3, rfl, hg3, hc3⟩ := HSG.out (by omega)
          have lgd := load_ssP (RL.at (RL.below HRS3.out HBV.out.drew) (j := 3) rfl)
          have lsd := load_strP (((HBV.out.drew).cell (p := ⟨g3, off3 + m, none⟩) hg3).trans (hc3 m hlm))
          have HH1 := has_any ((ls_own HO3.out).below HBV.out.drew) (atS sg m)
          have HH2 := has_any (ls_take (HLX3.out.below HBV.out.drew) hm) (atS sg m)
          have HH3 := has_any ((ls_own HVO.out).below HBV.out.drew) (atS sg m)
          rw [(newL_out HRD.out.giv.new hlm).1] at HH1
          rw [(newL_out HRD.out.giv.new hlm).2] at HH2
          rw [HRD.out.giv.has2 hlm] at HH3
          have HHA := Lib.hid (And.intro HH1 (And.intro HH2 HH3))
          have HLS := Lib.hid lsd
          have HLD := Lib.hid lgd
          generalize atS sg m = z at HHA HLS
          clear hc3 hg3 HH1 HH2 HH3 lsd lgd
          go_upto_region 17 with fail
          refine wp_region_noPanic ?_
          refine wp_region_held (S := fun v => v = wr.drew) (by kernel_rfl) ?_
          refine pgr17 (w5 := wr) (S := fun v => v = wr.drew) (b7 := b7) (g := g3) (off := off3) (n := sg.length) (c := yc) (k := m) (hv := .slice ha ss.length hc) (s := z) rfl rfl rfl rfl rfl rfl rfl rfl rfl rfl rfl rfl rfl rfl rfl rfl rfl rfl rfl rfl rfl rfl rfl rfl rfl rfl rfl rfl rfl (by kernel_rfl) (by kernel_rfl) (by kernel_rfl) (by kernel_rfl) (by kernel_rfl) (by kernel_rfl) (by intros; assumption) (by simp) rfl rfl rfl rfl rfl hlm hm hc1' (fun v hv => by rw [hv]; exact HLD.out) (fun v hv => by rw [hv]; exact HLS.out) (fun v hv => by rw [hv]; exact HHA.out.1) (fun v hv => by rw [hv]; exact HHA.out.2.1) (fun v hv => by rw [hv]; exact HHA.out.2.2) ?_
          rintro wc rfl
          refine NoPanic.normal ?_
          rename_i hK
          refine hK _ _ ?_
          simp (config := { maxSteps := 8000000 }) only [Act.put, List.getElem_toArray, List.getElem_cons_zero, List.getElem_cons_succ, List.setIfInBounds_toArray, List.set_cons_succ, List.set_cons_zero]
          have HBV2 : Hid (Below w3.heap.size w3 wr.drew) := HBV.out.drew
          clear hK HHA HLS HLD lgs HBV
          go_wp2
          go_roundw
          case rel => exact ⟨m + 1, by omega, by go_num, HBV2⟩
          case measure => simp [intOf]; omega
        · obtain rfl : m = sg.length := by omega
          have lx := load_litX (RL.below HRX3.out HBV.out) rfl
          have lt := load_StP (RL.below HRS3.out HBV.out)
          have HMK := Lib.hid (marked_all (w := wr) (a := ya) (c := yc) HRD.out (HLI3.out.below HBV.out) ((ls_own HO3.out).below HBV.out))
          unfold Lit4.val at HMK
          simp only at HMK
          go_wp2_with fail
          refine HMK.out.mono ?_
          rintro e w4 ⟨rfl, b4⟩
          have HB34 : Hid (Below w3.heap.size w3 w4) := HBV.out.trans (b4.mono HBV.out.size)
          clear HMK lx lt lgs HBV b4
          have lgs := load_ssP (RL.at (RL.below HRS3.out HB34.out) (j := 3) rfl)
          have lk := load_lkP (RL.at (RL.below HRX3.out HB34.out) (j := 0) rfl)
          have HLX4 := Lib.hid (HLX3.out.below HB34.out)
          have HO4 := Lib.hid (own_below HO3.out HB34.out)
          have HVO4 := Lib.hid (own_below HVO.out HB34.out)
          have HB4 : Hid (Below W.heap.size W w4) := HB3.out.trans (HB34.out.mono HB3.out.size)
          have hzz : W.heap.size ≤ w4.heap.size := HB4.out.size
          have HV2 : Hid (∀ g, (Value.slice va (vsT [] (termsL (d + 1) x)).length vc).ownBlock = some g → U2.heap.size ≤ g ∧ g < w4.heap.size) := fun g hg => HVO4.out.lt g hg
          have hge : sg.length = 0 ∨ (0 < sg.length ∧ (x.k == 2) = false) := by
            by_cases h0 : sg.length = 0
            · exact .inl h0
            · refine .inr ⟨by omega, ?_⟩
              rw [beq_eq_false_iff_ne]
              intro h2
              have h3 : sg = [] := HRD.out.giv.no h2
              rw [h3] at h0
              exact h0 rfl
          clear HSG HRX3 HRS3 HLI3 HLX3 HO3 HVO HB3
          rcases hge with hz | ⟨hz, hx2⟩
          · have hzi : ¬ ((0 : Int) < (sg.length : Int)) := by omega
            clear hz
            go_upto_region 21 with fail
            go_wp2_with (at_builtin; refine wpList_appL rfl (.tmp 110) (.tmp 112) 29 9 rfl Tryd.underlying29 hi0 hz0 hz1 hz2 rfl (by decide) (b := W.heap.size) (v := .slice ha ss.length hc) (n := ss.length) (xs := ss.flatMap strB) (a := ya) (c := yc) (m := sg.length) (ys := sg.flatMap strB) (by simp [Act.eval, Act.put]) HO4.out (by simp [Act.eval, Act.put]) HLX4.out (strB_cells sg) (strB_one sg) (by unfold maxLen; omega) (by omega) hzz ?_; intro v6 w6 own6 hg6 hl6)
            obtain ⟨a6, c6, rfl, _⟩ := own_form own6
            have HB6 : Hid (Below W.heap.size W w6) := HB4.out.grown hg6 hzz (fun i hi => (HO4.out.lt i hi).1)
            have HO6 : Hid (w6.ownsRow W.heap.size 9 1 (.slice a6 (ss ++ sg).length c6) (ss ++ sg).length ((ss ++ sg).flatMap strB)) := by
              show World.ownsRow _ _ _ _ _ _ _
              rw [List.length_append, List.flatMap_append]
              exact own6
            have HV6 : Hid (w6.ownsRow U2.heap.size 9 1 (.slice va (vsT [] (termsL (d + 1) x)).length vc) (vsT [] (termsL (d + 1) x)).length ((vsT [] (termsL (d + 1) x)).flatMap strB)) := own_of_block HVO4.out (fun i hi => by
              obtain ⟨q1, q2⟩ := HV2.out i hi
              refine hg6.block i q2 (fun e => ?_)
              have := HNB.out i e.symm
              omega)
            obtain ⟨st, hst⟩ : ∃ st, st = ss ++ sg := ⟨_, rfl⟩
            have e6 : ss.length + sg.length = st.length := by rw [hst, List.length_append]
            rw [← hst] at HO6 HNX
            have HST := Lib.hid hst
            rw [e6]
            clear own6 hg6 hl6 lgs lk HLX4 HO4 HVO4 HB4 hzz HV2 HB34 e6 hst
            obtain ⟨a7, c7, hac, hc7, hc8, hat⟩ := ls_str (ls_own HV6.out)
            injection hac with e1 e2 e3
            subst e1 e3
            have HVA := Lib.hid hat
            unfold maxLen at hc8
            clear hat e2
            obtain ⟨vn, hvn⟩ : ∃ vn, vn = (vsT [] (termsL (d + 1) x)).length := ⟨_, rfl⟩
            rw [← hvn] at HVA hc7 ⊢
            have HVN := Lib.hid hvn
            clear hvn HV6
            go_wp2
            go_loopw [11] (fun i u => ∃ m : Nat, m ≤ vn ∧ i = .int .i64 m ∧ Hid (u = w6)) (fun i _ => vn - (intOf i).toNat)
            case atStart => exact ⟨0, Nat.zero_le _, rfl, rfl⟩
            case round =>
              obtain ⟨m, hm, rfl, HWE⟩ := hrel
              by_cases hlm : m < vn
              · have hlm' : (m : Int) < (vn : Int) := by omega
                have hm0 : (0 : Int) ≤ (m : Int) := by omega
                obtain ⟨g3, off3, rfl, hg3, hc3⟩ := HVA.out (by omega)
                have lsd := load_strP (u := wr) (by rw [HWE.out]; exact hc3 m hlm)
                have HH := has_any (w := wr) (l := st) (by rw [HWE.out]; exact ls_own HO6.out) (atS (vsT [] (termsL (d + 1) x)) m)
                rw [show inB st (atS (vsT [] (termsL (d + 1) x)) m) = true by rw [HST.out]; exact HRD.out.giv.has (by rw [← HVN.out]; exact hlm)] at HH
                have HHH := Lib.hid HH
                generalize atS (vsT [] (termsL (d + 1) x)) m = z at HHH lsd
                clear hc3 hg3 HH
                go_wp2_with fail
                refine HHH.out.mono ?_
                rintro e w7 ⟨rfl, rfl⟩
                clear HHH lsd
                go_wp2
                go_roundw
                case rel => exact ⟨m + 1, by omega, by go_num, HWE⟩
                case measure => simp [intOf]; omega
              · obtain rfl : m = vn := by omega
                have HO7 : Hid (wr.ownsRow W.heap.size 9 1 (.slice a6 st.length c6) st.length (st.flatMap strB)) := by
                  rw [HWE.out]
                  exact HO6
                have HB7 : Hid (Below W.heap.size W wr) := by
                  rw [HWE.out]
                  exact HB6
                clear HO6 HB6 HWE
                go_wp2
                go_roundw
                case rel => exact ⟨j + 1, clrN left k, st, a6, c6, by omega, by go_num, rfl, HNX, HO7, HB7⟩
                case measure => simp [intOf]; omega
          · have hzi : (0 : Int) < (sg.length : Int) := by omega
            go_upto_region 21 with fail
            go_wp2_with (at_builtin; refine wpList_appL rfl (.tmp 110) (.tmp 112) 29 9 rfl Tryd.underlying29 hi0 hz0 hz1 hz2 rfl (by decide) (b := W.heap.size) (v := .slice ha ss.length hc) (n := ss.length) (xs := ss.flatMap strB) (a := ya) (c := yc) (m := sg.length) (ys := sg.flatMap strB) (by simp [Act.eval, Act.put]) HO4.out (by simp [Act.eval, Act.put]) HLX4.out (strB_cells sg) (strB_one sg) (by unfold maxLen; omega) (by omega) hzz ?_; intro v6 w6 own6 hg6 hl6)
            obtain ⟨a6, c6, rfl, _⟩ := own_form own6
            have HB6 : Hid (Below W.heap.size W w6) := HB4.out.grown hg6 hzz (fun i hi => (HO4.out.lt i hi).1)
            have HO6 : Hid (w6.ownsRow W.heap.size 9 1 (.slice a6 (ss ++ sg).length c6) (ss ++ sg).length ((ss ++ sg).flatMap strB)) := by
              show World.ownsRow _ _ _ _ _ _ _
              rw [List.length_append, List.flatMap_append]
              exact own6
            have HV6 : Hid (w6.ownsRow U2.heap.size 9 1 (.slice va (vsT [] (termsL (d + 1) x)).length vc) (vsT [] (termsL (d + 1) x)).length ((vsT [] (termsL (d + 1) x)).flatMap strB)) := own_of_block HVO4.out (fun i hi => by
              obtain ⟨q1, q2⟩ := HV2.out i hi
              refine hg6.block i q2 (fun e => ?_)
              have := HNB.out i e.symm
              omega)
            obtain ⟨st, hst⟩ : ∃ st, st = ss ++ sg := ⟨_, rfl⟩
            have e6 : ss.length + sg.length = st.length := by rw [hst, List.length_append]
            rw [← hst] at HO6 HNX
            have HST := Lib.hid hst
            rw [e6]
            clear own6 hg6 hl6 lgs lk HLX4 HO4 HVO4 HB4 hzz HV2 HB34 e6 hst
            obtain ⟨a7, c7, hac, hc7, hc8, hat⟩ := ls_str (ls_own HV6.out)
            injection hac with e1 e2 e3
            subst e1 e3
            have HVA := Lib.hid hat
            unfold maxLen at hc8
            clear hat e2
            obtain ⟨vn, hvn⟩ : ∃ vn, vn = (vsT [] (termsL (d + 1) x)).length := ⟨_, rfl⟩
            rw [← hvn] at HVA hc7 ⊢
            have HVN := Lib.hid hvn
            clear hvn HV6
            go_wp2
            go_loopw [11] (fun i u => ∃ m : Nat, m ≤ vn ∧ i = .int .i64 m ∧ Hid (u = w6)) (fun i _ => vn - (intOf i).toNat)
            case atStart => exact ⟨0, Nat.zero_le _, rfl, rfl⟩
            case round =>
              obtain ⟨m, hm, rfl, HWE⟩ := hrel
              by_cases hlm : m < vn
              · have hlm' : (m : Int) < (vn : Int) := by omega
                have hm0 : (0 : Int) ≤ (m : Int) := by omega
                obtain ⟨g3, off3, rfl, hg3, hc3⟩ := HVA.out (by omega)
                have lsd := load_strP (u := wr) (by rw [HWE.out]; exact hc3 m hlm)
                have HH := has_any (w := wr) (l := st) (by rw [HWE.out]; exact ls_own HO6.out) (atS (vsT [] (termsL (d + 1) x)) m)
                rw [show inB st (atS (vsT [] (termsL (d + 1) x)) m) = true by rw [HST.out]; exact HRD.out.giv.has (by rw [← HVN.out]; exact hlm)] at HH
                have HHH := Lib.hid HH
                generalize atS (vsT [] (termsL (d + 1) x)) m = z at HHH lsd
                clear hc3 hg3 HH
                go_wp2_with fail
                refine HHH.out.mono ?_
                rintro e w7 ⟨rfl, rfl⟩
                clear HHH lsd
                go_wp2
                go_roundw
                case rel => exact ⟨m + 1, by omega, by go_num, HWE⟩
                case measure => simp [intOf]; omega
              · obtain rfl : m = vn := by omega
                have HO7 : Hid (wr.ownsRow W.heap.size 9 1 (.slice a6 st.length c6) st.length (st.flatMap strB)) := by
                  rw [HWE.out]
                  exact HO6
                have HB7 : Hid (Below W.heap.size W wr) := by
                  rw [HWE.out]
                  exact HB6
                clear HO6 HB6 HWE
                go_wp2
                go_roundw
                case rel => exact ⟨j + 1, clrN left k, st, a6, c6, by omega, by go_num, rfl, HNX, HO7, HB7⟩
                case measure => simp [intOf]; omega
    · obtain rfl : j = xs.length := by omega
      have HALL := Lib.hid (HM.out.end_ HRM.out)
      have lr := load_ruleP (RL.below HRL.out HB.out)
      have HRV := Lib.hid (vruleVars_any (d + 1) r ⟨pa, pc, pba, pbc⟩ wr (HR.out.below HB.out) (by have := HSM.out.terms; omega))
      unfold R3.val at HRV
      simp only at HRV
      clear HM
      go_wp2_with fail
      refine HRV.out.mono ?_
      rintro e w3 ⟨sv, rfl, hls, b3⟩
      have HB3 : Hid (Below W.heap.size W w3) := HB.out.trans (b3.mono HB.out.size)
      have HO3 := Lib.hid (own_below HO.out b3)
      obtain ⟨va, vc, rfl, hv1, hv2, hat⟩ := ls_str hls
      have HVA := Lib.hid hat
      unfold maxLen at hv2
      clear hat hls b3 HRV lr HO HB ls
      obtain ⟨vn, hvn⟩ : ∃ vn, vn = (vsT [] (termsR (d + 1) r)).length := ⟨_, rfl⟩
      rw [← hvn] at HVA hv1 ⊢
      have HVN := Lib.hid hvn
      clear hvn
      go_wp2
      go_loopw [13] (fun i u => ∃ m : Nat, m ≤ vn ∧ i = .int .i64 m ∧ Hid (u = w3)) (fun i _ => vn - (intOf i).toNat)
      case atStart => exact ⟨0, Nat.zero_le _, rfl, rfl⟩
      case round =>
        obtain ⟨m, hm, rfl, HWE⟩ := hrel
        by_cases hlm : m < vn
        · have hlm' : (m : Int) < (vn : Int) := by omega
          have hm0 : (0 : Int) ≤ (m : Int) := by omega
          obtain ⟨g3, off3, rfl, hg3, hc3⟩ := HVA.out (by omega)
          have lsd := load_strP (u := wr) (by rw [HWE.out]; exact hc3 m hlm)
          have HH := has_any (w := wr) (l := ss) (by rw [HWE.out]; exact ls_own HO3.out) (atS (vsT [] (termsR (d + 1) r)) m)
          rw [show inB ss (atS (vsT [] (termsR (d + 1) r)) m) = true from inB_iff.2 (HALL.out _ (atS_mem (by rw [← HVN.out]; exact hlm)))] at HH
          have HHH := Lib.hid HH
          generalize atS (vsT [] (termsR (d + 1) r)) m = z at HHH lsd
          clear hc3 hg3 HH
          go_wp2_with fail
          refine HHH.out.mono ?_
          rintro e w7 ⟨rfl, rfl⟩
          clear HHH lsd
          go_wp2
          go_roundw
          case rel => exact ⟨m + 1, by omega, by go_num, HWE⟩
          case measure => simp [intOf]; omega
        · obtain rfl : m = vn := by omega
          have HB4 : Hid (Below W.heap.size W wr) := by
            rw [HWE.out]
            exact HB3
          have HLV := Lib.hid (lives12_any (HK.out.below HB4.out) (HD.out.below HB4.out))
          clear HWE HB3
          have HB3 := HB4
          go_wp2_with fail
          refine HLV.out.mono ?_
          rintro e w4 ⟨rfl, b4⟩
          have HF := Lib.hid (HB0.out.trans ((HB3.out.trans (b4.mono HB3.out.size)).mono HB0.out.size))
          clear b4 HLV
          go_wp2
          go_ret
          exact ⟨rfl, HF.out⟩
end Go.Proofs.YtdchfmokicfmnaaDoor
