import Derived.Test.YtkcipmbgapdkjaaGreatDoorSdReg
import Derived.Test.YtkcipmbgapdkjaaGreatDoorAlive
namespace Go.Proofs.YtkcipmbgapdkjaaGreatDoor
open Go.RowKit Go.Maps
set_option linter.unusedVariables false
set_option linter.unusedSimpArgs false
attribute [local go_sem ↓] Go.wp_at_zero Go.wp_at_succ
attribute [-go_sem] loadVar storeVar Builtin.append_

theorem mem_small {l : List XF} (h : smallF l) {y : XF} (hy : y ∈ l) : y.vs.length ≤ 1048576 := by
  obtain ⟨i, hi, rfl⟩ := List.getElem_of_mem hy
  have := h.each i hi
  rw [atF_eq hi] at this
  exact this
theorem lf_mem {w : World} {v : Value} {l : List XF} (h : Lf w v l) {y : XF} (hy : y ∈ l) : FIs w y := by
  obtain ⟨i, hi, rfl⟩ := List.getElem_of_mem hy
  have := h.each i hi
  rw [atF_eq hi] at this
  exact this
set_option maxHeartbeats 12800000 in
set_option maxRecDepth 100000 in
theorem valueSorted_walk (l : List XF) (a : Option Addr) (c : Nat) (w : World) (hG : Gs w) (hll : l.length ≤ 281474976710656) (hL : Lf w (.slice a l.length c) l) :
    Calls Tryz.prog 3 #[.slice a l.length c] w fun e w' => e = .returned (.bool true) ∧ Below w.heap.size w w' := by
  obtain ⟨i0, hi0, hz0, hz1, hz2⟩ := info_partsS infoFs
  obtain ⟨j0, hj0, hy0, hy1, hy2⟩ := info_partsS infoTs
  have HG : Hid (∀ u, Below w.heap.size w u → Gs u) := fun u hu => hG.below hu
  have HL : Hid (∀ u, Below w.heap.size w u → Lf u (.slice a l.length c) l) := fun u hu => hL.below hu
  have HBF := Lib.hid (beyondFacts_any _ l w hll hL)
  clear hG hL
  by_cases hbig : 2000 < l.length
  · have hbig' : (2000 : Int) < (l.length : Int) := by omega
    go_enter Tryz.func3, Tryz.ntmps3
    go_wp2
    go_ret
    exact ⟨rfl, Below.refl _ _⟩
  · have hbig' : ¬ (2000 : Int) < (l.length : Int) := by omega
    go_enter Tryz.func3, Tryz.ntmps3
    go_wp2_with fail
    refine HBF.out.mono ?_
    rintro e w1 ⟨bb, rfl, b1, hsm⟩
    have B1 := Lib.hid b1
    have HSM := Lib.hid hsm
    clear b1 hsm HBF
    cases bb
    case true =>
      go_wp2
      go_ret
      exact ⟨rfl, B1.out⟩
    case false =>
    have HSL : Hid (smallF l) := HSM.out (by first | rfl | trivial)
    have HLV := Lib.hid (AR.lives_true w1 (HG.out _ B1.out).tab)
    clear HSM
    go_wp2_with fail
    refine HLV.out.mono ?_
    rintro e w2 ⟨rfl, b2⟩
    have B2 : Hid (Below w.heap.size w w2) := B1.out.trans (b2.mono B1.out.size)
    have HT := Lib.hid (twin_facts _ l w2 (HG.out _ B2.out).pw HSL.out.len HSL.out.each (HL.out _ B2.out))
    clear b2 B1 HLV
    go_wp2_with fail
    refine HT.out.mono ?_
    rintro e w3 ⟨aG, rfl, b3, hF⟩
    have B3 : Hid (Below w.heap.size w w3) := B2.out.trans (b3.mono B2.out.size)
    have HF := Lib.hid hF
    clear b3 hF HT B2
    go_wp2_with fail
    refine HF.out.mono ?_
    rintro e W ⟨aO, cO, O, rfl, b4, tO, lO⟩
    have BW : Hid (Below w.heap.size w W) := B3.out.trans (b4.mono B3.out.size)
    have HTO := Lib.hid tO
    have HO : Hid (∀ u, Below W.heap.size W u → Lf u (.slice aO O.length cO) O) := fun u hu => lO.below hu
    obtain ⟨a1, c1, e1, hoc1, hoc2, hko⟩ := lO.form
    cases e1
    have hOm : O.length ≤ maxLen := Nat.le_trans hoc1 hoc2
    unfold maxLen at hOm
    have HKO := Lib.hid hko
    clear b4 tO lO HF B3 hko hoc2
    go_wp2
    go_loopw [4] (fun i wr => ∃ k : Nat, k ≤ O.length ∧ i = .int .i64 k ∧ Below W.heap.size W wr) (fun i _ => O.length - (intOf i).toNat)
    case atStart => exact ⟨0, Nat.zero_le _, rfl, Below.refl _ _⟩
    case round =>
      obtain ⟨k, hk, rfl, bel⟩ := hrel
      by_cases hlt : k < O.length
      · have hlt' : (k : Int) < (O.length : Int) := by omega
        have hk0 : (0 : Int) ≤ (k : Int) := by omega
        obtain ⟨g, off, rfl, hg, hKS⟩ := HKO.out (by omega)
        have HIN : Hid (∀ u, Below W.heap.size W u → Calls Tryz.prog 9 #[.agg (atF O k).cells.toArray, .slice a l.length c] u fun r w' => r = .returned (.bool true) ∧ Below u.heap.size u w') := fun u hu =>
          in_yes (atF O k) _ l u (((HO.out u hu).each k hlt)) (HL.out u (BW.out.trans (hu.mono BW.out.size))) ((HTO.out.same _).1 (by rw [atF_eq hlt]; exact List.mem_map.2 ⟨_, List.getElem_mem hlt, rfl⟩))
        have HL1 : Hid (∀ u, Below W.heap.size W u → (loadVar 29 ⟨g, off + k * 2, none⟩).run Tryz.prog u = .ok (.agg (atF O k).cells.toArray) u) := fun u hu => load_Fac (range_below (hKS k hlt) hu hg) rfl
        rcases Nat.eq_zero_or_pos k with h0 | hpos
        · subst h0
          have HBL := Lib.hid bel
          clear hKS bel
          go_wp2_with fail
          refine region_R (fun u => Below W.heap.size W u) ?_
          apply Exists.intro
          refine ⟨?_, ?_⟩
          · refine wp_region_noPanic ?_
            refine wp_region_held (S := fun u => Below W.heap.size W u) (by kernel_rfl) ?_
            refine sreg9A (w5 := wr) (S := fun u => Below W.heap.size W u) (al := a) (nl := l.length) (cl := c) (g := g) (off := off) (n := O.length) (cc := cO) (i := 0) (j := 0) (X := .agg (atF O 0).cells.toArray) (Y := .agg (atF O 0).cells.toArray) rfl rfl rfl rfl rfl rfl rfl rfl rfl rfl rfl rfl rfl rfl rfl rfl rfl rfl rfl rfl rfl rfl rfl rfl (by kernel_rfl) (by kernel_rfl) (by kernel_rfl) (by kernel_rfl) (fun _ _ _ _ _ h => h) (by simp) rfl rfl rfl HBL.out.drew (fun u u' h b => h.trans (b.mono h.size)) hlt HL1.out gtr0 (fun u hu => HIN.out u hu) ?_
            intro wf hS
            exact NoPanic.normal ⟨rfl, rfl, hS⟩
          intro w10 hb10
          simp (config := { maxSteps := 10000000 }) only [Act.put, List.getElem_toArray, List.getElem_cons_zero, List.getElem_cons_succ, List.setIfInBounds_toArray, List.set_cons_succ, List.set_cons_zero]
          have HBN := Lib.hid hb10
          clear hb10 HBL HL1 HIN
          go_wp2
          go_roundw
          case rel => exact ⟨0 + 1, by omega, by go_num, HBN.out⟩
          case measure => simp [intOf]; omega
        · obtain ⟨j, rfl⟩ : ∃ j, k = j + 1 := ⟨k - 1, by omega⟩
          have hj : j < O.length := by omega
          have HCM : Hid (∀ u, Below W.heap.size W u → Calls Tryz.prog 8 #[.agg (atF O j).cells.toArray, .agg (atF O (j + 1)).cells.toArray] u fun r w' => r = .returned (.int .i64 (-1)) ∧ Below u.heap.size u w') := fun u hu => by
            have := cf_any (atF O j) (atF O (j + 1)) u ((HO.out u hu).each j hj) ((HO.out u hu).each (j + 1) hlt)
            have hk : ko (atF O j).key (atF O (j + 1)).key = -1 := ko_one (by
              rw [atF_eq hj, atF_eq hlt]
              have := List.pairwise_iff_getElem.1 HTO.out.rises j (j + 1) (by simpa using hj) (by simpa using hlt) (by omega)
              simpa using this)
            rw [hk] at this
            exact this
          have HL2 : Hid (∀ u, Below W.heap.size W u → (loadVar 29 ⟨g, off + j * 2, none⟩).run Tryz.prog u = .ok (.agg (atF O j).cells.toArray) u) := fun u hu => load_Fac (range_below (hKS j hj) hu hg) rfl
          have HBL := Lib.hid bel
          clear hKS bel
          go_wp2_with fail
          refine region_R (fun u => Below W.heap.size W u) ?_
          apply Exists.intro
          refine ⟨?_, ?_⟩
          · refine wp_region_noPanic ?_
            refine wp_region_held (S := fun u => Below W.heap.size W u) (by kernel_rfl) ?_
            refine sreg9B (w5 := wr) (S := fun u => Below W.heap.size W u) (al := a) (nl := l.length) (cl := c) (g := g) (off := off) (n := O.length) (cc := cO) (i := j + 1) (j := j) (X := .agg (atF O j).cells.toArray) (Y := .agg (atF O (j + 1)).cells.toArray) rfl rfl rfl rfl rfl rfl rfl rfl rfl rfl rfl rfl rfl rfl rfl rfl rfl rfl rfl rfl rfl rfl rfl rfl (by kernel_rfl) (by kernel_rfl) (by kernel_rfl) (by kernel_rfl) (by kernel_rfl) (fun _ _ _ _ _ h => h) (by simp) rfl rfl rfl HBL.out.drew (fun u u' h b => h.trans (b.mono h.size)) hlt HL1.out (gtr1 j) (fun u hu => HIN.out u hu) hj HL2.out (sub1 j (by omega)) (fun u hu => HCM.out u hu) ?_
            intro wf hS
            exact NoPanic.normal ⟨rfl, rfl, hS⟩
          intro w10 hb10
          simp (config := { maxSteps := 10000000 }) only [Act.put, List.getElem_toArray, List.getElem_cons_zero, List.getElem_cons_succ, List.setIfInBounds_toArray, List.set_cons_succ, List.set_cons_zero]
          have HBN := Lib.hid hb10
          clear hb10 HBL HL1 HL2 HIN HCM
          go_wp2
          go_roundw
          case rel => exact ⟨j + 1 + 1, by omega, by go_num, HBN.out⟩
          case measure => simp [intOf]; omega
      · obtain rfl : k = O.length := by omega
        obtain ⟨W0, rfl⟩ : ∃ W0, W0 = wr := ⟨_, rfl⟩
        have HB0 := Lib.hid bel
        have BW0 : Hid (Below w.heap.size w W0) := BW.out.trans (bel.mono BW.out.size)
        have hw0 : IntKind.i64.wrap ((l.length : Int) - 1) = (l.length : Int) - 1 := wrap_mid (by omega) (by omega)
        have HT0 : Hid (Tri W0.heap.size [] (.slice none 0 0) (.slice none 0 0) (.slice none 0 0) W0) := ⟨World.ownsRow_nil _ _ _ _, World.ownsRow_nil _ _ _ _, World.ownsRow_nil _ _ _ _, dj_nil _, dj_nil _, dj_nil _⟩
        clear bel
        go_wp2
        go_loopw [5, 6, 7, 8] (fun vb vn vt iv wr => ∃ (j : Nat) (iz : Int) (ab an at' : Option Addr) (cb cn ct : Nat), j ≤ l.length ∧ iv = .int .i64 iz ∧ iz = (l.length : Int) - 1 - j ∧ vb = .slice ab j cb ∧ vn = .slice an j cn ∧ vt = .slice at' j ct ∧ Hid (Tri W0.heap.size (l.reverse.take j) (.slice ab j cb) (.slice an j cn) (.slice at' j ct) wr) ∧ Hid (Below W0.heap.size W0 wr)) (fun _ _ _ iv _ => (intOf iv + 1).toNat)
        case atStart => exact ⟨0, _, none, none, none, 0, 0, 0, Nat.zero_le _, rfl, by omega, rfl, rfl, rfl, HT0, Below.refl _ _⟩
        case round =>
          obtain ⟨j, iz, ab, an, at', cb, cn, ct, hj, rfl, hiz, rfl, rfl, rfl, HT, HBr⟩ := hrel
          clear HT0 hw0
          have hjl : (l.reverse.take j).length = j := by rw [List.length_take, List.length_reverse]; omega
          by_cases hlt : j < l.length
          · obtain ⟨i, rfl⟩ : ∃ i : Nat, iz = (i : Int) := ⟨iz.toNat, by omega⟩
            have hi00 : (0 : Int) ≤ (i : Int) := by omega
            have hil : (i : Int) < (l.length : Int) := by omega
            have hij : i + j + 1 = l.length := by omega
            obtain ⟨x, hx, htk⟩ := take_rev hij
            have hi : i < l.length := by omega
            have hxe : atF l i = x := by rw [atF_eq hi]; rw [List.getElem?_eq_getElem hi] at hx; exact Option.some.inj hx
            have BWr : Hid (Below w.heap.size w wr) := BW0.out.trans (HBr.out.mono BW0.out.size)
            have HIN := Lib.hid (in_yes x _ O wr (by rw [← hxe]; exact (HL.out _ BWr.out).each i hi) (HO.out _ (HB0.out.trans (HBr.out.mono HB0.out.size))) ((HTO.out.same _).2 (List.mem_map.2 ⟨x, List.mem_of_getElem? hx, rfl⟩)))
            obtain ⟨a2, c2, e2, _, _, hk2⟩ := (HL.out _ (Below.refl _ _)).form
            cases e2
            obtain ⟨g, off, rfl, hg, hKS⟩ := hk2 (by omega)
            have hrg := hKS i hi
            rw [hxe] at hrg
            have HLD : Hid (∀ u, Below w.heap.size w u → (loadVar 29 ⟨g, off + i * 2, none⟩).run Tryz.prog u = .ok (.agg #[.string x.pr, .slice x.a x.vs.length x.c]) u) := fun u hu => load_Fac (range_below hrg hu hg) rfl
            have HLA : Hid (∀ u, Below w.heap.size w u → (loadVar 27 ⟨g, off + i * 2 + 1, none⟩).run Tryz.prog u = .ok (.slice x.a x.vs.length x.c) u) := fun u hu => load_Tup ((range_below hrg hu hg) 1 _ rfl)
            have HTK := Lib.hid htk
            have ld0 := HLD.out _ BWr.out
            have HIZ := Lib.hid hiz
            have hi0i : i ≤ 2000 := by omega
            have hjb : j + 1 ≤ l.length := by omega
            clear hKS hk2 hrg hxe hx htk hiz hij
            go_wp2_with fail
            refine HIN.out.mono ?_
            rintro e w5 ⟨rfl, b5⟩
            have BW5 : Hid (Below w.heap.size w w5) := BWr.out.trans (b5.mono BWr.out.size)
            have HB5 : Hid (Below W0.heap.size W0 w5) := HBr.out.trans (b5.mono HBr.out.size)
            obtain ⟨ab', cb', W6, an', cn', W7, at2, ct', W8, r6, r7, r8, hT8, hbel⟩ := (HT.out.below b5).push HB5.out.size x (by omega)
            rw [hjl] at r6 r7 r8 hT8
            obtain ⟨bb6, bb7, bb8⟩ := hbel W0 HB5.out
            have HT8 : Hid (Tri W0.heap.size (l.reverse.take (j + 1)) (.slice ab' (j + 1) cb') (.slice an' (j + 1) cn') (.slice at2 (j + 1) ct') W8) := by
              show Tri _ _ _ _ _ _
              rw [HTK.out]
              exact hT8
            have ld5 := HLD.out _ BW5.out
            have ld6 := HLA.out _ (BW0.out.trans (bb6.mono BW0.out.size))
            have ld7 := HLA.out _ (BW0.out.trans (bb7.mono BW0.out.size))
            have HB8 := Lib.hid bb8
            have hws : IntKind.i64.wrap ((i : Int) - 1) = (i : Int) - 1 := wrap_mid (by omega) (by omega)
            clear b5 hT8 hbel bb6 bb7 bb8 HT HIN HLD HLA ld0 HTK HB5
            go_wp2
            go_roundw
            case rel => exact ⟨j + 1, _, ab', an', at2, cb', cn', ct', by omega, rfl, by have := HIZ.out; omega, rfl, rfl, rfl, HT8, HB8⟩
            case measure => first | (simp [intOf]; done) | (simp [intOf]; omega)
          · obtain rfl : j = l.length := by omega
            obtain rfl : iz = -1 := by omega
            have hrt : l.reverse.take l.length = l.reverse := by rw [← List.length_reverse, List.take_length]
            have BWr : Hid (Below w.heap.size w wr) := BW0.out.trans (HBr.out.mono BW0.out.size)
            have BWO : Hid (Below W.heap.size W wr) := HB0.out.trans (HBr.out.mono HB0.out.size)
            have HTR : Hid (Tri W0.heap.size l.reverse (.slice ab l.length cb) (.slice an l.length cn) (.slice at' l.length ct) wr) := by
              have := HT.out
              rw [hrt] at this
              exact this
            have hrl : l.reverse.length = l.length := List.length_reverse
            have HRS : Hid (∀ (f : XF → XF), (∀ x, (f x).vs = x.vs) → ∀ i, i < (l.reverse.map f).length → (atF (l.reverse.map f) i).vs.length ≤ 1048576) := fun f hf i hi => by
              have hi2 : i < l.reverse.length := by simpa using hi
              rw [atF_eq hi, List.getElem_map, hf]
              exact mem_small HSL.out (List.mem_reverse.1 (List.getElem_mem hi2))
            have HFR : Hid (∀ u, Below w.heap.size w u → ∀ x ∈ l, FIs u x) := fun u hu x hx => lf_mem (HL.out u hu) hx
            have HLB : Hid (∀ u, Below w.heap.size w u → u.ownsRow W0.heap.size 29 2 (.slice ab l.length cb) l.reverse.length (l.reverse.flatMap XF.cells) → Lf u (.slice ab l.length cb) l.reverse) := fun u hu ho => ⟨ls_own ho, fun i hi => by rw [atF_eq hi]; exact HFR.out u hu _ (List.mem_reverse.1 (List.getElem_mem hi))⟩
            clear HT hiz hjl hrt
            have HT1 := Lib.hid (twin_facts (.slice ab l.length cb) l.reverse wr (HG.out _ BWr.out).pw (by rw [hrl]; exact HSL.out.len) (fun i hi => by have := HRS.out id (fun _ => rfl) i (by simpa using hi); simpa using this) (HLB.out _ BWr.out HTR.out.ob))
            rw [hrl] at HT1
            go_wp2_with fail
            refine HT1.out.mono ?_
            rintro e x1 ⟨aP, rfl, bx1, hF1⟩
            have HF1 := Lib.hid hF1
            have X1 := Lib.hid bx1
            clear bx1 hF1 HT1
            go_wp2_with fail
            refine HF1.out.mono ?_
            rintro e x2 ⟨aQ, cQ, P, rfl, bx2, tP, lP⟩
            have X2 : Hid (Below wr.heap.size wr x2) := X1.out.trans (bx2.mono X1.out.size)
            have HKP : Hid (P.map XF.key = O.map XF.key) := (tP.of (fun k => by simp [List.mem_map])).eq HTO.out
            have HS1 := Lib.hid (sameFs_same _ _ P O x2 lP (HO.out _ (BWO.out.trans (X2.out.mono BWO.out.size))) HKP.out)
            clear bx2 tP lP HF1 X1 HKP
            go_wp2_with fail
            refine HS1.out.mono ?_
            rintro e x3 ⟨rfl, bx3⟩
            have X3 : Hid (Below wr.heap.size wr x3) := X2.out.trans (bx3.mono X2.out.size)
            have BX3 : Hid (Below w.heap.size w x3) := BWr.out.trans (X3.out.mono BWr.out.size)
            have HTx := Lib.hid (HTR.out.below X3.out)
            obtain ⟨v4, x4, hr4, ho4, hg4, hl4⟩ := run_app_ls (w := x3) (b := W0.heap.size) 22 22 29 i0 _ Tryz.underlying22 hi0 hz0 hz1 hz2 rfl (by decide) HTx.out.ob (HL.out _ BX3.out).lies (flat_len XF.cells 2 (fun _ => rfl) l) (cellsF_one l) (by unfold maxLen; omega) (by omega) (by have := HBr.out.size; have := X3.out.size; omega)
            rw [hrl] at ho4
            obtain ⟨a4, c4, rfl, _⟩ := own_form ho4
            have hll2 : (l.reverse ++ l).length = l.length + l.length := by simp
            have BX4 : Hid (Below w.heap.size w x4) := BX3.out.grown hg4 (by have := BX3.out.size; omega) (fun j hj => by have := (HTx.out.ob.lt j hj).1; have := BW0.out.size; omega)
            have BO4 : Hid (Below W.heap.size W x4) := (BWO.out.trans (X3.out.mono BWO.out.size)).grown hg4 (by have := BWO.out.size; have := X3.out.size; omega) (fun j hj => by have := (HTx.out.ob.lt j hj).1; have := HB0.out.size; omega)
            have HN4 := Lib.hid (own_grow HTx.out.on hg4 HTx.out.bn.flip)
            have HU4 := Lib.hid (own_grow HTx.out.ot hg4 HTx.out.bt.flip)
            have HL4 : Hid (Lf x4 (.slice a4 (l.length + l.length) c4) (l.reverse ++ l)) := ⟨by rw [hll2, List.flatMap_append]; exact ls_own ho4, fun i hi => by
              rw [atF_eq hi]
              rcases List.mem_append.1 (List.getElem_mem hi) with h | h
              · exact HFR.out _ BX4.out _ (List.mem_reverse.1 h)
              · exact HFR.out _ BX4.out _ h⟩
            have HT5 := Lib.hid (twin_facts (.slice a4 (l.length + l.length) c4) (l.reverse ++ l) x4 (HG.out _ BX4.out).pw (by rw [hll2]; omega) (fun i hi => by
              rw [atF_eq hi]
              rcases List.mem_append.1 (List.getElem_mem hi) with h | h
              · exact mem_small HSL.out (List.mem_reverse.1 h)
              · exact mem_small HSL.out h) HL4.out)
            rw [hll2] at HT5
            clear bx3 HS1 X2 ho4 hg4 hl4 HTx HL4 X3 BX3
            go_wp2_with fail
            refine HT5.out.mono ?_
            rintro e x5 ⟨aR, rfl, bx5, hF5⟩
            have HF5 := Lib.hid hF5
            have X5 := Lib.hid bx5
            clear bx5 hF5 HT5
            go_wp2_with fail
            refine HF5.out.mono ?_
            rintro e x6 ⟨aV, cV, V6, rfl, bx6, tV, lV⟩
            have X6 : Hid (Below x4.heap.size x4 x6) := X5.out.trans (bx6.mono X5.out.size)
            have HKV : Hid (V6.map XF.key = O.map XF.key) := (tV.of (fun k => by simp [List.mem_map])).eq HTO.out
            have HS6 := Lib.hid (sameFs_same _ _ V6 O x6 lV (HO.out _ (BO4.out.trans (X6.out.mono BO4.out.size))) HKV.out)
            clear bx6 tV lV HF5 X5 HKV
            go_wp2_with fail
            refine HS6.out.mono ?_
            rintro e x7 ⟨rfl, bx7⟩
            have X7 : Hid (Below x4.heap.size x4 x7) := X6.out.trans (bx7.mono X6.out.size)
            have BX7 : Hid (Below w.heap.size w x7) := BX4.out.trans (X7.out.mono BX4.out.size)
            have hnl : (l.reverse.map XF.nm).length = l.length := by simp
            have htl : (l.reverse.map XF.tu).length = l.length := by simp
            have HL7 : Hid (Lf x7 (.slice an l.length cn) (l.reverse.map XF.nm)) := ⟨by rw [hnl, ← hrl]; have := ls_own (own_below HN4.out X7.out); rw [hrl] at this ⊢; exact this, fun i hi => by
              rw [atF_eq hi, List.getElem_map]
              have := HFR.out _ BX7.out _ (List.mem_reverse.1 (List.getElem_mem (show i < l.reverse.length by simpa using hi)))
              exact ⟨by show (1 : Nat) ≤ _; unfold maxLen; omega, this.ln, this.vs⟩⟩
            have HT7 := Lib.hid (twin_facts (.slice an l.length cn) (l.reverse.map XF.nm) x7 (HG.out _ BX7.out).pw (by rw [hnl]; exact HSL.out.len) (HRS.out XF.nm (fun _ => rfl)) HL7.out)
            rw [hnl] at HT7
            clear bx7 HS6 X6 HL7
            go_wp2_with fail
            refine HT7.out.mono ?_
            rintro e x8 ⟨aS, rfl, bx8, hF8⟩
            have HF8 := Lib.hid hF8
            have X8 : Hid (Below x4.heap.size x4 x8) := X7.out.trans (bx8.mono X7.out.size)
            clear bx8 hF8 HT7
            go_wp2_with fail
            refine HF8.out.mono ?_
            rintro e x9 ⟨aA, cA, A, rfl, bx9, tA, lA⟩
            have X9 : Hid (Below x4.heap.size x4 x9) := X8.out.trans (bx9.mono X8.out.size)
            have BX9 : Hid (Below w.heap.size w x9) := BX4.out.trans (X9.out.mono BX4.out.size)
            have HTA := Lib.hid tA
            have HA : Hid (∀ u, Below x9.heap.size x9 u → Lf u (.slice aA A.length cA) A) := fun u hu => lA.below hu
            have HL9 : Hid (Lu x9 (.slice at' l.length ct) (l.reverse.map XF.tu)) := ⟨by rw [htl, ← hrl]; have := ls_own (own_below HU4.out X9.out); rw [hrl] at this ⊢; exact this, fun y hy => by
              obtain ⟨z, hz, rfl⟩ := List.mem_map.1 hy
              have := HFR.out _ BX9.out z (List.mem_reverse.1 hz)
              exact ⟨⟨by show (0 : Nat) ≤ _; omega, this.ln, this.vs⟩, rfl⟩⟩
            have HT9 := Lib.hid (twin_tuples (.slice at' l.length ct) (l.reverse.map XF.tu) x9 (by rw [htl]; exact HSL.out.len) (HRS.out XF.tu (fun _ => rfl)) HL9.out)
            rw [htl] at HT9
            clear bx9 HF8 X8 HL9 tA lA
            go_wp2_with fail
            refine HT9.out.mono ?_
            rintro e y1 ⟨aU, rfl, by1, hG1⟩
            have HG1 := Lib.hid hG1
            have Y1 := Lib.hid by1
            clear by1 hG1 HT9
            go_wp2_with fail
            refine HG1.out.mono ?_
            rintro e Y ⟨aD, cD, D, rfl, by2, tD, lD⟩
            have Y2 : Hid (Below x9.heap.size x9 Y) := Y1.out.trans (by2.mono Y1.out.size)
            have BY : Hid (Below w.heap.size w Y) := BX9.out.trans (Y2.out.mono BX9.out.size)
            obtain ⟨hDl, hDe⟩ := told_named HTA.out tD
            have HDE := Lib.hid hDe
            have HAY : Hid (∀ u, Below Y.heap.size Y u → Lf u (.slice aA A.length cA) A) := fun u hu => HA.out u (Y2.out.trans (hu.mono Y2.out.size))
            have HDY : Hid (∀ u, Below Y.heap.size Y u → Lu u (.slice aD D.length cD) D) := fun u hu => lD.below hu
            rw [hDl] at HDY
            have hAm : A.length ≤ maxLen := by obtain ⟨a3, c3, e3, q1, q2, _⟩ := (HAY.out _ (Below.refl _ _)).form; cases e3; omega
            unfold maxLen at hAm
            have HDL := Lib.hid hDl
            rw [hDl]
            clear by2 tD lD HG1 Y1 HA hDe hDl
            go_wp2
            go_loopw [11] (fun i wr => ∃ k : Nat, k ≤ A.length ∧ i = .int .i64 k ∧ Below Y.heap.size Y wr) (fun i _ => A.length - (intOf i).toNat)
            case atStart => exact ⟨0, Nat.zero_le _, rfl, Below.refl _ _⟩
            case round =>
              obtain ⟨k, hk, rfl, bel⟩ := hrel
              by_cases hlt : k < A.length
              · have hlt' : (k : Int) < (A.length : Int) := by omega
                obtain ⟨a3, c3, e3, _, _, hk3⟩ := (HAY.out _ (Below.refl _ _)).form
                cases e3
                obtain ⟨g, off, rfl, hg, hKS⟩ := hk3 (by omega)
                obtain ⟨a5, c5, e5, _, _, hk5⟩ := (HDY.out _ (Below.refl _ _)).form
                simp only [Value.slice.injEq] at e5
                obtain ⟨rfl, _, rfl⟩ := e5
                obtain ⟨h, off2, rfl, hh, hKT⟩ := hk5 (by have := HDL.out; omega)
                obtain ⟨hpr, hvs⟩ := HDE.out k hlt
                have hkD : k < D.length := by have := HDL.out; omega
                have LP : Hid (∀ u, Below Y.heap.size Y u → (loadVar 9 ⟨g, off + k * 2, none⟩).run Tryz.prog u = .ok (.string ⟨#[112]⟩) u) := fun u hu => load_Str (by have := (range_below (hKS k hlt) hu hg) 0 _ rfl; rw [hpr] at this; exact this)
                have LX : Hid (∀ u, Below Y.heap.size Y u → (loadVar 27 ⟨g, off + k * 2 + 1, none⟩).run Tryz.prog u = .ok (atF A k).tcell u) := fun u hu => load_Tup ((range_below (hKS k hlt) hu hg) 1 _ rfl)
                have LY : Hid (∀ u, Below Y.heap.size Y u → (loadVar 27 ⟨h, off2 + k, none⟩).run Tryz.prog u = .ok (atF D k).tcell u) := fun u hu => load_Tup (by rw [hu.cell (p := ⟨h, off2 + k, none⟩) hh]; exact hKT k hkD)
                have KS : Hid (∀ u, Below Y.heap.size Y u → Calls Tryz.prog 13 #[(atF A k).tcell, (atF D k).tcell] u fun r w' => r = .returned (.bool true) ∧ Below u.heap.size u w') := fun u hu => by
                  have g1 := ((HAY.out u hu).each k hlt).vs
                  have g2 := ((HDY.out u hu).at hkD).1.vs
                  unfold XF.tcell
                  rw [← hvs] at g2 ⊢
                  exact sameV_same _ _ _ u g1 g2
                have HBL := Lib.hid bel
                clear hKS hKT hk3 hk5 hpr hvs bel
                go_wp2_with fail
                refine region_R (fun u => Below Y.heap.size Y u) ?_
                apply Exists.intro
                refine ⟨?_, ?_⟩
                · refine wp_region_noPanic ?_
                  refine wp_region_held (S := fun u => Below Y.heap.size Y u) (by kernel_rfl) ?_
                  refine sreg30 (w5 := wr) (S := fun u => Below Y.heap.size Y u) (g := g) (off := off) (n := A.length) (cc := cA) (h := h) (off2 := off2) (m := A.length) (cm := cD) (i := k) (X := (atF A k).tcell) (Y := (atF D k).tcell) rfl rfl rfl rfl rfl rfl rfl rfl rfl rfl rfl rfl rfl rfl rfl rfl rfl rfl rfl (by kernel_rfl) (by kernel_rfl) (by kernel_rfl) (by kernel_rfl) (fun _ _ _ _ _ h => h) (by simp) rfl rfl rfl HBL.out.drew (fun u u' h b => h.trans (b.mono h.size)) hlt hlt LP.out LX.out LY.out KS.out ?_
                  intro wf hS
                  exact NoPanic.normal ⟨rfl, rfl, hS⟩
                intro w10 hb10
                simp (config := { maxSteps := 10000000 }) only [Act.put, List.getElem_toArray, List.getElem_cons_zero, List.getElem_cons_succ, List.setIfInBounds_toArray, List.set_cons_succ, List.set_cons_zero]
                have HBN := Lib.hid hb10
                clear hb10 HBL LP LX LY KS
                go_wp2
                go_roundw
                case rel => exact ⟨k + 1, by omega, by go_num, HBN.out⟩
                case measure => simp [intOf]; omega
              · obtain rfl : k = A.length := by omega
                have HE : Hid (Below w.heap.size w wr) := BY.out.trans (bel.mono BY.out.size)
                go_wp2
                go_ret
                exact ⟨rfl, HE.out⟩
end Go.Proofs.YtkcipmbgapdkjaaGreatDoor
