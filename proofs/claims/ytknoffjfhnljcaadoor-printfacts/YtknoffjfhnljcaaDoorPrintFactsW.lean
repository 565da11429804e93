import Derived.Test.YtknoffjfhnljcaaDoorFaSwap
namespace Go.Proofs.YtknoffjfhnljcaaDoor
open Go.RowKit Go.Maps
set_option linter.unusedVariables false
set_option linter.unusedSimpArgs false
attribute [local go_sem ↓] Go.wp_at_zero Go.wp_at_succ
attribute [-go_sem] loadVar storeVar

theorem TwG.lr {w w0 : World} {lo : Nat} {l l' : List XF} {a : Option Addr} {c : Nat} {v : Value} (h : TwG w lo l' a c) (hl : LikeG l l') (h0 : Lf w0 v l) (hs : smallF l) : Lf w (.slice a l'.length c) l' := by
  have hcap := h.cap
  obtain ⟨g, ha, hg, _, hk⟩ := h.range
  have hll := hs.len
  have h2 := hl.len
  refine ⟨?_, fun i hi => ?_⟩
  · rw [ha, hcap]
    exact ls_of_range (f := XF.cells) (k := 2) (by omega) (fun _ => rfl) XF0 (by omega) (by unfold maxLen; omega) hg hk
  · have hi' : i < l.length := by omega
    exact (h.each i hi).is (hl.each i hi') (h0.each i hi') (hs.each i hi')
/-- the copy behind all swaps, read as a list -/
theorem rev_lr {w w0 : World} {g : Nat} {l l' : List XF} {v : Value} (hr : w.rowIs g 31 ((l'.length + 1) * 2) (rowF 2 (swF l' (l'.length / 2)))) (ht : ∀ i, i < l'.length → TwF w (g + 1) (atF l' i)) (hl : LikeG l l') (h0 : Lf w0 v l) (hs : smallF l) : Lf w (.slice (some ⟨g, 0, none⟩) l'.reverse.length (l'.length + 1)) l'.reverse := by
  have hll := hs.len
  have h2 := hl.len
  refine ⟨?_, fun i hi => ?_⟩
  · refine ls_of_range (f := XF.cells) (k := 2) (by omega) (fun _ => rfl) XF0 (by simp) (by unfold maxLen; omega) (World.rowIs.lt hr) (fun i hi => ?_)
    rw [List.length_reverse] at hi
    have := rowF_range hr rfl (i := i) (by omega) (by rw [swF_end hi]; rfl)
    rw [swF_end hi] at this
    exact this
  · rw [List.length_reverse] at hi
    rw [atF_rev hi]
    have hi' : l'.length - 1 - i < l.length := by omega
    exact (ht _ (by omega)).is (hl.each _ hi') (h0.each _ hi') (hs.each _ hi')
set_option maxHeartbeats 6400000 in
set_option maxRecDepth 20000 in
theorem printFacts_walk (l : List XF) (a : Option Addr) (c : Nat) (w : World) (hG : Gf w) (hll : l.length ≤ 281474976710656) (hL : Lf w (.slice a l.length c) l) :
    Calls Tryd.prog 3 #[.slice a l.length c] w fun e w' => e = .returned (.bool true) ∧ Below w.heap.size w w' := by
  have HG : Hid (∀ u, Below w.heap.size w u → Gf u) := fun u hu => hG.below hu
  have HX : Hid (∀ u, Below w.heap.size w u → Lf u (.slice a l.length c) l) := fun u hu => hL.below hu
  have HBY : Hid _ := beyondFacts_any _ l w hll hL
  obtain ⟨st, er, hs⟩ : ∃ st er, toldF (okF l) (txtF l) = .tuple #[.string st, .int .i64 er] := by unfold toldF; split <;> exact ⟨_, _, rfl⟩
  have HS : Hid _ := hs
  have e1 : (st.toList != st.toList) = false := by simp
  have e2 : (er != er) = false := by simp
  clear hG hL hs
  go_enter Tryd.func3, Tryd.ntmps3
  go_wp2_with fail
  refine Calls.mono HBY.out ?_
  rintro e w1 ⟨bb, rfl, b1, hsm⟩
  have B1 : Hid (Below w.heap.size w w1) := b1
  have HSM : Hid _ := hsm
  clear hsm b1 HBY
  cases bb
  · have hsm2 : smallF l := HSM.out (by first | rfl | trivial)
    have HSL : Hid (smallF l) := hsm2
    have hln := hsm2.len
    clear hsm2 HSM
    have HTW0 : Hid _ := twinFs_any _ l w1 (HG.out _ B1.out).gp.pw HSL.out.len HSL.out.each (HX.out _ B1.out)
    go_wp2_with fail
    refine Calls.mono HTW0.out ?_
    rintro e w2 ⟨a', l', rfl, b2, hl', hx', htw⟩
    have B2 : Hid (Below w.heap.size w w2) := B1.out.trans (b2.mono B1.out.size)
    have HTW : Hid (TwG w2 w1.heap.size l' a' (l.length + 1)) := htw
    have HLK : Hid (LikeG l l') := ⟨hl', hx'⟩
    obtain ⟨g, ha, hlo, hgw, _⟩ := htw.lies
    subst ha
    have hgl : w.heap.size ≤ g := Nat.le_trans B1.out.size hlo
    clear b2 htw hx' HTW0 hlo
    have HHR : Hid _ := r6Facts_any _ l w2 (HX.out _ B2.out) HSL.out
    rw [HS.out] at HHR
    go_wp2_with fail
    refine Calls.mono HHR.out ?_
    rintro e w4 ⟨rfl, b4⟩
    have B4 : Hid (Below w.heap.size w w4) := B2.out.trans (b4.mono B2.out.size)
    have HT4 : Hid (TwG w4 w1.heap.size l' (some ⟨g, 0, none⟩) (l.length + 1)) := HTW.out.below b4
    clear b4 HHR HTW
    have HHT : Hid _ := pFacts_any _ l' w4 (HG.out _ B4.out) (HT4.out.lr HLK.out (HX.out _ B4.out) HSL.out) (HLK.out.small HSL.out)
    rw [HLK.out.ok, HLK.out.txt, HS.out, hl'] at HHT
    go_wp2_with fail
    refine Calls.mono HHT.out ?_
    rintro e w5 ⟨rfl, b5⟩
    have B5 : Hid (Below w.heap.size w w5) := B4.out.trans (b5.mono B4.out.size)
    have HT5 : Hid (TwG w5 w1.heap.size l' (some ⟨g, 0, none⟩) (l.length + 1)) := HT4.out.below b5
    have HLf : Hid _ := leftFs_any l l' (some ⟨g, 0, none⟩) a (l.length + 1) c w1.heap.size w5 hl' HLK.out.each HSL.out (HG.out _ B5.out).gp.pw HT5.out (HX.out _ B5.out)
    clear b5 HHT HT4 B4
    go_wp2_with fail
    refine Calls.mono HLf.out ?_
    rintro e w6 ⟨rfl, b6⟩
    have B6 : Hid (Below w.heap.size w w6) := B5.out.trans (b6.mono B5.out.size)
    have HT6 : Hid (TwG w6 w1.heap.size l' (some ⟨g, 0, none⟩) (l.length + 1)) := HT5.out.below b6
    have HRw : Hid (w6.rowIs g 31 ((l'.length + 1) * 2) (rowF 2 (swF l' 0))) := by
      obtain ⟨g', hg', _, _, hr⟩ := HT6.out.lies
      have e : g = g' := by simpa using congrArg Addr.block (Option.some.inj hg')
      subst e
      exact World.rowIs.congr hr (swF_0 l')
    have HTR : Hid (∀ i, i < l'.length → TwF w6 (g + 1) (atF l' i)) := HT6.out.apart g rfl
    clear b6 HLf HT5 B5 hgw HT6
    have hq2 : (l.length : Int) / 2 = ((l.length / 2 : Nat) : Int) := by omega
    have hq3 : Int.tdiv (l.length : Int) 2 = ((l.length / 2 : Nat) : Int) := by rw [Int.tdiv_eq_ediv_of_nonneg (by omega)]; omega
    obtain ⟨hf, hhf⟩ : ∃ hf, l.length / 2 = hf := ⟨_, rfl⟩
    rw [hhf] at hq2 hq3
    have hfl : hf ≤ l.length := by omega
    have HHF : Hid _ := hhf
    clear hhf
    go_wp2
    go_loopw [8] (fun i wr => ∃ k : Nat, k ≤ hf ∧ i = .int .i64 k ∧ Below w.heap.size w wr ∧ Hid (wr.rowIs g 31 ((l'.length + 1) * 2) (rowF 2 (swF l' k))) ∧ Hid (∀ i, i < l'.length → TwF wr (g + 1) (atF l' i))) (fun i _ => hf - (intOf i).toNat)
    case atStart => exact ⟨0, Nat.zero_le _, rfl, B6.out, HRw, HTR⟩
    case round =>
      obtain ⟨k, hk, rfl, bel, HR, HT⟩ := hrel
      clear HRw HTR
      by_cases hlt : k < hf
      · have hlt' : (k : Int) < (hf : Int) := by omega
        have hk2 : k < l'.length / 2 := by rw [hl', HHF.out]; exact hlt
        obtain ⟨m, hm⟩ : ∃ m, l'.length - 1 - k = m := ⟨_, rfl⟩
        have hmk : (l.length : Int) - 1 - (k : Int) = (m : Int) := by omega
        have hm1 : (m : Int) < (l.length : Int) := by omega
        have hk1 : (k : Int) < (l.length : Int) := by omega
        have hrow := HR.out
        have hldk := load_Fac (u := wr.drew) (rowF_range (World.rowIs.drew hrow) rfl (i := k) (by omega) (by unfold swF; rw [if_neg (by omega)]; rfl)) (by unfold swF; rw [if_neg (by omega)]; rfl)
        have hldm := load_Fac (u := wr.drew) (rowF_range (World.rowIs.drew hrow) rfl (i := m) (by omega) (by unfold swF; rw [if_neg (by omega)]; rfl)) (by unfold swF; rw [if_neg (by omega)]; rfl)
        have ek : swF l' k k = (atF l' k).cells := by unfold swF; rw [if_neg (by omega), sw_i hk2]
        have em : swF l' k m = (atF l' m).cells := by unfold swF; rw [if_neg (by omega), ← hm, sw_k hk2]
        rw [ek] at hldk
        rw [em] at hldm
        obtain ⟨hA, hB⟩ := sw_row hk2 (World.rowIs.drew hrow)
        rw [hm] at hA hB
        have hs1 := store_Fac (rowF_there (World.rowIs.drew hrow) rfl (i := k) (by omega)) (cs := (atF l' m).cells) rfl (oneCells_fact _)
        have hs2 := store_Fac (u := wr.drew.setCells g (k * 2) (atF l' m).cells) (rowF_there (rowF_set (k := k) (by decide) (World.rowIs.drew hrow) (atF l' m).cells rfl) rfl (i := m) (by omega)) (cs := (atF l' k).cells) rfl (oneCells_fact _)
        have hs3 := store_Fac (rowF_there (World.rowIs.drew hrow) rfl (i := m) (by omega)) (cs := (atF l' k).cells) rfl (oneCells_fact _)
        have hs4 := store_Fac (u := wr.drew.setCells g (m * 2) (atF l' k).cells) (rowF_there (rowF_set (k := m) (by decide) (World.rowIs.drew hrow) (atF l' k).cells rfl) rfl (i := k) (by omega)) (cs := (atF l' m).cells) rfl (oneCells_fact _)
        have HA : Hid (((wr.drew.setCells g (k * 2) (atF l' m).cells).setCells g (m * 2) (atF l' k).cells).rowIs g 31 ((l'.length + 1) * 2) (rowF 2 (swF l' (k + 1))) ∧ Below w.heap.size w ((wr.drew.setCells g (k * 2) (atF l' m).cells).setCells g (m * 2) (atF l' k).cells) ∧ ∀ i, i < l'.length → TwF ((wr.drew.setCells g (k * 2) (atF l' m).cells).setCells g (m * 2) (atF l' k).cells) (g + 1) (atF l' i)) := ⟨hA, below_setCells hgl _ _ _ (below_setCells hgl _ _ _ bel.drew), fun i hi => twF_setCells (by omega) _ _ _ (twF_setCells (by omega) _ _ _ ((HT.out i hi).below (Below.refl _ _).drew))⟩
        have HB : Hid (((wr.drew.setCells g (m * 2) (atF l' k).cells).setCells g (k * 2) (atF l' m).cells).rowIs g 31 ((l'.length + 1) * 2) (rowF 2 (swF l' (k + 1))) ∧ Below w.heap.size w ((wr.drew.setCells g (m * 2) (atF l' k).cells).setCells g (k * 2) (atF l' m).cells) ∧ ∀ i, i < l'.length → TwF ((wr.drew.setCells g (m * 2) (atF l' k).cells).setCells g (k * 2) (atF l' m).cells) (g + 1) (atF l' i)) := ⟨hB, below_setCells hgl _ _ _ (below_setCells hgl _ _ _ bel.drew), fun i hi => twF_setCells (by omega) _ _ _ (twF_setCells (by omega) _ _ _ ((HT.out i hi).below (Below.refl _ _).drew))⟩
        generalize (wr.drew.setCells g (k * 2) (atF l' m).cells).setCells g (m * 2) (atF l' k).cells = WA at hs2 HA
        generalize (wr.drew.setCells g (m * 2) (atF l' k).cells).setCells g (k * 2) (atF l' m).cells = WB at hs4 HB
        generalize wr.drew.setCells g (k * 2) (atF l' m).cells = W1 at hs1 hs2
        generalize wr.drew.setCells g (m * 2) (atF l' k).cells = W2 at hs3 hs4
        generalize Value.agg (atF l' k).cells.toArray = KV at hldk hs2 hs3
        generalize Value.agg (atF l' m).cells.toArray = MV at hldm hs1 hs4
        clear hrow hA hB ek em HT HR hk2 hm bel
        go_wp2_with fail
        go_region
        all_goals
          go_wp2
          go_roundw
          case rel => first | exact ⟨k + 1, by omega, by go_num, HA.out.2.1, HA.out.1, HA.out.2.2⟩ | exact ⟨k + 1, by omega, by go_num, HB.out.2.1, HB.out.1, HB.out.2.2⟩
          case measure => simp [intOf]; omega
      · obtain rfl : k = hf := by omega
        have HRV : Hid (Lf wr (.slice (some ⟨g, 0, none⟩) l.length (l.length + 1)) l'.reverse) := by
          have h1 := HR.out
          rw [show k = l'.length / 2 by rw [hl', HHF.out]] at h1
          have := rev_lr h1 HT.out HLK.out (HX.out _ bel) HSL.out
          rw [List.length_reverse, hl'] at this
          exact this
        have HSR : Hid (smallF l'.reverse) := small_rev (HLK.out.small HSL.out)
        have hrl : l'.reverse.length = l.length := by rw [List.length_reverse]; exact hl'
        obtain ⟨rl, hrl0⟩ : ∃ rl, l'.reverse = rl := ⟨_, rfl⟩
        rw [hrl0] at HRV HSR hrl
        have Bw : Hid _ := bel
        clear HR HT hrl0 bel
        obtain ⟨s2, er2, hs2⟩ : ∃ st er, toldF (okF rl) (txtF rl) = .tuple #[.string st, .int .i64 er] := by unfold toldF; split <;> exact ⟨_, _, rfl⟩
        have HS2 : Hid _ := hs2
        have e3 : (s2.toList == s2.toList) = true := by simp
        have e4 : (er2 == er2) = true := by simp
        have HTW3 : Hid _ := twinFs_any _ rl wr (HG.out _ Bw.out).gp.pw HSR.out.len HSR.out.each HRV.out
        rw [hrl] at HTW3
        clear hs2 e1 e2
        go_wp2_with fail
        refine Calls.mono HTW3.out ?_
        rintro e w7 ⟨a7, l7, rfl, b7, hl7, hx7, ht7⟩
        have B7 : Hid (Below w.heap.size w w7) := Bw.out.trans (b7.mono Bw.out.size)
        have HL7 : Hid (LikeG rl l7) := ⟨hl7.trans hrl.symm, fun i hi => hx7 i (by omega)⟩
        have HRV7 : Hid (Lf w7 (.slice (some ⟨g, 0, none⟩) l.length (l.length + 1)) rl) := HRV.out.below b7
        have HLr7 : Hid (Lf w7 (.slice a7 l.length (l.length + 1)) l7) := by
          have := ht7.lr HL7.out HRV7.out HSR.out
          rw [hl7] at this
          exact this
        have HP7 : Hid _ := r6Facts_any _ l7 w7 HLr7.out (HL7.out.small HSR.out)
        rw [HL7.out.ok, HL7.out.txt, HS2.out] at HP7
        clear b7 hl7 hx7 ht7 HTW3 HRV
        go_wp2_with fail
        refine Calls.mono HP7.out ?_
        rintro e w8 ⟨rfl, b8⟩
        have B8 : Hid (Below w.heap.size w w8) := B7.out.trans (b8.mono B7.out.size)
        have HRV8 : Hid (Lf w8 (.slice (some ⟨g, 0, none⟩) l.length (l.length + 1)) rl) := HRV7.out.below b8
        have HP8 : Hid _ := pFacts_any _ rl w8 (HG.out _ B8.out) HRV8.out HSR.out
        rw [HS2.out] at HP8
        clear b8 HP7 HRV7 HLr7
        go_wp2_with fail
        refine Calls.mono HP8.out ?_
        rintro e w9 ⟨rfl, b9⟩
        have B9 : Hid (Below w.heap.size w w9) := B8.out.trans (b9.mono B8.out.size)
        clear b9 HP8 HRV8
        go_wp2_with (go_at_call 9; refine (lives_any _ (HG.out _ B9.out).gp).mono ?_; rintro r w10 ⟨rfl, b10⟩)
        go_ret
        exact ⟨rfl, B9.out.trans (b10.mono B9.out.size)⟩
  · go_wp2
    go_ret
    exact ⟨rfl, B1.out⟩
end Go.Proofs.YtknoffjfhnljcaaDoor
