import Derived.Test.YtjjjnpmppblchaaGreatDoorPgB
namespace Go.Proofs.YtjjjnpmppblchaaGreatDoor
open Go.RowKit Go.Maps
set_option linter.unusedVariables false
set_option linter.unusedSimpArgs false
attribute [local go_sem ↓] Go.wp_at_zero Go.wp_at_succ

theorem LikeR.text {r s : R3} (h : LikeR r s) : ruleT s = ruleT r := by
  have e : txB s.bd = txB r.bd := by
    have h1 : ∀ l : List XL, txB l = (l.map XL.x).map litT := fun l => by simp [txB]
    rw [h1, h1, h.map]
  unfold ruleT bodyT
  rw [h.pr, h.hd, h.bl, e]
/-- two lists of rules that differ in where their lists lie alone -/
structure LikeS (l s : List XR) : Prop where
  len : s.length = l.length
  each : ∀ i, i < l.length → LikeR (atR l i).r (atR s i).r
theorem LikeS.mapf {α : Type} {l s : List XR} (h : LikeS l s) (f : R3 → α) (hf : ∀ r s', LikeR r s' → f s' = f r) : s.map (fun y => f y.r) = l.map (fun y => f y.r) := by
  refine List.ext_getElem (by simp [h.len]) fun i h1 h2 => ?_
  simp only [List.length_map] at h1 h2
  have := hf _ _ (h.each i h2)
  rw [atR_eq h1, atR_eq h2] at this
  simpa using this
theorem LikeS.ok {l s : List XR} (h : LikeS l s) (d : Nat) : okS d s = okS d l := by
  have e : ∀ m : List XR, okS d m = (m.map (fun y => ruleB d y.r)).all id := fun m => by unfold okS; rw [List.all_map]; rfl
  rw [e, e, h.mapf (ruleB d) (fun _ _ h => h.ruleB d)]
theorem LikeS.txt {l s : List XR} (h : LikeS l s) : txtS s = txtS l := by
  have e : ∀ m : List XR, txtS m = (m.map (fun y => ruleT y.r)).flatMap (fun t => t ++ [10]) := fun m => by unfold txtS; rw [List.flatMap_map]; rfl
  rw [e, e, h.mapf ruleT (fun _ _ h => h.text)]
theorem LikeS.small {l s : List XR} (h : LikeS l s) {d : Nat} (hs : smallS d l) : smallS d s := by
  refine ⟨by rw [h.len]; exact hs.len, fun i hi => (h.each i (by rw [← h.len]; exact hi)).small (hs.each i (by rw [← h.len]; exact hi)), ?_⟩
  have e : ∀ m : List XR, m.flatMap (fun y => termsR d y.r) = (m.map (fun y => termsR d y.r)).flatMap id := fun m => by rw [List.flatMap_map]; rfl
  rw [e, h.mapf (termsR d) (fun _ _ h => h.terms d), ← e]
  exact hs.terms
theorem atR_rev {l : List XR} {i : Nat} (h : i < l.length) : atR l.reverse i = atR l (l.length - 1 - i) := by
  rw [atR_eq (by simpa using h), atR_eq (by omega), List.getElem_reverse]
theorem small_rev {d : Nat} {l : List XR} (hs : smallS d l) : smallS d l.reverse := by
  refine ⟨by simpa using hs.len, fun i hi => ?_, ?_⟩
  · rw [List.length_reverse] at hi
    rw [atR_rev hi]
    exact hs.each _ (by omega)
  · have : (l.reverse.flatMap (fun y => termsR d y.r)).length = (l.flatMap (fun y => termsR d y.r)).length := by
      rw [List.flatMap_reverse, List.length_reverse, List.length_flatMap, List.length_flatMap]
      congr 1
      refine List.map_congr_left fun y _ => ?_
      simp
    rw [this]
    exact hs.terms
/-- what stands at j behind i swaps -/
def swA (l : List XR) (i j : Nat) : XR := if j < i ∨ l.length ≤ i + j then atR l (l.length - 1 - j) else atR l j
def swF (l : List XR) (i : Nat) : Nat → List Value := fun j => if j = l.length then [.string markW, .slice none 0 0, .slice none 0 0] else (swA l i j).cells
theorem swF_0 (l : List XR) : ∀ j, j < (l.length + 1) * 3 → rowF 3 (fun i => if i = l.length then [.string markW, .slice none 0 0, .slice none 0 0] else (atR l i).cells) j = rowF 3 (swF l 0) j := fun j hj => by
  unfold rowF swF swA
  by_cases e : j / 3 = l.length
  · simp only [if_pos e]
  · simp only [if_neg e]
    rw [if_neg (by omega)]
theorem sw_i {l : List XR} {i : Nat} (h : i < l.length / 2) : swA l i i = atR l i := by unfold swA; rw [if_neg (by omega)]
theorem sw_k {l : List XR} {i : Nat} (h : i < l.length / 2) : swA l i (l.length - 1 - i) = atR l (l.length - 1 - i) := by unfold swA; rw [if_neg (by omega)]
theorem swF_step {l : List XR} {i : Nat} (h : i < l.length / 2) (j : Nat) (hj : j < l.length + 1) : (if j = i then (atR l (l.length - 1 - i)).cells else if j = l.length - 1 - i then (atR l i).cells else swF l i j) = swF l (i + 1) j := by
  unfold swF
  by_cases e1 : j = i
  · rw [if_pos e1, if_neg (by omega)]
    unfold swA
    rw [if_pos (by omega), e1]
  · rw [if_neg e1]
    by_cases e2 : j = l.length - 1 - i
    · rw [if_pos e2, if_neg (by omega)]
      unfold swA
      rw [if_pos (by omega), e2, show l.length - 1 - (l.length - 1 - i) = i by omega]
    · rw [if_neg e2]
      by_cases e3 : j = l.length
      · rw [if_pos e3, if_pos e3]
      · rw [if_neg e3, if_neg e3]
        unfold swA
        by_cases e4 : j < i ∨ l.length ≤ i + j
        · rw [if_pos e4, if_pos (by omega)]
        · rw [if_neg e4, if_neg (by omega)]
theorem swF_end {l : List XR} {j : Nat} (hj : j < l.length) : swF l (l.length / 2) j = (atR l.reverse j).cells := by
  unfold swF
  rw [if_neg (by omega), atR_rev hj]
  unfold swA
  by_cases e : j < l.length / 2 ∨ l.length ≤ l.length / 2 + j
  · rw [if_pos e]
  · rw [if_neg e, show l.length - 1 - j = j by omega]
theorem sw_row {w : World} {b : Nat} {l : List XR} {i : Nat} (h : i < l.length / 2) (hr : w.rowIs b 34 ((l.length + 1) * 3) (rowF 3 (swF l i))) :
    ((w.setCells b (i * 3) (atR l (l.length - 1 - i)).cells).setCells b ((l.length - 1 - i) * 3) (atR l i).cells).rowIs b 34 ((l.length + 1) * 3) (rowF 3 (swF l (i + 1)))
    ∧ ((w.setCells b ((l.length - 1 - i) * 3) (atR l i).cells).setCells b (i * 3) (atR l (l.length - 1 - i)).cells).rowIs b 34 ((l.length + 1) * 3) (rowF 3 (swF l (i + 1))) := by
  refine ⟨?_, ?_⟩
  · refine (rowF_set (k := l.length - 1 - i) (by decide) (rowF_set (k := i) (by decide) hr (atR l (l.length - 1 - i)).cells rfl) (atR l i).cells rfl).congr fun j hj => ?_
    have := swF_step h (j / 3) (by omega)
    unfold rowF
    rw [← this]
    by_cases e1 : j / 3 = i
    · simp only [if_pos e1, if_neg (show ¬ j / 3 = l.length - 1 - i by omega)]
    · simp only [if_neg e1]
  · refine (rowF_set (k := i) (by decide) (rowF_set (k := l.length - 1 - i) (by decide) hr (atR l i).cells rfl) (atR l (l.length - 1 - i)).cells rfl).congr fun j hj => ?_
    have := swF_step h (j / 3) (by omega)
    unfold rowF
    rw [← this]
open Go.RowKit Go.Maps
set_option linter.unusedVariables false
set_option linter.unusedSimpArgs false
attribute [local go_sem ↓] Go.wp_at_zero Go.wp_at_succ
attribute [-go_sem] loadVar storeVar

theorem TwS.lr {w w0 : World} {lo d : Nat} {l l' : List XR} {a : Option Addr} {c : Nat} {v : Value} (h : TwS w lo d l' a c) (hl : LikeS l l') (h0 : Lr w0 v d l) (hs : smallS d l) : Lr w (.slice a l'.length c) d l' := by
  have hcap := h.cap
  obtain ⟨g, ha, hg, _, hk⟩ := h.range
  have hll := hs.len
  have h2 := hl.len
  refine ⟨?_, fun i hi => ?_⟩
  · rw [ha, hcap]
    exact ls_of_range (f := XR.cells) (k := 3) (by omega) (fun _ => rfl) XR0 (by omega) (by unfold maxLen; omega) hg hk
  · have hi' : i < l.length := by omega
    exact (h.each i hi).is (hl.each i hi') (h0.each i hi') (hs.each i hi')
/-- the copy behind all swaps, read as a list -/
theorem rev_lr {w w0 : World} {d g : Nat} {l l' : List XR} {v : Value} (hr : w.rowIs g 34 ((l'.length + 1) * 3) (rowF 3 (swF l' (l'.length / 2)))) (ht : ∀ i, i < l'.length → TwR w (g + 1) d (atR l' i).r (atR l' i).p) (hl : LikeS l l') (h0 : Lr w0 v d l) (hs : smallS d l) : Lr w (.slice (some ⟨g, 0, none⟩) l'.reverse.length (l'.length + 1)) d l'.reverse := by
  have hll := hs.len
  have h2 := hl.len
  refine ⟨?_, fun i hi => ?_⟩
  · refine ls_of_range (f := XR.cells) (k := 3) (by omega) (fun _ => rfl) XR0 (by simp) (by unfold maxLen; omega) (World.rowIs.lt hr) (fun i hi => ?_)
    rw [List.length_reverse] at hi
    have := rowF_range hr rfl (i := i) (by omega) (by rw [swF_end hi]; rfl)
    rw [swF_end hi] at this
    exact this
  · rw [List.length_reverse] at hi
    rw [atR_rev hi]
    have hi' : l'.length - 1 - i < l.length := by omega
    exact (ht _ (by omega)).is (hl.each _ hi') (h0.each _ hi') (hs.each _ hi')
set_option maxHeartbeats 6400000 in
set_option maxRecDepth 20000 in
theorem printPrograms_walk (d : Nat) (l : List XR) (a : Option Addr) (c : Nat) (w : World) (hG : Gr w) (hll : l.length ≤ 281474976710656) (hL : Lr w (.slice a l.length c) (d + 1) l) :
    Calls Tryz.prog 3 #[.slice a l.length c] w fun e w' => e = .returned (.bool true) ∧ Below w.heap.size w w' := by
  have HG : Hid (∀ u, Below w.heap.size w u → Gr u) := fun u hu => hG.below hu
  have HX : Hid (∀ u, Below w.heap.size w u → Lr u (.slice a l.length c) (d + 1) l) := fun u hu => hL.below hu
  have HBY : Hid _ := beyondRules_any (d + 1) _ l w hll hL
  obtain ⟨st, er, hs⟩ : ∃ st er, toldV (okS (d + 1) l) (txtS l) = .tuple #[.string st, .int .i64 er] := by unfold toldV; split <;> exact ⟨_, _, rfl⟩
  have HS : Hid _ := hs
  have e1 : (st.toList != st.toList) = false := by simp
  have e2 : (er != er) = false := by simp
  clear hG hL hs
  go_enter Tryz.func3, Tryz.ntmps3
  go_wp2_with fail
  refine Calls.mono HBY.out ?_
  rintro e w1 ⟨bb, rfl, b1, hsm⟩
  have B1 : Hid (Below w.heap.size w w1) := b1
  have HSM : Hid _ := hsm
  clear hsm b1 HBY
  cases bb
  · have hsm2 : smallS (d + 1) l := HSM.out (by first | rfl | trivial)
    have HSL : Hid (smallS (d + 1) l) := hsm2
    have hln := hsm2.len
    clear hsm2 HSM
    have HTW0 : Hid _ := twinRules_any (d + 1) _ l w1 (HG.out _ B1.out).gq.gp.pw HSL.out.len HSL.out.each (HX.out _ B1.out)
    go_wp2_with fail
    refine Calls.mono HTW0.out ?_
    rintro e w2 ⟨a', l', rfl, b2, hl', hx', htw⟩
    have B2 : Hid (Below w.heap.size w w2) := B1.out.trans (b2.mono B1.out.size)
    have HTW : Hid (TwS w2 w1.heap.size (d + 1) l' a' (l.length + 1)) := htw
    have HLK : Hid (LikeS l l') := ⟨hl', hx'⟩
    obtain ⟨g, ha, hlo, hgw, _⟩ := htw.lies
    subst ha
    have hgl : w.heap.size ≤ g := Nat.le_trans B1.out.size hlo
    clear b2 htw hx' HTW0 hlo
    have HHR : Hid _ := r6Program_any (d + 1) _ l w2 (HX.out _ B2.out) HSL.out
    rw [HS.out] at HHR
    go_wp2_with fail
    refine Calls.mono HHR.out ?_
    rintro e w4 ⟨rfl, b4⟩
    have B4 : Hid (Below w.heap.size w w4) := B2.out.trans (b4.mono B2.out.size)
    have HT4 : Hid (TwS w4 w1.heap.size (d + 1) l' (some ⟨g, 0, none⟩) (l.length + 1)) := HTW.out.below b4
    clear b4 HHR HTW
    have HHT : Hid _ := pProgram_any (d + 1) _ l' w4 (HG.out _ B4.out) (HT4.out.lr HLK.out (HX.out _ B4.out) HSL.out) (HLK.out.small HSL.out)
    rw [HLK.out.ok, HLK.out.txt, HS.out, hl'] at HHT
    go_wp2_with fail
    refine Calls.mono HHT.out ?_
    rintro e w5 ⟨rfl, b5⟩
    have B5 : Hid (Below w.heap.size w w5) := B4.out.trans (b5.mono B4.out.size)
    have HT5 : Hid (TwS w5 w1.heap.size (d + 1) l' (some ⟨g, 0, none⟩) (l.length + 1)) := HT4.out.below b5
    have HLf : Hid _ := leftRules_any (d + 1) l l' (some ⟨g, 0, none⟩) a (l.length + 1) c w1.heap.size w5 hl' HLK.out.each HSL.out (HG.out _ B5.out).gq.gp.pw HT5.out (HX.out _ B5.out)
    clear b5 HHT HT4 B4
    go_wp2_with fail
    refine Calls.mono HLf.out ?_
    rintro e w6 ⟨rfl, b6⟩
    have B6 : Hid (Below w.heap.size w w6) := B5.out.trans (b6.mono B5.out.size)
    have HT6 : Hid (TwS w6 w1.heap.size (d + 1) l' (some ⟨g, 0, none⟩) (l.length + 1)) := HT5.out.below b6
    have HRw : Hid (w6.rowIs g 34 ((l'.length + 1) * 3) (rowF 3 (swF l' 0))) := by
      obtain ⟨g', hg', _, _, hr⟩ := HT6.out.lies
      have e : g = g' := by simpa using congrArg Addr.block (Option.some.inj hg')
      subst e
      exact World.rowIs.congr hr (swF_0 l')
    have HTR : Hid (∀ i, i < l'.length → TwR w6 (g + 1) (d + 1) (atR l' i).r (atR l' i).p) := HT6.out.apart g rfl
    clear b6 HLf HT5 B5 hgw HT6
    have hq2 : (l.length : Int) / 2 = ((l.length / 2 : Nat) : Int) := by omega
    have hq3 : Int.tdiv (l.length : Int) 2 = ((l.length / 2 : Nat) : Int) := by rw [Int.tdiv_eq_ediv_of_nonneg (by omega)]; omega
    obtain ⟨hf, hhf⟩ : ∃ hf, l.length / 2 = hf := ⟨_, rfl⟩
    rw [hhf] at hq2 hq3
    have hfl : hf ≤ l.length := by omega
    have HHF : Hid _ := hhf
    clear hhf
    go_wp2
    go_loopw [8] (fun i wr => ∃ k : Nat, k ≤ hf ∧ i = .int .i64 k ∧ Below w.heap.size w wr ∧ Hid (wr.rowIs g 34 ((l'.length + 1) * 3) (rowF 3 (swF l' k))) ∧ Hid (∀ i, i < l'.length → TwR wr (g + 1) (d + 1) (atR l' i).r (atR l' i).p)) (fun i _ => hf - (intOf i).toNat)
    case atStart => exact ⟨0, Nat.zero_le _, rfl, B6.out, HRw, HTR⟩
    case round =>
      obtain ⟨k, hk, rfl, bel, HR, HT⟩ := hrel
      clear HRw HTR
      by_cases hlt : k < hf
      · have hlt' : (k : Int) < (hf : Int) := by omega
        have hk2 : k < l'.length / 2 := by rw [hl', HHF.out]; exact hlt
        obtain ⟨m, hm⟩ : ∃ m, l'.length - 1 - k = m := ⟨_, rfl⟩
        have hmk : (l.length : Int) - 1 - (k : Int) = (m : Int) := by omega
        have hm1 : (m : Int) < (l.length : Int) := by omega
        have hk1 : (k : Int) < (l.length : Int) := by omega
        have hrow := HR.out
        have hldk := load_Rul (u := wr.drew) (rowF_range (World.rowIs.drew hrow) rfl (i := k) (by omega) (by unfold swF; rw [if_neg (by omega)]; rfl)) (by unfold swF; rw [if_neg (by omega)]; rfl)
        have hldm := load_Rul (u := wr.drew) (rowF_range (World.rowIs.drew hrow) rfl (i := m) (by omega) (by unfold swF; rw [if_neg (by omega)]; rfl)) (by unfold swF; rw [if_neg (by omega)]; rfl)
        have ek : swF l' k k = (atR l' k).cells := by unfold swF; rw [if_neg (by omega), sw_i hk2]
        have em : swF l' k m = (atR l' m).cells := by unfold swF; rw [if_neg (by omega), ← hm, sw_k hk2]
        rw [ek] at hldk
        rw [em] at hldm
        obtain ⟨hA, hB⟩ := sw_row hk2 (World.rowIs.drew hrow)
        rw [hm] at hA hB
        have hs1 := store_Rul (rowF_there (World.rowIs.drew hrow) rfl (i := k) (by omega)) (cs := (atR l' m).cells) rfl (oneCells_rule _)
        have hs2 := store_Rul (u := wr.drew.setCells g (k * 3) (atR l' m).cells) (rowF_there (rowF_set (k := k) (by decide) (World.rowIs.drew hrow) (atR l' m).cells rfl) rfl (i := m) (by omega)) (cs := (atR l' k).cells) rfl (oneCells_rule _)
        have hs3 := store_Rul (rowF_there (World.rowIs.drew hrow) rfl (i := m) (by omega)) (cs := (atR l' k).cells) rfl (oneCells_rule _)
        have hs4 := store_Rul (u := wr.drew.setCells g (m * 3) (atR l' k).cells) (rowF_there (rowF_set (k := m) (by decide) (World.rowIs.drew hrow) (atR l' k).cells rfl) rfl (i := k) (by omega)) (cs := (atR l' m).cells) rfl (oneCells_rule _)
        have HA : Hid (((wr.drew.setCells g (k * 3) (atR l' m).cells).setCells g (m * 3) (atR l' k).cells).rowIs g 34 ((l'.length + 1) * 3) (rowF 3 (swF l' (k + 1))) ∧ Below w.heap.size w ((wr.drew.setCells g (k * 3) (atR l' m).cells).setCells g (m * 3) (atR l' k).cells) ∧ ∀ i, i < l'.length → TwR ((wr.drew.setCells g (k * 3) (atR l' m).cells).setCells g (m * 3) (atR l' k).cells) (g + 1) (d + 1) (atR l' i).r (atR l' i).p) := ⟨hA, below_setCells hgl _ _ _ (below_setCells hgl _ _ _ bel.drew), fun i hi => twR_setCells (by omega) _ _ _ (twR_setCells (by omega) _ _ _ ((HT.out i hi).below (Below.refl _ _).drew))⟩
        have HB : Hid (((wr.drew.setCells g (m * 3) (atR l' k).cells).setCells g (k * 3) (atR l' m).cells).rowIs g 34 ((l'.length + 1) * 3) (rowF 3 (swF l' (k + 1))) ∧ Below w.heap.size w ((wr.drew.setCells g (m * 3) (atR l' k).cells).setCells g (k * 3) (atR l' m).cells) ∧ ∀ i, i < l'.length → TwR ((wr.drew.setCells g (m * 3) (atR l' k).cells).setCells g (k * 3) (atR l' m).cells) (g + 1) (d + 1) (atR l' i).r (atR l' i).p) := ⟨hB, below_setCells hgl _ _ _ (below_setCells hgl _ _ _ bel.drew), fun i hi => twR_setCells (by omega) _ _ _ (twR_setCells (by omega) _ _ _ ((HT.out i hi).below (Below.refl _ _).drew))⟩
        generalize (wr.drew.setCells g (k * 3) (atR l' m).cells).setCells g (m * 3) (atR l' k).cells = WA at hs2 HA
        generalize (wr.drew.setCells g (m * 3) (atR l' k).cells).setCells g (k * 3) (atR l' m).cells = WB at hs4 HB
        generalize wr.drew.setCells g (k * 3) (atR l' m).cells = W1 at hs1 hs2
        generalize wr.drew.setCells g (m * 3) (atR l' k).cells = W2 at hs3 hs4
        generalize Value.agg (atR l' k).cells.toArray = KV at hldk hs2 hs3
        generalize Value.agg (atR l' m).cells.toArray = MV at hldm hs1 hs4
        clear hrow hA hB ek em HT HR hk2 hm bel
        go_wp2_with fail
        go_region
        all_goals
          go_wp2
          go_roundw
          case rel => first | exact ⟨k + 1, by omega, by go_num, HA.out.2.1, HA.out.1, HA.out.2.2⟩ | exact ⟨k + 1, by omega, by go_num, HB.out.2.1, HB.out.1, HB.out.2.2⟩
          case measure => simp [intOf]; omega
      · obtain rfl : k = hf := by omega
        have HRV : Hid (Lr wr (.slice (some ⟨g, 0, none⟩) l.length (l.length + 1)) (d + 1) l'.reverse) := by
          have h1 := HR.out
          rw [show k = l'.length / 2 by rw [hl', HHF.out]] at h1
          have := rev_lr h1 HT.out HLK.out (HX.out _ bel) HSL.out
          rw [List.length_reverse, hl'] at this
          exact this
        have HSR : Hid (smallS (d + 1) l'.reverse) := small_rev (HLK.out.small HSL.out)
        have hrl : l'.reverse.length = l.length := by rw [List.length_reverse]; exact hl'
        obtain ⟨rl, hrl0⟩ : ∃ rl, l'.reverse = rl := ⟨_, rfl⟩
        rw [hrl0] at HRV HSR hrl
        have Bw : Hid _ := bel
        clear HR HT hrl0 bel
        obtain ⟨s2, er2, hs2⟩ : ∃ st er, toldV (okS (d + 1) rl) (txtS rl) = .tuple #[.string st, .int .i64 er] := by unfold toldV; split <;> exact ⟨_, _, rfl⟩
        have HS2 : Hid _ := hs2
        have e3 : (s2.toList == s2.toList) = true := by simp
        have e4 : (er2 == er2) = true := by simp
        have HTW3 : Hid _ := twinRules_any (d + 1) _ rl wr (HG.out _ Bw.out).gq.gp.pw HSR.out.len HSR.out.each HRV.out
        rw [hrl] at HTW3
        clear hs2 e1 e2
        go_wp2_with fail
        refine Calls.mono HTW3.out ?_
        rintro e w7 ⟨a7, l7, rfl, b7, hl7, hx7, ht7⟩
        have B7 : Hid (Below w.heap.size w w7) := Bw.out.trans (b7.mono Bw.out.size)
        have HL7 : Hid (LikeS rl l7) := ⟨hl7.trans hrl.symm, fun i hi => hx7 i (by omega)⟩
        have HRV7 : Hid (Lr w7 (.slice (some ⟨g, 0, none⟩) l.length (l.length + 1)) (d + 1) rl) := HRV.out.below b7
        have HLr7 : Hid (Lr w7 (.slice a7 l.length (l.length + 1)) (d + 1) l7) := by
          have := ht7.lr HL7.out HRV7.out HSR.out
          rw [hl7] at this
          exact this
        have HP7 : Hid _ := r6Program_any (d + 1) _ l7 w7 HLr7.out (HL7.out.small HSR.out)
        rw [HL7.out.ok, HL7.out.txt, HS2.out] at HP7
        clear b7 hl7 hx7 ht7 HTW3 HRV
        go_wp2_with fail
        refine Calls.mono HP7.out ?_
        rintro e w8 ⟨rfl, b8⟩
        have B8 : Hid (Below w.heap.size w w8) := B7.out.trans (b8.mono B7.out.size)
        have HRV8 : Hid (Lr w8 (.slice (some ⟨g, 0, none⟩) l.length (l.length + 1)) (d + 1) rl) := HRV7.out.below b8
        have HP8 : Hid _ := pProgram_any (d + 1) _ rl w8 (HG.out _ B8.out) HRV8.out HSR.out
        rw [HS2.out] at HP8
        clear b8 HP7 HRV7 HLr7
        go_wp2_with fail
        refine Calls.mono HP8.out ?_
        rintro e w9 ⟨rfl, b9⟩
        have B9 : Hid (Below w.heap.size w w9) := B8.out.trans (b9.mono B8.out.size)
        clear b9 HP8 HRV8
        go_wp2_with (go_at_call 9; refine (lives_any _ (HG.out _ B9.out).gq.gp).mono ?_; rintro r w10 ⟨rfl, b10⟩)
        go_ret
        exact ⟨rfl, B9.out.trans (b10.mono B9.out.size)⟩
  · go_wp2
    go_ret
    exact ⟨rfl, B1.out⟩
end Go.Proofs.YtjjjnpmppblchaaGreatDoor
