import Derived.Test.YtejfcdhdbpijjaaGreatDoorG28
import Derived.Test.YtejfcdhdbpijjaaGreatDoorG30
import Derived.Test.YtejfcdhdbpijjaaGreatDoorG36
section
namespace Go.Proofs.YtejfcdhdbpijjaaGreatDoor
open Go.RowKit Go.Maps
set_option linter.unusedVariables false
set_option linter.unusedSimpArgs false
attribute [local go_sem ↓] Go.wp_at_zero Go.wp_at_succ

def factB (y : XF) : Bool := nameB y.pr && (decide (y.vs.length ≤ 24) && y.vs.all okV)
def errF (b : Bool) : Int := if b then 0 else 10
theorem allV_not {l : List V} {k : Nat} (h : k < l.length) (hn : okV (atV l k) = false) : l.all okV = false := by
  rw [← Bool.not_eq_true]
  intro ha
  rw [List.all_eq_true] at ha
  rw [atV_eq h] at hn
  rw [ha _ (List.getElem_mem h)] at hn
  cases hn
theorem allV_take {l : List V} {k : Nat} (h : k < l.length) : (l.take (k + 1)).all okV = ((l.take k).all okV && okV (atV l k)) := by
  have e : l.take (k + 1) = l.take k ++ [l[k]] := by rw [List.take_add_one, List.getElem?_eq_getElem h]; rfl
  rw [e, List.all_append, atV_eq h]
  simp
theorem chk_ten (k n : Int) (s : ByteArray) : chk k n s = 0 ∨ chk k n s = 10 := by
  unfold chk
  split <;> simp
set_option maxHeartbeats 1600000 in
theorem checkFact_any (y : XF) (w : World) (hG : LX.Gl w) (hF : FIs w y) :
    Calls Tryz.prog 17 #[y.val] w fun e w' => e = .returned (.int .i64 (errF (factB y))) ∧ Below w.heap.size w w' := by
  have HA : Hid (factB y = (nameB y.pr && (decide (y.vs.length ≤ 24) && y.vs.all okV))) := rfl
  obtain ⟨fb, hfb⟩ : ∃ fb, factB y = fb := ⟨_, rfl⟩
  rw [hfb] at HA ⊢
  obtain ⟨pr, vs, a, c⟩ := y
  have hpb := hF.pb
  have hll := hF.ln
  have hwf := hF.vs.wf
  obtain ⟨a1, c1, e1, hc1, hc2, hat⟩ := hF.vs.form
  dsimp only at HA hpb hll hwf e1 hc1 hc2 hat
  cases e1
  unfold XF.val
  dsimp only
  have BA := (Below.refl w.heap.size w).alloc (Nat.le_refl _) (.cells #[.string pr, .slice a vs.length c] 78)
  have c1 : (w.alloc (.cells #[.string pr, .slice a vs.length c] 78)).cell? ⟨w.heap.size, 1, none⟩ = some (.slice a vs.length c) := by go_simp
  have HAT : Hid _ := hat
  have HWF : Hid _ := hwf
  have HG0 : Hid (LX.Gl (w.alloc (.cells #[.string pr, .slice a vs.length c] 78))) := hG.below BA
  clear hF hat hwf hfb hc1 hc2
  go_enter Tryz.func17, Tryz.ntmps17
  go_wp2_with fail
  refine (LX.lexName_any pr _ HG0.out hpb).mono ?_
  rintro e w1 ⟨rfl, b1⟩
  have b1' : Below w.heap.size w w1 := BA.trans (b1.mono BA.size)
  have x1 : w1.cell? ⟨w.heap.size, 1, none⟩ = some (.slice a vs.length c) := by rw [b1.cell (p := ⟨w.heap.size, 1, none⟩) (by simp)]; exact c1
  have hs1 : w.heap.size < w1.heap.size := World.block_lt_of_cell? _ _ x1
  clear b1 c1 BA
  cases hn : nameB pr
  · have HF : Hid (fb = false) := by show fb = false; rw [HA.out, hn]; rfl
    go_wp2
    go_ret
    exact ⟨(by rw [HF.out]; rfl), b1'⟩
  · by_cases h24 : vs.length ≤ 24
    · have h24' : (vs.length : Int) ≤ 24 := by omega
      have HB : Hid (fb = vs.all okV) := by show fb = _; rw [HA.out, hn, decide_eq_true h24]; simp
      have HX1 : Hid _ := x1
      go_wp2
      go_loopw [19] (fun i wr => ∃ k : Nat, k ≤ vs.length ∧ i = .int .i64 k ∧ Below (w.heap.size + 1) w1 wr ∧ Hid ((vs.take k).all okV = true)) (fun i _ => vs.length - (intOf i).toNat)
      case atStart => exact ⟨0, Nat.zero_le _, rfl, Below.refl _ _, by simp [Hid]⟩
      case round =>
        obtain ⟨k, hk, rfl, belq, HS⟩ := hrel
        clear x1
        have d1 : wr.cell? ⟨w.heap.size, 1, none⟩ = some (.slice a vs.length c) := by rw [belq.cell (p := ⟨w.heap.size, 1, none⟩) (by simp)]; exact HX1.out
        have bel : Below w.heap.size w wr := b1'.trans (belq.mono (by omega))
        have hsz := belq.size
        by_cases hlt : k < vs.length
        · have hlt' : (k : Int) < (vs.length : Int) := by omega
          obtain ⟨g, off, rfl, hg, hT⟩ := HAT.out (by omega)
          obtain ⟨x0, x1, x2⟩ := (hT k hlt).below bel hg
          have htw : (atV vs k).wf := by rw [atV_eq hlt]; exact HWF.out _ (List.getElem_mem hlt)
          have HN : Hid (okV (atV vs k) = false → fb = false) := fun h => by rw [HB.out]; exact allV_not hlt h
          have HY : Hid (okV (atV vs k) = true → (vs.take (k + 1)).all okV = true) := fun h => by rw [allV_take hlt, HS.out, h]; rfl
          have HCV : Hid (okV (atV vs k) = (chk (atV vs k).k (atV vs k).n (atV vs k).s == 0)) := rfl
          generalize atV vs k = t at x0 x1 x2 htw HN HY HCV
          have hc2 := chk_ten t.k t.n t.s
          have HC : Hid (∀ u, Calls Tryz.prog 40 #[.agg #[.int .i8 t.k, .int .i64 t.n, .string t.s]] u fun e w' => e = .returned (.int .i64 (chk t.k t.n t.s)) ∧ Below u.heap.size u w') := fun u => vcheck_any t.k t.n t.s u htw.text
          generalize chk t.k t.n t.s = ck at hc2 HC HCV
          clear hT
          go_wp2_with fail
          refine Calls.mono (HC.out _) ?_
          rintro e w2 ⟨rfl, b2⟩
          have hsz2 : w.heap.size + 1 ≤ wr.heap.size := by omega
          have b2' : Below (w.heap.size + 1) w1 w2 := (belq.alloc hsz2 (.cells #[.int .i8 t.k, .int .i64 t.n, .string t.s] 55)).trans (b2.mono (by simp; omega))
          have b3' : Below w.heap.size w w2 := b1'.trans (b2'.mono (by omega))
          clear b2 d1
          rcases hc2 with rfl | rfl
          · have HO : Hid _ := HY.out HCV.out
            go_wp2
            go_roundw
            case rel => exact ⟨k + 1, by omega, by go_num, b2', HO⟩
            case measure => simp [intOf]; omega
          · have HF : Hid (fb = false) := HN.out HCV.out
            go_wp2
            go_ret
            exact ⟨(by rw [HF.out]; rfl), b3'⟩
        · obtain rfl : k = vs.length := by omega
          have HF : Hid (fb = true) := by show fb = true; rw [HB.out, ← HS.out, List.take_length]
          go_wp2
          go_ret
          exact ⟨(by rw [HF.out]; rfl), bel⟩
    · have h24' : (24 : Int) < (vs.length : Int) := by omega
      have HF : Hid (fb = false) := by show fb = false; rw [HA.out, decide_eq_false h24]; simp
      go_wp2
      go_ret
      exact ⟨(by rw [HF.out]; rfl), b1'⟩
end Go.Proofs.YtejfcdhdbpijjaaGreatDoor
end
section
namespace Go.Proofs.YtejfcdhdbpijjaaGreatDoor
open Go.RowKit Go.Maps
set_option linter.unusedVariables false
set_option linter.unusedSimpArgs false
attribute [local go_sem ↓] Go.wp_at_zero Go.wp_at_succ
attribute [-go_sem] loadVar storeVar Builtin.append_

/-- the error of the first rule that has one -/
def jrE (d : Nat) (F : R3 → List ByteArray) : List XR → Int
  | [] => 0
  | y :: l => if ruE d y.r (F y.r) = 0 then jrE d F l else ruE d y.r (F y.r)
/-- behind the rules -/
def tlE (rs : List XR) (fs : List XF) : Int := if fs.all factB = true then (if (letL [] (psS rs fs)).isSome = true then 0 else 72) else 10
def jobE (d : Nat) (F : R3 → List ByteArray) (rs : List XR) (fs : List XF) : Int := if jrE d F rs = 0 then tlE rs fs else jrE d F rs
theorem jr_drop {d : Nat} {F : R3 → List ByteArray} {rs : List XR} {k : Nat} (h : k < rs.length) : jrE d F (rs.drop k) = if ruE d (atR rs k).r (F (atR rs k).r) = 0 then jrE d F (rs.drop (k + 1)) else ruE d (atR rs k).r (F (atR rs k).r) := by
  rw [List.drop_eq_getElem_cons h, ← atR_eq h]
  rfl
theorem allF_not {l : List XF} {k : Nat} (h : k < l.length) (hn : factB (atF l k) = false) : l.all factB = false := by
  rw [← Bool.not_eq_true]
  intro ha
  have := List.all_eq_true.1 ha (atF l k) (by rw [atF_eq h]; exact List.getElem_mem h)
  rw [hn] at this
  cases this
theorem allF_take {l : List XF} {k : Nat} (h : k < l.length) : (l.take (k + 1)).all factB = ((l.take k).all factB && factB (atF l k)) := by
  have e : l.take (k + 1) = l.take k ++ [l[k]] := by rw [List.take_add_one, List.getElem?_eq_getElem h]; rfl
  rw [e, List.all_append, atF_eq h]
  simp
theorem both_none {rs : List XR} {fs : List XF} : (meetL [] (psS rs fs)).isSome = (letL [] (psS rs fs)).isSome := by
  have h := both_meet (psS rs fs) [] [] (List.Perm.refl _) (by simp [Up])
  generalize letL [] (psS rs fs) = a at h ⊢
  generalize meetL [] (psS rs fs) = b at h ⊢
  cases h <;> rfl
set_option maxHeartbeats 6400000 in
set_option maxRecDepth 100000 in
theorem ckJob_any (d : Nat) (F : R3 → List ByteArray) (hF0 : ∀ r, Lim (eqL (d + 1) r.bd) (atN r.bd) (F r)) (rs : List XR) (fs : List XF) (ra : Option Addr) (rc : Nat) (vf : Value) (w : World) (hG : KT w ∧ LX.Gl w) (hR : Lr w (.slice ra rs.length rc) (d + 1) rs) (hF : Lf w vf fs) (hsm : ∀ i, i < rs.length → smallR (d + 1) (atR rs i).r) (hlen : (psS rs fs).length ≤ 100000000) :
    Calls Tryz.prog 7 #[.slice ra rs.length rc, vf] w fun e w' => e = .returned (.int .i64 (jobE (d + 1) F rs fs)) ∧ Below w.heap.size w w' := by
  have HRE : Hid (∀ i, i < rs.length → ∀ u, Below w.heap.size w u → RIs u (d + 1) (atR rs i).r (atR rs i).p) := fun i hi u hu => (hR.each i hi).below hu
  have HFE : Hid (∀ i, i < fs.length → ∀ u, Below w.heap.size w u → FIs u (atF fs i)) := fun i hi u hu => (hF.each i hi).below hu
  have HG : Hid (∀ u, Below w.heap.size w u → KT u ∧ LX.Gl u) := fun u hu => ⟨hG.1.below hu, hG.2.below hu⟩
  have HPR : Hid (∀ u, Below w.heap.size w u → Calls Tryz.prog 12 #[.agg #[.slice ra rs.length rc], vf] u fun e w' => PsP u.heap.size u (letL [] (psS rs fs)) e w') := fun u hu => predsP_any (d + 1) rs fs ra rc vf u (hR.below hu) (hF.below hu) (fun i hi => (hsm i hi).bd) hlen
  obtain ⟨ra', rc', hv, hr1, hr2, hrat⟩ := hR.form
  injection hv with hv1 _ hv2
  subst hv1 hv2
  obtain ⟨fa, fc, rfl, hf1, hf2, hfat⟩ := hF.form
  have hmr : rs.length ≤ maxLen := Nat.le_trans hr1 hr2
  have hmf : fs.length ≤ maxLen := Nat.le_trans hf1 hf2
  unfold maxLen at hmr hmf
  have HRA := Lib.hid hrat
  have HFA := Lib.hid hfat
  have HSM := Lib.hid hsm
  have HLM := Lib.hid hF0
  obtain ⟨er, her⟩ : ∃ er, jobE (d + 1) F rs fs = er := ⟨_, rfl⟩
  rw [her]
  have HER := Lib.hid her
  clear hrat hfat hsm hR hF hG hF0 her
  go_enter Tryz.func7, Tryz.ntmps7
  go_wp2
  go_loopw [15] (fun i wr => ∃ (k : Nat), k ≤ rs.length ∧ i = .int .i64 k ∧ Hid (jrE (d + 1) F rs = jrE (d + 1) F (rs.drop k)) ∧ Hid (Below w.heap.size w wr)) (fun i _ => rs.length - (intOf i).toNat)
  case atStart => exact ⟨0, Nat.zero_le _, rfl, rfl, Below.refl _ _⟩
  case round =>
    obtain ⟨k, hk, rfl, HJ, HB⟩ := hrel
    obtain ⟨U, rfl⟩ : ∃ U, U = wr := ⟨_, rfl⟩
    by_cases hlt : k < rs.length
    · have hlt' : (k : Int) < (rs.length : Int) := by omega
      have hk0 : (0 : Int) ≤ (k : Int) := by omega
      obtain ⟨g, off, rfl, hg, hT⟩ := HRA.out (by omega)
      have r1 := range_below (hT k hlt) HB.out hg
      have HJD := Lib.hid (jr_drop (d := d + 1) (F := F) hlt)
      rw [← HJ.out] at HJD
      have HRI := Lib.hid (HRE.out k hlt)
      have HSR := Lib.hid (HSM.out k hlt)
      obtain ⟨y, hy⟩ : ∃ y, atR rs k = y := ⟨_, rfl⟩
      rw [hy] at r1 HJD HRI HSR
      have hld := load_Rul r1 rfl
      have hst := rule_storeP U y
      have BA := belowA (w := U) (.cells y.cells.toArray 72)
      have hl8 := load_boxR (rl_new U y.cells.toArray 72)
      have HB2 : Hid (Below w.heap.size w (U.alloc (.cells y.cells.toArray 72))) := HB.out.trans (BA.mono HB.out.size)
      clear hT r1 hy BA HB
      generalize U.alloc (.cells y.cells.toArray 72) = W1 at hst hl8 HB2
      have HC := Lib.hid (ckRule_any d y.r y.p W1 (HG.out W1 HB2.out).1 (HRI.out W1 HB2.out) HSR.out (F y.r) (HLM.out y.r))
      rw [← XR.val_eq] at HC
      generalize Value.agg y.cells.toArray = QV at hld hst hl8 HC
      obtain ⟨e0, he0⟩ : ∃ e0, ruE (d + 1) y.r (F y.r) = e0 := ⟨_, rfl⟩
      rw [he0] at HC HJD
      clear HRI HSR he0 HJ
      by_cases hz : e0 = 0
      · subst hz
        have HJ2 : Hid (jrE (d + 1) F rs = jrE (d + 1) F (rs.drop (k + 1))) := by show _ = _; rw [HJD.out]; rfl
        go_wp2_with fail
        refine HC.out.mono ?_
        rintro e w2 ⟨rfl, b2⟩
        have HB3 : Hid (Below w.heap.size w w2) := HB2.out.trans (b2.mono HB2.out.size)
        clear b2 HC HB2 hld hst hl8 HJD
        go_wp2
        go_roundw
        case rel => exact ⟨k + 1, by omega, by go_num, HJ2, HB3⟩
        case measure => simp [intOf]; omega
      · have e1 : (e0 != 0) = true := by rw [bne_iff_ne]; exact hz
        have HE2 : Hid (er = e0) := by
          show _ = _
          rw [if_neg hz] at HJD
          rw [← HER.out]
          unfold jobE
          rw [HJD.out, if_neg hz]
        clear hz
        go_wp2_with fail
        refine HC.out.mono ?_
        rintro e w2 ⟨rfl, b2⟩
        have HB3 : Hid (Below w.heap.size w w2) := HB2.out.trans (b2.mono HB2.out.size)
        clear b2 HC HB2 hld hst hl8 HJD
        go_wp2
        go_ret
        exact ⟨by first | (rw [HE2.out]; rfl) | rw [HE2.out], HB3.out⟩
    · obtain rfl : k = rs.length := by omega
      rw [List.drop_length] at HJ
      have HET : Hid (er = tlE rs fs) := by
        show _ = _
        rw [← HER.out]
        unfold jobE
        rw [HJ.out]
        rfl
      clear hlt hk HRE HRA HSM HJ HER
      go_wp2
      go_loopw [27] (fun i wr => ∃ (k : Nat), k ≤ fs.length ∧ i = .int .i64 k ∧ Hid ((fs.take k).all factB = true) ∧ Hid (Below w.heap.size w wr)) (fun i _ => fs.length - (intOf i).toNat)
      case atStart => exact ⟨0, Nat.zero_le _, rfl, rfl, HB⟩
      case round =>
        clear HB
        obtain ⟨k, hk, rfl, HA, HB⟩ := hrel
        obtain ⟨V, rfl⟩ : ∃ V, V = wr := ⟨_, rfl⟩
        by_cases hlt : k < fs.length
        · have hlt' : (k : Int) < (fs.length : Int) := by omega
          have hk0 : (0 : Int) ≤ (k : Int) := by omega
          obtain ⟨g, off, rfl, hg, hT⟩ := HFA.out (by omega)
          have r1 := range_below (hT k hlt) HB.out hg
          have HTK := Lib.hid (allF_take hlt)
          rw [HA.out] at HTK
          have HNO : Hid (factB (atF fs k) = false → fs.all factB = false) := allF_not hlt
          have HFI := Lib.hid (HFE.out k hlt)
          obtain ⟨y, hy⟩ : ∃ y, atF fs k = y := ⟨_, rfl⟩
          rw [hy] at r1 HTK HNO HFI
          have hld := load_Fac r1 rfl
          have hst := fact_storeP V y
          have BA := belowA (w := V) (.cells y.cells.toArray 78)
          have hl8 := load_boxF (rl_new V y.cells.toArray 78)
          have HB2 : Hid (Below w.heap.size w (V.alloc (.cells y.cells.toArray 78))) := HB.out.trans (BA.mono HB.out.size)
          clear hT r1 hy BA HB
          generalize V.alloc (.cells y.cells.toArray 78) = W1 at hst hl8 HB2
          have HC := Lib.hid (checkFact_any y W1 (HG.out W1 HB2.out).2 (HFI.out W1 HB2.out))
          rw [← XF.val_eq] at HC
          generalize Value.agg y.cells.toArray = QV at hld hst hl8 HC
          cases hfb : factB y
          · have HE2 : Hid (er = 10) := by show _ = _; rw [HET.out]; unfold tlE; rw [HNO.out hfb]; rfl
            have e0 : errF false = 10 := rfl
            rw [hfb, e0] at HC
            clear hfb e0 HFI
            go_wp2_with fail
            refine HC.out.mono ?_
            rintro e w2 ⟨rfl, b2⟩
            have HB3 : Hid (Below w.heap.size w w2) := HB2.out.trans (b2.mono HB2.out.size)
            clear b2 HC HB2 hld hst hl8
            go_wp2
            go_ret
            exact ⟨by first | (rw [HE2.out]; rfl) | rw [HE2.out], HB3.out⟩
          · have HA2 : Hid ((fs.take (k + 1)).all factB = true) := by show _ = _; rw [HTK.out, hfb]; rfl
            have e0 : errF true = 0 := rfl
            rw [hfb, e0] at HC
            clear hfb e0 HFI
            go_wp2_with fail
            refine HC.out.mono ?_
            rintro e w2 ⟨rfl, b2⟩
            have HB3 : Hid (Below w.heap.size w w2) := HB2.out.trans (b2.mono HB2.out.size)
            clear b2 HC HB2 hld hst hl8 HA
            go_wp2
            go_roundw
            case rel => exact ⟨k + 1, by omega, by go_num, HA2, HB3⟩
            case measure => simp [intOf]; omega
        · obtain rfl : k = fs.length := by omega
          rw [List.take_length] at HA
          have HE2 : Hid (er = if (letL [] (psS rs fs)).isSome = true then 0 else 72) := by show _ = _; rw [HET.out]; unfold tlE; rw [HA.out]; rfl
          have HC := Lib.hid (HPR.out V HB.out)
          generalize letL [] (psS rs fs) = o at HE2 HC
          clear HET HPR HA HFA HFE HG hlt hk
          go_wp2_with fail
          refine HC.out.mono ?_
          rintro e w2 ⟨b2, ⟨s, a2, c2, r2, rfl, rfl, _, _, _⟩ | ⟨rfl, rfl⟩⟩
          · have HB3 : Hid (Below w.heap.size w w2) := HB.out.trans (b2.mono HB.out.size)
            clear b2 HC HB
            go_wp2
            go_ret
            exact ⟨by first | (rw [HE2.out]; rfl) | rw [HE2.out], HB3.out⟩
          · have HB3 : Hid (Below w.heap.size w w2) := HB.out.trans (b2.mono HB.out.size)
            clear b2 HC HB
            go_wp2
            go_ret
            exact ⟨by first | (rw [HE2.out]; rfl) | rw [HE2.out], HB3.out⟩
end Go.Proofs.YtejfcdhdbpijjaaGreatDoor
end
