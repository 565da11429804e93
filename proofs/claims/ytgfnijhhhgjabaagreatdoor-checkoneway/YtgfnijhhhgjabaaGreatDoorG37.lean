import Derived.Test.YtgfnijhhhgjabaaGreatDoorG28
import Derived.Test.YtgfnijhhhgjabaaGreatDoorG30
import Derived.Test.YtgfnijhhhgjabaaGreatDoorG36
section
namespace Go.Proofs.YtgfnijhhhgjabaaGreatDoor
open Go.RowKit Go.Maps
set_option linter.unusedVariables false
set_option linter.unusedSimpArgs false
attribute [local go_sem ↓] Go.wp_at_zero Go.wp_at_succ

def factB (y : XF) : Bool := nameB y.pr && (decide (y.vs.length ≤ 24) && y.vs.all okV)
def errF (b : Bool) : Int := if b then 0 else 10
theorem allV_not {l : List V} {k : Nat} (h : k < l.length) (hn : okV (atV l k) = false) : l.all okV = false := by
  rw [← Bool.not_eq_true]
  intro ha
  rw [List.all_eq_true] at ha
  rw [atV_eq h] at hn
  rw [ha _ (List.getElem_mem h)] at hn
  cases hn
theorem allV_take {l : List V} {k : Nat} (h : k < l.length) : (l.take (k + 1)).all okV = ((l.take k).all okV && okV (atV l k)) := by
  have e : l.take (k + 1) = l.take k ++ [l[k]] := by rw [List.take_add_one, List.getElem?_eq_getElem h]; rfl
  rw [e, List.all_append, atV_eq h]
  simp
theorem chk_ten (k n : Int) (s : ByteArray) : chk k n s = 0 ∨ chk k n s = 10 := by
  unfold chk
  split <;> simp
set_option maxHeartbeats 1600000 in
theorem checkFact_any (y : XF) (w : World) (hG : LX.Gl w) (hF : FIs w y) :
    Calls Tryz.prog 37 #[y.val] w fun e w' => e = .returned (.int .i64 (errF (factB y))) ∧ Below w.heap.size w w' := by
  have HA : Hid (factB y = (nameB y.pr && (decide (y.vs.length ≤ 24) && y.vs.all okV))) := rfl
  obtain ⟨fb, hfb⟩ : ∃ fb, factB y = fb := ⟨_, rfl⟩
  rw [hfb] at HA ⊢
  obtain ⟨pr, vs, a, c⟩ := y
  have hpb := hF.pb
  have hll := hF.ln
  have hwf := hF.vs.wf
  obtain ⟨a1, c1, e1, hc1, hc2, hat⟩ := hF.vs.form
  dsimp only at HA hpb hll hwf e1 hc1 hc2 hat
  cases e1
  unfold XF.val
  dsimp only
  have BA := (Below.refl w.heap.size w).alloc (Nat.le_refl _) (.cells #[.string pr, .slice a vs.length c] 98)
  have c1 : (w.alloc (.cells #[.string pr, .slice a vs.length c] 98)).cell? ⟨w.heap.size, 1, none⟩ = some (.slice a vs.length c) := by go_simp
  have HAT : Hid _ := hat
  have HWF : Hid _ := hwf
  have HG0 : Hid (LX.Gl (w.alloc (.cells #[.string pr, .slice a vs.length c] 98))) := hG.below BA
  clear hF hat hwf hfb hc1 hc2
  go_enter Tryz.func37, Tryz.ntmps37
  go_wp2_with fail
  refine (LX.lexName_any pr _ HG0.out hpb).mono ?_
  rintro e w1 ⟨rfl, b1⟩
  have b1' : Below w.heap.size w w1 := BA.trans (b1.mono BA.size)
  have x1 : w1.cell? ⟨w.heap.size, 1, none⟩ = some (.slice a vs.length c) := by rw [b1.cell (p := ⟨w.heap.size, 1, none⟩) (by simp)]; exact c1
  have hs1 : w.heap.size < w1.heap.size := World.block_lt_of_cell? _ _ x1
  clear b1 c1 BA
  cases hn : nameB pr
  · have HF : Hid (fb = false) := by show fb = false; rw [HA.out, hn]; rfl
    go_wp2
    go_ret
    exact ⟨(by rw [HF.out]; rfl), b1'⟩
  · by_cases h24 : vs.length ≤ 24
    · have h24' : (vs.length : Int) ≤ 24 := by omega
      have HB : Hid (fb = vs.all okV) := by show fb = _; rw [HA.out, hn, decide_eq_true h24]; simp
      have HX1 : Hid _ := x1
      go_wp2
      go_loopw [19] (fun i wr => ∃ k : Nat, k ≤ vs.length ∧ i = .int .i64 k ∧ Below (w.heap.size + 1) w1 wr ∧ Hid ((vs.take k).all okV = true)) (fun i _ => vs.length - (intOf i).toNat)
      case atStart => exact ⟨0, Nat.zero_le _, rfl, Below.refl _ _, by simp [Hid]⟩
      case round =>
        obtain ⟨k, hk, rfl, belq, HS⟩ := hrel
        clear x1
        have d1 : wr.cell? ⟨w.heap.size, 1, none⟩ = some (.slice a vs.length c) := by rw [belq.cell (p := ⟨w.heap.size, 1, none⟩) (by simp)]; exact HX1.out
        have bel : Below w.heap.size w wr := b1'.trans (belq.mono (by omega))
        have hsz := belq.size
        by_cases hlt : k < vs.length
        · have hlt' : (k : Int) < (vs.length : Int) := by omega
          obtain ⟨g, off, rfl, hg, hT⟩ := HAT.out (by omega)
          obtain ⟨x0, x1, x2⟩ := (hT k hlt).below bel hg
          have htw : (atV vs k).wf := by rw [atV_eq hlt]; exact HWF.out _ (List.getElem_mem hlt)
          have HN : Hid (okV (atV vs k) = false → fb = false) := fun h => by rw [HB.out]; exact allV_not hlt h
          have HY : Hid (okV (atV vs k) = true → (vs.take (k + 1)).all okV = true) := fun h => by rw [allV_take hlt, HS.out, h]; rfl
          have HCV : Hid (okV (atV vs k) = (chk (atV vs k).k (atV vs k).n (atV vs k).s == 0)) := rfl
          generalize atV vs k = t at x0 x1 x2 htw HN HY HCV
          have hc2 := chk_ten t.k t.n t.s
          have HC : Hid (∀ u, Calls Tryz.prog 49 #[.agg #[.int .i8 t.k, .int .i64 t.n, .string t.s]] u fun e w' => e = .returned (.int .i64 (chk t.k t.n t.s)) ∧ Below u.heap.size u w') := fun u => vcheck_any t.k t.n t.s u htw.text
          generalize chk t.k t.n t.s = ck at hc2 HC HCV
          clear hT
          go_wp2_with fail
          refine Calls.mono (HC.out _) ?_
          rintro e w2 ⟨rfl, b2⟩
          have hsz2 : w.heap.size + 1 ≤ wr.heap.size := by omega
          have b2' : Below (w.heap.size + 1) w1 w2 := (belq.alloc hsz2 (.cells #[.int .i8 t.k, .int .i64 t.n, .string t.s] 38)).trans (b2.mono (by simp; omega))
          have b3' : Below w.heap.size w w2 := b1'.trans (b2'.mono (by omega))
          clear b2 d1
          rcases hc2 with rfl | rfl
          · have HO : Hid _ := HY.out HCV.out
            go_wp2
            go_roundw
            case rel => exact ⟨k + 1, by omega, by go_num, b2', HO⟩
            case measure => simp [intOf]; omega
          · have HF : Hid (fb = false) := HN.out HCV.out
            go_wp2
            go_ret
            exact ⟨(by rw [HF.out]; rfl), b3'⟩
        · obtain rfl : k = vs.length := by omega
          have HF : Hid (fb = true) := by show fb = true; rw [HB.out, ← HS.out, List.take_length]
          go_wp2
          go_ret
          exact ⟨(by rw [HF.out]; rfl), bel⟩
    · have h24' : (24 : Int) < (vs.length : Int) := by omega
      have HF : Hid (fb = false) := by show fb = false; rw [HA.out, decide_eq_false h24]; simp
      go_wp2
      go_ret
      exact ⟨(by rw [HF.out]; rfl), b1'⟩
end Go.Proofs.YtgfnijhhhgjabaaGreatDoor
end
section
namespace Go.Proofs.YtgfnijhhhgjabaaGreatDoor
open Go.RowKit Go.Maps
set_option linter.unusedVariables false
set_option linter.unusedSimpArgs false
attribute [local go_sem ↓] Go.wp_at_zero Go.wp_at_succ
attribute [-go_sem] loadVar storeVar Builtin.append_

/-- the error of the first rule that has one -/
def jrE (d : Nat) (F : R3 → List ByteArray) : List XR → Int
  | [] => 0
  | y :: l => if ruE d y.r (F y.r) = 0 then jrE d F l else ruE d y.r (F y.r)
/-- behind the rules -/
def tlE (rs : List XR) (fs : List XF) : Int := if fs.all factB = true then (if (letL [] (psS rs fs)).isSome = true then 0 else 72) else 10
def jobE (d : Nat) (F : R3 → List ByteArray) (rs : List XR) (fs : List XF) : Int := if jrE d F rs = 0 then tlE rs fs else jrE d F rs
theorem jr_drop {d : Nat} {F : R3 → List ByteArray} {rs : List XR} {k : Nat} (h : k < rs.length) : jrE d F (rs.drop k) = if ruE d (atR rs k).r (F (atR rs k).r) = 0 then jrE d F (rs.drop (k + 1)) else ruE d (atR rs k).r (F (atR rs k).r) := by
  rw [List.drop_eq_getElem_cons h, ← atR_eq h]
  rfl
theorem allF_not {l : List XF} {k : Nat} (h : k < l.length) (hn : factB (atF l k) = false) : l.all factB = false := by
  rw [← Bool.not_eq_true]
  intro ha
  have := List.all_eq_true.1 ha (atF l k) (by rw [atF_eq h]; exact List.getElem_mem h)
  rw [hn] at this
  cases this
theorem allF_take {l : List XF} {k : Nat} (h : k < l.length) : (l.take (k + 1)).all factB = ((l.take k).all factB && factB (atF l k)) := by
  have e : l.take (k + 1) = l.take k ++ [l[k]] := by rw [List.take_add_one, List.getElem?_eq_getElem h]; rfl
  rw [e, List.all_append, atF_eq h]
  simp
theorem both_none {rs : List XR} {fs : List XF} : (meetL [] (psS rs fs)).isSome = (letL [] (psS rs fs)).isSome := by
  have h := both_meet (psS rs fs) [] [] (List.Perm.refl _) (by simp [Up])
  generalize letL [] (psS rs fs) = a at h ⊢
  generalize meetL [] (psS rs fs) = b at h ⊢
  cases h <;> rfl
set_option maxHeartbeats 6400000 in
set_option maxRecDepth 100000 in
theorem ckJob_any (d : Nat) (F : R3 → List ByteArray) (hF0 : ∀ r, Lim (eqL (d + 1) r.bd) (atN r.bd) (F r)) (rs : List XR) (fs : List XF) (ra : Option Addr) (rc : Nat) (vf : Value) (w : World) (hG : KT w ∧ LX.Gl w) (hR : Lr w (.slice ra rs.length rc) (d + 1) rs) (hF : Lf w vf fs) (hsm : ∀ i, i < rs.length → smallR (d + 1) (atR rs i).r) (hlen : (psS rs fs).length ≤ 100000000) :
    Calls Tryz.prog 14 #[.slice ra rs.length rc, vf] w fun e w' => e = .returned (.int .i64 (jobE (d + 1) F rs fs)) ∧ Below w.heap.size w w' := by
  have HRE : Hid (∀ i, i < rs.length → ∀ u, Below w.heap.size w u → RIs u (d + 1) (atR rs i).r (atR rs i).p) := fun i hi u hu => (hR.each i hi).below hu
  have HFE : Hid (∀ i, i < fs.length → ∀ u, Below w.heap.size w u → FIs u (atF fs i)) := fun i hi u hu => (hF.each i hi).below hu
  have HG : Hid (∀ u, Below w.heap.size w u → KT u ∧ LX.Gl u) := fun u hu => ⟨hG.1.below hu, hG.2.below hu⟩
  have HPR : Hid (∀ u, Below w.heap.size w u → Calls Tryz.prog 38 #[.agg #[.slice ra rs.length rc], vf] u fun e w' => PsP u.heap.size u (letL [] (psS rs fs)) e w') := fun u hu => predsP_any (d + 1) rs fs ra rc vf u (hR.below hu) (hF.below hu) (fun i hi => (hsm i hi).bd) hlen
  obtain ⟨ra', rc', hv, hr1, hr2, hrat⟩ := hR.form
  injection hv with hv1 _ hv2
  subst hv1 hv2
  obtain ⟨fa, fc, rfl, hf1, hf2, hfat⟩ := hF.form
  have hmr : rs.length ≤ maxLen := Nat.le_trans hr1 hr2
  have hmf : fs.length ≤ maxLen := Nat.le_trans hf1 hf2
  unfold maxLen at hmr hmf
  have HRA := Lib.hid hrat
  have HFA := Lib.hid hfat
  have HSM := Lib.hid hsm
  have HLM := Lib.hid hF0
  obtain ⟨er, her⟩ : ∃ er, jobE (d + 1) F rs fs = er := ⟨_, rfl⟩
  rw [her]
  have HER := Lib.hid her
  clear hrat hfat hsm hR hF hG hF0 her
  go_enter Tryz.func14, Tryz.ntmps14
  go_wp2
  go_loopw [15] (fun i wr => ∃ (k : Nat), k ≤ rs.length ∧ i = .int .i64 k ∧ Hid (jrE (d + 1) F rs = jrE (d + 1) F (rs.drop k)) ∧ Hid (Below w.heap.size w wr)) (fun i _ => rs.length - (intOf i).toNat)
  case atStart => exact ⟨0, Nat.zero_le _, rfl, rfl, Below.refl _ _⟩
  case round =>
    obtain ⟨k, hk, rfl, HJ, HB⟩ := hrel
    obtain ⟨U, rfl⟩ : ∃ U, U = wr := ⟨_, rfl⟩
    by_cases hlt : k < rs.length
    · have hlt' : (k : Int) < (rs.length : Int) := by omega
      have hk0 : (0 : Int) ≤ (k : Int) := by omega
      obtain ⟨g, off, rfl, hg, hT⟩ := HRA.out (by omega)
      have r1 := range_below (hT k hlt) HB.out hg
      have HJD := Lib.hid (jr_drop (d := d + 1) (F := F) hlt)
      rw [← HJ.out] at HJD
      have HRI := Lib.hid (HRE.out k hlt)
      have HSR := Lib.hid (HSM.out k hlt)
      obtain ⟨y, hy⟩ : ∃ y, atR rs k = y := ⟨_, rfl⟩
      rw [hy] at r1 HJD HRI HSR
      have hld := load_Rul r1 rfl
      have hst := rule_storeP U y
      have BA := belowA (w := U) (.cells y.cells.toArray 25)
      have hl8 := load_boxR (rl_new U y.cells.toArray 25)
      have HB2 : Hid (Below w.heap.size w (U.alloc (.cells y.cells.toArray 25))) := HB.out.trans (BA.mono HB.out.size)
      clear hT r1 hy BA HB
      generalize U.alloc (.cells y.cells.toArray 25) = W1 at hst hl8 HB2
      have HC := Lib.hid (ckRule_any d y.r y.p W1 (HG.out W1 HB2.out).1 (HRI.out W1 HB2.out) HSR.out (F y.r) (HLM.out y.r))
      rw [← XR.val_eq] at HC
      generalize Value.agg y.cells.toArray = QV at hld hst hl8 HC
      obtain ⟨e0, he0⟩ : ∃ e0, ruE (d + 1) y.r (F y.r) = e0 := ⟨_, rfl⟩
      rw [he0] at HC HJD
      clear HRI HSR he0 HJ
      by_cases hz : e0 = 0
      · subst hz
        have HJ2 : Hid (jrE (d + 1) F rs = jrE (d + 1) F (rs.drop (k + 1))) := by show _ = _; rw [HJD.out]; rfl
        go_wp2_with fail
        refine HC.out.mono ?_
        rintro e w2 ⟨rfl, b2⟩
        have HB3 : Hid (Below w.heap.size w w2) := HB2.out.trans (b2.mono HB2.out.size)
        clear b2 HC HB2 hld hst hl8 HJD
        go_wp2
        go_roundw
        case rel => exact ⟨k + 1, by omega, by go_num, HJ2, HB3⟩
        case measure => simp [intOf]; omega
      · have e1 : (e0 != 0) = true := by rw [bne_iff_ne]; exact hz
        have HE2 : Hid (er = e0) := by
          show _ = _
          rw [if_neg hz] at HJD
          rw [← HER.out]
          unfold jobE
          rw [HJD.out, if_neg hz]
        clear hz
        go_wp2_with fail
        refine HC.out.mono ?_
        rintro e w2 ⟨rfl, b2⟩
        have HB3 : Hid (Below w.heap.size w w2) := HB2.out.trans (b2.mono HB2.out.size)
        clear b2 HC HB2 hld hst hl8 HJD
        go_wp2
        go_ret
        exact ⟨by first | (rw [HE2.out]; rfl) | rw [HE2.out], HB3.out⟩
    · obtain rfl : k = rs.length := by omega
      rw [List.drop_length] at HJ
      have HET : Hid (er = tlE rs fs) := by
        show _ = _
        rw [← HER.out]
        unfold jobE
        rw [HJ.out]
        rfl
      clear hlt hk HRE HRA HSM HJ HER
      go_wp2
      go_loopw [27] (fun i wr => ∃ (k : Nat), k ≤ fs.length ∧ i = .int .i64 k ∧ Hid ((fs.take k).all factB = true) ∧ Hid (Below w.heap.size w wr)) (fun i _ => fs.length - (intOf i).toNat)
      case atStart => exact ⟨0, Nat.zero_le _, rfl, rfl, HB⟩
      case round =>
        clear HB
        obtain ⟨k, hk, rfl, HA, HB⟩ := hrel
        obtain ⟨V, rfl⟩ : ∃ V, V = wr := ⟨_, rfl⟩
        by_cases hlt : k < fs.length
        · have hlt' : (k : Int) < (fs.length : Int) := by omega
          have hk0 : (0 : Int) ≤ (k : Int) := by omega
          obtain ⟨g, off, rfl, hg, hT⟩ := HFA.out (by omega)
          have r1 := range_below (hT k hlt) HB.out hg
          have HTK := Lib.hid (allF_take hlt)
          rw [HA.out] at HTK
          have HNO : Hid (factB (atF fs k) = false → fs.all factB = false) := allF_not hlt
          have HFI := Lib.hid (HFE.out k hlt)
          obtain ⟨y, hy⟩ : ∃ y, atF fs k = y := ⟨_, rfl⟩
          rw [hy] at r1 HTK HNO HFI
          have hld := load_Fac r1 rfl
          have hst := fact_storeP V y
          have BA := belowA (w := V) (.cells y.cells.toArray 98)
          have hl8 := load_boxF (rl_new V y.cells.toArray 98)
          have HB2 : Hid (Below w.heap.size w (V.alloc (.cells y.cells.toArray 98))) := HB.out.trans (BA.mono HB.out.size)
          clear hT r1 hy BA HB
          generalize V.alloc (.cells y.cells.toArray 98) = W1 at hst hl8 HB2
          have HC := Lib.hid (checkFact_any y W1 (HG.out W1 HB2.out).2 (HFI.out W1 HB2.out))
          rw [← XF.val_eq] at HC
          generalize Value.agg y.cells.toArray = QV at hld hst hl8 HC
          cases hfb : factB y
          · have HE2 : Hid (er = 10) := by show _ = _; rw [HET.out]; unfold tlE; rw [HNO.out hfb]; rfl
            have e0 : errF false = 10 := rfl
            rw [hfb, e0] at HC
            clear hfb e0 HFI
            go_wp2_with fail
            refine HC.out.mono ?_
            rintro e w2 ⟨rfl, b2⟩
            have HB3 : Hid (Below w.heap.size w w2) := HB2.out.trans (b2.mono HB2.out.size)
            clear b2 HC HB2 hld hst hl8
            go_wp2
            go_ret
            exact ⟨by first | (rw [HE2.out]; rfl) | rw [HE2.out], HB3.out⟩
          · have HA2 : Hid ((fs.take (k + 1)).all factB = true) := by show _ = _; rw [HTK.out, hfb]; rfl
            have e0 : errF true = 0 := rfl
            rw [hfb, e0] at HC
            clear hfb e0 HFI
            go_wp2_with fail
            refine HC.out.mono ?_
            rintro e w2 ⟨rfl, b2⟩
            have HB3 : Hid (Below w.heap.size w w2) := HB2.out.trans (b2.mono HB2.out.size)
            clear b2 HC HB2 hld hst hl8 HA
            go_wp2
            go_roundw
            case rel => exact ⟨k + 1, by omega, by go_num, HA2, HB3⟩
            case measure => simp [intOf]; omega
        · obtain rfl : k = fs.length := by omega
          rw [List.take_length] at HA
          have HE2 : Hid (er = if (letL [] (psS rs fs)).isSome = true then 0 else 72) := by show _ = _; rw [HET.out]; unfold tlE; rw [HA.out]; rfl
          have HC := Lib.hid (HPR.out V HB.out)
          generalize letL [] (psS rs fs) = o at HE2 HC
          clear HET HPR HA HFA HFE HG hlt hk
          go_wp2_with fail
          refine HC.out.mono ?_
          rintro e w2 ⟨b2, ⟨s, a2, c2, r2, rfl, rfl, _, _, _⟩ | ⟨rfl, rfl⟩⟩
          · have HB3 : Hid (Below w.heap.size w w2) := HB.out.trans (b2.mono HB.out.size)
            clear b2 HC HB
            go_wp2
            go_ret
            exact ⟨by first | (rw [HE2.out]; rfl) | rw [HE2.out], HB3.out⟩
          · have HB3 : Hid (Below w.heap.size w w2) := HB.out.trans (b2.mono HB.out.size)
            clear b2 HC HB
            go_wp2
            go_ret
            exact ⟨by first | (rw [HE2.out]; rfl) | rw [HE2.out], HB3.out⟩
end Go.Proofs.YtgfnijhhhgjabaaGreatDoor
end
section
namespace Go.Proofs.YtgfnijhhhgjabaaGreatDoor
open Go.RowKit Go.Maps
set_option linter.unusedVariables false
set_option linter.unusedSimpArgs false
attribute [local go_sem ↓] Go.wp_at_zero Go.wp_at_succ

def xS : ByteArray := ⟨#[88]⟩
def xT : T := ⟨xS, V0⟩
def qX (b : Nat) : XL := ⟨⟨1, ⟨#[113]⟩, [xT], 0, E0, E0⟩, ⟨some ⟨b, 0, none⟩, 1, none, 0, none, 0⟩⟩
def gdR (b : Nat) : R3 := ⟨⟨#[112]⟩, [⟨0, xT⟩], [qX b]⟩
def bdR : R3 := ⟨⟨#[112]⟩, [⟨0, xT⟩], []⟩
theorem gd_rule (b : Nat) : ruleB 1 (gdR b) = true := (show ruleB 1 (gdR b) = ruleB 1 (gdR 0) from rfl).trans (by decide +kernel)
theorem bd_rule : ruleB 1 bdR = true := by decide +kernel
theorem gd_vars (b : Nat) : vsT [] (termsR 1 (gdR b)) = [xS] := (show vsT [] (termsR 1 (gdR b)) = vsT [] (termsR 1 (gdR 0)) from rfl).trans (by decide +kernel)
theorem bd_vars : vsT [] (termsR 1 bdR) = [xS] := by decide +kernel
theorem gd_eq (b : Nat) : eqL 1 (gdR b).bd = [] := rfl
theorem gd_at (b : Nat) : atN (gdR b).bd = [xS] := (show atN (gdR b).bd = atN (gdR 0).bd from rfl).trans (by decide +kernel)
theorem itQ_nil : ∀ (k : Nat) (fs : List ByteArray), itQ [] k fs = fs
  | 0, _ => rfl
  | k + 1, fs => itQ_nil k fs
theorem lim_nil {f0 fs : List ByteArray} (h : Lim [] f0 fs) : fs = f0 := by
  obtain ⟨⟨k, e⟩, _⟩ := h
  rw [e, itQ_nil]
theorem gd_ok {b : Nat} {fs : List ByteArray} (h : Lim (eqL 1 (gdR b).bd) (atN (gdR b).bd) fs) : ruE 1 (gdR b) fs = 0 := by
  rw [gd_eq, gd_at] at h
  rw [lim_nil h]
  unfold ruE
  rw [gd_rule, gd_vars]
  decide +kernel
theorem bd_no {fs : List ByteArray} (h : Lim (eqL 1 bdR.bd) (atN bdR.bd) fs) : ruE 1 bdR fs = 73 := by
  have e : fs = [] := lim_nil h
  rw [e]
  unfold ruE
  rw [bd_rule, bd_vars]
  decide +kernel
theorem xT_wf : xT.wf := ⟨by decide, ⟨by decide, by decide, by decide⟩⟩
theorem e0_is (w : World) : EIs w 1 E0 none 0 := ⟨⟨⟨by decide, by decide⟩, by decide⟩, ⟨by decide, ⟨by decide, by decide, by decide⟩⟩, by decide, by decide, fun h => absurd (show (0 : Nat) < 0 from h) (by omega)⟩
theorem e0_small : smallE 1 E0 ∧ szD 1 E0 ≤ 1048576 := ⟨⟨show 0 ≤ 1048576 by decide, fun i hi => absurd (show i < 0 from hi) (by omega)⟩, show 1 ≤ 1048576 by decide⟩
theorem qX_small (b : Nat) : smallL 1 (qX b).x := ⟨show 1 ≤ 1048576 by decide, e0_small, e0_small⟩
theorem gd_small (b : Nat) : smallR 1 (gdR b) := ⟨show 1 ≤ 1048576 by decide, show 1 ≤ 1048576 by decide, fun y hy => by rw [List.mem_singleton.1 hy]; exact qX_small b, show 4 ≤ 1048576 by decide⟩
theorem bd_small : smallR 1 bdR := ⟨show 1 ≤ 1048576 by decide, show 0 ≤ 1048576 by decide, fun y hy => absurd hy (by simp [bdR]), show 1 ≤ 1048576 by decide⟩
theorem one_ls {α : Type} {f : α → List Value} {k : Nat} (hk0 : 0 < k) (hk : ∀ x, (f x).length = k) (x : α) {w : World} {g : Nat} {ty : TypeId} (h : RL w g ty (f x)) : Ls w (.slice (some ⟨g, 0, none⟩) [x].length 1) [x].length ([x].flatMap f) := by
  refine ls_of_range hk0 hk x (Nat.le_refl _) (by show 1 ≤ maxLen; decide) (World.rowIs.lt h) (fun i hi => ?_)
  have e : i = 0 := by simp only [List.length_cons, List.length_nil] at hi; omega
  subst e
  rw [Nat.zero_mul]
  exact RL.range h
theorem nil_lb (w : World) (d : Nat) : Lb w (.slice none 0 0) d [] := ⟨⟨by show 0 ≤ _; omega, none, 0, rfl, Nat.le_refl _, by decide, fun h => absurd (show (0 : Nat) < 0 from h) (by omega)⟩, fun y hy => by cases hy⟩
theorem nil_lf (w : World) : Lf w (.slice none 0 0) [] := ⟨⟨by show 0 ≤ _; omega, none, 0, rfl, Nat.le_refl _, by decide, fun h => absurd (show (0 : Nat) < 0 from h) (by omega)⟩, fun i hi => absurd (show i < 0 from hi) (by omega)⟩
theorem xA_la {w : World} {g : Nat} (h : RL w g 58 [.int .i8 0, .string xS, .int .i8 0, .int .i64 0, .string noS]) : La w (.slice (some ⟨g, 0, none⟩) 1 1) [⟨0, xT⟩] := ⟨one_ls (f := A5.cells) (k := 5) (by omega) (fun _ => rfl) ⟨0, xT⟩ h, fun t ht => by rw [List.mem_singleton.1 ht]; exact ⟨⟨by decide, by decide⟩, xT_wf⟩⟩
theorem xT_lt {w : World} {g : Nat} (h : RL w g 44 [.string xS, .int .i8 0, .int .i64 0, .string noS]) : Lt w (.slice (some ⟨g, 0, none⟩) 1 1) [xT] := ⟨one_ls (f := T.cells) (k := 4) (by omega) (fun _ => rfl) xT h, fun t ht => by rw [List.mem_singleton.1 ht]; exact xT_wf⟩
def qC (b : Nat) : List Value := [.int .i8 1, .string ⟨#[113]⟩, .slice (some ⟨b, 0, none⟩) 1 1, .int .i8 0, .int .i8 0, .string noS, .int .i8 0, .int .i64 0, .string noS, .slice none 0 0, .int .i8 0, .string noS, .int .i8 0, .int .i64 0, .string noS, .slice none 0 0]
theorem qX_lb {w : World} {g b : Nat} (h : RL w g 55 (qC b)) (ht : RL w b 44 [.string xS, .int .i8 0, .int .i64 0, .string noS]) : Lb w (.slice (some ⟨g, 0, none⟩) 1 1) 1 [qX b] := ⟨one_ls (f := XL.cells) (k := 16) (by omega) (fun _ => rfl) (qX b) h, fun y hy => by
  rw [List.mem_singleton.1 hy]
  exact ⟨⟨show (-128 : Int) ≤ 1 by decide, show (1 : Int) ≤ 127 by decide⟩, ⟨show (-128 : Int) ≤ 0 by decide, show (0 : Int) ≤ 127 by decide⟩, show 1 ≤ maxLen by decide, show 1 ≤ 281474976710656 by decide, xT_lt ht, e0_is w, e0_is w⟩⟩
set_option maxHeartbeats 6400000 in
set_option maxRecDepth 100000 in
theorem lives_any (w : World) (hG : KT w ∧ LX.Gl w) : Calls Tryz.prog 5 #[] w fun e w' => e = .returned (.bool true) ∧ Below w.heap.size w w' := by
  obtain ⟨A1, hA1⟩ : ∃ A, A = w.alloc (.cells #[.string ⟨#[88]⟩, .int .i8 0, .int .i64 0, .string ⟨#[]⟩] 44) := ⟨_, rfl⟩
  obtain ⟨A2, hA2⟩ : ∃ A, A = A1.alloc (.cells #[.string ⟨#[88]⟩, .int .i8 0, .int .i64 0, .string ⟨#[]⟩] 44) := ⟨_, rfl⟩
  obtain ⟨A3, hA3⟩ : ∃ A, A = A2.alloc (.cells #[.int .i8 1, .string ⟨#[113]⟩, .slice (some ⟨w.heap.size + 1, 0, none⟩) 1 1, .int .i8 0, .int .i8 0, .string ⟨#[]⟩, .int .i8 0, .int .i64 0, .string ⟨#[]⟩, .slice none 0 0, .int .i8 0, .string ⟨#[]⟩, .int .i8 0, .int .i64 0, .string ⟨#[]⟩, .slice none 0 0] 55) := ⟨_, rfl⟩
  obtain ⟨A4, hA4⟩ : ∃ A, A = A3.alloc (.cells #[.int .i8 0, .string ⟨#[88]⟩, .int .i8 0, .int .i64 0, .string ⟨#[]⟩] 58) := ⟨_, rfl⟩
  obtain ⟨A5, hA5⟩ : ∃ A, A = A4.alloc (.cells #[.int .i8 1, .string ⟨#[113]⟩, .slice (some ⟨w.heap.size + 1, 0, none⟩) 1 1, .int .i8 0, .int .i8 0, .string ⟨#[]⟩, .int .i8 0, .int .i64 0, .string ⟨#[]⟩, .slice none 0 0, .int .i8 0, .string ⟨#[]⟩, .int .i8 0, .int .i64 0, .string ⟨#[]⟩, .slice none 0 0] 55) := ⟨_, rfl⟩
  obtain ⟨A6, hA6⟩ : ∃ A, A = A5.alloc (.cells #[.string ⟨#[112]⟩, .slice (some ⟨w.heap.size + 1 + 1 + 1, 0, none⟩) 1 1, .slice (some ⟨w.heap.size + 1 + 1 + 1 + 1, 0, none⟩) 1 1] 25) := ⟨_, rfl⟩
  obtain ⟨A7, hA7⟩ : ∃ A, A = A6.alloc (.cells #[.int .i8 0, .string ⟨#[88]⟩, .int .i8 0, .int .i64 0, .string ⟨#[]⟩] 58) := ⟨_, rfl⟩
  obtain ⟨A8, hA8⟩ : ∃ A, A = A7.alloc (.cells #[.string ⟨#[112]⟩, .slice (some ⟨w.heap.size + 1 + 1 + 1 + 1 + 1 + 1, 0, none⟩) 1 1, .slice none 0 0] 25) := ⟨_, rfl⟩
  have z1 : A1.heap.size = w.heap.size + 1 := by rw [hA1]; simp
  have z2 : A2.heap.size = w.heap.size + 1 + 1 := by rw [hA2]; simp [z1]
  have z3 : A3.heap.size = w.heap.size + 1 + 1 + 1 := by rw [hA3]; simp [z2]
  have z4 : A4.heap.size = w.heap.size + 1 + 1 + 1 + 1 := by rw [hA4]; simp [z3]
  have z5 : A5.heap.size = w.heap.size + 1 + 1 + 1 + 1 + 1 := by rw [hA5]; simp [z4]
  have z6 : A6.heap.size = w.heap.size + 1 + 1 + 1 + 1 + 1 + 1 := by rw [hA6]; simp [z5]
  have z7 : A7.heap.size = w.heap.size + 1 + 1 + 1 + 1 + 1 + 1 + 1 := by rw [hA7]; simp [z6]
  have b8 : Below A7.heap.size A7 A8 := by rw [hA8]; exact belowA _
  have b7 : Below A6.heap.size A6 A8 := by have k : Below A6.heap.size A6 A7 := (by rw [hA7]; exact belowA _); exact k.trans (b8.mono k.size)
  have b6 : Below A5.heap.size A5 A8 := by have k : Below A5.heap.size A5 A6 := (by rw [hA6]; exact belowA _); exact k.trans (b7.mono k.size)
  have b5 : Below A4.heap.size A4 A8 := by have k : Below A4.heap.size A4 A5 := (by rw [hA5]; exact belowA _); exact k.trans (b6.mono k.size)
  have b4 : Below A3.heap.size A3 A8 := by have k : Below A3.heap.size A3 A4 := (by rw [hA4]; exact belowA _); exact k.trans (b5.mono k.size)
  have b3 : Below A2.heap.size A2 A8 := by have k : Below A2.heap.size A2 A3 := (by rw [hA3]; exact belowA _); exact k.trans (b4.mono k.size)
  have b2 : Below A1.heap.size A1 A8 := by have k : Below A1.heap.size A1 A2 := (by rw [hA2]; exact belowA _); exact k.trans (b3.mono k.size)
  have b1 : Below w.heap.size w A8 := by have k : Below w.heap.size w A1 := (by rw [hA1]; exact belowA _); exact k.trans (b2.mono k.size)
  have r1 : RL A8 (w.heap.size + 1) 44 [.string xS, .int .i8 0, .int .i64 0, .string noS] := by
    have := rl_new A1 #[.string ⟨#[88]⟩, .int .i8 0, .int .i64 0, .string ⟨#[]⟩] 44
    rw [← hA2, z1] at this
    exact RL.below this b3
  have r3 : RL A8 (w.heap.size + 1 + 1 + 1) 58 [.int .i8 0, .string xS, .int .i8 0, .int .i64 0, .string noS] := by
    have := rl_new A3 #[.int .i8 0, .string ⟨#[88]⟩, .int .i8 0, .int .i64 0, .string ⟨#[]⟩] 58
    rw [← hA4, z3] at this
    exact RL.below this b5
  have r4 : RL A8 (w.heap.size + 1 + 1 + 1 + 1) 55 (qC (w.heap.size + 1)) := by
    have := rl_new A4 #[.int .i8 1, .string ⟨#[113]⟩, .slice (some ⟨w.heap.size + 1, 0, none⟩) 1 1, .int .i8 0, .int .i8 0, .string ⟨#[]⟩, .int .i8 0, .int .i64 0, .string ⟨#[]⟩, .slice none 0 0, .int .i8 0, .string ⟨#[]⟩, .int .i8 0, .int .i64 0, .string ⟨#[]⟩, .slice none 0 0] 55
    rw [← hA5, z4] at this
    exact RL.below this b6
  have HR5 : Hid (RL A8 (w.heap.size + 1 + 1 + 1 + 1 + 1) 25 [.string ⟨#[112]⟩, .slice (some ⟨w.heap.size + 1 + 1 + 1, 0, none⟩) 1 1, .slice (some ⟨w.heap.size + 1 + 1 + 1 + 1, 0, none⟩) 1 1]) := by
    have := rl_new A5 #[.string ⟨#[112]⟩, .slice (some ⟨w.heap.size + 1 + 1 + 1, 0, none⟩) 1 1, .slice (some ⟨w.heap.size + 1 + 1 + 1 + 1, 0, none⟩) 1 1] 25
    rw [← hA6, z5] at this
    exact RL.below this b7
  have r6 : RL A8 (w.heap.size + 1 + 1 + 1 + 1 + 1 + 1) 58 [.int .i8 0, .string xS, .int .i8 0, .int .i64 0, .string noS] := by
    have := rl_new A6 #[.int .i8 0, .string ⟨#[88]⟩, .int .i8 0, .int .i64 0, .string ⟨#[]⟩] 58
    rw [← hA7, z6] at this
    exact RL.below this b8
  have HR7 : Hid (RL A8 (w.heap.size + 1 + 1 + 1 + 1 + 1 + 1 + 1) 25 [.string ⟨#[112]⟩, .slice (some ⟨w.heap.size + 1 + 1 + 1 + 1 + 1 + 1, 0, none⟩) 1 1, .slice none 0 0]) := by
    have := rl_new A7 #[.string ⟨#[112]⟩, .slice (some ⟨w.heap.size + 1 + 1 + 1 + 1 + 1 + 1, 0, none⟩) 1 1, .slice none 0 0] 25
    rw [← hA8, z7] at this
    exact this
  have HLB : Hid (Lb A8 (.slice (some ⟨w.heap.size + 1 + 1 + 1 + 1, 0, none⟩) 1 1) 1 [qX (w.heap.size + 1)]) := qX_lb r4 r1
  have HGD : Hid (∀ u, Below A8.heap.size A8 u → RIs u 1 (gdR (w.heap.size + 1)) ⟨some ⟨w.heap.size + 1 + 1 + 1, 0, none⟩, 1, some ⟨w.heap.size + 1 + 1 + 1 + 1, 0, none⟩, 1⟩) := fun u hu => RIs.below ⟨show 1 ≤ maxLen by decide, show 1 ≤ 281474976710656 by decide, show 1 ≤ 281474976710656 by decide, xA_la r3, HLB.out⟩ hu
  have HBD : Hid (∀ u, Below A8.heap.size A8 u → RIs u 1 bdR ⟨some ⟨w.heap.size + 1 + 1 + 1 + 1 + 1 + 1, 0, none⟩, 1, none, 0⟩) := fun u hu => RIs.below ⟨show 1 ≤ maxLen by decide, show 1 ≤ 281474976710656 by decide, show 0 ≤ 281474976710656 by decide, xA_la r6, nil_lb A8 1⟩ hu
  have HG : Hid (∀ u, Below A8.heap.size A8 u → KT u ∧ LX.Gl u) := fun u hu => ⟨(hG.1.below b1).below hu, (hG.2.below b1).below hu⟩
  have HB0 := Lib.hid b1
  obtain ⟨F, hF⟩ : ∃ F : R3 → List ByteArray, ∀ r, Lim (eqL 1 r.bd) (atN r.bd) (F r) := Classical.axiomOfChoice (fun (r : R3) => lim_ex (eqL 1 r.bd) (atN r.bd) (eqL_ok _ _))
  have HF := Lib.hid hF
  have x0 := HR5.out.at (j := 2) rfl
  have HLM : Hid (Calls Tryz.prog 13 #[.slice (some ⟨w.heap.size + 1 + 1 + 1 + 1, 0, none⟩) 1 1] A8 fun e w' => LmP A8.heap.size (eqL 1 (gdR (w.heap.size + 1)).bd) (atN (gdR (w.heap.size + 1)).bd) A8 e w') := by
    have hb := (gd_small (w.heap.size + 1)).body
    exact limited_any 0 _ [qX (w.heap.size + 1)] A8 HLB.out hb.ts hb.av hb.ln hb.sz
  clear z1 z2 z3 z4 z5 z6 z7 b1 b2 b3 b4 b5 b6 b7 b8 r1 r3 r4 r6 hG hF HLB
  go_enter Tryz.func5, Tryz.ntmps5
  go_upto_region 5 with fail
  rw [← hA1, ← hA2, ← hA3, ← hA4, ← hA5, ← hA6, ← hA7, ← hA8]
  clear hA1 hA2 hA3 hA4 hA5 hA6 hA7 hA8
  go_wp2_with fail
  clear x0
  refine HLM.out.mono ?_
  rintro e w1 ⟨sv, fs, rfl, own1, b1, it1, st1⟩
  obtain rfl : fs = [xS] := by
    have h : Lim (eqL 1 (gdR (w.heap.size + 1)).bd) (atN (gdR (w.heap.size + 1)).bd) fs := ⟨it1, st1⟩
    rw [gd_eq, gd_at] at h
    exact lim_nil h
  have B1 := Lib.hid b1
  obtain ⟨sa, sc, rfl, hsc1, hsc2, hsat⟩ := ls_str (ls_own own1)
  obtain ⟨sg, so, hsa, hsg, hcell⟩ := hsat (by decide)
  subst hsa
  have HCE : Hid (∀ u, Below w1.heap.size w1 u → u.cell? ⟨sg, so, none⟩ = some (.string ⟨#[88]⟩)) := fun u hu => by
    rw [hu.cell (p := ⟨sg, so, none⟩) hsg]
    exact hcell 0 (by decide)
  have hlen1 : (Value.slice (some ⟨sg, so, none⟩) ([xS] : List ByteArray).length sc) = .slice (some ⟨sg, so, none⟩) 1 sc := rfl
  rw [hlen1]
  have HC1 := Lib.hid (ckRule_any 0 (gdR (w.heap.size + 1)) ⟨some ⟨w.heap.size + 1 + 1 + 1, 0, none⟩, 1, some ⟨w.heap.size + 1 + 1 + 1 + 1, 0, none⟩, 1⟩ w1 (HG.out w1 b1).1 (HGD.out w1 b1) (gd_small _) (F (gdR (w.heap.size + 1))) (HF.out _))
  rw [gd_ok (HF.out _)] at HC1
  have hv1 : (gdR (w.heap.size + 1)).val ⟨some ⟨w.heap.size + 1 + 1 + 1, 0, none⟩, 1, some ⟨w.heap.size + 1 + 1 + 1 + 1, 0, none⟩, 1⟩ = .agg #[.string ⟨#[112]⟩, .slice (some ⟨w.heap.size + 1 + 1 + 1, 0, none⟩) 1 1, .slice (some ⟨w.heap.size + 1 + 1 + 1 + 1, 0, none⟩) 1 1] := rfl
  rw [hv1] at HC1
  have y0 := RL.at (RL.below HR5.out b1) (j := 0) rfl
  have y1 := RL.at (RL.below HR5.out b1) (j := 1) rfl
  have y2 := RL.at (RL.below HR5.out b1) (j := 2) rfl
  clear own1 b1 it1 st1 hsc2 hcell HLM hlen1 hv1
  go_wp2_with fail
  clear y0 y1 y2
  refine HC1.out.mono ?_
  rintro e w2 ⟨rfl, b2⟩
  have B2 : Hid (Below A8.heap.size A8 w2) := B1.out.trans (b2.mono B1.out.size)
  have B12 := Lib.hid b2
  have HC2 := Lib.hid (ckRule_any 0 bdR ⟨some ⟨w.heap.size + 1 + 1 + 1 + 1 + 1 + 1, 0, none⟩, 1, none, 0⟩ w2 (HG.out w2 B2.out).1 (HBD.out w2 B2.out) bd_small (F bdR) (HF.out _))
  rw [bd_no (HF.out _)] at HC2
  have hv2 : bdR.val ⟨some ⟨w.heap.size + 1 + 1 + 1 + 1 + 1 + 1, 0, none⟩, 1, none, 0⟩ = .agg #[.string ⟨#[112]⟩, .slice (some ⟨w.heap.size + 1 + 1 + 1 + 1 + 1 + 1, 0, none⟩) 1 1, .slice none 0 0] := rfl
  rw [hv2] at HC2
  have y0 := RL.at (RL.below HR7.out B2.out) (j := 0) rfl
  have y1 := RL.at (RL.below HR7.out B2.out) (j := 1) rfl
  have y2 := RL.at (RL.below HR7.out B2.out) (j := 2) rfl
  clear b2 HC1 hv2
  go_wp2_with fail
  clear y0 y1 y2
  refine HC2.out.mono ?_
  rintro e w3 ⟨rfl, b3⟩
  have B3 : Hid (Below A8.heap.size A8 w3) := B2.out.trans (b3.mono B2.out.size)
  have s0 := HCE.out w3 (B12.out.trans (b3.mono B12.out.size))
  have y0 := RL.at (RL.below HR5.out B3.out) (j := 0) rfl
  have y1 := RL.at (RL.below HR5.out B3.out) (j := 1) rfl
  have y2 := RL.at (RL.below HR5.out B3.out) (j := 2) rfl
  have v0 := RL.at (RL.below HR7.out B3.out) (j := 0) rfl
  have v1 := RL.at (RL.below HR7.out B3.out) (j := 1) rfl
  have v2 := RL.at (RL.below HR7.out B3.out) (j := 2) rfl
  have bA := belowA (w := w3) (.cells #[.string ⟨#[112]⟩, .slice (some ⟨w.heap.size + 1 + 1 + 1, 0, none⟩) 1 1, .slice (some ⟨w.heap.size + 1 + 1 + 1 + 1, 0, none⟩) 1 1, .string ⟨#[112]⟩, .slice (some ⟨w.heap.size + 1 + 1 + 1 + 1 + 1 + 1, 0, none⟩) 1 1, .slice none 0 0] 25)
  have rA := rl_new w3 #[.string ⟨#[112]⟩, .slice (some ⟨w.heap.size + 1 + 1 + 1, 0, none⟩) 1 1, .slice (some ⟨w.heap.size + 1 + 1 + 1 + 1, 0, none⟩) 1 1, .string ⟨#[112]⟩, .slice (some ⟨w.heap.size + 1 + 1 + 1 + 1 + 1 + 1, 0, none⟩) 1 1, .slice none 0 0] 25
  have BA : Hid (Below A8.heap.size A8 (w3.alloc (.cells #[.string ⟨#[112]⟩, .slice (some ⟨w.heap.size + 1 + 1 + 1, 0, none⟩) 1 1, .slice (some ⟨w.heap.size + 1 + 1 + 1 + 1, 0, none⟩) 1 1, .string ⟨#[112]⟩, .slice (some ⟨w.heap.size + 1 + 1 + 1 + 1 + 1 + 1, 0, none⟩) 1 1, .slice none 0 0] 25))) := B3.out.trans (bA.mono B3.out.size)
  have HJ : Hid (Calls Tryz.prog 14 #[.slice (some ⟨w3.heap.size, 0, none⟩) 2 2, .slice none 0 0] (w3.alloc (.cells #[.string ⟨#[112]⟩, .slice (some ⟨w.heap.size + 1 + 1 + 1, 0, none⟩) 1 1, .slice (some ⟨w.heap.size + 1 + 1 + 1 + 1, 0, none⟩) 1 1, .string ⟨#[112]⟩, .slice (some ⟨w.heap.size + 1 + 1 + 1 + 1 + 1 + 1, 0, none⟩) 1 1, .slice none 0 0] 25)) fun e w' => e = .returned (.int .i64 73) ∧ Below (w3.alloc (.cells #[.string ⟨#[112]⟩, .slice (some ⟨w.heap.size + 1 + 1 + 1, 0, none⟩) 1 1, .slice (some ⟨w.heap.size + 1 + 1 + 1 + 1, 0, none⟩) 1 1, .string ⟨#[112]⟩, .slice (some ⟨w.heap.size + 1 + 1 + 1 + 1 + 1 + 1, 0, none⟩) 1 1, .slice none 0 0] 25)).heap.size (w3.alloc (.cells #[.string ⟨#[112]⟩, .slice (some ⟨w.heap.size + 1 + 1 + 1, 0, none⟩) 1 1, .slice (some ⟨w.heap.size + 1 + 1 + 1 + 1, 0, none⟩) 1 1, .string ⟨#[112]⟩, .slice (some ⟨w.heap.size + 1 + 1 + 1 + 1 + 1 + 1, 0, none⟩) 1 1, .slice none 0 0] 25)) w') := by
    have hLr : Lr (w3.alloc (.cells #[.string ⟨#[112]⟩, .slice (some ⟨w.heap.size + 1 + 1 + 1, 0, none⟩) 1 1, .slice (some ⟨w.heap.size + 1 + 1 + 1 + 1, 0, none⟩) 1 1, .string ⟨#[112]⟩, .slice (some ⟨w.heap.size + 1 + 1 + 1 + 1 + 1 + 1, 0, none⟩) 1 1, .slice none 0 0] 25)) (.slice (some ⟨w3.heap.size, 0, none⟩) 2 2) 1 [⟨gdR (w.heap.size + 1), ⟨some ⟨w.heap.size + 1 + 1 + 1, 0, none⟩, 1, some ⟨w.heap.size + 1 + 1 + 1 + 1, 0, none⟩, 1⟩⟩, ⟨bdR, ⟨some ⟨w.heap.size + 1 + 1 + 1 + 1 + 1 + 1, 0, none⟩, 1, none, 0⟩⟩] := by
      refine ⟨ls_of_range (f := XR.cells) (k := 3) (by omega) (fun _ => rfl) XR0 (Nat.le_refl _) (by show 2 ≤ maxLen; decide) (World.rowIs.lt rA) (fun i hi => ?_), fun i hi => ?_⟩
      · match i, hi with
        | 0, _ =>
          intro j v hj
          match j, hj with
          | 0, hj => cases hj; exact rA.at (j := 0) rfl
          | 1, hj => cases hj; exact rA.at (j := 1) rfl
          | 2, hj => cases hj; exact rA.at (j := 2) rfl
        | 1, _ =>
          intro j v hj
          match j, hj with
          | 0, hj => cases hj; exact rA.at (j := 3) rfl
          | 1, hj => cases hj; exact rA.at (j := 4) rfl
          | 2, hj => cases hj; exact rA.at (j := 5) rfl
      · match i, hi with
        | 0, _ => exact HGD.out _ BA.out
        | 1, _ => exact HBD.out _ BA.out
    have hj := ckJob_any 0 F HF.out [⟨gdR (w.heap.size + 1), ⟨some ⟨w.heap.size + 1 + 1 + 1, 0, none⟩, 1, some ⟨w.heap.size + 1 + 1 + 1 + 1, 0, none⟩, 1⟩⟩, ⟨bdR, ⟨some ⟨w.heap.size + 1 + 1 + 1 + 1 + 1 + 1, 0, none⟩, 1, none, 0⟩⟩] [] (some ⟨w3.heap.size, 0, none⟩) 2 (.slice none 0 0) _ (HG.out _ BA.out) hLr (nil_lf _) (fun i hi => by
      match i, hi with
      | 0, _ => exact gd_small _
      | 1, _ => exact bd_small) (by show 3 ≤ _; decide)
    have e : jobE 1 F [⟨gdR (w.heap.size + 1), ⟨some ⟨w.heap.size + 1 + 1 + 1, 0, none⟩, 1, some ⟨w.heap.size + 1 + 1 + 1 + 1, 0, none⟩, 1⟩⟩, ⟨bdR, ⟨some ⟨w.heap.size + 1 + 1 + 1 + 1 + 1 + 1, 0, none⟩, 1, none, 0⟩⟩] [] = 73 := by
      unfold jobE jrE jrE
      simp only [gd_ok (HF.out _), bd_no (HF.out _)]
      simp
    rw [e] at hj
    exact hj
  clear b3 HC2 bA rA HCE
  go_wp2_with fail
  clear y0 y1 y2 v0 v1 v2 s0
  refine HJ.out.mono ?_
  rintro e w4 ⟨rfl, b4⟩
  have B4 : Hid (Below w.heap.size w w4) := HB0.out.trans ((BA.out.trans (b4.mono BA.out.size)).mono HB0.out.size)
  clear b4 HJ BA
  go_wp2
  go_ret
  exact ⟨by first | rfl | simp, B4.out⟩
end Go.Proofs.YtgfnijhhhgjabaaGreatDoor
end
