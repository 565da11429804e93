import Derived.Test.YtikjphfeeljhbaaGreatDoorFbA
import Derived.Test.YtikjphfeeljhbaaGreatDoorFbPrB
namespace Go.Proofs.YtikjphfeeljhbaaGreatDoor
open Go.RowKit Go.Maps
set_option linter.unusedVariables false
set_option linter.unusedSimpArgs false
attribute [local go_sem ↓] Go.wp_at_zero Go.wp_at_succ

theorem chk_ten (k n : Int) (s : ByteArray) : chk k n s = 0 ∨ chk k n s = 10 := by
  unfold chk
  split <;> simp
set_option maxHeartbeats 1600000 in
theorem checkFact_any (y : XF) (w : World) (hG : LX.Gl w) (hF : FIs w y) :
    Calls Tryz.prog 20 #[y.val] w fun e w' => e = .returned (.int .i64 (errF (factB y))) ∧ Below w.heap.size w w' := by
  have HA : Hid (factB y = (nameB y.pr && (decide (y.vs.length ≤ 24) && y.vs.all okV))) := rfl
  obtain ⟨fb, hfb⟩ : ∃ fb, factB y = fb := ⟨_, rfl⟩
  rw [hfb] at HA ⊢
  obtain ⟨pr, vs, a, c⟩ := y
  have hpb := hF.pb
  have hll := hF.ln
  have hwf := hF.vs.wf
  obtain ⟨a1, c1, e1, hc1, hc2, hat⟩ := hF.vs.form
  dsimp only at HA hpb hll hwf e1 hc1 hc2 hat
  cases e1
  unfold XF.val
  dsimp only
  have BA := (Below.refl w.heap.size w).alloc (Nat.le_refl _) (.cells #[.string pr, .slice a vs.length c] 56)
  have c1 : (w.alloc (.cells #[.string pr, .slice a vs.length c] 56)).cell? ⟨w.heap.size, 1, none⟩ = some (.slice a vs.length c) := by go_simp
  have HAT : Hid _ := hat
  have HWF : Hid _ := hwf
  have HG0 : Hid (LX.Gl (w.alloc (.cells #[.string pr, .slice a vs.length c] 56))) := hG.below BA
  clear hF hat hwf hfb hc1 hc2
  go_enter Tryz.func20, Tryz.ntmps20
  go_wp2_with fail
  refine (LX.lexName_any pr _ HG0.out hpb).mono ?_
  rintro e w1 ⟨rfl, b1⟩
  have b1' : Below w.heap.size w w1 := BA.trans (b1.mono BA.size)
  have x1 : w1.cell? ⟨w.heap.size, 1, none⟩ = some (.slice a vs.length c) := by rw [b1.cell (p := ⟨w.heap.size, 1, none⟩) (by simp)]; exact c1
  have hs1 : w.heap.size < w1.heap.size := World.block_lt_of_cell? _ _ x1
  clear b1 c1 BA
  cases hn : nameB pr
  · have HF : Hid (fb = false) := by show fb = false; rw [HA.out, hn]; rfl
    go_wp2
    go_ret
    exact ⟨(by rw [HF.out]; rfl), b1'⟩
  · by_cases h24 : vs.length ≤ 24
    · have h24' : (vs.length : Int) ≤ 24 := by omega
      have HB : Hid (fb = vs.all okV) := by show fb = _; rw [HA.out, hn, decide_eq_true h24]; simp
      have HX1 : Hid _ := x1
      go_wp2
      go_loopw [19] (fun i wr => ∃ k : Nat, k ≤ vs.length ∧ i = .int .i64 k ∧ Below (w.heap.size + 1) w1 wr ∧ Hid ((vs.take k).all okV = true)) (fun i _ => vs.length - (intOf i).toNat)
      case atStart => exact ⟨0, Nat.zero_le _, rfl, Below.refl _ _, by simp [Hid]⟩
      case round =>
        obtain ⟨k, hk, rfl, belq, HS⟩ := hrel
        clear x1
        have d1 : wr.cell? ⟨w.heap.size, 1, none⟩ = some (.slice a vs.length c) := by rw [belq.cell (p := ⟨w.heap.size, 1, none⟩) (by simp)]; exact HX1.out
        have bel : Below w.heap.size w wr := b1'.trans (belq.mono (by omega))
        have hsz := belq.size
        by_cases hlt : k < vs.length
        · have hlt' : (k : Int) < (vs.length : Int) := by omega
          obtain ⟨g, off, rfl, hg, hT⟩ := HAT.out (by omega)
          obtain ⟨x0, x1, x2⟩ := (hT k hlt).below bel hg
          have htw : (atV vs k).wf := by rw [atV_eq hlt]; exact HWF.out _ (List.getElem_mem hlt)
          have HN : Hid (okV (atV vs k) = false → fb = false) := fun h => by rw [HB.out]; exact allV_not hlt h
          have HY : Hid (okV (atV vs k) = true → (vs.take (k + 1)).all okV = true) := fun h => by rw [allV_take hlt, HS.out, h]; rfl
          have HCV : Hid (okV (atV vs k) = (chk (atV vs k).k (atV vs k).n (atV vs k).s == 0)) := rfl
          generalize atV vs k = t at x0 x1 x2 htw HN HY HCV
          have hc2 := chk_ten t.k t.n t.s
          have HC : Hid (∀ u, Calls Tryz.prog 40 #[.agg #[.int .i8 t.k, .int .i64 t.n, .string t.s]] u fun e w' => e = .returned (.int .i64 (chk t.k t.n t.s)) ∧ Below u.heap.size u w') := fun u => vcheck_any t.k t.n t.s u htw.text
          generalize chk t.k t.n t.s = ck at hc2 HC HCV
          clear hT
          go_wp2_with fail
          refine Calls.mono (HC.out _) ?_
          rintro e w2 ⟨rfl, b2⟩
          have hsz2 : w.heap.size + 1 ≤ wr.heap.size := by omega
          have b2' : Below (w.heap.size + 1) w1 w2 := (belq.alloc hsz2 (.cells #[.int .i8 t.k, .int .i64 t.n, .string t.s] 69)).trans (b2.mono (by simp; omega))
          have b3' : Below w.heap.size w w2 := b1'.trans (b2'.mono (by omega))
          clear b2 d1
          rcases hc2 with rfl | rfl
          · have HO : Hid _ := HY.out HCV.out
            go_wp2
            go_roundw
            case rel => exact ⟨k + 1, by omega, by go_num, b2', HO⟩
            case measure => simp [intOf]; omega
          · have HF : Hid (fb = false) := HN.out HCV.out
            go_wp2
            go_ret
            exact ⟨(by rw [HF.out]; rfl), b3'⟩
        · obtain rfl : k = vs.length := by omega
          have HF : Hid (fb = true) := by show fb = true; rw [HB.out, ← HS.out, List.take_length]
          go_wp2
          go_ret
          exact ⟨(by rw [HF.out]; rfl), bel⟩
    · have h24' : (24 : Int) < (vs.length : Int) := by omega
      have HF : Hid (fb = false) := by show fb = false; rw [HA.out, decide_eq_false h24]; simp
      go_wp2
      go_ret
      exact ⟨(by rw [HF.out]; rfl), b1'⟩
open Go.RowKit Go.Maps
set_option linter.unusedVariables false
set_option linter.unusedSimpArgs false
attribute [local go_sem ↓] Go.wp_at_zero Go.wp_at_succ

set_option maxHeartbeats 1600000 in
theorem columnsV_any {B b : Nat} (v : Value) (ts : List V) (W0 : World) (hW : W0.heap.size ≤ B) (hL : Lv W0 v ts) (hG : Gf W0) (hok : ts.all okV = true) (l : List UInt8) (w : World) (hb : Below W0.heap.size W0 w) (h : BldA B b l w) (hBw : B ≤ w.heap.size)
    (hl : l.length + (colG (txV ts)).length ≤ 1099511627776) :
    Calls Tryz.prog 41 #[self b, v, .func (.func 42) #[] #[]] w (Wrote B b l (colG (txV ts)) w) := by
  have HLt : Hid (Lv W0 v ts) := hL
  obtain ⟨a, c, rfl, hc1, hc2, hat⟩ := hL.rform
  have HT : Hid (colG (txV ts) = if ts.length = 0 then [] else [40] ++ upG (txV ts) ts.length ++ [41]) := by show _ = _; unfold colG; rw [txV_len]
  have HL : Hid _ := hl
  have HG : Hid _ := hG
  clear hL hat hl hG
  unfold self
  by_cases h0 : ts.length = 0
  · have h0' : ((ts.length : Int) == 0) = true := by rw [h0]; rfl
    rw [if_pos h0] at HT
    have HB : Hid _ := h
    clear h0 h
    go_enter Tryz.func41, Tryz.ntmps41
    go_wp2
    go_end0
    exact ⟨rfl, by rw [HT.out, List.append_nil]; exact HB.out, Below.refl _ _, Spare.refl _ _⟩
  · have h0' : ((ts.length : Int) == 0) = false := by rw [beq_eq_false_iff_ne]; omega
    rw [if_neg h0] at HT
    have HLL : Hid (l.length + (1 + (upG (txV ts) ts.length).length + 1) ≤ 1099511627776) := by
      have := HL.out
      rw [HT.out] at this
      simp only [List.length_append, List.length_cons, List.length_nil] at this
      show _ ≤ _
      omega
    have HB : Hid _ := h
    clear h0 h HL
    go_enter Tryz.func41, Tryz.ntmps41
    go_wp2_with fail
    refine (put_new (g := w.heap.size) ⟨#[40]⟩ rfl HB.out hBw (by have := HLL.out; show _ + 1 ≤ _; omega)).mono ?_
    rintro e w2 ⟨rfl, k1, k2, k3⟩
    go_wp2_with fail
    refine (listVal_any (.slice a ts.length c) ts W0 hW HLt.out HG.out hok (l ++ [40]) w2 (hb.trans (k2.mono hW)) k1 (Nat.le_trans hBw k2.size) (by have := HLL.out; rw [List.length_append]; show _ + 1 + _ ≤ _; omega)).mono ?_
    rintro e w3 hw3
    obtain ⟨rfl, k4, k5, k6⟩ := hw3.from k2 k3
    clear k1 k2 k3
    go_wp2_with fail
    refine (put_new (g := w3.heap.size) ⟨#[41]⟩ rfl k4 (Nat.le_trans hBw k5.size) (by have := HLL.out; rw [List.length_append, List.length_append]; show _ + 1 + _ + 1 ≤ _; omega)).mono ?_
    rintro e w4 hw4
    obtain ⟨rfl, k7, k8, k9⟩ := hw4.from k5 k6
    clear k4 k5 k6
    go_wp2
    go_end0
    exact ⟨rfl, by rw [HT.out, ← List.append_assoc, ← List.append_assoc]; exact k7, k8, k9⟩
set_option maxHeartbeats 1600000 in
theorem wfact_any {B b : Nat} (y : XF) (W0 : World) (hW : W0.heap.size ≤ B) (hF : FIs W0 y) (hG : Gf W0) (hok : factB y = true) (l : List UInt8) (w : World) (hb : Below W0.heap.size W0 w) (h : BldA B b l w) (hBw : B ≤ w.heap.size)
    (hl : l.length + (factT y).length ≤ 1099511627776) :
    Calls Tryz.prog 21 #[self b, y.val] w (Wrote B b l (factT y) w) := by
  obtain ⟨pr, vs, a, c⟩ := y
  obtain ⟨_, _, h5⟩ := factB_form hok
  have HLv : Hid (Lv W0 (.slice a vs.length c) vs) := hF.vs
  have HT : Hid (factT ⟨pr, vs, a, c⟩ = pr.data.toList ++ colG (txV vs) ++ [46]) := rfl
  have HL : Hid (l.length + (pr.size + (colG (txV vs)).length + 1) ≤ 1099511627776) := by
    show _ ≤ _
    have := hl
    rw [HT.out] at this
    simp only [List.length_append, List.length_cons, List.length_nil, len_toList] at this
    omega
  unfold XF.val
  dsimp only at h5 ⊢
  have BA := (Below.refl w.heap.size w).alloc (Nat.le_refl _) (.cells #[.string pr, .slice a vs.length c] 56)
  have HB : Hid (BldA B b l _) := h.below BA
  have HN : Hid _ := heap_alloc_new w (.cells #[.string pr, .slice a vs.length c] 56)
  have hnb : w.heap.size ≠ b := by have := h.lt; omega
  have HG : Hid _ := hG
  clear hF hl h hok hG
  unfold self
  go_enter Tryz.func21, Tryz.ntmps21
  go_wp2_with fail
  refine (put_new (g := w.heap.size + 1) pr (by simp) HB.out (Nat.le_trans hBw BA.size) (by have := HL.out; omega)).mono ?_
  rintro e w2 ⟨rfl, k1, k2, k3⟩
  have y1 : w2.cell? ⟨w.heap.size, 1, none⟩ = some (.slice a vs.length c) := by rw [k3.cell HN.out (by decide) hnb]; rfl
  have HW2 : Hid (Below B w w2 ∧ Spare b w w2) := ⟨(BA.mono hBw).trans k2, (Spare.below BA).trans k3⟩
  clear k2 k3
  go_wp2_with fail
  refine (columnsV_any (.slice a vs.length c) vs W0 hW HLv.out HG.out h5 _ w2 (hb.trans (HW2.out.1.mono hW)) k1 (Nat.le_trans hBw HW2.out.1.size) (by have := HL.out; rw [List.length_append, len_toList]; omega)).mono ?_
  rintro e w3 hw3
  obtain ⟨rfl, k4, k5, k6⟩ := hw3.from HW2.out.1 HW2.out.2
  have HL2 : Hid ((l ++ pr.data.toList ++ colG (txV vs)).length + 1 ≤ 1099511627776) := by
    show _ ≤ _
    have := HL.out
    simp only [List.length_append, len_toList]
    omega
  clear y1 k1
  go_wp2_with fail
  refine (put_new (g := w3.heap.size) ⟨#[46]⟩ rfl k4 (Nat.le_trans hBw k5.size) HL2.out).mono ?_
  rintro e w4 hw4
  obtain ⟨rfl, k7, k8, k9⟩ := hw4.from k5 k6
  clear k4 k5 k6
  go_wp2
  go_end0
  exact ⟨rfl, by rw [HT.out, ← List.append_assoc, ← List.append_assoc]; exact k7, k8, k9⟩
end Go.Proofs.YtikjphfeeljhbaaGreatDoor
