import Derived.Test.YtknoffjfhnljcaaDoorFaPrB
namespace Go.Proofs.YtknoffjfhnljcaaDoor
open Go.RowKit Go.Maps
set_option linter.unusedVariables false
set_option linter.unusedSimpArgs false
attribute [local go_sem ↓] Go.wp_at_zero Go.wp_at_succ

set_option maxHeartbeats 1600000 in
theorem columnsV_any {B b : Nat} (v : Value) (ts : List V) (W0 : World) (hW : W0.heap.size ≤ B) (hL : Lv W0 v ts) (hG : Gf W0) (hok : ts.all okV = true) (l : List UInt8) (w : World) (hb : Below W0.heap.size W0 w) (h : BldA B b l w) (hBw : B ≤ w.heap.size)
    (hl : l.length + (colG (txV ts)).length ≤ 1099511627776) :
    Calls Tryd.prog 31 #[self b, v, .func (.func 32) #[] #[]] w (Wrote B b l (colG (txV ts)) w) := by
  have HLt : Hid (Lv W0 v ts) := hL
  obtain ⟨a, c, rfl, hc1, hc2, hat⟩ := hL.rform
  have HT : Hid (colG (txV ts) = if ts.length = 0 then [] else [40] ++ upG (txV ts) ts.length ++ [41]) := by show _ = _; unfold colG; rw [txV_len]
  have HL : Hid _ := hl
  have HG : Hid _ := hG
  clear hL hat hl hG
  unfold self
  by_cases h0 : ts.length = 0
  · have h0' : ((ts.length : Int) == 0) = true := by rw [h0]; rfl
    rw [if_pos h0] at HT
    have HB : Hid _ := h
    clear h0 h
    go_enter Tryd.func31, Tryd.ntmps31
    go_wp2
    go_end0
    exact ⟨rfl, by rw [HT.out, List.append_nil]; exact HB.out, Below.refl _ _, Spare.refl _ _⟩
  · have h0' : ((ts.length : Int) == 0) = false := by rw [beq_eq_false_iff_ne]; omega
    rw [if_neg h0] at HT
    have HLL : Hid (l.length + (1 + (upG (txV ts) ts.length).length + 1) ≤ 1099511627776) := by
      have := HL.out
      rw [HT.out] at this
      simp only [List.length_append, List.length_cons, List.length_nil] at this
      show _ ≤ _
      omega
    have HB : Hid _ := h
    clear h0 h HL
    go_enter Tryd.func31, Tryd.ntmps31
    go_wp2_with fail
    refine (put_new (g := w.heap.size) ⟨#[40]⟩ rfl HB.out hBw (by have := HLL.out; show _ + 1 ≤ _; omega)).mono ?_
    rintro e w2 ⟨rfl, k1, k2, k3⟩
    go_wp2_with fail
    refine (listVal_any (.slice a ts.length c) ts W0 hW HLt.out HG.out hok (l ++ [40]) w2 (hb.trans (k2.mono hW)) k1 (Nat.le_trans hBw k2.size) (by have := HLL.out; rw [List.length_append]; show _ + 1 + _ ≤ _; omega)).mono ?_
    rintro e w3 hw3
    obtain ⟨rfl, k4, k5, k6⟩ := hw3.from k2 k3
    clear k1 k2 k3
    go_wp2_with fail
    refine (put_new (g := w3.heap.size) ⟨#[41]⟩ rfl k4 (Nat.le_trans hBw k5.size) (by have := HLL.out; rw [List.length_append, List.length_append]; show _ + 1 + _ + 1 ≤ _; omega)).mono ?_
    rintro e w4 hw4
    obtain ⟨rfl, k7, k8, k9⟩ := hw4.from k5 k6
    clear k4 k5 k6
    go_wp2
    go_end0
    exact ⟨rfl, by rw [HT.out, ← List.append_assoc, ← List.append_assoc]; exact k7, k8, k9⟩
set_option maxHeartbeats 1600000 in
theorem wfact_any {B b : Nat} (y : XF) (W0 : World) (hW : W0.heap.size ≤ B) (hF : FIs W0 y) (hG : Gf W0) (hok : factB y = true) (l : List UInt8) (w : World) (hb : Below W0.heap.size W0 w) (h : BldA B b l w) (hBw : B ≤ w.heap.size)
    (hl : l.length + (factT y).length ≤ 1099511627776) :
    Calls Tryd.prog 16 #[self b, y.val] w (Wrote B b l (factT y) w) := by
  obtain ⟨pr, vs, a, c⟩ := y
  obtain ⟨_, _, h5⟩ := factB_form hok
  have HLv : Hid (Lv W0 (.slice a vs.length c) vs) := hF.vs
  have HT : Hid (factT ⟨pr, vs, a, c⟩ = pr.data.toList ++ colG (txV vs) ++ [46]) := rfl
  have HL : Hid (l.length + (pr.size + (colG (txV vs)).length + 1) ≤ 1099511627776) := by
    show _ ≤ _
    have := hl
    rw [HT.out] at this
    simp only [List.length_append, List.length_cons, List.length_nil, len_toList] at this
    omega
  unfold XF.val
  dsimp only at h5 ⊢
  have BA := (Below.refl w.heap.size w).alloc (Nat.le_refl _) (.cells #[.string pr, .slice a vs.length c] 31)
  have HB : Hid (BldA B b l _) := h.below BA
  have HN : Hid _ := heap_alloc_new w (.cells #[.string pr, .slice a vs.length c] 31)
  have hnb : w.heap.size ≠ b := by have := h.lt; omega
  have HG : Hid _ := hG
  clear hF hl h hok hG
  unfold self
  go_enter Tryd.func16, Tryd.ntmps16
  go_wp2_with fail
  refine (put_new (g := w.heap.size + 1) pr (by simp) HB.out (Nat.le_trans hBw BA.size) (by have := HL.out; omega)).mono ?_
  rintro e w2 ⟨rfl, k1, k2, k3⟩
  have y1 : w2.cell? ⟨w.heap.size, 1, none⟩ = some (.slice a vs.length c) := by rw [k3.cell HN.out (by decide) hnb]; rfl
  have HW2 : Hid (Below B w w2 ∧ Spare b w w2) := ⟨(BA.mono hBw).trans k2, (Spare.below BA).trans k3⟩
  clear k2 k3
  go_wp2_with fail
  refine (columnsV_any (.slice a vs.length c) vs W0 hW HLv.out HG.out h5 _ w2 (hb.trans (HW2.out.1.mono hW)) k1 (Nat.le_trans hBw HW2.out.1.size) (by have := HL.out; rw [List.length_append, len_toList]; omega)).mono ?_
  rintro e w3 hw3
  obtain ⟨rfl, k4, k5, k6⟩ := hw3.from HW2.out.1 HW2.out.2
  have HL2 : Hid ((l ++ pr.data.toList ++ colG (txV vs)).length + 1 ≤ 1099511627776) := by
    show _ ≤ _
    have := HL.out
    simp only [List.length_append, len_toList]
    omega
  clear y1 k1
  go_wp2_with fail
  refine (put_new (g := w3.heap.size) ⟨#[46]⟩ rfl k4 (Nat.le_trans hBw k5.size) HL2.out).mono ?_
  rintro e w4 hw4
  obtain ⟨rfl, k7, k8, k9⟩ := hw4.from k5 k6
  clear k4 k5 k6
  go_wp2
  go_end0
  exact ⟨rfl, by rw [HT.out, ← List.append_assoc, ← List.append_assoc]; exact k7, k8, k9⟩
end Go.Proofs.YtknoffjfhnljcaaDoor
