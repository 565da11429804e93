import Derived.Test.YtjjjnpmppblchaaGreatDoorPrA
import Derived.Test.YtjjjnpmppblchaaGreatDoorRuD
namespace Go.Proofs.YtjjjnpmppblchaaGreatDoor
open Go.RowKit Go.Maps
set_option linter.unusedVariables false
set_option linter.unusedSimpArgs false
attribute [local go_sem ↓] Go.wp_at_zero Go.wp_at_succ

theorem ruleB_form {d : Nat} {r : R3} (h : ruleB d r = true) : nameB r.pr = true ∧ r.hd.length ≤ 24 ∧ r.bd.length ≤ 16 ∧ r.hd.all argB = true ∧ r.bd.all (fun y => litB y.x) = true := by
  unfold ruleB at h
  simp only [Bool.and_eq_true, decide_eq_true_eq] at h
  exact ⟨h.1, h.2.1, h.2.2.1, h.2.2.2.1, h.2.2.2.2.1⟩
theorem name_size {s : ByteArray} (h : nameB s = true) : 1 ≤ s.size ∧ s.size ≤ 120 := by
  unfold nameB at h
  simp only [Bool.and_eq_true, decide_eq_true_eq] at h
  exact ⟨Nat.pos_of_ne_zero h.1.1.1.1, h.1.1.1.2⟩
theorem colA_len {l : List A5} (hwf : ∀ t ∈ l, t.wf) (hok : l.all argB = true) (h24 : l.length ≤ 24) : (colG (txA l)).length ≤ 60000 := by
  unfold colG
  split
  · simp
  · have h := upG_len (tx := txA l) (m := 2000) (fun i hi => by
      rw [txA_len] at hi
      rw [txA_at hi, atA_eq hi]
      exact argT_len (hwf _ (List.getElem_mem hi)) (List.all_eq_true.1 hok _ (List.getElem_mem hi))) (txA l).length (Nat.le_refl _)
    rw [txA_len] at h ⊢
    simp only [List.length_append, List.length_cons, List.length_nil]
    have : l.length * (2000 + 2) ≤ 24 * 2002 := Nat.mul_le_mul_right _ h24
    omega
theorem bodyT_len {w : World} {d : Nat} {l : List XL} (hL : ∀ y ∈ l, LIs w d y.x y.p) (hok : l.all (fun y => litB y.x) = true) (h16 : l.length ≤ 16) : ∀ k, k ≤ l.length → (upG (txB l) k).length ≤ 17000000000 := fun k hk => by
  have h := upG_len (tx := txB l) (m := 1000000000) (fun i hi => by
    rw [txB_len] at hi
    rw [txB_at hi, atL_eq hi]
    exact (litT_len (hL _ (List.getElem_mem hi)) (List.all_eq_true.1 hok _ (List.getElem_mem hi))).2) k (by rw [txB_len]; exact hk)
  have : k * (1000000000 + 2) ≤ 16 * 1000000002 := Nat.mul_le_mul_right _ (by omega)
  omega
theorem ruleT_len {w : World} {d : Nat} {r : R3} {p : RP} (hR : RIs w d r p) (hok : ruleB d r = true) : 1 ≤ (ruleT r).length ∧ (ruleT r).length ≤ 20000000000 := by
  obtain ⟨h1, h2, h3, h4, h5⟩ := ruleB_form hok
  have a1 := name_size h1
  have a2 := colA_len hR.hd.wf h4 h2
  have a3 := bodyT_len hR.bd.each h5 h3 r.bd.length (Nat.le_refl _)
  unfold ruleT bodyT
  simp only [List.length_append, List.length_cons, List.length_nil, len_toList]
  have a4 : (if r.bd.length = 0 then ([] : List UInt8) else [32, 58, 45, 32] ++ upG (txB r.bd) r.bd.length).length ≤ 17000000004 := by
    split
    · simp
    · simp only [List.length_append, List.length_cons, List.length_nil]; omega
  omega
set_option maxHeartbeats 1600000 in
theorem columnsA_any {B b : Nat} (v : Value) (ts : List A5) (W0 : World) (hW : W0.heap.size ≤ B) (hL : La W0 v ts) (hG : Gr W0) (hok : ts.all argB = true) (l : List UInt8) (w : World) (hb : Below W0.heap.size W0 w) (h : BldA B b l w) (hBw : B ≤ w.heap.size)
    (hl : l.length + (colG (txA ts)).length ≤ 1099511627776) :
    Calls Tryz.prog 35 #[self b, v, .func (.func 36) #[] #[]] w (Wrote B b l (colG (txA ts)) w) := by
  have HLt : Hid (La W0 v ts) := hL
  obtain ⟨a, c, rfl, hc1, hc2, hat⟩ := hL.form
  have HT : Hid (colG (txA ts) = if ts.length = 0 then [] else [40] ++ upG (txA ts) ts.length ++ [41]) := by show _ = _; unfold colG; rw [txA_len]
  have HL : Hid _ := hl
  have HG : Hid _ := hG
  clear hL hat hl hG
  unfold self
  by_cases h0 : ts.length = 0
  · have h0' : ((ts.length : Int) == 0) = true := by rw [h0]; rfl
    rw [if_pos h0] at HT
    have HB : Hid _ := h
    clear h0 h
    go_enter Tryz.func35, Tryz.ntmps35
    go_wp2
    go_end0
    exact ⟨rfl, by rw [HT.out, List.append_nil]; exact HB.out, Below.refl _ _, Spare.refl _ _⟩
  · have h0' : ((ts.length : Int) == 0) = false := by rw [beq_eq_false_iff_ne]; omega
    rw [if_neg h0] at HT
    have HLL : Hid (l.length + (1 + (upG (txA ts) ts.length).length + 1) ≤ 1099511627776) := by
      have := HL.out
      rw [HT.out] at this
      simp only [List.length_append, List.length_cons, List.length_nil] at this
      show _ ≤ _
      omega
    have HB : Hid _ := h
    clear h0 h HL
    go_enter Tryz.func35, Tryz.ntmps35
    go_wp2_with fail
    refine (put_new (g := w.heap.size) ⟨#[40]⟩ rfl HB.out hBw (by have := HLL.out; show _ + 1 ≤ _; omega)).mono ?_
    rintro e w2 ⟨rfl, k1, k2, k3⟩
    go_wp2_with fail
    refine (listArg_any (.slice a ts.length c) ts W0 hW HLt.out HG.out hok (l ++ [40]) w2 (hb.trans (k2.mono hW)) k1 (Nat.le_trans hBw k2.size) (by have := HLL.out; rw [List.length_append]; show _ + 1 + _ ≤ _; omega)).mono ?_
    rintro e w3 hw3
    obtain ⟨rfl, k4, k5, k6⟩ := hw3.from k2 k3
    clear k1 k2 k3
    go_wp2_with fail
    refine (put_new (g := w3.heap.size) ⟨#[41]⟩ rfl k4 (Nat.le_trans hBw k5.size) (by have := HLL.out; rw [List.length_append, List.length_append]; show _ + 1 + _ + 1 ≤ _; omega)).mono ?_
    rintro e w4 hw4
    obtain ⟨rfl, k7, k8, k9⟩ := hw4.from k5 k6
    clear k4 k5 k6
    go_wp2
    go_end0
    exact ⟨rfl, by rw [HT.out, ← List.append_assoc, ← List.append_assoc]; exact k7, k8, k9⟩
set_option maxHeartbeats 3200000 in
theorem wrule_any {B b : Nat} (d : Nat) (r : R3) (p : RP) (W0 : World) (hW : W0.heap.size ≤ B) (hR : RIs W0 d r p) (hG : Gr W0) (hok : ruleB d r = true) (l : List UInt8) (w : World) (hb : Below W0.heap.size W0 w) (h : BldA B b l w) (hBw : B ≤ w.heap.size)
    (hl : l.length + (ruleT r).length ≤ 1099511627776) :
    Calls Tryz.prog 17 #[self b, r.val p] w (Wrote B b l (ruleT r) w) := by
  obtain ⟨pr, hd, bd⟩ := r
  obtain ⟨pa, pc, ba, bc⟩ := p
  obtain ⟨h1, h2, h3, h4, h5⟩ := ruleB_form hok
  have HHd : Hid (La W0 (.slice pa hd.length pc) hd) := hR.hd
  have HBd : Hid (Lb W0 (.slice ba bd.length bc) d bd) := hR.bd
  have hbl := hR.bl
  have HT : Hid (ruleT ⟨pr, hd, bd⟩ = pr.data.toList ++ (colG (txA hd) ++ (bodyT bd ++ [46]))) := rfl
  have HL : Hid (l.length + (pr.size + (colG (txA hd)).length + (bodyT bd).length + 1) ≤ 1099511627776) := by
    show _ ≤ _
    have := hl
    rw [HT.out] at this
    simp only [List.length_append, List.length_cons, List.length_nil, len_toList] at this
    omega
  unfold R3.val
  dsimp only at hbl h4 h5 ⊢
  have BA := (Below.refl w.heap.size w).alloc (Nat.le_refl _) (.cells #[.string pr, .slice pa hd.length pc, .slice ba bd.length bc] 34)
  have HB : Hid (BldA B b l _) := h.below BA
  have HN : Hid _ := heap_alloc_new w (.cells #[.string pr, .slice pa hd.length pc, .slice ba bd.length bc] 34)
  have hnb : w.heap.size ≠ b := by have := h.lt; omega
  have HG : Hid _ := hG
  have HTB : Hid (bodyT bd = if bd.length = 0 then [] else [32, 58, 45, 32] ++ upG (txB bd) bd.length) := rfl
  clear hR hl h hok hG h1 h2 h3
  unfold self
  go_enter Tryz.func17, Tryz.ntmps17
  go_wp2_with fail
  refine (put_new (g := w.heap.size + 1) pr (by simp) HB.out (Nat.le_trans hBw BA.size) (by have := HL.out; omega)).mono ?_
  rintro e w2 ⟨rfl, k1, k2, k3⟩
  have y1 : w2.cell? ⟨w.heap.size, 1, none⟩ = some (.slice pa hd.length pc) := by rw [k3.cell HN.out (by decide) hnb]; rfl
  have HS0 : Hid (Spare b (w.alloc (.cells #[.string pr, .slice pa hd.length pc, .slice ba bd.length bc] 34)) w2) := k3
  have HW2 : Hid (Below B w w2 ∧ Spare b w w2) := ⟨(BA.mono hBw).trans k2, (Spare.below BA).trans k3⟩
  clear k2 k3
  go_wp2_with fail
  refine (columnsA_any (.slice pa hd.length pc) hd W0 hW HHd.out HG.out h4 _ w2 (hb.trans (HW2.out.1.mono hW)) k1 (Nat.le_trans hBw HW2.out.1.size) (by have := HL.out; rw [List.length_append, len_toList]; omega)).mono ?_
  rintro e w3 ⟨rfl, k4, k5, k6⟩
  have HS1 : Hid (Spare b (w.alloc (.cells #[.string pr, .slice pa hd.length pc, .slice ba bd.length bc] 34)) w3) := HS0.out.trans k6
  have HW3 : Hid (Below B w w3 ∧ Spare b w w3) := ⟨HW2.out.1.trans k5, HW2.out.2.trans k6⟩
  have y2 : w3.cell? ⟨w.heap.size, 2, none⟩ = some (.slice ba bd.length bc) := by rw [HS1.out.cell HN.out (by decide) hnb]; rfl
  clear y1 k1 k5 k6 HS0 HW2
  by_cases h0 : bd.length = 0
  · have h0' : ¬ (0 : Int) < (bd.length : Int) := by omega
    rw [if_pos h0] at HTB
    have HL2 : Hid ((l ++ pr.data.toList ++ colG (txA hd)).length + 1 ≤ 1099511627776) := by
      show _ ≤ _
      have := HL.out
      simp only [List.length_append, len_toList]
      omega
    clear h0
    go_wp2_with fail
    refine (put_new (g := w3.heap.size) ⟨#[46]⟩ rfl k4 (Nat.le_trans hBw HW3.out.1.size) HL2.out).mono ?_
    rintro e w4 hw4
    obtain ⟨rfl, k7, k8, k9⟩ := hw4.from HW3.out.1 HW3.out.2
    clear k4 y2
    go_wp2
    go_end0
    exact ⟨rfl, by rw [HT.out, HTB.out, List.nil_append, ← List.append_assoc, ← List.append_assoc]; exact k7, k8, k9⟩
  · have h0' : (0 : Int) < (bd.length : Int) := by omega
    rw [if_neg h0] at HTB
    have HL2 : Hid ((l ++ pr.data.toList ++ colG (txA hd)).length + 4 ≤ 1099511627776 ∧ (l ++ pr.data.toList ++ colG (txA hd) ++ [32, 58, 45, 32]).length + (upG (txB bd) bd.length).length ≤ 1099511627776 ∧ (l ++ pr.data.toList ++ colG (txA hd) ++ [32, 58, 45, 32] ++ upG (txB bd) bd.length).length + 1 ≤ 1099511627776) := by
      have := HL.out
      rw [HTB.out] at this
      simp only [List.length_append, List.length_cons, List.length_nil, len_toList] at this ⊢
      show _ ∧ _
      omega
    clear h0
    go_wp2_with fail
    refine (put_new (g := w3.heap.size) ⟨#[32, 58, 45, 32]⟩ rfl k4 (Nat.le_trans hBw HW3.out.1.size) HL2.out.1).mono ?_
    rintro e w4 ⟨rfl, k7, k8, k9⟩
    have HS2 : Hid (Spare b (w.alloc (.cells #[.string pr, .slice pa hd.length pc, .slice ba bd.length bc] 34)) w4) := HS1.out.trans k9
    have HW4 : Hid (Below B w w4 ∧ Spare b w w4) := ⟨HW3.out.1.trans k8, HW3.out.2.trans k9⟩
    have z2 : w4.cell? ⟨w.heap.size, 2, none⟩ = some (.slice ba bd.length bc) := by rw [HS2.out.cell HN.out (by decide) hnb]; rfl
    clear k4 y2 k8 k9 HW3 HS1
    go_wp2_with fail
    refine (listLit_any (.slice ba bd.length bc) d bd W0 hW HBd.out HG.out h5 _ w4 (hb.trans (HW4.out.1.mono hW)) k7 (Nat.le_trans hBw HW4.out.1.size) HL2.out.2.1).mono ?_
    rintro e w5 hw5
    obtain ⟨rfl, m1, m2, m3⟩ := hw5.from HW4.out.1 HW4.out.2
    clear k7 z2
    go_wp2_with fail
    refine (put_new (g := w5.heap.size) ⟨#[46]⟩ rfl m1 (Nat.le_trans hBw m2.size) HL2.out.2.2).mono ?_
    rintro e w6 hw6
    obtain ⟨rfl, m4, m5, m6⟩ := hw6.from m2 m3
    clear m1 m2 m3
    go_wp2
    go_end0
    exact ⟨rfl, by rw [HT.out, HTB.out]; simpa [List.append_assoc] using m4, m5, m6⟩
open Go.RowKit Go.Maps
set_option linter.unusedVariables false
set_option linter.unusedSimpArgs false
attribute [local go_sem ↓] Go.wp_at_zero Go.wp_at_succ

set_option maxHeartbeats 1600000 in
theorem r6arg_any (x : A5) (w : World) (hx : x.wf) (hok : argB x = true) : Calls Tryz.prog 28 #[.agg #[.int .i8 x.g, .string x.t.v, .int .i8 x.t.a.k, .int .i64 x.t.a.n, .string x.t.a.s]] w fun e w' => e = .returned (.string (txt (argT x))) ∧ Below w.heap.size w w' := by
  have BA := (Below.refl w.heap.size w).alloc (Nat.le_refl _) (.cells #[.int .i8 x.g, .string x.t.v, .int .i8 x.t.a.k, .int .i64 x.t.a.n, .string x.t.a.s] 76)
  have HBA : Hid (Below w.heap.size w _) := BA
  rcases argB_form hx hok with ⟨e, ht⟩ | ⟨⟨e1, e4⟩, hv⟩
  · have hT : argT x = termT x.t := by unfold argT; rw [if_pos e]
    have f1 : (x.g == 1) = false := by rw [e]; rfl
    have f2 : (x.g == 2) = false := by rw [e]; rfl
    have f3 : (x.g == 3) = false := by rw [e]; rfl
    have f4 : (x.g == 4) = false := by rw [e]; rfl
    rw [hT, txt_term]
    have HC : Hid (∀ u, Calls Tryz.prog 56 #[.agg #[.string x.t.v, .int .i8 x.t.a.k, .int .i64 x.t.a.n, .string x.t.a.s]] u fun e w' => e = .returned (.string (termS x.t)) ∧ Below u.heap.size u w') := fun u => r6term_any x.t u hx.t ht
    generalize termS x.t = S at HC ⊢
    clear hx hok hT e ht BA
    go_enter Tryz.func28, Tryz.ntmps28
    go_wp2_with fail
    refine Calls.mono (HC.out _) ?_
    rintro ee w1 ⟨rfl, b1⟩
    go_wp2
    go_ret
    exact ⟨rfl, HBA.out.trans (b1.mono HBA.out.size)⟩
  · by_cases g1 : x.g = 1
    · have hz := argB_1 g1
      rw [hok] at hz
      have hz2 : x.t = T0 := of_decide_eq_true hz.symm
      have f1 : (x.g == 1) = true := by rw [g1]; rfl
      have hT : txt (argT x) = ⟨#[99, 111, 117, 110, 116, 40, 41]⟩ := by
        unfold argT
        rw [if_neg (by omega), g1, hz2]
        rfl
      rw [hT]
      clear hx hok hT hz hz2 g1 e1 e4 hv BA
      go_enter Tryz.func28, Tryz.ntmps28
      go_wp2
      go_ret
      exact ⟨rfl, HBA.out⟩
    · have G : x.g = 2 ∨ x.g = 3 ∨ x.g = 4 := by omega
      clear hx hok e1 e4 g1 BA
      rcases G with e | e | e
      · have f2 : (x.g == 2) = true := by rw [e]; rfl
        have f1 : (x.g == 1) = false := by rw [e]; rfl
        have hT : argT x = [115, 117, 109, 40] ++ (x.t.v.data.toList ++ [41]) := by unfold argT; rw [if_neg (by omega), e]; rfl
        rw [hT]
        obtain ⟨S2, hS2⟩ : ∃ S2, txt ([115, 117, 109, 40] ++ (x.t.v.data.toList ++ [41])) = S2 := ⟨_, rfl⟩
        obtain ⟨S1, hS1⟩ : ∃ S1, txt ([115, 117, 109, 40] ++ x.t.v.data.toList) = S1 := ⟨_, rfl⟩
        have hadd1 : (⟨#[115, 117, 109, 40]⟩ : ByteArray) ++ x.t.v = S1 := by rw [← hS1, ← txt_app, txt_bytes]; rfl
        have hadd2 : S1 ++ (⟨#[41]⟩ : ByteArray) = S2 := by rw [← hS1, ← hS2, txt_one, txt_app, List.append_assoc]
        have hs1 : S1.size ≤ 2000 := by rw [← hS1, txt_size, List.length_append, len_toList]; simp only [List.length_cons, List.length_nil]; omega
        rw [hS2]
        clear hT e hS1 hS2
        go_enter Tryz.func28, Tryz.ntmps28
        go_wp2
        go_ret
        exact ⟨rfl, HBA.out⟩
      · have f3 : (x.g == 3) = true := by rw [e]; rfl
        have f1 : (x.g == 1) = false := by rw [e]; rfl
        have f2 : (x.g == 2) = false := by rw [e]; rfl
        have hT : argT x = [109, 105, 110, 40] ++ (x.t.v.data.toList ++ [41]) := by unfold argT; rw [if_neg (by omega), e]; rfl
        rw [hT]
        obtain ⟨S2, hS2⟩ : ∃ S2, txt ([109, 105, 110, 40] ++ (x.t.v.data.toList ++ [41])) = S2 := ⟨_, rfl⟩
        obtain ⟨S1, hS1⟩ : ∃ S1, txt ([109, 105, 110, 40] ++ x.t.v.data.toList) = S1 := ⟨_, rfl⟩
        have hadd1 : (⟨#[109, 105, 110, 40]⟩ : ByteArray) ++ x.t.v = S1 := by rw [← hS1, ← txt_app, txt_bytes]; rfl
        have hadd2 : S1 ++ (⟨#[41]⟩ : ByteArray) = S2 := by rw [← hS1, ← hS2, txt_one, txt_app, List.append_assoc]
        have hs1 : S1.size ≤ 2000 := by rw [← hS1, txt_size, List.length_append, len_toList]; simp only [List.length_cons, List.length_nil]; omega
        rw [hS2]
        clear hT e hS1 hS2
        go_enter Tryz.func28, Tryz.ntmps28
        go_wp2
        go_ret
        exact ⟨rfl, HBA.out⟩
      · have f4 : (x.g == 4) = true := by rw [e]; rfl
        have f1 : (x.g == 1) = false := by rw [e]; rfl
        have f2 : (x.g == 2) = false := by rw [e]; rfl
        have f3 : (x.g == 3) = false := by rw [e]; rfl
        have hT : argT x = [109, 97, 120, 40] ++ (x.t.v.data.toList ++ [41]) := by unfold argT; rw [if_neg (by omega), e]; rfl
        rw [hT]
        obtain ⟨S2, hS2⟩ : ∃ S2, txt ([109, 97, 120, 40] ++ (x.t.v.data.toList ++ [41])) = S2 := ⟨_, rfl⟩
        obtain ⟨S1, hS1⟩ : ∃ S1, txt ([109, 97, 120, 40] ++ x.t.v.data.toList) = S1 := ⟨_, rfl⟩
        have hadd1 : (⟨#[109, 97, 120, 40]⟩ : ByteArray) ++ x.t.v = S1 := by rw [← hS1, ← txt_app, txt_bytes]; rfl
        have hadd2 : S1 ++ (⟨#[41]⟩ : ByteArray) = S2 := by rw [← hS1, ← hS2, txt_one, txt_app, List.append_assoc]
        have hs1 : S1.size ≤ 2000 := by rw [← hS1, txt_size, List.length_append, len_toList]; simp only [List.length_cons, List.length_nil]; omega
        rw [hS2]
        clear hT e hS1 hS2
        go_enter Tryz.func28, Tryz.ntmps28
        go_wp2
        go_ret
        exact ⟨rfl, HBA.out⟩
def strG (t : List UInt8) : List Value := [.string (txt t)]
def preG (p : ByteArray) (tx : List (List UInt8)) (k : Nat) : List UInt8 := p.data.toList ++ [40] ++ upG tx k
def headT (p : ByteArray) (tx : List (List UInt8)) : List UInt8 := p.data.toList ++ colG tx
theorem preG_le (p : ByteArray) {tx : List (List UInt8)} {k : Nat} (h : k ≤ tx.length) (h0 : tx.length ≠ 0) : (preG p tx k).length < (headT p tx).length := by
  have h1 := upG_le tx k (tx.length - k)
  rw [show k + (tx.length - k) = tx.length by omega] at h1
  unfold preG headT colG
  rw [if_neg h0]
  simp only [List.length_append, List.length_cons, List.length_nil]
  omega
theorem preG_end (p : ByteArray) {tx : List (List UInt8)} (h0 : tx.length ≠ 0) : preG p tx tx.length ++ [41] = headT p tx := by
  unfold preG headT colG
  rw [if_neg h0]
  simp only [List.append_assoc]
theorem preG_zero (p : ByteArray) (tx : List (List UInt8)) : p ++ (⟨#[40]⟩ : ByteArray) = txt (preG p tx 0) := by
  conv => lhs; rw [← txt_bytes p, txt_one, txt_app]
  simp [preG, upG]
set_option maxHeartbeats 1600000 in
theorem r6columnsG_any (pr : ByteArray) (v : Value) (tx : List (List UInt8)) (w : World) (hlen : (headT pr tx).length ≤ 1000000000) (hl : Ls w v tx.length (tx.flatMap strG)) :
    Calls Tryz.prog 29 #[.string pr, v] w fun r w' => r = .returned (.string (txt (headT pr tx))) ∧ w' = w := by
  obtain ⟨hmax, a, c, rfl, hc1, hc2, hk⟩ := hl
  unfold maxLen at hmax
  by_cases h0 : tx.length = 0
  · have e0 : txt (headT pr tx) = pr := by unfold headT colG; rw [if_pos h0, List.append_nil, txt_bytes]
    rw [e0]
    have h0' : ((tx.length : Nat) : Int) = 0 := by omega
    clear hk e0
    go_enter Tryz.func29, Tryz.ntmps29
    go_wp2
    go_ret
    exact ⟨rfl, rfl⟩
  · obtain ⟨g, off, rfl, hg, hf⟩ := hk (by omega)
    have hF : Hid (∀ k, k < tx.length → w.cell? ⟨g, off + k, none⟩ = some (.string (txt (tx.getD k [])))) := fun k hk => by
      have := hf.elem (k := 1) (fun _ => rfl) [] (j := 0) hk (by decide) (u := .string (txt (tx.getD k []))) rfl
      simpa using this
    have h0' : ¬ ((tx.length : Nat) : Int) = 0 := by omega
    have HLn : Hid _ := hlen
    have HN0 : Hid (tx.length ≠ 0) := h0
    have hz := preG_zero pr tx
    have hps : pr.size ≤ 1000000000 := by
      have : pr.size ≤ (headT pr tx).length := by unfold headT; rw [List.length_append, len_toList]; omega
      omega
    obtain ⟨S0, hS0⟩ : ∃ S0, txt (preG pr tx 0) = S0 := ⟨_, rfl⟩
    rw [hS0] at hz
    have HS0 : Hid _ := hS0
    obtain ⟨SE, hSE⟩ : ∃ SE, txt (headT pr tx) = SE := ⟨_, rfl⟩
    rw [hSE]
    have HSE : Hid _ := hSE
    clear hf hk hlen h0 hS0 hSE
    go_enter Tryz.func29, Tryz.ntmps29
    go_wp2
    go_loopw [5, 6] (fun s i wr => ∃ k : Nat, k ≤ tx.length ∧ i = .int .i64 k ∧ ∃ S, s = .string S ∧ Hid (txt (preG pr tx k) = S) ∧ Hid (wr = w)) (fun _ i _ => tx.length - (intOf i).toNat)
    case atStart => exact ⟨0, Nat.zero_le _, rfl, S0, rfl, HS0, rfl⟩
    case round =>
      obtain ⟨k, hk, rfl, S, rfl, HS, HW⟩ := hrel
      clear hz HS0 hps
      have hss : S.size ≤ 1000000000 := by
        rw [← HS.out, txt_size]
        have := preG_le pr hk HN0.out
        have := HLn.out
        omega
      by_cases hlt : k < tx.length
      · have hlt' : (k : Int) < (tx.length : Int) := by omega
        have hc : wr.cell? ⟨g, off + k, none⟩ = some (.string (txt (tx.getD k []))) := by rw [HW.out]; exact hF.out k hlt
        have HU : Hid (preG pr tx (k + 1) = preG pr tx k ++ ((if k = 0 then [] else [44, 32]) ++ tx.getD k [])) := by show _ = _; unfold preG; rw [upG]; simp only [List.append_assoc]
        have HLe : Hid _ := preG_le pr (k := k + 1) hlt HN0.out
        generalize tx.getD k [] = t at hc HU
        have hts : (txt t).size ≤ 1000000000 := by
          rw [txt_size]
          have h1 := HLe.out
          have h2 := HLn.out
          have h3 := congrArg List.length HU.out
          rw [List.length_append, List.length_append] at h3
          omega
        by_cases k0 : k = 0
        · have k0' : ¬ (0 : Int) < (k : Int) := by omega
          have hadd : S ++ txt t = txt (preG pr tx (k + 1)) := by rw [HU.out, if_pos k0, List.nil_append, ← HS.out, txt_app]
          obtain ⟨S2, hS2⟩ : ∃ S2, txt (preG pr tx (k + 1)) = S2 := ⟨_, rfl⟩
          rw [hS2] at hadd
          have HS2 : Hid _ := hS2
          clear hS2 k0 HU HLe
          generalize txt t = TS at hc hts hadd
          go_wp2
          go_roundw
          case rel => exact ⟨k + 1, by omega, by go_num, S2, rfl, HS2, HW⟩
          case measure => simp [intOf]; omega
        · have k0' : (0 : Int) < (k : Int) := by omega
          have hadd1 : S ++ (⟨#[44, 32]⟩ : ByteArray) = txt (preG pr tx k ++ [44, 32]) := by rw [← HS.out, show (⟨#[44, 32]⟩ : ByteArray) = txt [44, 32] from rfl, txt_app]
          have hadd : txt (preG pr tx k ++ [44, 32]) ++ txt t = txt (preG pr tx (k + 1)) := by rw [HU.out, if_neg k0, txt_app]; simp only [List.append_assoc]
          obtain ⟨S2, hS2⟩ : ∃ S2, txt (preG pr tx (k + 1)) = S2 := ⟨_, rfl⟩
          obtain ⟨S1, hS1⟩ : ∃ S1, txt (preG pr tx k ++ [44, 32]) = S1 := ⟨_, rfl⟩
          have hs1 : S1.size ≤ 1000000010 := by
            rw [← hS1, txt_size, List.length_append, ← txt_size, HS.out]
            simp only [List.length_cons, List.length_nil]
            omega
          rw [hS2, hS1] at hadd
          rw [hS1] at hadd1
          have HS2 : Hid _ := hS2
          clear hS2 hS1 k0 HU HLe
          generalize txt t = TS at hc hts hadd
          go_wp2
          go_roundw
          case rel => exact ⟨k + 1, by omega, by go_num, S2, rfl, HS2, HW⟩
          case measure => simp [intOf]; omega
      · obtain rfl : k = tx.length := by omega
        have hadd : S ++ (⟨#[41]⟩ : ByteArray) = SE := by rw [← HSE.out, ← preG_end pr HN0.out, ← HS.out, txt_one, txt_app]
        go_wp2
        go_ret
        exact ⟨rfl, HW.out⟩
open Go.RowKit Go.Maps
set_option linter.unusedVariables false
set_option linter.unusedSimpArgs false
attribute [local go_sem ↓] Go.wp_at_zero Go.wp_at_succ

/-- the text up to the body's first k literals -/
def preR (pr : ByteArray) (hd : List A5) (bd : List XL) (k : Nat) : List UInt8 := headT pr (txA hd) ++ (if k = 0 then [] else [32, 58, 45, 32] ++ upG (txB bd) k)
theorem preR_0 (pr : ByteArray) (hd : List A5) (bd : List XL) : preR pr hd bd 0 = headT pr (txA hd) := by unfold preR; rw [if_pos rfl, List.append_nil]
theorem preR_1 {pr : ByteArray} {hd : List A5} {bd : List XL} (h : 0 < bd.length) : preR pr hd bd 0 ++ [32, 58, 45, 32] ++ litT (atL bd 0).x = preR pr hd bd 1 := by
  rw [preR_0]
  unfold preR
  rw [if_neg (by omega), upG, if_pos rfl, txB_at h]
  simp [upG, List.append_assoc]
theorem preR_z {pr : ByteArray} {hd : List A5} {bd : List XL} {k : Nat} (h0 : k = 0) (h : k < bd.length) : preR pr hd bd k ++ [32, 58, 45, 32] ++ litT (atL bd k).x = preR pr hd bd (k + 1) := by subst h0; exact preR_1 h
theorem preR_s {pr : ByteArray} {hd : List A5} {bd : List XL} {k : Nat} (h0 : k ≠ 0) (h : k < bd.length) : preR pr hd bd k ++ [44, 32] ++ litT (atL bd k).x = preR pr hd bd (k + 1) := by
  unfold preR
  rw [if_neg h0, if_neg (by omega), upG, if_neg h0, txB_at h]
  simp [List.append_assoc]
theorem preR_end (pr : ByteArray) (hd : List A5) (bd : List XL) : preR pr hd bd bd.length ++ [46] = ruleT ⟨pr, hd, bd⟩ := by
  unfold preR ruleT bodyT headT
  simp only [List.append_assoc]
structure PreOK (pr : ByteArray) (hd : List A5) (bd : List XL) : Prop where
  head : (headT pr (txA hd)).length ≤ 100000
  body : ∀ k, k ≤ bd.length → (upG (txB bd) k).length ≤ 17000000000
theorem preR_len {pr : ByteArray} {hd : List A5} {bd : List XL} (h : PreOK pr hd bd) {k : Nat} (hk : k ≤ bd.length) : (preR pr hd bd k).length ≤ 17000200000 := by
  have h1 := h.head
  have h2 := h.body k hk
  unfold preR
  rw [List.length_append]
  split
  · simp only [List.length_nil]; omega
  · simp only [List.length_append, List.length_cons, List.length_nil]; omega
theorem preOK {w : World} {d : Nat} {r : R3} {p : RP} (hR : RIs w d r p) (hok : ruleB d r = true) : PreOK r.pr r.hd r.bd := by
  obtain ⟨h1, h2, h3, h4, h5⟩ := ruleB_form hok
  have a1 := name_size h1
  have a2 := colA_len hR.hd.wf h4 h2
  refine ⟨?_, bodyT_len hR.bd.each h5 h3⟩
  unfold headT
  rw [List.length_append, len_toList]
  omega
theorem txA_take {l : List A5} {k : Nat} (h : k < l.length) : (txA (l.take (k + 1))).flatMap strG = (txA (l.take k)).flatMap strG ++ [.string (txt (argT (atA l k)))] := by
  have e : l.take (k + 1) = l.take k ++ [l[k]] := by rw [List.take_add_one, List.getElem?_eq_getElem h]; rfl
  unfold txA
  rw [e, List.map_append, List.flatMap_append, atA_eq h]
  rfl
attribute [-go_sem] loadVar storeVar
set_option maxHeartbeats 6400000 in
theorem r6rule_any (d : Nat) (r : R3) (p : RP) (w : World) (hR : RIs w d r p) (hok : ruleB d r = true) :
    Calls Tryz.prog 14 #[r.val p] w fun e w' => e = .returned (.string (txt (ruleT r))) ∧ Below w.heap.size w w' := by
  obtain ⟨i0, hi0, hz0, hz1, hz2⟩ := info_parts infoStr
  have HP : Hid _ := preOK hR hok
  obtain ⟨pr, hd, bd⟩ := r
  obtain ⟨pa, pc, ba, bc⟩ := p
  obtain ⟨h1, h24, h16, h4, h5⟩ := ruleB_form hok
  have hh := hR.hd
  have hb := hR.bd
  dsimp only at h24 h16 h4 h5 hh hb HP
  have HB0 : Hid (Below w.heap.size w (w.alloc (.cells #[.string pr, .slice pa hd.length pc, .slice ba bd.length bc] 34))) := (Below.refl w.heap.size w).alloc (Nat.le_refl _) _
  have HR0 : Hid (RL (w.alloc (.cells #[.string pr, .slice pa hd.length pc, .slice ba bd.length bc] 34)) w.heap.size 34 [.string pr, .slice pa hd.length pc, .slice ba bd.length bc]) := rl_new w #[.string pr, .slice pa hd.length pc, .slice ba bd.length bc] 34
  have HAi : Hid (∀ i, i < hd.length → ∀ u, Calls Tryz.prog 28 #[.agg (atA hd i).cells.toArray] u fun e w' => e = .returned (.string (txt (argT (atA hd i)))) ∧ Below u.heap.size u w') := fun i hi u => r6arg_any _ u (hh.at_wf hi) (by rw [atA_eq hi]; exact List.all_eq_true.1 h4 _ (List.getElem_mem hi))
  have HLi : Hid (∀ i, i < bd.length → ∀ u, Below w.heap.size w u → Calls Tryz.prog 30 #[.agg (atL bd i).cells.toArray] u fun e w' => e = .returned (.string (txt (litT (atL bd i).x))) ∧ Below u.heap.size u w') := fun i hi u hu => r6literal_any d _ _ u ((hb.at_is hi).below hu) (by rw [atL_eq hi]; exact List.all_eq_true.1 h5 _ (List.getElem_mem hi))
  obtain ⟨a1, c1, e1, hc1, hc2, hk1⟩ := hh.form
  cases e1
  obtain ⟨a2, c2, e2, hc3, hc4, hk2⟩ := hb.form
  cases e2
  have HK1 : Hid _ := hk1
  have HK2 : Hid _ := hk2
  have hagg1 := fun q => loadVar.eq_1 32 q
  have hagg2 := fun q => loadVar.eq_1 31 q
  have hagg3 := fun q => loadVar.eq_1 9 q
  obtain ⟨SE, hSE⟩ : ∃ SE, txt (ruleT ⟨pr, hd, bd⟩) = SE := ⟨_, rfl⟩
  rw [hSE]
  have HSE : Hid _ := hSE
  unfold R3.val
  dsimp only
  clear hk1 hk2 hh hb hR hok hc1 hc2 hc3 hc4 h1 h4 h5 hSE
  go_enter Tryz.func14, Tryz.ntmps14
  go_upto_region 1 with fail
  generalize w.alloc (.cells #[.string pr, .slice pa hd.length pc, .slice ba bd.length bc] 34) = W at HB0 HR0 ⊢
  have hbW : w.heap.size < W.heap.size := World.rowIs.lt HR0.out
  have HRu : Hid (∀ u, Below W.heap.size W u → RL u w.heap.size 34 [.string pr, .slice pa hd.length pc, .slice ba bd.length bc]) := fun u hu => RL.below HR0.out hu
  clear HR0
  go_wp2
  go_loopw [3, 4] (fun lv i wr => ∃ (k : Nat) (a' : Option Addr) (c' : Nat), k ≤ hd.length ∧ i = .int .i64 k ∧ lv = .slice a' k c' ∧ Hid (wr.ownsRow W.heap.size 9 1 (.slice a' k c') k ((txA (hd.take k)).flatMap strG)) ∧ Below W.heap.size W wr) (fun _ i _ => hd.length - (intOf i).toNat)
  case atStart => exact ⟨0, none, 0, Nat.zero_le _, rfl, rfl, World.ownsRow_nil _ _ _ _, Below.refl _ _⟩
  case round =>
    obtain ⟨k, a', c', hk, rfl, rfl, HO, bel⟩ := hrel
    have hR := HRu.out wr bel
    have hzw := bel.size
    by_cases hlt : k < hd.length
    · have hlt' : (k : Int) < (hd.length : Int) := by omega
      have hk0 : (0 : Int) ≤ (k : Int) := by omega
      obtain ⟨g, off, rfl, hg, hT⟩ := HK1.out (by omega)
      have y1 := hR.at (j := 1) rfl
      have hld := load_Arg (range_below (hT k hlt) (HB0.out.trans (bel.mono HB0.out.size)) hg) rfl
      have HI : Hid _ := HAi.out k hlt
      have HTK : Hid _ := txA_take hlt
      generalize Value.agg (atA hd k).cells.toArray = QV at hld HI
      generalize txt (argT (atA hd k)) = AS at HI HTK
      clear hT hR
      go_wp2_with fail
      refine Calls.mono (HI.out _) ?_
      rintro e w1 ⟨rfl, b1⟩
      have own1 : Hid (w1.ownsRow W.heap.size 9 1 (.slice a' k c') k ((txA (hd.take k)).flatMap strG)) := own_below HO.out b1
      have bel1 : Below W.heap.size W w1 := bel.trans (b1.mono bel.size)
      have hz1w : W.heap.size ≤ w1.heap.size := bel1.size
      clear b1 hld HI HO bel y1
      go_wp2_with (at_builtin; refine wpList_append_own_at _ rfl _ _ 72 rfl W.heap.size 9 i0 _ 1 16 Tryz.underlying72 hi0 hz0 hz1 hz2 rfl (by decide) _ _ _ rfl (own_below own1.out ((Below.refl _ _).alloc (Nat.le_refl _) _)) ⟨_, 0, none⟩ 1 1 [.string AS] rfl rfl (lit_news _ #[.string AS] _) (by simp [Value.oneCell']) (by unfold maxLen; omega) (by omega) (by simp; omega) ?_; intro v' w2 hown' hgrow hnil hloc)
      obtain ⟨a2, c2, rfl, _⟩ := own_form hown'
      go_roundw
      case rel => exact ⟨k + 1, a2, c2, by omega, by go_num, rfl, by show World.ownsRow _ _ _ _ _ _ _; rw [HTK.out]; exact hown', (bel1.alloc bel1.size _).grown hgrow (by simp; omega) (fun j hj => (own1.out.lt j hj).1)⟩
      case measure => simp [intOf]; omega
    · obtain rfl : k = hd.length := by omega
      rw [List.take_length] at HO
      have y0 := hR.at (j := 0) rfl
      have y1 := hR.at (j := 1) rfl
      have HLS : Hid (Ls wr (.slice a' hd.length c') (txA hd).length ((txA hd).flatMap strG)) := by show Ls _ _ _ _; rw [txA_len]; exact ls_own HO.out
      have HCo : Hid _ := r6columnsG_any pr _ (txA hd) wr (by have := HP.out.head; omega) HLS.out
      have HBl : Hid _ := bel
      clear HO hR bel
      go_wp2_with fail
      refine Calls.mono HCo.out ?_
      rintro e w1 ⟨rfl, hw1⟩
      subst hw1
      obtain ⟨S0, hS0⟩ : ∃ S0, txt (headT pr (txA hd)) = S0 := ⟨_, rfl⟩
      rw [hS0]
      have HS0 : Hid (txt (preR pr hd bd 0) = S0) := by show _ = _; rw [preR_0]; exact hS0
      clear hS0 HCo HLS y0 y1
      go_wp2
      go_loopw [5, 6] (fun s i wr => ∃ k : Nat, k ≤ bd.length ∧ i = .int .i64 k ∧ ∃ S, s = .string S ∧ Hid (txt (preR pr hd bd k) = S) ∧ Below W.heap.size W wr) (fun _ i _ => bd.length - (intOf i).toNat)
      case atStart => exact ⟨0, Nat.zero_le _, rfl, S0, rfl, HS0, HBl.out⟩
      case round =>
        obtain ⟨k, hk, rfl, S, rfl, HS, bel⟩ := hrel
        have hR := HRu.out wr bel
        have r2 := hR.at (j := 2) rfl
        have r0 := hR.at (j := 0) rfl
        have hss : S.size ≤ 17000200000 := by
          rw [← HS.out, txt_size]
          exact preR_len HP.out hk
        by_cases hlt : k < bd.length
        · have hlt' : (k : Int) < (bd.length : Int) := by omega
          have hk0 : (0 : Int) ≤ (k : Int) := by omega
          obtain ⟨g, off, rfl, hg, hT⟩ := HK2.out (by omega)
          have hld := load_Lit (range_below (hT k hlt) (HB0.out.trans (bel.mono HB0.out.size)) hg) rfl
          clear hR
          by_cases k0 : k = 0
          · have kz : ((k : Int) == 0) = true := by rw [k0]; rfl
            have hadd1 : S ++ (⟨#[32, 58, 45, 32]⟩ : ByteArray) = txt (preR pr hd bd k ++ [32, 58, 45, 32]) := by rw [← HS.out, show (⟨#[32, 58, 45, 32]⟩ : ByteArray) = txt [32, 58, 45, 32] from rfl, txt_app]
            have hadd2 : txt (preR pr hd bd k ++ [32, 58, 45, 32]) ++ txt (litT (atL bd k).x) = txt (preR pr hd bd (k + 1)) := by rw [txt_app, preR_z k0 hlt]
            have HLe : Hid _ := preR_len (k := k + 1) HP.out (by omega)
            obtain ⟨S2, hS2⟩ : ∃ S2, txt (preR pr hd bd (k + 1)) = S2 := ⟨_, rfl⟩
            obtain ⟨S1, hS1⟩ : ∃ S1, txt (preR pr hd bd k ++ [32, 58, 45, 32]) = S1 := ⟨_, rfl⟩
            have hs1 : S1.size ≤ 20000000010 := by
              rw [← hS1, txt_size, List.length_append, ← txt_size, HS.out]
              simp only [List.length_cons, List.length_nil]
              omega
            have hls : (txt (litT (atL bd k).x)).size ≤ 20000000000 := by
              rw [txt_size]
              have h1 := congrArg ByteArray.size hadd2
              rw [txt_size] at h1
              simp only [ByteArray.size_append, txt_size] at h1
              have := HLe.out
              omega
            rw [hS2, hS1] at hadd2
            rw [hS1] at hadd1
            have HS2 : Hid _ := hS2
            have HI : Hid _ := HLi.out k hlt
            clear hS2 hS1 hT HLe
            generalize Value.agg (atL bd k).cells.toArray = QV at hld HI
            generalize txt (litT (atL bd k).x) = LS at HI hls hadd2
            clear k0
            go_wp2_with fail
            refine Calls.mono (HI.out _ (HB0.out.trans (bel.mono HB0.out.size))) ?_
            rintro e w2 ⟨rfl, b2⟩
            have bel2 : Below W.heap.size W w2 := bel.trans (b2.mono bel.size)
            clear hld HI b2 r2 r0
            go_wp2
            go_roundw
            case rel => exact ⟨k + 1, by omega, by go_num, S2, rfl, HS2, bel2⟩
            case measure => simp [intOf]; omega
          · have kz : ((k : Int) == 0) = false := by rw [beq_eq_false_iff_ne]; omega
            have hadd1 : S ++ (⟨#[44, 32]⟩ : ByteArray) = txt (preR pr hd bd k ++ [44, 32]) := by rw [← HS.out, show (⟨#[44, 32]⟩ : ByteArray) = txt [44, 32] from rfl, txt_app]
            have hadd2 : txt (preR pr hd bd k ++ [44, 32]) ++ txt (litT (atL bd k).x) = txt (preR pr hd bd (k + 1)) := by rw [txt_app, preR_s k0 hlt]
            have HLe : Hid _ := preR_len (k := k + 1) HP.out (by omega)
            obtain ⟨S2, hS2⟩ : ∃ S2, txt (preR pr hd bd (k + 1)) = S2 := ⟨_, rfl⟩
            obtain ⟨S1, hS1⟩ : ∃ S1, txt (preR pr hd bd k ++ [44, 32]) = S1 := ⟨_, rfl⟩
            have hs1 : S1.size ≤ 20000000010 := by
              rw [← hS1, txt_size, List.length_append, ← txt_size, HS.out]
              simp only [List.length_cons, List.length_nil]
              omega
            have hls : (txt (litT (atL bd k).x)).size ≤ 20000000000 := by
              rw [txt_size]
              have h1 := congrArg ByteArray.size hadd2
              rw [txt_size] at h1
              simp only [ByteArray.size_append, txt_size] at h1
              have := HLe.out
              omega
            rw [hS2, hS1] at hadd2
            rw [hS1] at hadd1
            have HS2 : Hid _ := hS2
            have HI : Hid _ := HLi.out k hlt
            clear hS2 hS1 hT HLe
            generalize Value.agg (atL bd k).cells.toArray = QV at hld HI
            generalize txt (litT (atL bd k).x) = LS at HI hls hadd2
            go_wp2_with fail
            refine Calls.mono (HI.out _ (HB0.out.trans (bel.mono HB0.out.size))) ?_
            rintro e w2 ⟨rfl, b2⟩
            have bel2 : Below W.heap.size W w2 := bel.trans (b2.mono bel.size)
            clear hld HI b2 r2 r0
            go_wp2
            go_roundw
            case rel => exact ⟨k + 1, by omega, by go_num, S2, rfl, HS2, bel2⟩
            case measure => simp [intOf]; omega
        · obtain rfl : k = bd.length := by omega
          have hadd : S ++ (⟨#[46]⟩ : ByteArray) = SE := by rw [← HSE.out, ← preR_end, ← HS.out, txt_one, txt_app]
          go_wp2
          go_ret
          exact ⟨rfl, HB0.out.trans (bel.mono HB0.out.size)⟩
end Go.Proofs.YtjjjnpmppblchaaGreatDoor
