import Derived.Test.YtikjphfeeljhbaaGreatDoorPrA
import Derived.Test.YtikjphfeeljhbaaGreatDoorRuD
import Derived.Test.YtikjphfeeljhbaaGreatDoorPrintN
namespace Go.Proofs.YtikjphfeeljhbaaGreatDoor
open Go.RowKit Go.Maps
set_option linter.unusedVariables false
set_option linter.unusedSimpArgs false
attribute [local go_sem ↓] Go.wp_at_zero Go.wp_at_succ

theorem ruleB_form {d : Nat} {r : R3} (h : ruleB d r = true) : nameB r.pr = true ∧ r.hd.length ≤ 24 ∧ r.bd.length ≤ 16 ∧ r.hd.all argB = true ∧ r.bd.all (fun y => litB y.x) = true := by
  unfold ruleB at h
  simp only [Bool.and_eq_true, decide_eq_true_eq] at h
  exact ⟨h.1, h.2.1, h.2.2.1, h.2.2.2.1, h.2.2.2.2.1⟩
theorem name_size {s : ByteArray} (h : nameB s = true) : 1 ≤ s.size ∧ s.size ≤ 120 := by
  unfold nameB at h
  simp only [Bool.and_eq_true, decide_eq_true_eq] at h
  exact ⟨Nat.pos_of_ne_zero h.1.1.1.1, h.1.1.1.2⟩
theorem colA_len {l : List A5} (hwf : ∀ t ∈ l, t.wf) (hok : l.all argB = true) (h24 : l.length ≤ 24) : (colG (txA l)).length ≤ 60000 := by
  unfold colG
  split
  · simp
  · have h := upG_len (tx := txA l) (m := 2000) (fun i hi => by
      rw [txA_len] at hi
      rw [txA_at hi, atA_eq hi]
      exact argT_len (hwf _ (List.getElem_mem hi)) (List.all_eq_true.1 hok _ (List.getElem_mem hi))) (txA l).length (Nat.le_refl _)
    rw [txA_len] at h ⊢
    simp only [List.length_append, List.length_cons, List.length_nil]
    have : l.length * (2000 + 2) ≤ 24 * 2002 := Nat.mul_le_mul_right _ h24
    omega
theorem bodyT_len {w : World} {d : Nat} {l : List XL} (hL : ∀ y ∈ l, LIs w d y.x y.p) (hok : l.all (fun y => litB y.x) = true) (h16 : l.length ≤ 16) : ∀ k, k ≤ l.length → (upG (txB l) k).length ≤ 17000000000 := fun k hk => by
  have h := upG_len (tx := txB l) (m := 1000000000) (fun i hi => by
    rw [txB_len] at hi
    rw [txB_at hi, atL_eq hi]
    exact (litT_len (hL _ (List.getElem_mem hi)) (List.all_eq_true.1 hok _ (List.getElem_mem hi))).2) k (by rw [txB_len]; exact hk)
  have : k * (1000000000 + 2) ≤ 16 * 1000000002 := Nat.mul_le_mul_right _ (by omega)
  omega
theorem ruleT_len {w : World} {d : Nat} {r : R3} {p : RP} (hR : RIs w d r p) (hok : ruleB d r = true) : 1 ≤ (ruleT r).length ∧ (ruleT r).length ≤ 20000000000 := by
  obtain ⟨h1, h2, h3, h4, h5⟩ := ruleB_form hok
  have a1 := name_size h1
  have a2 := colA_len hR.hd.wf h4 h2
  have a3 := bodyT_len hR.bd.each h5 h3 r.bd.length (Nat.le_refl _)
  unfold ruleT bodyT
  simp only [List.length_append, List.length_cons, List.length_nil, len_toList]
  have a4 : (if r.bd.length = 0 then ([] : List UInt8) else [32, 58, 45, 32] ++ upG (txB r.bd) r.bd.length).length ≤ 17000000004 := by
    split
    · simp
    · simp only [List.length_append, List.length_cons, List.length_nil]; omega
  omega
set_option maxHeartbeats 1600000 in
theorem columnsA_any {B b : Nat} (v : Value) (ts : List A5) (W0 : World) (hW : W0.heap.size ≤ B) (hL : La W0 v ts) (hG : Gr W0) (hok : ts.all argB = true) (l : List UInt8) (w : World) (hb : Below W0.heap.size W0 w) (h : BldA B b l w) (hBw : B ≤ w.heap.size)
    (hl : l.length + (colG (txA ts)).length ≤ 1099511627776) :
    Calls Tryz.prog 34 #[self b, v, .func (.func 35) #[] #[]] w (Wrote B b l (colG (txA ts)) w) := by
  have HLt : Hid (La W0 v ts) := hL
  obtain ⟨a, c, rfl, hc1, hc2, hat⟩ := hL.form
  have HT : Hid (colG (txA ts) = if ts.length = 0 then [] else [40] ++ upG (txA ts) ts.length ++ [41]) := by show _ = _; unfold colG; rw [txA_len]
  have HL : Hid _ := hl
  have HG : Hid _ := hG
  clear hL hat hl hG
  unfold self
  by_cases h0 : ts.length = 0
  · have h0' : ((ts.length : Int) == 0) = true := by rw [h0]; rfl
    rw [if_pos h0] at HT
    have HB : Hid _ := h
    clear h0 h
    go_enter Tryz.func34, Tryz.ntmps34
    go_wp2
    go_end0
    exact ⟨rfl, by rw [HT.out, List.append_nil]; exact HB.out, Below.refl _ _, Spare.refl _ _⟩
  · have h0' : ((ts.length : Int) == 0) = false := by rw [beq_eq_false_iff_ne]; omega
    rw [if_neg h0] at HT
    have HLL : Hid (l.length + (1 + (upG (txA ts) ts.length).length + 1) ≤ 1099511627776) := by
      have := HL.out
      rw [HT.out] at this
      simp only [List.length_append, List.length_cons, List.length_nil] at this
      show _ ≤ _
      omega
    have HB : Hid _ := h
    clear h0 h HL
    go_enter Tryz.func34, Tryz.ntmps34
    go_wp2_with fail
    refine (put_new (g := w.heap.size) ⟨#[40]⟩ rfl HB.out hBw (by have := HLL.out; show _ + 1 ≤ _; omega)).mono ?_
    rintro e w2 ⟨rfl, k1, k2, k3⟩
    go_wp2_with fail
    refine (listArg_any (.slice a ts.length c) ts W0 hW HLt.out HG.out hok (l ++ [40]) w2 (hb.trans (k2.mono hW)) k1 (Nat.le_trans hBw k2.size) (by have := HLL.out; rw [List.length_append]; show _ + 1 + _ ≤ _; omega)).mono ?_
    rintro e w3 hw3
    obtain ⟨rfl, k4, k5, k6⟩ := hw3.from k2 k3
    clear k1 k2 k3
    go_wp2_with fail
    refine (put_new (g := w3.heap.size) ⟨#[41]⟩ rfl k4 (Nat.le_trans hBw k5.size) (by have := HLL.out; rw [List.length_append, List.length_append]; show _ + 1 + _ + 1 ≤ _; omega)).mono ?_
    rintro e w4 hw4
    obtain ⟨rfl, k7, k8, k9⟩ := hw4.from k5 k6
    clear k4 k5 k6
    go_wp2
    go_end0
    exact ⟨rfl, by rw [HT.out, ← List.append_assoc, ← List.append_assoc]; exact k7, k8, k9⟩
set_option maxHeartbeats 3200000 in
theorem wrule_any {B b : Nat} (d : Nat) (r : R3) (p : RP) (W0 : World) (hW : W0.heap.size ≤ B) (hR : RIs W0 d r p) (hG : Gr W0) (hok : ruleB d r = true) (l : List UInt8) (w : World) (hb : Below W0.heap.size W0 w) (h : BldA B b l w) (hBw : B ≤ w.heap.size)
    (hl : l.length + (ruleT r).length ≤ 1099511627776) :
    Calls Tryz.prog 16 #[self b, r.val p] w (Wrote B b l (ruleT r) w) := by
  obtain ⟨pr, hd, bd⟩ := r
  obtain ⟨pa, pc, ba, bc⟩ := p
  obtain ⟨h1, h2, h3, h4, h5⟩ := ruleB_form hok
  have HHd : Hid (La W0 (.slice pa hd.length pc) hd) := hR.hd
  have HBd : Hid (Lb W0 (.slice ba bd.length bc) d bd) := hR.bd
  have hbl := hR.bl
  have HT : Hid (ruleT ⟨pr, hd, bd⟩ = pr.data.toList ++ (colG (txA hd) ++ (bodyT bd ++ [46]))) := rfl
  have HL : Hid (l.length + (pr.size + (colG (txA hd)).length + (bodyT bd).length + 1) ≤ 1099511627776) := by
    show _ ≤ _
    have := hl
    rw [HT.out] at this
    simp only [List.length_append, List.length_cons, List.length_nil, len_toList] at this
    omega
  unfold R3.val
  dsimp only at hbl h4 h5 ⊢
  have BA := (Below.refl w.heap.size w).alloc (Nat.le_refl _) (.cells #[.string pr, .slice pa hd.length pc, .slice ba bd.length bc] 25)
  have HB : Hid (BldA B b l _) := h.below BA
  have HN : Hid _ := heap_alloc_new w (.cells #[.string pr, .slice pa hd.length pc, .slice ba bd.length bc] 25)
  have hnb : w.heap.size ≠ b := by have := h.lt; omega
  have HG : Hid _ := hG
  have HTB : Hid (bodyT bd = if bd.length = 0 then [] else [32, 58, 45, 32] ++ upG (txB bd) bd.length) := rfl
  clear hR hl h hok hG h1 h2 h3
  unfold self
  go_enter Tryz.func16, Tryz.ntmps16
  go_wp2_with fail
  refine (put_new (g := w.heap.size + 1) pr (by simp) HB.out (Nat.le_trans hBw BA.size) (by have := HL.out; omega)).mono ?_
  rintro e w2 ⟨rfl, k1, k2, k3⟩
  have y1 : w2.cell? ⟨w.heap.size, 1, none⟩ = some (.slice pa hd.length pc) := by rw [k3.cell HN.out (by decide) hnb]; rfl
  have HS0 : Hid (Spare b (w.alloc (.cells #[.string pr, .slice pa hd.length pc, .slice ba bd.length bc] 25)) w2) := k3
  have HW2 : Hid (Below B w w2 ∧ Spare b w w2) := ⟨(BA.mono hBw).trans k2, (Spare.below BA).trans k3⟩
  clear k2 k3
  go_wp2_with fail
  refine (columnsA_any (.slice pa hd.length pc) hd W0 hW HHd.out HG.out h4 _ w2 (hb.trans (HW2.out.1.mono hW)) k1 (Nat.le_trans hBw HW2.out.1.size) (by have := HL.out; rw [List.length_append, len_toList]; omega)).mono ?_
  rintro e w3 ⟨rfl, k4, k5, k6⟩
  have HS1 : Hid (Spare b (w.alloc (.cells #[.string pr, .slice pa hd.length pc, .slice ba bd.length bc] 25)) w3) := HS0.out.trans k6
  have HW3 : Hid (Below B w w3 ∧ Spare b w w3) := ⟨HW2.out.1.trans k5, HW2.out.2.trans k6⟩
  have y2 : w3.cell? ⟨w.heap.size, 2, none⟩ = some (.slice ba bd.length bc) := by rw [HS1.out.cell HN.out (by decide) hnb]; rfl
  clear y1 k1 k5 k6 HS0 HW2
  by_cases h0 : bd.length = 0
  · have h0' : ¬ (0 : Int) < (bd.length : Int) := by omega
    rw [if_pos h0] at HTB
    have HL2 : Hid ((l ++ pr.data.toList ++ colG (txA hd)).length + 1 ≤ 1099511627776) := by
      show _ ≤ _
      have := HL.out
      simp only [List.length_append, len_toList]
      omega
    clear h0
    go_wp2_with fail
    refine (put_new (g := w3.heap.size) ⟨#[46]⟩ rfl k4 (Nat.le_trans hBw HW3.out.1.size) HL2.out).mono ?_
    rintro e w4 hw4
    obtain ⟨rfl, k7, k8, k9⟩ := hw4.from HW3.out.1 HW3.out.2
    clear k4 y2
    go_wp2
    go_end0
    exact ⟨rfl, by rw [HT.out, HTB.out, List.nil_append, ← List.append_assoc, ← List.append_assoc]; exact k7, k8, k9⟩
  · have h0' : (0 : Int) < (bd.length : Int) := by omega
    rw [if_neg h0] at HTB
    have HL2 : Hid ((l ++ pr.data.toList ++ colG (txA hd)).length + 4 ≤ 1099511627776 ∧ (l ++ pr.data.toList ++ colG (txA hd) ++ [32, 58, 45, 32]).length + (upG (txB bd) bd.length).length ≤ 1099511627776 ∧ (l ++ pr.data.toList ++ colG (txA hd) ++ [32, 58, 45, 32] ++ upG (txB bd) bd.length).length + 1 ≤ 1099511627776) := by
      have := HL.out
      rw [HTB.out] at this
      simp only [List.length_append, List.length_cons, List.length_nil, len_toList] at this ⊢
      show _ ∧ _
      omega
    clear h0
    go_wp2_with fail
    refine (put_new (g := w3.heap.size) ⟨#[32, 58, 45, 32]⟩ rfl k4 (Nat.le_trans hBw HW3.out.1.size) HL2.out.1).mono ?_
    rintro e w4 ⟨rfl, k7, k8, k9⟩
    have HS2 : Hid (Spare b (w.alloc (.cells #[.string pr, .slice pa hd.length pc, .slice ba bd.length bc] 25)) w4) := HS1.out.trans k9
    have HW4 : Hid (Below B w w4 ∧ Spare b w w4) := ⟨HW3.out.1.trans k8, HW3.out.2.trans k9⟩
    have z2 : w4.cell? ⟨w.heap.size, 2, none⟩ = some (.slice ba bd.length bc) := by rw [HS2.out.cell HN.out (by decide) hnb]; rfl
    clear k4 y2 k8 k9 HW3 HS1
    go_wp2_with fail
    refine (listLit_any (.slice ba bd.length bc) d bd W0 hW HBd.out HG.out h5 _ w4 (hb.trans (HW4.out.1.mono hW)) k7 (Nat.le_trans hBw HW4.out.1.size) HL2.out.2.1).mono ?_
    rintro e w5 hw5
    obtain ⟨rfl, m1, m2, m3⟩ := hw5.from HW4.out.1 HW4.out.2
    clear k7 z2
    go_wp2_with fail
    refine (put_new (g := w5.heap.size) ⟨#[46]⟩ rfl m1 (Nat.le_trans hBw m2.size) HL2.out.2.2).mono ?_
    rintro e w6 hw6
    obtain ⟨rfl, m4, m5, m6⟩ := hw6.from m2 m3
    clear m1 m2 m3
    go_wp2
    go_end0
    exact ⟨rfl, by rw [HT.out, HTB.out]; simpa [List.append_assoc] using m4, m5, m6⟩
set_option maxHeartbeats 3200000 in
theorem oneR_any (d : Nat) (r : R3) (p : RP) (w : World) (hG : Gr w) (h : RIs w d r p) (hs : smallR d r) :
    Calls Tryz.prog 14 #[r.val p, .func (.func 15) #[] #[], .func (.func 16) #[] #[]] w fun e w' => e = .returned (toldV (ruleB d r) (ruleT r)) ∧ Below w.heap.size w w' := by
  have BA := (Below.refl w.heap.size w).alloc (Nat.le_refl _) (.cells #[.string r.pr, .slice p.a r.hd.length p.c, .slice p.ba r.bd.length p.bc] 25)
  have HX : Hid (RIs w d r p) := h
  have HCk : Hid _ := checkRule_any d r p _ (hG.gq.gp.kt.below BA) (h.below BA) hs
  have HWr : Hid (∀ (B b : Nat) (hW : w.heap.size ≤ B) (hok : ruleB d r = true) (l : List UInt8) (u : World), Below w.heap.size w u → BldA B b l u → B ≤ u.heap.size → l.length + (ruleT r).length ≤ 1099511627776 → Calls Tryz.prog 16 #[self b, r.val p] u (Wrote B b l (ruleT r) u)) := fun B b hW hok l u h1 h2 h3 h4 => wrule_any d r p w hW h hG hok l u h1 h2 h3 h4
  clear hG h hs
  unfold R3.val at *
  go_enter Tryz.func14, Tryz.ntmps14
  go_wp2_with fail
  refine Calls.mono HCk.out ?_
  rintro ee w1 ⟨rfl, b1⟩
  have B1 : Hid (Below w.heap.size w w1) := BA.trans (b1.mono BA.size)
  have y0 : w1.cell? ⟨w.heap.size, 0, none⟩ = some (.string r.pr) := by rw [b1.cell (p := ⟨w.heap.size, 0, none⟩) (by simp)]; go_simp
  have y1 : w1.cell? ⟨w.heap.size, 1, none⟩ = some (.slice p.a r.hd.length p.c) := by rw [b1.cell (p := ⟨w.heap.size, 1, none⟩) (by simp)]; go_simp
  have y2 : w1.cell? ⟨w.heap.size, 2, none⟩ = some (.slice p.ba r.bd.length p.bc) := by rw [b1.cell (p := ⟨w.heap.size, 2, none⟩) (by simp)]; go_simp
  clear b1 BA HCk
  cases hok : ruleB d r
  · unfold errB
    simp only [Bool.false_eq_true, if_false]
    go_wp2
    go_ret2
    exact ⟨by first | rfl | (rw [hok]; rfl), B1.out⟩
  · unfold errB
    simp only [if_true]
    have BA2 := (Below.refl w1.heap.size w1).alloc (Nat.le_refl _) (.cells #[.pointer none, .slice none 0 0] 87)
    have HBN : Hid (BldA w1.heap.size w1.heap.size [] _) := bldA_new w1
    have HLn : Hid _ := ruleT_len HX.out hok
    have HB2 : Hid (Below w.heap.size w _) := B1.out.trans (BA2.mono B1.out.size)
    have hlt := World.block_lt_of_cell? _ _ y0
    have z0 := (BA2.cell (p := ⟨w.heap.size, 0, none⟩) hlt).trans y0
    have z1 := (BA2.cell (p := ⟨w.heap.size, 1, none⟩) hlt).trans y1
    have z2 := (BA2.cell (p := ⟨w.heap.size, 2, none⟩) hlt).trans y2
    go_wp2_with fail
    refine (HWr.out w1.heap.size w1.heap.size B1.out.size hok [] _ HB2.out HBN.out BA2.size (by have := HLn.out; simp only [List.length_nil]; omega)).mono ?_
    rintro ee w2 ⟨rfl, k1, k2, k3⟩
    rw [List.nil_append] at k1
    have HB3 : Hid (Below w.heap.size w w2) := HB2.out.trans (k2.mono B1.out.size)
    have hB3 := k1
    clear HBN k1 k2 k3 y0 y1 y2 z0 z1 z2 BA2 HB2
    go_wp2_with fail
    refine (String_any hB3 (by have := HLn.out; intro e; rw [e] at this; simp at this)).mono ?_
    rintro ee w3 ⟨rfl, b3⟩
    obtain ⟨S, hS⟩ : ∃ S, (⟨(ruleT r).toArray⟩ : ByteArray) = S := ⟨_, rfl⟩
    rw [hS]
    have HSS : Hid _ := hS
    clear hS
    go_wp2
    go_ret2
    exact ⟨by first | (rw [← HSS.out]; rfl) | (rw [hok, ← HSS.out]; rfl), HB3.out.trans (b3.mono B1.out.size)⟩
theorem pRule_any (d : Nat) (r : R3) (p : RP) (w : World) (hG : Gr w) (h : RIs w d r p) (hs : smallR d r) :
    Calls Tryz.prog 6 #[r.val p] w fun e w' => e = .returned (toldV (ruleB d r) (ruleT r)) ∧ Below w.heap.size w w' := by
  have BA := (Below.refl w.heap.size w).alloc (Nat.le_refl _) (.cells #[.string r.pr, .slice p.a r.hd.length p.c, .slice p.ba r.bd.length p.bc] 25)
  have HO : Hid _ := oneR_any d r p _ (hG.below BA) (h.below BA) hs
  obtain ⟨s, er, hs⟩ : ∃ s er, toldV (ruleB d r) (ruleT r) = .tuple #[.string s, .int .i64 er] := by unfold toldV; split <;> exact ⟨_, _, rfl⟩
  clear hG h
  unfold R3.val at *
  go_enter Tryz.func6, Tryz.ntmps6
  go_wp2_with fail
  refine Calls.mono HO.out ?_
  rintro ee w1 ⟨rfl, b1⟩
  rw [hs]
  have B1 := BA.trans (b1.mono BA.size)
  clear b1 BA
  have HS : Hid _ := hs
  clear hs
  go_wp2
  go_ret2
  exact ⟨by rw [HS.out]; rfl, B1⟩
open Go.RowKit Go.Maps
set_option linter.unusedVariables false
set_option linter.unusedSimpArgs false
attribute [local go_sem ↓] Go.wp_at_zero Go.wp_at_succ

set_option maxHeartbeats 1600000 in
theorem oneQ_any (pr : ByteArray) (v : Value) (ts : List T) (w : World) (hp : PW w) (hpr : pr.size ≤ maxLen) (hl : Lt w v ts) :
    Calls Tryz.prog 23 #[.agg #[.string pr, v], .func (.func 24) #[] #[], .func (.func 25) #[] #[]] w fun r w' => r = .returned (toldV (atomB pr ts) (atomT pr ts ++ [63])) ∧ Below w.heap.size w w' := by
  have HL : Hid (Lt w v ts) := hl
  have hwf := hl.wf
  obtain ⟨a, c, rfl, hc1, hc2, hat⟩ := hl.form
  have BA := (Below.refl w.heap.size w).alloc (Nat.le_refl _) (.cells #[.string pr, .slice a ts.length c] 29)
  have HP : Hid _ := hp
  have HL2 : Hid (Lt _ _ ts) := hl.below BA
  clear hat hl hp
  go_enter Tryz.func23, Tryz.ntmps23
  go_wp2_with fail
  refine (pcheckAtom_any pr _ ts _ hpr HL2.out).mono ?_
  rintro ee w1 ⟨rfl, b1⟩
  have B1 : Hid (Below w.heap.size w w1) := BA.trans (b1.mono BA.size)
  have y0 : w1.cell? ⟨w.heap.size, 0, none⟩ = some (.string pr) := by rw [b1.cell (p := ⟨w.heap.size, 0, none⟩) (by simp)]; go_simp
  have y1 : w1.cell? ⟨w.heap.size, 1, none⟩ = some (.slice a ts.length c) := by rw [b1.cell (p := ⟨w.heap.size, 1, none⟩) (by simp)]; go_simp
  clear b1 BA HL2
  cases hok : atomB pr ts
  · unfold errB
    simp only [Bool.false_eq_true, if_false]
    go_wp2
    go_ret2
    exact ⟨by first | rfl | (rw [hok]; rfl), B1.out⟩
  · unfold errB
    simp only [if_true]
    have BA2 := (Below.refl w1.heap.size w1).alloc (Nat.le_refl _) (.cells #[.pointer none, .slice none 0 0] 87)
    have HBN : Hid (BldA w1.heap.size w1.heap.size [] _) := bldA_new w1
    have HLn : Hid _ := atomT_len hwf hok
    have HOK : Hid (ts.all termB = true) := by unfold atomB at hok; simp only [Bool.and_eq_true] at hok; exact hok.2
    have HB2 : Hid (Below w.heap.size w _) := B1.out.trans (BA2.mono B1.out.size)
    have hlt := World.block_lt_of_cell? _ _ y0
    have z0 := (BA2.cell (p := ⟨w.heap.size, 0, none⟩) hlt).trans y0
    have z1 := (BA2.cell (p := ⟨w.heap.size, 1, none⟩) hlt).trans y1
    go_wp2_with fail
    refine (wquery_any pr _ ts w B1.out.size HL.out HP.out HOK.out [] _ HB2.out HBN.out BA2.size (by have := HLn.out; simp only [List.length_nil, List.length_append, List.length_cons]; omega)).mono ?_
    rintro ee w2 ⟨rfl, k1, k2, k3⟩
    rw [List.nil_append] at k1
    have HB3 : Hid (Below w.heap.size w w2) := HB2.out.trans (k2.mono B1.out.size)
    have hB3 := k1
    clear HBN k1 k2 k3 y0 y1 z0 z1 BA2 HB2
    go_wp2_with fail
    refine (String_any hB3 (by simp)).mono ?_
    rintro ee w3 ⟨rfl, b3⟩
    obtain ⟨S, hS⟩ : ∃ S, (⟨(atomT pr ts ++ [63]).toArray⟩ : ByteArray) = S := ⟨_, rfl⟩
    rw [hS]
    have HSS : Hid _ := hS
    clear hS
    go_wp2
    go_ret2
    exact ⟨by first | (rw [← HSS.out]; rfl) | (rw [hok, ← HSS.out]; rfl), HB3.out.trans (b3.mono B1.out.size)⟩
theorem pQuery_any (pr : ByteArray) (v : Value) (ts : List T) (w : World) (hp : PW w) (hpr : pr.size ≤ maxLen) (hl : Lt w v ts) :
    Calls Tryz.prog 10 #[.agg #[.string pr, v]] w fun r w' => r = .returned (toldV (atomB pr ts) (atomT pr ts ++ [63])) ∧ Below w.heap.size w w' := by
  have HL : Hid (Lt w v ts) := hl
  obtain ⟨a, c, rfl, hc1, hc2, hat⟩ := hl.form
  have BA := (Below.refl w.heap.size w).alloc (Nat.le_refl _) (.cells #[.string pr, .slice a ts.length c] 29)
  have HP : Hid (PW _) := tab_below hp BA
  obtain ⟨s, er, hs⟩ : ∃ s er, toldV (atomB pr ts) (atomT pr ts ++ [63]) = .tuple #[.string s, .int .i64 er] := by unfold toldV; split <;> exact ⟨_, _, rfl⟩
  clear hat hl hp
  go_enter Tryz.func10, Tryz.ntmps10
  go_wp2_with fail
  refine (oneQ_any pr _ ts _ HP.out hpr (HL.out.below BA)).mono ?_
  rintro ee w1 ⟨rfl, b1⟩
  rw [hs]
  have B1 := BA.trans (b1.mono BA.size)
  clear b1 BA
  have HS : Hid _ := hs
  clear hs
  go_wp2
  go_ret2
  exact ⟨by rw [HS.out]; rfl, B1⟩
open Go.RowKit Go.Maps
set_option linter.unusedVariables false
set_option linter.unusedSimpArgs false

theorem flat_one {l : List E} (f : E → List T) (h : 0 < l.length) : (f (atE l 0)).length ≤ (l.flatMap f).length := by
  match l, h with
  | x :: r, _ => simp [atE, List.getD]
theorem flat_two {l : List E} (f : E → List T) (h : 1 < l.length) : (f (atE l 0)).length + (f (atE l 1)).length ≤ (l.flatMap f).length := by
  match l, h with
  | x :: y :: r, _ => simp [atE, List.getD]
/-- an expression's text, by its number of terms -/
theorem textE_sz : ∀ (r d : Nat) (e : E) (a : Option Addr) (c : Nat) (w : World), EIs w d e a c → exprB r e = true → (textE r e).length + 4 ≤ 1020 * (termsD d e).length
  | 0, _, _, _, _, _, _, h => by cases h
  | r + 1, 0, _, _, _, _, h, _ => h.elim
  | r + 1, d + 1, e, a, c, w, hE, he => by
    obtain ⟨hop, htw, hc1, hc2, hk⟩ := hE
    obtain ⟨f1, f2, f3, f4, f5⟩ := exprB_form he
    obtain ⟨op, t, kids⟩ := e
    rw [termsD_succ, List.length_cons]
    simp only [op_mk, t_mk, kids_mk] at *
    obtain ⟨p, rfl⟩ : ∃ p : Nat, op = p := ⟨op.toNat, by omega⟩
    rw [Int.toNat_natCast] at f3
    rw [textE_mk]
    by_cases h0 : (p : Int) = 0
    · rw [if_pos h0]
      have hok : termB t = true := by
        have := f4 h0
        unfold namedB at this
        simp only [Bool.and_eq_true] at this
        exact this.2
      have := termT_len htw hok
      omega
    · rw [if_neg h0]
      have hkid : ∀ i, i < kids.length → (textE r (atE kids i)).length + 4 ≤ 1020 * (termsD d (atE kids i)).length := fun i hi => by
        obtain ⟨g, off, _, _, hKS⟩ := hk (by omega)
        obtain ⟨a', c', _, he'⟩ := hKS i hi
        exact textE_sz r d _ a' c' w he' (f5 h0 i hi)
      have hk0 : 0 < kids.length := by
        rw [f3]
        exact (by decide : ∀ q : Fin 11, q.val ≠ 0 → 0 < kidsOf q.val) ⟨p, by omega⟩ (by show p ≠ 0; omega)
      have A := hkid 0 hk0
      have F := flat_one (termsD d) hk0
      by_cases h1 : (p : Int) = 1
      · rw [if_pos h1, List.length_append]
        have := kidT_len (decide (holdT (atE kids 0).op.toNat < holdT 1) || unsB (atE kids 0)) (textE r (atE kids 0))
        have := opT_len 1
        omega
      · rw [if_neg h1]
        by_cases h8 : 8 ≤ (p : Int)
        · rw [if_pos h8, List.length_append]
          have := kidT_len true (textE r (atE kids 0))
          have := opT_len p
          omega
        · rw [if_neg h8]
          have hk1 : 1 < kids.length := by
            rw [f3, (by decide : ∀ q : Fin 11, q.val ≠ 0 → q.val ≠ 1 → ¬ 8 ≤ q.val → kidsOf q.val = 2) ⟨p, by omega⟩ (by show p ≠ 0; omega) (by show p ≠ 1; omega) (by show ¬ 8 ≤ p; omega)]
            omega
          have A1 := hkid 1 hk1
          have F2 := flat_two (termsD d) hk1
          simp only [List.length_append, List.length_cons, List.length_nil]
          have := kidT_len (decide (holdT (atE kids 0).op.toNat < holdT p)) (textE r (atE kids 0))
          have := kidT_len (decide (holdT (atE kids 1).op.toNat ≤ holdT p)) (textE r (atE kids 1))
          have := opT_len p
          omega
theorem termsD_pos {w : World} {d : Nat} {e : E} {a : Option Addr} {c : Nat} (h : EIs w d e a c) : 1 ≤ (termsD d e).length := by
  cases d with
  | zero => exact h.elim
  | succ d => rw [termsD_succ, List.length_cons]; omega
theorem litT_sz {w : World} {d : Nat} {x : Lit4} {p : LP} (h : LIs w d x p) (hok : litB x = true) : (litT x).length + 2 ≤ 1030 * (termsL d x).length := by
  have p1 := termsD_pos h.l
  have p2 := termsD_pos h.r
  have hl : (termsL d x).length = x.ts.length + ((termsD d x.l).length + (termsD d x.r).length) := by unfold termsL; simp only [List.length_append]
  have hat : ∀ hA : atomB x.pr x.ts = true, (atomT x.pr x.ts).length ≤ 122 + x.ts.length * 1002 := fun hA => by
    have hn : nameB x.pr = true := by unfold atomB at hA; simp only [Bool.and_eq_true] at hA; exact hA.1.1
    have h1 := name_size hn
    have h2 := upT_len h.ts.wf (atomB_all hA) x.ts.length (Nat.le_refl _)
    unfold atomT colT
    rw [List.length_append, len_toList]
    split
    · simp only [List.length_nil]; omega
    · simp only [List.length_append, List.length_cons, List.length_nil]; omega
  rcases litB_form hok with ⟨e, hA⟩ | ⟨e, hA⟩ | ⟨e, r1, r6, el, er⟩
  · have := hat hA
    unfold litT
    rw [if_pos e]
    omega
  · have := hat hA
    unfold litT
    rw [if_neg (by omega), if_pos e]
    simp only [List.length_append, List.length_cons, List.length_nil]
    omega
  · have h1 := textE_sz 8 d _ _ _ w h.l el
    have h2 := textE_sz 8 d _ _ _ w h.r er
    have h3 := relT_len x.rel.toNat
    unfold litT
    rw [if_neg (by omega), if_neg (by omega)]
    simp only [List.length_append, List.length_cons, List.length_nil]
    omega
theorem argT_sz {x : A5} (hx : x.wf) (h : argB x = true) : (argT x).length ≤ 1010 := by
  rcases argB_form hx h with ⟨e, ht⟩ | ⟨e, hv⟩
  · unfold argT
    rw [if_pos e]
    have := (termT_len hx.t ht).2
    omega
  · unfold argT
    rw [if_neg (by omega)]
    have := aggT_len x.g.toNat
    simp only [List.length_append, List.length_cons, List.length_nil, len_toList]
    omega
theorem upG_sum {tx : List (List UInt8)} : ∀ k, k ≤ tx.length → (upG tx k).length ≤ ((tx.take k).map (fun t => t.length + 2)).sum
  | 0, _ => by simp [upG]
  | k + 1, hk => by
    have h1 := upG_sum (tx := tx) k (by omega)
    have e : tx.take (k + 1) = tx.take k ++ [tx.getD k []] := by
      rw [List.take_add_one, List.getElem?_eq_getElem (by omega : k < tx.length)]
      simp [List.getD, (by omega : k < tx.length)]
    rw [upG, e, List.map_append, List.sum_append]
    simp only [List.length_append, List.map_cons, List.map_nil, List.sum_cons, List.sum_nil]
    have h3 : (if k = 0 then ([] : List UInt8) else [44, 32]).length ≤ 2 := by split <;> simp
    omega
theorem sum_le_flat {w : World} {d : Nat} : ∀ (l : List XL), (∀ y ∈ l, LIs w d y.x y.p) → l.all (fun y => litB y.x) = true → ((txB l).map (fun t => t.length + 2)).sum ≤ 1030 * (l.flatMap (fun y => termsL d y.x)).length
  | [], _, _ => by simp [txB]
  | y :: r, hL, hok => by
    simp only [List.all_cons, Bool.and_eq_true] at hok
    have h1 := litT_sz (hL y (by simp)) hok.1
    have h2 := sum_le_flat r (fun z hz => hL z (by simp [hz])) hok.2
    unfold txB at h2 ⊢
    simp only [List.map_cons, List.sum_cons, List.flatMap_cons, List.length_append]
    omega
theorem sum_le_args : ∀ (l : List A5), (∀ y ∈ l, y.wf) → l.all argB = true → ((txA l).map (fun t => t.length + 2)).sum ≤ 1030 * l.length
  | [], _, _ => by simp [txA]
  | y :: r, hL, hok => by
    simp only [List.all_cons, Bool.and_eq_true] at hok
    have h1 := argT_sz (hL y (by simp)) hok.1
    have h2 := sum_le_args r (fun z hz => hL z (by simp [hz])) hok.2
    unfold txA at h2 ⊢
    simp only [List.map_cons, List.sum_cons, List.length_cons]
    omega
theorem ruleT_sz {w : World} {d : Nat} {r : R3} {p : RP} (hR : RIs w d r p) (hok : ruleB d r = true) : (ruleT r).length ≤ 1030 * (termsR d r).length + 200 := by
  obtain ⟨h1, h2, h3, h4, h5⟩ := ruleB_form hok
  have a1 := name_size h1
  have a2 := upG_sum (tx := txA r.hd) r.hd.length (by rw [txA_len]; exact Nat.le_refl _)
  rw [List.take_of_length_le (by rw [txA_len]; exact Nat.le_refl _)] at a2
  have a3 := sum_le_args r.hd hR.hd.wf h4
  have a4 := upG_sum (tx := txB r.bd) r.bd.length (by rw [txB_len]; exact Nat.le_refl _)
  rw [List.take_of_length_le (by rw [txB_len]; exact Nat.le_refl _)] at a4
  have a5 := sum_le_flat r.bd hR.bd.each h5
  have c1 : (colG (txA r.hd)).length ≤ 2 + (upG (txA r.hd) r.hd.length).length := by
    unfold colG
    rw [txA_len]
    split
    · simp
    · simp only [List.length_append, List.length_cons, List.length_nil]; omega
  have c2 : (bodyT r.bd).length ≤ 4 + (upG (txB r.bd) r.bd.length).length := by
    unfold bodyT
    split
    · simp
    · simp only [List.length_append, List.length_cons, List.length_nil]; omega
  unfold ruleT termsR
  simp only [List.length_append, List.length_cons, List.length_nil, List.length_map, len_toList]
  omega
open Go.RowKit Go.Maps
set_option linter.unusedVariables false
set_option linter.unusedSimpArgs false
attribute [local go_sem ↓] Go.wp_at_zero Go.wp_at_succ

set_option maxHeartbeats 1600000 in
set_option maxRecDepth 100000 in
theorem String_none {b : Nat} {w : World} (p : Value) (hbk : w.heap[b]? = some (.cells #[p, .slice none 0 0] 87 (0, 0))) :
    Calls Tryz.prog 30 #[self b] w fun e w' => e = .returned (.string ⟨#[]⟩) ∧ Below w.heap.size w w' := by
  have c1 : w.drew.cell? ⟨b, 1, none⟩ = some (.slice none 0 0) := by
    have : w.drew.heap[b]? = some (.cells #[p, .slice none 0 0] 87 (0, 0)) := hbk
    rw [Lib.cell_of_heap this]; rfl
  have hSD : (Builtin.unsafeSliceData_ #[83] 114 #[.slice none 0 0]).run Tryz.prog w.drew = .ok (.pointer none) w.drew := Lib.run_unsafeSliceData_nil _ _ _ _ _
  have hUS : (Builtin.unsafeString_ #[114, 3] 9 #[.pointer none, .int .i64 0]).run Tryz.prog w.drew = .ok (.string ⟨#[]⟩) w.drew := Lib.run_unsafeString_none _ _ _ _ _
  clear hbk
  have mixed : Tryz.prog.follows Departure.mixedOrders = true := by kernel_rfl
  unfold self
  go_enter Tryz.func30, Tryz.ntmps30
  go_wp2
  go_region_o
  all_goals (go_wp2; go_ret; exact ⟨rfl, (Below.refl _ _).drew⟩)
attribute [-go_sem] loadVar storeVar
end Go.Proofs.YtikjphfeeljhbaaGreatDoor
