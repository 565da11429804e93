import Derived.Test.YtikjphfeeljhbaaGreatDoorPrintX
namespace Go.Proofs.YtikjphfeeljhbaaGreatDoor
open Go.RowKit Go.Maps
set_option linter.unusedVariables false
set_option linter.unusedSimpArgs false
attribute [local go_sem ↓] Go.wp_at_zero Go.wp_at_succ

/-- the text of the first k terms, with a comma and a blank between each two -/
def upT (ts : List T) : Nat → List UInt8
  | 0 => []
  | k + 1 => upT ts k ++ ((if k = 0 then [] else [44, 32]) ++ termT (atT ts k))
theorem upT_le (ts : List T) (k : Nat) : ∀ j, (upT ts k).length ≤ (upT ts (k + j)).length
  | 0 => Nat.le_refl _
  | j + 1 => by
    have := upT_le ts k j
    rw [← Nat.add_assoc, upT, List.length_append]
    omega
def colT (ts : List T) : List UInt8 := if ts.length = 0 then [] else [40] ++ upT ts ts.length ++ [41]
def atomT (p : ByteArray) (ts : List T) : List UInt8 := p.data.toList ++ colT ts

set_option maxHeartbeats 1600000 in
theorem list_any {B b : Nat} (v : Value) (ts : List T) (W0 : World) (hW : W0.heap.size ≤ B) (hL : Lt W0 v ts) (hp : PW W0) (hok : ts.all termB = true) (l : List UInt8) (w : World) (hb : Below W0.heap.size W0 w) (h : BldA B b l w) (hBw : B ≤ w.heap.size)
    (hl : l.length + (upT ts ts.length).length ≤ 1099511627776) :
    Calls Tryz.prog 81 #[self b, v, .func (.func 56) #[] #[]] w (Wrote B b l (upT ts ts.length) w) := by
  obtain ⟨a, c, rfl, hc1, hc2, hat⟩ := hL.form
  have hwf := hL.wf
  have hmax : ts.length ≤ maxLen := Nat.le_trans hc1 hc2
  unfold maxLen at hmax
  have HH : Hid (BldA B b l w) := h
  have HP : Hid _ := hp
  have HL : Hid _ := hl
  have HAT : Hid _ := hat
  have HB0 : Hid (Below W0.heap.size W0 w) := hb
  have HOK : Hid (∀ i, i < ts.length → termB (atT ts i) = true) := fun i hi => by rw [atT_eq hi]; exact List.all_eq_true.1 hok _ (List.getElem_mem hi)
  clear h hp hl hok hat hb hL
  unfold self
  go_enter Tryz.func81, Tryz.ntmps81
  go_wp2
  go_loopw [10] (fun i wr => ∃ k : Nat, k ≤ ts.length ∧ i = .int .i64 k ∧ Hid (BldA B b (l ++ upT ts k) wr ∧ Below B w wr ∧ Spare b w wr)) (fun i _ => ts.length - (intOf i).toNat)
  case atStart => exact ⟨0, Nat.zero_le _, rfl, by simpa [upT] using HH.out, Below.refl _ _, Spare.refl _ _⟩
  case round =>
    obtain ⟨k, hk, rfl, HR⟩ := hrel
    by_cases hlt : k < ts.length
    · have hlt' : (k : Int) < (ts.length : Int) := by omega
      obtain ⟨g, off, rfl, hg, hT⟩ := HAT.out (by omega)
      have HB1 : Hid (Below W0.heap.size W0 wr) := HB0.out.trans (HR.out.2.1.mono hW)
      obtain ⟨x0, x1, x2, x3⟩ := (hT k hlt).below HB1.out hg
      have htw := atT_wf hwf k
      have hok := HOK.out k hlt
      have HU : Hid (upT ts (k + 1) = upT ts k ++ ((if k = 0 then [] else [44, 32]) ++ termT (atT ts k))) := rfl
      have HLE : Hid (l.length + (upT ts (k + 1)).length ≤ 1099511627776) := by
        have h1 := upT_le ts (k + 1) (ts.length - (k + 1))
        rw [show k + 1 + (ts.length - (k + 1)) = ts.length by omega] at h1
        have := HL.out
        show _ ≤ _
        omega
      generalize atT ts k = t at x0 x1 x2 x3 htw hok HU
      have HK : Hid _ := hok
      have BA := (Below.refl wr.heap.size wr).alloc (Nat.le_refl _) (.cells #[.string t.v, .int .i8 t.a.k, .int .i64 t.a.n, .string t.a.s] 71)
      have HBA : Hid (BldA B b (l ++ upT ts k) _) := HR.out.1.below BA
      have HN : Hid _ := heap_alloc_new wr (.cells #[.string t.v, .int .i8 t.a.k, .int .i64 t.a.n, .string t.a.s] 71)
      have hnb : wr.heap.size ≠ b := by have := HR.out.1.lt; omega
      have hBr : B ≤ wr.heap.size := Nat.le_trans hBw HR.out.2.1.size
      clear hT hok
      by_cases k0 : k = 0
      · rw [if_pos k0, List.nil_append] at HU
        have k0' : ¬ (0 : Int) < (k : Int) := by omega
        have HL2 : Hid ((l ++ upT ts k).length + (termT t).length ≤ 1099511627776) := by
          have := HLE.out
          rw [HU.out, List.length_append] at this
          show _ ≤ _
          rw [List.length_append]; omega
        have HP2 : Hid (PW _) := tab_below HP.out (HB1.out.trans (BA.mono HB1.out.size))
        clear k0
        go_wp2_with fail
        refine (wterm_any t htw HK.out HP2.out HBA.out (Nat.le_trans hBr BA.size) HL2.out).mono ?_
        rintro e w2 hw2
        obtain ⟨rfl, k5, k6, k7⟩ := hw2.from (BA.mono hBr) (Spare.below BA)
        go_wp2
        go_roundw
        case rel => exact ⟨k + 1, by omega, by go_num, by rw [HU.out, ← List.append_assoc]; exact k5, HR.out.2.1.trans k6, HR.out.2.2.trans k7⟩
        case measure => simp [intOf]; omega
      · rw [if_neg k0] at HU
        have k0' : (0 : Int) < (k : Int) := by omega
        have HL1 : Hid ((l ++ upT ts k).length + 2 ≤ 1099511627776 ∧ (l ++ upT ts k ++ [44, 32]).length + (termT t).length ≤ 1099511627776) := by
          have := HLE.out
          rw [HU.out] at this
          simp only [List.length_append, List.length_cons, List.length_nil] at this ⊢
          show _ ∧ _
          omega
        clear k0
        go_wp2_with fail
        refine (put_new (g := wr.heap.size + 1) ⟨#[44, 32]⟩ (by simp) HBA.out (Nat.le_trans hBr BA.size) HL1.out.1).mono ?_
        rintro e w2 ⟨rfl, k1, k2, k3⟩
        have hw2 : Hid (BldA B b (l ++ upT ts k ++ [44, 32]) w2) := k1
        have y0 : w2.cell? ⟨wr.heap.size, 0, none⟩ = some (.string t.v) := by rw [k3.cell HN.out (by decide) hnb]; rfl
        have y1 : w2.cell? ⟨wr.heap.size, 1, none⟩ = some (.int .i8 t.a.k) := by rw [k3.cell HN.out (by decide) hnb]; rfl
        have y2 : w2.cell? ⟨wr.heap.size, 2, none⟩ = some (.int .i64 t.a.n) := by rw [k3.cell HN.out (by decide) hnb]; rfl
        have y3 : w2.cell? ⟨wr.heap.size, 3, none⟩ = some (.string t.a.s) := by rw [k3.cell HN.out (by decide) hnb]; rfl
        have HW2 : Hid (Below B wr w2 ∧ Spare b wr w2) := ⟨(BA.mono hBr).trans k2, (Spare.below BA).trans k3⟩
        have HP2 : Hid (PW w2) := tab_below HP.out (HB1.out.trans (HW2.out.1.mono hW))
        clear k1 k2 k3 x0 x1 x2 x3 BA HBA HN
        go_wp2_with fail
        refine (wterm_any t htw HK.out HP2.out hw2.out (Nat.le_trans hBr HW2.out.1.size) HL1.out.2).mono ?_
        rintro e w3 hw3
        obtain ⟨rfl, k5, k6, k7⟩ := hw3.from HW2.out.1 HW2.out.2
        clear y0 y1 y2 y3
        go_wp2
        go_roundw
        case rel => exact ⟨k + 1, by omega, by go_num, by rw [HU.out, ← List.append_assoc, ← List.append_assoc]; exact k5, HR.out.2.1.trans k6, HR.out.2.2.trans k7⟩
        case measure => simp [intOf]; omega
    · obtain rfl : k = ts.length := by omega
      go_wp2
      go_end0
      exact ⟨rfl, HR.out.1, HR.out.2.1, HR.out.2.2⟩
set_option maxHeartbeats 1600000 in
theorem columns_any {B b : Nat} (v : Value) (ts : List T) (W0 : World) (hW : W0.heap.size ≤ B) (hL : Lt W0 v ts) (hp : PW W0) (hok : ts.all termB = true) (l : List UInt8) (w : World) (hb : Below W0.heap.size W0 w) (h : BldA B b l w) (hBw : B ≤ w.heap.size)
    (hl : l.length + (colT ts).length ≤ 1099511627776) :
    Calls Tryz.prog 67 #[self b, v, .func (.func 56) #[] #[]] w (Wrote B b l (colT ts) w) := by
  have HLt : Hid (Lt W0 v ts) := hL
  obtain ⟨a, c, rfl, hc1, hc2, hat⟩ := hL.form
  have HT : Hid (colT ts = if ts.length = 0 then [] else [40] ++ upT ts ts.length ++ [41]) := rfl
  have HL : Hid _ := hl
  clear hL hat hl
  unfold self
  by_cases h0 : ts.length = 0
  · have h0' : ((ts.length : Int) == 0) = true := by rw [h0]; rfl
    rw [if_pos h0] at HT
    have HB : Hid _ := h
    clear h0 h
    go_enter Tryz.func67, Tryz.ntmps67
    go_wp2
    go_end0
    exact ⟨rfl, by rw [HT.out, List.append_nil]; exact HB.out, Below.refl _ _, Spare.refl _ _⟩
  · have h0' : ((ts.length : Int) == 0) = false := by rw [beq_eq_false_iff_ne]; omega
    rw [if_neg h0] at HT
    have HLL : Hid (l.length + (1 + (upT ts ts.length).length + 1) ≤ 1099511627776) := by
      have := HL.out
      rw [HT.out] at this
      simp only [List.length_append, List.length_cons, List.length_nil] at this
      show _ ≤ _
      omega
    have HB : Hid _ := h
    clear h0 h HL
    go_enter Tryz.func67, Tryz.ntmps67
    go_wp2_with fail
    refine (put_new (g := w.heap.size) ⟨#[40]⟩ rfl HB.out hBw (by have := HLL.out; show _ + 1 ≤ _; omega)).mono ?_
    rintro e w2 ⟨rfl, k1, k2, k3⟩
    go_wp2_with fail
    refine (list_any (.slice a ts.length c) ts W0 hW HLt.out hp hok (l ++ [40]) w2 (hb.trans (k2.mono hW)) k1 (Nat.le_trans hBw k2.size) (by have := HLL.out; rw [List.length_append]; show _ + 1 + _ ≤ _; omega)).mono ?_
    rintro e w3 hw3
    obtain ⟨rfl, k4, k5, k6⟩ := hw3.from k2 k3
    clear k1 k2 k3
    go_wp2_with fail
    refine (put_new (g := w3.heap.size) ⟨#[41]⟩ rfl k4 (Nat.le_trans hBw k5.size) (by have := HLL.out; rw [List.length_append, List.length_append]; show _ + 1 + _ + 1 ≤ _; omega)).mono ?_
    rintro e w4 hw4
    obtain ⟨rfl, k7, k8, k9⟩ := hw4.from k5 k6
    clear k4 k5 k6
    go_wp2
    go_end0
    exact ⟨rfl, by rw [HT.out, ← List.append_assoc, ← List.append_assoc]; exact k7, k8, k9⟩
set_option maxHeartbeats 1600000 in
theorem watom_any {B b : Nat} (pr : ByteArray) (v : Value) (ts : List T) (W0 : World) (hW : W0.heap.size ≤ B) (hL : Lt W0 v ts) (hp : PW W0) (hok : ts.all termB = true) (l : List UInt8) (w : World) (hb : Below W0.heap.size W0 w) (h : BldA B b l w) (hBw : B ≤ w.heap.size)
    (hl : l.length + (atomT pr ts).length ≤ 1099511627776) :
    Calls Tryz.prog 45 #[self b, .agg #[.string pr, v]] w (Wrote B b l (atomT pr ts) w) := by
  have HLt : Hid (Lt W0 v ts) := hL
  obtain ⟨a, c, rfl, hc1, hc2, hat⟩ := hL.form
  have HT : Hid (atomT pr ts = pr.data.toList ++ colT ts) := rfl
  have HL : Hid (l.length + (pr.size + (colT ts).length) ≤ 1099511627776) := by
    show _ ≤ _
    have := hl
    unfold atomT at this
    rw [List.length_append, len_toList] at this
    exact this
  have BA := (Below.refl w.heap.size w).alloc (Nat.le_refl _) (.cells #[.string pr, .slice a ts.length c] 29)
  have HB : Hid (BldA B b l _) := h.below BA
  have HN : Hid _ := heap_alloc_new w (.cells #[.string pr, .slice a ts.length c] 29)
  have hnb : w.heap.size ≠ b := by have := h.lt; omega
  clear hL hat hl h
  unfold self
  go_enter Tryz.func45, Tryz.ntmps45
  go_wp2_with fail
  refine (put_new (g := w.heap.size + 1) pr (by simp) HB.out (Nat.le_trans hBw BA.size) (by have := HL.out; omega)).mono ?_
  rintro e w2 ⟨rfl, k1, k2, k3⟩
  have y1 : w2.cell? ⟨w.heap.size, 1, none⟩ = some (.slice a ts.length c) := by rw [k3.cell HN.out (by decide) hnb]; rfl
  have HW2 : Hid (Below B w w2 ∧ Spare b w w2) := ⟨(BA.mono hBw).trans k2, (Spare.below BA).trans k3⟩
  clear k2 k3
  go_wp2_with fail
  refine (columns_any (.slice a ts.length c) ts W0 hW HLt.out hp hok _ w2 (hb.trans (HW2.out.1.mono hW)) k1 (Nat.le_trans hBw HW2.out.1.size) (by have := HL.out; rw [List.length_append, len_toList]; omega)).mono ?_
  rintro e w3 hw3
  obtain ⟨rfl, k4, k5, k6⟩ := hw3.from HW2.out.1 HW2.out.2
  clear y1 k1
  go_wp2
  go_end0
  exact ⟨rfl, by rw [HT.out, ← List.append_assoc]; exact k4, k5, k6⟩
end Go.Proofs.YtikjphfeeljhbaaGreatDoor
