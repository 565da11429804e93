import Derived.Test.YtikjphfeeljhbaaGreatDoorFbA
namespace Go.Proofs.YtikjphfeeljhbaaGreatDoor
open Go.RowKit Go.Maps
set_option linter.unusedVariables false
set_option linter.unusedSimpArgs false
attribute [local go_sem ↓] Go.wp_at_zero Go.wp_at_succ
attribute [-go_sem] loadVar storeVar

set_option maxHeartbeats 800000 in
set_option maxRecDepth 100000 in
theorem listVal_any {B b : Nat} (v : Value) (ts : List V) (W0 : World) (hW : W0.heap.size ≤ B) (hL : Lv W0 v ts) (hG : Gf W0) (hok : ts.all okV = true) (l : List UInt8) (w : World) (hb : Below W0.heap.size W0 w) (h : BldA B b l w) (hBw : B ≤ w.heap.size)
    (hl : l.length + (upG (txV ts) ts.length).length ≤ 1099511627776) :
    Calls Tryz.prog 64 #[self b, v, .func (.func 42) #[] #[]] w (Wrote B b l (upG (txV ts) ts.length) w) := by
  have HWr : Hid (∀ i, i < ts.length → ∀ (l : List UInt8) (u : World), Below W0.heap.size W0 u → BldA B b l u → B ≤ u.heap.size → l.length + ((txV ts).getD i []).length ≤ 1099511627776 → Calls Tryz.prog 42 #[self b, .agg (atV ts i).cells.toArray] u (Wrote B b l ((txV ts).getD i []) u)) := fun i hi l u h1 h2 h3 h4 => by
    rw [txV_at hi] at h4 ⊢
    exact wvalue_any _ (hL.at_wf hi) (by rw [atV_eq hi]; exact List.all_eq_true.1 hok _ (List.getElem_mem hi)) (tab_below hG.gp.pw h1) h2 h3 h4
  obtain ⟨a, c, rfl, hc1, hc2, hat⟩ := hL.rform
  have hmax : ts.length ≤ maxLen := Nat.le_trans hc1 hc2
  unfold maxLen at hmax
  have HH : Hid (BldA B b l w) := h
  have HL : Hid _ := hl
  have HAT : Hid _ := hat
  have HB0 : Hid (Below W0.heap.size W0 w) := hb
  clear h hl hok hat hb hL hG
  unfold self
  go_enter Tryz.func64, Tryz.ntmps64
  go_wp2
  go_loopw [10] (fun i wr => ∃ k : Nat, k ≤ ts.length ∧ i = .int .i64 k ∧ Hid (BldA B b (l ++ upG (txV ts) k) wr ∧ Below B w wr ∧ Spare b w wr)) (fun i _ => ts.length - (intOf i).toNat)
  case atStart => exact ⟨0, Nat.zero_le _, rfl, by simpa [upG] using HH.out, Below.refl _ _, Spare.refl _ _⟩
  case round =>
    obtain ⟨k, hk, rfl, HR⟩ := hrel
    by_cases hlt : k < ts.length
    · have hlt' : (k : Int) < (ts.length : Int) := by omega
      obtain ⟨g, off, rfl, hg, hT⟩ := HAT.out (by omega)
      have HB1 : Hid (Below W0.heap.size W0 wr) := HB0.out.trans (HR.out.2.1.mono hW)
      have hld := load_Val (range_below (hT k hlt) HB1.out hg) rfl
      have HC : Hid _ := HWr.out k hlt
      have HU : Hid (upG (txV ts) (k + 1) = upG (txV ts) k ++ ((if k = 0 then [] else [44, 32]) ++ (txV ts).getD k [])) := rfl
      have HLE : Hid (l.length + (upG (txV ts) (k + 1)).length ≤ 1099511627776) := by
        have h1 := upG_le (txV ts) (k + 1) (ts.length - (k + 1))
        rw [show k + 1 + (ts.length - (k + 1)) = ts.length by omega] at h1
        have := HL.out
        show _ ≤ _
        omega
      have hst : (storeVar 69 ⟨wr.heap.size, 0, none⟩ (.agg (atV ts k).cells.toArray)).run Tryz.prog (wr.alloc (.cells #[.int .i8 0, .int .i64 0, .string ⟨#[]⟩] 69)) = .ok () (wr.alloc (.cells (atV ts k).cells.toArray 69)) := run_storeVar_new wr 69 #[.int .i8 0, .int .i64 0, .string ⟨#[]⟩] (atV ts k).cells.toArray (by kernel_rfl) rfl (oneCells_val _)
      have BA := (Below.refl wr.heap.size wr).alloc (Nat.le_refl _) (.cells (atV ts k).cells.toArray 69)
      have hl2 := load_Val (RL.range (rl_new wr (atV ts k).cells.toArray 69)) rfl
      have HN : Hid _ := heap_alloc_new wr (.cells (atV ts k).cells.toArray 69)
      have hnb : wr.heap.size ≠ b := by have := HR.out.1.lt; omega
      have hBr : B ≤ wr.heap.size := Nat.le_trans hBw HR.out.2.1.size
      have HL3 : Hid (∀ u, Spare b (wr.alloc (.cells (atV ts k).cells.toArray 69)) u → (loadVar 69 ⟨wr.heap.size, 0, none⟩).run Tryz.prog u = .ok (.agg (atV ts k).cells.toArray) u) := fun u hu => load_Val (cs := (atV ts k).cells) (fun j y hy => by
        rw [Nat.zero_add, hu.cell HN.out (by decide) hnb]
        simpa using hy) rfl
      have HBA : Hid (BldA B b (l ++ upG (txV ts) k) (wr.alloc (.cells (atV ts k).cells.toArray 69))) := HR.out.1.below BA
      have HBB : Hid (Below wr.heap.size wr (wr.alloc (.cells (atV ts k).cells.toArray 69))) := BA
      have hl2' : (loadVar 69 ⟨wr.heap.size, 0, none⟩).run Tryz.prog (wr.alloc (.cells (atV ts k).cells.toArray 69)) = .ok (.agg (atV ts k).cells.toArray) (wr.alloc (.cells (atV ts k).cells.toArray 69)) := hl2
      clear hT hl2 BA HN
      generalize wr.alloc (.cells (atV ts k).cells.toArray 69) = W2 at hst HL3 HBA HBB hl2'
      generalize Value.agg (atV ts k).cells.toArray = QV at hld hst HL3 hl2' HC
      generalize (txV ts).getD k [] = tk at HC HU
      by_cases k0 : k = 0
      · rw [if_pos k0, List.nil_append] at HU
        have k0' : ¬ (0 : Int) < (k : Int) := by omega
        have HL2 : Hid ((l ++ upG (txV ts) k).length + tk.length ≤ 1099511627776) := by
          have := HLE.out
          rw [HU.out, List.length_append] at this
          show _ ≤ _
          rw [List.length_append]; omega
        clear k0
        go_wp2_with fail
        refine (HC.out _ W2 (HB1.out.trans (HBB.out.mono HB1.out.size)) HBA.out (Nat.le_trans hBr HBB.out.size) HL2.out).mono ?_
        rintro e w2 hw2
        obtain ⟨rfl, k5, k6, k7⟩ := hw2.from (HBB.out.mono hBr) (Spare.below HBB.out)
        go_wp2
        go_roundw
        case rel => exact ⟨k + 1, by omega, by go_num, by rw [HU.out, ← List.append_assoc]; exact k5, HR.out.2.1.trans k6, HR.out.2.2.trans k7⟩
        case measure => simp [intOf]; omega
      · rw [if_neg k0] at HU
        have k0' : (0 : Int) < (k : Int) := by omega
        have HL1 : Hid ((l ++ upG (txV ts) k).length + 2 ≤ 1099511627776 ∧ (l ++ upG (txV ts) k ++ [44, 32]).length + tk.length ≤ 1099511627776) := by
          have := HLE.out
          rw [HU.out] at this
          simp only [List.length_append, List.length_cons, List.length_nil] at this ⊢
          show _ ∧ _
          omega
        clear k0
        go_wp2_with fail
        refine (put_new (g := W2.heap.size) ⟨#[44, 32]⟩ rfl HBA.out (Nat.le_trans hBr HBB.out.size) HL1.out.1).mono ?_
        rintro e w2 ⟨rfl, k1, k2, k3⟩
        have hw2 : Hid (BldA B b (l ++ upG (txV ts) k ++ [44, 32]) w2) := k1
        have y0 := HL3.out w2 k3
        have HW2 : Hid (Below B wr w2 ∧ Spare b wr w2) := ⟨(HBB.out.mono hBr).trans k2, (Spare.below HBB.out).trans k3⟩
        clear k1 k2 k3 hld hst hl2' HBA
        go_wp2_with fail
        refine (HC.out _ w2 (HB1.out.trans (HW2.out.1.mono hW)) hw2.out (Nat.le_trans hBr HW2.out.1.size) HL1.out.2).mono ?_
        rintro e w3 hw3
        obtain ⟨rfl, k5, k6, k7⟩ := hw3.from HW2.out.1 HW2.out.2
        clear y0
        go_wp2
        go_roundw
        case rel => exact ⟨k + 1, by omega, by go_num, by rw [HU.out, ← List.append_assoc, ← List.append_assoc]; exact k5, HR.out.2.1.trans k6, HR.out.2.2.trans k7⟩
        case measure => simp [intOf]; omega
    · obtain rfl : k = ts.length := by omega
      go_wp2
      go_end0
      exact ⟨rfl, HR.out.1, HR.out.2.1, HR.out.2.2⟩
end Go.Proofs.YtikjphfeeljhbaaGreatDoor
