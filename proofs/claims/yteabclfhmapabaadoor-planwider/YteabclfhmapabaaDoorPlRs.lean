import Derived.Test.YteabclfhmapabaaDoorA25
import Derived.Test.YteabclfhmapabaaDoorA24
import Derived.Shelf.RegionOpen
namespace Go.Proofs.YteabclfhmapabaaDoor
open Go.RowKit Go.Maps Go.Shelf
set_option linter.unusedVariables false
set_option linter.unusedSimpArgs false
attribute [local go_sem ↓] Go.wp_at_zero Go.wp_at_succ
attribute [local go_sem] Oper.semAt_some

/-- the table of the bits' places is kept -/
def KeepT (W W' : World) : Prop := W'.heap[1]? = W.heap[1]?
theorem DT.of_block {w w' : World} (h : DT w) (k : KeepT w w') : DT w' := by
  have e : ∀ o, w'.cell? ⟨1, o, none⟩ = w.cell? ⟨1, o, none⟩ := fun o => World.cell?_of_block (w := w) (a := ⟨1, o, none⟩) k
  refine ⟨?_, fun i hi => (e i).trans (h.cell i hi)⟩
  have h1 := h.lt
  unfold KeepT at k
  rw [Array.getElem?_eq_getElem h1] at k
  exact (Array.getElem?_eq_some_iff.1 k).1
/-- the k-th number that is told -/
def bitN (M k : Nat) : Nat := (bitsL M).getD k 0
def bitsAt (M k : Nat) : Array Value := #[.int .i64 ((bitN M k : Nat) : Int)]
theorem bitsL_len (M : Nat) : (bitsL M).length ≤ 32 := by
  have := List.length_filter_le (fun i => M.testBit i) (List.range 32)
  simpa [bitsL] using this
theorem and_pred_lt {M : Nat} (h : M ≠ 0) : M &&& (M - 1) < M := Nat.lt_of_le_of_lt Nat.and_le_right (by omega)
attribute [-go_sem] loadVar
set_option maxHeartbeats 800000 in
theorem rising_any (M : Int) (w : World) : Calls Tryd.prog 54 #[.int .u32 M] w fun e w' => ∃ b0, e = .returned (.func (.func 72) #[] #[.pointer (some ⟨b0, 0, none⟩)]) ∧ w'.cell? ⟨b0, 0, none⟩ = some (.int .u32 M) ∧ b0 < w'.heap.size ∧ w.heap.size ≤ b0 ∧ Below w.heap.size w w' := by
  go_enter Tryd.func54, Tryd.ntmps54
  go_wp2
  go_ret
  exact ⟨_, rfl, (by go_simp), (by simp), (by omega), (Below.refl w.heap.size w).alloc (Nat.le_refl _) _⟩
set_option maxRecDepth 100000 in
set_option maxHeartbeats 3200000 in
theorem rising_tells (n : Nat) {w : World} {M b0 : Nat} (hM : M < 4294967296) (hT : DT w) (h0 : w.cell? ⟨b0, 0, none⟩ = some (.int .u32 (M : Int))) (hb : b0 < w.heap.size) :
    SeqTells Fence.wide n Tryd.prog 72 #[.pointer (some ⟨b0, 0, none⟩)] (bitsAt M) KeepT (bitsL M).length w := by
  intro l J Jx W hW _ _ hY hJ0
  have c0 := load_litsK ((hW.cell (p := ⟨b0, 0, none⟩) hb).trans h0)
  have HDT := Lib.hid (hT.below hW)
  have HY := Lib.hid hY
  have HJ := Lib.hid hJ0
  have HM := Lib.hid hM
  have HN := Lib.hid (bitsL_len M)
  clear h0 hW hY hT hb hJ0 hM
  refine callsIn_of_wp Tryd.func72 rfl trivial ?_ rfl
  simp only [Tryd.ntmps72, List.size_toArray, List.length_cons, List.length_nil, Nat.reduceAdd, Nat.reduceSub, Array.replicate_succ, Array.replicate_zero, List.push_toArray, List.append_toArray, List.nil_append, List.cons_append]
  gi_wp2
  clear c0
  gi_loopw [3] (fun r wr => ∃ k rest : Nat, r = .int .u32 (rest : Int) ∧ Hid (rest < 4294967296) ∧ Hid (bitsL rest = (bitsL M).drop k) ∧ Hid (k ≤ (bitsL M).length) ∧ Hid (J k wr) ∧ Hid (KeepT W wr)) (fun r _ => (intOf r).toNat)
  case atStart => exact ⟨0, M, rfl, HM, rfl, Nat.zero_le _, HJ, rfl⟩
  case round =>
    obtain ⟨k, rest, rfl, HR, HB, HK, HJs, HKp⟩ := hrel
    by_cases hz : rest = 0
    · subst hz
      have HJN : Hid (J (bitsL M).length wr) := by
        have h1 := HB.out
        rw [bitsL_zero] at h1
        have h2 := List.drop_eq_nil_iff.1 h1.symm
        have e : (bitsL M).length = k := Nat.le_antisymm h2 HK.out
        show J _ _
        rw [e]
        exact HJs.out
      clear HY HDT HJ HM HJs HB HK
      gi_wp2
      go_end0
      exact ⟨⟨_, rfl⟩, .inl HJN.out⟩
    · have hne : ((rest : Int) != 0) = true := by rw [bne_iff_ne]; omega
      have hc := bitsL_cons hz HR.out
      rw [HB.out] at hc
      have hlt : k < (bitsL M).length := by
        apply Nat.lt_of_not_le
        intro hle
        rw [List.drop_eq_nil_iff.2 hle] at hc
        cases hc
      have hat : bitN M k = Lib.ctz 32 rest := by
        unfold bitN
        have h1 : ((bitsL M).drop k)[0]? = some (Lib.ctz 32 rest) := by rw [hc]; rfl
        rw [List.getElem?_drop, Nat.add_zero] at h1
        simp [List.getD, h1]
      have HB2 : Hid (bitsL (rest &&& (rest - 1)) = (bitsL M).drop (k + 1)) := by
        show _ = _
        have h1 : ((bitsL M).drop k).tail = bitsL (rest &&& (rest - 1)) := by rw [hc]; rfl
        rw [← h1, List.tail_drop]
      have HZ := Lib.hid (tz_any hz HR.out wr (HDT.out.of_block HKp.out))
      obtain ⟨fn, tmps, assign, body, hy, hR⟩ := HY.out k wr hlt HJs.out
      unfold bitsAt at hy
      rw [hat] at hy
      have hand := bits_and32 rest (rest - 1) HR.out (by have := HR.out; omega)
      have HR2 : Hid (rest &&& (rest - 1) < 4294967296 ∧ rest &&& (rest - 1) < rest) := ⟨Nat.lt_trans (and_pred_lt hz) HR.out, and_pred_lt hz⟩
      have hw1 : IntKind.u32.wrap ((rest : Int) - 1) = ((rest - 1 : Nat) : Int) := by
        have := HR.out
        simp only [IntKind.wrap, IntKind.signed, IntKind.bits, Bool.false_and, Bool.false_eq_true, if_false]
        omega
      have HKL : Hid (k + 1 ≤ (bitsL M).length) := hlt
      clear hc hat hlt HDT HY HJ HM HB HK HJs hz
      generalize Lib.ctz 32 rest = z at hy HZ
      gi_wp2_with fail
      refine ⟨trivial, fun h => (nomatch h), (callsIn_wide.2 HZ.out).mono ?_⟩
      rintro e w1 ⟨rfl, rfl⟩
      gi_wp2
      refine ⟨fun h => (nomatch h), hR.mono ?_⟩
      rintro e W3 (⟨rfl, hJ3, hk3⟩ | ⟨rfl, hJx3⟩)
      · have HF : Hid (J (k + 1) W3 ∧ KeepT W W3) := ⟨hJ3, hk3.trans HKp.out⟩
        clear hJ3 hk3
        gi_wp2
        go_roundw
        case rel => exact ⟨k + 1, rest &&& (rest - 1), by first | rfl | rw [hand] | (rw [hw1, hand]), HR2.out.1, HB2, HKL, HF.out.1, HF.out.2⟩
        case measure => 
          have := HR2.out.2
          simp [intOf]
          omega
      · have HF := Lib.hid hJx3
        clear hJx3
        gi_wp2
        refine bodyPost_ret (results_none rfl _ _ _) rfl ?_
        exact ⟨⟨_, rfl⟩, .inr ⟨k + 1, HKL.out, HF.out⟩⟩
end Go.Proofs.YteabclfhmapabaaDoor
