import Derived.Test.YtikjphfeeljhbaaGreatDoorFbX
namespace Go.Proofs.YtikjphfeeljhbaaGreatDoor
open Go.RowKit Go.Maps
set_option linter.unusedVariables false
set_option linter.unusedSimpArgs false
attribute [local go_sem ↓] Go.wp_at_zero Go.wp_at_succ

/-- are all facts as they may be? their lines -/
def toldF (b : Bool) (t : List UInt8) : Value := if b then .tuple #[.string ⟨t.toArray⟩, .int .i64 0] else .tuple #[.string ⟨#[]⟩, .int .i64 10]
def okF (l : List XF) : Bool := l.all factB
def lineF (y : XF) : List UInt8 := factT y ++ [10]
def txtF (l : List XF) : List UInt8 := l.flatMap lineF
theorem okF_not {l : List XF} {k : Nat} (h : k < l.length) (hn : factB (atF l k) = false) : okF l = false := by
  unfold okF
  rw [← Bool.not_eq_true]
  intro ha
  rw [List.all_eq_true] at ha
  rw [atF_eq h] at hn
  rw [ha _ (List.getElem_mem h)] at hn
  cases hn
theorem okF_take {l : List XF} {k : Nat} (h : k < l.length) : okF (l.take (k + 1)) = (okF (l.take k) && factB (atF l k)) := by
  unfold okF
  rw [takeFl h, List.all_append]
  simp
theorem txtF_take {l : List XF} {k : Nat} (h : k < l.length) : txtF (l.take (k + 1)) = txtF (l.take k) ++ (factT (atF l k) ++ [10]) := by
  unfold txtF
  rw [takeFl h, List.flatMap_append]
  simp [lineF]
theorem txtF_sum {w : World} : ∀ (l : List XF), (∀ y ∈ l, FIs w y) → okF l = true → (txtF l).length ≤ 1002 * (l.flatMap XF.vs).length + 131 * l.length
  | [], _, _ => by simp [txtF]
  | y :: r, hL, hok => by
    unfold okF at hok
    simp only [List.all_cons, Bool.and_eq_true] at hok
    have h1 := (factT_sz (hL y (by simp)) hok.1).2
    have h2 := txtF_sum r (fun z hz => hL z (by simp [hz])) hok.2
    unfold txtF at h2 ⊢
    simp only [List.flatMap_cons, List.length_append, List.length_cons, List.length_nil, lineF]
    omega
theorem flatF_take_le (l : List XF) (k : Nat) : ((l.take k).flatMap XF.vs).length ≤ (l.flatMap XF.vs).length := by
  conv => rhs; rw [← List.take_append_drop k l, List.flatMap_append, List.length_append]
  omega
theorem txtF_len {w : World} {v : Value} {l : List XF} (hL : Lf w v l) (hs : smallF l) {k : Nat} (hk : k ≤ l.length) (hok : okF (l.take k) = true) : (txtF (l.take k)).length ≤ 1300000000 := by
  have h1 := txtF_sum (w := w) (l.take k) (fun y hy => by
    obtain ⟨i, hi, rfl⟩ := List.getElem_of_mem (List.mem_of_mem_take hy)
    have := hL.each i hi
    rw [atF_eq hi] at this
    exact this) hok
  have h2 := flatF_take_le l k
  have h3 := hs.vals
  have h4 := hs.len
  rw [List.length_take] at h1
  have : min k l.length ≤ 1048576 := by omega
  omega
attribute [-go_sem] loadVar storeVar
set_option maxHeartbeats 3200000 in
set_option maxRecDepth 20000 in
theorem linesF_any (v : Value) (l : List XF) (w : World) (hG : Gf w) (hL : Lf w v l) (hs : smallF l) :
    Calls Tryz.prog 19 #[v, .func (.func 20) #[] #[], .func (.func 21) #[] #[]] w fun e w' => e = .returned (toldF (okF l) (txtF l)) ∧ Below w.heap.size w w' := by
  have hll := hs.len
  have HLn : Hid (∀ k, k ≤ l.length → okF (l.take k) = true → (txtF (l.take k)).length ≤ 1300000000) := fun k hk hok => txtF_len hL hs hk hok
  have HCk : Hid (∀ i, i < l.length → ∀ u, Below w.heap.size w u → Calls Tryz.prog 20 #[.agg (atF l i).cells.toArray] u fun e w' => e = .returned (.int .i64 (errF (factB (atF l i)))) ∧ Below u.heap.size u w') := fun i hi u hu => checkFact_any (atF l i) u (hG.kw.below hu) ((hL.each i hi).below hu)
  have HWr : Hid (∀ i, i < l.length → factB (atF l i) = true → ∀ (t : List UInt8) (u : World), Below w.heap.size w u → BldA w.heap.size w.heap.size t u → w.heap.size ≤ u.heap.size → t.length + (factT (atF l i)).length ≤ 1099511627776 → Calls Tryz.prog 21 #[self w.heap.size, .agg (atF l i).cells.toArray] u (Wrote w.heap.size w.heap.size t (factT (atF l i)) u)) := fun i hi hok t u h1 h2 h3 h4 => wfact_any (atF l i) w (Nat.le_refl _) (hL.each i hi) hG hok t u h1 h2 h3 h4
  obtain ⟨a, c, rfl, hc1, hc2, hk⟩ := hL.form
  have HK : Hid _ := hk
  have HBA : Hid (Below w.heap.size w (w.alloc (.cells #[.pointer none, .slice none 0 0] 87))) := (Below.refl w.heap.size w).alloc (Nat.le_refl _) _
  have HBN : Hid (BldA w.heap.size w.heap.size [] (w.alloc (.cells #[.pointer none, .slice none 0 0] 87))) := bldA_new w
  have HTV : Hid (∀ b t, toldF b t = if b then .tuple #[.string ⟨t.toArray⟩, .int .i64 0] else .tuple #[.string ⟨#[]⟩, .int .i64 10]) := fun b t => rfl
  have HEm : Hid _ := String_none (b := w.heap.size) (.pointer none) (heap_alloc_new w (.cells #[.pointer none, .slice none 0 0] 87))
  obtain ⟨ov, hov⟩ : ∃ ov, toldF (okF l) (txtF l) = ov := ⟨_, rfl⟩
  rw [hov]
  have HOV : Hid _ := hov
  clear hk hL hs hov hG hc2
  unfold self at HEm HWr
  by_cases h0 : l.length = 0
  · have h0' : (l.length : Int) = 0 := by omega
    have HE : Hid (ov = .tuple #[.string ⟨#[]⟩, .int .i64 0]) := by
      obtain rfl : l = [] := List.length_eq_zero_iff.1 h0
      exact HOV.out.symm
    clear h0
    go_enter Tryz.func19, Tryz.ntmps19
    go_wp2
    go_loopw [16] (fun i wr => i = .int .i64 0 ∧ Hid (wr = w.alloc (.cells #[.pointer none, .slice none 0 0] 87))) (fun _ _ => 0)
    case atStart => exact ⟨rfl, rfl⟩
    case round =>
      obtain ⟨rfl, HW⟩ := hrel
      rw [HW.out]
      go_wp2_with fail
      refine Calls.mono HEm.out ?_
      rintro e w1 ⟨rfl, b1⟩
      go_wp2
      go_ret2
      exact ⟨by rw [HE.out]; rfl, HBA.out.trans (b1.mono HBA.out.size)⟩
  · have HN0 : Hid (l.length ≠ 0) := h0
    clear h0 HEm
    go_enter Tryz.func19, Tryz.ntmps19
    go_wp2
    go_loopw [16] (fun i wr => ∃ k : Nat, k ≤ l.length ∧ i = .int .i64 k ∧ Hid (BldA w.heap.size w.heap.size (txtF (l.take k)) wr) ∧ Hid (okF (l.take k) = true) ∧ Below w.heap.size w wr) (fun i _ => l.length - (intOf i).toNat)
    case atStart => exact ⟨0, Nat.zero_le _, rfl, by simpa [Hid, txtF] using HBN.out, by simp [Hid, okF], HBA.out⟩
    case round =>
      obtain ⟨k, hk, rfl, HB, HO, bel⟩ := hrel
      clear HBN HBA
      by_cases hlt : k < l.length
      · have hlt' : (k : Int) < (l.length : Int) := by omega
        have hk0 : (0 : Int) ≤ (k : Int) := by omega
        obtain ⟨g, off, rfl, hg, hT⟩ := HK.out (by omega)
        have hld := load_Fac (range_below (hT k hlt) bel hg) rfl
        have HC : Hid _ := HCk.out k hlt
        have HR : Hid _ := HWr.out k hlt
        have HNo : Hid (factB (atF l k) = false → ov = .tuple #[.string ⟨#[]⟩, .int .i64 10]) := fun h => by rw [← HOV.out, okF_not hlt h, HTV.out]; rfl
        have HYe : Hid (factB (atF l k) = true → okF (l.take (k + 1)) = true) := fun h => by rw [okF_take hlt, HO.out, h]; rfl
        have HTk : Hid _ := txtF_take hlt
        have HL2 : Hid (okF (l.take (k + 1)) = true → (txtF (l.take (k + 1))).length ≤ 1300000000) := HLn.out (k + 1) hlt
        have hst : (storeVar 56 ⟨wr.heap.size, 0, none⟩ (.agg (atF l k).cells.toArray)).run Tryz.prog (wr.alloc (.cells #[.string ⟨#[]⟩, .slice none 0 0] 56)) = .ok () (wr.alloc (.cells (atF l k).cells.toArray 56)) := run_storeVar_new wr 56 #[.string ⟨#[]⟩, .slice none 0 0] (atF l k).cells.toArray (by kernel_rfl) rfl (oneCells_fact _)
        have HB2 : Hid (Below w.heap.size w (wr.alloc (.cells (atF l k).cells.toArray 56))) := bel.alloc bel.size _
        have HBB : Hid (BldA w.heap.size w.heap.size (txtF (l.take k)) (wr.alloc (.cells (atF l k).cells.toArray 56))) := HB.out.alloc _
        have HL3 : Hid (∀ u, Below (wr.heap.size + 1) (wr.alloc (.cells (atF l k).cells.toArray 56)) u → (loadVar 56 ⟨wr.heap.size, 0, none⟩).run Tryz.prog u = .ok (.agg (atF l k).cells.toArray) u) := fun u hu => load_Fac (RL.range (World.rowIs.of_block (rl_new wr (atF l k).cells.toArray 56) (hu.block _ (Nat.lt_succ_self _)))) rfl
        have hsz : (wr.alloc (.cells (atF l k).cells.toArray 56)).heap.size = wr.heap.size + 1 := by simp
        have HSZ : Hid _ := hsz
        clear hsz
        generalize wr.alloc (.cells (atF l k).cells.toArray 56) = W2 at hst HB2 HBB HL3 HSZ
        generalize Value.agg (atF l k).cells.toArray = QV at hld hst HL3 HC HR
        generalize factT (atF l k) = rt at HR HTk
        generalize factB (atF l k) = rb at HC HR HNo HYe
        have hl2 := HL3.out W2 (Below.refl _ _)
        clear hT
        go_wp2_with fail
        refine Calls.mono (HC.out _ HB2.out) ?_
        rintro e w1 ⟨rfl, b1⟩
        have bel1 : Below w.heap.size w w1 := HB2.out.trans (b1.mono HB2.out.size)
        have hl3 := HL3.out w1 (by have := b1; rw [HSZ.out] at this; exact this)
        have HB1 : Hid (BldA w.heap.size w.heap.size (txtF (l.take k)) w1) := HBB.out.below b1
        clear b1 HC hld hst hl2 HBB HB2
        cases rb
        · unfold errF
          simp only [Bool.false_eq_true, if_false]
          go_wp2
          go_ret2
          exact ⟨by rw [HNo.out (by first | rfl | trivial)]; rfl, bel1⟩
        · unfold errF
          simp only [if_true]
          have HO2 : Hid _ := HYe.out rfl
          have hlen := HL2.out HO2.out
          rw [HTk.out] at hlen
          simp only [List.length_append, List.length_cons, List.length_nil] at hlen
          have HLL : Hid ((txtF (l.take k)).length + rt.length ≤ 1099511627776 ∧ (txtF (l.take k) ++ rt).length + 1 ≤ 1099511627776) := by
            rw [List.length_append]
            show _ ∧ _
            omega
          clear hlen HL2
          go_wp2_with fail
          refine (HR.out (by first | rfl | trivial) _ w1 bel1 HB1.out bel1.size HLL.out.1).mono ?_
          rintro e w2 ⟨rfl, k1, k2, k3⟩
          have bel2 : Below w.heap.size w w2 := bel1.trans k2
          clear k2 k3 hl3 HB1 HR bel1
          go_wp2_with fail
          refine (put_new (g := w2.heap.size) ⟨#[10]⟩ rfl k1 bel2.size HLL.out.2).mono ?_
          rintro e w3 ⟨rfl, k4, k5, k6⟩
          have bel3 : Below w.heap.size w w3 := bel2.trans k5
          clear k1 k5 k6
          go_wp2
          go_roundw
          case rel => exact ⟨k + 1, by omega, by go_num, by show BldA _ _ _ _; rw [HTk.out, ← List.append_assoc]; exact k4, HO2, bel3⟩
          case measure => simp [intOf]; omega
      · obtain rfl : k = l.length := by omega
        rw [List.take_length] at HB HO
        have hne : txtF l ≠ [] := by
          intro e
          have h1 := HN0.out
          match l, h1 with
          | y :: r, _ => simp [txtF, lineF] at e
        have HSt : Hid _ := String_any HB.out hne
        unfold self at HSt
        have HE : Hid (ov = .tuple #[.string ⟨(txtF l).toArray⟩, .int .i64 0]) := by show _ = _; rw [← HOV.out, HO.out, HTV.out, if_pos rfl]
        obtain ⟨S, hS⟩ : ∃ S, (⟨(txtF l).toArray⟩ : ByteArray) = S := ⟨_, rfl⟩
        rw [hS] at HSt HE
        clear hS hne
        go_wp2_with fail
        refine Calls.mono HSt.out ?_
        rintro e w1 ⟨rfl, b1⟩
        go_wp2
        go_ret2
        exact ⟨by rw [HE.out]; rfl, bel.trans b1⟩
set_option maxHeartbeats 800000 in
theorem pFacts_any (v : Value) (l : List XF) (w : World) (hG : Gf w) (hL : Lf w v l) (hs : smallF l) :
    Calls Tryz.prog 8 #[v] w fun e w' => e = .returned (toldF (okF l) (txtF l)) ∧ Below w.heap.size w w' := by
  have HO : Hid _ := linesF_any v l w hG hL hs
  obtain ⟨a, c, rfl, hc1, hc2, -⟩ := hL.form
  obtain ⟨s, er, hs⟩ : ∃ s er, toldF (okF l) (txtF l) = .tuple #[.string s, .int .i64 er] := by unfold toldF; split <;> exact ⟨_, _, rfl⟩
  have hagg := @loadVar.eq_1
  clear hG hL
  go_enter Tryz.func8, Tryz.ntmps8
  go_wp2_with fail
  refine Calls.mono HO.out ?_
  rintro ee w1 ⟨rfl, b1⟩
  rw [hs]
  have HS : Hid _ := hs
  clear hs
  go_wp2
  go_ret2
  exact ⟨by rw [HS.out]; rfl, b1⟩
end Go.Proofs.YtikjphfeeljhbaaGreatDoor
