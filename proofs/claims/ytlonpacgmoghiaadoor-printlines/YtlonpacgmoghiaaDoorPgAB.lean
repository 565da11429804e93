import Derived.Test.YtlonpacgmoghiaaDoorRlA
import Derived.Test.YtlonpacgmoghiaaDoorPrB
namespace Go.Proofs.YtlonpacgmoghiaaDoor
open Go.RowKit Go.Maps
set_option linter.unusedVariables false
set_option linter.unusedSimpArgs false
attribute [local go_sem ↓] Go.wp_at_zero Go.wp_at_succ

/-- are all rules as they may be? their lines -/
def okS (d : Nat) (l : List XR) : Bool := l.all (fun y => ruleB d y.r)
def lineT (y : XR) : List UInt8 := ruleT y.r ++ [10]
def txtS (l : List XR) : List UInt8 := l.flatMap lineT
theorem okS_not {d : Nat} {l : List XR} {k : Nat} (h : k < l.length) (hn : ruleB d (atR l k).r = false) : okS d l = false := by
  unfold okS
  rw [← Bool.not_eq_true]
  intro ha
  rw [List.all_eq_true] at ha
  rw [atR_eq h] at hn
  rw [ha _ (List.getElem_mem h)] at hn
  cases hn
theorem okS_take {d : Nat} {l : List XR} {k : Nat} (h : k < l.length) : okS d (l.take (k + 1)) = (okS d (l.take k) && ruleB d (atR l k).r) := by
  unfold okS
  rw [takeRl h, List.all_append]
  simp
theorem txtS_take {l : List XR} {k : Nat} (h : k < l.length) : txtS (l.take (k + 1)) = txtS (l.take k) ++ (ruleT (atR l k).r ++ [10]) := by
  unfold txtS
  rw [takeRl h, List.flatMap_append]
  simp [lineT]
theorem txtS_sum {w : World} {d : Nat} : ∀ (l : List XR), (∀ y ∈ l, RIs w d y.r y.p) → okS d l = true → (txtS l).length ≤ 1030 * (l.flatMap (fun y => termsR d y.r)).length + 201 * l.length
  | [], _, _ => by simp [txtS]
  | y :: r, hL, hok => by
    unfold okS at hok
    simp only [List.all_cons, Bool.and_eq_true] at hok
    have h1 := ruleT_sz (hL y (by simp)) hok.1
    have h2 := txtS_sum r (fun z hz => hL z (by simp [hz])) hok.2
    unfold txtS at h2 ⊢
    simp only [List.flatMap_cons, List.length_append, List.length_cons, List.length_nil, lineT]
    omega
theorem flat_take_le {d : Nat} (l : List XR) (k : Nat) : ((l.take k).flatMap (fun y => termsR d y.r)).length ≤ (l.flatMap (fun y => termsR d y.r)).length := by
  conv => rhs; rw [← List.take_append_drop k l, List.flatMap_append, List.length_append]
  omega
theorem txtS_len {w : World} {v : Value} {d : Nat} {l : List XR} (hL : Lr w v d l) (hs : smallS d l) {k : Nat} (hk : k ≤ l.length) (hok : okS d (l.take k) = true) : (txtS (l.take k)).length ≤ 1300000000 := by
  have h1 := txtS_sum (w := w) (l.take k) (fun y hy => by
    obtain ⟨i, hi, rfl⟩ := List.getElem_of_mem (List.mem_of_mem_take hy)
    have := hL.each i hi
    rw [atR_eq hi] at this
    exact this) hok
  have h2 := flat_take_le (d := d) l k
  have h3 := hs.terms
  have h4 := hs.len
  rw [List.length_take] at h1
  have : min k l.length ≤ 1048576 := by omega
  omega
open Go.RowKit Go.Maps
set_option linter.unusedVariables false
set_option linter.unusedSimpArgs false
attribute [local go_sem ↓] Go.wp_at_zero Go.wp_at_succ

set_option maxHeartbeats 1600000 in
set_option maxRecDepth 100000 in
theorem String_none {b : Nat} {w : World} (p : Value) (hbk : w.heap[b]? = some (.cells #[p, .slice none 0 0] 77 (0, 0))) :
    Calls Tryd.prog 23 #[self b] w fun e w' => e = .returned (.string ⟨#[]⟩) ∧ Below w.heap.size w w' := by
  have c1 : w.drew.cell? ⟨b, 1, none⟩ = some (.slice none 0 0) := by
    have : w.drew.heap[b]? = some (.cells #[p, .slice none 0 0] 77 (0, 0)) := hbk
    rw [Lib.cell_of_heap this]; rfl
  have hSD : (Builtin.unsafeSliceData_ #[73] 110 #[.slice none 0 0]).run Tryd.prog w.drew = .ok (.pointer none) w.drew := Lib.run_unsafeSliceData_nil _ _ _ _ _
  have hUS : (Builtin.unsafeString_ #[110, 3] 9 #[.pointer none, .int .i64 0]).run Tryd.prog w.drew = .ok (.string ⟨#[]⟩) w.drew := Lib.run_unsafeString_none _ _ _ _ _
  clear hbk
  have mixed : Tryd.prog.follows Departure.mixedOrders = true := by kernel_rfl
  unfold self
  go_enter Tryd.func23, Tryd.ntmps23
  go_wp2
  go_region_o
  all_goals (go_wp2; go_ret; exact ⟨rfl, (Below.refl _ _).drew⟩)
attribute [-go_sem] loadVar storeVar
set_option maxHeartbeats 3200000 in
set_option maxRecDepth 20000 in
theorem lines_any (d : Nat) (v : Value) (l : List XR) (w : World) (hG : Gr w) (hL : Lr w v d l) (hs : smallS d l) :
    Calls Tryd.prog 12 #[v, .func (.func 13) #[] #[], .func (.func 14) #[] #[]] w fun e w' => e = .returned (toldV (okS d l) (txtS l)) ∧ Below w.heap.size w w' := by
  have hll := hs.len
  have HLn : Hid (∀ k, k ≤ l.length → okS d (l.take k) = true → (txtS (l.take k)).length ≤ 1300000000) := fun k hk hok => txtS_len hL hs hk hok
  have HCk : Hid (∀ i, i < l.length → ∀ u, Below w.heap.size w u → Calls Tryd.prog 13 #[.agg (atR l i).cells.toArray] u fun e w' => e = .returned (.int .i64 (errB (ruleB d (atR l i).r))) ∧ Below u.heap.size u w') := fun i hi u hu => checkRule_any d (atR l i).r (atR l i).p u (hG.gq.gp.kt.below hu) ((hL.each i hi).below hu) (hs.each i hi)
  have HWr : Hid (∀ i, i < l.length → ruleB d (atR l i).r = true → ∀ (t : List UInt8) (u : World), Below w.heap.size w u → BldA w.heap.size w.heap.size t u → w.heap.size ≤ u.heap.size → t.length + (ruleT (atR l i).r).length ≤ 1099511627776 → Calls Tryd.prog 14 #[self w.heap.size, .agg (atR l i).cells.toArray] u (Wrote w.heap.size w.heap.size t (ruleT (atR l i).r) u)) := fun i hi hok t u h1 h2 h3 h4 => wrule_any d (atR l i).r (atR l i).p w (Nat.le_refl _) (hL.each i hi) hG hok t u h1 h2 h3 h4
  obtain ⟨a, c, rfl, hc1, hc2, hk⟩ := hL.form
  have HK : Hid _ := hk
  have HBA : Hid (Below w.heap.size w (w.alloc (.cells #[.pointer none, .slice none 0 0] 77))) := (Below.refl w.heap.size w).alloc (Nat.le_refl _) _
  have HBN : Hid (BldA w.heap.size w.heap.size [] (w.alloc (.cells #[.pointer none, .slice none 0 0] 77))) := bldA_new w
  have HTV : Hid (∀ b t, toldV b t = if b then .tuple #[.string ⟨t.toArray⟩, .int .i64 0] else .tuple #[.string ⟨#[]⟩, .int .i64 40]) := fun b t => rfl
  have HEm : Hid _ := String_none (b := w.heap.size) (.pointer none) (heap_alloc_new w (.cells #[.pointer none, .slice none 0 0] 77))
  obtain ⟨ov, hov⟩ : ∃ ov, toldV (okS d l) (txtS l) = ov := ⟨_, rfl⟩
  rw [hov]
  have HOV : Hid _ := hov
  clear hk hL hs hov hG hc2
  unfold self at HEm HWr
  by_cases h0 : l.length = 0
  · have h0' : (l.length : Int) = 0 := by omega
    have HE : Hid (ov = .tuple #[.string ⟨#[]⟩, .int .i64 0]) := by
      obtain rfl : l = [] := List.length_eq_zero_iff.1 h0
      exact HOV.out.symm
    clear h0
    go_enter Tryd.func12, Tryd.ntmps12
    go_wp2
    go_loopw [16] (fun i wr => i = .int .i64 0 ∧ Hid (wr = w.alloc (.cells #[.pointer none, .slice none 0 0] 77))) (fun _ _ => 0)
    case atStart => exact ⟨rfl, rfl⟩
    case round =>
      obtain ⟨rfl, HW⟩ := hrel
      rw [HW.out]
      go_wp2_with fail
      refine Calls.mono HEm.out ?_
      rintro e w1 ⟨rfl, b1⟩
      go_wp2
      go_ret2
      exact ⟨by rw [HE.out]; rfl, HBA.out.trans (b1.mono HBA.out.size)⟩
  · have HN0 : Hid (l.length ≠ 0) := h0
    clear h0 HEm
    go_enter Tryd.func12, Tryd.ntmps12
    go_wp2
    go_loopw [16] (fun i wr => ∃ k : Nat, k ≤ l.length ∧ i = .int .i64 k ∧ Hid (BldA w.heap.size w.heap.size (txtS (l.take k)) wr) ∧ Hid (okS d (l.take k) = true) ∧ Below w.heap.size w wr) (fun i _ => l.length - (intOf i).toNat)
    case atStart => exact ⟨0, Nat.zero_le _, rfl, by simpa [Hid, txtS] using HBN.out, by simp [Hid, okS], HBA.out⟩
    case round =>
      obtain ⟨k, hk, rfl, HB, HO, bel⟩ := hrel
      clear HBN HBA
      by_cases hlt : k < l.length
      · have hlt' : (k : Int) < (l.length : Int) := by omega
        have hk0 : (0 : Int) ≤ (k : Int) := by omega
        obtain ⟨g, off, rfl, hg, hT⟩ := HK.out (by omega)
        have hld := load_Rul (range_below (hT k hlt) bel hg) rfl
        have HC : Hid _ := HCk.out k hlt
        have HR : Hid _ := HWr.out k hlt
        have HNo : Hid (ruleB d (atR l k).r = false → ov = .tuple #[.string ⟨#[]⟩, .int .i64 40]) := fun h => by rw [← HOV.out, okS_not hlt h, HTV.out]; rfl
        have HYe : Hid (ruleB d (atR l k).r = true → okS d (l.take (k + 1)) = true) := fun h => by rw [okS_take hlt, HO.out, h]; rfl
        have HTk : Hid _ := txtS_take hlt
        have HL2 : Hid (okS d (l.take (k + 1)) = true → (txtS (l.take (k + 1))).length ≤ 1300000000) := HLn.out (k + 1) hlt
        have hst : (storeVar 34 ⟨wr.heap.size, 0, none⟩ (.agg (atR l k).cells.toArray)).run Tryd.prog (wr.alloc (.cells #[.string ⟨#[]⟩, .slice none 0 0, .slice none 0 0] 34)) = .ok () (wr.alloc (.cells (atR l k).cells.toArray 34)) := run_storeVar_new wr 34 #[.string ⟨#[]⟩, .slice none 0 0, .slice none 0 0] (atR l k).cells.toArray (by kernel_rfl) rfl (oneCells_rule _)
        have HB2 : Hid (Below w.heap.size w (wr.alloc (.cells (atR l k).cells.toArray 34))) := bel.alloc bel.size _
        have HBB : Hid (BldA w.heap.size w.heap.size (txtS (l.take k)) (wr.alloc (.cells (atR l k).cells.toArray 34))) := HB.out.alloc _
        have HL3 : Hid (∀ u, Below (wr.heap.size + 1) (wr.alloc (.cells (atR l k).cells.toArray 34)) u → (loadVar 34 ⟨wr.heap.size, 0, none⟩).run Tryd.prog u = .ok (.agg (atR l k).cells.toArray) u) := fun u hu => load_Rul (RL.range (World.rowIs.of_block (rl_new wr (atR l k).cells.toArray 34) (hu.block _ (Nat.lt_succ_self _)))) rfl
        have hsz : (wr.alloc (.cells (atR l k).cells.toArray 34)).heap.size = wr.heap.size + 1 := by simp
        have HSZ : Hid _ := hsz
        clear hsz
        generalize wr.alloc (.cells (atR l k).cells.toArray 34) = W2 at hst HB2 HBB HL3 HSZ
        generalize Value.agg (atR l k).cells.toArray = QV at hld hst HL3 HC HR
        generalize ruleT (atR l k).r = rt at HR HTk
        generalize ruleB d (atR l k).r = rb at HC HR HNo HYe
        have hl2 := HL3.out W2 (Below.refl _ _)
        clear hT
        go_wp2_with fail
        refine Calls.mono (HC.out _ HB2.out) ?_
        rintro e w1 ⟨rfl, b1⟩
        have bel1 : Below w.heap.size w w1 := HB2.out.trans (b1.mono HB2.out.size)
        have hl3 := HL3.out w1 (by have := b1; rw [HSZ.out] at this; exact this)
        have HB1 : Hid (BldA w.heap.size w.heap.size (txtS (l.take k)) w1) := HBB.out.below b1
        clear b1 HC hld hst hl2 HBB HB2
        cases rb
        · unfold errB
          simp only [Bool.false_eq_true, if_false]
          go_wp2
          go_ret2
          exact ⟨by rw [HNo.out (by first | rfl | trivial)]; rfl, bel1⟩
        · unfold errB
          simp only [if_true]
          have HO2 : Hid _ := HYe.out rfl
          have hlen := HL2.out HO2.out
          rw [HTk.out] at hlen
          simp only [List.length_append, List.length_cons, List.length_nil] at hlen
          have HLL : Hid ((txtS (l.take k)).length + rt.length ≤ 1099511627776 ∧ (txtS (l.take k) ++ rt).length + 1 ≤ 1099511627776) := by
            rw [List.length_append]
            show _ ∧ _
            omega
          clear hlen HL2
          go_wp2_with fail
          refine (HR.out (by first | rfl | trivial) _ w1 bel1 HB1.out bel1.size HLL.out.1).mono ?_
          rintro e w2 ⟨rfl, k1, k2, k3⟩
          have bel2 : Below w.heap.size w w2 := bel1.trans k2
          clear k2 k3 hl3 HB1 HR bel1
          go_wp2_with fail
          refine (put_new (g := w2.heap.size) ⟨#[10]⟩ rfl k1 bel2.size HLL.out.2).mono ?_
          rintro e w3 ⟨rfl, k4, k5, k6⟩
          have bel3 : Below w.heap.size w w3 := bel2.trans k5
          clear k1 k5 k6
          go_wp2
          go_roundw
          case rel => exact ⟨k + 1, by omega, by go_num, by show BldA _ _ _ _; rw [HTk.out, ← List.append_assoc]; exact k4, HO2, bel3⟩
          case measure => simp [intOf]; omega
      · obtain rfl : k = l.length := by omega
        rw [List.take_length] at HB HO
        have hne : txtS l ≠ [] := by
          intro e
          have h1 := HN0.out
          match l, h1 with
          | y :: r, _ => simp [txtS, lineT] at e
        have HSt : Hid _ := String_any HB.out hne
        unfold self at HSt
        have HE : Hid (ov = .tuple #[.string ⟨(txtS l).toArray⟩, .int .i64 0]) := by show _ = _; rw [← HOV.out, HO.out, HTV.out, if_pos rfl]
        obtain ⟨S, hS⟩ : ∃ S, (⟨(txtS l).toArray⟩ : ByteArray) = S := ⟨_, rfl⟩
        rw [hS] at HSt HE
        clear hS hne
        go_wp2_with fail
        refine Calls.mono HSt.out ?_
        rintro e w1 ⟨rfl, b1⟩
        go_wp2
        go_ret2
        exact ⟨by rw [HE.out]; rfl, bel.trans b1⟩
set_option maxHeartbeats 800000 in
theorem pProgram_any (d : Nat) (v : Value) (l : List XR) (w : World) (hG : Gr w) (hL : Lr w v d l) (hs : smallS d l) :
    Calls Tryd.prog 5 #[.agg #[v]] w fun e w' => e = .returned (toldV (okS d l) (txtS l)) ∧ Below w.heap.size w w' := by
  obtain ⟨a, c, rfl, hc1, hc2, -⟩ := hL.form
  have BA := (Below.refl w.heap.size w).alloc (Nat.le_refl _) (.cells #[.slice a l.length c] 29)
  have HO : Hid _ := lines_any d _ l _ (hG.below BA) (hL.below BA) hs
  obtain ⟨s, er, hs⟩ : ∃ s er, toldV (okS d l) (txtS l) = .tuple #[.string s, .int .i64 er] := by unfold toldV; split <;> exact ⟨_, _, rfl⟩
  have hagg := @loadVar.eq_1
  clear hG hL
  go_enter Tryd.func5, Tryd.ntmps5
  go_wp2_with fail
  refine Calls.mono HO.out ?_
  rintro ee w1 ⟨rfl, b1⟩
  rw [hs]
  have B1 := BA.trans (b1.mono BA.size)
  clear b1 BA
  have HS : Hid _ := hs
  clear hs
  go_wp2
  go_ret2
  exact ⟨by rw [HS.out]; rfl, B1⟩
end Go.Proofs.YtlonpacgmoghiaaDoor
