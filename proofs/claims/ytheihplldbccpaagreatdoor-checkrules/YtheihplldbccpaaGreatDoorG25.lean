import Derived.Test.YtheihplldbccpaaGreatDoorG11
import Derived.Test.YtheihplldbccpaaGreatDoorG16
section
namespace Go.Proofs.YtheihplldbccpaaGreatDoor
open Go.RowKit Go.Maps
set_option linter.unusedVariables false
set_option linter.unusedSimpArgs false
attribute [local go_sem ↓] Go.wp_at_zero Go.wp_at_succ

theorem index_any (s : ByteArray) (v : Value) (l : List ByteArray) (w : World) (hl : Ls w v l.length (l.flatMap strB)) : Calls Tryz.prog 62 #[v, .string s] w fun e w' => ∃ n : Int, e = .returned (.int .i64 n) ∧ decide (0 ≤ n) = inB l s ∧ w' = w := by
  obtain ⟨a, c, rfl, hc1, hc2, hat⟩ := ls_str hl
  have hmax : l.length ≤ maxLen := Nat.le_trans hc1 hc2
  unfold maxLen at hmax
  have HAT : Hid _ := hat
  obtain ⟨r, HR⟩ : ∃ r, Hid (inB l s = r) := ⟨_, rfl⟩
  rw [HR.out]
  clear hat hl
  go_enter Tryz.func62, Tryz.ntmps62
  go_wp2
  go_loopw [8] (fun i wr => wr = w ∧ ∃ k : Nat, k ≤ l.length ∧ i = .int .i64 k ∧ Hid (∀ j, j < k → atS l j ≠ s)) (fun i _ => l.length - (intOf i).toNat)
  case atStart => exact ⟨rfl, 0, Nat.zero_le _, rfl, fun j hj => absurd hj (by omega)⟩
  case round =>
    obtain ⟨rfl, k, hk, rfl, HB⟩ := hrel
    by_cases hlt : k < l.length
    · have hlt' : (k : Int) < (l.length : Int) := by omega
      have hk0 : (0 : Int) ≤ (k : Int) := by omega
      obtain ⟨g, off, rfl, hg, hT⟩ := HAT.out (by omega)
      have x0 := hT k hlt
      obtain ⟨y, HY⟩ : ∃ y, Hid (atS l k = y) := ⟨_, rfl⟩
      rw [HY.out] at x0
      clear hT
      by_cases e : y = s
      · have hB : (s.toList == y.toList) = true := by rw [e]; simp
        have HV : Hid (r = true) := by
          show r = true
          rw [← HR.out]
          exact inB_iff.2 (mem_of_atS hlt (HY.out.trans e))
        clear e
        go_wp2
        go_ret
        exact ⟨k, rfl, by rw [HV.out]; exact decide_eq_true (by omega), rfl⟩
      · have hB : (s.toList == y.toList) = false := by
          rw [beq_eq_false_iff_ne]
          exact fun h => e (toList_inj h).symm
        have HE : Hid (y ≠ s) := e
        clear e
        go_wp2
        go_roundw
        case rel =>
          refine ⟨trivial, k + 1, by omega, by go_num, fun j hj => ?_⟩
          by_cases h : j < k
          · exact HB.out j h
          · obtain rfl : j = k := by omega
            rw [HY.out]
            exact HE.out
        case measure => simp [intOf]; omega
    · obtain rfl : k = l.length := by omega
      have HV : Hid (r = false) := by
        show r = false
        rw [← HR.out, ← Bool.not_eq_true]
        intro h
        obtain ⟨i, hi, e⟩ := List.getElem_of_mem (inB_iff.1 h)
        exact HB.out i hi (by rw [atS_eq hi]; exact e)
      go_wp2
      go_ret
      exact ⟨-1, rfl, by rw [HV.out]; rfl, rfl⟩
theorem contains_any (s : ByteArray) (v : Value) (l : List ByteArray) (w : World) (hl : Ls w v l.length (l.flatMap strB)) : Calls Tryz.prog 34 #[v, .string s] w fun e w' => e = .returned (.bool (inB l s)) ∧ w' = w := by
  have HI := Lib.hid (index_any s v l w hl)
  generalize inB l s = b at HI ⊢
  clear hl
  go_enter Tryz.func34, Tryz.ntmps34
  go_wp2_with fail
  refine HI.out.mono ?_
  rintro e w' ⟨n, rfl, hn, rfl⟩
  have HN := Lib.hid hn
  clear hn HI
  go_wp2
  go_ret
  exact ⟨by rw [← HN.out]; rfl, rfl⟩
theorem areAmong_any (v v' : Value) (l m : List ByteArray) (w : World) (h1 : Ls w v l.length (l.flatMap strB)) (h2 : Ls w v' m.length (m.flatMap strB)) :
    Calls Tryz.prog 15 #[v, v'] w fun e w' => e = .returned (.bool (l.all (inB m))) ∧ w' = w := by
  have HIN : Hid (∀ s, Calls Tryz.prog 34 #[v', .string s] w fun e w' => e = .returned (.bool (inB m s)) ∧ w' = w) := fun s => contains_any s v' m w h2
  obtain ⟨a, c, rfl, hc1, hc2, hat⟩ := ls_str h1
  have hmax : l.length ≤ maxLen := Nat.le_trans hc1 hc2
  unfold maxLen at hmax
  have HAT := Lib.hid hat
  obtain ⟨R, hR⟩ : ∃ R, l.all (inB m) = R := ⟨_, rfl⟩
  rw [hR]
  have HR := Lib.hid hR
  clear hat h1 h2 hR hc2
  go_enter Tryz.func15, Tryz.ntmps15
  go_wp2
  go_loopw [9] (fun i wr => wr = w ∧ ∃ k : Nat, k ≤ l.length ∧ i = .int .i64 k ∧ Hid ((l.take k).all (inB m) = true)) (fun i _ => l.length - (intOf i).toNat)
  case atStart => exact ⟨rfl, 0, Nat.zero_le _, rfl, rfl⟩
  case round =>
    obtain ⟨rfl, k, hk, rfl, HA⟩ := hrel
    by_cases hlt : k < l.length
    · have hlt' : (k : Int) < (l.length : Int) := by omega
      have hk0 : (0 : Int) ≤ (k : Int) := by omega
      obtain ⟨g, off, rfl, hg, hT⟩ := HAT.out (by omega)
      have x0 := hT k hlt
      have HC := Lib.hid (HIN.out (atS l k))
      cases hq : inB m (atS l k)
      · have HF : Hid (R = false) := by show R = _; rw [← HR.out]; exact allS_not hlt hq
        rw [hq] at HC
        generalize atS l k = nm at x0 HC
        clear hT hq
        go_wp2_with fail
        refine HC.out.mono ?_
        rintro e w' ⟨rfl, rfl⟩
        clear HC
        go_wp2
        go_ret
        exact ⟨by rw [HF.out]; rfl, rfl⟩
      · have HN : Hid ((l.take (k + 1)).all (inB m) = true) := by
          show _ = _
          rw [allS_take hlt, HA.out, hq]
          rfl
        rw [hq] at HC
        generalize atS l k = nm at x0 HC
        clear hT hq
        go_wp2_with fail
        refine HC.out.mono ?_
        rintro e w' ⟨rfl, rfl⟩
        clear HC
        go_wp2
        go_roundw
        case rel => exact ⟨by first | rfl | trivial, k + 1, by omega, by go_num, HN⟩
        case measure => simp [intOf]; omega
    · obtain rfl : k = l.length := by omega
      rw [List.take_length] at HA
      have HF : Hid (R = true) := by show R = _; rw [← HR.out]; exact HA.out
      clear HA
      go_wp2
      go_ret
      exact ⟨by rw [HF.out]; rfl, rfl⟩
end Go.Proofs.YtheihplldbccpaaGreatDoor
end
section
namespace Go.Proofs.YtheihplldbccpaaGreatDoor
open Go.RowKit Go.Maps
set_option linter.unusedVariables false
set_option linter.unusedSimpArgs false
attribute [local go_sem ↓] Go.wp_at_zero Go.wp_at_succ

/-- a comparison with an operation -/
def opX (y : XL) : Bool := y.x.k == 3 && (y.x.l.op != 0 || y.x.r.op != 0)
set_option maxHeartbeats 1600000 in
theorem hasOp_any (y : XL) (w : World) : Calls Tryz.prog 23 #[.agg y.cells.toArray] w fun e w' => e = .returned (.bool (opX y)) ∧ Below w.heap.size w w' := by
  have HR := Lib.hid (rl_new w y.cells.toArray 55)
  have HB := Lib.hid (belowA (w := w) (.cells y.cells.toArray 55))
  obtain ⟨b, hb⟩ : ∃ b, opX y = b := ⟨_, rfl⟩
  rw [hb]
  have HO := Lib.hid hb
  clear hb
  unfold XL.cells at *
  go_enter Tryz.func23, Tryz.ntmps23
  go_upto_region 1 with fail
  generalize w.alloc (.cells [.int .i8 y.x.k, .string y.x.pr, .slice y.p.a y.x.ts.length y.p.c, .int .i8 y.x.rel, .int .i8 y.x.l.op, .string y.x.l.t.v, .int .i8 y.x.l.t.a.k, .int .i64 y.x.l.t.a.n, .string y.x.l.t.a.s, .slice y.p.la y.x.l.kids.length y.p.lc, .int .i8 y.x.r.op, .string y.x.r.t.v, .int .i8 y.x.r.t.a.k, .int .i64 y.x.r.t.a.n, .string y.x.r.t.a.s, .slice y.p.ra y.x.r.kids.length y.p.rc].toArray 55) = W at HR HB ⊢
  have c0 := HR.out.at (j := 0) rfl
  have c4 := HR.out.at (j := 4) rfl
  have c10 := HR.out.at (j := 10) rfl
  clear HR
  unfold opX at HO
  by_cases h1 : y.x.k = 3
  · have e1 : (y.x.k == 3) = true := by rw [h1]; rfl
    by_cases h2 : y.x.l.op = 0
    · have e2 : (y.x.l.op != 0) = false := by rw [h2]; rfl
      by_cases h3 : y.x.r.op = 0
      · have e3 : (y.x.r.op != 0) = false := by rw [h3]; rfl
        rw [e1, e2, e3] at HO
        clear h1 h2 h3
        go_wp2
        go_ret
        exact ⟨by rw [← HO.out]; rfl, HB.out⟩
      · have e3 : (y.x.r.op != 0) = true := by rw [bne_iff_ne]; exact h3
        rw [e1, e2, e3] at HO
        clear h1 h2 h3
        go_wp2
        go_ret
        exact ⟨by rw [← HO.out]; rfl, HB.out⟩
    · have e2 : (y.x.l.op != 0) = true := by rw [bne_iff_ne]; exact h2
      rw [e1, e2] at HO
      clear h1 h2
      go_wp2
      go_ret
      exact ⟨by rw [← HO.out]; rfl, HB.out⟩
  · have e1 : (y.x.k == 3) = false := by rw [beq_eq_false_iff_ne]; exact h1
    rw [e1] at HO
    clear h1
    go_wp2
    go_ret
    exact ⟨by rw [← HO.out]; rfl, HB.out⟩
attribute [-go_sem] loadVar storeVar
set_option maxHeartbeats 1600000 in
theorem indexOp_any (v : Value) (l : List XL) (d : Nat) (w : World) (hL : Lb w v d l) : Calls Tryz.prog 48 #[v, .func (.func 23) #[] #[]] w fun e w' => ∃ n : Int, e = .returned (.int .i64 n) ∧ decide (0 ≤ n) = l.any opX ∧ Below w.heap.size w w' := by
  obtain ⟨a, c, rfl, hc1, hc2, hat⟩ := hL.form
  have hmax : l.length ≤ maxLen := Nat.le_trans hc1 hc2
  unfold maxLen at hmax
  have HAT := Lib.hid hat
  obtain ⟨R, HR⟩ : ∃ R, Hid (l.any opX = R) := ⟨_, rfl⟩
  rw [HR.out]
  clear hat hL
  go_enter Tryz.func48, Tryz.ntmps48
  go_wp2
  go_loopw [8] (fun i wr => ∃ k : Nat, k ≤ l.length ∧ i = .int .i64 k ∧ Hid ((l.take k).any opX = false) ∧ Hid (Below w.heap.size w wr)) (fun i _ => l.length - (intOf i).toNat)
  case atStart => exact ⟨0, Nat.zero_le _, rfl, rfl, Below.refl _ _⟩
  case round =>
    obtain ⟨k, hk, rfl, HA, HB⟩ := hrel
    by_cases hlt : k < l.length
    · have hlt' : (k : Int) < (l.length : Int) := by omega
      have hk0 : (0 : Int) ≤ (k : Int) := by omega
      obtain ⟨g, off, rfl, hg, hT⟩ := HAT.out (by omega)
      have r1 := range_below (hT k hlt) HB.out hg
      obtain ⟨y, hy⟩ : ∃ y, atL l k = y := ⟨_, rfl⟩
      rw [hy] at r1
      have hld := load_Lit r1 rfl
      have HC := Lib.hid (hasOp_any y wr)
      have HNX : Hid ((l.take (k + 1)).any opX = opX y) := by
        show _ = _
        rw [takeXL hlt, List.any_append, HA.out, hy]
        simp
      have HIN : Hid (y ∈ l) := by
        show y ∈ l
        rw [← hy, atL_eq hlt]
        exact List.getElem_mem hlt
      generalize Value.agg y.cells.toArray = QV at hld HC
      clear hT r1 hy
      cases hq : opX y
      · rw [hq] at HC HNX
        clear hq
        go_wp2_with fail
        refine HC.out.mono ?_
        rintro e w' ⟨rfl, b1⟩
        have HB1 : Hid (Below w.heap.size w w') := HB.out.trans (b1.mono HB.out.size)
        clear b1 HC HB hld
        go_wp2
        go_roundw
        case rel => exact ⟨k + 1, by omega, by go_num, HNX, HB1⟩
        case measure => simp [intOf]; omega
      · have HF : Hid (R = true) := by
          show R = _
          rw [← HR.out]
          exact List.any_eq_true.2 ⟨y, HIN.out, hq⟩
        rw [hq] at HC
        clear hq
        go_wp2_with fail
        refine HC.out.mono ?_
        rintro e w' ⟨rfl, b1⟩
        have HB1 : Hid (Below w.heap.size w w') := HB.out.trans (b1.mono HB.out.size)
        clear b1 HC HB hld
        go_wp2
        go_ret
        exact ⟨k, rfl, by rw [HF.out]; exact decide_eq_true (by omega), HB1.out⟩
    · obtain rfl : k = l.length := by omega
      rw [List.take_length] at HA
      have HF : Hid (R = false) := by show R = _; rw [← HR.out]; exact HA.out
      clear HA
      go_wp2
      go_ret
      exact ⟨-1, rfl, by rw [HF.out]; rfl, HB.out⟩
theorem containsOp_any (v : Value) (l : List XL) (d : Nat) (w : World) (hL : Lb w v d l) : Calls Tryz.prog 22 #[v, .func (.func 23) #[] #[]] w fun e w' => e = .returned (.bool (l.any opX)) ∧ Below w.heap.size w w' := by
  have HI := Lib.hid (indexOp_any v l d w hL)
  generalize l.any opX = b at HI ⊢
  clear hL
  go_enter Tryz.func22, Tryz.ntmps22
  go_wp2_with fail
  refine HI.out.mono ?_
  rintro e w' ⟨n, rfl, hn, b1⟩
  have HN := Lib.hid hn
  clear hn HI
  go_wp2
  go_ret
  exact ⟨by rw [← HN.out]; rfl, b1⟩
end Go.Proofs.YtheihplldbccpaaGreatDoor
end
