import Derived.Test.YtknoffjfhnljcaaDoorFaPrA
namespace Go.Proofs.YtknoffjfhnljcaaDoor
open Go.RowKit Go.Maps
set_option linter.unusedVariables false
set_option linter.unusedSimpArgs false
attribute [local go_sem ↓] Go.wp_at_zero Go.wp_at_succ

theorem chk_ten (k n : Int) (s : ByteArray) : chk k n s = 0 ∨ chk k n s = 10 := by
  unfold chk
  split <;> simp
set_option maxHeartbeats 1600000 in
theorem checkFact_any (y : XF) (w : World) (hG : LX.Gl w) (hF : FIs w y) :
    Calls Tryd.prog 15 #[y.val] w fun e w' => e = .returned (.int .i64 (errF (factB y))) ∧ Below w.heap.size w w' := by
  have HA : Hid (factB y = (nameB y.pr && (decide (y.vs.length ≤ 24) && y.vs.all okV))) := rfl
  obtain ⟨fb, hfb⟩ : ∃ fb, factB y = fb := ⟨_, rfl⟩
  rw [hfb] at HA ⊢
  obtain ⟨pr, vs, a, c⟩ := y
  have hpb := hF.pb
  have hll := hF.ln
  have hwf := hF.vs.wf
  obtain ⟨a1, c1, e1, hc1, hc2, hat⟩ := hF.vs.form
  dsimp only at HA hpb hll hwf e1 hc1 hc2 hat
  cases e1
  unfold XF.val
  dsimp only
  have BA := (Below.refl w.heap.size w).alloc (Nat.le_refl _) (.cells #[.string pr, .slice a vs.length c] 31)
  have c1 : (w.alloc (.cells #[.string pr, .slice a vs.length c] 31)).cell? ⟨w.heap.size, 1, none⟩ = some (.slice a vs.length c) := by go_simp
  have HAT : Hid _ := hat
  have HWF : Hid _ := hwf
  have HG0 : Hid (LX.Gl (w.alloc (.cells #[.string pr, .slice a vs.length c] 31))) := hG.below BA
  clear hF hat hwf hfb hc1 hc2
  go_enter Tryd.func15, Tryd.ntmps15
  go_wp2_with fail
  refine (LX.lexName_any pr _ HG0.out hpb).mono ?_
  rintro e w1 ⟨rfl, b1⟩
  have b1' : Below w.heap.size w w1 := BA.trans (b1.mono BA.size)
  have x1 : w1.cell? ⟨w.heap.size, 1, none⟩ = some (.slice a vs.length c) := by rw [b1.cell (p := ⟨w.heap.size, 1, none⟩) (by simp)]; exact c1
  have hs1 : w.heap.size < w1.heap.size := World.block_lt_of_cell? _ _ x1
  clear b1 c1 BA
  cases hn : nameB pr
  · have HF : Hid (fb = false) := by show fb = false; rw [HA.out, hn]; rfl
    go_wp2
    go_ret
    exact ⟨(by rw [HF.out]; rfl), b1'⟩
  · by_cases h24 : vs.length ≤ 24
    · have h24' : (vs.length : Int) ≤ 24 := by omega
      have HB : Hid (fb = vs.all okV) := by show fb = _; rw [HA.out, hn, decide_eq_true h24]; simp
      have HX1 : Hid _ := x1
      go_wp2
      go_loopw [19] (fun i wr => ∃ k : Nat, k ≤ vs.length ∧ i = .int .i64 k ∧ Below (w.heap.size + 1) w1 wr ∧ Hid ((vs.take k).all okV = true)) (fun i _ => vs.length - (intOf i).toNat)
      case atStart => exact ⟨0, Nat.zero_le _, rfl, Below.refl _ _, by simp [Hid]⟩
      case round =>
        obtain ⟨k, hk, rfl, belq, HS⟩ := hrel
        clear x1
        have d1 : wr.cell? ⟨w.heap.size, 1, none⟩ = some (.slice a vs.length c) := by rw [belq.cell (p := ⟨w.heap.size, 1, none⟩) (by simp)]; exact HX1.out
        have bel : Below w.heap.size w wr := b1'.trans (belq.mono (by omega))
        have hsz := belq.size
        by_cases hlt : k < vs.length
        · have hlt' : (k : Int) < (vs.length : Int) := by omega
          obtain ⟨g, off, rfl, hg, hT⟩ := HAT.out (by omega)
          obtain ⟨x0, x1, x2⟩ := (hT k hlt).below bel hg
          have htw : (atV vs k).wf := by rw [atV_eq hlt]; exact HWF.out _ (List.getElem_mem hlt)
          have HN : Hid (okV (atV vs k) = false → fb = false) := fun h => by rw [HB.out]; exact allV_not hlt h
          have HY : Hid (okV (atV vs k) = true → (vs.take (k + 1)).all okV = true) := fun h => by rw [allV_take hlt, HS.out, h]; rfl
          have HCV : Hid (okV (atV vs k) = (chk (atV vs k).k (atV vs k).n (atV vs k).s == 0)) := rfl
          generalize atV vs k = t at x0 x1 x2 htw HN HY HCV
          have hc2 := chk_ten t.k t.n t.s
          have HC : Hid (∀ u, Calls Tryd.prog 30 #[.agg #[.int .i8 t.k, .int .i64 t.n, .string t.s]] u fun e w' => e = .returned (.int .i64 (chk t.k t.n t.s)) ∧ Below u.heap.size u w') := fun u => vcheck_any t.k t.n t.s u htw.text
          generalize chk t.k t.n t.s = ck at hc2 HC HCV
          clear hT
          go_wp2_with fail
          refine Calls.mono (HC.out _) ?_
          rintro e w2 ⟨rfl, b2⟩
          have hsz2 : w.heap.size + 1 ≤ wr.heap.size := by omega
          have b2' : Below (w.heap.size + 1) w1 w2 := (belq.alloc hsz2 (.cells #[.int .i8 t.k, .int .i64 t.n, .string t.s] 47)).trans (b2.mono (by simp; omega))
          have b3' : Below w.heap.size w w2 := b1'.trans (b2'.mono (by omega))
          clear b2 d1
          rcases hc2 with rfl | rfl
          · have HO : Hid _ := HY.out HCV.out
            go_wp2
            go_roundw
            case rel => exact ⟨k + 1, by omega, by go_num, b2', HO⟩
            case measure => simp [intOf]; omega
          · have HF : Hid (fb = false) := HN.out HCV.out
            go_wp2
            go_ret
            exact ⟨(by rw [HF.out]; rfl), b3'⟩
        · obtain rfl : k = vs.length := by omega
          have HF : Hid (fb = true) := by show fb = true; rw [HB.out, ← HS.out, List.take_length]
          go_wp2
          go_ret
          exact ⟨(by rw [HF.out]; rfl), bel⟩
    · have h24' : (24 : Int) < (vs.length : Int) := by omega
      have HF : Hid (fb = false) := by show fb = false; rw [HA.out, decide_eq_false h24]; simp
      go_wp2
      go_ret
      exact ⟨(by rw [HF.out]; rfl), b1'⟩
set_option maxHeartbeats 1600000 in
theorem isFact_any (y : XF) (w : World) (hF : FIs w y) :
    Calls Tryd.prog 12 #[y.val] w fun e w' => e = .returned (.bool (factB y)) ∧ Below w.heap.size w w' := by
  have HA : Hid (factB y = (nameB y.pr && (decide (y.vs.length ≤ 24) && y.vs.all okV))) := rfl
  obtain ⟨fb, hfb⟩ : ∃ fb, factB y = fb := ⟨_, rfl⟩
  rw [hfb] at HA ⊢
  obtain ⟨pr, vs, a, c⟩ := y
  have hpb := hF.pb
  have hll := hF.ln
  have hwf := hF.vs.wf
  obtain ⟨a1, c1, e1, hc1, hc2, hat⟩ := hF.vs.form
  dsimp only at HA hpb hll hwf e1 hc1 hc2 hat
  cases e1
  unfold XF.val
  dsimp only
  have BA := (Below.refl w.heap.size w).alloc (Nat.le_refl _) (.cells #[.string pr, .slice a vs.length c] 31)
  have c1 : (w.alloc (.cells #[.string pr, .slice a vs.length c] 31)).cell? ⟨w.heap.size, 1, none⟩ = some (.slice a vs.length c) := by go_simp
  have HAT : Hid _ := hat
  have HWF : Hid _ := hwf
  clear hF hat hwf hfb hc1 hc2
  go_enter Tryd.func12, Tryd.ntmps12
  go_wp2_with fail
  refine (rName_any pr _ hpb).mono ?_
  rintro e w1 ⟨rfl, hw1⟩
  have b1 : Below (w.alloc (.cells #[.string pr, .slice a vs.length c] 31)).heap.size (w.alloc (.cells #[.string pr, .slice a vs.length c] 31)) w1 := by rw [hw1]; exact Below.refl _ _
  clear hw1
  have b1' : Below w.heap.size w w1 := BA.trans (b1.mono BA.size)
  have x1 : w1.cell? ⟨w.heap.size, 1, none⟩ = some (.slice a vs.length c) := by rw [b1.cell (p := ⟨w.heap.size, 1, none⟩) (by simp)]; exact c1
  have hs1 : w.heap.size < w1.heap.size := World.block_lt_of_cell? _ _ x1
  clear b1 c1 BA
  cases hn : nameB pr
  · have HF : Hid (fb = false) := by show fb = false; rw [HA.out, hn]; rfl
    go_wp2
    go_ret
    exact ⟨(by rw [HF.out]; rfl), b1'⟩
  · by_cases h24 : vs.length ≤ 24
    · have h24' : (vs.length : Int) ≤ 24 := by omega
      have HB : Hid (fb = vs.all okV) := by show fb = _; rw [HA.out, hn, decide_eq_true h24]; simp
      have HX1 : Hid _ := x1
      go_wp2
      go_loopw [3] (fun i wr => ∃ k : Nat, k ≤ vs.length ∧ i = .int .i64 k ∧ Below (w.heap.size + 1) w1 wr ∧ Hid ((vs.take k).all okV = true)) (fun i _ => vs.length - (intOf i).toNat)
      case atStart => exact ⟨0, Nat.zero_le _, rfl, Below.refl _ _, by simp [Hid]⟩
      case round =>
        obtain ⟨k, hk, rfl, belq, HS⟩ := hrel
        clear x1
        have d1 : wr.cell? ⟨w.heap.size, 1, none⟩ = some (.slice a vs.length c) := by rw [belq.cell (p := ⟨w.heap.size, 1, none⟩) (by simp)]; exact HX1.out
        have bel : Below w.heap.size w wr := b1'.trans (belq.mono (by omega))
        have hsz := belq.size
        by_cases hlt : k < vs.length
        · have hlt' : (k : Int) < (vs.length : Int) := by omega
          obtain ⟨g, off, rfl, hg, hT⟩ := HAT.out (by omega)
          obtain ⟨x0, x1, x2⟩ := (hT k hlt).below bel hg
          have htw : (atV vs k).wf := by rw [atV_eq hlt]; exact HWF.out _ (List.getElem_mem hlt)
          have HN : Hid (okV (atV vs k) = false → fb = false) := fun h => by rw [HB.out]; exact allV_not hlt h
          have HY : Hid (okV (atV vs k) = true → (vs.take (k + 1)).all okV = true) := fun h => by rw [allV_take hlt, HS.out, h]; rfl
          have HCV : Hid (okV (atV vs k) = (chk (atV vs k).k (atV vs k).n (atV vs k).s == 0)) := rfl
          generalize atV vs k = t at x0 x1 x2 htw HN HY HCV
          have hc2 := chk_ten t.k t.n t.s
          have HC : Hid (∀ u, Calls Tryd.prog 24 #[.agg #[.int .i8 t.k, .int .i64 t.n, .string t.s]] u fun e w' => e = .returned (.int .i64 (chk t.k t.n t.s)) ∧ Below u.heap.size u w') := fun u => rcheck_any t.k t.n t.s u htw.text
          generalize chk t.k t.n t.s = ck at hc2 HC HCV
          clear hT
          go_wp2_with fail
          refine Calls.mono (HC.out _) ?_
          rintro e w2 ⟨rfl, b2⟩
          have hsz2 : w.heap.size + 1 ≤ wr.heap.size := by omega
          have b2' : Below (w.heap.size + 1) w1 w2 := belq.trans (b2.mono hsz2)
          have b3' : Below w.heap.size w w2 := b1'.trans (b2'.mono (by omega))
          clear b2 d1
          rcases hc2 with rfl | rfl
          · have HO : Hid _ := HY.out HCV.out
            go_wp2
            go_roundw
            case rel => exact ⟨k + 1, by omega, by go_num, b2', HO⟩
            case measure => simp [intOf]; omega
          · have HF : Hid (fb = false) := HN.out HCV.out
            go_wp2
            go_ret
            exact ⟨(by rw [HF.out]; rfl), b3'⟩
        · obtain rfl : k = vs.length := by omega
          have HF : Hid (fb = true) := by show fb = true; rw [HB.out, ← HS.out, List.take_length]
          go_wp2
          go_ret
          exact ⟨(by rw [HF.out]; rfl), bel⟩
    · have h24' : (24 : Int) < (vs.length : Int) := by omega
      have HF : Hid (fb = false) := by show fb = false; rw [HA.out, decide_eq_false h24]; simp
      go_wp2
      go_ret
      exact ⟨(by rw [HF.out]; rfl), b1'⟩
end Go.Proofs.YtknoffjfhnljcaaDoor
