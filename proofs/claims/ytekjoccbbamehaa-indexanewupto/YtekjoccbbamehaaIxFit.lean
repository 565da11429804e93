import Derived.Test.YtekjoccbbamehaaIxIs
namespace Go.Proofs.Ytekjoccbbamehaa
open Go.RowKit Go.Maps Go.ChangeMaps
set_option linter.unusedVariables false
set_option linter.unusedSimpArgs false
attribute [local go_sem ↓] Go.wp_at_zero Go.wp_at_succ
attribute [-go_sem] loadVar

/-! a row that fits -/
def upI (x : Int) : Int := if x < 0 then -1 - x else x
def fitN (x : List Int) : Nat → List Int
  | 0 => zeroL
  | k + 1 => (fitN x k).set k (upI (x.getD k 0))
def fitL (x : List Int) (n : Nat) : List Int := fitN x n
theorem fitN_len (x : List Int) : ∀ k, (fitN x k).length = 24
  | 0 => by simp [fitN, zeroL]
  | k + 1 => by rw [fitN, List.length_set]; exact fitN_len x k
theorem fitN_at (x : List Int) (i : Nat) (hi : i < 24) : ∀ k, (fitN x k)[i]? = some (if i < k then upI (x.getD i 0) else 0)
  | 0 => by
    rw [if_neg (Nat.not_lt_zero _)]
    show (List.replicate 24 (0 : Int))[i]? = _
    rw [List.getElem?_replicate, if_pos hi]
  | k + 1 => by
    have hl := fitN_len x k
    rw [fitN, List.getElem?_set]
    by_cases e : k = i
    · subst e
      simp [hl, hi]
    · rw [if_neg e, fitN_at x i hi k]
      have : (i < k + 1) ↔ (i < k) := by omega
      simp only [this]
theorem fitN_getD (x : List Int) (i : Nat) (hi : i < 24) (k : Nat) : (fitN x k).getD i 0 = if i < k then upI (x.getD i 0) else 0 := by
  rw [List.getD, fitN_at x i hi k]
  rfl
theorem upI_ok {x : Int} (h : (Lit.int .i32 x).wf = true) : 0 ≤ upI x ∧ (Lit.int .i32 (upI x)).wf = true := by
  simp [Lit.wf, IntKind.min, IntKind.max, IntKind.signed, IntKind.bits] at h ⊢
  unfold upI
  split <;> omega
theorem getD_wf {x : List Int} (h : RowOk x) (i : Nat) : (Lit.int .i32 (x.getD i 0)).wf = true := by
  by_cases hi : i < x.length
  · rw [List.getD, List.getElem?_eq_getElem hi]
    exact h.num _ (List.getElem_mem hi)
  · rw [List.getD, List.getElem?_eq_none (by omega)]
    decide
theorem fitL_ok {x : List Int} (h : RowOk x) (n : Nat) : RowOk (fitL x n) := by
  refine ⟨fitN_len x n, fun y hy => ?_⟩
  obtain ⟨i, hi, rfl⟩ := List.getElem_of_mem hy
  have hl : (fitL x n).length = 24 := fitN_len x n
  have e : (fitN x n)[i]? = some ((fitL x n)[i]) := List.getElem?_eq_getElem hi
  rw [fitN_at x i (by omega) n] at e
  have e' := Option.some.inj e
  rw [← e']
  split
  · exact (upI_ok (getD_wf h i)).2
  · decide
theorem fitL_fits {x : List Int} (h : RowOk x) (n : Nat) : fitB (fitL x n) (n : Int) = true := by
  unfold fitB
  rw [List.all_eq_true]
  intro i hi
  have hi' : i < 24 := List.mem_range.1 hi
  have e : (fitL x n).getD i 0 = if i < n then upI (x.getD i 0) else 0 := fitN_getD x i hi' n
  have h0 := (upI_ok (getD_wf h i)).1
  unfold fitAt
  rw [e]
  by_cases hn : i < n
  · rw [if_pos hn]
    have : (i : Int) < (n : Int) := by omega
    rw [decide_eq_true h0, decide_eq_true this]
    rfl
  · rw [if_neg hn]
    simp
set_option maxHeartbeats 3200000 in
set_option maxRecDepth 100000 in
theorem fit_any (x : List Int) (hx : RowOk x) (n : Nat) (hn : n ≤ 24) (w : World) : Calls Try.prog 22 #[rowV x, .int .i64 (n : Int)] w fun e w' => e = .returned (rowV (fitL x n)) ∧ Below w.heap.size w w' := by
  have hzc : rowC zeroL = #[.int .i32 0, .int .i32 0, .int .i32 0, .int .i32 0, .int .i32 0, .int .i32 0, .int .i32 0, .int .i32 0, .int .i32 0, .int .i32 0, .int .i32 0, .int .i32 0, .int .i32 0, .int .i32 0, .int .i32 0, .int .i32 0, .int .i32 0, .int .i32 0, .int .i32 0, .int .i32 0, .int .i32 0, .int .i32 0, .int .i32 0, .int .i32 0] := rfl
  have hl : x.length = 24 := hx.len
  have HX := Lib.hid hx
  obtain ⟨W, hW⟩ : ∃ W, W = ((w.alloc (.cells (rowC x) 34)).alloc (.cells (rowC zeroL) 34)).alloc (.cells (rowC zeroL) 34) := ⟨_, rfl⟩
  have HB : Hid (Below w.heap.size w W) := by
    show Below _ _ _
    rw [hW]
    exact (((Below.refl w.heap.size w).alloc (Nat.le_refl _) _).alloc (by simp) _).alloc (by simp; omega) _
  have HA : Hid (RowAt W w.heap.size x) := by
    show RowAt _ _ _
    rw [hW]
    exact (rowAt_new w x).below (((Below.refl _ _).alloc (Nat.le_refl _) _).alloc (by simp) _)
  have HZ : Hid (RowAt W (w.heap.size + 1) zeroL) := by
    have : RowAt W (w.alloc (.cells (rowC x) 34)).heap.size zeroL := by rw [hW]; exact (rowAt_new _ zeroL).below ((Below.refl _ _).alloc (Nat.le_refl _) _)
    simp only [World.size_alloc] at this
    exact this
  have HC : Hid (RowAt W (w.heap.size + 1 + 1) zeroL) := by
    have : RowAt W ((w.alloc (.cells (rowC x) 34)).alloc (.cells (rowC zeroL) 34)).heap.size zeroL := by rw [hW]; exact rowAt_new _ zeroL
    simp only [World.size_alloc] at this
    exact this
  rw [hzc] at hW
  clear hx
  unfold rowV
  go_enter Try.func22, Try.ntmps22
  go_wp2
  go_loopw [6] (fun i wr => ∃ k : Nat, k ≤ n ∧ i = .int .i64 k ∧ Hid (RowAt wr (w.heap.size + 1 + 1) (fitN x k) ∧ RowAt wr (w.heap.size + 1) zeroL ∧ RowAt wr w.heap.size x ∧ Below w.heap.size w wr)) (fun i _ => n - (intOf i).toNat)
  case atStart => exact ⟨0, by omega, rfl, hW ▸ HC.out, hW ▸ HZ.out, hW ▸ HA.out, hW ▸ HB.out⟩
  case round =>
    clear HA HZ HB HC hW
    obtain ⟨k, hk, rfl, HI⟩ := hrel
    obtain ⟨U, rfl⟩ : ∃ U, U = wr := ⟨_, rfl⟩
    by_cases hlt : k < n
    · have hlt' : (k : Int) < (n : Int) := by omega
      have hlt24 : (k : Int) < 24 := by omega
      have hk0 : (0 : Int) ≤ (k : Int) := by omega
      obtain ⟨hc, hz, ha, hb⟩ := HI.out
      have hx1 : (loadVar 32 ⟨w.heap.size, k, none⟩).run Try.prog U = .ok (.int .i32 (x.getD k 0)) U := load_symK (RowAt.cellU ha hl (by omega))
      have hkl := fitN_len x k
      have hcc := RowAt.cellU hc hkl (show k < 24 by omega)
      have hfz := RowAt.frozenU hc k
      have hwf := getD_wf HX.out k
      generalize hy : x.getD k 0 = y at hx1 hwf
      have hU1 := RowAt.setU hc k y
      have hld2 : (loadVar 32 ⟨w.heap.size + 1 + 1, k, none⟩).run Try.prog (U.setCell ⟨w.heap.size + 1 + 1, k, none⟩ (.int .i32 y)) = .ok (.int .i32 y) (U.setCell ⟨w.heap.size + 1 + 1, k, none⟩ (.int .i32 y)) := by
        have h3 := load_symK (RowAt.cellU hU1 (by rw [List.length_set]; exact hkl) (show k < 24 by omega))
        rw [show ((fitN x k).set k y).getD k 0 = y by rw [List.getD, List.getElem?_set_self (by omega)]; rfl] at h3
        exact h3
      have hfz2 := RowAt.frozenU hU1 k
      have hcc2 := RowAt.cellU hU1 (by rw [List.length_set]; exact hkl) (show k < 24 by omega)
      generalize (fitN x k).getD k 0 = y0 at hcc
      generalize ((fitN x k).set k y).getD k 0 = y1 at hcc2
      by_cases hneg : y < 0
      · have hsub : IntKind.i32.wrap (-1 - y) = -1 - y := by
          simp [Lit.wf, IntKind.min, IntKind.max, IntKind.signed, IntKind.bits] at hwf
          simp [IntKind.wrap, IntKind.signed, IntKind.bits]
          omega
        have HN : Hid (RowAt ((U.setCell ⟨w.heap.size + 1 + 1, k, none⟩ (.int .i32 y)).setCell ⟨w.heap.size + 1 + 1, k, none⟩ (.int .i32 (-1 - y))) (w.heap.size + 1 + 1) (fitN x (k + 1)) ∧ RowAt ((U.setCell ⟨w.heap.size + 1 + 1, k, none⟩ (.int .i32 y)).setCell ⟨w.heap.size + 1 + 1, k, none⟩ (.int .i32 (-1 - y))) (w.heap.size + 1) zeroL ∧ RowAt ((U.setCell ⟨w.heap.size + 1 + 1, k, none⟩ (.int .i32 y)).setCell ⟨w.heap.size + 1 + 1, k, none⟩ (.int .i32 (-1 - y))) w.heap.size x ∧ Below w.heap.size w ((U.setCell ⟨w.heap.size + 1 + 1, k, none⟩ (.int .i32 y)).setCell ⟨w.heap.size + 1 + 1, k, none⟩ (.int .i32 (-1 - y)))) :=
          ⟨by
            have h4 := RowAt.setU hU1 k (-1 - y)
            rw [List.set_set] at h4
            rw [fitN, hy, upI, if_pos hneg]
            exact h4, (heap_setCell_other _ _ _ _ (by show w.heap.size + 1 ≠ w.heap.size + 1 + 1; omega)).trans ((heap_setCell_other _ _ _ _ (by show w.heap.size + 1 ≠ w.heap.size + 1 + 1; omega)).trans hz), (heap_setCell_other _ _ _ _ (by show w.heap.size ≠ w.heap.size + 1 + 1; omega)).trans ((heap_setCell_other _ _ _ _ (by show w.heap.size ≠ w.heap.size + 1 + 1; omega)).trans ha), (hb.setCell (p := ⟨w.heap.size + 1 + 1, k, none⟩) (by show w.heap.size ≤ w.heap.size + 1 + 1; omega) _).setCell (p := ⟨w.heap.size + 1 + 1, k, none⟩) (by show w.heap.size ≤ w.heap.size + 1 + 1; omega) _⟩
        clear hc hz ha hb HI hkl hU1 hy hwf
        go_wp2
        go_roundw
        case rel => exact ⟨k + 1, by omega, by go_num, HN.out⟩
        case measure => simp [intOf]; omega
      · have HN : Hid (RowAt (U.setCell ⟨w.heap.size + 1 + 1, k, none⟩ (.int .i32 y)) (w.heap.size + 1 + 1) (fitN x (k + 1)) ∧ RowAt (U.setCell ⟨w.heap.size + 1 + 1, k, none⟩ (.int .i32 y)) (w.heap.size + 1) zeroL ∧ RowAt (U.setCell ⟨w.heap.size + 1 + 1, k, none⟩ (.int .i32 y)) w.heap.size x ∧ Below w.heap.size w (U.setCell ⟨w.heap.size + 1 + 1, k, none⟩ (.int .i32 y))) :=
          ⟨by
            rw [fitN, hy, upI, if_neg hneg]
            exact hU1, (heap_setCell_other _ _ _ _ (by show w.heap.size + 1 ≠ w.heap.size + 1 + 1; omega)).trans hz, (heap_setCell_other _ _ _ _ (by show w.heap.size ≠ w.heap.size + 1 + 1; omega)).trans ha, hb.setCell (p := ⟨w.heap.size + 1 + 1, k, none⟩) (by show w.heap.size ≤ w.heap.size + 1 + 1; omega) _⟩
        clear hc hz ha hb HI hkl hU1 hy hwf
        go_wp2
        go_roundw
        case rel => exact ⟨k + 1, by omega, by go_num, HN.out⟩
        case measure => simp [intOf]; omega
    · have hkn : k = n := by omega
      obtain ⟨hc, hz, ha, hb⟩ := HI.out
      have hul : (fitL x n).length = 24 := fitN_len x n
      have hld : (loadVar 34 ⟨w.heap.size + 1 + 1, 0, none⟩).run Try.prog U = .ok (rowV (fitL x n)) U := by
        have := run_loadRow hc (fitN_len x k)
        rw [hkn] at this
        exact this
      have hnl : ¬ ((k : Int) < (n : Int)) := by omega
      generalize hk' : fitL x n = r' at hul hld ⊢
      have HKU := Lib.hid hk'
      have HZ' : Hid (U.heap[w.heap.size + 1]? = some (.cells #[.int .i32 0, .int .i32 0, .int .i32 0, .int .i32 0, .int .i32 0, .int .i32 0, .int .i32 0, .int .i32 0, .int .i32 0, .int .i32 0, .int .i32 0, .int .i32 0, .int .i32 0, .int .i32 0, .int .i32 0, .int .i32 0, .int .i32 0, .int .i32 0, .int .i32 0, .int .i32 0, .int .i32 0, .int .i32 0, .int .i32 0, .int .i32 0] 34 (0, 0))) := hz
      unfold rowV at hld
      clear hz hc ha HI hk' hlt hkn hn hk
      by_cases h24 : (k : Int) < 24
      all_goals
        go_wp2_with (refine wpList_storeRow _ rfl (.tmp 4) (.tmp 31) 34 rfl (w.heap.size + 1) #[.int .i32 0, .int .i32 0, .int .i32 0, .int .i32 0, .int .i32 0, .int .i32 0, .int .i32 0, .int .i32 0, .int .i32 0, .int .i32 0, .int .i32 0, .int .i32 0, .int .i32 0, .int .i32 0, .int .i32 0, .int .i32 0, .int .i32 0, .int .i32 0, .int .i32 0, .int .i32 0, .int .i32 0, .int .i32 0, .int .i32 0, .int .i32 0] (List.map cellI r').toArray rfl rfl HZ'.out (by simp [infoRow, hul]) (by simp [hul]) (by simp [cellI, Value.oneCell']) ?_)
        have HF : RowAt (U.setRow (w.heap.size + 1) (List.map cellI r').toArray) (w.heap.size + 1) r' := setRow_heap U (w.heap.size + 1) _ _ _ (0, 0) HZ'.out
        refine bodyPost_ret (rl_results Try.results22 (v := rowV r') rfl (run_loadRow HF hul)) rfl ⟨by rw [HKU.out]; rfl, ?_⟩
        exact hb.trans ⟨rfl, rfl, rfl, by simp, fun k hk => setRow_other U (w.heap.size + 1) k _ (by omega)⟩
end Go.Proofs.Ytekjoccbbamehaa
