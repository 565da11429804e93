import Derived.Test.YtfkggabdjcabcaaRelTurned
namespace Go.Proofs.Ytfkggabdjcabcaa
open Go.RowKit Go.Maps
set_option linter.unusedVariables false
set_option linter.unusedSimpArgs false
attribute [local go_sem ↓] Go.wp_at_zero Go.wp_at_succ

/-- a mask that leaves a column out -/
def offB (m : Int) (k : Nat) : Bool := bits BinOp.and IntKind.u32 m (2 ^ k % 4294967296) == 0
/-- the first n columns under a mask -/
def underN (m : Int) (r : List Int) : Nat → List Int
  | 0 => r
  | k + 1 => if offB m k = true then (underN m r k).set k 0 else underN m r k
def underL (m : Int) (r : List Int) : List Int := underN m r 24
theorem underN_len (m : Int) (r : List Int) : ∀ n, (underN m r n).length = r.length
  | 0 => rfl
  | n + 1 => by
    unfold underN
    split
    · rw [List.length_set]; exact underN_len m r n
    · exact underN_len m r n
theorem underN_at (m : Int) (r : List Int) (i : Nat) : ∀ n, (underN m r n)[i]? = if i < n ∧ offB m i = true then r[i]?.map (fun _ => 0) else r[i]?
  | 0 => by simp [underN]
  | n + 1 => by
    unfold underN
    by_cases h : offB m n = true
    · rw [if_pos h, List.getElem?_set]
      by_cases e : n = i
      · subst e
        have hl := underN_len m r n
        simp only [if_true, h, and_true, hl, Nat.lt_succ_self]
        by_cases hr : n < r.length
        · simp [hr]
        · simp [hr]
      · rw [if_neg e, underN_at m r i n]
        have : (i < n + 1 ∧ offB m i = true) ↔ (i < n ∧ offB m i = true) := ⟨fun ⟨a, b⟩ => ⟨by omega, b⟩, fun ⟨a, b⟩ => ⟨by omega, b⟩⟩
        simp only [this]
    · rw [if_neg h, underN_at m r i n]
      have : (i < n + 1 ∧ offB m i = true) ↔ (i < n ∧ offB m i = true) := ⟨fun ⟨a, b⟩ => ⟨by
        rcases Nat.lt_succ_iff_lt_or_eq.1 a with a | a
        · exact a
        · subst a; exact absurd b h, b⟩, fun ⟨a, b⟩ => ⟨by omega, b⟩⟩
      simp only [this]
/-- two rows are one under a mask -/
theorem underL_eq {m : Int} {x y : List Int} (hx : x.length = 24) (hy : y.length = 24) : underL m y = underL m x ↔ ∀ i, i < 24 → offB m i = true ∨ y[i]? = x[i]? := by
  unfold underL
  constructor
  · intro h i hi
    have h1 := congrArg (fun l => l[i]?) h
    simp only [underN_at] at h1
    by_cases ho : offB m i = true
    · exact .inl ho
    · simp only [hi, ho, and_false, if_false] at h1
      exact .inr h1
  · intro h
    apply List.ext_getElem?
    intro i
    rw [underN_at, underN_at]
    by_cases hi : i < 24
    · rcases h i hi with ho | he
      · simp only [hi, ho, and_self, if_true]
        rw [List.getElem?_eq_getElem (by omega), List.getElem?_eq_getElem (by omega)]
        rfl
      · rw [he]
    · rw [if_neg (fun e => hi e.1), if_neg (fun e => hi e.1), List.getElem?_eq_none (by omega), List.getElem?_eq_none (by omega)]
theorem underL_len (m : Int) (r : List Int) : (underL m r).length = r.length := underN_len m r 24
attribute [-go_sem] loadVar
theorem RowAt.cellU {w : World} {b : Nat} {r : List Int} (h : RowAt w b r) (hl : r.length = 24) {k : Nat} (hk : k < 24) : w.cell? ⟨b, k, none⟩ = some (.int .i32 (r.getD k 0)) := by
  have h1 : w.heap[b]? = some (.cells (rowC r) 27 (0, 0)) := h
  have h2 : k < r.length := by omega
  simp [World.cell?, h1, rowC, cellI, List.getD, List.getElem?_eq_getElem h2]
theorem RowAt.frozenU {w : World} {b : Nat} {r : List Int} (h : RowAt w b r) (k : Nat) : w.frozen? ⟨b, k, none⟩ = false := by
  have h1 : w.heap[b]? = some (.cells (rowC r) 27 (0, 0)) := h
  simp [World.frozen?, h1]
theorem RowAt.setU {w : World} {b : Nat} {r : List Int} (h : RowAt w b r) (k : Nat) (x : Int) : RowAt (w.setCell ⟨b, k, none⟩ (.int .i32 x)) b (r.set k x) := by
  have h1 : w.heap[b]? = some (.cells (rowC r) 27 (0, 0)) := h
  have h2 : b < w.heap.size := RowAt.lt h
  unfold RowAt
  simp [World.setCell, h1, rowC, List.map_set, cellI, Array.getElem?_modify]
set_option maxHeartbeats 1600000 in
set_option maxRecDepth 100000 in
theorem under_is (m : Int) (r : List Int) (hl : r.length = 24) (w : World) : Calls Try.prog 18 #[.int .u32 m, rowV r] w fun e w' => e = .returned (rowV (underL m r)) ∧ Below w.heap.size w w' := by
  have HA : Hid (RowAt ((w.alloc (.cells (rowC r) 27)).alloc (.cells (rowC zeroL) 27)) w.heap.size r) := (rowAt_new w r).below ((Below.refl _ _).alloc (Nat.le_refl _) _)
  have HZ : Hid (RowAt ((w.alloc (.cells (rowC r) 27)).alloc (.cells (rowC zeroL) 27)) (w.heap.size + 1) zeroL) := by
    have := rowAt_new (w.alloc (.cells (rowC r) 27)) zeroL
    simp only [World.size_alloc] at this
    exact this
  have HB := Lib.hid (((Below.refl w.heap.size w).alloc (Nat.le_refl _) (.cells (rowC r) 27)).alloc (by simp) (.cells (rowC zeroL) 27))
  have hzc : rowC zeroL = #[.int .i32 0, .int .i32 0, .int .i32 0, .int .i32 0, .int .i32 0, .int .i32 0, .int .i32 0, .int .i32 0, .int .i32 0, .int .i32 0, .int .i32 0, .int .i32 0, .int .i32 0, .int .i32 0, .int .i32 0, .int .i32 0, .int .i32 0, .int .i32 0, .int .i32 0, .int .i32 0, .int .i32 0, .int .i32 0, .int .i32 0, .int .i32 0] := rfl
  rw [hzc] at HA HZ HB
  unfold rowV
  go_enter Try.func18, Try.ntmps18
  go_upto_region 1 with fail
  generalize (w.alloc (.cells (rowC r) 27)).alloc _ = W at HA HZ HB ⊢
  clear hzc
  go_wp2
  go_loopw [6] (fun i wr => ∃ k : Nat, k ≤ 24 ∧ i = .int .i64 k ∧ Hid (RowAt wr w.heap.size (underN m r k) ∧ RowAt wr (w.heap.size + 1) zeroL ∧ Below w.heap.size w wr)) (fun i _ => 24 - (intOf i).toNat)
  case atStart => exact ⟨0, by omega, rfl, HA.out, HZ.out, HB.out⟩
  case round =>
    obtain ⟨k, hk, rfl, HI⟩ := hrel
    clear HA HZ HB
    by_cases hlt : k < 24
    · have hlt' : (k : Int) < 24 := by omega
      have hk0 : (0 : Int) ≤ (k : Int) := by omega
      obtain ⟨ha, hz, hb⟩ := HI.out
      have hl' := underN_len m r k
      rw [hl] at hl'
      have hc := ha.cellU hl' hlt
      have hfz := ha.frozenU k
      generalize (underN m r k).getD k 0 = x at hc
      by_cases ho : offB m k = true
      · have HN : Hid (RowAt (wr.setCell ⟨w.heap.size, k, none⟩ (.int .i32 0)) w.heap.size (underN m r (k + 1)) ∧ RowAt (wr.setCell ⟨w.heap.size, k, none⟩ (.int .i32 0)) (w.heap.size + 1) zeroL ∧ Below w.heap.size w (wr.setCell ⟨w.heap.size, k, none⟩ (.int .i32 0))) :=
          ⟨by simp only [underN, ho, if_true]; exact ha.setU k 0, (heap_setCell_other _ _ _ _ (by show w.heap.size + 1 ≠ w.heap.size; omega)).trans hz, hb.setCell (p := ⟨w.heap.size, k, none⟩) (Nat.le_refl _) _⟩
        unfold offB at ho
        clear ha hz hb HI hl'
        go_wp2
        go_roundw
        case rel => exact ⟨k + 1, by omega, by go_num, HN⟩
        case measure => simp [intOf]; omega
      · have HN : Hid (RowAt wr w.heap.size (underN m r (k + 1)) ∧ RowAt wr (w.heap.size + 1) zeroL ∧ Below w.heap.size w wr) :=
          ⟨by simp only [underN, ho, if_false]; exact ha, hz, hb⟩
        have ho' := Bool.eq_false_iff.2 ho
        unfold offB at ho'
        clear ha hz hb HI hl' ho
        go_wp2
        go_roundw
        case rel => exact ⟨k + 1, by omega, by go_num, HN⟩
        case measure => simp [intOf]; omega
    · obtain rfl : k = 24 := by omega
      have hu : underN m r 24 = underL m r := rfl
      obtain ⟨ha, hz, hb⟩ := HI.out
      have hl' := underN_len m r 24
      rw [hl] at hl'
      rw [hu] at ha hl'
      clear hu
      generalize hr' : underL m r = r' at ha hl' ⊢
      have HRU := Lib.hid hr'
      clear hr'
      have hld := run_loadRow ha hl'
      have HZ := Lib.hid hz
      have HB := Lib.hid hb
      clear HI ha hz hb
      unfold rowV at hld
      go_wp2_with (refine wpList_storeRow _ rfl (.tmp 4) (.tmp 17) 27 rfl (w.heap.size + 1) (rowC zeroL) (List.map cellI r').toArray rfl rfl HZ.out (by simp only [List.size_toArray, List.length_map, hl']; exact infoRow) (by simp [hl', rowC]; decide) (by simp [cellI, Value.oneCell']) ?_)
      have HF : RowAt (wr.setRow (w.heap.size + 1) (List.map cellI r').toArray) (w.heap.size + 1) r' := setRow_heap wr (w.heap.size + 1) _ _ _ (0, 0) HZ.out
      refine bodyPost_ret (rl_results Try.results18 (b := w.heap.size + 1) (v := rowV r') rfl (run_loadRow HF hl')) rfl ⟨by rw [HRU.out]; rfl, ?_⟩
      exact HB.out.trans ⟨rfl, rfl, rfl, by simp, fun k hk => setRow_other wr (w.heap.size + 1) k _ (by omega)⟩
end Go.Proofs.Ytfkggabdjcabcaa
