import Derived.Test.YtlnhnpfgmiffpaaRpNoRange
import Derived.Test.YtlnhnpfgmiffpaaG9
namespace Go.Proofs.Ytlnhnpfgmiffpaa
open Go.RowKit Go.Maps Go.Shelf
set_option linter.unusedVariables false
set_option linter.unusedSimpArgs false
attribute [local go_sem ↓] Go.wp_at_zero Go.wp_at_succ

theorem run_loadRel {w : World} {a : Addr} {v : Value} (h : w.cell? a = some v) : (loadVar 24 a).run Try.prog w = .ok v w := by
  simp [loadVar, go_sem, h]
theorem run_loadRef {w : World} {a : Addr} {v : Value} (h : w.cell? a = some v) : (loadVar 25 a).run Try.prog w = .ok v w := by
  simp [loadVar, go_sem, h]
theorem run_loadMask {w : World} {a : Addr} {v : Value} (h : w.cell? a = some v) : (loadVar 37 a).run Try.prog w = .ok v w := by
  simp [loadVar, go_sem, h]
theorem run_loadInts {w : World} {a : Addr} {v : Value} (h : w.cell? a = some v) : (loadVar 65 a).run Try.prog w = .ok v w := by
  simp [loadVar, go_sem, h]
theorem run_loadNums {w : World} {a : Addr} {v : Value} (h : w.cell? a = some v) : (loadVar 69 a).run Try.prog w = .ok v w := by
  simp [loadVar, go_sem, h]
theorem run_loadSeq {w : World} {a : Addr} {v : Value} (h : w.cell? a = some v) : (loadVar 27 a).run Try.prog w = .ok v w := by
  simp [loadVar, go_sem, h]
theorem run_loadBool {w : World} {a : Addr} {v : Value} (h : w.cell? a = some v) : (loadVar 4 a).run Try.prog w = .ok v w := by
  simp [loadVar, go_sem, h]
attribute [-go_sem] loadVar
/-- a range over a function that tells nothing -/
theorem wpIn_rangeNone {F : Fence} {n : Nat} {P : Program} {g : Operand} {ps : Array Tmp} {assign body : Code} {Q : Exit → Act → World → Prop} {a : Act} {w : World}
    (hro : F.round = none) (h1 : 1 ≤ n) {gf : Nat} {lb : Array Value} (hg : a.eval g = .func (.func gf) #[] lb) (hFg : F.fn gf) (eg : ∀ args w, (callFunc gf args).run P w = .ok (.enter gf args) w)
    (hcall : ∀ (l : Nat) (W : World), Below w.heap.size w W → CallsIn F (n - 1) P gf (#[.func (.yield l) #[] #[]] ++ lb) W fun e W' => (∃ v, e = .returned v) ∧ W' = W)
    (hdone : ∀ (D : Nat) (W : World), w.heap.size ≤ D → Below w.heap.size w W → W.heap[D]? = some (.deferred (some [])) → Q .normal { a with defers := { target := .collected D, args := #[] } :: a.defers } W) :
    (Code.rangeFunc g ps assign body).wpIn F n P Q a w := by
  refine wpIn_rangeTells hro h1 hg hFg eg (encs := fun _ => Array.replicate ps.size undef) (Kp := fun _ _ => True) (N := 0) (w0 := w) ?_ (fun _ _ => trivial) (fun _ _ _ _ _ _ _ _ => trivial) (Below.refl _ _) (fun _ => by simp)
    (fun _ W => Below w.heap.size w W) (fun _ _ _ => False) (ownFrom_below (Nat.le_refl _) (Nat.le_refl _)) (fun _ _ _ _ _ hs _ _ => hs) (Below.refl _ _) (fun _ _ _ => True) (fun _ _ _ _ _ _ _ _ _ => trivial)
    (fun _ _ _ _ hk => absurd hk (Nat.not_lt_zero _)) (fun _ _ _ _ hk => absurd hk (Nat.not_lt_zero _)) (fun D W hD hb hd => hdone D W hD hb hd) (fun _ _ _ _ _ _ hf => hf.elim)
  intro l J Jx W hW _ _ _ hJ
  refine (hcall l W hW).mono ?_
  rintro e W' ⟨he, rfl⟩
  exact ⟨he, .inl hJ⟩
set_option maxHeartbeats 1600000 in
set_option maxRecDepth 100000 in
theorem range1_no {w : World} {b0 b1 b2 : Nat} {p : Value} (hc : w.cell? ⟨b0, 0, none⟩ = some p) (h : NoRel w p) (l : Nat) :
    Calls Try.prog 51 (#[.func (.yield l) #[] #[]] ++ #[.pointer (some ⟨b0, 0, none⟩), .pointer (some ⟨b1, 0, none⟩), .pointer (some ⟨b2, 0, none⟩)]) w fun e w' => (∃ v, e = .returned v) ∧ w' = w := by
  have hp := h.form
  have HT := Lib.hid (there_no h)
  have hl := run_loadRel hc
  clear h hc
  obtain rfl | ⟨t, rfl⟩ := hp
  all_goals
    go_enter Try.func51, Try.ntmps51
    go_wp2_with fail
    refine HT.out.mono ?_
    rintro e w1 ⟨rfl, rfl⟩
    go_wp2
    exact bodyPost_ret (results_none Try.results51 _ _ _) rfl ⟨⟨_, rfl⟩, rfl⟩
/-- the same, as a range asks it -/
theorem SeqNo.tells {w : World} {sq : Value} (h : SeqNo w sq) : ∃ lb, sq = .func (.func 51) #[] lb ∧
    ∀ (n l : Nat) (W : World), Below w.heap.size w W → CallsIn Fence.wide n Try.prog 51 (#[.func (.yield l) #[] #[]] ++ lb) W fun e W' => (∃ v, e = .returned v) ∧ W' = W := by
  obtain ⟨b0, b1, b2, p, h1, h2, h3, h4⟩ := h
  refine ⟨_, h1, fun n l W hW => callsIn_wide.2 (range1_no (p := p) ?_ (h4.below hW) l)⟩
  rw [hW.cell (by exact h3)]
  exact h2
theorem infoRowZ : ∃ z, (Try.prog.info? 40).map (fun i => (i.zero, i.size, i.bytes)) = some (some z, 24, 96) := ⟨.agg (rowC zeroL), by kernel_rfl⟩
theorem run_make_rows0 (w : World) : (Instr.makeSlice 49 (.int .i64 0) (.int .i64 0)).run Try.prog w = .ok (.slice (some ⟨w.heap.size, 0, none⟩) 0 0) (w.alloc (.cells #[] 40)) := by
  obtain ⟨z, hz⟩ := infoRowZ
  obtain ⟨i, hi, h1, h2, h3⟩ := info_parts hz
  have := run_make (P := Try.prog) w 49 40 i _ Try.underlying49 hi h1 .i64 .i64 0 0 (by omega) (by omega) (by rw [h3]; omega) (by omega)
  rw [this]
  simp [madeCells, Array.range_zero']
set_option maxHeartbeats 1600000 in
set_option maxRecDepth 100000 in
theorem rsorted_nil (w : World) : Calls Try.prog 35 #[.pointer none] w fun e w' => (∃ a, e = .returned (.slice a 0 0)) ∧ Below w.heap.size w w' := by
  go_enter Try.func35, Try.ntmps35
  go_wp2_with fail
  refine (rlen_nil _).mono ?_
  rintro e w1 ⟨rfl, rfl⟩
  have hmk := run_make_rows0 w1
  go_wp2_with fail
  go_loopw [4] (fun i wr => i = .int .i64 0 ∧ wr = w1.alloc (.cells #[] 40)) (fun _ _ => 0)
  case atStart => exact ⟨rfl, rfl⟩
  case round =>
    obtain ⟨rfl, hwr⟩ := hrel
    subst hwr
    go_wp2_with fail
    refine (rlen_nil _).mono ?_
    rintro e w2 ⟨rfl, rfl⟩
    go_wp2
    go_ret
    exact ⟨⟨_, rfl⟩, (Below.refl _ _).alloc (Nat.le_refl _) _⟩
theorem RowAt.cell {w : World} {b : Nat} {r : List Int} (h : RowAt w b r) (hl : r.length = 24) {k : Nat} (hk : k < 24) : w.cell? ⟨b, k, none⟩ = some (.int .i32 (r.getD k 0)) := by
  have h1 : w.heap[b]? = some (.cells (rowC r) 40 (0, 0)) := h
  have h2 : k < r.length := by omega
  simp [World.cell?, h1, rowC, cellI, List.getD, List.getElem?_eq_getElem h2]
theorem RowAt.frozen {w : World} {b : Nat} {r : List Int} (h : RowAt w b r) (k : Nat) : w.frozen? ⟨b, k, none⟩ = false := by
  have h1 : w.heap[b]? = some (.cells (rowC r) 40 (0, 0)) := h
  simp [World.frozen?, h1]
theorem RowAt.set {w : World} {b : Nat} {r : List Int} (h : RowAt w b r) (k : Nat) (x : Int) : RowAt (w.setCell ⟨b, k, none⟩ (.int .i32 x)) b (r.set k x) := by
  have h1 : w.heap[b]? = some (.cells (rowC r) 40 (0, 0)) := h
  have h2 : b < w.heap.size := RowAt.lt h
  unfold RowAt
  simp [World.setCell, h1, rowC, List.map_set, cellI, Array.getElem?_modify]
set_option maxHeartbeats 1600000 in
set_option maxRecDepth 100000 in
theorem under_any (m : Int) (r : List Int) (hl : r.length = 24) (w : World) : Calls Try.prog 45 #[.int .u32 m, rowV r] w fun e w' => (∃ r' : List Int, r'.length = 24 ∧ e = .returned (rowV r')) ∧ Below w.heap.size w w' := by
  have HA : Hid (RowAt ((w.alloc (.cells (rowC r) 40)).alloc (.cells (rowC zeroL) 40)) w.heap.size r) := (rowAt_new w r).below ((Below.refl _ _).alloc (Nat.le_refl _) _)
  have HZ : Hid (RowAt ((w.alloc (.cells (rowC r) 40)).alloc (.cells (rowC zeroL) 40)) (w.heap.size + 1) zeroL) := by
    have := rowAt_new (w.alloc (.cells (rowC r) 40)) zeroL
    simp only [World.size_alloc] at this
    exact this
  have HB := Lib.hid (((Below.refl w.heap.size w).alloc (Nat.le_refl _) (.cells (rowC r) 40)).alloc (by simp) (.cells (rowC zeroL) 40))
  have hzc : rowC zeroL = #[.int .i32 0, .int .i32 0, .int .i32 0, .int .i32 0, .int .i32 0, .int .i32 0, .int .i32 0, .int .i32 0, .int .i32 0, .int .i32 0, .int .i32 0, .int .i32 0, .int .i32 0, .int .i32 0, .int .i32 0, .int .i32 0, .int .i32 0, .int .i32 0, .int .i32 0, .int .i32 0, .int .i32 0, .int .i32 0, .int .i32 0, .int .i32 0] := rfl
  rw [hzc] at HA HZ HB
  unfold rowV
  go_enter Try.func45, Try.ntmps45
  go_upto_region 1 with fail
  generalize (w.alloc (.cells (rowC r) 40)).alloc _ = W at HA HZ HB ⊢
  clear hzc
  go_wp2
  go_loopw [6] (fun i wr => ∃ k : Nat, k ≤ 24 ∧ i = .int .i64 k ∧ Hid (∃ r', r'.length = 24 ∧ RowAt wr w.heap.size r' ∧ RowAt wr (w.heap.size + 1) zeroL ∧ Below w.heap.size w wr)) (fun i _ => 24 - (intOf i).toNat)
  case atStart => exact ⟨0, by omega, rfl, r, hl, HA.out, HZ.out, HB.out⟩
  case round =>
    obtain ⟨k, hk, rfl, HI⟩ := hrel
    clear HA HZ HB
    by_cases hlt : k < 24
    · have hlt' : (k : Int) < 24 := by omega
      have hk0 : (0 : Int) ≤ (k : Int) := by omega
      obtain ⟨r', hl', ha, hz, hb⟩ := HI.out
      have hc := ha.cell hl' hlt
      have hfz := ha.frozen k
      have HN : Hid (∃ r2 : List Int, r2.length = 24 ∧ RowAt (wr.setCell ⟨w.heap.size, k, none⟩ (.int .i32 0)) w.heap.size r2 ∧ RowAt (wr.setCell ⟨w.heap.size, k, none⟩ (.int .i32 0)) (w.heap.size + 1) zeroL ∧ Below w.heap.size w (wr.setCell ⟨w.heap.size, k, none⟩ (.int .i32 0))) :=
        ⟨r'.set k 0, by simp [hl'], ha.set k 0, (heap_setCell_other _ _ _ _ (by show w.heap.size + 1 ≠ w.heap.size; omega)).trans hz, hb.setCell (p := ⟨w.heap.size, k, none⟩) (Nat.le_refl _) _⟩
      clear ha hz hb
      go_wp2
      all_goals go_roundw
      all_goals first
        | exact ⟨k + 1, by omega, by go_num, HN⟩
        | exact ⟨k + 1, by omega, by go_num, HI⟩
        | (simp [intOf]; omega)
    · obtain rfl : k = 24 := by omega
      obtain ⟨r', hl', ha, hz, hb⟩ := HI.out
      have hld := run_loadRow ha hl'
      have HZ := Lib.hid hz
      have HB := Lib.hid hb
      clear HI ha hz hb
      unfold rowV at hld
      go_wp2_with (refine wpList_storeRow _ rfl (.tmp 4) (.tmp 17) 40 rfl (w.heap.size + 1) (rowC zeroL) (List.map cellI r').toArray rfl rfl HZ.out (by simp only [List.size_toArray, List.length_map, hl']; exact infoRow) (by simp [hl', rowC]; decide) (by simp [cellI, Value.oneCell']) ?_)
      have HF : RowAt (wr.setRow (w.heap.size + 1) (List.map cellI r').toArray) (w.heap.size + 1) r' := setRow_heap wr (w.heap.size + 1) _ _ _ (0, 0) HZ.out
      refine bodyPost_ret (rl_results Try.results45 (b := w.heap.size + 1) (v := rowV r') rfl (run_loadRow HF hl')) rfl ⟨⟨r', hl', rfl⟩, ?_⟩
      exact HB.out.trans ⟨rfl, rfl, rfl, by simp, fun k hk => setRow_other wr (w.heap.size + 1) k _ (by omega)⟩
end Go.Proofs.Ytlnhnpfgmiffpaa
