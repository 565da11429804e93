import Derived.Test.YtekjoccbbamehaaIxUnd
import Derived.BigQuiet
namespace Go.Proofs.Ytekjoccbbamehaa
open Go.RowKit Go.Maps
set_option linter.unusedVariables false
set_option linter.unusedSimpArgs false
attribute [local go_sem ↓] Go.wp_at_zero Go.wp_at_succ
attribute [-go_sem] loadVar

theorem load_symK {w : World} {a : Addr} {x : Int} (h : w.cell? a = some (.int .i32 x)) : (loadVar 32 a).run Try.prog w = .ok (.int .i32 x) w := by
  rw [loadVar.eq_1]
  go_simp
theorem makeSyms (u : World) : (Instr.makeSlice 97 (.int .i64 24) (.int .i64 24)).run Try.prog u = .ok (.slice (some ⟨u.heap.size, 0, none⟩) 24 24) (u.alloc (.cells (rowC zeroL) 32)) := by kernel_rfl
theorem arrSyms (b : Nat) (u : World) : (Instr.arrayAt 34 (.slice (some ⟨b, 0, none⟩) 24 24)).run Try.prog u = .ok (.pointer (some ⟨b, 0, none⟩)) u := by
  simp [Instr.arrayAt, run_underlying Try.underlying34, Result.andThen]
/-- a list of 24 columns of its own -/
def SymAt (w : World) (b : Nat) (r : List Int) : Prop := w.heap[b]? = some (.cells (rowC r) 32 (0, 0))
theorem SymAt.lt {w : World} {b : Nat} {r : List Int} (h : SymAt w b r) : b < w.heap.size := (Array.getElem?_eq_some_iff.1 h).1
theorem SymAt.cell {w : World} {b : Nat} {r : List Int} (h : SymAt w b r) (hl : r.length = 24) {k : Nat} (hk : k < 24) : w.cell? ⟨b, k, none⟩ = some (.int .i32 (r.getD k 0)) := by
  have h1 : w.heap[b]? = some (.cells (rowC r) 32 (0, 0)) := h
  have h2 : k < r.length := by omega
  simp [World.cell?, h1, rowC, cellI, List.getD, List.getElem?_eq_getElem h2]
theorem SymAt.frozen {w : World} {b : Nat} {r : List Int} (h : SymAt w b r) (k : Nat) : w.frozen? ⟨b, k, none⟩ = false := by
  have h1 : w.heap[b]? = some (.cells (rowC r) 32 (0, 0)) := h
  simp [World.frozen?, h1]
theorem SymAt.set {w : World} {b : Nat} {r : List Int} (h : SymAt w b r) (k : Nat) (x : Int) : SymAt (w.setCell ⟨b, k, none⟩ (.int .i32 x)) b (r.set k x) := by
  have h1 : w.heap[b]? = some (.cells (rowC r) 32 (0, 0)) := h
  have h2 : b < w.heap.size := SymAt.lt h
  unfold SymAt
  simp [World.setCell, h1, rowC, List.map_set, cellI, Array.getElem?_modify]
theorem SymAt.load {w : World} {b : Nat} {r : List Int} (h : SymAt w b r) (hl : r.length = 24) : (loadVar 34 ⟨b, 0, none⟩).run Try.prog w = .ok (rowV r) w :=
  run_loadVar_mid _ _ 0 34 (r.map cellI) _ (fun j v hj => by
    rw [List.getElem?_map] at hj
    obtain ⟨x, hx, rfl⟩ := Option.map_eq_some_iff.1 hj
    have hj' := (List.getElem?_eq_some_iff.1 hx).1
    have := h.cell hl (k := j) (by omega)
    rw [Nat.zero_add, this]
    simp [cellI, List.getD, hx]) Try.underlying34 rfl (by rw [List.length_map, hl]; kernel_rfl)
set_option maxHeartbeats 3200000 in
set_option maxRecDepth 100000 in
theorem key_any (m : Int) (r : List Int) (hl : r.length = 24) (b : Nat) (w : World) (hr : RowAt w b r) : Calls Try.prog 36 #[.int .u32 m, .pointer (some ⟨b, 0, none⟩)] w fun e w' => e = .returned (rowV (underL m r)) ∧ Below w.heap.size w w' := by
  have hzc : rowC zeroL = #[.int .i32 0, .int .i32 0, .int .i32 0, .int .i32 0, .int .i32 0, .int .i32 0, .int .i32 0, .int .i32 0, .int .i32 0, .int .i32 0, .int .i32 0, .int .i32 0, .int .i32 0, .int .i32 0, .int .i32 0, .int .i32 0, .int .i32 0, .int .i32 0, .int .i32 0, .int .i32 0, .int .i32 0, .int .i32 0, .int .i32 0, .int .i32 0] := rfl
  have hms := makeSyms (w.alloc (.cells (rowC zeroL) 34))
  obtain ⟨W, hW⟩ : ∃ W, W = (w.alloc (.cells (rowC zeroL) 34)).alloc (.cells (rowC zeroL) 32) := ⟨_, rfl⟩
  have HB : Hid (Below w.heap.size w W) := by
    show Below _ _ _
    rw [hW]
    exact ((Below.refl w.heap.size w).alloc (Nat.le_refl _) _).alloc (by simp) _
  have HA : Hid (RowAt W b r) := hr.below HB.out
  have HZ : Hid (RowAt W w.heap.size zeroL) := by
    show RowAt _ _ _
    rw [hW]
    exact (rowAt_new w zeroL).below ((Below.refl _ _).alloc (Nat.le_refl _) _)
  have HC : Hid (SymAt W (w.heap.size + 1) zeroL) := by
    have : SymAt W (w.alloc (.cells (rowC zeroL) 34)).heap.size zeroL := by rw [hW]; exact heap_alloc_new _ _
    simp only [World.size_alloc] at this
    exact this
  have hbw := hr.lt
  have hne : b ≠ w.heap.size + 1 := by omega
  have HNE := Lib.hid hne
  simp only [World.size_alloc] at hms
  rw [← hW, hzc] at hms
  clear hr hne hW hbw
  go_enter Try.func36, Try.ntmps36
  go_wp2
  go_loopw [10] (fun i wr => ∃ k : Nat, k ≤ 24 ∧ i = .int .i64 k ∧ Hid (SymAt wr (w.heap.size + 1) (keyN m r k) ∧ RowAt wr w.heap.size zeroL ∧ RowAt wr b r ∧ Below w.heap.size w wr)) (fun i _ => 24 - (intOf i).toNat)
  case atStart => exact ⟨0, by omega, rfl, HC.out, HZ.out, HA.out, HB.out⟩
  case round =>
    clear hms HA HZ HB HC
    obtain ⟨k, hk, rfl, HI⟩ := hrel
    obtain ⟨U, rfl⟩ : ∃ U, U = wr := ⟨_, rfl⟩
    by_cases hlt : k < 24
    · have hlt' : (k : Int) < 24 := by omega
      have hk0 : (0 : Int) ≤ (k : Int) := by omega
      obtain ⟨hc, hz, ha, hb⟩ := HI.out
      have hx : ∀ q, (loadVar 32 ⟨b, k, none⟩).run Try.prog (U.drewN q) = .ok (.int .i32 (r.getD k 0)) (U.drewN q) := fun q => load_symK (RowAt.cellU (w := U.drewN q) ha hl hlt)
      have hkl := keyN_len m r k
      have hcc := hc.cell hkl hlt
      have hfz := hc.frozen k
      generalize (keyN m r k).getD k 0 = y at hcc
      by_cases ho : offB m k = true
      · have HN : Hid (SymAt U (w.heap.size + 1) (keyN m r (k + 1)) ∧ RowAt U w.heap.size zeroL ∧ RowAt U b r ∧ Below w.heap.size w U) := ⟨by simp only [keyN, ho, if_true]; exact hc, hz, ha, hb⟩
        have ho' : (bits BinOp.and IntKind.u32 m (2 ^ k % 4294967296) != 0) = false := by
          unfold offB at ho
          rw [bne, ho]
          rfl
        clear hc hz ha hb HI hkl ho hcc hfz
        go_wp2_with fail
        go_quiet (fail)
        go_wp2
        go_roundw
        case rel => exact ⟨k + 1, by omega, by go_num, HN.out.1, HN.out.2.1, HN.out.2.2.1, below_drewV HN.out.2.2.2 _⟩
        case measure => simp [intOf]; omega
      · have ho' : (bits BinOp.and IntKind.u32 m (2 ^ k % 4294967296) != 0) = true := by
          unfold offB at ho
          rw [bne, Bool.eq_false_iff.2 ho]
          rfl
        have HN : Hid (∀ q, (SymAt ((U.drewN q).setCell ⟨w.heap.size + 1, k, none⟩ (.int .i32 (r.getD k 0))) (w.heap.size + 1) (keyN m r (k + 1)) ∧ RowAt ((U.drewN q).setCell ⟨w.heap.size + 1, k, none⟩ (.int .i32 (r.getD k 0))) w.heap.size zeroL ∧ RowAt ((U.drewN q).setCell ⟨w.heap.size + 1, k, none⟩ (.int .i32 (r.getD k 0))) b r ∧ Below w.heap.size w ((U.drewN q).setCell ⟨w.heap.size + 1, k, none⟩ (.int .i32 (r.getD k 0))))) := fun q =>
          ⟨by simp only [keyN, ho, if_false]; exact SymAt.set (w := U.drewN q) hc k _, (heap_setCell_other _ _ _ _ (by show w.heap.size ≠ w.heap.size + 1; omega)).trans hz, (heap_setCell_other _ _ _ _ HNE.out).trans ha, (below_drewV hb q).setCell (p := ⟨w.heap.size + 1, k, none⟩) (by show w.heap.size ≤ w.heap.size + 1; omega) _⟩
        generalize r.getD k 0 = x at hx HN
        clear hc hz ha hb HI hkl ho
        go_wp2_with fail
        go_quiet (fail)
        go_wp2
        go_roundw
        case rel => exact ⟨k + 1, by omega, by go_num, HN.out _⟩
        case measure => simp [intOf]; omega
    · obtain rfl : k = 24 := by omega
      obtain ⟨hc, hz, ha, hb⟩ := HI.out
      rw [keyN_under m r hl] at hc
      have hul : (underL m r).length = 24 := by rw [underL_len]; exact hl
      have hld := hc.load hul
      have harr := arrSyms (w.heap.size + 1) U
      generalize hk' : underL m r = r' at hc hul hld ⊢
      have HKU := Lib.hid hk'
      clear hk' HI
      have HZ' : Hid (U.heap[w.heap.size]? = some (.cells #[.int .i32 0, .int .i32 0, .int .i32 0, .int .i32 0, .int .i32 0, .int .i32 0, .int .i32 0, .int .i32 0, .int .i32 0, .int .i32 0, .int .i32 0, .int .i32 0, .int .i32 0, .int .i32 0, .int .i32 0, .int .i32 0, .int .i32 0, .int .i32 0, .int .i32 0, .int .i32 0, .int .i32 0, .int .i32 0, .int .i32 0, .int .i32 0] 34 (0, 0))) := hz
      unfold rowV at hld
      clear hz hc ha
      go_wp2_with (refine wpList_storeRow _ rfl (.tmp 4) (.tmp 28) 34 rfl w.heap.size #[.int .i32 0, .int .i32 0, .int .i32 0, .int .i32 0, .int .i32 0, .int .i32 0, .int .i32 0, .int .i32 0, .int .i32 0, .int .i32 0, .int .i32 0, .int .i32 0, .int .i32 0, .int .i32 0, .int .i32 0, .int .i32 0, .int .i32 0, .int .i32 0, .int .i32 0, .int .i32 0, .int .i32 0, .int .i32 0, .int .i32 0, .int .i32 0] (List.map cellI r').toArray rfl rfl HZ'.out (by simp [infoRow, hul]) (by simp [hul]) (by simp [cellI, Value.oneCell']) ?_)
      have HF : RowAt (U.setRow w.heap.size (List.map cellI r').toArray) w.heap.size r' := setRow_heap U w.heap.size _ _ _ (0, 0) HZ'.out
      refine bodyPost_ret (rl_results Try.results36 (v := rowV r') rfl (run_loadRow HF hul)) rfl ⟨by rw [HKU.out], ?_⟩
      exact hb.trans ⟨rfl, rfl, rfl, by simp, fun k hk => setRow_other U w.heap.size k _ (by omega)⟩
end Go.Proofs.Ytekjoccbbamehaa
