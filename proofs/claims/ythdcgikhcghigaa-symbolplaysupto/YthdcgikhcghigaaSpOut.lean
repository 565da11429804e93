import Derived.Test.YthdcgikhcghigaaSpVal
namespace Go.Proofs.Ythdcgikhcghigaa
open Go.RowKit Go.Maps Go.ChangeMaps
set_option linter.unusedVariables false
set_option linter.unusedSimpArgs false
attribute [local go_sem ↓] Go.wp_at_zero Go.wp_at_succ

theorem mapM_some {α β : Type} (f : α → Option β) : ∀ l : List α, (∀ x ∈ l, ∃ y, f x = some y) → ∃ ys, l.mapM f = some ys
  | [], _ => ⟨[], rfl⟩
  | x :: l, h => by
    obtain ⟨y, hy⟩ := h x List.mem_cons_self
    obtain ⟨ys, hys⟩ := mapM_some f l (fun z hz => h z (List.mem_cons_of_mem _ hz))
    exact ⟨y :: ys, by simp [List.mapM_cons, hy, hys]⟩

theorem rowFit : Try.prog.keyType 43 = true := by kernel_rfl
theorem cellsRow : Try.prog.cellsOf 43 = 24 := by kernel_rfl
theorem cellsSym : Try.prog.cellsOf 41 = 1 := by kernel_rfl
theorem rowWide : (match Try.prog.underlying 43 with | some (.array _ _) | some (.struct _) => true | _ => false) = true := by rw [Try.underlying43]

theorem keyOf_row (C : Array Value) (hs : C.size = 24) (h : ∀ i, i < 24 → ∃ z : Int, C[i]? = some (.int .i32 z) ∧ (Lit.int .i32 z).wf = true) : ∃ l, keyOf Try.prog 43 (.agg C) = some l := by
  have hf : (Value.agg C).formed Try.prog 43 = true := by simp [Value.formed, Try.underlying43, cellsRow, hs]
  have hl : ∃ L, Try.prog.keyLits (Try.prog.types.size + 1) 43 (Value.agg C).cells.toList = some L := by
    obtain ⟨f, hf⟩ := keyFuel
    rw [hf]
    have hm : ∃ ys, (List.range 24).mapM (fun i => Try.prog.keyLits (f + 1) 41 ((C.toList.drop (i * 1)).take 1)) = some ys := by
      refine mapM_some _ _ fun i hi => ?_
      obtain ⟨z, hz, hw⟩ := h i (by simpa using hi)
      have e : (C.toList.drop (i * 1)).take 1 = [.int .i32 z] := by
        have hlt : i < C.toList.length := by simp; rw [hs]; simpa using hi
        rw [Nat.mul_one, List.drop_eq_getElem_cons hlt]
        have : C.toList[i] = .int .i32 z := by
          have h2 : C.toList[i]? = some (.int .i32 z) := by simpa using hz
          rw [List.getElem?_eq_getElem hlt] at h2
          exact Option.some.inj h2
        rw [this]
        rfl
      rw [e]
      exact ⟨[.int .i32 z], by simp [Program.keyLits, Try.underlying41, hw]⟩
    obtain ⟨ys, hys⟩ := hm
    refine ⟨ys.flatten, ?_⟩
    have hcl : (Value.agg C).cells.toList = C.toList := rfl
    rw [hcl]
    unfold Program.keyLits
    rw [Try.underlying43]
    simp only [cellsRow, cellsSym]
    rw [if_pos (by simpa using hs), hys]
    rfl
  obtain ⟨L, hL⟩ := hl
  refine ⟨.string (keyBytes L), ?_⟩
  unfold keyOf
  rw [Try.underlying43]
  simp only [rowFit, hf, hL]
  rfl

theorem eql_row_self (C : Array Value) (hs : C.size = 24) (h : ∀ i, i < 24 → ∃ z : Int, C[i]? = some (.int .i32 z) ∧ (Lit.int .i32 z).wf = true) (W : World) : (binOp .eql 43 (.agg C) (.agg C)).run Try.prog W = .ok (.bool true) W := by
  obtain ⟨l, hl⟩ := keyOf_row C hs h
  obtain ⟨r, hr, hiff⟩ := run_equal_deep W (m := 3) (by omega) (k := 43) (P := Try.prog) (by kernel_rfl) rowWide hl hl
  have e : r = true := hiff.2 rfl
  subst e
  simp [binOp, run_underlying Try.underlying43, hr, Result.andThen]
/-- a row of numbers as an array -/
def rowC (ss : List Nat) : Array Value := ((List.range 24).map (rowN ss (fun _ => .int .i32 0))).toArray
theorem rowC_size (ss : List Nat) : (rowC ss).size = 24 := by simp [rowC]
theorem rowC_at (ss : List Nat) (i : Nat) (h : i < 24) : (rowC ss)[i]? = some (rowN ss (fun _ => .int .i32 0) i) := by simp [rowC, h]
theorem rowC_of {C : Array Value} {ss : List Nat} (h1 : C.size = 24) (h2 : ∀ i, i < 24 → C[i]? = some (rowN ss (fun _ => .int .i32 0) i)) : C = rowC ss := by
  apply Array.ext
  · rw [h1, rowC_size]
  · intro i hi hj
    have e1 := h2 i (by omega)
    have e2 := rowC_at ss i (by omega)
    rw [Array.getElem?_eq_getElem hi] at e1
    rw [Array.getElem?_eq_getElem hj] at e2
    exact (Option.some.inj e1).trans (Option.some.inj e2).symm
theorem rowC_nil : rowC [] = zeroRow := (rowC_of (ss := []) rfl (fun i hi => by rw [zeroRow_at i hi]; simp [rowN])).symm
theorem rowC_eql (ss : List Nat) (h : ∀ s ∈ ss, s ≤ 2147483647) (W : World) : (binOp .eql 43 (.agg (rowC ss)) (.agg (rowC ss))).run Try.prog W = .ok (.bool true) W := by
  refine eql_row_self _ (rowC_size ss) (fun i hi => ?_) W
  rw [rowC_at ss i hi]
  unfold rowN
  split
  · rename_i hl
    refine ⟨_, rfl, ?_⟩
    have := h (ss.getD i 0) (by rw [List.getD, List.getElem?_eq_getElem hl]; exact List.getElem_mem hl)
    generalize ss.getD i 0 = x at this
    simp only [Lit.wf, Bool.and_eq_true, decide_eq_true_eq]
    have e1 : IntKind.i32.min = -2147483648 := by decide
    have e2 : IntKind.i32.max = 2147483647 := by decide
    first | omega | (rw [e1, e2]; omega)
  · exact ⟨0, rfl, by decide⟩
theorem rowC_one (ss : List Nat) : (rowC ss).all (·.oneCell') = true := row_cells_one (rowC_size ss) (fun i hi => rowC_at ss i hi)
theorem rowC_info (ss : List Nat) : (Try.prog.info? 43).map (·.size) = some (rowC ss).size := by rw [rowC_size]; exact infoRow
theorem two_results {fn : Func} {s1 s2 : Nat} {ta tb : TypeId} (hr : fn.results = #[.cell s1 ta, .cell s2 tb]) {W : World} {tmps : Array Value} {b c : Nat} {v u : Value} (h1 : tmps.getD s1 undef = .pointer (some ⟨b, 0, none⟩)) (h2 : tmps.getD s2 undef = .pointer (some ⟨c, 0, none⟩))
    (l1 : (loadVar ta ⟨b, 0, none⟩).run Try.prog W = .ok v W) (l2 : (loadVar tb ⟨c, 0, none⟩).run Try.prog W = .ok u W) : (results fn tmps).run Try.prog W = .ok (.tuple #[v, u]) W := by
  have h1' : tmps[s1]?.getD undef = .pointer (some ⟨b, 0, none⟩) := by simpa using h1
  have h2' : tmps[s2]?.getD undef = .pointer (some ⟨c, 0, none⟩) := by simpa using h2
  unfold results
  rw [hr]
  simp [h1', h2', asAddr, l1, l2, Result.andThen]
theorem run_loadErr {w : World} {a : Addr} {v : Value} (h : w.cell? a = some v) : (loadVar 31 a).run Try.prog w = .ok v w := by
  simp [loadVar, go_sem, h]
theorem zR_zero : zR = zeroRow := rfl
set_option maxHeartbeats 800000 in
set_option maxRecDepth 100000 in
theorem new_out (n : Int) (h : n < 0 ∨ 2147483647 < n) (w : World) : Calls Try.prog 4 #[.int .i64 n] w fun e w' => e = .returned (.tuple #[.pointer none, .int .i64 1]) ∧ w' = w := by
  by_cases h0 : n < 0
  · clear h
    go_enter Try.func4, Try.ntmps4
    go_wp2
    go_ret2
    exact ⟨rfl, rfl⟩
  · have h1 : 2147483647 < n := by omega
    clear h
    go_enter Try.func4, Try.ntmps4
    go_wp2
    go_ret2
    exact ⟨rfl, rfl⟩
set_option maxHeartbeats 1600000 in
set_option maxRecDepth 100000 in
theorem row_no {w : World} {p : Value} (h : NoTab w p) (a : Option Addr) (n c : Nat) : Calls Try.prog 37 #[p, .slice a n c] w fun e w' => e = .returned (.tuple #[.agg zR, .int .i64 2]) ∧ Below w.heap.size w w' := by
  have hb := ((belowA (w := w) (.cells #[p] 24)).alloc (by simp) (.cells zR 43)).alloc (by simp; omega) (.cells #[.int .i64 0] 31)
  have HB := Lib.hid hb
  have HT := Lib.hid (there_no (h.below hb))
  have HP := Lib.hid (bxB (bxB (Boxed.new w 24 p) (belowA (.cells zR 43))) (belowA (.cells #[.int .i64 0] 31)))
  have HZ : Hid ((((w.alloc (.cells #[p] 24)).alloc (.cells zR 43)).alloc (.cells #[.int .i64 0] 31)).heap[w.heap.size + 1]? = some (.cells zR 43 (0, 0))) := by
    have h1 := heap_alloc_new (w.alloc (.cells #[p] 24)) (.cells zR 43)
    rw [World.size_alloc] at h1
    exact (Below.heap_alloc _ _ _ (by simp)).trans h1
  have HE := Lib.hid (bxN (w := (w.alloc (.cells #[p] 24)).alloc (.cells zR 43)) (B := w.heap.size + 1 + 1) (by simp) 31 (.int .i64 0))
  have hf := h.form
  clear h hb
  unfold zR at HB HT HP HZ HE
  obtain rfl | ⟨t, rfl⟩ := hf
  all_goals
    go_enter_defers Try.func37, Try.ntmps37
    go_upto_region 1 with fail
    generalize ((w.alloc _).alloc _).alloc _ = W at HB HT HP HZ HE ⊢
    have l0 := HP.out.cell
    go_wp2_with fail
    refine HT.out.mono ?_
    rintro e w1 ⟨rfl, rfl⟩
    have HF : Hid ((w1.setRow (w.heap.size + 1) zR).heap[w.heap.size + 1]? = some (.cells zR 43 (0, 0))) := setRow_heap w1 (w.heap.size + 1) _ _ _ (0, 0) HZ.out
    have BE : Hid (Boxed (w1.setRow (w.heap.size + 1) zR) (w.heap.size + 1 + 1) 31 (.int .i64 0)) := (setRow_other w1 (w.heap.size + 1) (w.heap.size + 1 + 1) _ (by omega)).trans HE.out
    have ce := BE.out.cell
    have fe := BE.out.frozen
    clear l0 HT HP
    go_wp2_with (refine wpList_storeRow _ rfl (.tmp 4) (.tmp 10) 43 rfl (w.heap.size + 1) zR zR rfl rfl HZ.out infoRow rfl zR_all ?_)
    refine ⟨_, two_results Try.results37 (b := w.heap.size + 1) (c := w.heap.size + 1 + 1) rfl rfl (zR_load ((Below.heap_setCell _ _ _ _ (by show w.heap.size + 1 ≠ w.heap.size + 1 + 1; omega)).trans HF.out)) (run_loadErr (BE.out.set (.int .i64 2)).cell), rfl, ?_⟩
    have hbr : Below w.heap.size w1 (w1.setRow (w.heap.size + 1) zR) := ⟨rfl, rfl, rfl, by simp, fun k hk => setRow_other w1 (w.heap.size + 1) k _ (by omega)⟩
    exact (HB.out.trans hbr).setCell (p := ⟨w.heap.size + 1 + 1, 0, none⟩) (by show w.heap.size ≤ w.heap.size + 1 + 1; omega) _
set_option maxHeartbeats 1600000 in
set_option maxRecDepth 100000 in
theorem row_long {w : World} {t m : Nat} {sv : Value} {vs : List V} {most : Int} (h : Tbl w t m sv vs most) (a : Option Addr) (n c : Nat) (hn : 24 < n) : Calls Try.prog 37 #[.pointer (some ⟨t, 0, none⟩), .slice a n c] w fun e w' => e = .returned (.tuple #[.agg zR, .int .i64 1]) ∧ Below w.heap.size w w' := by
  have hb := ((belowA (w := w) (.cells #[.pointer (some ⟨t, 0, none⟩)] 24)).alloc (by simp) (.cells zR 43)).alloc (by simp; omega) (.cells #[.int .i64 0] 31)
  have HB := Lib.hid hb
  have HT := Lib.hid (there_any (h.below hb))
  have hn' : (24 : Int) < (n : Int) := by omega
  have HP := Lib.hid (bxB (bxB (Boxed.new w 24 (.pointer (some ⟨t, 0, none⟩))) (belowA (.cells zR 43))) (belowA (.cells #[.int .i64 0] 31)))
  have HZ : Hid ((((w.alloc (.cells #[.pointer (some ⟨t, 0, none⟩)] 24)).alloc (.cells zR 43)).alloc (.cells #[.int .i64 0] 31)).heap[w.heap.size + 1]? = some (.cells zR 43 (0, 0))) := by
    have h1 := heap_alloc_new (w.alloc (.cells #[.pointer (some ⟨t, 0, none⟩)] 24)) (.cells zR 43)
    rw [World.size_alloc] at h1
    exact (Below.heap_alloc _ _ _ (by simp)).trans h1
  have HE := Lib.hid (bxN (w := (w.alloc (.cells #[.pointer (some ⟨t, 0, none⟩)] 24)).alloc (.cells zR 43)) (B := w.heap.size + 1 + 1) (by simp) 31 (.int .i64 0))
  clear h hb
  unfold zR at HB HT HP HZ HE
  go_enter_defers Try.func37, Try.ntmps37
  go_upto_region 1 with fail
  generalize ((w.alloc _).alloc _).alloc _ = W at HB HT HP HZ HE ⊢
  have l0 := HP.out.cell
  go_wp2_with fail
  refine HT.out.mono ?_
  rintro e w1 ⟨rfl, rfl⟩
  have HF : Hid ((w1.setRow (w.heap.size + 1) zR).heap[w.heap.size + 1]? = some (.cells zR 43 (0, 0))) := setRow_heap w1 (w.heap.size + 1) _ _ _ (0, 0) HZ.out
  have BE : Hid (Boxed (w1.setRow (w.heap.size + 1) zR) (w.heap.size + 1 + 1) 31 (.int .i64 0)) := (setRow_other w1 (w.heap.size + 1) (w.heap.size + 1 + 1) _ (by omega)).trans HE.out
  have ce := BE.out.cell
  have fe := BE.out.frozen
  clear l0 HT HP
  go_wp2_with (refine wpList_storeRow _ rfl (.tmp 4) (.tmp 14) 43 rfl (w.heap.size + 1) zR zR rfl rfl HZ.out infoRow rfl zR_all ?_)
  refine ⟨_, two_results Try.results37 (b := w.heap.size + 1) (c := w.heap.size + 1 + 1) rfl rfl (zR_load ((Below.heap_setCell _ _ _ _ (by show w.heap.size + 1 ≠ w.heap.size + 1 + 1; omega)).trans HF.out)) (run_loadErr (BE.out.set (.int .i64 1)).cell), rfl, ?_⟩
  have hbr : Below w.heap.size w1 (w1.setRow (w.heap.size + 1) zR) := ⟨rfl, rfl, rfl, by simp, fun k hk => setRow_other w1 (w.heap.size + 1) k _ (by omega)⟩
  exact (HB.out.trans hbr).setCell (p := ⟨w.heap.size + 1 + 1, 0, none⟩) (by show w.heap.size ≤ w.heap.size + 1 + 1; omega) _
set_option maxHeartbeats 1600000 in
set_option maxRecDepth 100000 in
theorem seek_long {w : World} {t m : Nat} {sv : Value} {vs : List V} {most : Int} (h : Tbl w t m sv vs most) (a : Option Addr) (n c : Nat) (hn : 24 < n) : Calls Try.prog 40 #[.pointer (some ⟨t, 0, none⟩), .slice a n c] w fun e w' => e = .returned (.tuple #[.agg zR, .bool false]) ∧ Below w.heap.size w w' := by
  have HB := Lib.hid (belowA (w := w) (.cells zR 43))
  have HZ : Hid ((w.alloc (.cells zR 43)).heap[w.heap.size]? = some (.cells zR 43 (0, 0))) := heap_alloc_new w _
  have HT := Lib.hid (there_any (h.below HB.out))
  have hn' : (24 : Int) < (n : Int) := by omega
  clear h
  unfold zR at HB HZ HT
  go_enter Try.func40, Try.ntmps40
  go_upto_region 1 with fail
  generalize w.alloc _ = W at HB HZ HT ⊢
  go_wp2_with fail
  refine HT.out.mono ?_
  rintro e w1 ⟨rfl, rfl⟩
  go_wp2_with (refine wpList_storeRow _ rfl (.tmp 4) (.tmp 19) 43 rfl w.heap.size zR zR rfl rfl HZ.out infoRow rfl zR_all ?_)
  have HF : (w1.setRow w.heap.size zR).heap[w.heap.size]? = some (.cells zR 43 (0, 0)) := setRow_heap w1 w.heap.size _ _ _ (0, 0) HZ.out
  refine bodyPost_ret (rl_results3 Try.results40 (b := w.heap.size) (v := .agg zR) (u := .bool false) rfl rfl (zR_load HF)) rfl ⟨rfl, ?_⟩
  exact HB.out.trans ⟨rfl, rfl, rfl, by simp, fun k hk => setRow_other w1 w.heap.size k _ (by omega)⟩
set_option maxHeartbeats 1600000 in
set_option maxRecDepth 100000 in
theorem rseek_long {w : World} {B p : Nat} {sv : Value} {vs : List V} {most : Int} (h : Rt w B p sv vs most) (a : Option Addr) (n c : Nat) (hn : 24 < n) : Calls Try.prog 39 #[.pointer (some ⟨p, 0, none⟩), .slice a n c] w fun e w' => e = .returned (.tuple #[.agg zR, .bool false]) ∧ Below w.heap.size w w' := by
  have HB := Lib.hid (belowA (w := w) (.cells zR 43))
  have HZ : Hid ((w.alloc (.cells zR 43)).heap[w.heap.size]? = some (.cells zR 43 (0, 0))) := heap_alloc_new w _
  have HT := Lib.hid (rtthere_yes (h.keep HB.out))
  have hn' : (24 : Int) < (n : Int) := by omega
  clear h
  unfold zR at HB HZ HT
  go_enter Try.func39, Try.ntmps39
  go_upto_region 1 with fail
  generalize w.alloc _ = W at HB HZ HT ⊢
  go_wp2_with fail
  refine HT.out.mono ?_
  rintro e w1 ⟨rfl, rfl⟩
  go_wp2_with (refine wpList_storeRow _ rfl (.tmp 4) (.tmp 18) 43 rfl w.heap.size zR zR rfl rfl HZ.out infoRow rfl zR_all ?_)
  have HF : (w1.setRow w.heap.size zR).heap[w.heap.size]? = some (.cells zR 43 (0, 0)) := setRow_heap w1 w.heap.size _ _ _ (0, 0) HZ.out
  refine bodyPost_ret (rl_results3 Try.results39 (b := w.heap.size) (v := .agg zR) (u := .bool false) rfl rfl (zR_load HF)) rfl ⟨rfl, ?_⟩
  exact HB.out.trans ⟨rfl, rfl, rfl, by simp, fun k hk => setRow_other w1 w.heap.size k _ (by omega)⟩
set_option maxHeartbeats 1600000 in
set_option maxRecDepth 100000 in
theorem rrow_long {w : World} {B p : Nat} {sv : Value} {vs : List V} {most : Int} (h : Rt w B p sv vs most) (a : Option Addr) (n c : Nat) (hn : 24 < n) : Calls Try.prog 36 #[.pointer (some ⟨p, 0, none⟩), .slice a n c] w fun e w' => e = .returned (.tuple #[.agg zR, .int .i64 1]) ∧ Below w.heap.size w w' := by
  have HB := Lib.hid (belowA (w := w) (.cells zR 43))
  have HZ : Hid ((w.alloc (.cells zR 43)).heap[w.heap.size]? = some (.cells zR 43 (0, 0))) := heap_alloc_new w _
  have HT := Lib.hid (rtthere_yes (h.keep HB.out))
  have hn' : (24 : Int) < (n : Int) := by omega
  clear h
  unfold zR at HB HZ HT
  go_enter Try.func36, Try.ntmps36
  go_upto_region 1 with fail
  generalize w.alloc _ = W at HB HZ HT ⊢
  go_wp2_with fail
  refine HT.out.mono ?_
  rintro e w1 ⟨rfl, rfl⟩
  go_wp2_with (refine wpList_storeRow _ rfl (.tmp 4) (.tmp 18) 43 rfl w.heap.size zR zR rfl rfl HZ.out infoRow rfl zR_all ?_)
  have HF : (w1.setRow w.heap.size zR).heap[w.heap.size]? = some (.cells zR 43 (0, 0)) := setRow_heap w1 w.heap.size _ _ _ (0, 0) HZ.out
  refine bodyPost_ret (rl_results3 Try.results36 (b := w.heap.size) (v := .agg zR) (u := .int .i64 1) rfl rfl (zR_load HF)) rfl ⟨rfl, ?_⟩
  exact HB.out.trans ⟨rfl, rfl, rfl, by simp, fun k hk => setRow_other w1 w.heap.size k _ (by omega)⟩
set_option maxHeartbeats 1600000 in
set_option maxRecDepth 100000 in
theorem tuple_out {w : World} {t m : Nat} {sv : Value} {vs : List V} {most : Int} (h : Tbl w t m sv vs most) (rr : Array Value) (n : Int) (hn : n < 0 ∨ 24 < n) : Calls Try.prog 27 #[.pointer (some ⟨t, 0, none⟩), .agg rr, .int .i64 n] w fun e w' => e = .returned (.tuple #[.slice none 0 0, .int .i64 1]) ∧ Below w.heap.size w w' := by
  have HB := Lib.hid (belowA (w := w) (.cells rr 43))
  have HT := Lib.hid (there_any (h.below HB.out))
  clear h
  by_cases h0 : n < 0
  · clear hn
    go_enter Try.func27, Try.ntmps27
    go_upto_region 1 with fail
    generalize w.alloc (.cells rr 43) = W at HB HT ⊢
    go_wp2_with fail
    refine HT.out.mono ?_
    rintro e w1 ⟨rfl, rfl⟩
    go_wp2
    go_ret2
    exact ⟨rfl, HB.out⟩
  · have h1 : 24 < n := by omega
    clear hn
    go_enter Try.func27, Try.ntmps27
    go_upto_region 1 with fail
    generalize w.alloc (.cells rr 43) = W at HB HT ⊢
    go_wp2_with fail
    refine HT.out.mono ?_
    rintro e w1 ⟨rfl, rfl⟩
    go_wp2
    go_ret2
    exact ⟨rfl, HB.out⟩
set_option maxHeartbeats 1600000 in
set_option maxRecDepth 100000 in
theorem rtuple_out {w : World} {B p : Nat} {sv : Value} {vs : List V} {most : Int} (h : Rt w B p sv vs most) (rr : Array Value) (n : Int) (hn : n < 0 ∨ 24 < n) : Calls Try.prog 28 #[.pointer (some ⟨p, 0, none⟩), .agg rr, .int .i64 n] w fun e w' => e = .returned (.tuple #[.slice none 0 0, .int .i64 1]) ∧ Below w.heap.size w w' := by
  have HB := Lib.hid (belowA (w := w) (.cells rr 43))
  have HT := Lib.hid (rtthere_yes (h.keep HB.out))
  clear h
  by_cases h0 : n < 0
  · clear hn
    go_enter Try.func28, Try.ntmps28
    go_upto_region 1 with fail
    generalize w.alloc (.cells rr 43) = W at HB HT ⊢
    go_wp2_with fail
    refine HT.out.mono ?_
    rintro e w1 ⟨rfl, rfl⟩
    go_wp2
    go_ret2
    exact ⟨rfl, HB.out⟩
  · have h1 : 24 < n := by omega
    clear hn
    go_enter Try.func28, Try.ntmps28
    go_upto_region 1 with fail
    generalize w.alloc (.cells rr 43) = W at HB HT ⊢
    go_wp2_with fail
    refine HT.out.mono ?_
    rintro e w1 ⟨rfl, rfl⟩
    go_wp2
    go_ret2
    exact ⟨rfl, HB.out⟩
end Go.Proofs.Ythdcgikhcghigaa
