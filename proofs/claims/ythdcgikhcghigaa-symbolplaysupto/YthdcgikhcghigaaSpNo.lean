import Derived.Test.YthdcgikhcghigaaSpRow
namespace Go.Proofs.Ythdcgikhcghigaa
open Go.RowKit Go.Maps Go.Shelf
set_option linter.unusedVariables false
set_option linter.unusedSimpArgs false
attribute [local go_sem ↓] Go.wp_at_zero Go.wp_at_succ

/-- a table that is not there: a nil pointer, or a zero struct -/
inductive NoTab (w : World) : Value → Prop
  | nil : NoTab w (.pointer none)
  | zero (t : Nat) (ty : TypeId) : RL w t ty [.map none, .slice none 0 0, .int .i64 0] → NoTab w (.pointer (some ⟨t, 0, none⟩))
theorem NoTab.below {w w' : World} {p : Value} (h : NoTab w p) (b : Below w.heap.size w w') : NoTab w' p := by
  cases h with
  | nil => exact .nil
  | zero t ty h => exact .zero t ty (h.below b)
theorem NoTab.form {w : World} {p : Value} (h : NoTab w p) : p = .pointer none ∨ ∃ t, p = .pointer (some ⟨t, 0, none⟩) := by
  cases h with
  | nil => exact .inl rfl
  | zero t ty h => exact .inr ⟨t, rfl⟩
def zR : Array Value := #[.int .i32 0, .int .i32 0, .int .i32 0, .int .i32 0, .int .i32 0, .int .i32 0, .int .i32 0, .int .i32 0, .int .i32 0, .int .i32 0, .int .i32 0, .int .i32 0, .int .i32 0, .int .i32 0, .int .i32 0, .int .i32 0, .int .i32 0, .int .i32 0, .int .i32 0, .int .i32 0, .int .i32 0, .int .i32 0, .int .i32 0, .int .i32 0]
theorem zR_all : zR.all (·.oneCell') = true := by kernel_rfl
theorem zR_load {w : World} {b : Nat} (h : w.heap[b]? = some (.cells zR 43 (0, 0))) : (loadVar 43 ⟨b, 0, none⟩).run Try.prog w = .ok (.agg zR) w :=
  run_loadVar_row _ _ 43 43 zR (0, 0) _ h Try.underlying43 rfl infoRow
set_option maxHeartbeats 1600000 in
set_option maxRecDepth 100000 in
theorem there_no {w : World} {p : Value} (h : NoTab w p) : Calls Try.prog 21 #[p] w fun e w' => e = .returned (.bool false) ∧ w' = w := by
  cases h with
  | nil =>
    go_enter Try.func21, Try.ntmps21
    go_wp2
    go_ret
    exact ⟨rfl, rfl⟩
  | zero t ty h =>
    have c1 := h.at (j := 0) rfl
    have hm := neq_map_nil w
    clear h
    go_enter Try.func21, Try.ntmps21
    go_wp2
    go_ret
    exact ⟨rfl, rfl⟩
set_option maxHeartbeats 1600000 in
set_option maxRecDepth 100000 in
theorem rthere_nil (w : World) : Calls Try.prog 22 #[.pointer none] w fun e w' => e = .returned (.bool false) ∧ w' = w := by
  go_enter Try.func22, Try.ntmps22
  go_wp2
  go_ret
  exact ⟨rfl, rfl⟩
set_option maxHeartbeats 1600000 in
set_option maxRecDepth 100000 in
theorem len_no {w : World} {p : Value} (h : NoTab w p)  : Calls Try.prog 7 #[p] w fun e w' => e = .returned (.int .i64 0) ∧ w' = w := by
  have HT := Lib.hid (there_no h)
  clear h
  go_enter Try.func7, Try.ntmps7
  go_wp2_with fail
  refine HT.out.mono ?_
  rintro e w1 ⟨rfl, rfl⟩
  go_wp2
  go_ret
  exact ⟨rfl, rfl⟩
set_option maxHeartbeats 1600000 in
set_option maxRecDepth 100000 in
theorem add_no {w : World} {p : Value} (h : NoTab w p) (v : V) : Calls Try.prog 13 #[p, .agg #[.int .i8 v.k, .int .i64 v.n, .string v.s]] w fun e w' => e = .returned (.tuple #[.int .i32 0, .int .i64 2]) ∧ Below w.heap.size w w' := by
  have HB := Lib.hid (belowA (w := w) (.cells #[.int .i8 v.k, .int .i64 v.n, .string v.s] 39))
  have HT := Lib.hid (there_no (h.below HB.out))
  clear h
  go_enter Try.func13, Try.ntmps13
  go_upto_region 1 with fail
  generalize w.alloc (.cells #[.int .i8 v.k, .int .i64 v.n, .string v.s] 39) = W at HB HT ⊢
  go_wp2_with fail
  refine HT.out.mono ?_
  rintro e w1 ⟨rfl, rfl⟩
  go_wp2
  go_ret2
  exact ⟨rfl, HB.out⟩
set_option maxHeartbeats 1600000 in
set_option maxRecDepth 100000 in
theorem find_no {w : World} {p : Value} (h : NoTab w p) (v : V) : Calls Try.prog 15 #[p, .agg #[.int .i8 v.k, .int .i64 v.n, .string v.s]] w fun e w' => e = .returned (.tuple #[.int .i32 0, .bool false]) ∧ Below w.heap.size w w' := by
  have HB := Lib.hid (belowA (w := w) (.cells #[.int .i8 v.k, .int .i64 v.n, .string v.s] 39))
  have HT := Lib.hid (there_no (h.below HB.out))
  clear h
  go_enter Try.func15, Try.ntmps15
  go_upto_region 1 with fail
  generalize w.alloc (.cells #[.int .i8 v.k, .int .i64 v.n, .string v.s] 39) = W at HB HT ⊢
  go_wp2_with fail
  refine HT.out.mono ?_
  rintro e w1 ⟨rfl, rfl⟩
  go_wp2
  go_ret2
  exact ⟨rfl, HB.out⟩
set_option maxHeartbeats 1600000 in
set_option maxRecDepth 100000 in
theorem cut_no {w : World} {p : Value} (h : NoTab w p) (n : Int) : Calls Try.prog 33 #[p, .int .i64 n] w fun e w' => e = .returned (.int .i64 2) ∧ w' = w := by
  have HT := Lib.hid (there_no h)
  clear h
  go_enter Try.func33, Try.ntmps33
  go_wp2_with fail
  refine HT.out.mono ?_
  rintro e w1 ⟨rfl, rfl⟩
  go_wp2
  go_ret
  exact ⟨rfl, rfl⟩
set_option maxHeartbeats 1600000 in
set_option maxRecDepth 100000 in
theorem tuple_no {w : World} {p : Value} (h : NoTab w p) (rr : Array Value) (n : Int) : Calls Try.prog 27 #[p, .agg rr, .int .i64 n] w fun e w' => e = .returned (.tuple #[.slice none 0 0, .int .i64 2]) ∧ Below w.heap.size w w' := by
  have HB := Lib.hid (belowA (w := w) (.cells rr 43))
  have HT := Lib.hid (there_no (h.below HB.out))
  clear h
  go_enter Try.func27, Try.ntmps27
  go_upto_region 1 with fail
  generalize w.alloc (.cells rr 43) = W at HB HT ⊢
  go_wp2_with fail
  refine HT.out.mono ?_
  rintro e w1 ⟨rfl, rfl⟩
  go_wp2
  go_ret2
  exact ⟨rfl, HB.out⟩
set_option maxHeartbeats 1600000 in
set_option maxRecDepth 100000 in
theorem value_no {w : World} {p : Value} (h : NoTab w p) (s : Int) : Calls Try.prog 17 #[p, .int .i32 s] w fun e w' => e = .returned (.tuple #[.agg #[.int .i8 0, .int .i64 0, .string ⟨#[]⟩], .int .i64 2]) ∧ Below w.heap.size w w' := by
  have HB := Lib.hid (belowA (w := w) (.cells #[.int .i8 0, .int .i64 0, .string ⟨#[]⟩] 39))
  have r0 : RL (w.alloc (.cells #[.int .i8 0, .int .i64 0, .string ⟨#[]⟩] 39)) w.heap.size 39 [.int .i8 0, .int .i64 0, .string ⟨#[]⟩] := rl_new w #[.int .i8 0, .int .i64 0, .string ⟨#[]⟩] 39
  have HT := Lib.hid (there_no (h.below HB.out))
  clear h
  have R0 := Lib.hid r0
  clear r0
  go_enter Try.func17, Try.ntmps17
  go_upto_region 1 with fail
  generalize w.alloc (.cells #[.int .i8 0, .int .i64 0, .string ⟨#[]⟩] 39) = W at HB R0 HT ⊢
  go_wp2_with fail
  refine HT.out.mono ?_
  rintro e w1 ⟨rfl, rfl⟩
  have c0 := R0.out.at (j := 0) rfl
  have c1 := R0.out.at (j := 1) rfl
  have c2 := R0.out.at (j := 2) rfl
  have f0 := World.rowIs.frozen R0.out 0
  have f1 := World.rowIs.frozen R0.out 1
  have f2 := World.rowIs.frozen R0.out 2
  have R3 := Lib.hid (((R0.out.set 0 (.int .i8 0)).set 1 (.int .i64 0)).set 2 (.string ⟨#[]⟩))
  have HB3 := Lib.hid (((HB.out.setCell (p := ⟨w.heap.size, 0, none⟩) (Nat.le_refl _) (.int .i8 0)).setCell (p := ⟨w.heap.size, 1, none⟩) (Nat.le_refl _) (.int .i64 0)).setCell (p := ⟨w.heap.size, 2, none⟩) (Nat.le_refl _) (.string ⟨#[]⟩))
  clear R0
  go_wp2
  have e0 := R3.out.at (j := 0) rfl
  have e1 := R3.out.at (j := 1) rfl
  have e2 := R3.out.at (j := 2) rfl
  refine bodyPost_ret (rl_results3 Try.results17 (b := w.heap.size) (v := .agg #[.int .i8 0, .int .i64 0, .string ⟨#[]⟩]) (u := .int .i64 2) rfl rfl (by simp [loadVar, go_sem, e0, e1, e2])) rfl ⟨rfl, HB3.out⟩
set_option maxHeartbeats 1600000 in
set_option maxRecDepth 100000 in
theorem seek_no {w : World} {p : Value} (h : NoTab w p) (a : Option Addr) (n c : Nat) : Calls Try.prog 40 #[p, .slice a n c] w fun e w' => e = .returned (.tuple #[.agg zR, .bool false]) ∧ Below w.heap.size w w' := by
  have HB := Lib.hid (belowA (w := w) (.cells zR 43))
  have HZ : Hid ((w.alloc (.cells zR 43)).heap[w.heap.size]? = some (.cells zR 43 (0, 0))) := heap_alloc_new w _
  have HT := Lib.hid (there_no (h.below HB.out))
  clear h
  unfold zR at HB HZ HT 
  go_enter Try.func40, Try.ntmps40
  go_upto_region 1 with fail
  generalize w.alloc _ = W at HB HZ HT ⊢
  go_wp2_with fail
  refine HT.out.mono ?_
  rintro e w1 ⟨rfl, rfl⟩
  go_wp2_with (refine wpList_storeRow _ rfl (.tmp 4) (.tmp 19) 43 rfl w.heap.size zR zR rfl rfl HZ.out infoRow rfl zR_all ?_)
  have HF : (w1.setRow w.heap.size zR).heap[w.heap.size]? = some (.cells zR 43 (0, 0)) := setRow_heap w1 w.heap.size _ _ _ (0, 0) HZ.out
  refine bodyPost_ret (rl_results3 Try.results40 (b := w.heap.size) (v := .agg zR) (u := .bool false) rfl rfl (zR_load HF)) rfl ⟨rfl, ?_⟩
  exact HB.out.trans ⟨rfl, rfl, rfl, by simp, fun k hk => setRow_other w1 w.heap.size k _ (by omega)⟩
set_option maxHeartbeats 1600000 in
set_option maxRecDepth 100000 in
theorem rlen_nil {w : World}   : Calls Try.prog 8 #[.pointer none] w fun e w' => e = .returned (.int .i64 0) ∧ w' = w := by
  go_enter Try.func8, Try.ntmps8
  go_wp2_with fail
  refine (rthere_nil _).mono ?_
  rintro e w1 ⟨rfl, rfl⟩
  go_wp2
  go_ret
  exact ⟨rfl, rfl⟩
set_option maxHeartbeats 1600000 in
set_option maxRecDepth 100000 in
theorem radd_nil {w : World}  (v : V) : Calls Try.prog 14 #[.pointer none, .agg #[.int .i8 v.k, .int .i64 v.n, .string v.s]] w fun e w' => e = .returned (.tuple #[.int .i32 0, .int .i64 2]) ∧ Below w.heap.size w w' := by
  have HB := Lib.hid (belowA (w := w) (.cells #[.int .i8 v.k, .int .i64 v.n, .string v.s] 39))
  go_enter Try.func14, Try.ntmps14
  go_upto_region 1 with fail
  generalize w.alloc (.cells #[.int .i8 v.k, .int .i64 v.n, .string v.s] 39) = W at HB ⊢
  go_wp2_with fail
  refine (rthere_nil _).mono ?_
  rintro e w1 ⟨rfl, rfl⟩
  go_wp2
  go_ret2
  exact ⟨rfl, HB.out⟩
set_option maxHeartbeats 1600000 in
set_option maxRecDepth 100000 in
theorem rfind_nil {w : World}  (v : V) : Calls Try.prog 16 #[.pointer none, .agg #[.int .i8 v.k, .int .i64 v.n, .string v.s]] w fun e w' => e = .returned (.tuple #[.int .i32 0, .bool false]) ∧ Below w.heap.size w w' := by
  have HB := Lib.hid (belowA (w := w) (.cells #[.int .i8 v.k, .int .i64 v.n, .string v.s] 39))
  go_enter Try.func16, Try.ntmps16
  go_upto_region 1 with fail
  generalize w.alloc (.cells #[.int .i8 v.k, .int .i64 v.n, .string v.s] 39) = W at HB ⊢
  go_wp2_with fail
  refine (rthere_nil _).mono ?_
  rintro e w1 ⟨rfl, rfl⟩
  go_wp2
  go_ret2
  exact ⟨rfl, HB.out⟩
set_option maxHeartbeats 1600000 in
set_option maxRecDepth 100000 in
theorem rcut_nil {w : World}  (n : Int) : Calls Try.prog 34 #[.pointer none, .int .i64 n] w fun e w' => e = .returned (.int .i64 2) ∧ w' = w := by
  go_enter Try.func34, Try.ntmps34
  go_wp2_with fail
  refine (rthere_nil _).mono ?_
  rintro e w1 ⟨rfl, rfl⟩
  go_wp2
  go_ret
  exact ⟨rfl, rfl⟩
set_option maxHeartbeats 1600000 in
set_option maxRecDepth 100000 in
theorem rtuple_nil {w : World}  (rr : Array Value) (n : Int) : Calls Try.prog 28 #[.pointer none, .agg rr, .int .i64 n] w fun e w' => e = .returned (.tuple #[.slice none 0 0, .int .i64 2]) ∧ Below w.heap.size w w' := by
  have HB := Lib.hid (belowA (w := w) (.cells rr 43))
  go_enter Try.func28, Try.ntmps28
  go_upto_region 1 with fail
  generalize w.alloc (.cells rr 43) = W at HB ⊢
  go_wp2_with fail
  refine (rthere_nil _).mono ?_
  rintro e w1 ⟨rfl, rfl⟩
  go_wp2
  go_ret2
  exact ⟨rfl, HB.out⟩
set_option maxHeartbeats 1600000 in
set_option maxRecDepth 100000 in
theorem rvalue_nil {w : World}  (s : Int) : Calls Try.prog 18 #[.pointer none, .int .i32 s] w fun e w' => e = .returned (.tuple #[.agg #[.int .i8 0, .int .i64 0, .string ⟨#[]⟩], .int .i64 2]) ∧ Below w.heap.size w w' := by
  have HB := Lib.hid (belowA (w := w) (.cells #[.int .i8 0, .int .i64 0, .string ⟨#[]⟩] 39))
  have r0 : RL (w.alloc (.cells #[.int .i8 0, .int .i64 0, .string ⟨#[]⟩] 39)) w.heap.size 39 [.int .i8 0, .int .i64 0, .string ⟨#[]⟩] := rl_new w #[.int .i8 0, .int .i64 0, .string ⟨#[]⟩] 39
  have R0 := Lib.hid r0
  clear r0
  go_enter Try.func18, Try.ntmps18
  go_upto_region 1 with fail
  generalize w.alloc (.cells #[.int .i8 0, .int .i64 0, .string ⟨#[]⟩] 39) = W at HB R0 ⊢
  go_wp2_with fail
  refine (rthere_nil _).mono ?_
  rintro e w1 ⟨rfl, rfl⟩
  have c0 := R0.out.at (j := 0) rfl
  have c1 := R0.out.at (j := 1) rfl
  have c2 := R0.out.at (j := 2) rfl
  have f0 := World.rowIs.frozen R0.out 0
  have f1 := World.rowIs.frozen R0.out 1
  have f2 := World.rowIs.frozen R0.out 2
  have R3 := Lib.hid (((R0.out.set 0 (.int .i8 0)).set 1 (.int .i64 0)).set 2 (.string ⟨#[]⟩))
  have HB3 := Lib.hid (((HB.out.setCell (p := ⟨w.heap.size, 0, none⟩) (Nat.le_refl _) (.int .i8 0)).setCell (p := ⟨w.heap.size, 1, none⟩) (Nat.le_refl _) (.int .i64 0)).setCell (p := ⟨w.heap.size, 2, none⟩) (Nat.le_refl _) (.string ⟨#[]⟩))
  clear R0
  go_wp2
  have e0 := R3.out.at (j := 0) rfl
  have e1 := R3.out.at (j := 1) rfl
  have e2 := R3.out.at (j := 2) rfl
  refine bodyPost_ret (rl_results3 Try.results18 (b := w.heap.size) (v := .agg #[.int .i8 0, .int .i64 0, .string ⟨#[]⟩]) (u := .int .i64 2) rfl rfl (by simp [loadVar, go_sem, e0, e1, e2])) rfl ⟨rfl, HB3.out⟩
set_option maxHeartbeats 1600000 in
set_option maxRecDepth 100000 in
theorem rseek_nil {w : World}  (a : Option Addr) (n c : Nat) : Calls Try.prog 39 #[.pointer none, .slice a n c] w fun e w' => e = .returned (.tuple #[.agg zR, .bool false]) ∧ Below w.heap.size w w' := by
  have HB := Lib.hid (belowA (w := w) (.cells zR 43))
  have HZ : Hid ((w.alloc (.cells zR 43)).heap[w.heap.size]? = some (.cells zR 43 (0, 0))) := heap_alloc_new w _
  unfold zR at HB HZ 
  go_enter Try.func39, Try.ntmps39
  go_upto_region 1 with fail
  generalize w.alloc _ = W at HB HZ ⊢
  go_wp2_with fail
  refine (rthere_nil _).mono ?_
  rintro e w1 ⟨rfl, rfl⟩
  go_wp2_with (refine wpList_storeRow _ rfl (.tmp 4) (.tmp 18) 43 rfl w.heap.size zR zR rfl rfl HZ.out infoRow rfl zR_all ?_)
  have HF : (w1.setRow w.heap.size zR).heap[w.heap.size]? = some (.cells zR 43 (0, 0)) := setRow_heap w1 w.heap.size _ _ _ (0, 0) HZ.out
  refine bodyPost_ret (rl_results3 Try.results39 (b := w.heap.size) (v := .agg zR) (u := .bool false) rfl rfl (zR_load HF)) rfl ⟨rfl, ?_⟩
  exact HB.out.trans ⟨rfl, rfl, rfl, by simp, fun k hk => setRow_other w1 w.heap.size k _ (by omega)⟩
set_option maxHeartbeats 1600000 in
set_option maxRecDepth 100000 in
theorem rrow_nil {w : World}  (a : Option Addr) (n c : Nat) : Calls Try.prog 36 #[.pointer none, .slice a n c] w fun e w' => e = .returned (.tuple #[.agg zR, .int .i64 2]) ∧ Below w.heap.size w w' := by
  have HB := Lib.hid (belowA (w := w) (.cells zR 43))
  have HZ : Hid ((w.alloc (.cells zR 43)).heap[w.heap.size]? = some (.cells zR 43 (0, 0))) := heap_alloc_new w _
  unfold zR at HB HZ 
  go_enter Try.func36, Try.ntmps36
  go_upto_region 1 with fail
  generalize w.alloc _ = W at HB HZ ⊢
  go_wp2_with fail
  refine (rthere_nil _).mono ?_
  rintro e w1 ⟨rfl, rfl⟩
  go_wp2_with (refine wpList_storeRow _ rfl (.tmp 4) (.tmp 14) 43 rfl w.heap.size zR zR rfl rfl HZ.out infoRow rfl zR_all ?_)
  have HF : (w1.setRow w.heap.size zR).heap[w.heap.size]? = some (.cells zR 43 (0, 0)) := setRow_heap w1 w.heap.size _ _ _ (0, 0) HZ.out
  refine bodyPost_ret (rl_results3 Try.results36 (b := w.heap.size) (v := .agg zR) (u := .int .i64 2) rfl rfl (zR_load HF)) rfl ⟨rfl, ?_⟩
  exact HB.out.trans ⟨rfl, rfl, rfl, by simp, fun k hk => setRow_other w1 w.heap.size k _ (by omega)⟩
end Go.Proofs.Ythdcgikhcghigaa
