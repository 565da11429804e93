import Derived.Test.YtlnhnpfgmiffpaaRelLives
namespace Go.Proofs.Ytlnhnpfgmiffpaa
open Go.RowKit Go.Maps
set_option linter.unusedVariables false
set_option linter.unusedSimpArgs false
attribute [local go_sem ↓] Go.wp_at_zero Go.wp_at_succ

attribute [-go_sem] loadVar
/-- a relation that is not there: a nil pointer, or a zero struct -/
inductive NoRel (w : World) : Value → Prop
  | nil : NoRel w (.pointer none)
  | zero (t : Nat) (ty : TypeId) : RL w t ty [.slice none 0 0, .map none, .int .i64 0, .int .i64 0] → NoRel w (.pointer (some ⟨t, 0, none⟩))
theorem NoRel.below {w w' : World} {p : Value} (h : NoRel w p) (b : Below w.heap.size w w') : NoRel w' p := by
  cases h with
  | nil => exact .nil
  | zero t ty h => exact .zero t ty (h.below b)
theorem NoRel.form {w : World} {p : Value} (h : NoRel w p) : p = .pointer none ∨ ∃ t, p = .pointer (some ⟨t, 0, none⟩) := by
  cases h with
  | nil => exact .inl rfl
  | zero t ty h => exact .inr ⟨t, rfl⟩
set_option maxHeartbeats 800000 in
set_option maxRecDepth 100000 in
theorem there_no {w : World} {p : Value} (h : NoRel w p) : Calls Try.prog 14 #[p] w fun e w' => e = .returned (.bool false) ∧ w' = w := by
  cases h with
  | nil => exact there_nil w
  | zero t ty h =>
    have c1 := h.at (j := 1) rfl
    have l1 := run_loadMap c1
    have hm := map_gone w
    clear h
    go_enter Try.func14, Try.ntmps14
    go_wp2
    go_ret
    exact ⟨rfl, rfl⟩
set_option maxHeartbeats 800000 in
set_option maxRecDepth 100000 in
theorem len_no {w : World} {p : Value} (h : NoRel w p) : Calls Try.prog 9 #[p] w fun e w' => e = .returned (.int .i64 0) ∧ w' = w := by
  have HT := Lib.hid (there_no h)
  clear h
  go_enter Try.func9, Try.ntmps9
  go_wp2_with fail
  refine HT.out.mono ?_
  rintro e w1 ⟨rfl, rfl⟩
  go_wp2
  go_ret
  exact ⟨rfl, rfl⟩
set_option maxHeartbeats 800000 in
set_option maxRecDepth 100000 in
theorem arity_no {w : World} {p : Value} (h : NoRel w p) : Calls Try.prog 36 #[p] w fun e w' => e = .returned (.int .i64 0) ∧ w' = w := by
  have HT := Lib.hid (there_no h)
  clear h
  go_enter Try.func36, Try.ntmps36
  go_wp2_with fail
  refine HT.out.mono ?_
  rintro e w1 ⟨rfl, rfl⟩
  go_wp2
  go_ret
  exact ⟨rfl, rfl⟩
set_option maxHeartbeats 800000 in
set_option maxRecDepth 100000 in
theorem gone_no {w : World} {p : Value} (h : NoRel w p) : Calls Try.prog 49 #[p] w fun e w' => e = .returned (.int .i64 0) ∧ w' = w := by
  have HT := Lib.hid (there_no h)
  clear h
  go_enter Try.func49, Try.ntmps49
  go_wp2_with fail
  refine HT.out.mono ?_
  rintro e w1 ⟨rfl, rfl⟩
  go_wp2
  go_ret
  exact ⟨rfl, rfl⟩
set_option maxHeartbeats 800000 in
set_option maxRecDepth 100000 in
theorem sorted_no {w : World} {p : Value} (h : NoRel w p) : Calls Try.prog 34 #[p] w fun e w' => e = .returned (.slice none 0 0) ∧ w' = w := by
  have HT := Lib.hid (there_no h)
  clear h
  go_enter Try.func34, Try.ntmps34
  go_wp2_with fail
  refine HT.out.mono ?_
  rintro e w1 ⟨rfl, rfl⟩
  go_wp2
  go_ret
  exact ⟨rfl, rfl⟩
set_option maxHeartbeats 800000 in
set_option maxRecDepth 100000 in
theorem clone_no {w : World} {p : Value} (h : NoRel w p) : Calls Try.prog 6 #[p] w fun e w' => e = .returned (.pointer none) ∧ w' = w := by
  have HT := Lib.hid (there_no h)
  clear h
  go_enter Try.func6, Try.ntmps6
  go_wp2_with fail
  refine HT.out.mono ?_
  rintro e w1 ⟨rfl, rfl⟩
  go_wp2
  go_ret
  exact ⟨rfl, rfl⟩
set_option maxHeartbeats 800000 in
set_option maxRecDepth 100000 in
theorem add_no {w : World} {p : Value} (h : NoRel w p) (r : List Int) : Calls Try.prog 16 #[p, rowV r] w fun e w' => e = .returned (.tuple #[.bool false, .int .i64 2]) ∧ Below w.heap.size w w' := by
  have hb := (Below.refl w.heap.size w).alloc (Nat.le_refl _) (.cells (rowC r) 40)
  have HB := Lib.hid hb
  have HT := Lib.hid (there_no (h.below hb))
  clear h hb
  unfold rowV
  go_enter Try.func16, Try.ntmps16
  go_upto_region 1 with fail
  generalize w.alloc (.cells (rowC r) 40) = W at HB HT ⊢
  go_wp2_with fail
  refine HT.out.mono ?_
  rintro e w1 ⟨rfl, rfl⟩
  go_wp2
  go_ret2
  exact ⟨rfl, HB.out⟩
set_option maxHeartbeats 1600000 in
set_option maxRecDepth 100000 in
theorem at_no {w : World} {p : Value} (h : NoRel w p) (i : Int) : Calls Try.prog 20 #[p, .int .i64 i] w fun e w' => e = .returned (.tuple #[rowV zeroL, .int .i64 2]) ∧ Below w.heap.size w w' := by
  have hb := (Below.refl w.heap.size w).alloc (Nat.le_refl _) (.cells #[.int .i32 0, .int .i32 0, .int .i32 0, .int .i32 0, .int .i32 0, .int .i32 0, .int .i32 0, .int .i32 0, .int .i32 0, .int .i32 0, .int .i32 0, .int .i32 0, .int .i32 0, .int .i32 0, .int .i32 0, .int .i32 0, .int .i32 0, .int .i32 0, .int .i32 0, .int .i32 0, .int .i32 0, .int .i32 0, .int .i32 0, .int .i32 0] 40)
  have HB := Lib.hid hb
  have HT := Lib.hid (there_no (h.below hb))
  have HZ : Hid ((w.alloc (.cells #[.int .i32 0, .int .i32 0, .int .i32 0, .int .i32 0, .int .i32 0, .int .i32 0, .int .i32 0, .int .i32 0, .int .i32 0, .int .i32 0, .int .i32 0, .int .i32 0, .int .i32 0, .int .i32 0, .int .i32 0, .int .i32 0, .int .i32 0, .int .i32 0, .int .i32 0, .int .i32 0, .int .i32 0, .int .i32 0, .int .i32 0, .int .i32 0] 40)).heap[w.heap.size]? = some (.cells #[.int .i32 0, .int .i32 0, .int .i32 0, .int .i32 0, .int .i32 0, .int .i32 0, .int .i32 0, .int .i32 0, .int .i32 0, .int .i32 0, .int .i32 0, .int .i32 0, .int .i32 0, .int .i32 0, .int .i32 0, .int .i32 0, .int .i32 0, .int .i32 0, .int .i32 0, .int .i32 0, .int .i32 0, .int .i32 0, .int .i32 0, .int .i32 0] 40 (0, 0))) := heap_alloc_new w _
  clear h hb
  go_enter Try.func20, Try.ntmps20
  go_upto_region 1 with fail
  generalize w.alloc (.cells #[.int .i32 0, .int .i32 0, .int .i32 0, .int .i32 0, .int .i32 0, .int .i32 0, .int .i32 0, .int .i32 0, .int .i32 0, .int .i32 0, .int .i32 0, .int .i32 0, .int .i32 0, .int .i32 0, .int .i32 0, .int .i32 0, .int .i32 0, .int .i32 0, .int .i32 0, .int .i32 0, .int .i32 0, .int .i32 0, .int .i32 0, .int .i32 0] 40) = W at HB HT HZ ⊢
  go_wp2_with fail
  refine HT.out.mono ?_
  rintro e w1 ⟨rfl, rfl⟩
  clear HT
  go_wp2_with (refine wpList_storeRow _ rfl (.tmp 4) (.tmp 9) 40 rfl w.heap.size #[.int .i32 0, .int .i32 0, .int .i32 0, .int .i32 0, .int .i32 0, .int .i32 0, .int .i32 0, .int .i32 0, .int .i32 0, .int .i32 0, .int .i32 0, .int .i32 0, .int .i32 0, .int .i32 0, .int .i32 0, .int .i32 0, .int .i32 0, .int .i32 0, .int .i32 0, .int .i32 0, .int .i32 0, .int .i32 0, .int .i32 0, .int .i32 0] (List.map cellI zeroL).toArray rfl rfl HZ.out (by rw [show (List.map cellI zeroL).toArray.size = 24 by decide]; exact infoRow) (by decide) (by kernel_rfl) ?_)
  have HF : RowAt (w1.setRow w.heap.size (List.map cellI zeroL).toArray) w.heap.size zeroL := setRow_heap w1 w.heap.size _ _ _ (0, 0) HZ.out
  refine bodyPost_ret (rl_results3 Try.results20 (b := w.heap.size) (v := rowV zeroL) (u := .int .i64 2) rfl rfl (run_loadRow HF zeroL_ok.len)) rfl ⟨rfl, ?_⟩
  exact HB.out.trans ⟨rfl, rfl, rfl, by simp, fun k hk => setRow_other w1 w.heap.size k _ (by omega)⟩
end Go.Proofs.Ytlnhnpfgmiffpaa
