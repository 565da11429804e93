import Derived.Test.YtgeplijgcmdaeaaIxLives
namespace Go.Proofs.Ytgeplijgcmdaeaa
open Go.RowKit Go.Maps Go.ChangeMaps
set_option linter.unusedVariables false
set_option linter.unusedSimpArgs false
attribute [local go_sem ↓] Go.wp_at_zero Go.wp_at_succ

attribute [-go_sem] loadVar
/-- a relation that is not there: a nil pointer, or a zero struct -/
inductive NoRel (w : World) : Value → Prop
  | nil : NoRel w (.pointer none)
  | zero (t : Nat) (ty : TypeId) : RL w t ty [.slice none 0 0, .map none, .int .i64 0, .int .i64 0] → NoRel w (.pointer (some ⟨t, 0, none⟩))
theorem NoRel.below {w w' : World} {p : Value} (h : NoRel w p) (b : Below w.heap.size w w') : NoRel w' p := by
  cases h with
  | nil => exact .nil
  | zero t ty h => exact .zero t ty (h.below b)
theorem NoRel.form {w : World} {p : Value} (h : NoRel w p) : p = .pointer none ∨ ∃ t, p = .pointer (some ⟨t, 0, none⟩) := by
  cases h with
  | nil => exact .inl rfl
  | zero t ty h => exact .inr ⟨t, rfl⟩
set_option maxHeartbeats 800000 in
set_option maxRecDepth 100000 in
theorem there_no {w : World} {p : Value} (h : NoRel w p) : Calls Try.prog 33 #[p] w fun e w' => e = .returned (.bool false) ∧ w' = w := by
  cases h with
  | nil => exact there_nil w
  | zero t ty h =>
    have c1 := h.at (j := 1) rfl
    have l1 := run_loadMap c1
    have hm := map_gone w
    clear h
    go_enter Try.func33, Try.ntmps33
    go_wp2
    go_ret
    exact ⟨rfl, rfl⟩
set_option maxHeartbeats 1600000 in
set_option maxRecDepth 100000 in
theorem at_no {w : World} {p : Value} (h : NoRel w p) (i : Int) : Calls Try.prog 12 #[p, .int .i64 i] w fun e w' => e = .returned (.tuple #[rowV zeroL, .int .i64 2]) ∧ Below w.heap.size w w' := by
  have hb := (Below.refl w.heap.size w).alloc (Nat.le_refl _) (.cells #[.int .i32 0, .int .i32 0, .int .i32 0, .int .i32 0, .int .i32 0, .int .i32 0, .int .i32 0, .int .i32 0, .int .i32 0, .int .i32 0, .int .i32 0, .int .i32 0, .int .i32 0, .int .i32 0, .int .i32 0, .int .i32 0, .int .i32 0, .int .i32 0, .int .i32 0, .int .i32 0, .int .i32 0, .int .i32 0, .int .i32 0, .int .i32 0] 26)
  have HB := Lib.hid hb
  have HT := Lib.hid (there_no (h.below hb))
  have HZ : Hid ((w.alloc (.cells #[.int .i32 0, .int .i32 0, .int .i32 0, .int .i32 0, .int .i32 0, .int .i32 0, .int .i32 0, .int .i32 0, .int .i32 0, .int .i32 0, .int .i32 0, .int .i32 0, .int .i32 0, .int .i32 0, .int .i32 0, .int .i32 0, .int .i32 0, .int .i32 0, .int .i32 0, .int .i32 0, .int .i32 0, .int .i32 0, .int .i32 0, .int .i32 0] 26)).heap[w.heap.size]? = some (.cells #[.int .i32 0, .int .i32 0, .int .i32 0, .int .i32 0, .int .i32 0, .int .i32 0, .int .i32 0, .int .i32 0, .int .i32 0, .int .i32 0, .int .i32 0, .int .i32 0, .int .i32 0, .int .i32 0, .int .i32 0, .int .i32 0, .int .i32 0, .int .i32 0, .int .i32 0, .int .i32 0, .int .i32 0, .int .i32 0, .int .i32 0, .int .i32 0] 26 (0, 0))) := heap_alloc_new w _
  clear h hb
  go_enter Try.func12, Try.ntmps12
  go_upto_region 1 with fail
  generalize w.alloc (.cells #[.int .i32 0, .int .i32 0, .int .i32 0, .int .i32 0, .int .i32 0, .int .i32 0, .int .i32 0, .int .i32 0, .int .i32 0, .int .i32 0, .int .i32 0, .int .i32 0, .int .i32 0, .int .i32 0, .int .i32 0, .int .i32 0, .int .i32 0, .int .i32 0, .int .i32 0, .int .i32 0, .int .i32 0, .int .i32 0, .int .i32 0, .int .i32 0] 26) = W at HB HT HZ ⊢
  go_wp2_with fail
  refine HT.out.mono ?_
  rintro e w1 ⟨rfl, rfl⟩
  clear HT
  go_wp2_with (refine wpList_storeRow _ rfl (.tmp 4) (.tmp 9) 26 rfl w.heap.size #[.int .i32 0, .int .i32 0, .int .i32 0, .int .i32 0, .int .i32 0, .int .i32 0, .int .i32 0, .int .i32 0, .int .i32 0, .int .i32 0, .int .i32 0, .int .i32 0, .int .i32 0, .int .i32 0, .int .i32 0, .int .i32 0, .int .i32 0, .int .i32 0, .int .i32 0, .int .i32 0, .int .i32 0, .int .i32 0, .int .i32 0, .int .i32 0] (List.map cellI zeroL).toArray rfl rfl HZ.out (by rw [show (List.map cellI zeroL).toArray.size = 24 by decide]; exact infoRow) (by decide) (by kernel_rfl) ?_)
  have HF : RowAt (w1.setRow w.heap.size (List.map cellI zeroL).toArray) w.heap.size zeroL := setRow_heap w1 w.heap.size _ _ _ (0, 0) HZ.out
  refine bodyPost_ret (rl_results3 Try.results12 (b := w.heap.size) (v := rowV zeroL) (u := .int .i64 2) rfl rfl (run_loadRow HF zeroL_ok.len)) rfl ⟨rfl, ?_⟩
  exact HB.out.trans ⟨rfl, rfl, rfl, by simp, fun k hk => setRow_other w1 w.heap.size k _ (by omega)⟩
attribute [-go_sem] storeVar
set_option maxHeartbeats 1600000 in
set_option maxRecDepth 100000 in
theorem new_no {w : World} {p : Value} (h : NoRel w p) : Calls Try.prog 6 #[p] w fun e w' => e = .returned (.tuple #[.pointer none, .int .i64 2]) ∧ Below w.heap.size w w' := by
  have HAT := Lib.hid (at_no h 0)
  have hst := fun u => store_rowX u zeroL (by decide)
  unfold rowV at HAT
  rcases h.form with rfl | ⟨t, rfl⟩
  all_goals
    clear h
    go_enter Try.func6, Try.ntmps6
    go_wp2_with fail
    refine HAT.out.mono ?_
    rintro e w1 ⟨rfl, b1⟩
    have hst1 := hst w1
    have HB1 := Lib.hid (b1.trans ((belowA (w := w1) (.cells (rowC zeroL) 26)).mono b1.size))
    obtain ⟨u1, hu1⟩ : ∃ u1, u1 = w1.alloc (.cells (rowC zeroL) 26) := ⟨_, rfl⟩
    rw [← hu1] at hst1 HB1
    clear hst hu1 b1 HAT
    go_wp2
    go_ret2
    exact ⟨rfl, HB1.out⟩
/-- a book that is not there: a nil pointer, or a zero struct -/
inductive NoBk (w : World) : Value → Prop
  | nil : NoBk w (.pointer none)
  | zero (t : Nat) (ty : TypeId) : RL w t ty [.pointer none, .map none] → NoBk w (.pointer (some ⟨t, 0, none⟩))
theorem NoBk.below {w w' : World} {p : Value} (h : NoBk w p) (b : Below w.heap.size w w') : NoBk w' p := by
  cases h with
  | nil => exact .nil
  | zero t ty h => exact .zero t ty (h.below b)
theorem NoBk.form {w : World} {p : Value} (h : NoBk w p) : p = .pointer none ∨ ∃ t, p = .pointer (some ⟨t, 0, none⟩) := by
  cases h with
  | nil => exact .inl rfl
  | zero t ty h => exact .inr ⟨t, rfl⟩
set_option maxHeartbeats 800000 in
set_option maxRecDepth 100000 in
theorem there_nob {w : World} {p : Value} (h : NoBk w p) : Calls Try.prog 40 #[p] w fun e w' => e = .returned (.bool false) ∧ w' = w := by
  cases h with
  | nil =>
    go_enter Try.func40, Try.ntmps40
    go_wp2
    go_ret
    exact ⟨rfl, rfl⟩
  | zero t ty h =>
    have l1 := load_mpm (RL.at h (j := 1) rfl)
    have hm : (binOp .neq 81 (.map none) (.map none)).run Try.prog w = .ok (.bool false) w := by kernel_rfl
    clear h
    go_enter Try.func40, Try.ntmps40
    go_wp2
    go_ret
    exact ⟨rfl, rfl⟩
set_option maxHeartbeats 800000 in
set_option maxRecDepth 100000 in
theorem ask_nob {w : World} {p : Value} (h : NoBk w p) (m : Int) : Calls Try.prog 34 #[p, .int .u32 m] w fun e w' => e = .returned (.tuple #[.pointer none, .int .i64 2]) ∧ w' = w := by
  have HT := Lib.hid (there_nob h)
  rcases h.form with rfl | ⟨t, rfl⟩
  all_goals
    clear h
    go_enter Try.func34, Try.ntmps34
    go_wp2_with fail
    refine HT.out.mono ?_
    rintro e w1 ⟨rfl, rfl⟩
    go_wp2
    go_ret2
    exact ⟨rfl, rfl⟩
set_option maxHeartbeats 1600000 in
set_option maxRecDepth 100000 in
theorem look_nob {w : World} {p : Value} (h : NoBk w p) (m : Int) {r : List Int} :
    Calls Try.prog 13 #[p, .int .u32 m, rowV r] w fun e w' => e = .returned (.tuple #[.slice none 0 0, .int .i64 2]) ∧ Below w.heap.size w w' := by
  have hb0 := belowA (w := w) (.cells (rowC r) 26)
  have HASK := Lib.hid (ask_nob (h.below hb0) m)
  have HB0 := Lib.hid hb0
  rcases h.form with rfl | ⟨t, rfl⟩
  all_goals
    clear h hb0
    unfold rowV
    go_enter Try.func13, Try.ntmps13
    go_wp2_with fail
    refine HASK.out.mono ?_
    rintro e w1 ⟨rfl, rfl⟩
    clear HASK
    go_wp2
    go_ret2
    exact ⟨rfl, HB0.out⟩
set_option maxHeartbeats 1600000 in
set_option maxRecDepth 100000 in
theorem count_nob {w : World} {p : Value} (h : NoBk w p) (m : Int) {r : List Int} :
    Calls Try.prog 14 #[p, .int .u32 m, rowV r] w fun e w' => e = .returned (.tuple #[.int .i64 0, .int .i64 2]) ∧ Below w.heap.size w w' := by
  have hb0 := belowA (w := w) (.cells (rowC r) 26)
  have HASK := Lib.hid (ask_nob (h.below hb0) m)
  have HB0 := Lib.hid hb0
  rcases h.form with rfl | ⟨t, rfl⟩
  all_goals
    clear h hb0
    unfold rowV
    go_enter Try.func14, Try.ntmps14
    go_wp2_with fail
    refine HASK.out.mono ?_
    rintro e w1 ⟨rfl, rfl⟩
    clear HASK
    go_wp2
    go_ret2
    exact ⟨rfl, HB0.out⟩
set_option maxHeartbeats 1600000 in
set_option maxRecDepth 100000 in
theorem distinct_nob {w : World} {p : Value} (h : NoBk w p) (m : Int) :
    Calls Try.prog 16 #[p, .int .u32 m] w fun e w' => e = .returned (.tuple #[.int .i64 0, .int .i64 2]) ∧ Below w.heap.size w w' := by
  have hb0 := Below.refl w.heap.size w
  have HASK := Lib.hid (ask_nob (h.below hb0) m)
  have HB0 := Lib.hid hb0
  rcases h.form with rfl | ⟨t, rfl⟩
  all_goals
    clear h hb0

    go_enter Try.func16, Try.ntmps16
    go_wp2_with fail
    refine HASK.out.mono ?_
    rintro e w1 ⟨rfl, rfl⟩
    clear HASK
    go_wp2
    go_ret2
    exact ⟨rfl, HB0.out⟩
set_option maxHeartbeats 800000 in
set_option maxRecDepth 100000 in
theorem seen_nob {w : World} {p : Value} (h : NoBk w p) (m : Int) : Calls Try.prog 20 #[p, .int .u32 m] w fun e w' => e = .returned (.int .i64 0) ∧ w' = w := by
  have HT := Lib.hid (there_nob (h.below (Below.refl _ _).drew))
  have HT2 := Lib.hid (there_nob h)
  rcases h.form with rfl | ⟨t, rfl⟩
  all_goals
    clear h
    go_enter Try.func20, Try.ntmps20
    go_wp2_with fail
    refine HT2.out.mono ?_
    rintro e w1 ⟨rfl, rfl⟩
    clear HT HT2
    go_wp2
    go_ret
    exact ⟨rfl, rfl⟩
set_option maxHeartbeats 800000 in
set_option maxRecDepth 100000 in
theorem masks_nob {w : World} {p : Value} (h : NoBk w p) : Calls Try.prog 19 #[p] w fun e w' => e = .returned (.slice none 0 0) ∧ Below w.heap.size w w' := by
  have HT := Lib.hid (there_nob h)
  rcases h.form with rfl | ⟨t, rfl⟩
  all_goals
    clear h
    go_enter Try.func19, Try.ntmps19
    go_wp2_with fail
    refine HT.out.mono ?_
    rintro e w1 ⟨rfl, rfl⟩
    go_wp2
    go_ret
    exact ⟨rfl, Below.refl _ _⟩
end Go.Proofs.Ytgeplijgcmdaeaa
