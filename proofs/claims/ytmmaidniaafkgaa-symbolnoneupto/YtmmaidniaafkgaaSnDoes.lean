import Derived.Test.YtmmaidniaafkgaaSnAsks
namespace Go.Proofs.Ytmmaidniaafkgaa
open Go.RowKit Go.Maps Go.Shelf
set_option linter.unusedVariables false
set_option linter.unusedSimpArgs false
attribute [local go_sem ↓] Go.wp_at_zero Go.wp_at_succ

theorem eql_V0 (w : World) : (binOp .eql 25 (.agg #[.int .i8 0, .int .i64 0, .string ⟨#[]⟩]) (.agg #[.int .i8 0, .int .i64 0, .string ⟨#[]⟩])).run Try.prog w = .ok (.bool true) w := by kernel_rfl
set_option maxHeartbeats 3200000 in
set_option maxRecDepth 100000 in
theorem does_1 {w : World} {t : Nat} {p : Value} (h : BothNo w t p) (on n m : Int) (v : V) (lv : Value) (r : List Int) : Calls Try.prog 4 #[.pointer (some ⟨t, 0, none⟩), .agg (opL on 1 n m v lv r).toArray] w fun e w' => e = .returned (.bool true) ∧ Below w.heap.size w w' := by
  have O := Lib.hid (opAt_new w on 1 n m v lv r)
  have HB := Lib.hid (belowA (w := w) (.cells (opL on 1 n m v lv r).toArray 31))
  have HN := Lib.hid (h.below HB.out)
  clear h
  go_enter Try.func4, Try.ntmps4
  go_upto_region 1 with fail
  generalize w.alloc (.cells (opL on 1 n m v lv r).toArray 31) = W at O HB HN ⊢
  have hc1 := O.out.c1
  go_upto_region 3 with fail
  clear hc1
  have hB0 : Below W.heap.size W W.drew := (Below.refl _ _).drew
  have HS : Hid (∀ u, Below W.heap.size W u → Below W.heap.size W u ∧ u.cell? ⟨t, 0, none⟩ = some p ∧ u.cell? ⟨w.heap.size, 4, none⟩ = some (.int .i8 v.k) ∧ u.cell? ⟨w.heap.size, 5, none⟩ = some (.int .i64 v.n) ∧ u.cell? ⟨w.heap.size, 6, none⟩ = some (.string v.s)) := fun u hu => ⟨hu, (HN.out.below hu).c0, (O.out.below hu).c4, (O.out.below hu).c5, (O.out.below hu).c6⟩
  go_region_held3 (fun u => Below W.heap.size W u ∧ u.cell? ⟨t, 0, none⟩ = some p ∧ u.cell? ⟨w.heap.size, 4, none⟩ = some (.int .i8 v.k) ∧ u.cell? ⟨w.heap.size, 5, none⟩ = some (.int .i64 v.n) ∧ u.cell? ⟨w.heap.size, 6, none⟩ = some (.string v.s))
    (first | assumption | exact HS.out _ hB0 | exact HS.out _ (by assumption))
    (first
      | (go_at_call 7; refine (add_no (HN.out.below hB0).no v).mono ?_; rintro ee w2 ⟨rfl, b2⟩; have b2' : Below W.heap.size W w2 := hB0.trans (b2.mono hB0.size); clear b2)
      | fail)
  simp only [Exit.then]
  go_at_K
  clear hB0 HS
  have HB2 := Lib.hid b2'
  have HS3 : Hid (∀ u, Below w2.heap.size w2 u → Below w2.heap.size w2 u ∧ u.cell? ⟨t, 1, none⟩ = some (.pointer none) ∧ u.cell? ⟨w.heap.size, 4, none⟩ = some (.int .i8 v.k) ∧ u.cell? ⟨w.heap.size, 5, none⟩ = some (.int .i64 v.n) ∧ u.cell? ⟨w.heap.size, 6, none⟩ = some (.string v.s)) := fun u hu => ⟨hu, (HN.out.below (HB2.out.trans (hu.mono HB2.out.size))).c1, (O.out.below (HB2.out.trans (hu.mono HB2.out.size))).c4, (O.out.below (HB2.out.trans (hu.mono HB2.out.size))).c5, (O.out.below (HB2.out.trans (hu.mono HB2.out.size))).c6⟩
  clear b2'
  go_upto_region 4 with fail
  have hB0 : Below w2.heap.size w2 w2.drew := (Below.refl _ _).drew
  go_region_held3 (fun u => Below w2.heap.size w2 u ∧ u.cell? ⟨t, 1, none⟩ = some (.pointer none) ∧ u.cell? ⟨w.heap.size, 4, none⟩ = some (.int .i8 v.k) ∧ u.cell? ⟨w.heap.size, 5, none⟩ = some (.int .i64 v.n) ∧ u.cell? ⟨w.heap.size, 6, none⟩ = some (.string v.s))
    (first | assumption | exact HS3.out _ hB0 | exact HS3.out _ (by assumption))
    (first
      | (go_at_call 8; refine (radd_nil v).mono ?_; rintro ee w3 ⟨rfl, b3⟩; have b3' : Below w2.heap.size w2 w3 := hB0.trans (b3.mono hB0.size); clear b3)
      | fail)
  all_goals
    go_wp2
    go_ret
    exact ⟨rfl, HB.out.trans ((HB2.out.trans (b3'.mono HB2.out.size)).mono HB.out.size)⟩
set_option maxHeartbeats 3200000 in
set_option maxRecDepth 100000 in
theorem does_2 {w : World} {t : Nat} {p : Value} (h : BothNo w t p) (on n m : Int) (v : V) (lv : Value) (r : List Int) : Calls Try.prog 4 #[.pointer (some ⟨t, 0, none⟩), .agg (opL on 2 n m v lv r).toArray] w fun e w' => e = .returned (.bool true) ∧ Below w.heap.size w w' := by
  have O := Lib.hid (opAt_new w on 2 n m v lv r)
  have HB := Lib.hid (belowA (w := w) (.cells (opL on 2 n m v lv r).toArray 31))
  have HN := Lib.hid (h.below HB.out)
  clear h
  go_enter Try.func4, Try.ntmps4
  go_upto_region 1 with fail
  generalize w.alloc (.cells (opL on 2 n m v lv r).toArray 31) = W at O HB HN ⊢
  have hc1 := O.out.c1
  go_upto_region 7 with fail
  clear hc1
  have hB0 : Below W.heap.size W W.drew := (Below.refl _ _).drew
  have HS : Hid (∀ u, Below W.heap.size W u → Below W.heap.size W u ∧ u.cell? ⟨t, 0, none⟩ = some p ∧ u.cell? ⟨w.heap.size, 4, none⟩ = some (.int .i8 v.k) ∧ u.cell? ⟨w.heap.size, 5, none⟩ = some (.int .i64 v.n) ∧ u.cell? ⟨w.heap.size, 6, none⟩ = some (.string v.s)) := fun u hu => ⟨hu, (HN.out.below hu).c0, (O.out.below hu).c4, (O.out.below hu).c5, (O.out.below hu).c6⟩
  go_region_held3 (fun u => Below W.heap.size W u ∧ u.cell? ⟨t, 0, none⟩ = some p ∧ u.cell? ⟨w.heap.size, 4, none⟩ = some (.int .i8 v.k) ∧ u.cell? ⟨w.heap.size, 5, none⟩ = some (.int .i64 v.n) ∧ u.cell? ⟨w.heap.size, 6, none⟩ = some (.string v.s))
    (first | assumption | exact HS.out _ hB0 | exact HS.out _ (by assumption))
    (first
      | (go_at_call 9; refine (find_no (HN.out.below hB0).no v).mono ?_; rintro ee w2 ⟨rfl, b2⟩; have b2' : Below W.heap.size W w2 := hB0.trans (b2.mono hB0.size); clear b2)
      | fail)
  simp only [Exit.then]
  go_at_K
  clear hB0 HS
  have HB2 := Lib.hid b2'
  have HS3 : Hid (∀ u, Below w2.heap.size w2 u → Below w2.heap.size w2 u ∧ u.cell? ⟨t, 1, none⟩ = some (.pointer none) ∧ u.cell? ⟨w.heap.size, 4, none⟩ = some (.int .i8 v.k) ∧ u.cell? ⟨w.heap.size, 5, none⟩ = some (.int .i64 v.n) ∧ u.cell? ⟨w.heap.size, 6, none⟩ = some (.string v.s)) := fun u hu => ⟨hu, (HN.out.below (HB2.out.trans (hu.mono HB2.out.size))).c1, (O.out.below (HB2.out.trans (hu.mono HB2.out.size))).c4, (O.out.below (HB2.out.trans (hu.mono HB2.out.size))).c5, (O.out.below (HB2.out.trans (hu.mono HB2.out.size))).c6⟩
  clear b2'
  go_upto_region 8 with fail
  have hB0 : Below w2.heap.size w2 w2.drew := (Below.refl _ _).drew
  go_region_held3 (fun u => Below w2.heap.size w2 u ∧ u.cell? ⟨t, 1, none⟩ = some (.pointer none) ∧ u.cell? ⟨w.heap.size, 4, none⟩ = some (.int .i8 v.k) ∧ u.cell? ⟨w.heap.size, 5, none⟩ = some (.int .i64 v.n) ∧ u.cell? ⟨w.heap.size, 6, none⟩ = some (.string v.s))
    (first | assumption | exact HS3.out _ hB0 | exact HS3.out _ (by assumption))
    (first
      | (go_at_call 10; refine (rfind_nil v).mono ?_; rintro ee w3 ⟨rfl, b3⟩; have b3' : Below w2.heap.size w2 w3 := hB0.trans (b3.mono hB0.size); clear b3)
      | fail)
  all_goals
    go_wp2
    go_ret
    exact ⟨rfl, HB.out.trans ((HB2.out.trans (b3'.mono HB2.out.size)).mono HB.out.size)⟩
set_option maxHeartbeats 3200000 in
set_option maxRecDepth 100000 in
theorem does_3 {w : World} {t : Nat} {p : Value} (h : BothNo w t p) (on n m : Int) (v : V) (lv : Value) (r : List Int) : Calls Try.prog 4 #[.pointer (some ⟨t, 0, none⟩), .agg (opL on 3 n m v lv r).toArray] w fun e w' => e = .returned (.bool true) ∧ Below w.heap.size w w' := by
  have O := Lib.hid (opAt_new w on 3 n m v lv r)
  have HB := Lib.hid (belowA (w := w) (.cells (opL on 3 n m v lv r).toArray 31))
  have HN := Lib.hid (h.below HB.out)
  clear h
  go_enter Try.func4, Try.ntmps4
  go_upto_region 1 with fail
  generalize w.alloc (.cells (opL on 3 n m v lv r).toArray 31) = W at O HB HN ⊢
  have hc1 := O.out.c1
  go_upto_region 11 with fail
  clear hc1
  have hB0 : Below W.heap.size W W.drew := (Below.refl _ _).drew
  have HS : Hid (∀ u, Below W.heap.size W u → Below W.heap.size W u ∧ u.cell? ⟨t, 0, none⟩ = some p ∧ u.cell? ⟨w.heap.size, 2, none⟩ = some (.int .i64 n)) := fun u hu => ⟨hu, (HN.out.below (hu)).c0, (O.out.below (hu)).c2⟩
  have HZ2 : ∀ u : World, Below (W.alloc (.cells #[.int .i8 0, .int .i64 0, .string ⟨#[]⟩] 25)).drew.heap.size (W.alloc (.cells #[.int .i8 0, .int .i64 0, .string ⟨#[]⟩] 25)).drew u → RL u W.heap.size 25 [.int .i8 0, .int .i64 0, .string ⟨#[]⟩] := fun u hu => ((rl_new W #[.int .i8 0, .int .i64 0, .string ⟨#[]⟩] 25).below (Below.refl _ _).drew).below hu
  have HA : Hid (∀ u, Below W.heap.size W u → ∀ s : Int, Calls Try.prog 11 #[p, .int .i32 s] u fun e w' => e = .returned (.tuple #[.agg #[.int .i8 0, .int .i64 0, .string ⟨#[]⟩], .int .i64 2]) ∧ Below u.heap.size u w' ∧ Below W.heap.size W w') :=
    fun u hu s => (value_no (HN.out.below hu).no s).mono fun e w' h => ⟨h.1, h.2, hu.trans (h.2.mono hu.size)⟩
  go_region_held3 (fun u => Below W.heap.size W u ∧ u.cell? ⟨t, 0, none⟩ = some p ∧ u.cell? ⟨w.heap.size, 2, none⟩ = some (.int .i64 n))
    (first | assumption | exact HS.out _ hB0 | exact HS.out _ b3 | exact HS.out _ (belowA _).drew | exact HS.out _ (b3.alloc b3.size _) | exact HS.out _ (((b3.setCell (p := ⟨W.heap.size, 0, none⟩) (Nat.le_refl _) _).setCell (p := ⟨W.heap.size, 1, none⟩) (Nat.le_refl _) _).setCell (p := ⟨W.heap.size, 2, none⟩) (Nat.le_refl _) _) | fail)
    (first
      | (go_at_call 11; refine (HA.out _ (by first | exact hB0 | exact (belowA _).drew) _).mono ?_; rintro ee w2 ⟨rfl, b2, b3⟩; (try (have rz := HZ2 w2 b2; have d0 := rz.at (j := 0) rfl; have d1 := rz.at (j := 1) rfl; have d2 := rz.at (j := 2) rfl; have f0 := rz.frozen 0; have f1 := rz.frozen 1; have f2 := rz.frozen 2)); clear b2)
      | fail)
  · simp only [Exit.then]
    go_at_K
    have F : Hid (Below W.heap.size W (w2.alloc (.cells #[.int .i8 0, .int .i64 0, .string ⟨#[]⟩] 25)) ∧ RL (w2.alloc (.cells #[.int .i8 0, .int .i64 0, .string ⟨#[]⟩] 25)) w2.heap.size 25 [.int .i8 0, .int .i64 0, .string ⟨#[]⟩]) := ⟨b3.alloc b3.size _, rl_new w2 #[.int .i8 0, .int .i64 0, .string ⟨#[]⟩] 25⟩
    clear b3 HS HZ2 HA hB0
    generalize w2.alloc (.cells #[.int .i8 0, .int .i64 0, .string ⟨#[]⟩] 25) = W9 at F ⊢
    generalize w2.heap.size = b9 at F ⊢
    have F9 := F
    have HW9 := Lib.hid F.out.1
    clear F
    go_upto_region 12 with fail
    have hB0 : Below W9.heap.size W9 W9.drew := (Below.refl _ _).drew
    have HS : Hid (∀ u, Below W9.heap.size W9 u → Below W9.heap.size W9 u ∧ u.cell? ⟨t, 1, none⟩ = some (.pointer none) ∧ u.cell? ⟨w.heap.size, 2, none⟩ = some (.int .i64 n)) := fun u hu => ⟨hu, (HN.out.below (HW9.out.trans (hu.mono HW9.out.size))).c1, (O.out.below (HW9.out.trans (hu.mono HW9.out.size))).c2⟩
    have HZ2 : ∀ u : World, Below (W9.alloc (.cells #[.int .i8 0, .int .i64 0, .string ⟨#[]⟩] 25)).drew.heap.size (W9.alloc (.cells #[.int .i8 0, .int .i64 0, .string ⟨#[]⟩] 25)).drew u → RL u W9.heap.size 25 [.int .i8 0, .int .i64 0, .string ⟨#[]⟩] := fun u hu => ((rl_new W9 #[.int .i8 0, .int .i64 0, .string ⟨#[]⟩] 25).below (Below.refl _ _).drew).below hu
    have HA : Hid (∀ u, Below W9.heap.size W9 u → ∀ s : Int, Calls Try.prog 12 #[.pointer none, .int .i32 s] u fun e w' => e = .returned (.tuple #[.agg #[.int .i8 0, .int .i64 0, .string ⟨#[]⟩], .int .i64 2]) ∧ Below u.heap.size u w' ∧ Below W9.heap.size W9 w') :=
      fun u hu s => (rvalue_nil s).mono fun e w' h => ⟨h.1, h.2, hu.trans (h.2.mono hu.size)⟩
    go_region_held3 (fun u => Below W9.heap.size W9 u ∧ u.cell? ⟨t, 1, none⟩ = some (.pointer none) ∧ u.cell? ⟨w.heap.size, 2, none⟩ = some (.int .i64 n))
      (first | assumption | exact HS.out _ hB0 | exact HS.out _ b3 | exact HS.out _ (belowA _).drew | exact HS.out _ (b3.alloc b3.size _) | exact HS.out _ (((b3.setCell (p := ⟨W9.heap.size, 0, none⟩) (Nat.le_refl _) _).setCell (p := ⟨W9.heap.size, 1, none⟩) (Nat.le_refl _) _).setCell (p := ⟨W9.heap.size, 2, none⟩) (Nat.le_refl _) _) | fail)
      (first
        | (go_at_call 12; refine (HA.out _ (by first | exact hB0 | exact (belowA _).drew) _).mono ?_; rintro ee w2 ⟨rfl, b2, b3⟩; (try (have rz := HZ2 w2 b2; have d0 := rz.at (j := 0) rfl; have d1 := rz.at (j := 1) rfl; have d2 := rz.at (j := 2) rfl; have f0 := rz.frozen 0; have f1 := rz.frozen 1; have f2 := rz.frozen 2)); clear b2)
        | fail)
    · simp only [Exit.then]
      go_at_K
      have F : Hid (Below W9.heap.size W9 (w2.alloc (.cells #[.int .i8 0, .int .i64 0, .string ⟨#[]⟩] 25)) ∧ RL (w2.alloc (.cells #[.int .i8 0, .int .i64 0, .string ⟨#[]⟩] 25)) w2.heap.size 25 [.int .i8 0, .int .i64 0, .string ⟨#[]⟩]) := ⟨b3.alloc b3.size _, rl_new w2 #[.int .i8 0, .int .i64 0, .string ⟨#[]⟩] 25⟩
      clear b3 HS HZ2 HA hB0
      generalize w2.alloc (.cells #[.int .i8 0, .int .i64 0, .string ⟨#[]⟩] 25) = W10 at F ⊢
      generalize w2.heap.size = b10 at F ⊢
      clear HW9
      have q0 := (F9.out.2.below F.out.1).at (j := 0) rfl
      have q1 := (F9.out.2.below F.out.1).at (j := 1) rfl
      have q2 := (F9.out.2.below F.out.1).at (j := 2) rfl
      have z0 := F.out.2.at (j := 0) rfl
      have z1 := F.out.2.at (j := 1) rfl
      have z2 := F.out.2.at (j := 2) rfl
      have hq := fun w => eql_V0 w
      have HE := Lib.hid (HB.out.trans ((F9.out.1.trans (F.out.1.mono F9.out.1.size)).mono HB.out.size))
      clear F F9 HB HN O
      go_wp2
      go_ret
      exact ⟨rfl, HE.out⟩
    · simp only [Exit.then]
      go_at_K
      have F1 : Hid (Below W9.heap.size W9 (((w2.setCell ⟨W9.heap.size, 0, none⟩ (.int .i8 0)).setCell ⟨W9.heap.size, 1, none⟩ (.int .i64 0)).setCell ⟨W9.heap.size, 2, none⟩ (.string ⟨#[]⟩))) := ((b3.setCell (p := ⟨W9.heap.size, 0, none⟩) (Nat.le_refl _) _).setCell (p := ⟨W9.heap.size, 1, none⟩) (Nat.le_refl _) _).setCell (p := ⟨W9.heap.size, 2, none⟩) (Nat.le_refl _) _
      have F2 : Hid (RL (((w2.setCell ⟨W9.heap.size, 0, none⟩ (.int .i8 0)).setCell ⟨W9.heap.size, 1, none⟩ (.int .i64 0)).setCell ⟨W9.heap.size, 2, none⟩ (.string ⟨#[]⟩)) W9.heap.size 25 [.int .i8 0, .int .i64 0, .string ⟨#[]⟩]) := ((rz.set 0 (.int .i8 0)).set 1 (.int .i64 0)).set 2 (.string ⟨#[]⟩)
      clear b3 rz d0 d1 d2 f0 f1 f2 HS HZ2 HA hB0
      generalize ((w2.setCell ⟨W9.heap.size, 0, none⟩ (.int .i8 0)).setCell ⟨W9.heap.size, 1, none⟩ (.int .i64 0)).setCell ⟨W9.heap.size, 2, none⟩ (.string ⟨#[]⟩) = W10 at F1 F2 ⊢
      generalize hb9 : W9.heap.size = b10 at F2 ⊢
      clear hb9
      have F : Hid (Below W9.heap.size W9 W10 ∧ RL W10 b10 25 [.int .i8 0, .int .i64 0, .string ⟨#[]⟩]) := ⟨F1.out, F2.out⟩
      clear F1 F2
      clear HW9
      have q0 := (F9.out.2.below F.out.1).at (j := 0) rfl
      have q1 := (F9.out.2.below F.out.1).at (j := 1) rfl
      have q2 := (F9.out.2.below F.out.1).at (j := 2) rfl
      have z0 := F.out.2.at (j := 0) rfl
      have z1 := F.out.2.at (j := 1) rfl
      have z2 := F.out.2.at (j := 2) rfl
      have hq := fun w => eql_V0 w
      have HE := Lib.hid (HB.out.trans ((F9.out.1.trans (F.out.1.mono F9.out.1.size)).mono HB.out.size))
      clear F F9 HB HN O
      go_wp2
      go_ret
      exact ⟨rfl, HE.out⟩
  · simp only [Exit.then]
    go_at_K
    have F1 : Hid (Below W.heap.size W (((w2.setCell ⟨W.heap.size, 0, none⟩ (.int .i8 0)).setCell ⟨W.heap.size, 1, none⟩ (.int .i64 0)).setCell ⟨W.heap.size, 2, none⟩ (.string ⟨#[]⟩))) := ((b3.setCell (p := ⟨W.heap.size, 0, none⟩) (Nat.le_refl _) _).setCell (p := ⟨W.heap.size, 1, none⟩) (Nat.le_refl _) _).setCell (p := ⟨W.heap.size, 2, none⟩) (Nat.le_refl _) _
    have F2 : Hid (RL (((w2.setCell ⟨W.heap.size, 0, none⟩ (.int .i8 0)).setCell ⟨W.heap.size, 1, none⟩ (.int .i64 0)).setCell ⟨W.heap.size, 2, none⟩ (.string ⟨#[]⟩)) W.heap.size 25 [.int .i8 0, .int .i64 0, .string ⟨#[]⟩]) := ((rz.set 0 (.int .i8 0)).set 1 (.int .i64 0)).set 2 (.string ⟨#[]⟩)
    clear b3 rz d0 d1 d2 f0 f1 f2 HS HZ2 HA hB0
    generalize ((w2.setCell ⟨W.heap.size, 0, none⟩ (.int .i8 0)).setCell ⟨W.heap.size, 1, none⟩ (.int .i64 0)).setCell ⟨W.heap.size, 2, none⟩ (.string ⟨#[]⟩) = W9 at F1 F2 ⊢
    generalize hb9 : W.heap.size = b9 at F2 ⊢
    clear hb9
    have F : Hid (Below W.heap.size W W9 ∧ RL W9 b9 25 [.int .i8 0, .int .i64 0, .string ⟨#[]⟩]) := ⟨F1.out, F2.out⟩
    clear F1 F2
    have F9 := F
    have HW9 := Lib.hid F.out.1
    clear F
    go_upto_region 12 with fail
    have hB0 : Below W9.heap.size W9 W9.drew := (Below.refl _ _).drew
    have HS : Hid (∀ u, Below W9.heap.size W9 u → Below W9.heap.size W9 u ∧ u.cell? ⟨t, 1, none⟩ = some (.pointer none) ∧ u.cell? ⟨w.heap.size, 2, none⟩ = some (.int .i64 n)) := fun u hu => ⟨hu, (HN.out.below (HW9.out.trans (hu.mono HW9.out.size))).c1, (O.out.below (HW9.out.trans (hu.mono HW9.out.size))).c2⟩
    have HZ2 : ∀ u : World, Below (W9.alloc (.cells #[.int .i8 0, .int .i64 0, .string ⟨#[]⟩] 25)).drew.heap.size (W9.alloc (.cells #[.int .i8 0, .int .i64 0, .string ⟨#[]⟩] 25)).drew u → RL u W9.heap.size 25 [.int .i8 0, .int .i64 0, .string ⟨#[]⟩] := fun u hu => ((rl_new W9 #[.int .i8 0, .int .i64 0, .string ⟨#[]⟩] 25).below (Below.refl _ _).drew).below hu
    have HA : Hid (∀ u, Below W9.heap.size W9 u → ∀ s : Int, Calls Try.prog 12 #[.pointer none, .int .i32 s] u fun e w' => e = .returned (.tuple #[.agg #[.int .i8 0, .int .i64 0, .string ⟨#[]⟩], .int .i64 2]) ∧ Below u.heap.size u w' ∧ Below W9.heap.size W9 w') :=
      fun u hu s => (rvalue_nil s).mono fun e w' h => ⟨h.1, h.2, hu.trans (h.2.mono hu.size)⟩
    go_region_held3 (fun u => Below W9.heap.size W9 u ∧ u.cell? ⟨t, 1, none⟩ = some (.pointer none) ∧ u.cell? ⟨w.heap.size, 2, none⟩ = some (.int .i64 n))
      (first | assumption | exact HS.out _ hB0 | exact HS.out _ b3 | exact HS.out _ (belowA _).drew | exact HS.out _ (b3.alloc b3.size _) | exact HS.out _ (((b3.setCell (p := ⟨W9.heap.size, 0, none⟩) (Nat.le_refl _) _).setCell (p := ⟨W9.heap.size, 1, none⟩) (Nat.le_refl _) _).setCell (p := ⟨W9.heap.size, 2, none⟩) (Nat.le_refl _) _) | fail)
      (first
        | (go_at_call 12; refine (HA.out _ (by first | exact hB0 | exact (belowA _).drew) _).mono ?_; rintro ee w2 ⟨rfl, b2, b3⟩; (try (have rz := HZ2 w2 b2; have d0 := rz.at (j := 0) rfl; have d1 := rz.at (j := 1) rfl; have d2 := rz.at (j := 2) rfl; have f0 := rz.frozen 0; have f1 := rz.frozen 1; have f2 := rz.frozen 2)); clear b2)
        | fail)
    · simp only [Exit.then]
      go_at_K
      have F : Hid (Below W9.heap.size W9 (w2.alloc (.cells #[.int .i8 0, .int .i64 0, .string ⟨#[]⟩] 25)) ∧ RL (w2.alloc (.cells #[.int .i8 0, .int .i64 0, .string ⟨#[]⟩] 25)) w2.heap.size 25 [.int .i8 0, .int .i64 0, .string ⟨#[]⟩]) := ⟨b3.alloc b3.size _, rl_new w2 #[.int .i8 0, .int .i64 0, .string ⟨#[]⟩] 25⟩
      clear b3 HS HZ2 HA hB0
      generalize w2.alloc (.cells #[.int .i8 0, .int .i64 0, .string ⟨#[]⟩] 25) = W10 at F ⊢
      generalize w2.heap.size = b10 at F ⊢
      clear HW9
      have q0 := (F9.out.2.below F.out.1).at (j := 0) rfl
      have q1 := (F9.out.2.below F.out.1).at (j := 1) rfl
      have q2 := (F9.out.2.below F.out.1).at (j := 2) rfl
      have z0 := F.out.2.at (j := 0) rfl
      have z1 := F.out.2.at (j := 1) rfl
      have z2 := F.out.2.at (j := 2) rfl
      have hq := fun w => eql_V0 w
      have HE := Lib.hid (HB.out.trans ((F9.out.1.trans (F.out.1.mono F9.out.1.size)).mono HB.out.size))
      clear F F9 HB HN O
      go_wp2
      go_ret
      exact ⟨rfl, HE.out⟩
    · simp only [Exit.then]
      go_at_K
      have F1 : Hid (Below W9.heap.size W9 (((w2.setCell ⟨W9.heap.size, 0, none⟩ (.int .i8 0)).setCell ⟨W9.heap.size, 1, none⟩ (.int .i64 0)).setCell ⟨W9.heap.size, 2, none⟩ (.string ⟨#[]⟩))) := ((b3.setCell (p := ⟨W9.heap.size, 0, none⟩) (Nat.le_refl _) _).setCell (p := ⟨W9.heap.size, 1, none⟩) (Nat.le_refl _) _).setCell (p := ⟨W9.heap.size, 2, none⟩) (Nat.le_refl _) _
      have F2 : Hid (RL (((w2.setCell ⟨W9.heap.size, 0, none⟩ (.int .i8 0)).setCell ⟨W9.heap.size, 1, none⟩ (.int .i64 0)).setCell ⟨W9.heap.size, 2, none⟩ (.string ⟨#[]⟩)) W9.heap.size 25 [.int .i8 0, .int .i64 0, .string ⟨#[]⟩]) := ((rz.set 0 (.int .i8 0)).set 1 (.int .i64 0)).set 2 (.string ⟨#[]⟩)
      clear b3 rz d0 d1 d2 f0 f1 f2 HS HZ2 HA hB0
      generalize ((w2.setCell ⟨W9.heap.size, 0, none⟩ (.int .i8 0)).setCell ⟨W9.heap.size, 1, none⟩ (.int .i64 0)).setCell ⟨W9.heap.size, 2, none⟩ (.string ⟨#[]⟩) = W10 at F1 F2 ⊢
      generalize hb9 : W9.heap.size = b10 at F2 ⊢
      clear hb9
      have F : Hid (Below W9.heap.size W9 W10 ∧ RL W10 b10 25 [.int .i8 0, .int .i64 0, .string ⟨#[]⟩]) := ⟨F1.out, F2.out⟩
      clear F1 F2
      clear HW9
      have q0 := (F9.out.2.below F.out.1).at (j := 0) rfl
      have q1 := (F9.out.2.below F.out.1).at (j := 1) rfl
      have q2 := (F9.out.2.below F.out.1).at (j := 2) rfl
      have z0 := F.out.2.at (j := 0) rfl
      have z1 := F.out.2.at (j := 1) rfl
      have z2 := F.out.2.at (j := 2) rfl
      have hq := fun w => eql_V0 w
      have HE := Lib.hid (HB.out.trans ((F9.out.1.trans (F.out.1.mono F9.out.1.size)).mono HB.out.size))
      clear F F9 HB HN O
      go_wp2
      go_ret
      exact ⟨rfl, HE.out⟩
attribute [-go_sem] loadVar
set_option maxHeartbeats 3200000 in
set_option maxRecDepth 100000 in
theorem does_ask {w : World} {t : Nat} {R : World → Prop} (on k n m : Int) (v : V) (lv : Value) (r : List Int) (hr : r.length = 24) (h1 : k ≠ 1) (h2 : k ≠ 2) (h3 : k ≠ 3) (h4 : k ≠ 4) (h5 : k ≠ 5) (h6 : k ≠ 6)
    (HA : Calls Try.prog 14 #[.pointer (some ⟨t, 0, none⟩), .agg (opL on k n m v lv r).toArray] (w.alloc (.cells (opL on k n m v lv r).toArray 31)) fun e w' => e = .returned (.bool true) ∧ R w') :
    Calls Try.prog 4 #[.pointer (some ⟨t, 0, none⟩), .agg (opL on k n m v lv r).toArray] w fun e w' => e = .returned (.bool true) ∧ R w' := by
  have O := Lib.hid (opAt_new w on k n m v lv r)
  have HC := Lib.hid HA
  have e1 : ((k : Int) == 1) = false := by simpa using h1
  have e2 : ((k : Int) == 2) = false := by simpa using h2
  have e3 : ((k : Int) == 3) = false := by simpa using h3
  have e4 : ((k : Int) == 4) = false := by simpa using h4
  have e5 : ((k : Int) == 5) = false := by simpa using h5
  have e6 : ((k : Int) == 6) = false := by simpa using h6
  clear h1 h2 h3 h4 h5 h6
  clear HA
  go_enter Try.func4, Try.ntmps4
  go_upto_region 1 with fail
  generalize w.alloc (.cells (opL on k n m v lv r).toArray 31) = W at O HC ⊢
  have hc1 := run_loadInt O.out.c1
  have hld := O.out.load hr
  clear O
  go_wp2_with fail
  refine HC.out.mono ?_
  rintro e w2 ⟨rfl, hR⟩
  have HR := Lib.hid hR
  clear hR HC
  go_wp2
  go_ret
  exact ⟨rfl, HR.out⟩
set_option maxHeartbeats 3200000 in
set_option maxRecDepth 100000 in
theorem does_rows4 {w : World} {t : Nat} {R : World → Prop} (on n m : Int) (v : V) (lv : Value) (r : List Int) (hr : r.length = 24) 
    (HA : Calls Try.prog 13 #[.pointer (some ⟨t, 0, none⟩), .agg (opL on 4 n m v lv r).toArray] (w.alloc (.cells (opL on 4 n m v lv r).toArray 31)) fun e w' => e = .returned (.bool true) ∧ R w') :
    Calls Try.prog 4 #[.pointer (some ⟨t, 0, none⟩), .agg (opL on 4 n m v lv r).toArray] w fun e w' => e = .returned (.bool true) ∧ R w' := by
  have O := Lib.hid (opAt_new w on 4 n m v lv r)
  have HC := Lib.hid HA
  clear HA
  go_enter Try.func4, Try.ntmps4
  go_upto_region 1 with fail
  generalize w.alloc (.cells (opL on 4 n m v lv r).toArray 31) = W at O HC ⊢
  have hc1 := run_loadInt O.out.c1
  have hld := O.out.load hr
  clear O
  go_wp2_with fail
  refine HC.out.mono ?_
  rintro e w2 ⟨rfl, hR⟩
  have HR := Lib.hid hR
  clear hR HC
  go_wp2
  go_ret
  exact ⟨rfl, HR.out⟩
set_option maxHeartbeats 3200000 in
set_option maxRecDepth 100000 in
theorem does_rows5 {w : World} {t : Nat} {R : World → Prop} (on n m : Int) (v : V) (lv : Value) (r : List Int) (hr : r.length = 24) 
    (HA : Calls Try.prog 13 #[.pointer (some ⟨t, 0, none⟩), .agg (opL on 5 n m v lv r).toArray] (w.alloc (.cells (opL on 5 n m v lv r).toArray 31)) fun e w' => e = .returned (.bool true) ∧ R w') :
    Calls Try.prog 4 #[.pointer (some ⟨t, 0, none⟩), .agg (opL on 5 n m v lv r).toArray] w fun e w' => e = .returned (.bool true) ∧ R w' := by
  have O := Lib.hid (opAt_new w on 5 n m v lv r)
  have HC := Lib.hid HA
  clear HA
  go_enter Try.func4, Try.ntmps4
  go_upto_region 1 with fail
  generalize w.alloc (.cells (opL on 5 n m v lv r).toArray 31) = W at O HC ⊢
  have hc1 := run_loadInt O.out.c1
  have hld := O.out.load hr
  clear O
  go_wp2_with fail
  refine HC.out.mono ?_
  rintro e w2 ⟨rfl, hR⟩
  have HR := Lib.hid hR
  clear hR HC
  go_wp2
  go_ret
  exact ⟨rfl, HR.out⟩
set_option maxHeartbeats 3200000 in
set_option maxRecDepth 100000 in
theorem does_rows6 {w : World} {t : Nat} {R : World → Prop} (on n m : Int) (v : V) (lv : Value) (r : List Int) (hr : r.length = 24) 
    (HA : Calls Try.prog 13 #[.pointer (some ⟨t, 0, none⟩), .agg (opL on 6 n m v lv r).toArray] (w.alloc (.cells (opL on 6 n m v lv r).toArray 31)) fun e w' => e = .returned (.bool true) ∧ R w') :
    Calls Try.prog 4 #[.pointer (some ⟨t, 0, none⟩), .agg (opL on 6 n m v lv r).toArray] w fun e w' => e = .returned (.bool true) ∧ R w' := by
  have O := Lib.hid (opAt_new w on 6 n m v lv r)
  have HC := Lib.hid HA
  clear HA
  go_enter Try.func4, Try.ntmps4
  go_upto_region 1 with fail
  generalize w.alloc (.cells (opL on 6 n m v lv r).toArray 31) = W at O HC ⊢
  have hc1 := run_loadInt O.out.c1
  have hld := O.out.load hr
  clear O
  go_wp2_with fail
  refine HC.out.mono ?_
  rintro e w2 ⟨rfl, hR⟩
  have HR := Lib.hid hR
  clear hR HC
  go_wp2
  go_ret
  exact ⟨rfl, HR.out⟩
end Go.Proofs.Ytmmaidniaafkgaa
