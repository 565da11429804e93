import Derived.Test.YtihngojkcacgdaaRelNoDoes
namespace Go.Proofs.Ytihngojkcacgdaa
open Go.RowKit Go.Maps Go.Shelf
set_option linter.unusedVariables false
set_option linter.unusedSimpArgs false
attribute [local go_sem ↓] Go.wp_at_zero Go.wp_at_succ

theorem RowAt.thereZ {w : World} {b : Nat} {r : List Int} (h : RowAt w b r) (hr : r.length = 24) : w.there b 0 24 := fun j hj => by
  have h1 : w.heap[b]? = some (.cells (rowC r) 26 (0, 0)) := h
  have h2 : j < r.length := by omega
  simp [World.cell?, World.frozen?, h1, rowC, h2]
theorem below_setCells {B : Nat} {a : World} (b : Nat) (hb : B ≤ b) : ∀ (vs : List Value) (o : Nat) {w : World}, Below B a w → Below B a (w.setCells b o vs)
  | [], _, _, h => h
  | v :: vs, o, w, h => below_setCells b hb vs (o + 1) (w := w.setCell ⟨b, o, none⟩ v) (h.setCell (p := ⟨b, o, none⟩) hb v)
theorem rangeAt_below {w w' : World} {b : Nat} {cs : List Value} (h : w.rangeAt b 0 cs) (hlt : b < w.heap.size) (hb : Below w.heap.size w w') : w'.rangeAt b 0 cs := fun j v hv => by
  show w'.cell? ⟨b, 0 + j, none⟩ = some v
  rw [hb.cell (by exact hlt)]
  exact h j v hv
theorem eql_rows (w : World) : (binOp .eql 26 (.agg (List.map cellI zeroL).toArray) (.agg (List.map cellI zeroL).toArray)).run Try.prog w = .ok (.bool true) w := by kernel_rfl
theorem there_lt {w : World} {b : Nat} (h : w.there b 0 24) : b < w.heap.size := by
  have h1 := h 0 (by omega)
  refine Nat.lt_of_not_le fun hn => ?_
  have h2 : w.heap[b]? = none := Array.getElem?_eq_none hn
  simp [World.cell?, h2] at h1
attribute [-go_sem] loadVar
set_option maxHeartbeats 6400000 in
set_option maxRecDepth 100000 in
theorem does_3 {w : World} {t : Nat} {p : Value} (h : BothNo w t p) (on n m mask : Int) (r : List Int) (hr : r.length = 24) : Calls Try.prog 4 #[.pointer (some ⟨t, 0, none⟩), .agg (opL on 3 n m mask r).toArray] w fun e w' => e = .returned (.bool true) ∧ Below w.heap.size w w' := by
  have O := Lib.hid (opAt_new w on 3 n m mask r)
  have HB := Lib.hid (belowA (w := w) (.cells (opL on 3 n m mask r).toArray 28))
  have HN := Lib.hid (h.below HB.out)
  have hur := Try.underlying26
  have hlz : (List.map cellI zeroL).length = 24 := by decide
  have hir : (Try.prog.info? 26).map (·.size) = some (List.map cellI zeroL).length := by rw [hlz]; exact infoRow
  have hoz : ∀ v ∈ List.map cellI zeroL, v.oneCell' = true := by decide
  have HQ := Lib.hid (fun w => eql_rows w)
  clear h
  go_enter Try.func4, Try.ntmps4
  go_upto_region 1 with fail
  generalize w.alloc (.cells (opL on 3 n m mask r).toArray 28) = W at O HB HN ⊢
  have hc1 := run_loadInt O.out.c1
  go_upto_region 9 with fail
  clear hc1
  have HT1 : ∀ u : World, (u.alloc (.cells #[.int .i32 0, .int .i32 0, .int .i32 0, .int .i32 0, .int .i32 0, .int .i32 0, .int .i32 0, .int .i32 0, .int .i32 0, .int .i32 0, .int .i32 0, .int .i32 0, .int .i32 0, .int .i32 0, .int .i32 0, .int .i32 0, .int .i32 0, .int .i32 0, .int .i32 0, .int .i32 0, .int .i32 0, .int .i32 0, .int .i32 0, .int .i32 0] 26)).there u.heap.size 0 24 := fun u => RowAt.thereZ (rowAt_new u zeroL) rfl
  have hB0 : Below W.heap.size W W.drew := (Below.refl _ _).drew
  have HS : Hid (∀ u, Below W.heap.size W u → Below W.heap.size W u ∧ (loadVar 29 ⟨t, 0, none⟩).run Try.prog u = .ok (p) u ∧ (loadVar 3 ⟨w.heap.size, 2, none⟩).run Try.prog u = .ok (.int .i64 n) u) := fun u hu => ⟨hu, run_loadRel (HN.out.below (hu)).c0, run_loadInt (O.out.below (hu)).c2⟩
  have HT2 : ∀ u : World, Below (W.alloc (.cells #[.int .i32 0, .int .i32 0, .int .i32 0, .int .i32 0, .int .i32 0, .int .i32 0, .int .i32 0, .int .i32 0, .int .i32 0, .int .i32 0, .int .i32 0, .int .i32 0, .int .i32 0, .int .i32 0, .int .i32 0, .int .i32 0, .int .i32 0, .int .i32 0, .int .i32 0, .int .i32 0, .int .i32 0, .int .i32 0, .int .i32 0, .int .i32 0] 26)).drew.heap.size (W.alloc (.cells #[.int .i32 0, .int .i32 0, .int .i32 0, .int .i32 0, .int .i32 0, .int .i32 0, .int .i32 0, .int .i32 0, .int .i32 0, .int .i32 0, .int .i32 0, .int .i32 0, .int .i32 0, .int .i32 0, .int .i32 0, .int .i32 0, .int .i32 0, .int .i32 0, .int .i32 0, .int .i32 0, .int .i32 0, .int .i32 0, .int .i32 0, .int .i32 0] 26)).drew u → u.there W.heap.size 0 24 := fun u hu => RowAt.thereZ (((rowAt_new W zeroL).below (Below.refl _ _).drew).below hu) rfl
  have HA : Hid (∀ u, Below W.heap.size W u → Calls Try.prog 12 #[p, .int .i64 n] u fun e w' => e = .returned (.tuple #[.agg (List.map cellI zeroL).toArray, .int .i64 2]) ∧ Below u.heap.size u w' ∧ Below W.heap.size W w') :=
    fun u hu => (at_no (HN.out.below hu).no n).mono fun e w' h => ⟨h.1, h.2, hu.trans (h.2.mono hu.size)⟩
  have HR : Hid (∀ u, Calls Try.prog 13 #[.pointer none, .int .i64 n] u fun e w' => e = .returned (.tuple #[.agg (List.map cellI zeroL).toArray, .int .i64 2]) ∧ Below u.heap.size u w') := fun u => rat_nil n u
  generalize List.map cellI zeroL = Z0 at hlz hir hoz HA HQ HR ⊢
  go_region_held3 (fun u => Below W.heap.size W u ∧ (loadVar 29 ⟨t, 0, none⟩).run Try.prog u = .ok (p) u ∧ (loadVar 3 ⟨w.heap.size, 2, none⟩).run Try.prog u = .ok (.int .i64 n) u)
    (first | assumption | exact HS.out _ hB0 | exact HS.out _ b3 | exact HS.out _ (hB0.alloc (Nat.le_refl _) _) | exact HS.out _ (b3.alloc b3.size _) | exact HS.out _ (belowA _).drew | exact HS.out _ (below_setCells _ b3.size _ _ (b3.alloc b3.size _)) | exact HS.out _ (below_setCells _ (Nat.le_refl _) _ _ b3) | fail)
    (first
      | (go_at_call 12; refine (HA.out _ (by first | exact hB0 | exact (belowA _).drew)).mono ?_; rintro ee w2 ⟨rfl, b2, b3⟩; (try have ht2 := HT2 w2 b2); clear b2)
      | fail)
  · simp only [Exit.then]
    go_at_K
    have F : Hid (Below W.heap.size W ((w2.alloc (.cells #[.int .i32 0, .int .i32 0, .int .i32 0, .int .i32 0, .int .i32 0, .int .i32 0, .int .i32 0, .int .i32 0, .int .i32 0, .int .i32 0, .int .i32 0, .int .i32 0, .int .i32 0, .int .i32 0, .int .i32 0, .int .i32 0, .int .i32 0, .int .i32 0, .int .i32 0, .int .i32 0, .int .i32 0, .int .i32 0, .int .i32 0, .int .i32 0] 26)).setCells w2.heap.size 0 Z0) ∧ ((w2.alloc (.cells #[.int .i32 0, .int .i32 0, .int .i32 0, .int .i32 0, .int .i32 0, .int .i32 0, .int .i32 0, .int .i32 0, .int .i32 0, .int .i32 0, .int .i32 0, .int .i32 0, .int .i32 0, .int .i32 0, .int .i32 0, .int .i32 0, .int .i32 0, .int .i32 0, .int .i32 0, .int .i32 0, .int .i32 0, .int .i32 0, .int .i32 0, .int .i32 0] 26)).setCells w2.heap.size 0 Z0).rangeAt w2.heap.size 0 Z0 ∧ w2.heap.size < ((w2.alloc (.cells #[.int .i32 0, .int .i32 0, .int .i32 0, .int .i32 0, .int .i32 0, .int .i32 0, .int .i32 0, .int .i32 0, .int .i32 0, .int .i32 0, .int .i32 0, .int .i32 0, .int .i32 0, .int .i32 0, .int .i32 0, .int .i32 0, .int .i32 0, .int .i32 0, .int .i32 0, .int .i32 0, .int .i32 0, .int .i32 0, .int .i32 0, .int .i32 0] 26)).setCells w2.heap.size 0 Z0).heap.size) :=
      ⟨below_setCells _ b3.size _ _ (b3.alloc b3.size _), World.rangeAt_setCells_same _ _ _ _ (by rw [hlz]; exact HT1 w2), Nat.lt_of_lt_of_le (by simp) (Below.size (below_setCells (B := 0) _ (Nat.zero_le _) _ _ (Below.refl 0 (w2.alloc (.cells #[.int .i32 0, .int .i32 0, .int .i32 0, .int .i32 0, .int .i32 0, .int .i32 0, .int .i32 0, .int .i32 0, .int .i32 0, .int .i32 0, .int .i32 0, .int .i32 0, .int .i32 0, .int .i32 0, .int .i32 0, .int .i32 0, .int .i32 0, .int .i32 0, .int .i32 0, .int .i32 0, .int .i32 0, .int .i32 0, .int .i32 0, .int .i32 0] 26)))))⟩
    clear b3 HS HT2 HA hB0
    generalize (w2.alloc (.cells #[.int .i32 0, .int .i32 0, .int .i32 0, .int .i32 0, .int .i32 0, .int .i32 0, .int .i32 0, .int .i32 0, .int .i32 0, .int .i32 0, .int .i32 0, .int .i32 0, .int .i32 0, .int .i32 0, .int .i32 0, .int .i32 0, .int .i32 0, .int .i32 0, .int .i32 0, .int .i32 0, .int .i32 0, .int .i32 0, .int .i32 0, .int .i32 0] 26)).setCells w2.heap.size 0 Z0 = W9 at F ⊢
    generalize w2.heap.size = b9 at F ⊢
    have F9 := F
    have HW9 := Lib.hid F.out.1
    clear F
    go_upto_region 10 with fail
    have hB0 : Below W9.heap.size W9 W9.drew := (Below.refl _ _).drew
    have HS : Hid (∀ u, Below W9.heap.size W9 u → Below W9.heap.size W9 u ∧ (loadVar 30 ⟨t, 1, none⟩).run Try.prog u = .ok (.pointer none) u ∧ (loadVar 3 ⟨w.heap.size, 2, none⟩).run Try.prog u = .ok (.int .i64 n) u) := fun u hu => ⟨hu, run_loadRef (HN.out.below (HW9.out.trans (hu.mono HW9.out.size))).c1, run_loadInt (O.out.below (HW9.out.trans (hu.mono HW9.out.size))).c2⟩
    have HT2 : ∀ u : World, Below (W9.alloc (.cells #[.int .i32 0, .int .i32 0, .int .i32 0, .int .i32 0, .int .i32 0, .int .i32 0, .int .i32 0, .int .i32 0, .int .i32 0, .int .i32 0, .int .i32 0, .int .i32 0, .int .i32 0, .int .i32 0, .int .i32 0, .int .i32 0, .int .i32 0, .int .i32 0, .int .i32 0, .int .i32 0, .int .i32 0, .int .i32 0, .int .i32 0, .int .i32 0] 26)).drew.heap.size (W9.alloc (.cells #[.int .i32 0, .int .i32 0, .int .i32 0, .int .i32 0, .int .i32 0, .int .i32 0, .int .i32 0, .int .i32 0, .int .i32 0, .int .i32 0, .int .i32 0, .int .i32 0, .int .i32 0, .int .i32 0, .int .i32 0, .int .i32 0, .int .i32 0, .int .i32 0, .int .i32 0, .int .i32 0, .int .i32 0, .int .i32 0, .int .i32 0, .int .i32 0] 26)).drew u → u.there W9.heap.size 0 24 := fun u hu => RowAt.thereZ (((rowAt_new W9 zeroL).below (Below.refl _ _).drew).below hu) rfl
    have HA : Hid (∀ u, Below W9.heap.size W9 u → Calls Try.prog 13 #[.pointer none, .int .i64 n] u fun e w' => e = .returned (.tuple #[.agg Z0.toArray, .int .i64 2]) ∧ Below u.heap.size u w' ∧ Below W9.heap.size W9 w') :=
      fun u hu => (HR.out u).mono fun e w' h => ⟨h.1, h.2, hu.trans (h.2.mono hu.size)⟩
    go_region_held3 (fun u => Below W9.heap.size W9 u ∧ (loadVar 30 ⟨t, 1, none⟩).run Try.prog u = .ok (.pointer none) u ∧ (loadVar 3 ⟨w.heap.size, 2, none⟩).run Try.prog u = .ok (.int .i64 n) u)
      (first | assumption | exact HS.out _ hB0 | exact HS.out _ b3 | exact HS.out _ (hB0.alloc (Nat.le_refl _) _) | exact HS.out _ (b3.alloc b3.size _) | exact HS.out _ (belowA _).drew | exact HS.out _ (below_setCells _ b3.size _ _ (b3.alloc b3.size _)) | exact HS.out _ (below_setCells _ (Nat.le_refl _) _ _ b3) | fail)
      (first
        | (go_at_call 13; refine (HA.out _ (by first | exact hB0 | exact (belowA _).drew)).mono ?_; rintro ee w2 ⟨rfl, b2, b3⟩; (try have ht2 := HT2 w2 b2); clear b2)
        | fail)
    · simp only [Exit.then]
      go_at_K
      have F : Hid (Below W9.heap.size W9 ((w2.alloc (.cells #[.int .i32 0, .int .i32 0, .int .i32 0, .int .i32 0, .int .i32 0, .int .i32 0, .int .i32 0, .int .i32 0, .int .i32 0, .int .i32 0, .int .i32 0, .int .i32 0, .int .i32 0, .int .i32 0, .int .i32 0, .int .i32 0, .int .i32 0, .int .i32 0, .int .i32 0, .int .i32 0, .int .i32 0, .int .i32 0, .int .i32 0, .int .i32 0] 26)).setCells w2.heap.size 0 Z0) ∧ ((w2.alloc (.cells #[.int .i32 0, .int .i32 0, .int .i32 0, .int .i32 0, .int .i32 0, .int .i32 0, .int .i32 0, .int .i32 0, .int .i32 0, .int .i32 0, .int .i32 0, .int .i32 0, .int .i32 0, .int .i32 0, .int .i32 0, .int .i32 0, .int .i32 0, .int .i32 0, .int .i32 0, .int .i32 0, .int .i32 0, .int .i32 0, .int .i32 0, .int .i32 0] 26)).setCells w2.heap.size 0 Z0).rangeAt w2.heap.size 0 Z0 ∧ w2.heap.size < ((w2.alloc (.cells #[.int .i32 0, .int .i32 0, .int .i32 0, .int .i32 0, .int .i32 0, .int .i32 0, .int .i32 0, .int .i32 0, .int .i32 0, .int .i32 0, .int .i32 0, .int .i32 0, .int .i32 0, .int .i32 0, .int .i32 0, .int .i32 0, .int .i32 0, .int .i32 0, .int .i32 0, .int .i32 0, .int .i32 0, .int .i32 0, .int .i32 0, .int .i32 0] 26)).setCells w2.heap.size 0 Z0).heap.size) :=
        ⟨below_setCells _ b3.size _ _ (b3.alloc b3.size _), World.rangeAt_setCells_same _ _ _ _ (by rw [hlz]; exact HT1 w2), Nat.lt_of_lt_of_le (by simp) (Below.size (below_setCells (B := 0) _ (Nat.zero_le _) _ _ (Below.refl 0 (w2.alloc (.cells #[.int .i32 0, .int .i32 0, .int .i32 0, .int .i32 0, .int .i32 0, .int .i32 0, .int .i32 0, .int .i32 0, .int .i32 0, .int .i32 0, .int .i32 0, .int .i32 0, .int .i32 0, .int .i32 0, .int .i32 0, .int .i32 0, .int .i32 0, .int .i32 0, .int .i32 0, .int .i32 0, .int .i32 0, .int .i32 0, .int .i32 0, .int .i32 0] 26)))))⟩
      clear b3 HS HT2 HA hB0
      generalize (w2.alloc (.cells #[.int .i32 0, .int .i32 0, .int .i32 0, .int .i32 0, .int .i32 0, .int .i32 0, .int .i32 0, .int .i32 0, .int .i32 0, .int .i32 0, .int .i32 0, .int .i32 0, .int .i32 0, .int .i32 0, .int .i32 0, .int .i32 0, .int .i32 0, .int .i32 0, .int .i32 0, .int .i32 0, .int .i32 0, .int .i32 0, .int .i32 0, .int .i32 0] 26)).setCells w2.heap.size 0 Z0 = W10 at F ⊢
      generalize w2.heap.size = b10 at F ⊢
      clear HW9
      have l9 : (loadVar 26 ⟨b9, 0, none⟩).run Try.prog W10 = .ok (.agg Z0.toArray) W10 := run_loadVar_mid W10 b9 0 26 Z0 _ (rangeAt_below F9.out.2.1 F9.out.2.2 F.out.1) hur rfl hir
      have l10 : (loadVar 26 ⟨b10, 0, none⟩).run Try.prog W10 = .ok (.agg Z0.toArray) W10 := run_loadVar_mid W10 b10 0 26 Z0 _ F.out.2.1 hur rfl hir
      have hq := HQ.out
      have HE := Lib.hid (HB.out.trans ((F9.out.1.trans (F.out.1.mono F9.out.1.size)).mono HB.out.size))
      clear F F9 HB HN O HQ HR hur hir hoz hlz HT1
      go_wp2
      go_ret
      exact ⟨rfl, HE.out⟩
    · simp only [Exit.then]
      go_at_K
      have F : Hid (Below W9.heap.size W9 (w2.setCells W9.heap.size 0 Z0) ∧ (w2.setCells W9.heap.size 0 Z0).rangeAt W9.heap.size 0 Z0 ∧ W9.heap.size < (w2.setCells W9.heap.size 0 Z0).heap.size) :=
        ⟨below_setCells _ (Nat.le_refl _) _ _ b3, World.rangeAt_setCells_same _ _ _ _ (by rw [hlz]; exact ht2), Nat.lt_of_lt_of_le (there_lt ht2) (Below.size (below_setCells (B := 0) _ (Nat.zero_le _) _ _ (Below.refl 0 w2)))⟩
      clear b3 ht2 HS HT2 HA hB0
      generalize w2.setCells W9.heap.size 0 Z0 = W10 at F ⊢
      have F1 := Lib.hid F.out.1
      have F2 := Lib.hid F.out.2
      clear F
      generalize hb9 : W9.heap.size = b10 at F2 ⊢
      clear hb9
      have F : Hid (Below W9.heap.size W9 W10 ∧ W10.rangeAt b10 0 Z0 ∧ b10 < W10.heap.size) := ⟨F1.out, F2.out⟩
      clear F1 F2
      clear HW9
      have l9 : (loadVar 26 ⟨b9, 0, none⟩).run Try.prog W10 = .ok (.agg Z0.toArray) W10 := run_loadVar_mid W10 b9 0 26 Z0 _ (rangeAt_below F9.out.2.1 F9.out.2.2 F.out.1) hur rfl hir
      have l10 : (loadVar 26 ⟨b10, 0, none⟩).run Try.prog W10 = .ok (.agg Z0.toArray) W10 := run_loadVar_mid W10 b10 0 26 Z0 _ F.out.2.1 hur rfl hir
      have hq := HQ.out
      have HE := Lib.hid (HB.out.trans ((F9.out.1.trans (F.out.1.mono F9.out.1.size)).mono HB.out.size))
      clear F F9 HB HN O HQ HR hur hir hoz hlz HT1
      go_wp2
      go_ret
      exact ⟨rfl, HE.out⟩
  · simp only [Exit.then]
    go_at_K
    have F : Hid (Below W.heap.size W (w2.setCells W.heap.size 0 Z0) ∧ (w2.setCells W.heap.size 0 Z0).rangeAt W.heap.size 0 Z0 ∧ W.heap.size < (w2.setCells W.heap.size 0 Z0).heap.size) :=
      ⟨below_setCells _ (Nat.le_refl _) _ _ b3, World.rangeAt_setCells_same _ _ _ _ (by rw [hlz]; exact ht2), Nat.lt_of_lt_of_le (there_lt ht2) (Below.size (below_setCells (B := 0) _ (Nat.zero_le _) _ _ (Below.refl 0 w2)))⟩
    clear b3 ht2 HS HT2 HA hB0
    generalize w2.setCells W.heap.size 0 Z0 = W9 at F ⊢
    have F1 := Lib.hid F.out.1
    have F2 := Lib.hid F.out.2
    clear F
    generalize hb9 : W.heap.size = b9 at F2 ⊢
    clear hb9
    have F : Hid (Below W.heap.size W W9 ∧ W9.rangeAt b9 0 Z0 ∧ b9 < W9.heap.size) := ⟨F1.out, F2.out⟩
    clear F1 F2
    have F9 := F
    have HW9 := Lib.hid F.out.1
    clear F
    go_upto_region 10 with fail
    have hB0 : Below W9.heap.size W9 W9.drew := (Below.refl _ _).drew
    have HS : Hid (∀ u, Below W9.heap.size W9 u → Below W9.heap.size W9 u ∧ (loadVar 30 ⟨t, 1, none⟩).run Try.prog u = .ok (.pointer none) u ∧ (loadVar 3 ⟨w.heap.size, 2, none⟩).run Try.prog u = .ok (.int .i64 n) u) := fun u hu => ⟨hu, run_loadRef (HN.out.below (HW9.out.trans (hu.mono HW9.out.size))).c1, run_loadInt (O.out.below (HW9.out.trans (hu.mono HW9.out.size))).c2⟩
    have HT2 : ∀ u : World, Below (W9.alloc (.cells #[.int .i32 0, .int .i32 0, .int .i32 0, .int .i32 0, .int .i32 0, .int .i32 0, .int .i32 0, .int .i32 0, .int .i32 0, .int .i32 0, .int .i32 0, .int .i32 0, .int .i32 0, .int .i32 0, .int .i32 0, .int .i32 0, .int .i32 0, .int .i32 0, .int .i32 0, .int .i32 0, .int .i32 0, .int .i32 0, .int .i32 0, .int .i32 0] 26)).drew.heap.size (W9.alloc (.cells #[.int .i32 0, .int .i32 0, .int .i32 0, .int .i32 0, .int .i32 0, .int .i32 0, .int .i32 0, .int .i32 0, .int .i32 0, .int .i32 0, .int .i32 0, .int .i32 0, .int .i32 0, .int .i32 0, .int .i32 0, .int .i32 0, .int .i32 0, .int .i32 0, .int .i32 0, .int .i32 0, .int .i32 0, .int .i32 0, .int .i32 0, .int .i32 0] 26)).drew u → u.there W9.heap.size 0 24 := fun u hu => RowAt.thereZ (((rowAt_new W9 zeroL).below (Below.refl _ _).drew).below hu) rfl
    have HA : Hid (∀ u, Below W9.heap.size W9 u → Calls Try.prog 13 #[.pointer none, .int .i64 n] u fun e w' => e = .returned (.tuple #[.agg Z0.toArray, .int .i64 2]) ∧ Below u.heap.size u w' ∧ Below W9.heap.size W9 w') :=
      fun u hu => (HR.out u).mono fun e w' h => ⟨h.1, h.2, hu.trans (h.2.mono hu.size)⟩
    go_region_held3 (fun u => Below W9.heap.size W9 u ∧ (loadVar 30 ⟨t, 1, none⟩).run Try.prog u = .ok (.pointer none) u ∧ (loadVar 3 ⟨w.heap.size, 2, none⟩).run Try.prog u = .ok (.int .i64 n) u)
      (first | assumption | exact HS.out _ hB0 | exact HS.out _ b3 | exact HS.out _ (hB0.alloc (Nat.le_refl _) _) | exact HS.out _ (b3.alloc b3.size _) | exact HS.out _ (belowA _).drew | exact HS.out _ (below_setCells _ b3.size _ _ (b3.alloc b3.size _)) | exact HS.out _ (below_setCells _ (Nat.le_refl _) _ _ b3) | fail)
      (first
        | (go_at_call 13; refine (HA.out _ (by first | exact hB0 | exact (belowA _).drew)).mono ?_; rintro ee w2 ⟨rfl, b2, b3⟩; (try have ht2 := HT2 w2 b2); clear b2)
        | fail)
    · simp only [Exit.then]
      go_at_K
      have F : Hid (Below W9.heap.size W9 ((w2.alloc (.cells #[.int .i32 0, .int .i32 0, .int .i32 0, .int .i32 0, .int .i32 0, .int .i32 0, .int .i32 0, .int .i32 0, .int .i32 0, .int .i32 0, .int .i32 0, .int .i32 0, .int .i32 0, .int .i32 0, .int .i32 0, .int .i32 0, .int .i32 0, .int .i32 0, .int .i32 0, .int .i32 0, .int .i32 0, .int .i32 0, .int .i32 0, .int .i32 0] 26)).setCells w2.heap.size 0 Z0) ∧ ((w2.alloc (.cells #[.int .i32 0, .int .i32 0, .int .i32 0, .int .i32 0, .int .i32 0, .int .i32 0, .int .i32 0, .int .i32 0, .int .i32 0, .int .i32 0, .int .i32 0, .int .i32 0, .int .i32 0, .int .i32 0, .int .i32 0, .int .i32 0, .int .i32 0, .int .i32 0, .int .i32 0, .int .i32 0, .int .i32 0, .int .i32 0, .int .i32 0, .int .i32 0] 26)).setCells w2.heap.size 0 Z0).rangeAt w2.heap.size 0 Z0 ∧ w2.heap.size < ((w2.alloc (.cells #[.int .i32 0, .int .i32 0, .int .i32 0, .int .i32 0, .int .i32 0, .int .i32 0, .int .i32 0, .int .i32 0, .int .i32 0, .int .i32 0, .int .i32 0, .int .i32 0, .int .i32 0, .int .i32 0, .int .i32 0, .int .i32 0, .int .i32 0, .int .i32 0, .int .i32 0, .int .i32 0, .int .i32 0, .int .i32 0, .int .i32 0, .int .i32 0] 26)).setCells w2.heap.size 0 Z0).heap.size) :=
        ⟨below_setCells _ b3.size _ _ (b3.alloc b3.size _), World.rangeAt_setCells_same _ _ _ _ (by rw [hlz]; exact HT1 w2), Nat.lt_of_lt_of_le (by simp) (Below.size (below_setCells (B := 0) _ (Nat.zero_le _) _ _ (Below.refl 0 (w2.alloc (.cells #[.int .i32 0, .int .i32 0, .int .i32 0, .int .i32 0, .int .i32 0, .int .i32 0, .int .i32 0, .int .i32 0, .int .i32 0, .int .i32 0, .int .i32 0, .int .i32 0, .int .i32 0, .int .i32 0, .int .i32 0, .int .i32 0, .int .i32 0, .int .i32 0, .int .i32 0, .int .i32 0, .int .i32 0, .int .i32 0, .int .i32 0, .int .i32 0] 26)))))⟩
      clear b3 HS HT2 HA hB0
      generalize (w2.alloc (.cells #[.int .i32 0, .int .i32 0, .int .i32 0, .int .i32 0, .int .i32 0, .int .i32 0, .int .i32 0, .int .i32 0, .int .i32 0, .int .i32 0, .int .i32 0, .int .i32 0, .int .i32 0, .int .i32 0, .int .i32 0, .int .i32 0, .int .i32 0, .int .i32 0, .int .i32 0, .int .i32 0, .int .i32 0, .int .i32 0, .int .i32 0, .int .i32 0] 26)).setCells w2.heap.size 0 Z0 = W10 at F ⊢
      generalize w2.heap.size = b10 at F ⊢
      clear HW9
      have l9 : (loadVar 26 ⟨b9, 0, none⟩).run Try.prog W10 = .ok (.agg Z0.toArray) W10 := run_loadVar_mid W10 b9 0 26 Z0 _ (rangeAt_below F9.out.2.1 F9.out.2.2 F.out.1) hur rfl hir
      have l10 : (loadVar 26 ⟨b10, 0, none⟩).run Try.prog W10 = .ok (.agg Z0.toArray) W10 := run_loadVar_mid W10 b10 0 26 Z0 _ F.out.2.1 hur rfl hir
      have hq := HQ.out
      have HE := Lib.hid (HB.out.trans ((F9.out.1.trans (F.out.1.mono F9.out.1.size)).mono HB.out.size))
      clear F F9 HB HN O HQ HR hur hir hoz hlz HT1
      go_wp2
      go_ret
      exact ⟨rfl, HE.out⟩
    · simp only [Exit.then]
      go_at_K
      have F : Hid (Below W9.heap.size W9 (w2.setCells W9.heap.size 0 Z0) ∧ (w2.setCells W9.heap.size 0 Z0).rangeAt W9.heap.size 0 Z0 ∧ W9.heap.size < (w2.setCells W9.heap.size 0 Z0).heap.size) :=
        ⟨below_setCells _ (Nat.le_refl _) _ _ b3, World.rangeAt_setCells_same _ _ _ _ (by rw [hlz]; exact ht2), Nat.lt_of_lt_of_le (there_lt ht2) (Below.size (below_setCells (B := 0) _ (Nat.zero_le _) _ _ (Below.refl 0 w2)))⟩
      clear b3 ht2 HS HT2 HA hB0
      generalize w2.setCells W9.heap.size 0 Z0 = W10 at F ⊢
      have F1 := Lib.hid F.out.1
      have F2 := Lib.hid F.out.2
      clear F
      generalize hb9 : W9.heap.size = b10 at F2 ⊢
      clear hb9
      have F : Hid (Below W9.heap.size W9 W10 ∧ W10.rangeAt b10 0 Z0 ∧ b10 < W10.heap.size) := ⟨F1.out, F2.out⟩
      clear F1 F2
      clear HW9
      have l9 : (loadVar 26 ⟨b9, 0, none⟩).run Try.prog W10 = .ok (.agg Z0.toArray) W10 := run_loadVar_mid W10 b9 0 26 Z0 _ (rangeAt_below F9.out.2.1 F9.out.2.2 F.out.1) hur rfl hir
      have l10 : (loadVar 26 ⟨b10, 0, none⟩).run Try.prog W10 = .ok (.agg Z0.toArray) W10 := run_loadVar_mid W10 b10 0 26 Z0 _ F.out.2.1 hur rfl hir
      have hq := HQ.out
      have HE := Lib.hid (HB.out.trans ((F9.out.1.trans (F.out.1.mono F9.out.1.size)).mono HB.out.size))
      clear F F9 HB HN O HQ HR hur hir hoz hlz HT1
      go_wp2
      go_ret
      exact ⟨rfl, HE.out⟩
end Go.Proofs.Ytihngojkcacgdaa
