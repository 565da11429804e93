import Derived.Test.YtlnhnpfgmiffpaaRpQ1
namespace Go.Proofs.Ytlnhnpfgmiffpaa
open Go.RowKit Go.Maps Go.Shelf
set_option linter.unusedVariables false
set_option linter.unusedSimpArgs false
attribute [local go_sem ↓] Go.wp_at_zero Go.wp_at_succ

theorem RowAt.thereZ {w : World} {b : Nat} {r : List Int} (h : RowAt w b r) (hr : r.length = 24) : w.there b 0 24 := fun j hj => by
  have h1 : w.heap[b]? = some (.cells (rowC r) 40 (0, 0)) := h
  have h2 : j < r.length := by omega
  simp [World.cell?, World.frozen?, h1, rowC, h2]
theorem below_setCells {B : Nat} {a : World} (b : Nat) (hb : B ≤ b) : ∀ (vs : List Value) (o : Nat) {w : World}, Below B a w → Below B a (w.setCells b o vs)
  | [], _, _, h => h
  | v :: vs, o, w, h => below_setCells b hb vs (o + 1) (w := w.setCell ⟨b, o, none⟩ v) (h.setCell (p := ⟨b, o, none⟩) hb v)
theorem rangeAt_below {w w' : World} {b : Nat} {cs : List Value} (h : w.rangeAt b 0 cs) (hlt : b < w.heap.size) (hb : Below w.heap.size w w') : w'.rangeAt b 0 cs := fun j v hv => by
  show w'.cell? ⟨b, 0 + j, none⟩ = some v
  rw [hb.cell (by exact hlt)]
  exact h j v hv
theorem there_lt {w : World} {b : Nat} (h : w.there b 0 24) : b < w.heap.size := by
  have h1 := h 0 (by omega)
  refine Nat.lt_of_not_le fun hn => ?_
  have h2 : w.heap[b]? = none := Array.getElem?_eq_none hn
  simp [World.cell?, h2] at h1
attribute [-go_sem] loadVar
set_option maxHeartbeats 6400000 in
set_option maxRecDepth 100000 in
theorem does_3 {w : World} {b o : Nat} {pT pR : Value} {rows : List (List Int)} {na : Nat} {gn : Int} {E : Nat → Prop} (h : Bx w b o pT pR rows na gn E) (hlen : rows.length ≤ 100000000) (on n m mask : Int) (r : List Int) : Calls Try.prog 8 #[.pointer (some ⟨b, o, none⟩), .agg (opL on 3 n m mask r).toArray] w fun e w' => e = .returned (.bool true) ∧ Below w.heap.size w w' := by
  have O := Lib.hid (opAt_new w on 3 n m mask r)
  have HB := Lib.hid (belowA (w := w) (.cells (opL on 3 n m mask r).toArray 42))
  have HN := Lib.hid (h.keep HB.out)
  obtain ⟨x, er, hxo, hatT, hatR⟩ := pa_at HN.out.pa hlen n
  have HAT := Lib.hid hatT
  have HAR := Lib.hid hatR
  clear hatT hatR hlen
  have hur := Try.underlying40
  have hlz : (List.map cellI x).length = 24 := by rw [List.length_map, hxo.len]
  have hir : (Try.prog.info? 40).map (·.size) = some (List.map cellI x).length := by rw [hlz]; exact infoRow
  have hoz : ∀ v ∈ List.map cellI x, v.oneCell' = true := fun v hv => by
    obtain ⟨y, _, rfl⟩ := List.mem_map.1 hv
    rfl
  have HQ : Hid (∀ u : World, (binOp .eql 40 (.agg (List.map cellI x).toArray) (.agg (List.map cellI x).toArray)).run Try.prog u = .ok (.bool true) u) := fun u => by
    have := run_eqRow hxo hxo u
    simpa [rowV] using this
  clear hxo
  clear h
  go_enter Try.func8, Try.ntmps8
  go_upto_region 1 with fail
  generalize w.alloc (.cells (opL on 3 n m mask r).toArray 42) = W at O HB HN HAT HAR ⊢
  have hc1 := run_loadInt O.out.c1
  go_upto_region 9 with fail
  clear hc1
  have HT1 : ∀ u : World, (u.alloc (.cells #[.int .i32 0, .int .i32 0, .int .i32 0, .int .i32 0, .int .i32 0, .int .i32 0, .int .i32 0, .int .i32 0, .int .i32 0, .int .i32 0, .int .i32 0, .int .i32 0, .int .i32 0, .int .i32 0, .int .i32 0, .int .i32 0, .int .i32 0, .int .i32 0, .int .i32 0, .int .i32 0, .int .i32 0, .int .i32 0, .int .i32 0, .int .i32 0] 40)).there u.heap.size 0 24 := fun u => RowAt.thereZ (rowAt_new u zeroL) rfl
  have hB0 : Below W.heap.size W W.drew := (Below.refl _ _).drew
  have HS : Hid (∀ u, Below W.heap.size W u → Below W.heap.size W u ∧ (loadVar 24 ⟨b, o, none⟩).run Try.prog u = .ok pT u ∧ (loadVar 3 ⟨w.heap.size, 2, none⟩).run Try.prog u = .ok (.int .i64 n) u) := fun u hu => ⟨hu, run_loadRel (HN.out.keep hu).cT, run_loadInt (O.out.below (hu)).c2⟩
  have HT2 : ∀ u : World, Below (W.alloc (.cells #[.int .i32 0, .int .i32 0, .int .i32 0, .int .i32 0, .int .i32 0, .int .i32 0, .int .i32 0, .int .i32 0, .int .i32 0, .int .i32 0, .int .i32 0, .int .i32 0, .int .i32 0, .int .i32 0, .int .i32 0, .int .i32 0, .int .i32 0, .int .i32 0, .int .i32 0, .int .i32 0, .int .i32 0, .int .i32 0, .int .i32 0, .int .i32 0] 40)).drew.heap.size (W.alloc (.cells #[.int .i32 0, .int .i32 0, .int .i32 0, .int .i32 0, .int .i32 0, .int .i32 0, .int .i32 0, .int .i32 0, .int .i32 0, .int .i32 0, .int .i32 0, .int .i32 0, .int .i32 0, .int .i32 0, .int .i32 0, .int .i32 0, .int .i32 0, .int .i32 0, .int .i32 0, .int .i32 0, .int .i32 0, .int .i32 0, .int .i32 0, .int .i32 0] 40)).drew u → u.there W.heap.size 0 24 := fun u hu => RowAt.thereZ (((rowAt_new W zeroL).below (Below.refl _ _).drew).below hu) rfl
  have HA : Hid (∀ u, Below W.heap.size W u → Calls Try.prog 20 #[pT, .int .i64 n] u fun e w' => e = .returned (.tuple #[.agg (List.map cellI x).toArray, .int .i64 er]) ∧ Below u.heap.size u w' ∧ Below W.heap.size W w') :=
    fun u hu => (HAT.out u hu).mono fun e w' h => ⟨h.1, h.2, hu.trans (h.2.mono hu.size)⟩
  have HR : Hid (∀ u, Below W.heap.size W u → Calls Try.prog 21 #[pR, .int .i64 n] u fun e w' => e = .returned (.tuple #[.agg (List.map cellI x).toArray, .int .i64 er]) ∧ Below u.heap.size u w') := fun u hu => HAR.out u hu
  clear HAT HAR
  generalize List.map cellI x = Z0 at hlz hir hoz HA HQ HR ⊢
  go_region_held3 (fun u => Below W.heap.size W u ∧ (loadVar 24 ⟨b, o, none⟩).run Try.prog u = .ok pT u ∧ (loadVar 3 ⟨w.heap.size, 2, none⟩).run Try.prog u = .ok (.int .i64 n) u)
    (first | assumption | exact HS.out _ hB0 | exact HS.out _ b3 | exact HS.out _ (hB0.alloc (Nat.le_refl _) _) | exact HS.out _ (b3.alloc b3.size _) | exact HS.out _ (belowA _).drew | exact HS.out _ (below_setCells _ b3.size _ _ (b3.alloc b3.size _)) | exact HS.out _ (below_setCells _ (Nat.le_refl _) _ _ b3) | fail)
    (first
      | (go_at_call 20; refine (HA.out _ (by first | exact hB0 | exact (belowA _).drew)).mono ?_; rintro ee w2 ⟨rfl, b2, b3⟩; (try have ht2 := HT2 w2 b2); clear b2)
      | fail)
  · simp only [Exit.then]
    go_at_K
    have F : Hid (Below W.heap.size W ((w2.alloc (.cells #[.int .i32 0, .int .i32 0, .int .i32 0, .int .i32 0, .int .i32 0, .int .i32 0, .int .i32 0, .int .i32 0, .int .i32 0, .int .i32 0, .int .i32 0, .int .i32 0, .int .i32 0, .int .i32 0, .int .i32 0, .int .i32 0, .int .i32 0, .int .i32 0, .int .i32 0, .int .i32 0, .int .i32 0, .int .i32 0, .int .i32 0, .int .i32 0] 40)).setCells w2.heap.size 0 Z0) ∧ ((w2.alloc (.cells #[.int .i32 0, .int .i32 0, .int .i32 0, .int .i32 0, .int .i32 0, .int .i32 0, .int .i32 0, .int .i32 0, .int .i32 0, .int .i32 0, .int .i32 0, .int .i32 0, .int .i32 0, .int .i32 0, .int .i32 0, .int .i32 0, .int .i32 0, .int .i32 0, .int .i32 0, .int .i32 0, .int .i32 0, .int .i32 0, .int .i32 0, .int .i32 0] 40)).setCells w2.heap.size 0 Z0).rangeAt w2.heap.size 0 Z0 ∧ w2.heap.size < ((w2.alloc (.cells #[.int .i32 0, .int .i32 0, .int .i32 0, .int .i32 0, .int .i32 0, .int .i32 0, .int .i32 0, .int .i32 0, .int .i32 0, .int .i32 0, .int .i32 0, .int .i32 0, .int .i32 0, .int .i32 0, .int .i32 0, .int .i32 0, .int .i32 0, .int .i32 0, .int .i32 0, .int .i32 0, .int .i32 0, .int .i32 0, .int .i32 0, .int .i32 0] 40)).setCells w2.heap.size 0 Z0).heap.size) :=
      ⟨below_setCells _ b3.size _ _ (b3.alloc b3.size _), World.rangeAt_setCells_same _ _ _ _ (by rw [hlz]; exact HT1 w2), Nat.lt_of_lt_of_le (by simp) (Below.size (below_setCells (B := 0) _ (Nat.zero_le _) _ _ (Below.refl 0 (w2.alloc (.cells #[.int .i32 0, .int .i32 0, .int .i32 0, .int .i32 0, .int .i32 0, .int .i32 0, .int .i32 0, .int .i32 0, .int .i32 0, .int .i32 0, .int .i32 0, .int .i32 0, .int .i32 0, .int .i32 0, .int .i32 0, .int .i32 0, .int .i32 0, .int .i32 0, .int .i32 0, .int .i32 0, .int .i32 0, .int .i32 0, .int .i32 0, .int .i32 0] 40)))))⟩
    clear b3 HS HT2 HA hB0
    generalize (w2.alloc (.cells #[.int .i32 0, .int .i32 0, .int .i32 0, .int .i32 0, .int .i32 0, .int .i32 0, .int .i32 0, .int .i32 0, .int .i32 0, .int .i32 0, .int .i32 0, .int .i32 0, .int .i32 0, .int .i32 0, .int .i32 0, .int .i32 0, .int .i32 0, .int .i32 0, .int .i32 0, .int .i32 0, .int .i32 0, .int .i32 0, .int .i32 0, .int .i32 0] 40)).setCells w2.heap.size 0 Z0 = W9 at F ⊢
    generalize w2.heap.size = b9 at F ⊢
    have F9 := F
    have HW9 := Lib.hid F.out.1
    clear F
    go_upto_region 10 with fail
    have hB0 : Below W9.heap.size W9 W9.drew := (Below.refl _ _).drew
    have HS : Hid (∀ u, Below W9.heap.size W9 u → Below W9.heap.size W9 u ∧ (loadVar 25 ⟨b, o + 1, none⟩).run Try.prog u = .ok pR u ∧ (loadVar 3 ⟨w.heap.size, 2, none⟩).run Try.prog u = .ok (.int .i64 n) u) := fun u hu => ⟨hu, run_loadRef (HN.out.keep (HW9.out.trans (hu.mono HW9.out.size))).cR, run_loadInt (O.out.below (HW9.out.trans (hu.mono HW9.out.size))).c2⟩
    have HT2 : ∀ u : World, Below (W9.alloc (.cells #[.int .i32 0, .int .i32 0, .int .i32 0, .int .i32 0, .int .i32 0, .int .i32 0, .int .i32 0, .int .i32 0, .int .i32 0, .int .i32 0, .int .i32 0, .int .i32 0, .int .i32 0, .int .i32 0, .int .i32 0, .int .i32 0, .int .i32 0, .int .i32 0, .int .i32 0, .int .i32 0, .int .i32 0, .int .i32 0, .int .i32 0, .int .i32 0] 40)).drew.heap.size (W9.alloc (.cells #[.int .i32 0, .int .i32 0, .int .i32 0, .int .i32 0, .int .i32 0, .int .i32 0, .int .i32 0, .int .i32 0, .int .i32 0, .int .i32 0, .int .i32 0, .int .i32 0, .int .i32 0, .int .i32 0, .int .i32 0, .int .i32 0, .int .i32 0, .int .i32 0, .int .i32 0, .int .i32 0, .int .i32 0, .int .i32 0, .int .i32 0, .int .i32 0] 40)).drew u → u.there W9.heap.size 0 24 := fun u hu => RowAt.thereZ (((rowAt_new W9 zeroL).below (Below.refl _ _).drew).below hu) rfl
    have HA : Hid (∀ u, Below W9.heap.size W9 u → Calls Try.prog 21 #[pR, .int .i64 n] u fun e w' => e = .returned (.tuple #[.agg Z0.toArray, .int .i64 er]) ∧ Below u.heap.size u w' ∧ Below W9.heap.size W9 w') :=
      fun u hu => (HR.out u (HW9.out.trans (hu.mono HW9.out.size))).mono fun e w' h => ⟨h.1, h.2, hu.trans (h.2.mono hu.size)⟩
    go_region_held3 (fun u => Below W9.heap.size W9 u ∧ (loadVar 25 ⟨b, o + 1, none⟩).run Try.prog u = .ok pR u ∧ (loadVar 3 ⟨w.heap.size, 2, none⟩).run Try.prog u = .ok (.int .i64 n) u)
      (first | assumption | exact HS.out _ hB0 | exact HS.out _ b3 | exact HS.out _ (hB0.alloc (Nat.le_refl _) _) | exact HS.out _ (b3.alloc b3.size _) | exact HS.out _ (belowA _).drew | exact HS.out _ (below_setCells _ b3.size _ _ (b3.alloc b3.size _)) | exact HS.out _ (below_setCells _ (Nat.le_refl _) _ _ b3) | fail)
      (first
        | (go_at_call 21; refine (HA.out _ (by first | exact hB0 | exact (belowA _).drew)).mono ?_; rintro ee w2 ⟨rfl, b2, b3⟩; (try have ht2 := HT2 w2 b2); clear b2)
        | fail)
    · simp only [Exit.then]
      go_at_K
      have F : Hid (Below W9.heap.size W9 ((w2.alloc (.cells #[.int .i32 0, .int .i32 0, .int .i32 0, .int .i32 0, .int .i32 0, .int .i32 0, .int .i32 0, .int .i32 0, .int .i32 0, .int .i32 0, .int .i32 0, .int .i32 0, .int .i32 0, .int .i32 0, .int .i32 0, .int .i32 0, .int .i32 0, .int .i32 0, .int .i32 0, .int .i32 0, .int .i32 0, .int .i32 0, .int .i32 0, .int .i32 0] 40)).setCells w2.heap.size 0 Z0) ∧ ((w2.alloc (.cells #[.int .i32 0, .int .i32 0, .int .i32 0, .int .i32 0, .int .i32 0, .int .i32 0, .int .i32 0, .int .i32 0, .int .i32 0, .int .i32 0, .int .i32 0, .int .i32 0, .int .i32 0, .int .i32 0, .int .i32 0, .int .i32 0, .int .i32 0, .int .i32 0, .int .i32 0, .int .i32 0, .int .i32 0, .int .i32 0, .int .i32 0, .int .i32 0] 40)).setCells w2.heap.size 0 Z0).rangeAt w2.heap.size 0 Z0 ∧ w2.heap.size < ((w2.alloc (.cells #[.int .i32 0, .int .i32 0, .int .i32 0, .int .i32 0, .int .i32 0, .int .i32 0, .int .i32 0, .int .i32 0, .int .i32 0, .int .i32 0, .int .i32 0, .int .i32 0, .int .i32 0, .int .i32 0, .int .i32 0, .int .i32 0, .int .i32 0, .int .i32 0, .int .i32 0, .int .i32 0, .int .i32 0, .int .i32 0, .int .i32 0, .int .i32 0] 40)).setCells w2.heap.size 0 Z0).heap.size) :=
        ⟨below_setCells _ b3.size _ _ (b3.alloc b3.size _), World.rangeAt_setCells_same _ _ _ _ (by rw [hlz]; exact HT1 w2), Nat.lt_of_lt_of_le (by simp) (Below.size (below_setCells (B := 0) _ (Nat.zero_le _) _ _ (Below.refl 0 (w2.alloc (.cells #[.int .i32 0, .int .i32 0, .int .i32 0, .int .i32 0, .int .i32 0, .int .i32 0, .int .i32 0, .int .i32 0, .int .i32 0, .int .i32 0, .int .i32 0, .int .i32 0, .int .i32 0, .int .i32 0, .int .i32 0, .int .i32 0, .int .i32 0, .int .i32 0, .int .i32 0, .int .i32 0, .int .i32 0, .int .i32 0, .int .i32 0, .int .i32 0] 40)))))⟩
      clear b3 HS HT2 HA hB0
      generalize (w2.alloc (.cells #[.int .i32 0, .int .i32 0, .int .i32 0, .int .i32 0, .int .i32 0, .int .i32 0, .int .i32 0, .int .i32 0, .int .i32 0, .int .i32 0, .int .i32 0, .int .i32 0, .int .i32 0, .int .i32 0, .int .i32 0, .int .i32 0, .int .i32 0, .int .i32 0, .int .i32 0, .int .i32 0, .int .i32 0, .int .i32 0, .int .i32 0, .int .i32 0] 40)).setCells w2.heap.size 0 Z0 = W10 at F ⊢
      generalize w2.heap.size = b10 at F ⊢
      clear HW9
      have l9 : (loadVar 40 ⟨b9, 0, none⟩).run Try.prog W10 = .ok (.agg Z0.toArray) W10 := run_loadVar_mid W10 b9 0 40 Z0 _ (rangeAt_below F9.out.2.1 F9.out.2.2 F.out.1) hur rfl hir
      have l10 : (loadVar 40 ⟨b10, 0, none⟩).run Try.prog W10 = .ok (.agg Z0.toArray) W10 := run_loadVar_mid W10 b10 0 40 Z0 _ F.out.2.1 hur rfl hir
      have hq := HQ.out
      have HE := Lib.hid (HB.out.trans ((F9.out.1.trans (F.out.1.mono F9.out.1.size)).mono HB.out.size))
      clear F F9 HB HN O HQ HR hur hir hoz hlz HT1
      go_wp2
      go_ret
      exact ⟨by first | rfl | simp, HE.out⟩
    · simp only [Exit.then]
      go_at_K
      have F : Hid (Below W9.heap.size W9 (w2.setCells W9.heap.size 0 Z0) ∧ (w2.setCells W9.heap.size 0 Z0).rangeAt W9.heap.size 0 Z0 ∧ W9.heap.size < (w2.setCells W9.heap.size 0 Z0).heap.size) :=
        ⟨below_setCells _ (Nat.le_refl _) _ _ b3, World.rangeAt_setCells_same _ _ _ _ (by rw [hlz]; exact ht2), Nat.lt_of_lt_of_le (there_lt ht2) (Below.size (below_setCells (B := 0) _ (Nat.zero_le _) _ _ (Below.refl 0 w2)))⟩
      clear b3 ht2 HS HT2 HA hB0
      generalize w2.setCells W9.heap.size 0 Z0 = W10 at F ⊢
      have F1 := Lib.hid F.out.1
      have F2 := Lib.hid F.out.2
      clear F
      generalize hb9 : W9.heap.size = b10 at F2 ⊢
      clear hb9
      have F : Hid (Below W9.heap.size W9 W10 ∧ W10.rangeAt b10 0 Z0 ∧ b10 < W10.heap.size) := ⟨F1.out, F2.out⟩
      clear F1 F2
      clear HW9
      have l9 : (loadVar 40 ⟨b9, 0, none⟩).run Try.prog W10 = .ok (.agg Z0.toArray) W10 := run_loadVar_mid W10 b9 0 40 Z0 _ (rangeAt_below F9.out.2.1 F9.out.2.2 F.out.1) hur rfl hir
      have l10 : (loadVar 40 ⟨b10, 0, none⟩).run Try.prog W10 = .ok (.agg Z0.toArray) W10 := run_loadVar_mid W10 b10 0 40 Z0 _ F.out.2.1 hur rfl hir
      have hq := HQ.out
      have HE := Lib.hid (HB.out.trans ((F9.out.1.trans (F.out.1.mono F9.out.1.size)).mono HB.out.size))
      clear F F9 HB HN O HQ HR hur hir hoz hlz HT1
      go_wp2
      go_ret
      exact ⟨by first | rfl | simp, HE.out⟩
  · simp only [Exit.then]
    go_at_K
    have F : Hid (Below W.heap.size W (w2.setCells W.heap.size 0 Z0) ∧ (w2.setCells W.heap.size 0 Z0).rangeAt W.heap.size 0 Z0 ∧ W.heap.size < (w2.setCells W.heap.size 0 Z0).heap.size) :=
      ⟨below_setCells _ (Nat.le_refl _) _ _ b3, World.rangeAt_setCells_same _ _ _ _ (by rw [hlz]; exact ht2), Nat.lt_of_lt_of_le (there_lt ht2) (Below.size (below_setCells (B := 0) _ (Nat.zero_le _) _ _ (Below.refl 0 w2)))⟩
    clear b3 ht2 HS HT2 HA hB0
    generalize w2.setCells W.heap.size 0 Z0 = W9 at F ⊢
    have F1 := Lib.hid F.out.1
    have F2 := Lib.hid F.out.2
    clear F
    generalize hb9 : W.heap.size = b9 at F2 ⊢
    clear hb9
    have F : Hid (Below W.heap.size W W9 ∧ W9.rangeAt b9 0 Z0 ∧ b9 < W9.heap.size) := ⟨F1.out, F2.out⟩
    clear F1 F2
    have F9 := F
    have HW9 := Lib.hid F.out.1
    clear F
    go_upto_region 10 with fail
    have hB0 : Below W9.heap.size W9 W9.drew := (Below.refl _ _).drew
    have HS : Hid (∀ u, Below W9.heap.size W9 u → Below W9.heap.size W9 u ∧ (loadVar 25 ⟨b, o + 1, none⟩).run Try.prog u = .ok pR u ∧ (loadVar 3 ⟨w.heap.size, 2, none⟩).run Try.prog u = .ok (.int .i64 n) u) := fun u hu => ⟨hu, run_loadRef (HN.out.keep (HW9.out.trans (hu.mono HW9.out.size))).cR, run_loadInt (O.out.below (HW9.out.trans (hu.mono HW9.out.size))).c2⟩
    have HT2 : ∀ u : World, Below (W9.alloc (.cells #[.int .i32 0, .int .i32 0, .int .i32 0, .int .i32 0, .int .i32 0, .int .i32 0, .int .i32 0, .int .i32 0, .int .i32 0, .int .i32 0, .int .i32 0, .int .i32 0, .int .i32 0, .int .i32 0, .int .i32 0, .int .i32 0, .int .i32 0, .int .i32 0, .int .i32 0, .int .i32 0, .int .i32 0, .int .i32 0, .int .i32 0, .int .i32 0] 40)).drew.heap.size (W9.alloc (.cells #[.int .i32 0, .int .i32 0, .int .i32 0, .int .i32 0, .int .i32 0, .int .i32 0, .int .i32 0, .int .i32 0, .int .i32 0, .int .i32 0, .int .i32 0, .int .i32 0, .int .i32 0, .int .i32 0, .int .i32 0, .int .i32 0, .int .i32 0, .int .i32 0, .int .i32 0, .int .i32 0, .int .i32 0, .int .i32 0, .int .i32 0, .int .i32 0] 40)).drew u → u.there W9.heap.size 0 24 := fun u hu => RowAt.thereZ (((rowAt_new W9 zeroL).below (Below.refl _ _).drew).below hu) rfl
    have HA : Hid (∀ u, Below W9.heap.size W9 u → Calls Try.prog 21 #[pR, .int .i64 n] u fun e w' => e = .returned (.tuple #[.agg Z0.toArray, .int .i64 er]) ∧ Below u.heap.size u w' ∧ Below W9.heap.size W9 w') :=
      fun u hu => (HR.out u (HW9.out.trans (hu.mono HW9.out.size))).mono fun e w' h => ⟨h.1, h.2, hu.trans (h.2.mono hu.size)⟩
    go_region_held3 (fun u => Below W9.heap.size W9 u ∧ (loadVar 25 ⟨b, o + 1, none⟩).run Try.prog u = .ok pR u ∧ (loadVar 3 ⟨w.heap.size, 2, none⟩).run Try.prog u = .ok (.int .i64 n) u)
      (first | assumption | exact HS.out _ hB0 | exact HS.out _ b3 | exact HS.out _ (hB0.alloc (Nat.le_refl _) _) | exact HS.out _ (b3.alloc b3.size _) | exact HS.out _ (belowA _).drew | exact HS.out _ (below_setCells _ b3.size _ _ (b3.alloc b3.size _)) | exact HS.out _ (below_setCells _ (Nat.le_refl _) _ _ b3) | fail)
      (first
        | (go_at_call 21; refine (HA.out _ (by first | exact hB0 | exact (belowA _).drew)).mono ?_; rintro ee w2 ⟨rfl, b2, b3⟩; (try have ht2 := HT2 w2 b2); clear b2)
        | fail)
    · simp only [Exit.then]
      go_at_K
      have F : Hid (Below W9.heap.size W9 ((w2.alloc (.cells #[.int .i32 0, .int .i32 0, .int .i32 0, .int .i32 0, .int .i32 0, .int .i32 0, .int .i32 0, .int .i32 0, .int .i32 0, .int .i32 0, .int .i32 0, .int .i32 0, .int .i32 0, .int .i32 0, .int .i32 0, .int .i32 0, .int .i32 0, .int .i32 0, .int .i32 0, .int .i32 0, .int .i32 0, .int .i32 0, .int .i32 0, .int .i32 0] 40)).setCells w2.heap.size 0 Z0) ∧ ((w2.alloc (.cells #[.int .i32 0, .int .i32 0, .int .i32 0, .int .i32 0, .int .i32 0, .int .i32 0, .int .i32 0, .int .i32 0, .int .i32 0, .int .i32 0, .int .i32 0, .int .i32 0, .int .i32 0, .int .i32 0, .int .i32 0, .int .i32 0, .int .i32 0, .int .i32 0, .int .i32 0, .int .i32 0, .int .i32 0, .int .i32 0, .int .i32 0, .int .i32 0] 40)).setCells w2.heap.size 0 Z0).rangeAt w2.heap.size 0 Z0 ∧ w2.heap.size < ((w2.alloc (.cells #[.int .i32 0, .int .i32 0, .int .i32 0, .int .i32 0, .int .i32 0, .int .i32 0, .int .i32 0, .int .i32 0, .int .i32 0, .int .i32 0, .int .i32 0, .int .i32 0, .int .i32 0, .int .i32 0, .int .i32 0, .int .i32 0, .int .i32 0, .int .i32 0, .int .i32 0, .int .i32 0, .int .i32 0, .int .i32 0, .int .i32 0, .int .i32 0] 40)).setCells w2.heap.size 0 Z0).heap.size) :=
        ⟨below_setCells _ b3.size _ _ (b3.alloc b3.size _), World.rangeAt_setCells_same _ _ _ _ (by rw [hlz]; exact HT1 w2), Nat.lt_of_lt_of_le (by simp) (Below.size (below_setCells (B := 0) _ (Nat.zero_le _) _ _ (Below.refl 0 (w2.alloc (.cells #[.int .i32 0, .int .i32 0, .int .i32 0, .int .i32 0, .int .i32 0, .int .i32 0, .int .i32 0, .int .i32 0, .int .i32 0, .int .i32 0, .int .i32 0, .int .i32 0, .int .i32 0, .int .i32 0, .int .i32 0, .int .i32 0, .int .i32 0, .int .i32 0, .int .i32 0, .int .i32 0, .int .i32 0, .int .i32 0, .int .i32 0, .int .i32 0] 40)))))⟩
      clear b3 HS HT2 HA hB0
      generalize (w2.alloc (.cells #[.int .i32 0, .int .i32 0, .int .i32 0, .int .i32 0, .int .i32 0, .int .i32 0, .int .i32 0, .int .i32 0, .int .i32 0, .int .i32 0, .int .i32 0, .int .i32 0, .int .i32 0, .int .i32 0, .int .i32 0, .int .i32 0, .int .i32 0, .int .i32 0, .int .i32 0, .int .i32 0, .int .i32 0, .int .i32 0, .int .i32 0, .int .i32 0] 40)).setCells w2.heap.size 0 Z0 = W10 at F ⊢
      generalize w2.heap.size = b10 at F ⊢
      clear HW9
      have l9 : (loadVar 40 ⟨b9, 0, none⟩).run Try.prog W10 = .ok (.agg Z0.toArray) W10 := run_loadVar_mid W10 b9 0 40 Z0 _ (rangeAt_below F9.out.2.1 F9.out.2.2 F.out.1) hur rfl hir
      have l10 : (loadVar 40 ⟨b10, 0, none⟩).run Try.prog W10 = .ok (.agg Z0.toArray) W10 := run_loadVar_mid W10 b10 0 40 Z0 _ F.out.2.1 hur rfl hir
      have hq := HQ.out
      have HE := Lib.hid (HB.out.trans ((F9.out.1.trans (F.out.1.mono F9.out.1.size)).mono HB.out.size))
      clear F F9 HB HN O HQ HR hur hir hoz hlz HT1
      go_wp2
      go_ret
      exact ⟨by first | rfl | simp, HE.out⟩
    · simp only [Exit.then]
      go_at_K
      have F : Hid (Below W9.heap.size W9 (w2.setCells W9.heap.size 0 Z0) ∧ (w2.setCells W9.heap.size 0 Z0).rangeAt W9.heap.size 0 Z0 ∧ W9.heap.size < (w2.setCells W9.heap.size 0 Z0).heap.size) :=
        ⟨below_setCells _ (Nat.le_refl _) _ _ b3, World.rangeAt_setCells_same _ _ _ _ (by rw [hlz]; exact ht2), Nat.lt_of_lt_of_le (there_lt ht2) (Below.size (below_setCells (B := 0) _ (Nat.zero_le _) _ _ (Below.refl 0 w2)))⟩
      clear b3 ht2 HS HT2 HA hB0
      generalize w2.setCells W9.heap.size 0 Z0 = W10 at F ⊢
      have F1 := Lib.hid F.out.1
      have F2 := Lib.hid F.out.2
      clear F
      generalize hb9 : W9.heap.size = b10 at F2 ⊢
      clear hb9
      have F : Hid (Below W9.heap.size W9 W10 ∧ W10.rangeAt b10 0 Z0 ∧ b10 < W10.heap.size) := ⟨F1.out, F2.out⟩
      clear F1 F2
      clear HW9
      have l9 : (loadVar 40 ⟨b9, 0, none⟩).run Try.prog W10 = .ok (.agg Z0.toArray) W10 := run_loadVar_mid W10 b9 0 40 Z0 _ (rangeAt_below F9.out.2.1 F9.out.2.2 F.out.1) hur rfl hir
      have l10 : (loadVar 40 ⟨b10, 0, none⟩).run Try.prog W10 = .ok (.agg Z0.toArray) W10 := run_loadVar_mid W10 b10 0 40 Z0 _ F.out.2.1 hur rfl hir
      have hq := HQ.out
      have HE := Lib.hid (HB.out.trans ((F9.out.1.trans (F.out.1.mono F9.out.1.size)).mono HB.out.size))
      clear F F9 HB HN O HQ HR hur hir hoz hlz HT1
      go_wp2
      go_ret
      exact ⟨by first | rfl | simp, HE.out⟩
end Go.Proofs.Ytlnhnpfgmiffpaa
