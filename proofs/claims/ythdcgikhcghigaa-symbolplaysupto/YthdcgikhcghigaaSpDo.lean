import Derived.Test.YthdcgikhcghigaaSpRows
namespace Go.Proofs.Ythdcgikhcghigaa
open Go.RowKit Go.Maps Go.Shelf
set_option linter.unusedVariables false
set_option linter.unusedSimpArgs false
attribute [local go_sem ↓] Go.wp_at_zero Go.wp_at_succ

theorem OpAt.tc {w w' : World} {b : Nat} {on k n m : Int} {v : V} {lv : Value} {r : List Int} {E : Nat → Prop} (h : OpAt w b on k n m v lv r) (ht : Tc E w w') (hn : ¬ E b) : OpAt w' b on k n m v lv r := (ht.block b h.lt hn).trans h
theorem Tc.drew {E : Nat → Prop} {w w' : World} (h : Tc E w w') : Tc E w w'.drew := ⟨h.os, h.tape, h.output, h.size, h.block⟩
theorem Tc.refl (E : Nat → Prop) (w : World) : Tc E w w := Tc.of (Below.refl _ _)
theorem RL.frz {w : World} {b : Nat} {t : TypeId} {l : List Value} (h : RL w b t l) (j : Nat) : w.frozen? ⟨b, j, none⟩ = false := World.rowIs.frozen h j
section
variable {w w' : World} {b o : Nat} {pT pR : Value} {mo : Option Int} {mb : Nat} {vs : List V} {E : Nat → Prop}
set_option maxHeartbeats 6400000 in
set_option maxRecDepth 100000 in
theorem does_1 (hx : Bx w b o pT pR) (hp : Pa w pT pR mo mb vs vs E) (hnb : ¬ E b) (hlen : vs.length ≤ 800000000) (on n m : Int) (v : V) (hv : v.wf) (lv : Value) (r : List Int) : Calls Try.prog 6 #[.pointer (some ⟨b, o, none⟩), .agg (opL on 1 n m v lv r).toArray] w fun e w' => e = .returned (.bool true) ∧ ∃ E', Pa w' pT pR mo mb (adV mo vs v) (adV mo vs v) E' ∧ Gs E E' w w' := by
  have O := Lib.hid (opAt_new w on 1 n m v lv r)
  have HB := Lib.hid (belowA (w := w) (.cells (opL on 1 n m v lv r).toArray 45))
  have HN := Lib.hid (hx.keep HB.out)
  have HP := Lib.hid (hp.keep HB.out)
  have HOE : Hid (¬ E w.heap.size) := fun e => by have := hp.lt e; omega
  have HVW := Lib.hid hv
  clear hx hp hv
  go_enter Try.func6, Try.ntmps6
  go_upto_region 1 with fail
  generalize w.alloc (.cells (opL on 1 n m v lv r).toArray 45) = W at O HB HN HP ⊢
  have hc1 := O.out.c1
  go_upto_region 3 with fail
  clear hc1
  have hB0 : Below W.heap.size W W.drew := (Below.refl _ _).drew
  have T0 : Tc E W W.drew := Tc.of hB0
  have HS : Hid (∀ u, Tc E W u → Tc E W u ∧ u.cell? ⟨b, o, none⟩ = some pT ∧ u.cell? ⟨w.heap.size, 4, none⟩ = some (.int .i8 v.k) ∧ u.cell? ⟨w.heap.size, 5, none⟩ = some (.int .i64 v.n) ∧ u.cell? ⟨w.heap.size, 6, none⟩ = some (.string v.s)) := fun u hu => ⟨hu, (HN.out.tc hu hnb).cT, (O.out.tc hu HOE.out).c4, (O.out.tc hu HOE.out).c5, (O.out.tc hu HOE.out).c6⟩
  go_region_held3 (fun u => Tc E W u ∧ u.cell? ⟨b, o, none⟩ = some pT ∧ u.cell? ⟨w.heap.size, 4, none⟩ = some (.int .i8 v.k) ∧ u.cell? ⟨w.heap.size, 5, none⟩ = some (.int .i64 v.n) ∧ u.cell? ⟨w.heap.size, 6, none⟩ = some (.string v.s))
    (first | assumption | exact HS.out _ T0 | exact HS.out _ (by assumption))
    (first
      | (go_at_call 13; refine (pa_add (HP.out.keep hB0) (by omega) v HVW.out).mono ?_; rintro ee w2 ⟨rfl, E1, hp2, hg2⟩; have HP2 := Lib.hid hp2; have HG2 := Lib.hid (hg2.after hB0); have t2 : Tc E W w2 := HG2.out.1; clear hp2 hg2)
      | fail)
  simp only [Exit.then]
  go_at_K
  clear hB0 HS T0
  have HBX := Lib.hid (HN.out.tc t2 hnb)
  have HO2 := Lib.hid (O.out.tc t2 HOE.out)
  have HNB : Hid (¬ E1 b) := fun e => (HG2.out.2 b e).elim hnb (fun h => by have := HN.out.lt; omega)
  have HOE1 : Hid (¬ E1 w.heap.size) := fun e => (HG2.out.2 _ e).elim HOE.out (fun h => by have := O.out.lt; omega)
  have HS3 : Hid (∀ u, Tc E1 w2 u → Tc E1 w2 u ∧ u.cell? ⟨b, o + 1, none⟩ = some pR ∧ u.cell? ⟨w.heap.size, 4, none⟩ = some (.int .i8 v.k) ∧ u.cell? ⟨w.heap.size, 5, none⟩ = some (.int .i64 v.n) ∧ u.cell? ⟨w.heap.size, 6, none⟩ = some (.string v.s)) := fun u hu => ⟨hu, (HBX.out.tc hu HNB.out).cR, (HO2.out.tc hu HOE1.out).c4, (HO2.out.tc hu HOE1.out).c5, (HO2.out.tc hu HOE1.out).c6⟩
  clear t2
  go_upto_region 4 with fail
  have hB0 : Below w2.heap.size w2 w2.drew := (Below.refl _ _).drew
  have T0 : Tc E1 w2 w2.drew := Tc.of hB0
  go_region_held3 (fun u => Tc E1 w2 u ∧ u.cell? ⟨b, o + 1, none⟩ = some pR ∧ u.cell? ⟨w.heap.size, 4, none⟩ = some (.int .i8 v.k) ∧ u.cell? ⟨w.heap.size, 5, none⟩ = some (.int .i64 v.n) ∧ u.cell? ⟨w.heap.size, 6, none⟩ = some (.string v.s))
    (first | assumption | exact HS3.out _ T0 | exact HS3.out _ (by assumption))
    (first
      | (go_at_call 14; refine (pa_radd (HP2.out.keep hB0) (by omega) v HVW.out).mono ?_; rintro ee w3 ⟨rfl, E2, hp3, hg3⟩; have HP3 := Lib.hid hp3; have HG3 := Lib.hid (hg3.after hB0); have t3 : Tc E1 w2 w3 := HG3.out.1; clear hp3 hg3)
      | fail)
  simp only [Exit.then]
  go_at_K
  generalize adS mo vs v = s1
  generalize adE mo vs v = s2
  clear HS3 T0 t3 hB0
  go_wp2
  go_ret
  exact ⟨rfl, E2, HP3.out, (HG2.out.trans HG3.out).after HB.out⟩
set_option maxHeartbeats 6400000 in
set_option maxRecDepth 100000 in
theorem does_2 (hx : Bx w b o pT pR) (hp : Pa w pT pR mo mb vs vs E) (hlen : vs.length ≤ 800000000) (on n m : Int) (v : V) (hv : v.wf) (lv : Value) (r : List Int) : Calls Try.prog 6 #[.pointer (some ⟨b, o, none⟩), .agg (opL on 2 n m v lv r).toArray] w fun e w' => e = .returned (.bool true) ∧ Below w.heap.size w w' := by
  have O := Lib.hid (opAt_new w on 2 n m v lv r)
  have HB := Lib.hid (belowA (w := w) (.cells (opL on 2 n m v lv r).toArray 45))
  have HN := Lib.hid (hx.keep HB.out)
  obtain ⟨s, fl, hFT, hFR⟩ := pa_find (hp.keep HB.out) (by omega) v hv
  have HFT := Lib.hid hFT
  have HFR := Lib.hid hFR
  clear hx hp hFT hFR
  cases fl
  all_goals
    go_enter Try.func6, Try.ntmps6
    go_upto_region 1 with fail
    generalize w.alloc (.cells (opL on 2 n m v lv r).toArray 45) = W at O HB HN HFT HFR ⊢
    have hc1 := O.out.c1
    go_upto_region 7 with fail
    clear hc1
    have hB0 : Below W.heap.size W W.drew := (Below.refl _ _).drew
    have HS : Hid (∀ u, Below W.heap.size W u → Below W.heap.size W u ∧ u.cell? ⟨b, o, none⟩ = some pT ∧ u.cell? ⟨w.heap.size, 4, none⟩ = some (.int .i8 v.k) ∧ u.cell? ⟨w.heap.size, 5, none⟩ = some (.int .i64 v.n) ∧ u.cell? ⟨w.heap.size, 6, none⟩ = some (.string v.s)) := fun u hu => ⟨hu, (HN.out.keep hu).cT, (O.out.below hu).c4, (O.out.below hu).c5, (O.out.below hu).c6⟩
    go_region_held3 (fun u => Below W.heap.size W u ∧ u.cell? ⟨b, o, none⟩ = some pT ∧ u.cell? ⟨w.heap.size, 4, none⟩ = some (.int .i8 v.k) ∧ u.cell? ⟨w.heap.size, 5, none⟩ = some (.int .i64 v.n) ∧ u.cell? ⟨w.heap.size, 6, none⟩ = some (.string v.s))
      (first | assumption | exact HS.out _ hB0 | exact HS.out _ (by assumption))
      (first
        | (go_at_call 15; refine (HFT.out _ hB0).mono ?_; rintro ee w2 ⟨rfl, b2⟩; have b2' : Below W.heap.size W w2 := hB0.trans (b2.mono hB0.size); clear b2)
        | fail)
    simp only [Exit.then]
    go_at_K
    clear hB0 HS
    have HB2 := Lib.hid b2'
    have HS3 : Hid (∀ u, Below w2.heap.size w2 u → Below w2.heap.size w2 u ∧ u.cell? ⟨b, o + 1, none⟩ = some pR ∧ u.cell? ⟨w.heap.size, 4, none⟩ = some (.int .i8 v.k) ∧ u.cell? ⟨w.heap.size, 5, none⟩ = some (.int .i64 v.n) ∧ u.cell? ⟨w.heap.size, 6, none⟩ = some (.string v.s)) := fun u hu => ⟨hu, (HN.out.keep (HB2.out.trans (hu.mono HB2.out.size))).cR, (O.out.below (HB2.out.trans (hu.mono HB2.out.size))).c4, (O.out.below (HB2.out.trans (hu.mono HB2.out.size))).c5, (O.out.below (HB2.out.trans (hu.mono HB2.out.size))).c6⟩
    clear b2'
    go_upto_region 8 with fail
    have hB0 : Below w2.heap.size w2 w2.drew := (Below.refl _ _).drew
    go_region_held3 (fun u => Below w2.heap.size w2 u ∧ u.cell? ⟨b, o + 1, none⟩ = some pR ∧ u.cell? ⟨w.heap.size, 4, none⟩ = some (.int .i8 v.k) ∧ u.cell? ⟨w.heap.size, 5, none⟩ = some (.int .i64 v.n) ∧ u.cell? ⟨w.heap.size, 6, none⟩ = some (.string v.s))
      (first | assumption | exact HS3.out _ hB0 | exact HS3.out _ (by assumption))
      (first
        | (go_at_call 16; refine (HFR.out _ (HB2.out.trans (hB0.mono HB2.out.size))).mono ?_; rintro ee w3 ⟨rfl, b3⟩; have b3' : Below w2.heap.size w2 w3 := hB0.trans (b3.mono hB0.size); clear b3)
        | fail)
    simp only [Exit.then]
    go_at_K
    clear HS3 hB0
    go_wp2
    go_ret
    exact ⟨rfl, HB.out.trans ((HB2.out.trans (b3'.mono HB2.out.size)).mono HB.out.size)⟩
set_option maxHeartbeats 6400000 in
set_option maxRecDepth 100000 in
theorem does_3 (hx : Bx w b o pT pR) (hp : Pa w pT pR mo mb vs vs E) (hlen : vs.length ≤ 800000000) (on n m : Int) (v : V) (lv : Value) (r : List Int) : Calls Try.prog 6 #[.pointer (some ⟨b, o, none⟩), .agg (opL on 3 n m v lv r).toArray] w fun e w' => e = .returned (.bool true) ∧ Below w.heap.size w w' := by
  have O := Lib.hid (opAt_new w on 3 n m v lv r)
  have HB := Lib.hid (belowA (w := w) (.cells (opL on 3 n m v lv r).toArray 45))
  have HN := Lib.hid (hx.keep HB.out)
  have hwr : -2147483648 ≤ IntKind.i32.wrap n ∧ IntKind.i32.wrap n ≤ 2147483647 := by rw [IntKind.wrap_i32]; omega
  obtain ⟨x, er, hVT, hVR⟩ := pa_value (hp.keep HB.out) (by omega) (IntKind.i32.wrap n) hwr.1 hwr.2
  have HVT := Lib.hid hVT
  have HVR := Lib.hid hVR
  clear hx hp hVT hVR hwr
  go_enter Try.func6, Try.ntmps6
  go_upto_region 1 with fail
  generalize w.alloc (.cells (opL on 3 n m v lv r).toArray 45) = W at O HB HN HVT HVR ⊢
  have hc1 := O.out.c1
  go_upto_region 11 with fail
  clear hc1
  have hB0 : Below W.heap.size W W.drew := (Below.refl _ _).drew
  have HS : Hid (∀ u, Below W.heap.size W u → Below W.heap.size W u ∧ u.cell? ⟨b, o, none⟩ = some pT ∧ u.cell? ⟨w.heap.size, 2, none⟩ = some (.int .i64 n)) := fun u hu => ⟨hu, (HN.out.keep hu).cT, (O.out.below hu).c2⟩
  have HZ2 : ∀ u : World, Below (W.alloc (.cells #[.int .i8 0, .int .i64 0, .string ⟨#[]⟩] 39)).drew.heap.size (W.alloc (.cells #[.int .i8 0, .int .i64 0, .string ⟨#[]⟩] 39)).drew u → RL u W.heap.size 39 [.int .i8 0, .int .i64 0, .string ⟨#[]⟩] := fun u hu => ((rl_new W #[.int .i8 0, .int .i64 0, .string ⟨#[]⟩] 39).below (Below.refl _ _).drew).below hu
  have HA : Hid (∀ u, Below W.heap.size W u → Calls Try.prog 17 #[pT, .int .i32 (IntKind.i32.wrap n)] u fun e w' => e = .returned (.tuple #[.agg #[.int .i8 x.k, .int .i64 x.n, .string x.s], .int .i64 er]) ∧ Below u.heap.size u w' ∧ Below W.heap.size W w') :=
    fun u hu => (HVT.out u hu).mono fun e w' h => ⟨h.1, h.2, hu.trans (h.2.mono hu.size)⟩
  go_region_held3 (fun u => Below W.heap.size W u ∧ u.cell? ⟨b, o, none⟩ = some pT ∧ u.cell? ⟨w.heap.size, 2, none⟩ = some (.int .i64 n))
    (first | assumption | exact HS.out _ hB0 | exact HS.out _ b3 | exact HS.out _ (belowA _).drew | exact HS.out _ (b3.alloc b3.size _) | exact HS.out _ (((b3.setCell (p := ⟨W.heap.size, 0, none⟩) (Nat.le_refl _) _).setCell (p := ⟨W.heap.size, 1, none⟩) (Nat.le_refl _) _).setCell (p := ⟨W.heap.size, 2, none⟩) (Nat.le_refl _) _) | fail)
    (first
      | (go_at_call 17; refine (HA.out _ (by first | exact hB0 | exact (belowA _).drew)).mono ?_; rintro ee w2 ⟨rfl, b2, b3⟩; (try (have rz := HZ2 w2 b2; have d0 := rz.at (j := 0) rfl; have d1 := rz.at (j := 1) rfl; have d2 := rz.at (j := 2) rfl; have f0 := rz.frz 0; have f1 := rz.frz 1; have f2 := rz.frz 2)); clear b2)
      | fail)
  · simp only [Exit.then]
    go_at_K
    have F : Hid (Below W.heap.size W (w2.alloc (.cells #[.int .i8 x.k, .int .i64 x.n, .string x.s] 39)) ∧ RL (w2.alloc (.cells #[.int .i8 x.k, .int .i64 x.n, .string x.s] 39)) w2.heap.size 39 [.int .i8 x.k, .int .i64 x.n, .string x.s]) := ⟨b3.alloc b3.size _, rl_new w2 #[.int .i8 x.k, .int .i64 x.n, .string x.s] 39⟩
    clear b3 HS HZ2 HA hB0
    generalize w2.alloc (.cells #[.int .i8 x.k, .int .i64 x.n, .string x.s] 39) = W9 at F ⊢
    generalize w2.heap.size = b9 at F ⊢
    have F9 := F
    have HW9 := Lib.hid F.out.1
    clear F
    go_upto_region 12 with fail
    have hB0 : Below W9.heap.size W9 W9.drew := (Below.refl _ _).drew
    have HS : Hid (∀ u, Below W9.heap.size W9 u → Below W9.heap.size W9 u ∧ u.cell? ⟨b, o + 1, none⟩ = some pR ∧ u.cell? ⟨w.heap.size, 2, none⟩ = some (.int .i64 n)) := fun u hu => ⟨hu, (HN.out.keep (HW9.out.trans (hu.mono HW9.out.size))).cR, (O.out.below (HW9.out.trans (hu.mono HW9.out.size))).c2⟩
    have HZ2 : ∀ u : World, Below (W9.alloc (.cells #[.int .i8 0, .int .i64 0, .string ⟨#[]⟩] 39)).drew.heap.size (W9.alloc (.cells #[.int .i8 0, .int .i64 0, .string ⟨#[]⟩] 39)).drew u → RL u W9.heap.size 39 [.int .i8 0, .int .i64 0, .string ⟨#[]⟩] := fun u hu => ((rl_new W9 #[.int .i8 0, .int .i64 0, .string ⟨#[]⟩] 39).below (Below.refl _ _).drew).below hu
    have HA : Hid (∀ u, Below W9.heap.size W9 u → Calls Try.prog 18 #[pR, .int .i32 (IntKind.i32.wrap n)] u fun e w' => e = .returned (.tuple #[.agg #[.int .i8 x.k, .int .i64 x.n, .string x.s], .int .i64 er]) ∧ Below u.heap.size u w' ∧ Below W9.heap.size W9 w') :=
      fun u hu => (HVR.out u (HW9.out.trans (hu.mono HW9.out.size))).mono fun e w' h => ⟨h.1, h.2, hu.trans (h.2.mono hu.size)⟩
    go_region_held3 (fun u => Below W9.heap.size W9 u ∧ u.cell? ⟨b, o + 1, none⟩ = some pR ∧ u.cell? ⟨w.heap.size, 2, none⟩ = some (.int .i64 n))
      (first | assumption | exact HS.out _ hB0 | exact HS.out _ b3 | exact HS.out _ (belowA _).drew | exact HS.out _ (b3.alloc b3.size _) | exact HS.out _ (((b3.setCell (p := ⟨W9.heap.size, 0, none⟩) (Nat.le_refl _) _).setCell (p := ⟨W9.heap.size, 1, none⟩) (Nat.le_refl _) _).setCell (p := ⟨W9.heap.size, 2, none⟩) (Nat.le_refl _) _) | fail)
      (first
        | (go_at_call 18; refine (HA.out _ (by first | exact hB0 | exact (belowA _).drew)).mono ?_; rintro ee w2 ⟨rfl, b2, b3⟩; (try (have rz := HZ2 w2 b2; have d0 := rz.at (j := 0) rfl; have d1 := rz.at (j := 1) rfl; have d2 := rz.at (j := 2) rfl; have f0 := rz.frz 0; have f1 := rz.frz 1; have f2 := rz.frz 2)); clear b2)
        | fail)
    · simp only [Exit.then]
      go_at_K
      have F : Hid (Below W9.heap.size W9 (w2.alloc (.cells #[.int .i8 x.k, .int .i64 x.n, .string x.s] 39)) ∧ RL (w2.alloc (.cells #[.int .i8 x.k, .int .i64 x.n, .string x.s] 39)) w2.heap.size 39 [.int .i8 x.k, .int .i64 x.n, .string x.s]) := ⟨b3.alloc b3.size _, rl_new w2 #[.int .i8 x.k, .int .i64 x.n, .string x.s] 39⟩
      clear b3 HS HZ2 HA hB0
      generalize w2.alloc (.cells #[.int .i8 x.k, .int .i64 x.n, .string x.s] 39) = W10 at F ⊢
      generalize w2.heap.size = b10 at F ⊢
      clear HW9
      have q0 := (F9.out.2.below F.out.1).at (j := 0) rfl
      have q1 := (F9.out.2.below F.out.1).at (j := 1) rfl
      have q2 := (F9.out.2.below F.out.1).at (j := 2) rfl
      have z0 := F.out.2.at (j := 0) rfl
      have z1 := F.out.2.at (j := 1) rfl
      have z2 := F.out.2.at (j := 2) rfl
      have hq : ∀ W, (binOp .eql 39 (.agg #[.int .i8 x.k, .int .i64 x.n, .string x.s]) (.agg #[.int .i8 x.k, .int .i64 x.n, .string x.s])).run Try.prog W = .ok (.bool true) W := fun W => by rw [run_eql]; simp
      have HE := Lib.hid (HB.out.trans ((F9.out.1.trans (F.out.1.mono F9.out.1.size)).mono HB.out.size))
      clear F F9 HB HN O HVT HVR
      go_wp2
      go_ret
      exact ⟨rfl, HE.out⟩
    · simp only [Exit.then]
      go_at_K
      have F1 : Hid (Below W9.heap.size W9 (((w2.setCell ⟨W9.heap.size, 0, none⟩ (.int .i8 x.k)).setCell ⟨W9.heap.size, 1, none⟩ (.int .i64 x.n)).setCell ⟨W9.heap.size, 2, none⟩ (.string x.s))) := ((b3.setCell (p := ⟨W9.heap.size, 0, none⟩) (Nat.le_refl _) _).setCell (p := ⟨W9.heap.size, 1, none⟩) (Nat.le_refl _) _).setCell (p := ⟨W9.heap.size, 2, none⟩) (Nat.le_refl _) _
      have F2 : Hid (RL (((w2.setCell ⟨W9.heap.size, 0, none⟩ (.int .i8 x.k)).setCell ⟨W9.heap.size, 1, none⟩ (.int .i64 x.n)).setCell ⟨W9.heap.size, 2, none⟩ (.string x.s)) W9.heap.size 39 [.int .i8 x.k, .int .i64 x.n, .string x.s]) := ((rz.set 0 (.int .i8 x.k)).set 1 (.int .i64 x.n)).set 2 (.string x.s)
      clear b3 rz d0 d1 d2 f0 f1 f2 HS HZ2 HA hB0
      generalize ((w2.setCell ⟨W9.heap.size, 0, none⟩ (.int .i8 x.k)).setCell ⟨W9.heap.size, 1, none⟩ (.int .i64 x.n)).setCell ⟨W9.heap.size, 2, none⟩ (.string x.s) = W10 at F1 F2 ⊢
      generalize hbn : W9.heap.size = b10 at F2 ⊢
      clear hbn
      have F : Hid (Below W9.heap.size W9 W10 ∧ RL W10 b10 39 [.int .i8 x.k, .int .i64 x.n, .string x.s]) := ⟨F1.out, F2.out⟩
      clear F1 F2
      clear HW9
      have q0 := (F9.out.2.below F.out.1).at (j := 0) rfl
      have q1 := (F9.out.2.below F.out.1).at (j := 1) rfl
      have q2 := (F9.out.2.below F.out.1).at (j := 2) rfl
      have z0 := F.out.2.at (j := 0) rfl
      have z1 := F.out.2.at (j := 1) rfl
      have z2 := F.out.2.at (j := 2) rfl
      have hq : ∀ W, (binOp .eql 39 (.agg #[.int .i8 x.k, .int .i64 x.n, .string x.s]) (.agg #[.int .i8 x.k, .int .i64 x.n, .string x.s])).run Try.prog W = .ok (.bool true) W := fun W => by rw [run_eql]; simp
      have HE := Lib.hid (HB.out.trans ((F9.out.1.trans (F.out.1.mono F9.out.1.size)).mono HB.out.size))
      clear F F9 HB HN O HVT HVR
      go_wp2
      go_ret
      exact ⟨rfl, HE.out⟩
  · simp only [Exit.then]
    go_at_K
    have F1 : Hid (Below W.heap.size W (((w2.setCell ⟨W.heap.size, 0, none⟩ (.int .i8 x.k)).setCell ⟨W.heap.size, 1, none⟩ (.int .i64 x.n)).setCell ⟨W.heap.size, 2, none⟩ (.string x.s))) := ((b3.setCell (p := ⟨W.heap.size, 0, none⟩) (Nat.le_refl _) _).setCell (p := ⟨W.heap.size, 1, none⟩) (Nat.le_refl _) _).setCell (p := ⟨W.heap.size, 2, none⟩) (Nat.le_refl _) _
    have F2 : Hid (RL (((w2.setCell ⟨W.heap.size, 0, none⟩ (.int .i8 x.k)).setCell ⟨W.heap.size, 1, none⟩ (.int .i64 x.n)).setCell ⟨W.heap.size, 2, none⟩ (.string x.s)) W.heap.size 39 [.int .i8 x.k, .int .i64 x.n, .string x.s]) := ((rz.set 0 (.int .i8 x.k)).set 1 (.int .i64 x.n)).set 2 (.string x.s)
    clear b3 rz d0 d1 d2 f0 f1 f2 HS HZ2 HA hB0
    generalize ((w2.setCell ⟨W.heap.size, 0, none⟩ (.int .i8 x.k)).setCell ⟨W.heap.size, 1, none⟩ (.int .i64 x.n)).setCell ⟨W.heap.size, 2, none⟩ (.string x.s) = W9 at F1 F2 ⊢
    generalize hbn : W.heap.size = b9 at F2 ⊢
    clear hbn
    have F : Hid (Below W.heap.size W W9 ∧ RL W9 b9 39 [.int .i8 x.k, .int .i64 x.n, .string x.s]) := ⟨F1.out, F2.out⟩
    clear F1 F2
    have F9 := F
    have HW9 := Lib.hid F.out.1
    clear F
    go_upto_region 12 with fail
    have hB0 : Below W9.heap.size W9 W9.drew := (Below.refl _ _).drew
    have HS : Hid (∀ u, Below W9.heap.size W9 u → Below W9.heap.size W9 u ∧ u.cell? ⟨b, o + 1, none⟩ = some pR ∧ u.cell? ⟨w.heap.size, 2, none⟩ = some (.int .i64 n)) := fun u hu => ⟨hu, (HN.out.keep (HW9.out.trans (hu.mono HW9.out.size))).cR, (O.out.below (HW9.out.trans (hu.mono HW9.out.size))).c2⟩
    have HZ2 : ∀ u : World, Below (W9.alloc (.cells #[.int .i8 0, .int .i64 0, .string ⟨#[]⟩] 39)).drew.heap.size (W9.alloc (.cells #[.int .i8 0, .int .i64 0, .string ⟨#[]⟩] 39)).drew u → RL u W9.heap.size 39 [.int .i8 0, .int .i64 0, .string ⟨#[]⟩] := fun u hu => ((rl_new W9 #[.int .i8 0, .int .i64 0, .string ⟨#[]⟩] 39).below (Below.refl _ _).drew).below hu
    have HA : Hid (∀ u, Below W9.heap.size W9 u → Calls Try.prog 18 #[pR, .int .i32 (IntKind.i32.wrap n)] u fun e w' => e = .returned (.tuple #[.agg #[.int .i8 x.k, .int .i64 x.n, .string x.s], .int .i64 er]) ∧ Below u.heap.size u w' ∧ Below W9.heap.size W9 w') :=
      fun u hu => (HVR.out u (HW9.out.trans (hu.mono HW9.out.size))).mono fun e w' h => ⟨h.1, h.2, hu.trans (h.2.mono hu.size)⟩
    go_region_held3 (fun u => Below W9.heap.size W9 u ∧ u.cell? ⟨b, o + 1, none⟩ = some pR ∧ u.cell? ⟨w.heap.size, 2, none⟩ = some (.int .i64 n))
      (first | assumption | exact HS.out _ hB0 | exact HS.out _ b3 | exact HS.out _ (belowA _).drew | exact HS.out _ (b3.alloc b3.size _) | exact HS.out _ (((b3.setCell (p := ⟨W9.heap.size, 0, none⟩) (Nat.le_refl _) _).setCell (p := ⟨W9.heap.size, 1, none⟩) (Nat.le_refl _) _).setCell (p := ⟨W9.heap.size, 2, none⟩) (Nat.le_refl _) _) | fail)
      (first
        | (go_at_call 18; refine (HA.out _ (by first | exact hB0 | exact (belowA _).drew)).mono ?_; rintro ee w2 ⟨rfl, b2, b3⟩; (try (have rz := HZ2 w2 b2; have d0 := rz.at (j := 0) rfl; have d1 := rz.at (j := 1) rfl; have d2 := rz.at (j := 2) rfl; have f0 := rz.frz 0; have f1 := rz.frz 1; have f2 := rz.frz 2)); clear b2)
        | fail)
    · simp only [Exit.then]
      go_at_K
      have F : Hid (Below W9.heap.size W9 (w2.alloc (.cells #[.int .i8 x.k, .int .i64 x.n, .string x.s] 39)) ∧ RL (w2.alloc (.cells #[.int .i8 x.k, .int .i64 x.n, .string x.s] 39)) w2.heap.size 39 [.int .i8 x.k, .int .i64 x.n, .string x.s]) := ⟨b3.alloc b3.size _, rl_new w2 #[.int .i8 x.k, .int .i64 x.n, .string x.s] 39⟩
      clear b3 HS HZ2 HA hB0
      generalize w2.alloc (.cells #[.int .i8 x.k, .int .i64 x.n, .string x.s] 39) = W10 at F ⊢
      generalize w2.heap.size = b10 at F ⊢
      clear HW9
      have q0 := (F9.out.2.below F.out.1).at (j := 0) rfl
      have q1 := (F9.out.2.below F.out.1).at (j := 1) rfl
      have q2 := (F9.out.2.below F.out.1).at (j := 2) rfl
      have z0 := F.out.2.at (j := 0) rfl
      have z1 := F.out.2.at (j := 1) rfl
      have z2 := F.out.2.at (j := 2) rfl
      have hq : ∀ W, (binOp .eql 39 (.agg #[.int .i8 x.k, .int .i64 x.n, .string x.s]) (.agg #[.int .i8 x.k, .int .i64 x.n, .string x.s])).run Try.prog W = .ok (.bool true) W := fun W => by rw [run_eql]; simp
      have HE := Lib.hid (HB.out.trans ((F9.out.1.trans (F.out.1.mono F9.out.1.size)).mono HB.out.size))
      clear F F9 HB HN O HVT HVR
      go_wp2
      go_ret
      exact ⟨rfl, HE.out⟩
    · simp only [Exit.then]
      go_at_K
      have F1 : Hid (Below W9.heap.size W9 (((w2.setCell ⟨W9.heap.size, 0, none⟩ (.int .i8 x.k)).setCell ⟨W9.heap.size, 1, none⟩ (.int .i64 x.n)).setCell ⟨W9.heap.size, 2, none⟩ (.string x.s))) := ((b3.setCell (p := ⟨W9.heap.size, 0, none⟩) (Nat.le_refl _) _).setCell (p := ⟨W9.heap.size, 1, none⟩) (Nat.le_refl _) _).setCell (p := ⟨W9.heap.size, 2, none⟩) (Nat.le_refl _) _
      have F2 : Hid (RL (((w2.setCell ⟨W9.heap.size, 0, none⟩ (.int .i8 x.k)).setCell ⟨W9.heap.size, 1, none⟩ (.int .i64 x.n)).setCell ⟨W9.heap.size, 2, none⟩ (.string x.s)) W9.heap.size 39 [.int .i8 x.k, .int .i64 x.n, .string x.s]) := ((rz.set 0 (.int .i8 x.k)).set 1 (.int .i64 x.n)).set 2 (.string x.s)
      clear b3 rz d0 d1 d2 f0 f1 f2 HS HZ2 HA hB0
      generalize ((w2.setCell ⟨W9.heap.size, 0, none⟩ (.int .i8 x.k)).setCell ⟨W9.heap.size, 1, none⟩ (.int .i64 x.n)).setCell ⟨W9.heap.size, 2, none⟩ (.string x.s) = W10 at F1 F2 ⊢
      generalize hbn : W9.heap.size = b10 at F2 ⊢
      clear hbn
      have F : Hid (Below W9.heap.size W9 W10 ∧ RL W10 b10 39 [.int .i8 x.k, .int .i64 x.n, .string x.s]) := ⟨F1.out, F2.out⟩
      clear F1 F2
      clear HW9
      have q0 := (F9.out.2.below F.out.1).at (j := 0) rfl
      have q1 := (F9.out.2.below F.out.1).at (j := 1) rfl
      have q2 := (F9.out.2.below F.out.1).at (j := 2) rfl
      have z0 := F.out.2.at (j := 0) rfl
      have z1 := F.out.2.at (j := 1) rfl
      have z2 := F.out.2.at (j := 2) rfl
      have hq : ∀ W, (binOp .eql 39 (.agg #[.int .i8 x.k, .int .i64 x.n, .string x.s]) (.agg #[.int .i8 x.k, .int .i64 x.n, .string x.s])).run Try.prog W = .ok (.bool true) W := fun W => by rw [run_eql]; simp
      have HE := Lib.hid (HB.out.trans ((F9.out.1.trans (F.out.1.mono F9.out.1.size)).mono HB.out.size))
      clear F F9 HB HN O HVT HVR
      go_wp2
      go_ret
      exact ⟨rfl, HE.out⟩
end
end Go.Proofs.Ythdcgikhcghigaa
