import Derived.Test.YtmmaidniaafkgaaSnAmid
import Derived.Test.YtmmaidniaafkgaaSnReg8
namespace Go.Proofs.Ytmmaidniaafkgaa
open Go.RowKit Go.Maps Go.Shelf
set_option linter.unusedVariables false
set_option linter.unusedSimpArgs false
attribute [local go_sem ↓] Go.wp_at_zero Go.wp_at_succ
attribute [local go_sem] run_store_func

/-- all but block t is as it was -/
structure Beside (t : Nat) (w w' : World) : Prop where
  os : w'.os = w.os
  tape : w'.tape = w.tape
  output : w'.output = w.output
  size : w.heap.size ≤ w'.heap.size
  block : ∀ k, k < w.heap.size → k ≠ t → w'.heap[k]? = w.heap[k]?
theorem Beside.of {t : Nat} {w w' : World} (h : Below w.heap.size w w') : Beside t w w' := ⟨h.os, h.tape, h.output, h.size, fun k hk _ => h.block k hk⟩
theorem Beside.set {t i : Nat} {w w' : World} (h : Beside t w w') (v : Value) : Beside t w (w'.setCell ⟨t, i, none⟩ v) :=
  ⟨h.os, h.tape, h.output, Nat.le_trans h.size (by simp [World.setCell]), fun k hk hn => (Below.heap_setCell _ _ _ _ hn).trans (h.block k hk hn)⟩
theorem Beside.below {t B : Nat} {w w' : World} (h : Beside t w w') (hB : B ≤ t) (hw : B ≤ w.heap.size) : Below B w w' := ⟨h.os, h.tape, h.output, h.size, fun k hk => h.block k (by omega) (by omega)⟩
theorem RL.beside {t b : Nat} {w w' : World} {ty : TypeId} {l : List Value} (h : RL w b ty l) (hb : Beside t w w') (hn : b ≠ t) : RL w' b ty l := World.rowIs.of_block h (hb.block b (World.rowIs.lt h) hn)
theorem RL.apart {w : World} {a b : Nat} {ta tb : TypeId} {l l' : List Value} (h : RL w a ta l) (h' : RL w b tb l') (hl : l[0]? ≠ l'[0]? ∨ l.length ≠ l'.length) (h0 : 0 < l.length) (h0' : 0 < l'.length) : a ≠ b := by
  rintro rfl
  obtain ⟨c, h1, h2, _⟩ := id h
  obtain ⟨c', h1', h2', _⟩ := id h'
  rw [h1] at h1'
  cases h1'
  rcases hl with hl | hl
  · have e1 := h.at (List.getElem?_eq_getElem h0)
    have e2 := h'.at (List.getElem?_eq_getElem h0')
    rw [e1] at e2
    apply hl
    rw [List.getElem?_eq_getElem h0, List.getElem?_eq_getElem h0', Option.some.inj e2]
  · exact hl (h2.symm.trans h2')
theorem NoTab.beside {t : Nat} {w w' : World} {p q : Value} (h : NoTab w p) (ht : RL w t 37 [q, .pointer none, .nilFunc]) (hq : ∀ m, q ≠ .map m) (hb : Beside t w w') : NoTab w' p := by
  cases h with
  | nil => exact .nil
  | zero s ty' h => exact .zero s ty' (h.beside hb (h.apart ht (.inl (by simp; exact fun e => hq _ e.symm)) (by simp) (by simp)))
theorem RL.frozen {w : World} {b : Nat} {t : TypeId} {l : List Value} (h : RL w b t l) (j : Nat) : w.frozen? ⟨b, j, none⟩ = false := World.rowIs.frozen h j
theorem NoTab.map {w : World} {p : Value} (h : NoTab w p) : ∀ m, p ≠ .map m := by
  intro m e
  cases h <;> cases e
/-- a pair as the law makes it: nothing is kept yet -/
def BothNil (w : World) (t : Nat) (p : Value) : Prop := RL w t 37 [p, .pointer none, .nilFunc] ∧ NoTab w p
theorem BothNil.below {w w' : World} {t : Nat} {p : Value} (h : BothNil w t p) (b : Below w.heap.size w w') : BothNil w' t p := ⟨h.1.below b, h.2.below b⟩
theorem BothNil.lite {w : World} {t : Nat} {p : Value} (h : BothNil w t p) : BothNo w t p := ⟨World.rowIs.lt h.1, h.1.at rfl, h.1.at rfl, h.2⟩
theorem BothNil.c2 {w : World} {t : Nat} {p : Value} (h : BothNil w t p) : w.cell? ⟨t, 2, none⟩ = some .nilFunc := h.1.at rfl
set_option maxHeartbeats 3200000 in
set_option maxRecDepth 100000 in
theorem asks_8 {w : World} {t : Nat} {p : Value} (h : BothNo w t p) (on n m : Int) (v : V) (lv : Value) (r : List Int) : Calls Try.prog 14 #[.pointer (some ⟨t, 0, none⟩), .agg (opL on 8 n m v lv r).toArray] w fun e w' => e = .returned (.bool true) ∧ Below w.heap.size w w' := by
  have O := Lib.hid (opAt_new w on 8 n m v lv r)
  have HB := Lib.hid (belowA (w := w) (.cells (opL on 8 n m v lv r).toArray 31))
  have HN := Lib.hid (h.below HB.out)
  clear h
  go_enter Try.func14, Try.ntmps14
  go_upto_region 1 with fail
  generalize w.alloc (.cells (opL on 8 n m v lv r).toArray 31) = W at O HB HN ⊢
  have hc1 := O.out.c1
  have hc0 := HN.out.c0
  go_wp2_with fail
  refine (all_no HN.out.no).mono ?_
  rintro e w4 ⟨⟨sq, rfl, hsq⟩, b4⟩
  have HSQ := Lib.hid hsq
  have HB4 := Lib.hid b4
  have HS4 : Hid (∀ u, Below w4.heap.size w4 u → Below w4.heap.size w4 u ∧ u.cell? ⟨t, 1, none⟩ = some (.pointer none) ∧ u.cell? ⟨w.heap.size, 2, none⟩ = some (.int .i64 n)) := fun u hu => by
    have hb := HB4.out.trans (hu.mono HB4.out.size)
    exact ⟨hu, (HN.out.below hb).c1, (O.out.below hb).c2⟩
  have HT : Hid (∀ u, Below w4.heap.size w4 u → ∀ x : Int, Calls Try.prog 26 #[sq, .slice none 0 0, .int .i64 x] u fun e w' => e = .returned (.bool true) ∧ Below w4.heap.size w4 w') :=
    fun u hu x => (tells_no (HSQ.out.below hu) none 0 x).mono fun e w' h => ⟨h.1, hu.trans (h.2.mono hu.size)⟩
  clear hsq b4 hc0 hc1
  go_upto_region 4 with fail
  have hB0 : Below w4.heap.size w4 w4.drew := (Below.refl _ _).drew
  go_region_held3 (fun u => Below w4.heap.size w4 u ∧ u.cell? ⟨t, 1, none⟩ = some (.pointer none) ∧ u.cell? ⟨w.heap.size, 2, none⟩ = some (.int .i64 n))
    (first | assumption | exact HS4.out _ hB0 | exact HS4.out _ (by assumption))
    (first
      | (go_at_call 27; refine (rall_nil _).mono ?_; rintro ee w3 ⟨rfl, rfl⟩)
      | (go_at_call 26; refine (HT.out _ (by first | assumption | exact hB0) _).mono ?_; rintro ee w5 ⟨rfl, b5⟩)
      | fail)
  all_goals
    go_wp2
    go_ret
    exact ⟨rfl, HB.out.trans ((HB4.out.trans (Below.mono (by assumption) HB4.out.size)).mono HB.out.size)⟩
set_option maxHeartbeats 3200000 in
set_option maxRecDepth 100000 in
theorem asks_10 {w : World} {t : Nat} {p : Value} (h : BothNil w t p) (on n m : Int) (v : V) (lv : Value) (r : List Int) : Calls Try.prog 14 #[.pointer (some ⟨t, 0, none⟩), .agg (opL on 10 n m v lv r).toArray] w fun e w' => e = .returned (.bool true) ∧ Below w.heap.size w w' := by
  have O := Lib.hid (opAt_new w on 10 n m v lv r)
  have HB := Lib.hid (belowA (w := w) (.cells (opL on 10 n m v lv r).toArray 31))
  have HN := Lib.hid (h.below HB.out)
  clear h
  go_enter Try.func14, Try.ntmps14
  go_upto_region 1 with fail
  generalize w.alloc (.cells (opL on 10 n m v lv r).toArray 31) = W at O HB HN ⊢
  have hc1 := O.out.c1
  go_upto_region 8 with fail
  clear hc1
  refine wp_region_noPanic ?_
  refine wp_region_held (S := fun u => Below W.heap.size W u) (by kernel_rfl) ?_
  refine regKept (w5 := W) (S := fun u => Below W.heap.size W u) (t := t) rfl rfl rfl rfl rfl rfl rfl rfl rfl rfl rfl rfl rfl rfl rfl rfl rfl rfl rfl rfl (by kernel_rfl) (by kernel_rfl) (by kernel_rfl) (fun _ _ _ _ _ h => h) (by simp) rfl (Below.refl _ _).drew (fun u hu => run_loadSeq (HN.out.below hu).c2) ?_
  intro wf hS
  have HBW := Lib.hid (HB.out.trans (hS.mono HB.out.size))
  clear hS HB HN O
  refine NoPanic.normal ?_
  rename_i hK
  refine hK _ _ ?_
  simp (config := { maxSteps := 8000000 }) only [Act.put, List.setIfInBounds_toArray, List.set_cons_succ, List.set_cons_zero]
  go_wp2
  go_ret
  exact ⟨rfl, HBW.out⟩
set_option maxHeartbeats 3200000 in
set_option maxRecDepth 100000 in
theorem asks_7 {w : World} {t : Nat} {p : Value} (h : BothNo w t p) (on n m : Int) (v : V) (lv : Value) (r : List Int) : Calls Try.prog 14 #[.pointer (some ⟨t, 0, none⟩), .agg (opL on 7 n m v lv r).toArray] w fun e w' => e = .returned (.bool true) ∧ Below w.heap.size w w' := by
  have O := Lib.hid (opAt_new w on 7 n m v lv r)
  have HB := Lib.hid (belowA (w := w) (.cells (opL on 7 n m v lv r).toArray 31))
  have HN := Lib.hid (h.below HB.out)
  clear h
  go_enter Try.func14, Try.ntmps14
  go_upto_region 1 with fail
  generalize w.alloc (.cells (opL on 7 n m v lv r).toArray 31) = W at O HB HN ⊢
  have hc1 := O.out.c1
  go_upto_region 12 with fail
  clear hc1
  have hB0 : Below W.heap.size W W.drew := (Below.refl _ _).drew
  have HS : Hid (∀ u, Below W.heap.size W u → Below W.heap.size W u ∧ u.cell? ⟨t, 0, none⟩ = some p ∧ u.cell? ⟨t, 1, none⟩ = some (.pointer none) ∧ u.cell? ⟨w.heap.size, 2, none⟩ = some (.int .i64 n)) := fun u hu => ⟨hu, (HN.out.below hu).c0, (HN.out.below hu).c1, (O.out.below hu).c2⟩
  go_region_held3 (fun u => Below W.heap.size W u ∧ u.cell? ⟨t, 0, none⟩ = some p ∧ u.cell? ⟨t, 1, none⟩ = some (.pointer none) ∧ u.cell? ⟨w.heap.size, 2, none⟩ = some (.int .i64 n))
    (first | assumption | exact HS.out _ hB0 | exact HS.out _ (by assumption))
    (first
      | (go_at_call 29; refine (cut_no (HN.out.below hB0).no n).mono ?_; rintro ee w3 ⟨rfl, rfl⟩)
      | (go_at_call 30; refine (rcut_nil n).mono ?_; rintro ee w3 ⟨rfl, rfl⟩)
      | fail)
  all_goals
    go_wp2
    go_ret
    exact ⟨rfl, HB.out.trans (hB0.mono HB.out.size)⟩
set_option maxHeartbeats 3200000 in
set_option maxRecDepth 100000 in
theorem asks_other {w : World} {t : Nat} {p : Value} (h : BothNo w t p) (on k n m : Int) (v : V) (lv : Value) (r : List Int) (h7 : k ≠ 7) (h8 : k ≠ 8) (h9 : k ≠ 9) (h10 : k ≠ 10) (h11 : k ≠ 11) : Calls Try.prog 14 #[.pointer (some ⟨t, 0, none⟩), .agg (opL on k n m v lv r).toArray] w fun e w' => e = .returned (.bool true) ∧ Below w.heap.size w w' := by
  have O := Lib.hid (opAt_new w on k n m v lv r)
  have HB := Lib.hid (belowA (w := w) (.cells (opL on k n m v lv r).toArray 31))
  have HN := Lib.hid (h.below HB.out)
  clear h
  go_enter Try.func14, Try.ntmps14
  go_upto_region 1 with fail
  generalize w.alloc (.cells (opL on k n m v lv r).toArray 31) = W at O HB HN ⊢
  have hc1 := O.out.c1
  clear HN
  have e7 : ((k : Int) == 7) = false := by simpa using h7
  have e8 : ((k : Int) == 8) = false := by simpa using h8
  have e9 : ((k : Int) == 9) = false := by simpa using h9
  have e10 : ((k : Int) == 10) = false := by simpa using h10
  have e11 : ((k : Int) == 11) = false := by simpa using h11
  clear h7 h8 h9 h10 h11
  go_wp2
  go_ret
  exact ⟨rfl, HB.out⟩
set_option maxHeartbeats 3200000 in
set_option maxRecDepth 100000 in
theorem asks_9 {w : World} {t : Nat} {p : Value} (h : BothNil w t p) (on n m : Int) (v : V) (lv : Value) (r : List Int) : Calls Try.prog 14 #[.pointer (some ⟨t, 0, none⟩), .agg (opL on 9 n m v lv r).toArray] w fun e w' => e = .returned (.bool true) ∧ BothNo w' t p ∧ Beside t w w' := by
  have O := Lib.hid (opAt_new w on 9 n m v lv r)
  have HB := Lib.hid (belowA (w := w) (.cells (opL on 9 n m v lv r).toArray 31))
  have HN := Lib.hid (h.below HB.out)
  have H0 := Lib.hid h
  clear h
  go_enter Try.func14, Try.ntmps14
  go_upto_region 1 with fail
  generalize w.alloc (.cells (opL on 9 n m v lv r).toArray 31) = W at O HB HN ⊢
  have hc1 := O.out.c1
  have hc0 := HN.out.lite.c0
  have HC : Hid (∀ u, Below W.heap.size W u → u.cell? ⟨t, 2, none⟩ = some .nilFunc ∧ u.frozen? ⟨t, 2, none⟩ = false) := fun u hu => ⟨(HN.out.below hu).c2, (HN.out.below hu).1.frozen 2⟩
  go_wp2_with fail
  refine (all_no HN.out.lite.no).mono ?_
  rintro e w4 ⟨⟨sq, rfl, hsq⟩, b4⟩
  obtain ⟨lb, rfl, _⟩ := hsq.tells
  obtain ⟨d2, f2⟩ := HC.out w4 b4
  have r5 := (HN.out.below b4).1.set 2 (.func (.func 37) #[] lb)
  have s5 : Beside t w (w4.setCell ⟨t, 2, none⟩ (.func (.func 37) #[] lb)) := (Beside.of (HB.out.trans (b4.mono HB.out.size))).set _
  have HE : Hid (BothNo (w4.setCell ⟨t, 2, none⟩ (.func (.func 37) #[] lb)) t p ∧ Beside t w (w4.setCell ⟨t, 2, none⟩ (.func (.func 37) #[] lb))) :=
    ⟨⟨World.rowIs.lt r5, r5.at rfl, r5.at rfl, H0.out.2.beside H0.out.1 H0.out.2.map s5⟩, s5⟩
  clear r5 s5 hsq b4 HC H0 HN HB O hc0
  go_wp2
  go_ret
  exact ⟨rfl, HE.out⟩
section
attribute [-go_sem] loadVar
set_option maxHeartbeats 3200000 in
set_option maxRecDepth 100000 in
theorem asks_11 {w : World} {t : Nat} {p : Value} (h : BothNo w t p) (on n m : Int) (v : V) (lv : Value) (r : List Int) (hr : r.length = 24) : Calls Try.prog 14 #[.pointer (some ⟨t, 0, none⟩), .agg (opL on 11 n m v lv r).toArray] w fun e w' => e = .returned (.bool true) ∧ Below w.heap.size w w' := by
  have O := Lib.hid (opAt_new w on 11 n m v lv r)
  have HB := Lib.hid (belowA (w := w) (.cells (opL on 11 n m v lv r).toArray 31))
  have HN := Lib.hid (h.below HB.out)
  clear h
  go_enter Try.func14, Try.ntmps14
  go_upto_region 1 with fail
  generalize w.alloc (.cells (opL on 11 n m v lv r).toArray 31) = W at O HB HN ⊢
  have hc1 := O.out.c1
  have hc1 := run_loadInt hc1
  have hld := O.out.load hr
  go_wp2_with fail
  refine (amid_no HN.out on 11 n m v lv r).mono ?_
  rintro e w2 ⟨rfl, b2⟩
  go_wp2
  go_ret
  exact ⟨rfl, HB.out.trans (b2.mono HB.out.size)⟩
end
end Go.Proofs.Ytmmaidniaafkgaa
