import Derived.Test.YtihngojkcacgdaaRelNoAsks
namespace Go.Proofs.Ytihngojkcacgdaa
open Go.RowKit Go.Maps Go.Shelf
set_option linter.unusedVariables false
set_option linter.unusedSimpArgs false
attribute [local go_sem ↓] Go.wp_at_zero Go.wp_at_succ

/-- all but block t is as it was -/
structure Beside (t : Nat) (w w' : World) : Prop where
  os : w'.os = w.os
  tape : w'.tape = w.tape
  output : w'.output = w.output
  size : w.heap.size ≤ w'.heap.size
  block : ∀ k, k < w.heap.size → k ≠ t → w'.heap[k]? = w.heap[k]?
theorem Beside.of {t : Nat} {w w' : World} (h : Below w.heap.size w w') : Beside t w w' := ⟨h.os, h.tape, h.output, h.size, fun k hk _ => h.block k hk⟩
theorem Beside.set {t i : Nat} {w w' : World} (h : Beside t w w') (v : Value) : Beside t w (w'.setCell ⟨t, i, none⟩ v) :=
  ⟨h.os, h.tape, h.output, Nat.le_trans h.size (by simp [World.setCell]), fun k hk hn => (Below.heap_setCell _ _ _ _ hn).trans (h.block k hk hn)⟩
theorem Beside.below {t B : Nat} {w w' : World} (h : Beside t w w') (hB : B ≤ t) (hw : B ≤ w.heap.size) : Below B w w' := ⟨h.os, h.tape, h.output, h.size, fun k hk => h.block k (by omega) (by omega)⟩
theorem RL.beside {t b : Nat} {w w' : World} {ty : TypeId} {l : List Value} (h : RL w b ty l) (hb : Beside t w w') (hn : b ≠ t) : RL w' b ty l := World.rowIs.of_block h (hb.block b (World.rowIs.lt h) hn)
theorem RL.apart {w : World} {a b : Nat} {ta tb : TypeId} {l l' : List Value} (h : RL w a ta l) (h' : RL w b tb l') (hl : l.length ≠ l'.length) : a ≠ b := by
  rintro rfl
  obtain ⟨c, h1, h2, _⟩ := h
  obtain ⟨c', h1', h2', _⟩ := h'
  rw [h1] at h1'
  cases h1'
  exact hl (h2.symm.trans h2')
theorem NoRel.beside {t : Nat} {w w' : World} {p : Value} {ty : TypeId} {l : List Value} (h : NoRel w p) (ht : RL w t ty l) (hl : l.length = 5) (hb : Beside t w w') : NoRel w' p := by
  cases h with
  | nil => exact .nil
  | zero s ty' h => exact .zero s ty' (h.beside hb (h.apart ht (by simp [hl])))
theorem RL.frozen {w : World} {b : Nat} {t : TypeId} {l : List Value} (h : RL w b t l) (j : Nat) : w.frozen? ⟨b, j, none⟩ = false := World.rowIs.frozen h j
theorem run_store_func (P : Program) (w : World) (a : Addr) (m : Mode) (f : Fn) (vs lb : Array Value) : (store a (.func f vs lb) m).run P w = stored P w a (.func f vs lb) m := run_store P w a _ m rfl
attribute [local go_sem] run_store_func
set_option maxHeartbeats 3200000 in
set_option maxRecDepth 100000 in
theorem asks_7 {w : World} {t : Nat} {p : Value} (h : BothNil w t p) (on n m mask : Int) (r : List Int) : Calls Try.prog 20 #[.pointer (some ⟨t, 0, none⟩), .agg (opL on 7 n m mask r).toArray] w fun e w' => e = .returned (.bool true) ∧ BothNo w' t p ∧ Beside t w w' := by
  have O := Lib.hid (opAt_new w on 7 n m mask r)
  have HB := Lib.hid (belowA (w := w) (.cells (opL on 7 n m mask r).toArray 28))
  have HN := Lib.hid (h.below HB.out)
  have hne : w.heap.size ≠ t := by have := h.lite.1; omega
  have HT : Hid (t < w.heap.size) := h.lite.1
  have H0 := Lib.hid h
  clear h
  go_enter Try.func20, Try.ntmps20
  go_upto_region 1 with fail
  generalize w.alloc (.cells (opL on 7 n m mask r).toArray 28) = W at O HB HN ⊢
  have hc1 := O.out.c1
  go_upto_region 6 with fail
  clear hc1
  have hB0 : Below W.heap.size W W.drew := (Below.refl _ _).drew
  have HS : Hid (∀ u, Below W.heap.size W u → u.cell? ⟨t, 0, none⟩ = some p ∧ u.cell? ⟨w.heap.size, 2, none⟩ = some (.int .i64 n) ∧ u.cell? ⟨w.heap.size, 3, none⟩ = some (.int .i64 m)) :=
    fun u hu => ⟨(HN.out.below hu).lite.c0, (O.out.below hu).c2, (O.out.below hu).c3⟩
  have HST : Hid (∀ u v, Below W.heap.size W u → (u.setCell ⟨t, 2, none⟩ v).cell? ⟨t, 0, none⟩ = some p ∧ (u.setCell ⟨t, 2, none⟩ v).cell? ⟨w.heap.size, 2, none⟩ = some (.int .i64 n) ∧ (u.setCell ⟨t, 2, none⟩ v).cell? ⟨w.heap.size, 3, none⟩ = some (.int .i64 m)) :=
    fun u v hu => ⟨((HN.out.below hu).1.set 2 v).at rfl, (OpAt.c2 (Eq.trans (Below.heap_setCell _ _ _ _ hne) (O.out.below hu))), (OpAt.c3 (Eq.trans (Below.heap_setCell _ _ _ _ hne) (O.out.below hu)))⟩
  have HC : Hid (∀ u, Below W.heap.size W u → u.cell? ⟨t, 2, none⟩ = some .nilFunc ∧ u.frozen? ⟨t, 2, none⟩ = false) := fun u hu => ⟨(HN.out.below hu).c2, (HN.out.below hu).1.frozen 2⟩
  go_region_held3 (fun u => u.cell? ⟨t, 0, none⟩ = some p ∧ u.cell? ⟨w.heap.size, 2, none⟩ = some (.int .i64 n) ∧ u.cell? ⟨w.heap.size, 3, none⟩ = some (.int .i64 m))
    (first | assumption | exact HS.out _ hB0 | exact HS.out _ (by assumption) | exact HST.out _ _ (by assumption))
    (first
      | (go_at_call 23; refine (range_no (HN.out.below hB0).lite.no _ _).mono ?_; rintro ee w4 ⟨⟨sq, rfl, hsq⟩, b4⟩; have b4' : Below W.heap.size W w4 := hB0.trans (b4.mono hB0.size); clear b4; obtain ⟨d2, f2⟩ := HC.out w4 b4'; obtain ⟨lb, rfl, _⟩ := hsq.tells; clear hsq)
      | fail)
  simp only [Exit.then]
  go_at_K
  have r5 := (HN.out.below b4').1.set 2 (.func (.func 48) #[] lb)
  have o5 : OpAt (w4.setCell ⟨t, 2, none⟩ (.func (.func 48) #[] lb)) w.heap.size on 7 n m mask r := Eq.trans (Below.heap_setCell _ _ _ _ hne) (O.out.below b4')
  have s5 : Beside t w (w4.setCell ⟨t, 2, none⟩ (.func (.func 48) #[] lb)) := (Beside.of (HB.out.trans (b4'.mono HB.out.size))).set _
  clear hB0 HS HST HC d2 f2 b4' HN HB O
  generalize w4.setCell ⟨t, 2, none⟩ (.func (.func 48) #[] lb) = W5 at r5 o5 s5 ⊢
  have c2 := o5.c2
  have c3 := r5.at (j := 3) rfl
  have f3 := r5.frozen 3
  have r6 := r5.set 3 (.int .i64 n)
  have o6 : OpAt (W5.setCell ⟨t, 3, none⟩ (.int .i64 n)) w.heap.size on 7 n m mask r := Eq.trans (Below.heap_setCell _ _ _ _ hne) o5
  have s6 := s5.set (i := 3) (.int .i64 n)
  have d3 := o6.c3
  have c4 := r6.at (j := 4) rfl
  have f4 := r6.frozen 4
  have r7 := r6.set 4 (.int .i64 m)
  have s7 := s6.set (i := 4) (.int .i64 m)
  have e2 := r7.at (j := 2) rfl
  have HE : Hid (BothNo ((W5.setCell ⟨t, 3, none⟩ (.int .i64 n)).setCell ⟨t, 4, none⟩ (.int .i64 m)) t p ∧ Beside t w ((W5.setCell ⟨t, 3, none⟩ (.int .i64 n)).setCell ⟨t, 4, none⟩ (.int .i64 m))) :=
    ⟨⟨World.rowIs.lt r7, r7.at rfl, r7.at rfl, H0.out.2.beside H0.out.1 rfl s7⟩, s7⟩
  have hft := fun w => fn_thereN 48 lb w
  clear r5 o5 s5 r6 o6 s6 r7 s7 H0 HT hne
  go_wp2
  go_ret
  exact ⟨rfl, HE.out⟩
end Go.Proofs.Ytihngojkcacgdaa
