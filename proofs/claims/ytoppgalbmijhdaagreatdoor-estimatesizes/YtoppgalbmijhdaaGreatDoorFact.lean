import Derived.Test.YtoppgalbmijhdaaGreatDoorTup
namespace Go.Proofs.YtoppgalbmijhdaaGreatDoor.AR
open Go.RowKit
set_option linter.unusedVariables false
attribute [local go_sem ↓] Go.wp_at_zero Go.wp_at_succ

def cmpF (p p' : ByteArray) (c : Int) : Int := orL [Lib.compareBytes p.data.toList p'.data.toList, c]
theorem cmpF_lt {p p' : ByteArray} (c : Int) (h : Op.bytesLess p.toList p'.toList = true) : cmpF p p' c = -1 := by
  rw [ByteArray.toList_eq, ByteArray.toList_eq] at h
  simp [cmpF, orL, compareBytes_less _ _ h]
theorem cmpF_gt {p p' : ByteArray} (c : Int) (h : Op.bytesLess p.toList p'.toList = false) (hn : ¬ p.toList = p'.toList) : cmpF p p' c = 1 := by
  rw [ByteArray.toList_eq, ByteArray.toList_eq] at h hn
  simp [cmpF, orL, compareBytes_more _ _ h hn]
theorem cmpF_eq {p p' : ByteArray} (c : Int) (hn : p.toList = p'.toList) : cmpF p p' c = c := by
  rw [ByteArray.toList_eq, ByteArray.toList_eq] at hn
  simp only [cmpF, orL, hn, compareBytes_self, if_true]
  split <;> simp_all

theorem Cells.setOther {w : World} {g off n : Nat} {K N : Nat → Int} {S : Nat → ByteArray} (h : Cells w g off n K N S) {a : Addr} (hg : g ≠ a.block) (x : Value) : Cells (w.setCell a x) g off n K N S := by
  have ne : ∀ o, ¬ a = ⟨g, o, none⟩ := fun o e => hg (by rw [e])
  refine ⟨fun hn => by simpa [World.setCell] using h.lt hn, fun i hi => ?_, fun i hi => ?_, fun i hi => ?_, h.size⟩
  · rw [World.cell?_setCell_other _ _ _ _ (ne _)]; exact h.kind i hi
  · rw [World.cell?_setCell_other _ _ _ _ (ne _)]; exact h.num i hi
  · rw [World.cell?_setCell_other _ _ _ _ (ne _)]; exact h.text i hi

theorem fact_keep {w : World} {p p' : ByteArray} {v v' : Value} {u u' : World} (hb : Below u.heap.size u u')
    (h : w.heap.size + 1 < u.heap.size ∧ Below w.heap.size w u ∧ u.cell? ⟨w.heap.size, 0, none⟩ = some (.string p) ∧ u.cell? ⟨w.heap.size, 1, none⟩ = some v ∧ u.cell? ⟨w.heap.size + 1, 0, none⟩ = some (.string p') ∧ u.cell? ⟨w.heap.size + 1, 1, none⟩ = some v') :
    w.heap.size + 1 < u'.heap.size ∧ Below w.heap.size w u' ∧ u'.cell? ⟨w.heap.size, 0, none⟩ = some (.string p) ∧ u'.cell? ⟨w.heap.size, 1, none⟩ = some v ∧ u'.cell? ⟨w.heap.size + 1, 0, none⟩ = some (.string p') ∧ u'.cell? ⟨w.heap.size + 1, 1, none⟩ = some v' := by
  obtain ⟨hz, bel, a0, a1, b0, b1⟩ := h
  have hs := hb.size
  refine ⟨by omega, bel.trans (hb.mono (by omega)), ?_, ?_, ?_, ?_⟩
  · rw [hb.cell (by show w.heap.size < _; omega)]; exact a0
  · rw [hb.cell (by show w.heap.size < _; omega)]; exact a1
  · rw [hb.cell (by show w.heap.size + 1 < _; omega)]; exact b0
  · rw [hb.cell (by show w.heap.size + 1 < _; omega)]; exact b1

set_option maxHeartbeats 1600000 in
theorem vcompareFacts_any (p p' : ByteArray) (v v' : Value) (n m : Nat) (K N : Nat → Int) (S : Nat → ByteArray) (K' N' : Nat → Int) (S' : Nat → ByteArray) (w : World) (hl : Lst w v n K N S) (hl' : Lst w v' m K' N' S') :
    Calls Tryz.prog 59 #[.agg #[.string p, v], .agg #[.string p', v']] w fun e w' => e = .returned (.int .i64 (cmpF p p' (tupC (fun i => cmpV (K i) (N i) (S i) (K' i) (N' i) (S' i)) n m (min n m)))) ∧ Below w.heap.size w w' := by
  obtain ⟨a, c, rfl, _, _⟩ := hl.form
  obtain ⟨b, d, rfl, _, _⟩ := hl'.form
  go_enter Tryz.func59, Tryz.ntmps59
  go_wp2_with fail
  go_region_held3 (fun w' => w.heap.size + 1 < w'.heap.size ∧ Below w.heap.size w w' ∧ w'.cell? ⟨w.heap.size, 0, none⟩ = some (.string p) ∧ w'.cell? ⟨w.heap.size, 1, none⟩ = some (.slice a n c) ∧ w'.cell? ⟨w.heap.size + 1, 0, none⟩ = some (.string p') ∧ w'.cell? ⟨w.heap.size + 1, 1, none⟩ = some (.slice b m d))
    (first
      | assumption
      | exact fact_keep (by assumption) (by assumption)
      | exact fact_keep ((Below.refl _ _).alloc (Nat.le_refl _) _) (by assumption)
      | (refine ⟨(by simp), (((Below.refl _ _).alloc (Nat.le_refl _) _).alloc (by simp) _).drew, ?_, ?_, ?_, ?_⟩ <;> go_simp)
      | (refine ⟨(by simp), (((Below.refl _ _).alloc (Nat.le_refl _) _).alloc (by simp) _), ?_, ?_, ?_, ?_⟩ <;> go_simp))
    (first
      | (go_at_call 71; refine (cmpText_any _ _ _).mono ?_; rintro e w' ⟨rfl, rfl⟩)
      | (go_at_call 72; refine (vcompareTuples_any _ _ n m K N S K' N' S' _ (hl.below ((((Below.refl _ _).alloc (Nat.le_refl _) _).alloc (by simp) _).drew)) (hl'.below ((((Below.refl _ _).alloc (Nat.le_refl _) _).alloc (by simp) _).drew))).mono ?_; rintro e w1 ⟨rfl, hb1⟩)
      | (go_at_call 70; refine (or_any [Lib.compareBytes p.data.toList p'.data.toList, tupC (fun i => cmpV (K i) (N i) (S i) (K' i) (N' i) (S' i)) n m (min n m)] _ 0 2 2 _ rfl (by omega) ?_).mono ?_; (intro i hi; obtain rfl | rfl : i = 0 ∨ i = 1 := (by omega)) <;> go_simp; rintro e w' ⟨rfl, rfl⟩))
  go_wp2
  go_ret
  exact ⟨rfl, by rename_i h; exact h.2.1⟩

set_option maxHeartbeats 1600000 in
theorem rcompareFacts_any (p p' : ByteArray) (v v' : Value) (n m : Nat) (K N : Nat → Int) (S : Nat → ByteArray) (K' N' : Nat → Int) (S' : Nat → ByteArray) (w : World) (hl : Lst w v n K N S) (hl' : Lst w v' m K' N' S') :
    Calls Tryz.prog 25 #[.agg #[.string p, v], .agg #[.string p', v']] w fun e w' => e = .returned (.int .i64 (cmpF p p' (tupC (fun i => cmpV (K i) (N i) (S i) (K' i) (N' i) (S' i)) n m (min n m)))) ∧ Below w.heap.size w w' := by
  obtain ⟨a, c, rfl, _, _⟩ := hl.form
  obtain ⟨b, d, rfl, _, _⟩ := hl'.form
  have bel2 : ∀ o o', Below w.heap.size w ((w.alloc o).alloc o') := fun o o' => ((Below.refl _ _).alloc (Nat.le_refl _) _).alloc (by simp) _
  cases hlt : Op.bytesLess p.toList p'.toList
  · by_cases he : p.toList = p'.toList
    · have he' : (p.toList == p'.toList) = true := by simpa using he
      have HF : Hid (cmpF p p' (tupC (fun i => cmpV (K i) (N i) (S i) (K' i) (N' i) (S' i)) n m (min n m)) = tupC (fun i => cmpV (K i) (N i) (S i) (K' i) (N' i) (S' i)) n m (min n m)) := cmpF_eq _ he
      clear he
      go_enter Tryz.func25, Tryz.ntmps25
      go_wp2_with fail
      refine (rcompareTuples_any _ _ n m K N S K' N' S' _ (hl.below (bel2 _ _)) (hl'.below (bel2 _ _))).mono ?_
      rintro e w1 ⟨rfl, hb1⟩
      go_wp2
      go_ret
      exact ⟨ret_int HF.out.symm, (bel2 _ _).trans (hb1.mono (by simp; omega))⟩
    · have he' : (p.toList == p'.toList) = false := by simpa using he
      have HF : Hid (cmpF p p' (tupC (fun i => cmpV (K i) (N i) (S i) (K' i) (N' i) (S' i)) n m (min n m)) = 1) := cmpF_gt _ hlt he
      clear he
      go_enter Tryz.func25, Tryz.ntmps25
      go_wp2
      go_ret
      exact ⟨ret_int HF.out.symm, bel2 _ _⟩
  · have HF : Hid (cmpF p p' (tupC (fun i => cmpV (K i) (N i) (S i) (K' i) (N' i) (S' i)) n m (min n m)) = -1) := cmpF_lt _ hlt
    go_enter Tryz.func25, Tryz.ntmps25
    go_wp2
    go_ret
    exact ⟨ret_int HF.out.symm, bel2 _ _⟩

set_option maxHeartbeats 800000 in
theorem twinFact_any (p : ByteArray) (v : Value) (n : Nat) (K N : Nat → Int) (S : Nat → ByteArray) (w : World) (hn : n ≤ 1048576) (hl : Lst w v n K N S) :
    Calls Tryz.prog 10 #[.agg #[.string p, v]] w fun e w' => ∃ B, e = .returned (.agg #[.string p, .slice (some ⟨B, 0, none⟩) n (n + 1)]) ∧ Below w.heap.size w w' ∧ Cells w' B 0 (n + 1) (markK n K) (markN n N) (markS n S) := by
  obtain ⟨a, c, rfl, _, _⟩ := hl.form
  have bel2 : ∀ o o', Below w.heap.size w ((w.alloc o).alloc o') := fun o o' => ((Below.refl _ _).alloc (Nat.le_refl _) _).alloc (by simp) _
  go_enter Tryz.func10, Tryz.ntmps10
  go_wp2_with fail
  refine (twinValues_any _ n K N S _ hn (hl.below (bel2 _ _))).mono ?_
  rintro e w1 ⟨rfl, hb1, hc1⟩
  obtain ⟨hx1, hf1⟩ := bcell hb1
  have y0 : w1.cell? ⟨w.heap.size, 0, none⟩ = some (.string p) := by rw [hb1.cell (p := ⟨w.heap.size, 0, none⟩) (by simp; omega)]; go_simp
  have y1 : w1.cell? ⟨w.heap.size, 1, none⟩ = some (.slice a n c) := by rw [hb1.cell (p := ⟨w.heap.size, 1, none⟩) (by simp; omega)]; go_simp
  have hq : ∀ X, (w1.setCell ⟨w.heap.size, 1, none⟩ X).cell? ⟨w.heap.size, 1, none⟩ = some X := fun X => World.cell?_setCell_same _ _ _ y1
  have hc2 : Cells w1 (w.heap.size + 1 + 1) 0 (n + 1) (markK n K) (markN n N) (markS n S) := by simpa using hc1
  have bel1 : Below w.heap.size w w1 := (bel2 _ _).trans (hb1.mono (by simp; omega))
  clear hc1 hl
  go_wp2
  exact bodyPost_ret (v := .agg #[.string p, .slice (some ⟨w.heap.size + 1 + 1, 0, none⟩) n (n + 1)]) (by simp [results, Tryz.results10, go_sem, hx1]) rfl
    ⟨_, rfl, ((bel1.setCell (by simp) _).setCell (by simp) _).setCell (by simp) _, ((hc2.setOther (by simp; omega) _).setOther (by simp) _).setOther (by simp) _⟩

set_option maxHeartbeats 800000 in
theorem leftFact_true (p : ByteArray) (v : Value) (B n : Nat) (K N : Nat → Int) (S : Nat → ByteArray) (w : World) (hn : n ≤ 1048576) (hc : Cells w B 0 (n + 1) (markK n K) (markN n N) (markS n S)) (hl : Lst w v n K N S) :
    Calls Tryz.prog 20 #[.agg #[.string p, .slice (some ⟨B, 0, none⟩) n (n + 1)], .agg #[.string p, v]] w fun e w' => e = .returned (.bool true) ∧ Below w.heap.size w w' := by
  obtain ⟨a, c, rfl, _, _⟩ := hl.form
  have bel2 : ∀ o o', Below w.heap.size w ((w.alloc o).alloc o') := fun o o' => ((Below.refl _ _).alloc (Nat.le_refl _) _).alloc (by simp) _
  go_enter Tryz.func20, Tryz.ntmps20
  go_wp2_with fail
  refine (leftValues_true _ B n K N S _ hn (hc.below (bel2 _ _)) (hl.below (bel2 _ _))).mono ?_
  rintro e w1 ⟨rfl, hb1⟩
  go_wp2
  go_ret
  exact ⟨rfl, (bel2 _ _).trans (hb1.mono (by simp; omega))⟩

end Go.Proofs.YtoppgalbmijhdaaGreatDoor.AR
