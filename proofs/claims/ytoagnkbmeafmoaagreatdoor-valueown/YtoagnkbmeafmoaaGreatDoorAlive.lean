import Derived.Test.YtoagnkbmeafmoaaGreatDoorLives
namespace Go.Proofs.YtoagnkbmeafmoaaGreatDoor.AR
open Go.RowKit
set_option linter.unusedVariables false
attribute [local go_sem ↓] Go.wp_at_zero Go.wp_at_succ

theorem bo_name : nameB ⟨#[98, 111]⟩ = true := by
  have h : kwB ⟨#[98, 111]⟩ = false := by unfold kwB; rw [ByteArray.toList_eq]; decide
  unfold nameB
  rw [h]
  decide
theorem bo_ok : chk 2 0 ⟨#[98, 111]⟩ = 0 := (chk_ok (.inr ⟨rfl, rfl, by decide⟩)).symm
theorem cmp_a : cmpV 1 3 ⟨#[]⟩ 2 0 ⟨#[]⟩ = -1 := by decide
theorem cmp_b : cmpV 1 3 ⟨#[]⟩ 1 2 ⟨#[]⟩ = 1 := by decide
theorem sub75 : wrap64 (7 - 5) = 2 := by unfold wrap64; decide

theorem lives_keep {w w3 v v' : World} (hz : w.heap.size ≤ w3.heap.size) (hb : Below v.heap.size v v')
    (h : w3.heap.size < v.heap.size ∧ Below w.heap.size w v ∧ v.cell? ⟨w3.heap.size, 0, none⟩ = some (.int .i8 1) ∧ v.cell? ⟨w3.heap.size, 1, none⟩ = some (.int .i64 2) ∧ v.cell? ⟨w3.heap.size, 2, none⟩ = some (.string ⟨#[]⟩)) :
    w3.heap.size < v'.heap.size ∧ Below w.heap.size w v' ∧ v'.cell? ⟨w3.heap.size, 0, none⟩ = some (.int .i8 1) ∧ v'.cell? ⟨w3.heap.size, 1, none⟩ = some (.int .i64 2) ∧ v'.cell? ⟨w3.heap.size, 2, none⟩ = some (.string ⟨#[]⟩) := by
  obtain ⟨hl, bel, a0, a1, a2⟩ := h
  have hs := hb.size
  refine ⟨by omega, bel.trans (hb.mono (by omega)), ?_, ?_, ?_⟩
  · rw [hb.cell (by show w3.heap.size < _; omega)]; exact a0
  · rw [hb.cell (by show w3.heap.size < _; omega)]; exact a1
  · rw [hb.cell (by show w3.heap.size < _; omega)]; exact a2

set_option maxHeartbeats 1600000 in
theorem lives_true (w : World) (ht : Tab w) :
    Calls Tryz.prog 5 #[] w fun e w' => e = .returned (.bool true) ∧ Below w.heap.size w w' := by
  go_enter Tryz.func5, Tryz.ntmps5
  go_wp2_with fail
  refine (num_any _ _).mono ?_
  rintro e w1 ⟨rfl, hb1⟩
  go_wp2_with fail
  refine (num_any _ _).mono ?_
  rintro e w2 ⟨rfl, hb2⟩
  have bel2 : Below w.heap.size w w2 := hb1.trans (hb2.mono hb1.size)
  go_wp2_with fail
  have ha2 : Below w2.heap.size w2 (w2.alloc (.cells #[.int .i8 1, .int .i64 7, .string ⟨#[]⟩, .int .i8 1, .int .i64 5, .string ⟨#[]⟩] 69)) := (Below.refl _ _).alloc (Nat.le_refl _) _
  have hnum : Nums2 (w2.alloc (.cells #[.int .i8 1, .int .i64 7, .string ⟨#[]⟩, .int .i8 1, .int .i64 5, .string ⟨#[]⟩] 69)) w2.heap.size 0 7 5 := by
    refine ⟨by simp, ?_, ?_, ?_, ?_, ?_, ?_⟩ <;> go_simp
  refine (arith_sub 7 5 w2.heap.size 0 2 _ ((ht.below bel2).below ha2) hnum).mono ?_
  rintro e w3 ⟨rfl, hb3⟩
  have bel3 : Below w.heap.size w w3 := (bel2.trans (ha2.mono bel2.size)).trans (hb3.mono (by have := bel2.size; simp; omega))
  rw [sub75]
  clear hnum ha2
  go_wp2_with fail
  refine (word1_any _ _).mono ?_
  rintro e w4 ⟨rfl, hb4⟩
  go_wp2_with fail
  refine (show_name _ _ (by decide) bo_ok bo_name).mono ?_
  rintro e w5 ⟨rfl, hb5⟩
  have hz3 := bel3.size
  have h45 : Below (w3.heap.size + 1) (w3.alloc (.cells #[.int .i8 1, .int .i64 2, .string ⟨#[]⟩] 69)) w5 := by
    have e4 : Below (w3.heap.size + 1) (w3.alloc (.cells #[.int .i8 1, .int .i64 2, .string ⟨#[]⟩] 69)) w4 := by simpa using hb4
    exact e4.trans (hb5.mono (by have := e4.size; simpa using this))
  have bel5 : Below w.heap.size w w5 := (bel3.alloc hz3 _).trans (h45.mono (by omega))
  have hz5 : w3.heap.size < w5.heap.size := by have := h45.size; simp at this; omega
  have d0 : w5.cell? ⟨w3.heap.size, 0, none⟩ = some (.int .i8 1) := by rw [h45.cell (p := ⟨w3.heap.size, 0, none⟩) (by simp)]; go_simp
  have d1 : w5.cell? ⟨w3.heap.size, 1, none⟩ = some (.int .i64 2) := by rw [h45.cell (p := ⟨w3.heap.size, 1, none⟩) (by simp)]; go_simp
  have d2 : w5.cell? ⟨w3.heap.size, 2, none⟩ = some (.string ⟨#[]⟩) := by rw [h45.cell (p := ⟨w3.heap.size, 2, none⟩) (by simp)]; go_simp
  clear hb1 hb2 hb3 hb4 hb5 h45 bel2 ht
  have ca := cmp_a
  have cb := cmp_b
  go_wp2_with fail
  go_region_held3 (fun w' => w3.heap.size < w'.heap.size ∧ Below w.heap.size w w' ∧ w'.cell? ⟨w3.heap.size, 0, none⟩ = some (.int .i8 1) ∧ w'.cell? ⟨w3.heap.size, 1, none⟩ = some (.int .i64 2) ∧ w'.cell? ⟨w3.heap.size, 2, none⟩ = some (.string ⟨#[]⟩))
    (first
      | exact lives_keep hz3 (by assumption) (by assumption)
      | exact ⟨hz5, bel5, d0, d1, d2⟩
      | exact ⟨hz5, bel5.drew, d0, d1, d2⟩)
    (first
      | (go_at_call 19; refine (num_any _ _).mono ?_; rintro e w' ⟨rfl, hbx⟩)
      | (go_at_call 21; refine (word1_any _ _).mono ?_; rintro e w' ⟨rfl, hbx⟩)
      | (go_at_call 22; refine (vcompare_any _ _ _ _ _ _ _).mono ?_; rintro e w' ⟨rfl, hbx⟩))
  go_wp2
  go_ret
  exact ⟨rfl, by rename_i h; exact h.2.1⟩

end Go.Proofs.YtoagnkbmeafmoaaGreatDoor.AR
