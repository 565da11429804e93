import Derived.Test.YtoppgalbmijhdaaGreatDoorFaList
import Derived.Deep.RegionHeld3
namespace Go.Proofs.YtoppgalbmijhdaaGreatDoor
open Go.RowKit Go.Maps
set_option linter.unusedVariables false
set_option linter.unusedSimpArgs false
attribute [local go_sem ↓] Go.wp_at_zero Go.wp_at_succ

set_option maxHeartbeats 1600000 in
theorem isMarkF_any (w : World) (hp : PWt w) : Calls Tryz.prog 21 #[.agg #[.string markW, .slice none 0 0], .int .i64 777777] w fun e w' => e = .returned (.bool true) ∧ Below w.heap.size w w' := by
  have BA := (Below.refl w.heap.size w).alloc (Nat.le_refl _) (.cells #[.string markW, .slice none 0 0] 31)
  have HX0 : Hid (RL (w.alloc (.cells #[.string markW, .slice none 0 0] 31)) w.heap.size 31 [.string markW, .slice none 0 0]) := rl_new w #[.string markW, .slice none 0 0] 31
  have HS : Hid (∀ u, Below (w.alloc (.cells #[.string markW, .slice none 0 0] 31)).heap.size (w.alloc (.cells #[.string markW, .slice none 0 0] 31)) u → Below w.heap.size w u ∧ u.cell? ⟨w.heap.size, 0, none⟩ = some (.string markW) ∧ u.cell? ⟨w.heap.size, 1, none⟩ = some (.slice none 0 0)) := fun u hu => by
    have hr := RL.below HX0.out hu
    exact ⟨BA.trans (hu.mono BA.size), hr.at (j := 0) rfl, hr.at (j := 1) rfl⟩
  have HP : Hid (∀ u, Below w.heap.size w u → PWt u) := fun u hu => tab_below hp hu
  obtain ⟨MW, hmw⟩ : ∃ MW, markW = MW := ⟨_, rfl⟩
  have HW : Hid (∀ u, PWt u → Calls Tryz.prog 27 #[.int .i64 777777] u fun e w' => e = .returned (.string MW) ∧ Below u.heap.size u w') := fun u hu => by rw [← hmw]; exact word_any u hu
  rw [hmw] at HS ⊢
  clear hp hmw BA HX0
  have e0 : (MW.toList == MW.toList) = true := by simp
  go_enter Tryz.func21, Tryz.ntmps21
  go_wp2_with fail
  generalize hWW : w.alloc (.cells #[.string MW, .slice none 0 0] 31) = W at HS ⊢
  clear hWW
  have hB0 : Below W.heap.size W W := Below.refl _ _
  go_region_held3 (fun u => (Below W.heap.size W u) ∧ u.cell? ⟨w.heap.size, 0, none⟩ = some (.string MW) ∧ u.cell? ⟨w.heap.size, 1, none⟩ = some (.slice none 0 0))
    (first
      | assumption
      | exact ⟨hB0.drew, (HS.out _ hB0.drew).2⟩
      | exact ⟨(by assumption), (HS.out _ (by assumption)).2⟩)
    (first
      | (go_at_call 27; refine (HW.out _ (HP.out _ (HS.out _ hB0.drew).1)).mono ?_; rintro ee w2 ⟨rfl, b2⟩; have b2' : Below W.heap.size W w2 := hB0.drew.trans b2)
      | fail)
  go_wp2
  go_ret
  exact ⟨rfl, (HS.out _ b2').1⟩
end Go.Proofs.YtoppgalbmijhdaaGreatDoor
