import Derived.Test.YtihngojkcacgdaaRelNoSize
namespace Go.Proofs.Ytihngojkcacgdaa
open Go.RowKit Go.Maps Go.Shelf
set_option linter.unusedVariables false
set_option linter.unusedSimpArgs false
attribute [local go_sem ↓] Go.wp_at_zero Go.wp_at_succ

set_option maxHeartbeats 3200000 in
set_option maxRecDepth 100000 in
theorem whole_no {w : World} {t : Nat} {p : Value} (h : BothNo w t p) : Calls Try.prog 5 #[.pointer (some ⟨t, 0, none⟩)] w fun e w' => e = .returned (.bool true) ∧ Below w.heap.size w w' := by
  have HS : Hid (∀ u, Below w.heap.size w u → BothNo u t p) := fun u hu => h.below hu
  have hB0 : Below w.heap.size w w.drew := (Below.refl _ _).drew
  clear h
  go_enter Try.func5, Try.ntmps5
  go_upto_region 1 with fail
  go_region_held3 (fun u => Below w.heap.size w u ∧ u.cell? ⟨t, 0, none⟩ = some p ∧ u.cell? ⟨t, 1, none⟩ = some (.pointer none))
    (first | assumption | exact ⟨hB0, (HS.out _ hB0).c0, (HS.out _ hB0).c1⟩ | exact ⟨(by assumption), (HS.out _ (by assumption)).c0, (HS.out _ (by assumption)).c1⟩)
    (first
      | (go_at_call 21; refine (sizes_no (HS.out _ (by first | assumption | exact hB0))).mono ?_; rintro ee w2 ⟨rfl, b2⟩; have b2' : Below w.heap.size w w2 := (hB0.trans (b2.mono hB0.size)); clear b2)
      | (go_at_call 24; refine (rlen_nil _).mono ?_; rintro ee w3 ⟨rfl, rfl⟩)
      | (go_at_call 23; refine (range_no (HS.out _ (by assumption)).no _ _).mono ?_; rintro ee w4 ⟨⟨sq, rfl, hsq⟩, b4⟩; have b4' : Below w.heap.size w w4 := b2'.trans (b4.mono b2'.size); clear b4)
      | (go_at_call 25; refine (rrange_nil _ _ _).mono ?_; rintro ee w3 ⟨rfl, rfl⟩)
      | (go_at_call 22; refine (tells_no hsq _ _ _).mono ?_; rintro ee w5 ⟨rfl, b5⟩; have b5' : Below w.heap.size w w5 := b4'.trans (b5.mono b4'.size); clear b5)
      | (go_at_call 27; refine (sorted_no (HS.out _ (by assumption)).no).mono ?_; rintro ee w3 ⟨rfl, rfl⟩)
      | (go_at_call 28; refine (rsorted_nil _).mono ?_; rintro ee w6 ⟨⟨sa, rfl⟩, b6⟩; have b6' : Below w.heap.size w w6 := b5'.trans (b6.mono b5'.size); clear b6)
      | (go_at_call 26; refine (sameRows_0 _ _ _ _ _).mono ?_; rintro ee w3 ⟨rfl, rfl⟩)
      | fail)
  all_goals
    go_wp2
    go_ret
    exact ⟨rfl, by assumption⟩
end Go.Proofs.Ytihngojkcacgdaa
