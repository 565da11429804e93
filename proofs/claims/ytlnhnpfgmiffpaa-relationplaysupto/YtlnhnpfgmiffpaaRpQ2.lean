import Derived.Test.YtlnhnpfgmiffpaaRpQ1
namespace Go.Proofs.Ytlnhnpfgmiffpaa
open Go.RowKit Go.Maps Go.Shelf
set_option linter.unusedVariables false
set_option linter.unusedSimpArgs false
attribute [local go_sem ↓] Go.wp_at_zero Go.wp_at_succ

set_option maxHeartbeats 3200000 in
set_option maxRecDepth 100000 in
theorem whole_x {w : World} {b o : Nat} {pT pR : Value} {rows : List (List Int)} {n : Nat} {gn : Int} {E : Nat → Prop} (h : Bx w b o pT pR rows n gn E) (hlen : rows.length ≤ 100000000) : Calls Try.prog 11 #[.pointer (some ⟨b, o, none⟩)] w fun e w' => e = .returned (.bool true) ∧ Below w.heap.size w w' := by
  have HS : Hid (∀ u, Below w.heap.size w u → Bx u b o pT pR rows n gn E) := fun u hu => h.keep hu
  have HLN : Hid (rows.length ≤ 100000000) := hlen
  have hB0 : Below w.heap.size w w.drew := (Below.refl _ _).drew
  clear h hlen
  go_enter Try.func11, Try.ntmps11
  go_upto_region 1 with fail
  go_region_held3 (fun u => Below w.heap.size w u ∧ u.cell? ⟨b, o, none⟩ = some pT ∧ u.cell? ⟨b, o + 1, none⟩ = some pR)
    (first | assumption | exact ⟨hB0, (HS.out _ hB0).cT, (HS.out _ hB0).cR⟩ | exact ⟨(by assumption), (HS.out _ (by assumption)).cT, (HS.out _ (by assumption)).cR⟩)
    (first
      | (go_at_call 29; refine (sizes_x (HS.out _ (by first | assumption | exact hB0))).mono ?_; rintro ee w2 ⟨rfl, b2⟩; have b2' : Below w.heap.size w w2 := (hB0.trans (b2.mono hB0.size)); clear b2)
      | (go_at_call 10; refine (pa_rlen (HS.out _ (by assumption)).pa).mono ?_; rintro ee w3 ⟨rfl, rfl⟩)
      | (go_at_call 31; refine (pa_range (HS.out _ (by assumption)).pa _ _).mono ?_; rintro ee w4 ⟨sq, rfl, hsq, b4⟩; have b4' : Below w.heap.size w w4 := b2'.trans (b4.mono b2'.size); clear b4)
      | (go_at_call 32; refine (pa_rrange (HS.out _ (by assumption)).pa HLN.out _ _).mono ?_; rintro ee w5 ⟨la, lc, rfl, hwl, b5⟩; have b5' : Below w.heap.size w w5 := b4'.trans (b5.mono b4'.size); have hsq5 := hsq.below b5; clear b5 hsq)
      | (go_at_call 30; refine (pa_tells (HS.out _ b5').pa HLN.out hsq5 _ _ hwl _).mono ?_; rintro ee w6 ⟨rfl, b6⟩; have b6' : Below w.heap.size w w6 := b5'.trans (b6.mono b5'.size); clear b6 hsq5 hwl)
      | (go_at_call 34; refine (pa_sorted (HS.out _ b6').pa HLN.out).mono ?_; rintro ee w7 ⟨Srt, hok, hsl, ⟨v1, rfl, ls1⟩, b7, hrs⟩; have b7' : Below w.heap.size w w7 := b6'.trans (b7.mono b6'.size); have hrs7 := hrs _ b7; clear b7 hrs)
      | (go_at_call 35; refine hrs7.mono ?_; rintro ee w8 ⟨⟨v2, rfl, ls2⟩, b8⟩; have b8' : Below w.heap.size w w8 := b7'.trans (b8.mono b7'.size); have ls1' := ls1.below b8; clear b8 ls1 hrs7)
      | (go_at_call 33; refine (sameRows_same _ _ _ _ (by omega) hok ls1' ls2).mono ?_; rintro ee w9 ⟨rfl, b9⟩; have b9' : Below w.heap.size w w9 := b8'.trans (b9.mono b8'.size); clear b9 ls1' ls2 hok hsl)
      | fail)
  all_goals
    go_wp2
    go_ret
    exact ⟨rfl, by assumption⟩
end Go.Proofs.Ytlnhnpfgmiffpaa
