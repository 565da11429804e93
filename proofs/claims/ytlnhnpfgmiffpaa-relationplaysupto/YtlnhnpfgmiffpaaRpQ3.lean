import Derived.Test.YtlnhnpfgmiffpaaRpQ1
namespace Go.Proofs.Ytlnhnpfgmiffpaa
open Go.RowKit Go.Maps Go.Shelf
set_option linter.unusedVariables false
set_option linter.unusedSimpArgs false
attribute [local go_sem ↓] Go.wp_at_zero Go.wp_at_succ
section
variable {w : World} {b o : Nat} {pT pR : Value} {rows : List (List Int)} {n : Nat} {gn : Int} {E : Nat → Prop}
set_option maxHeartbeats 3200000 in
set_option maxRecDepth 100000 in
theorem asks_6 (h : Bx w b o pT pR rows n gn E) (hlen : rows.length ≤ 100000000) (on nn m mask : Int) (r : List Int) : Calls Try.prog 28 #[.pointer (some ⟨b, o, none⟩), .agg (opL on 6 nn m mask r).toArray] w fun e w' => e = .returned (.bool true) ∧ Below w.heap.size w w' := by
  have O := Lib.hid (opAt_new w on 6 nn m mask r)
  have HB := Lib.hid (belowA (w := w) (.cells (opL on 6 nn m mask r).toArray 42))
  have HN := Lib.hid (h.keep HB.out)
  have HLN : Hid (rows.length ≤ 100000000) := hlen
  clear h hlen
  go_enter Try.func28, Try.ntmps28
  go_upto_region 1 with fail
  generalize w.alloc (.cells (opL on 6 nn m mask r).toArray 42) = W at O HB HN ⊢
  have hc1 := O.out.c1
  go_upto_region 3 with fail
  clear hc1
  have hB0 : Below W.heap.size W W.drew := (Below.refl _ _).drew
  have HS : Hid (∀ u, Below W.heap.size W u → u.cell? ⟨b, o, none⟩ = some pT ∧ u.cell? ⟨w.heap.size, 2, none⟩ = some (.int .i64 nn) ∧ u.cell? ⟨w.heap.size, 3, none⟩ = some (.int .i64 m)) :=
    fun u hu => ⟨(HN.out.keep hu).cT, (O.out.below hu).c2, (O.out.below hu).c3⟩
  go_region_held3 (fun u => Below W.heap.size W u ∧ u.cell? ⟨b, o, none⟩ = some pT ∧ u.cell? ⟨w.heap.size, 2, none⟩ = some (.int .i64 nn) ∧ u.cell? ⟨w.heap.size, 3, none⟩ = some (.int .i64 m))
    (first | assumption | exact ⟨hB0, HS.out _ hB0⟩ | exact ⟨(by assumption), HS.out _ (by assumption)⟩)
    (first
      | (go_at_call 31; refine (pa_range (HN.out.keep hB0).pa _ _).mono ?_; rintro ee w4 ⟨sq, rfl, hsq, b4⟩; have b4' : Below W.heap.size W w4 := hB0.trans (b4.mono hB0.size); clear b4)
      | fail)
  simp only [Exit.then]
  go_at_K
  have HSQ := Lib.hid hsq
  have HB4 := Lib.hid b4'
  have HS4 : Hid (∀ u, Below w4.heap.size w4 u → u.cell? ⟨b, o + 1, none⟩ = some pR ∧ u.cell? ⟨w.heap.size, 2, none⟩ = some (.int .i64 nn) ∧ u.cell? ⟨w.heap.size, 3, none⟩ = some (.int .i64 m)) := fun u hu => by
    have hb := HB4.out.trans (hu.mono HB4.out.size)
    exact ⟨(HN.out.keep hb).cR, (O.out.below hb).c2, (O.out.below hb).c3⟩
  have HPA : Hid (∀ u, Below w4.heap.size w4 u → Pa u pT pR rows n gn E) := fun u hu => (HN.out.keep (HB4.out.trans (hu.mono HB4.out.size))).pa
  clear hsq b4' HS hB0
  go_upto_region 4 with fail
  have hB0 : Below w4.heap.size w4 w4.drew := (Below.refl _ _).drew
  go_region_held3 (fun u => Below w4.heap.size w4 u ∧ u.cell? ⟨b, o + 1, none⟩ = some pR ∧ u.cell? ⟨w.heap.size, 2, none⟩ = some (.int .i64 nn) ∧ u.cell? ⟨w.heap.size, 3, none⟩ = some (.int .i64 m))
    (first | assumption | exact ⟨hB0, HS4.out _ hB0⟩ | exact ⟨(by assumption), HS4.out _ (by assumption)⟩)
    (first
      | (go_at_call 32; refine (pa_rrange (HPA.out _ (by first | assumption | exact hB0)) HLN.out _ _).mono ?_; rintro ee w5 ⟨la, lc, rfl, hwl, b5⟩; have b5' : Below w4.heap.size w4 w5 := Below.trans (by first | assumption | exact hB0) (b5.mono (Below.size (by first | assumption | exact hB0))); clear b5)
      | (go_at_call 30; refine (pa_tells (HPA.out _ b5') HLN.out (HSQ.out.below b5') _ _ hwl _).mono ?_; rintro ee w6 ⟨rfl, b6⟩; have b6' : Below w4.heap.size w4 w6 := b5'.trans (b6.mono b5'.size); clear b6 hwl b5')
      | fail)
  all_goals
    go_wp2
    go_ret
    exact ⟨rfl, HB.out.trans ((HB4.out.trans (Below.mono (by assumption) HB4.out.size)).mono HB.out.size)⟩
set_option maxHeartbeats 3200000 in
set_option maxRecDepth 100000 in
theorem asks_10 (h : Bx w b o pT pR rows n gn E) (hlen : rows.length ≤ 100000000) (on nn m mask : Int) (r : List Int) : Calls Try.prog 28 #[.pointer (some ⟨b, o, none⟩), .agg (opL on 10 nn m mask r).toArray] w fun e w' => e = .returned (.bool true) ∧ Below w.heap.size w w' := by
  have O := Lib.hid (opAt_new w on 10 nn m mask r)
  have HB := Lib.hid (belowA (w := w) (.cells (opL on 10 nn m mask r).toArray 42))
  have HN := Lib.hid (h.keep HB.out)
  have HLN : Hid (rows.length ≤ 100000000) := hlen
  clear h hlen
  go_enter Try.func28, Try.ntmps28
  go_upto_region 1 with fail
  generalize w.alloc (.cells (opL on 10 nn m mask r).toArray 42) = W at O HB HN ⊢
  have hc1 := O.out.c1
  go_upto_region 15 with fail
  clear hc1
  have hB0 : Below W.heap.size W W.drew := (Below.refl _ _).drew
  have HS : Hid (∀ u, Below W.heap.size W u → u.cell? ⟨b, o, none⟩ = some pT ∧ u.cell? ⟨b, o + 1, none⟩ = some pR) := fun u hu => ⟨(HN.out.keep hu).cT, (HN.out.keep hu).cR⟩
  go_region_held3 (fun u => Below W.heap.size W u ∧ u.cell? ⟨b, o, none⟩ = some pT ∧ u.cell? ⟨b, o + 1, none⟩ = some pR)
    (first | assumption | exact ⟨hB0, HS.out _ hB0⟩ | exact ⟨(by assumption), HS.out _ (by assumption)⟩)
    (first
      | (go_at_call 34; refine (pa_sorted (HN.out.keep hB0).pa HLN.out).mono ?_; rintro ee w7 ⟨Srt, hok, hsl, ⟨v1, rfl, ls1⟩, b7, hrs⟩; have b7' : Below W.heap.size W w7 := hB0.trans (b7.mono hB0.size); have hrs7 := hrs _ b7; clear b7 hrs)
      | (go_at_call 35; refine hrs7.mono ?_; rintro ee w8 ⟨⟨v2, rfl, ls2⟩, b8⟩; have b8' : Below W.heap.size W w8 := b7'.trans (b8.mono b7'.size); have ls1' := ls1.below b8; clear b8 ls1 hrs7)
      | (go_at_call 33; refine (sameRows_same _ _ _ _ (by omega) hok ls1' ls2).mono ?_; rintro ee w9 ⟨rfl, b9⟩; have b9' : Below W.heap.size W w9 := b8'.trans (b9.mono b8'.size); clear b9 ls1' ls2 hok hsl)
      | fail)
  all_goals
    go_wp2
    go_ret
    exact ⟨rfl, HB.out.trans (b9'.mono HB.out.size)⟩
set_option maxHeartbeats 3200000 in
set_option maxRecDepth 100000 in
theorem asks_12 (h : Bx w b o pT pR rows n gn E) (on nn m mask : Int) (r : List Int) : Calls Try.prog 28 #[.pointer (some ⟨b, o, none⟩), .agg (opL on 12 nn m mask r).toArray] w fun e w' => e = .returned (.bool true) ∧ Below w.heap.size w w' := by
  have O := Lib.hid (opAt_new w on 12 nn m mask r)
  have HB := Lib.hid (belowA (w := w) (.cells (opL on 12 nn m mask r).toArray 42))
  have HN := Lib.hid (h.keep HB.out)
  clear h
  go_enter Try.func28, Try.ntmps28
  go_upto_region 1 with fail
  generalize w.alloc (.cells (opL on 12 nn m mask r).toArray 42) = W at O HB HN ⊢
  have hc1 := O.out.c1
  go_wp2_with fail
  refine (sizes_x HN.out).mono ?_
  rintro e w2 ⟨rfl, b2⟩
  go_wp2
  go_ret
  exact ⟨rfl, HB.out.trans (b2.mono HB.out.size)⟩
set_option maxHeartbeats 3200000 in
set_option maxRecDepth 100000 in
theorem asks_other (w : World) (b o : Nat) (on k nn m mask : Int) (r : List Int) (h6 : k ≠ 6) (h7 : k ≠ 7) (h8 : k ≠ 8) (h9 : k ≠ 9) (h10 : k ≠ 10) (h12 : k ≠ 12) : Calls Try.prog 28 #[.pointer (some ⟨b, o, none⟩), .agg (opL on k nn m mask r).toArray] w fun e w' => e = .returned (.bool true) ∧ Below w.heap.size w w' := by
  have O := Lib.hid (opAt_new w on k nn m mask r)
  have HB := Lib.hid (belowA (w := w) (.cells (opL on k nn m mask r).toArray 42))
  go_enter Try.func28, Try.ntmps28
  go_upto_region 1 with fail
  generalize w.alloc (.cells (opL on k nn m mask r).toArray 42) = W at O HB ⊢
  have hc1 := O.out.c1
  have e6 : ((k : Int) == 6) = false := by simpa using h6
  have e7 : ((k : Int) == 7) = false := by simpa using h7
  have e8 : ((k : Int) == 8) = false := by simpa using h8
  have e9 : ((k : Int) == 9) = false := by simpa using h9
  have e10 : ((k : Int) == 10) = false := by simpa using h10
  have e12 : ((k : Int) == 12) = false := by simpa using h12
  clear h6 h7 h8 h9 h10 h12
  go_wp2
  go_ret
  exact ⟨rfl, HB.out⟩
end
end Go.Proofs.Ytlnhnpfgmiffpaa
