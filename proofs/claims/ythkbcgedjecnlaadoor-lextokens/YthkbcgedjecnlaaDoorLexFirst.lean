import Derived.Test.YthkbcgedjecnlaaDoorLexQuoted
namespace Go.Proofs.YthkbcgedjecnlaaDoor
open Go.RowKit Go.Maps
set_option linter.unusedVariables false
set_option linter.unusedSimpArgs false
attribute [local go_sem ↓] Go.wp_at_zero Go.wp_at_succ

theorem fstV_form (f : Fst) : ∃ (k : Int) (t : ByteArray) (n a wd er : Int), fstV f = .tuple #[.agg #[.int .i8 k, .string t, .int .i64 n, .int .i64 a], .int .i64 wd, .int .i64 er] := by
  cases f with
  | bad e => exact ⟨_, _, _, _, _, _, rfl⟩
  | tok t n => exact ⟨_, _, _, _, _, _, rfl⟩
theorem firstT_at {s : ByteArray} (h0 : 0 < s.size) : firstT s.data.toList =
    if letU (s[0]'h0) then wordT (s.data.toList.take (runLen s.data.toList)) else if (s[0]'h0).toNat = 95 then blankT (runLen s.data.toList)
    else if digU (s[0]'h0) then numT (s.data.toList.take (runLen s.data.toList)) else if (s[0]'h0).toNat = 34 then quotT s.data.toList else signT s.data.toList := by
  obtain ⟨c, r, hc, e⟩ : ∃ c r, s[0]'h0 = c ∧ s.data.toList = c :: r := ⟨_, _, rfl, list_at s h0⟩
  rw [hc, e]
  rfl

set_option maxHeartbeats 6400000 in
set_option maxRecDepth 100000 in
theorem first_any (s : ByteArray) (w : World) (hg : Gl w) (hs : s.size ≤ 65536) (h0 : 0 < s.size) : Calls Tryd.prog 11 #[.string s] w fun e w' => e = .returned (fstV (firstT s.data.toList)) ∧ Below w.heap.size w w' := by
  have HM : Hid (s.size ≤ maxLen) := by show _ ≤ _; unfold maxLen; omega
  obtain ⟨F, HF⟩ : ∃ F, Hid (firstT s.data.toList = F) := ⟨_, rfl⟩
  rw [HF.out]
  have HU : Hid _ := HF.out.symm.trans (firstT_at h0)
  clear HF
  have h0' : (0 : Int) < (s.size : Int) := by omega
  have hwr := wrap_u8 (s[0]'h0)
  have HG : Hid _ := hg.alloc (.cells #[.int .i8 0, .string ⟨#[]⟩, .int .i64 0, .int .i64 0] 37)
  have HB : Hid _ := (Below.refl w.heap.size w).alloc (Nat.le_refl _) (.cells #[.int .i8 0, .string ⟨#[]⟩, .int .i64 0, .int .i64 0] 37)
  clear hg
  cases a1 : letU (s[0]'h0) with
  | true =>
    have a1' : letI' ((s[0]'h0).toNat : Int) = true := by rw [letI_u]; exact a1
    have HV : Hid _ := HU.out.trans (if_pos a1)
    clear HU
    go_enter Tryd.func11, Tryd.ntmps11
    go_wp2_with (first
      | (go_at_call 22; refine (isLetter_any _ _).mono ?_; rintro e w' ⟨rfl, rfl⟩)
      | (go_at_call 25; refine (isDigit_any _ _).mono ?_; rintro e w' ⟨rfl, rfl⟩)
      | (go_at_call 23; refine (word_any s _ HG.out HM.out).mono ?_; rw [← HV.out]; rintro e w1 ⟨rfl, hb1⟩; obtain ⟨x0, x1, x2, x3, wd, er, hx⟩ := fstV_form F; rw [hx]; have HX : Hid _ := hx; clear hx; have HO : Hid _ := own4 hb1; have hbf := HB.out.trans (hb1.mono HB.out.size); clear hb1; obtain ⟨⟨z0, z1, z2, z3, c0, c1, c2, c3⟩, f0, f1, f2, f3, hl⟩ := HO.out))
    refine tok_done Tryd.results11 HO.out (Nat.le_refl _) hbf ?_ ?_ ?_ HX.out <;> rfl
  | false =>
    have a1' : letI' ((s[0]'h0).toNat : Int) = false := by rw [letI_u]; exact a1
    have HU1 : Hid _ := HU.out.trans (if_neg (by rw [a1]; decide))
    clear HU
    by_cases a2 : (s[0]'h0).toNat = 95
    · have a2' : ((s[0]'h0).toNat : Int) = 95 := by omega
      have HV : Hid _ := HU1.out.trans (if_pos a2)
      clear HU1
      go_enter Tryd.func11, Tryd.ntmps11
      go_wp2_with (first
        | (go_at_call 22; refine (isLetter_any _ _).mono ?_; rintro e w' ⟨rfl, rfl⟩)
        | (go_at_call 25; refine (isDigit_any _ _).mono ?_; rintro e w' ⟨rfl, rfl⟩)
        | (go_at_call 24; refine (blank_any s _ HM.out).mono ?_; rw [← HV.out]; rintro e w1 ⟨rfl, hb1⟩; obtain ⟨x0, x1, x2, x3, wd, er, hx⟩ := fstV_form F; rw [hx]; have HX : Hid _ := hx; clear hx; have HO : Hid _ := own4 hb1; have hbf := HB.out.trans (hb1.mono HB.out.size); clear hb1; obtain ⟨⟨z0, z1, z2, z3, c0, c1, c2, c3⟩, f0, f1, f2, f3, hl⟩ := HO.out))
      refine tok_done Tryd.results11 HO.out (Nat.le_refl _) hbf ?_ ?_ ?_ HX.out <;> rfl
    · have a2' : ¬ ((s[0]'h0).toNat : Int) = 95 := by omega
      have HU2 : Hid _ := HU1.out.trans (if_neg a2)
      clear HU1
      cases a3 : digU (s[0]'h0) with
      | true =>
        have a3' : digI ((s[0]'h0).toNat : Int) = true := by rw [digI_u]; exact a3
        have HV : Hid _ := HU2.out.trans (if_pos a3)
        clear HU2
        go_enter Tryd.func11, Tryd.ntmps11
        go_wp2_with (first
          | (go_at_call 22; refine (isLetter_any _ _).mono ?_; rintro e w' ⟨rfl, rfl⟩)
          | (go_at_call 25; refine (isDigit_any _ _).mono ?_; rintro e w' ⟨rfl, rfl⟩)
          | (go_at_call 26; refine (number_any s _ HG.out hs).mono ?_; rw [← HV.out]; rintro e w1 ⟨rfl, hb1⟩; obtain ⟨x0, x1, x2, x3, wd, er, hx⟩ := fstV_form F; rw [hx]; have HX : Hid _ := hx; clear hx; have HO : Hid _ := own4 hb1; have hbf := HB.out.trans (hb1.mono HB.out.size); clear hb1; obtain ⟨⟨z0, z1, z2, z3, c0, c1, c2, c3⟩, f0, f1, f2, f3, hl⟩ := HO.out))
        refine tok_done Tryd.results11 HO.out (Nat.le_refl _) hbf ?_ ?_ ?_ HX.out <;> rfl
      | false =>
        have a3' : digI ((s[0]'h0).toNat : Int) = false := by rw [digI_u]; exact a3
        have HU3 : Hid _ := HU2.out.trans (if_neg (by rw [a3]; decide))
        clear HU2
        by_cases a4 : (s[0]'h0).toNat = 34
        · have a4' : ((s[0]'h0).toNat : Int) = 34 := by omega
          have HV : Hid _ := HU3.out.trans (if_pos a4)
          clear HU3
          go_enter Tryd.func11, Tryd.ntmps11
          go_wp2_with (first
            | (go_at_call 22; refine (isLetter_any _ _).mono ?_; rintro e w' ⟨rfl, rfl⟩)
            | (go_at_call 25; refine (isDigit_any _ _).mono ?_; rintro e w' ⟨rfl, rfl⟩)
            | (go_at_call 27; refine (quoted_any s _ hs h0).mono ?_; rw [← HV.out]; rintro e w1 ⟨rfl, hb1⟩; obtain ⟨x0, x1, x2, x3, wd, er, hx⟩ := fstV_form F; rw [hx]; have HX : Hid _ := hx; clear hx; have HO : Hid _ := own4 hb1; have hbf := HB.out.trans (hb1.mono HB.out.size); clear hb1; obtain ⟨⟨z0, z1, z2, z3, c0, c1, c2, c3⟩, f0, f1, f2, f3, hl⟩ := HO.out))
          refine tok_done Tryd.results11 HO.out (Nat.le_refl _) hbf ?_ ?_ ?_ HX.out <;> rfl
        · have a4' : ¬ ((s[0]'h0).toNat : Int) = 34 := by omega
          have HV : Hid _ := HU3.out.trans (if_neg a4)
          clear HU3
          go_enter Tryd.func11, Tryd.ntmps11
          go_wp2_with (first
            | (go_at_call 22; refine (isLetter_any _ _).mono ?_; rintro e w' ⟨rfl, rfl⟩)
            | (go_at_call 25; refine (isDigit_any _ _).mono ?_; rintro e w' ⟨rfl, rfl⟩)
            | (go_at_call 28; refine (sign_any s _ HG.out HM.out).mono ?_; rw [← HV.out]; rintro e w1 ⟨rfl, hb1⟩; obtain ⟨x0, x1, x2, x3, wd, er, hx⟩ := fstV_form F; rw [hx]; have HX : Hid _ := hx; clear hx; have HO : Hid _ := own4 hb1; have hbf := HB.out.trans (hb1.mono HB.out.size); clear hb1; obtain ⟨⟨z0, z1, z2, z3, c0, c1, c2, c3⟩, f0, f1, f2, f3, hl⟩ := HO.out))
          refine tok_done Tryd.results11 HO.out (Nat.le_refl _) hbf ?_ ?_ ?_ HX.out <;> rfl
end Go.Proofs.YthkbcgedjecnlaaDoor
