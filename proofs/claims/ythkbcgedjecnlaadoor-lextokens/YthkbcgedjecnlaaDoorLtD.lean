import Derived.Test.YthkbcgedjecnlaaDoorLtC
namespace Go.Proofs.YthkbcgedjecnlaaDoor
open Go.RowKit Go.Maps
set_option linter.unusedVariables false
set_option linter.unusedSimpArgs false
attribute [local go_sem ↓] Go.wp_at_zero Go.wp_at_succ

set_option maxHeartbeats 6400000 in
set_option maxRecDepth 100000 in
theorem rtoken_let (s : ByteArray) (p : Nat) (w : World) (hs : s.size ≤ 65536) (hp : p < s.size) (a1 : letU (s[p]'hp) = true) : Calls Tryd.prog 10 #[.string s, .int .i64 p] w fun e w' => TokP p (firstT (s.data.toList.drop p)) e ∧ Below w.heap.size w w' := by
  have hp' : (p : Int) < (s.size : Int) := by omega
  obtain ⟨F, HF⟩ : ∃ F, Hid (firstT (s.data.toList.drop p) = F) := ⟨_, rfl⟩
  rw [HF.out]
  have HU : Hid _ := HF.out.symm.trans (firstT_drop hp)
  clear HF
  have HRU : Hid (∀ w, Calls Tryd.prog 14 #[.string s, .int .i64 p] w fun e w' => e = .returned (.string (s.extract p (p + runLen (s.data.toList.drop p)))) ∧ w' = w) := fun w => rrun_any s p w (by unfold maxLen; omega) (by omega)
  obtain ⟨hx1, hx2⟩ := ext_run s (Nat.le_of_lt hp)
  have hd := drop_at s hp
  obtain ⟨x, hx⟩ : ∃ x, s.extract p (p + runLen (s.data.toList.drop p)) = x := ⟨_, rfl⟩
  rw [hx] at HRU hx1 hx2
  have hxle : x.size ≤ 65536 := by
    have := runLen_le (s.data.toList.drop p)
    rw [List.length_drop, len_toList] at this
    omega
  have HS : Hid (∀ w, Calls Tryd.prog 15 #[.int .u8 ((s[p]'hp).toNat : Int)] w fun e w' => e = .returned (.bool (smallU (s[p]'hp))) ∧ w' = w) := fun w => by rw [← smallI_u]; exact rsmall_any _ w
  have HC : Hid (∀ w, Calls Tryd.prog 16 #[.int .u8 ((s[p]'hp).toNat : Int)] w fun e w' => e = .returned (.bool (capU (s[p]'hp))) ∧ w' = w) := fun w => by rw [← capI_u]; exact rcapital_any _ w
  have HDG : Hid (∀ w, Calls Tryd.prog 18 #[.int .u8 ((s[p]'hp).toNat : Int)] w fun e w' => e = .returned (.bool (digU (s[p]'hp))) ∧ w' = w) := fun w => by rw [← digI_u]; exact rdigit_any _ w
  have HV : Hid _ := HU.out.trans (if_pos a1)
  rw [← hx1] at HV
  have hru : runLen (s.data.toList.drop p) = runLen (s.data.toList.drop (p + 1)) + 1 := by rw [hd]; exact runLen_go (by unfold runU; rw [a1]; rfl)
  have hx0 : 0 < x.size := by omega
  have hxh : x[0]'hx0 = s[p]'hp := head_at (r := (s.data.toList.drop (p + 1)).take (runLen (s.data.toList.drop (p + 1)))) (by rw [hx1, hru, hd, List.take_succ_cons]) hx0
  have HW : Hid (∀ w, Calls Tryd.prog 17 #[.string x, .int .i64 p] w fun e w' => e = .returned (wordV p F) ∧ Below w.heap.size w w') := fun w => by
    rw [HV.out]
    exact rword_any x p w (by unfold maxLen; omega) hx0 (by rw [hxh]; exact a1) (by rw [hx1, runLen_take, hx2])
  have HL : Hid (F = .bad 30 ∨ ∃ t, F = .tok t x.size) := by
    show _ ∨ _
    rw [HV.out]
    unfold wordT
    rw [len_toList]
    split
    · exact .inl rfl
    · split
      · exact .inr ⟨_, rfl⟩
      · split <;> exact .inr ⟨_, rfl⟩
  clear HU HV hru hxh hx1 hx2 hd hx
  have a1' : smallU (s[p]'hp) = true ∨ (smallU (s[p]'hp) = false ∧ capU (s[p]'hp) = true) := by
    unfold letU at a1
    cases h1 : smallU (s[p]'hp) with
    | true => exact .inl rfl
    | false => rw [h1] at a1; exact .inr ⟨rfl, by simpa using a1⟩
  clear a1 HDG
  rcases HL.out with hF | ⟨t, hF⟩
  · subst hF
    unfold wordV noTk at HW
    rcases a1' with h1 | ⟨h1, h2⟩
    all_goals
      go_enter Tryd.func10, Tryd.ntmps10
      go_wp2_with (first
        | (go_at_call 14; refine (HRU.out _).mono ?_; rintro e w' ⟨rfl, rfl⟩)
        | (go_at_call 15; refine (HS.out _).mono ?_; rw [h1]; rintro e w' ⟨rfl, rfl⟩)
        | (go_at_call 16; refine (HC.out _).mono ?_; rw [h2]; rintro e w' ⟨rfl, rfl⟩)
        | (go_at_call 17; refine (HW.out _).mono ?_; rintro e w1 ⟨rfl, hb1⟩; have ho0 := own4 hb1; have hb2 := (Below.refl w1.heap.size w1).alloc (Nat.le_refl _) (.cells #[.int .i8 0, .string ⟨#[]⟩, .int .i64 0, .int .i64 0] 37); have HO : Hid _ := Own4.below ho0 hb2; have hb3 := ((Below.refl w.heap.size w).alloc (Nat.le_refl _) _).trans (hb1.mono (by simp)); have hbf := hb3.trans (hb2.mono hb3.size); clear hb1 ho0 hb2 hb3; obtain ⟨⟨z0, z1, z2, z3, c0, c1, c2, c3⟩, f0, f1, f2, f3, hl⟩ := HO.out))
      refine tok3_done Tryd.results10 HO.out (Nat.le_refl _) hbf rfl rfl rfl ?_
      exact ⟨_, rfl⟩
  · subst hF
    unfold wordV tkV at HW
    simp only at HW
    have HTS : Hid (TokP p (.tok t x.size) (.returned (.tuple #[.agg #[.int .i8 t.k, .string ⟨t.s.toArray⟩, .int .i64 t.n, .int .i64 p], .int .i64 x.size, .int .i64 0]))) := rfl
    generalize (⟨t.s.toArray⟩ : ByteArray) = tsb at *
    rcases a1' with h1 | ⟨h1, h2⟩
    all_goals
      go_enter Tryd.func10, Tryd.ntmps10
      go_wp2_with (first
        | (go_at_call 14; refine (HRU.out _).mono ?_; rintro e w' ⟨rfl, rfl⟩)
        | (go_at_call 15; refine (HS.out _).mono ?_; rw [h1]; rintro e w' ⟨rfl, rfl⟩)
        | (go_at_call 16; refine (HC.out _).mono ?_; rw [h2]; rintro e w' ⟨rfl, rfl⟩)
        | (go_at_call 17; refine (HW.out _).mono ?_; rintro e w1 ⟨rfl, hb1⟩; have ho0 := own4 hb1; have hb2 := (Below.refl w1.heap.size w1).alloc (Nat.le_refl _) (.cells #[.int .i8 t.k, .string tsb, .int .i64 t.n, .int .i64 p] 37); have HO : Hid _ := Own4.below ho0 hb2; have hb3 := ((Below.refl w.heap.size w).alloc (Nat.le_refl _) _).trans (hb1.mono (by simp)); have hbf := hb3.trans (hb2.mono hb3.size); clear hb1 ho0 hb2 hb3; obtain ⟨⟨z0, z1, z2, z3, c0, c1, c2, c3⟩, f0, f1, f2, f3, hl⟩ := HO.out))
      refine tok3_done Tryd.results10 HO.out (Nat.le_refl _) hbf rfl rfl rfl HTS.out
end Go.Proofs.YthkbcgedjecnlaaDoor
