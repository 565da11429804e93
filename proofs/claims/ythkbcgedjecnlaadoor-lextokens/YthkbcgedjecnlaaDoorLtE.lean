import Derived.Test.YthkbcgedjecnlaaDoorLtC
namespace Go.Proofs.YthkbcgedjecnlaaDoor
open Go.RowKit Go.Maps
set_option linter.unusedVariables false
set_option linter.unusedSimpArgs false
attribute [local go_sem ↓] Go.wp_at_zero Go.wp_at_succ

set_option maxHeartbeats 6400000 in
set_option maxRecDepth 100000 in
theorem rtoken_blank (s : ByteArray) (p : Nat) (w : World) (hs : s.size ≤ 65536) (hp : p < s.size) (a1 : letU (s[p]'hp) = false) (a2 : (s[p]'hp).toNat = 95) : Calls Tryd.prog 10 #[.string s, .int .i64 p] w fun e w' => TokP p (firstT (s.data.toList.drop p)) e ∧ Below w.heap.size w w' := by
  have hp' : (p : Int) < (s.size : Int) := by omega
  obtain ⟨F, HF⟩ : ∃ F, Hid (firstT (s.data.toList.drop p) = F) := ⟨_, rfl⟩
  rw [HF.out]
  have HU : Hid _ := HF.out.symm.trans (firstT_drop hp)
  clear HF
  have HRU : Hid (∀ w, Calls Tryd.prog 14 #[.string s, .int .i64 p] w fun e w' => e = .returned (.string (s.extract p (p + runLen (s.data.toList.drop p)))) ∧ w' = w) := fun w => rrun_any s p w (by unfold maxLen; omega) (by omega)
  obtain ⟨hx1, hx2⟩ := ext_run s (Nat.le_of_lt hp)
  have hd := drop_at s hp
  obtain ⟨x, hx⟩ : ∃ x, s.extract p (p + runLen (s.data.toList.drop p)) = x := ⟨_, rfl⟩
  rw [hx] at HRU hx1 hx2
  have hxle : x.size ≤ 65536 := by
    have := runLen_le (s.data.toList.drop p)
    rw [List.length_drop, len_toList] at this
    omega
  have HS : Hid (∀ w, Calls Tryd.prog 15 #[.int .u8 ((s[p]'hp).toNat : Int)] w fun e w' => e = .returned (.bool (smallU (s[p]'hp))) ∧ w' = w) := fun w => by rw [← smallI_u]; exact rsmall_any _ w
  have HC : Hid (∀ w, Calls Tryd.prog 16 #[.int .u8 ((s[p]'hp).toNat : Int)] w fun e w' => e = .returned (.bool (capU (s[p]'hp))) ∧ w' = w) := fun w => by rw [← capI_u]; exact rcapital_any _ w
  have HDG : Hid (∀ w, Calls Tryd.prog 18 #[.int .u8 ((s[p]'hp).toNat : Int)] w fun e w' => e = .returned (.bool (digU (s[p]'hp))) ∧ w' = w) := fun w => by rw [← digI_u]; exact rdigit_any _ w
  have HU1 : Hid _ := HU.out.trans (if_neg (by rw [a1]; decide))
  clear HU
  obtain ⟨h1, h2⟩ : smallU (s[p]'hp) = false ∧ capU (s[p]'hp) = false := by
    unfold letU at a1
    simpa using a1
  clear a1
  rw [h1] at HS
  rw [h2] at HC
  have a2' : ((s[p]'hp).toNat : Int) = 95 := by omega
  rw [a2'] at HS HC
  have HV : Hid _ := HU1.out.trans (if_pos a2)
  rw [← hx2] at HV
  clear HU1 hx1 hx2 hd hx HDG
  unfold blankT at HV
  by_cases h3 : 1 < x.size
  · have h3' : (1 : Int) < (x.size : Int) := by omega
    have hF : F = .bad 31 := by rw [HV.out, if_pos h3]
    subst hF
    clear HV
    go_enter Tryd.func10, Tryd.ntmps10
    go_wp2_with (first
      | (go_at_call 14; refine (HRU.out _).mono ?_; rintro e w' ⟨rfl, rfl⟩)
      | (go_at_call 15; refine (HS.out _).mono ?_; rintro e w' ⟨rfl, rfl⟩)
      | (go_at_call 16; refine (HC.out _).mono ?_; rintro e w' ⟨rfl, rfl⟩))
    refine tok3_done_new Tryd.results10 rfl rfl rfl ?_
    exact ⟨_, rfl⟩
  · have h3' : ¬ (1 : Int) < (x.size : Int) := by omega
    have hF : F = .tok ⟨3, [], 0, 0⟩ 1 := by rw [HV.out, if_neg h3]
    subst hF
    clear HV
    go_enter Tryd.func10, Tryd.ntmps10
    go_wp2_with (first
      | (go_at_call 14; refine (HRU.out _).mono ?_; rintro e w' ⟨rfl, rfl⟩)
      | (go_at_call 15; refine (HS.out _).mono ?_; rintro e w' ⟨rfl, rfl⟩)
      | (go_at_call 16; refine (HC.out _).mono ?_; rintro e w' ⟨rfl, rfl⟩))
    exact tok3_done_new Tryd.results10 rfl rfl rfl rfl

set_option maxHeartbeats 6400000 in
set_option maxRecDepth 100000 in
theorem rtoken_dig (s : ByteArray) (p : Nat) (w : World) (hs : s.size ≤ 65536) (hp : p < s.size) (a1 : letU (s[p]'hp) = false) (a2 : ¬ (s[p]'hp).toNat = 95) (a3 : digU (s[p]'hp) = true) : Calls Tryd.prog 10 #[.string s, .int .i64 p] w fun e w' => TokP p (firstT (s.data.toList.drop p)) e ∧ Below w.heap.size w w' := by
  have hp' : (p : Int) < (s.size : Int) := by omega
  obtain ⟨F, HF⟩ : ∃ F, Hid (firstT (s.data.toList.drop p) = F) := ⟨_, rfl⟩
  rw [HF.out]
  have HU : Hid _ := HF.out.symm.trans (firstT_drop hp)
  clear HF
  have HRU : Hid (∀ w, Calls Tryd.prog 14 #[.string s, .int .i64 p] w fun e w' => e = .returned (.string (s.extract p (p + runLen (s.data.toList.drop p)))) ∧ w' = w) := fun w => rrun_any s p w (by unfold maxLen; omega) (by omega)
  obtain ⟨hx1, hx2⟩ := ext_run s (Nat.le_of_lt hp)
  have hd := drop_at s hp
  obtain ⟨x, hx⟩ : ∃ x, s.extract p (p + runLen (s.data.toList.drop p)) = x := ⟨_, rfl⟩
  rw [hx] at HRU hx1 hx2
  have hxle : x.size ≤ 65536 := by
    have := runLen_le (s.data.toList.drop p)
    rw [List.length_drop, len_toList] at this
    omega
  have HS : Hid (∀ w, Calls Tryd.prog 15 #[.int .u8 ((s[p]'hp).toNat : Int)] w fun e w' => e = .returned (.bool (smallU (s[p]'hp))) ∧ w' = w) := fun w => by rw [← smallI_u]; exact rsmall_any _ w
  have HC : Hid (∀ w, Calls Tryd.prog 16 #[.int .u8 ((s[p]'hp).toNat : Int)] w fun e w' => e = .returned (.bool (capU (s[p]'hp))) ∧ w' = w) := fun w => by rw [← capI_u]; exact rcapital_any _ w
  have HDG : Hid (∀ w, Calls Tryd.prog 18 #[.int .u8 ((s[p]'hp).toNat : Int)] w fun e w' => e = .returned (.bool (digU (s[p]'hp))) ∧ w' = w) := fun w => by rw [← digI_u]; exact rdigit_any _ w
  have HU1 : Hid _ := HU.out.trans (if_neg (by rw [a1]; decide))
  clear HU
  obtain ⟨h1, h2⟩ : smallU (s[p]'hp) = false ∧ capU (s[p]'hp) = false := by
    unfold letU at a1
    simpa using a1
  clear a1
  rw [h1] at HS
  rw [h2] at HC
  have a2' : ¬ ((s[p]'hp).toNat : Int) = 95 := by omega
  have HU2 : Hid _ := HU1.out.trans (if_neg a2)
  clear HU1
  have HV : Hid _ := HU2.out.trans (if_pos a3)
  rw [← hx1] at HV
  rw [a3] at HDG
  clear HU2 a3
  have HNM : Hid (∀ w, Calls Tryd.prog 19 #[.string x] w fun e w' => ((F = .bad 32 ∧ ∃ y : Int, e = .returned (.tuple #[.int .i64 y, .bool false])) ∨ (∃ y : Int, F = .tok ⟨4, [], y, 0⟩ x.size ∧ e = .returned (.tuple #[.int .i64 y, .bool true]))) ∧ w' = w) := fun w => by
    refine (rnumber_any x w (by unfold maxLen; omega)).mono ?_
    rintro e w' ⟨⟨v, rfl, hn⟩, rfl⟩
    refine ⟨?_, rfl⟩
    rw [HV.out]
    rcases hn with ⟨e1, y, e2⟩ | ⟨y, e1, e2⟩
    · exact .inl ⟨e1, y, by rw [e2]⟩
    · exact .inr ⟨y, by rw [e1, len_toList], by rw [e2]⟩
  clear HV hx1 hx2 hd hx
  go_enter Tryd.func10, Tryd.ntmps10
  go_wp2_with (first
    | (go_at_call 14; refine (HRU.out _).mono ?_; rintro e w' ⟨rfl, rfl⟩)
    | (go_at_call 15; refine (HS.out _).mono ?_; rintro e w' ⟨rfl, rfl⟩)
    | (go_at_call 16; refine (HC.out _).mono ?_; rintro e w' ⟨rfl, rfl⟩)
    | (go_at_call 18; refine (HDG.out _).mono ?_; rintro e w' ⟨rfl, rfl⟩)
    | fail)
  refine (HNM.out _).mono ?_
  rintro e w' ⟨hcase, rfl⟩
  rcases hcase with ⟨hF, y, rfl⟩ | ⟨y, hF, rfl⟩
  · subst hF
    clear HNM
    go_wp2
    refine tok3_done_new Tryd.results10 rfl rfl rfl ?_
    exact ⟨_, rfl⟩
  · subst hF
    clear HNM
    go_wp2
    exact tok3_done_new Tryd.results10 rfl rfl rfl rfl
end Go.Proofs.YthkbcgedjecnlaaDoor
