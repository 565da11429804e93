import Derived.Test.YthkbcgedjecnlaaDoorLtC
namespace Go.Proofs.YthkbcgedjecnlaaDoor
open Go.RowKit Go.Maps
set_option linter.unusedVariables false
set_option linter.unusedSimpArgs false
attribute [local go_sem ↓] Go.wp_at_zero Go.wp_at_succ

theorem quotT_val (l : List UInt8) : (quotT l = .bad 33 ∧ quotU l.length (l.drop 1) [] 1 = none) ∨ ∃ v n, quotT l = .tok ⟨5, v, 0, 0⟩ n ∧ quotU l.length (l.drop 1) [] 1 = some (v, n) ∧ n ≠ 0 := by
  unfold quotT
  cases h : quotU l.length (l.drop 1) [] 1 with
  | none => exact .inl ⟨rfl, rfl⟩
  | some x =>
    obtain ⟨v, n⟩ := x
    have := quotU_le _ _ _ _ h
    exact .inr ⟨v, n, rfl, rfl, by omega⟩
set_option maxHeartbeats 6400000 in
set_option maxRecDepth 100000 in
theorem rtoken_quot (s : ByteArray) (p : Nat) (w : World) (hs : s.size ≤ 65536) (hp : p < s.size) (a1 : letU (s[p]'hp) = false) (a2 : ¬ (s[p]'hp).toNat = 95) (a3 : digU (s[p]'hp) = false) (a4 : (s[p]'hp).toNat = 34) : Calls Tryd.prog 10 #[.string s, .int .i64 p] w fun e w' => TokP p (firstT (s.data.toList.drop p)) e ∧ Below w.heap.size w w' := by
  have hp' : (p : Int) < (s.size : Int) := by omega
  obtain ⟨F, HF⟩ : ∃ F, Hid (firstT (s.data.toList.drop p) = F) := ⟨_, rfl⟩
  rw [HF.out]
  have HU : Hid _ := HF.out.symm.trans (firstT_drop hp)
  clear HF
  have HRU : Hid (∀ w, Calls Tryd.prog 14 #[.string s, .int .i64 p] w fun e w' => e = .returned (.string (s.extract p (p + runLen (s.data.toList.drop p)))) ∧ w' = w) := fun w => rrun_any s p w (by unfold maxLen; omega) (by omega)
  obtain ⟨hx1, hx2⟩ := ext_run s (Nat.le_of_lt hp)
  have hd := drop_at s hp
  obtain ⟨x, hx⟩ : ∃ x, s.extract p (p + runLen (s.data.toList.drop p)) = x := ⟨_, rfl⟩
  rw [hx] at HRU hx1 hx2
  have hxle : x.size ≤ 65536 := by
    have := runLen_le (s.data.toList.drop p)
    rw [List.length_drop, len_toList] at this
    omega
  have HS : Hid (∀ w, Calls Tryd.prog 15 #[.int .u8 ((s[p]'hp).toNat : Int)] w fun e w' => e = .returned (.bool (smallU (s[p]'hp))) ∧ w' = w) := fun w => by rw [← smallI_u]; exact rsmall_any _ w
  have HC : Hid (∀ w, Calls Tryd.prog 16 #[.int .u8 ((s[p]'hp).toNat : Int)] w fun e w' => e = .returned (.bool (capU (s[p]'hp))) ∧ w' = w) := fun w => by rw [← capI_u]; exact rcapital_any _ w
  have HDG : Hid (∀ w, Calls Tryd.prog 18 #[.int .u8 ((s[p]'hp).toNat : Int)] w fun e w' => e = .returned (.bool (digU (s[p]'hp))) ∧ w' = w) := fun w => by rw [← digI_u]; exact rdigit_any _ w
  have HU1 : Hid _ := HU.out.trans (if_neg (by rw [a1]; decide))
  clear HU
  obtain ⟨h1, h2⟩ : smallU (s[p]'hp) = false ∧ capU (s[p]'hp) = false := by
    unfold letU at a1
    simpa using a1
  clear a1
  rw [h1] at HS
  rw [h2] at HC
  have a2' : ¬ ((s[p]'hp).toNat : Int) = 95 := by omega
  have HU2 : Hid _ := HU1.out.trans (if_neg a2)
  clear HU1
  have HU3 : Hid _ := HU2.out.trans (if_neg (by rw [a3]; decide))
  rw [a3] at HDG
  clear HU2 a3
  obtain ⟨hy1, hy2⟩ := ext_end s (Nat.le_of_lt hp)
  obtain ⟨y, hy⟩ : ∃ y, s.extract p s.size = y := ⟨_, rfl⟩
  rw [hy] at hy1 hy2
  have hy0 : 0 < y.size := by omega
  have hyh : y[0]'hy0 = s[p]'hp := head_at (r := s.data.toList.drop (p + 1)) (by rw [hy1, hd]) hy0
  have a4' : ((s[p]'hp).toNat : Int) = 34 := by omega
  rw [a4'] at HS HC HDG
  have HV : Hid _ := HU3.out.trans (if_pos a4)
  rw [← hy1] at HV
  have HQ : Hid (∀ w, Calls Tryd.prog 20 #[.string y] w fun e w' => e = .returned (rqV (quotU y.data.toList.length (y.data.toList.drop 1) [] 1)) ∧ Below w.heap.size w w') := fun w => rquoted_any y w (by omega) hy0 (by rw [hyh]; exact a4)
  rcases quotT_val y.data.toList with ⟨e1, e2⟩ | ⟨v, n, e1, e2, hn⟩
  · rw [e2] at HQ
    obtain rfl : F = .bad 33 := by rw [HV.out, e1]
    unfold rqV at HQ
    clear HU3 hx1 hx2 hd hx HV hyh hy1 e1 e2
    go_enter Tryd.func10, Tryd.ntmps10
    go_wp2_with (first
      | (go_at_call 14; refine (HRU.out _).mono ?_; rintro e w' ⟨rfl, rfl⟩)
      | (go_at_call 15; refine (HS.out _).mono ?_; rintro e w' ⟨rfl, rfl⟩)
      | (go_at_call 16; refine (HC.out _).mono ?_; rintro e w' ⟨rfl, rfl⟩)
      | (go_at_call 18; refine (HDG.out _).mono ?_; rintro e w' ⟨rfl, rfl⟩)
      | (go_at_call 20; refine (HQ.out _).mono ?_; rintro e w1 ⟨rfl, hb1⟩; have HO : Hid _ := own4 hb1; have hbf := ((Below.refl w.heap.size w).alloc (Nat.le_refl _) _).trans (hb1.mono (by simp)); clear hb1; obtain ⟨⟨z0, z1, z2, z3, c0, c1, c2, c3⟩, f0, f1, f2, f3, hl⟩ := HO.out))
    refine tok3_done Tryd.results10 HO.out (Nat.le_refl _) hbf rfl rfl rfl ?_
    exact ⟨_, rfl⟩
  · rw [e2] at HQ
    obtain rfl : F = .tok ⟨5, v, 0, 0⟩ n := by rw [HV.out, e1]
    have hn' : ¬ (n : Int) = 0 := by omega
    have HTS : Hid (TokP p (.tok ⟨5, v, 0, 0⟩ n) (.returned (.tuple #[.agg #[.int .i8 5, .string ⟨v.toArray⟩, .int .i64 0, .int .i64 p], .int .i64 n, .int .i64 0]))) := rfl
    unfold rqV at HQ
    simp only at HQ
    clear HU3 hx1 hx2 hd hx HV hyh hy1 e1 e2
    generalize (⟨v.toArray⟩ : ByteArray) = vb at *
    go_enter Tryd.func10, Tryd.ntmps10
    go_wp2_with (first
      | (go_at_call 14; refine (HRU.out _).mono ?_; rintro e w' ⟨rfl, rfl⟩)
      | (go_at_call 15; refine (HS.out _).mono ?_; rintro e w' ⟨rfl, rfl⟩)
      | (go_at_call 16; refine (HC.out _).mono ?_; rintro e w' ⟨rfl, rfl⟩)
      | (go_at_call 18; refine (HDG.out _).mono ?_; rintro e w' ⟨rfl, rfl⟩)
      | (go_at_call 20; refine (HQ.out _).mono ?_; rintro e w1 ⟨rfl, hb1⟩; have HO : Hid _ := own4 hb1; have hbf := ((Below.refl w.heap.size w).alloc (Nat.le_refl _) _).trans (hb1.mono (by simp)); clear hb1; obtain ⟨⟨z0, z1, z2, z3, c0, c1, c2, c3⟩, f0, f1, f2, f3, hl⟩ := HO.out))
    exact tok3_done Tryd.results10 HO.out (Nat.le_refl _) hbf rfl rfl rfl HTS.out

set_option maxHeartbeats 6400000 in
set_option maxRecDepth 100000 in
theorem rtoken_sign (s : ByteArray) (p : Nat) (w : World) (hs : s.size ≤ 65536) (hp : p < s.size) (a1 : letU (s[p]'hp) = false) (a2 : ¬ (s[p]'hp).toNat = 95) (a3 : digU (s[p]'hp) = false) (a4 : ¬ (s[p]'hp).toNat = 34) : Calls Tryd.prog 10 #[.string s, .int .i64 p] w fun e w' => TokP p (firstT (s.data.toList.drop p)) e ∧ Below w.heap.size w w' := by
  have hp' : (p : Int) < (s.size : Int) := by omega
  obtain ⟨F, HF⟩ : ∃ F, Hid (firstT (s.data.toList.drop p) = F) := ⟨_, rfl⟩
  rw [HF.out]
  have HU : Hid _ := HF.out.symm.trans (firstT_drop hp)
  clear HF
  have HRU : Hid (∀ w, Calls Tryd.prog 14 #[.string s, .int .i64 p] w fun e w' => e = .returned (.string (s.extract p (p + runLen (s.data.toList.drop p)))) ∧ w' = w) := fun w => rrun_any s p w (by unfold maxLen; omega) (by omega)
  obtain ⟨hx1, hx2⟩ := ext_run s (Nat.le_of_lt hp)
  have hd := drop_at s hp
  obtain ⟨x, hx⟩ : ∃ x, s.extract p (p + runLen (s.data.toList.drop p)) = x := ⟨_, rfl⟩
  rw [hx] at HRU hx1 hx2
  have hxle : x.size ≤ 65536 := by
    have := runLen_le (s.data.toList.drop p)
    rw [List.length_drop, len_toList] at this
    omega
  have HS : Hid (∀ w, Calls Tryd.prog 15 #[.int .u8 ((s[p]'hp).toNat : Int)] w fun e w' => e = .returned (.bool (smallU (s[p]'hp))) ∧ w' = w) := fun w => by rw [← smallI_u]; exact rsmall_any _ w
  have HC : Hid (∀ w, Calls Tryd.prog 16 #[.int .u8 ((s[p]'hp).toNat : Int)] w fun e w' => e = .returned (.bool (capU (s[p]'hp))) ∧ w' = w) := fun w => by rw [← capI_u]; exact rcapital_any _ w
  have HDG : Hid (∀ w, Calls Tryd.prog 18 #[.int .u8 ((s[p]'hp).toNat : Int)] w fun e w' => e = .returned (.bool (digU (s[p]'hp))) ∧ w' = w) := fun w => by rw [← digI_u]; exact rdigit_any _ w
  have HU1 : Hid _ := HU.out.trans (if_neg (by rw [a1]; decide))
  clear HU
  obtain ⟨h1, h2⟩ : smallU (s[p]'hp) = false ∧ capU (s[p]'hp) = false := by
    unfold letU at a1
    simpa using a1
  clear a1
  rw [h1] at HS
  rw [h2] at HC
  have a2' : ¬ ((s[p]'hp).toNat : Int) = 95 := by omega
  have HU2 : Hid _ := HU1.out.trans (if_neg a2)
  clear HU1
  have HU3 : Hid _ := HU2.out.trans (if_neg (by rw [a3]; decide))
  rw [a3] at HDG
  clear HU2 a3
  obtain ⟨hy1, hy2⟩ := ext_end s (Nat.le_of_lt hp)
  obtain ⟨y, hy⟩ : ∃ y, s.extract p s.size = y := ⟨_, rfl⟩
  rw [hy] at hy1 hy2
  have hy0 : 0 < y.size := by omega
  have hyh : y[0]'hy0 = s[p]'hp := head_at (r := s.data.toList.drop (p + 1)) (by rw [hy1, hd]) hy0
  have a4' : ¬ ((s[p]'hp).toNat : Int) = 34 := by omega
  have HV : Hid _ := HU3.out.trans (if_neg a4)
  have hv := HV.out
  rw [← hy1, signT_rsg] at hv
  have HQ : Hid (∀ w, Calls Tryd.prog 21 #[.string y] w fun e w' => e = .returned (.string ⟨(rsg y.data.toList).toArray⟩) ∧ Below w.heap.size w w') := fun w => rsign_any y w (by unfold maxLen; omega)
  clear HU3 hx1 hx2 hd hx HV hyh hy1
  generalize rsg y.data.toList = r at *
  by_cases hr : r = []
  · subst hr
    obtain rfl : F = .bad 31 := by rw [hv, if_pos rfl]
    clear hv
    go_enter Tryd.func10, Tryd.ntmps10
    go_wp2_with (first
      | (go_at_call 14; refine (HRU.out _).mono ?_; rintro e w' ⟨rfl, rfl⟩)
      | (go_at_call 15; refine (HS.out _).mono ?_; rintro e w' ⟨rfl, rfl⟩)
      | (go_at_call 16; refine (HC.out _).mono ?_; rintro e w' ⟨rfl, rfl⟩)
      | (go_at_call 18; refine (HDG.out _).mono ?_; rintro e w' ⟨rfl, rfl⟩)
      | (go_at_call 21; refine (HQ.out _).mono ?_; rintro e w1 ⟨rfl, hb1⟩; have HO : Hid _ := own4 hb1; have hbf := ((Below.refl w.heap.size w).alloc (Nat.le_refl _) _).trans (hb1.mono (by simp)); clear hb1; obtain ⟨⟨z0, z1, z2, z3, c0, c1, c2, c3⟩, f0, f1, f2, f3, hl⟩ := HO.out))
    refine tok3_done Tryd.results10 HO.out (Nat.le_refl _) hbf rfl rfl rfl ?_
    exact ⟨_, rfl⟩
  · obtain rfl : F = .tok ⟨7, r, 0, 0⟩ r.length := by rw [hv, if_neg hr]
    have hrs := size_mk r
    have HTS : Hid (TokP p (.tok ⟨7, r, 0, 0⟩ r.length) (.returned (.tuple #[.agg #[.int .i8 7, .string ⟨r.toArray⟩, .int .i64 0, .int .i64 p], .int .i64 (⟨r.toArray⟩ : ByteArray).size, .int .i64 0]))) := by rw [hrs]; rfl
    have hre : (⟨r.toArray⟩ : ByteArray).toList.isEmpty = false := by
      rw [ByteArray.toList_eq]
      cases r with
      | nil => exact absurd rfl hr
      | cons c r => rfl
    clear hv hr hrs
    generalize (⟨r.toArray⟩ : ByteArray) = rb at *
    go_enter Tryd.func10, Tryd.ntmps10
    go_wp2_with (first
      | (go_at_call 14; refine (HRU.out _).mono ?_; rintro e w' ⟨rfl, rfl⟩)
      | (go_at_call 15; refine (HS.out _).mono ?_; rintro e w' ⟨rfl, rfl⟩)
      | (go_at_call 16; refine (HC.out _).mono ?_; rintro e w' ⟨rfl, rfl⟩)
      | (go_at_call 18; refine (HDG.out _).mono ?_; rintro e w' ⟨rfl, rfl⟩)
      | (go_at_call 21; refine (HQ.out _).mono ?_; rintro e w1 ⟨rfl, hb1⟩; have HO : Hid _ := own4 hb1; have hbf := ((Below.refl w.heap.size w).alloc (Nat.le_refl _) _).trans (hb1.mono (by simp)); clear hb1; obtain ⟨⟨z0, z1, z2, z3, c0, c1, c2, c3⟩, f0, f1, f2, f3, hl⟩ := HO.out))
    exact tok3_done Tryd.results10 HO.out (Nat.le_refl _) hbf rfl rfl rfl HTS.out
end Go.Proofs.YthkbcgedjecnlaaDoor
