import Derived.Test.YtifbbhgihdmhjaaDoorLexLives
namespace Go.Proofs.YtifbbhgihdmhjaaDoor
open Go.RowKit Go.Maps
set_option linter.unusedVariables false
set_option linter.unusedSimpArgs false
attribute [local go_sem ↓] Go.wp_at_zero Go.wp_at_succ

theorem rsmall_any (c : Int) (w : World) : Calls Tryd.prog 36 #[.int .u8 c] w fun e w' => e = .returned (.bool (smallI c)) ∧ w' = w := by
  go_enter Tryd.func36, Tryd.ntmps36
  go_wp2
  all_goals
    go_ret
    refine ⟨ret_bool ?_, rfl⟩
    unfold smallI
    first | (simp; omega) | simp_all
theorem rcapital_any (c : Int) (w : World) : Calls Tryd.prog 38 #[.int .u8 c] w fun e w' => e = .returned (.bool (capI c)) ∧ w' = w := by
  go_enter Tryd.func38, Tryd.ntmps38
  go_wp2
  all_goals
    go_ret
    refine ⟨ret_bool ?_, rfl⟩
    unfold capI
    first | (simp; omega) | simp_all
theorem rdigit_any (c : Int) (w : World) : Calls Tryd.prog 73 #[.int .u8 c] w fun e w' => e = .returned (.bool (digI c)) ∧ w' = w := by
  go_enter Tryd.func73, Tryd.ntmps73
  go_wp2
  all_goals
    go_ret
    refine ⟨ret_bool ?_, rfl⟩
    unfold digI
    first | (simp; omega) | simp_all
set_option maxHeartbeats 1600000 in
theorem rmore_any (c : Int) (w : World) : Calls Tryd.prog 58 #[.int .u8 c] w fun e w' => e = .returned (.bool (runI c)) ∧ w' = w := by
  unfold runI letI'
  cases x1 : smallI c <;> cases x2 : capI c <;> cases x3 : digI c <;> by_cases x4 : c = 95
  all_goals
    have x4' : (c == 95) = decide (c = 95) := by simp [x4, BEq.beq]
    go_enter Tryd.func58, Tryd.ntmps58
    go_wp2_with (first
      | (go_at_call 36; refine (rsmall_any _ _).mono ?_; rintro e w' ⟨rfl, rfl⟩)
      | (go_at_call 38; refine (rcapital_any _ _).mono ?_; rintro e w' ⟨rfl, rfl⟩)
      | (go_at_call 73; refine (rdigit_any _ _).mono ?_; rintro e w' ⟨rfl, rfl⟩))
    go_ret
    refine ⟨ret_bool ?_, rfl⟩
    simp_all
set_option maxHeartbeats 1600000 in
theorem rKeyword_any (s : ByteArray) (w : World) : Calls Tryd.prog 25 #[.string s] w fun e w' => e = .returned (.bool (kwU s.data.toList)) ∧ w' = w := by
  go_enter Tryd.func25, Tryd.ntmps25
  go_wp2
  all_goals
    go_ret
    refine ⟨ret_bool ?_, rfl⟩
    go_light
    unfold kwU kws
    rw [← ByteArray.toList_eq]
    simp_all
set_option maxHeartbeats 1600000 in
theorem rrun_any (s : ByteArray) (p : Nat) (w : World) (hs : s.size ≤ maxLen) (hp : p ≤ s.size) : Calls Tryd.prog 37 #[.string s, .int .i64 p] w fun e w' => e = .returned (.string (s.extract p (p + runLen (s.data.toList.drop p)))) ∧ w' = w := by
  unfold maxLen at hs
  obtain ⟨r, HR⟩ : ∃ r, Hid (p + runLen (s.data.toList.drop p) = r) := ⟨_, rfl⟩
  rw [HR.out]
  go_enter Tryd.func37, Tryd.ntmps37
  go_wp2_with fail
  go_loop [5] (fun i => ∃ q : Nat, p ≤ q ∧ q ≤ s.size ∧ i = .int .i64 q ∧ Hid (q + runLen (s.data.toList.drop q) = r)) (fun i => s.size - (intOf i).toNat)
  case atStart => exact ⟨p, Nat.le_refl _, hp, rfl, HR.out⟩
  case round =>
    obtain ⟨q, hpq, hq, rfl, HQ⟩ := hrel
    by_cases hlt : q < s.size
    · have hlt' : (q : Int) < (s.size : Int) := by omega
      have HD : Hid _ := drop_at s hlt
      cases hr : runU (s[q]'hlt) with
      | true =>
        have hr' : runI ((s[q]'hlt).toNat : Int) = true := by rw [runI_u]; exact hr
        have HN : Hid ((q + 1) + runLen (s.data.toList.drop (q + 1)) = r) := by
          show _ = _; have := HQ.out; rw [HD.out, runLen_go hr] at this; omega
        clear HQ HD hr HR
        go_wp2_with (go_at_call 58; refine (rmore_any _ _).mono ?_; rw [hr']; rintro e w' ⟨rfl, rfl⟩)
        go_round
        case rel => exact ⟨q + 1, by omega, by omega, by go_num, HN.out⟩
        case measure => simp [intOf]; omega
      | false =>
        have hr' : runI ((s[q]'hlt).toNat : Int) = false := by rw [runI_u]; exact hr
        have hqr : q = r := by have := HQ.out; rw [HD.out, runLen_stop hr] at this; omega
        subst hqr
        clear HQ HD hr HR
        have h1 : (p : Int) ≤ (q : Int) := by omega
        have h2 : (q : Int) ≤ (s.size : Int) := by omega
        go_wp2_with (go_at_call 58; refine (rmore_any _ _).mono ?_; rw [hr']; rintro e w' ⟨rfl, rfl⟩)
        go_ret
        exact ⟨rfl, rfl⟩
    · have hlt' : ¬ (q : Int) < (s.size : Int) := by omega
      have hqr : q = r := by have := HQ.out; rw [drop_end s hlt] at this; simpa [runLen] using this
      have hqs : q = s.size := by omega
      subst hqr
      clear HQ HR
      have h1 : (p : Int) ≤ (q : Int) := by omega
      have h2 : (q : Int) ≤ (s.size : Int) := by omega
      clear hqs
      go_wp2_with fail
      go_ret
      exact ⟨rfl, rfl⟩
theorem run_all (s : ByteArray) : (((s.extract 0 (runLen s.data.toList)).toList == s.toList) = decide (runLen s.data.toList = s.size)) := by
  have hle := runLen_le s.data.toList
  rw [len_toList] at hle
  by_cases h : runLen s.data.toList = s.size
  · rw [decide_eq_true h, beq_iff_eq, ByteArray.toList_eq, ByteArray.toList_eq, ext_take, h, List.take_of_length_le (by rw [len_toList]; omega)]
  · rw [decide_eq_false h, beq_eq_false_iff_ne, ByteArray.toList_eq, ByteArray.toList_eq, ext_take]
    intro e
    have := congrArg List.length e
    rw [List.length_take, len_toList] at this
    omega
set_option maxHeartbeats 3200000 in
theorem rName_any (s : ByteArray) (w : World) (hs : s.size ≤ maxLen) : Calls Tryd.prog 23 #[.string s] w fun e w' => e = .returned (.bool (nameU s.data.toList)) ∧ w' = w := by
  have HM : Hid (s.size ≤ maxLen) := hs
  unfold maxLen at hs
  unfold nameU
  rw [wordU_eq]
  by_cases h0 : s.size = 0
  · have h0' : (s.size : Int) = 0 := by omega
    go_enter Tryd.func23, Tryd.ntmps23
    go_wp2_with fail
    go_ret
    exact ⟨ret_bool (by simp [h0]), rfl⟩
  · have hp : 0 < s.size := by omega
    have hp' : (0 : Int) < (s.size : Int) := by omega
    rw [headB_at _ s hp, ← smallI_u]
    by_cases h1 : s.size ≤ 120
    · have h1' : (s.size : Int) ≤ 120 := by omega
      have hra := run_all s
      have hR := rrun_any s 0 w HM.out (Nat.zero_le _)
      simp only [List.drop_zero, Nat.zero_add] at hR
      have HR : Hid _ := hR
      clear hR
      generalize runLen s.data.toList = r at *
      cases hm : smallI ((s[0]'hp).toNat : Int) with
      | false =>
        go_enter Tryd.func23, Tryd.ntmps23
        go_wp2_with (first
          | (go_at_call 36; refine (rsmall_any _ _).mono ?_; rintro e w' ⟨rfl, rfl⟩)
          | fail)
        go_ret
        exact ⟨ret_bool (by simp), rfl⟩
      | true =>
        by_cases hr : r = s.size
        · have hra' : ((s.extract 0 r).toList == s.toList) = true := by rw [hra, decide_eq_true hr]
          cases hk : kwU s.data.toList
          all_goals
            clear hra
            go_enter Tryd.func23, Tryd.ntmps23
            go_wp2_with (first
              | (go_at_call 36; refine (rsmall_any _ _).mono ?_; rintro e w' ⟨rfl, rfl⟩)
              | (go_at_call 37; refine Calls.mono HR.out ?_; rintro e w' ⟨rfl, rfl⟩)
              | (go_at_call 25; refine (rKeyword_any _ _).mono ?_; rintro e w' ⟨rfl, rfl⟩)
              | fail)
            go_ret
            exact ⟨ret_bool (by simp [h1, hr, h0]), rfl⟩
        · have hra' : ((s.extract 0 r).toList == s.toList) = false := by rw [hra, decide_eq_false hr]
          clear hra
          go_enter Tryd.func23, Tryd.ntmps23
          go_wp2_with (first
            | (go_at_call 36; refine (rsmall_any _ _).mono ?_; rintro e w' ⟨rfl, rfl⟩)
            | (go_at_call 37; refine Calls.mono HR.out ?_; rintro e w' ⟨rfl, rfl⟩)
            | fail)
          go_ret
          exact ⟨ret_bool (by simp [hr]), rfl⟩
    · have h1' : ¬ (s.size : Int) ≤ 120 := by omega
      go_enter Tryd.func23, Tryd.ntmps23
      go_wp2_with fail
      go_ret
      exact ⟨ret_bool (by simp [h1]), rfl⟩
set_option maxHeartbeats 3200000 in
theorem rVariable_any (s : ByteArray) (w : World) (hs : s.size ≤ maxLen) : Calls Tryd.prog 24 #[.string s] w fun e w' => e = .returned (.bool (varU s.data.toList)) ∧ w' = w := by
  have HM : Hid (s.size ≤ maxLen) := hs
  unfold maxLen at hs
  unfold varU
  rw [wordU_eq]
  by_cases h0 : s.size = 0
  · have h0' : (s.size : Int) = 0 := by omega
    go_enter Tryd.func24, Tryd.ntmps24
    go_wp2_with fail
    go_ret
    exact ⟨ret_bool (by simp [h0]), rfl⟩
  · have hp : 0 < s.size := by omega
    have hp' : (0 : Int) < (s.size : Int) := by omega
    rw [headB_at _ s hp, ← capI_u]
    by_cases h1 : s.size ≤ 120
    · have h1' : (s.size : Int) ≤ 120 := by omega
      have hra := run_all s
      have hR := rrun_any s 0 w HM.out (Nat.zero_le _)
      simp only [List.drop_zero, Nat.zero_add] at hR
      have HR : Hid _ := hR
      clear hR
      generalize runLen s.data.toList = r at *
      cases hm : capI ((s[0]'hp).toNat : Int) with
      | false =>
        go_enter Tryd.func24, Tryd.ntmps24
        go_wp2_with (first
          | (go_at_call 38; refine (rcapital_any _ _).mono ?_; rintro e w' ⟨rfl, rfl⟩)
          | fail)
        go_ret
        exact ⟨ret_bool (by simp), rfl⟩
      | true =>
        by_cases hr : r = s.size
        · have hra' : ((s.extract 0 r).toList == s.toList) = true := by rw [hra, decide_eq_true hr]
          clear hra
          go_enter Tryd.func24, Tryd.ntmps24
          go_wp2_with (first
            | (go_at_call 38; refine (rcapital_any _ _).mono ?_; rintro e w' ⟨rfl, rfl⟩)
            | (go_at_call 37; refine Calls.mono HR.out ?_; rintro e w' ⟨rfl, rfl⟩)
            | fail)
          go_ret
          exact ⟨ret_bool (by simp [h1, hr, h0]), rfl⟩
        · have hra' : ((s.extract 0 r).toList == s.toList) = false := by rw [hra, decide_eq_false hr]
          clear hra
          go_enter Tryd.func24, Tryd.ntmps24
          go_wp2_with (first
            | (go_at_call 38; refine (rcapital_any _ _).mono ?_; rintro e w' ⟨rfl, rfl⟩)
            | (go_at_call 37; refine Calls.mono HR.out ?_; rintro e w' ⟨rfl, rfl⟩)
            | fail)
          go_ret
          exact ⟨ret_bool (by simp [hr]), rfl⟩
    · have h1' : ¬ (s.size : Int) ≤ 120 := by omega
      go_enter Tryd.func24, Tryd.ntmps24
      go_wp2_with fail
      go_ret
      exact ⟨ret_bool (by simp [h1]), rfl⟩
end Go.Proofs.YtifbbhgihdmhjaaDoor
