import Derived.Test.YthkbcgedjecnlaaDoorLexLives
namespace Go.Proofs.YthkbcgedjecnlaaDoor
open Go.RowKit Go.Maps
set_option linter.unusedVariables false
set_option linter.unusedSimpArgs false
attribute [local go_sem ↓] Go.wp_at_zero Go.wp_at_succ

theorem rsmall_any (c : Int) (w : World) : Calls Tryd.prog 15 #[.int .u8 c] w fun e w' => e = .returned (.bool (smallI c)) ∧ w' = w := by
  go_enter Tryd.func15, Tryd.ntmps15
  go_wp2
  all_goals
    go_ret
    refine ⟨ret_bool ?_, rfl⟩
    unfold smallI
    first | (simp; omega) | simp_all
theorem rcapital_any (c : Int) (w : World) : Calls Tryd.prog 16 #[.int .u8 c] w fun e w' => e = .returned (.bool (capI c)) ∧ w' = w := by
  go_enter Tryd.func16, Tryd.ntmps16
  go_wp2
  all_goals
    go_ret
    refine ⟨ret_bool ?_, rfl⟩
    unfold capI
    first | (simp; omega) | simp_all
theorem rdigit_any (c : Int) (w : World) : Calls Tryd.prog 18 #[.int .u8 c] w fun e w' => e = .returned (.bool (digI c)) ∧ w' = w := by
  go_enter Tryd.func18, Tryd.ntmps18
  go_wp2
  all_goals
    go_ret
    refine ⟨ret_bool ?_, rfl⟩
    unfold digI
    first | (simp; omega) | simp_all
set_option maxHeartbeats 1600000 in
theorem rmore_any (c : Int) (w : World) : Calls Tryd.prog 34 #[.int .u8 c] w fun e w' => e = .returned (.bool (runI c)) ∧ w' = w := by
  unfold runI letI'
  cases x1 : smallI c <;> cases x2 : capI c <;> cases x3 : digI c <;> by_cases x4 : c = 95
  all_goals
    have x4' : (c == 95) = decide (c = 95) := by simp [x4, BEq.beq]
    go_enter Tryd.func34, Tryd.ntmps34
    go_wp2_with (first
      | (go_at_call 15; refine (rsmall_any _ _).mono ?_; rintro e w' ⟨rfl, rfl⟩)
      | (go_at_call 16; refine (rcapital_any _ _).mono ?_; rintro e w' ⟨rfl, rfl⟩)
      | (go_at_call 18; refine (rdigit_any _ _).mono ?_; rintro e w' ⟨rfl, rfl⟩))
    go_ret
    refine ⟨ret_bool ?_, rfl⟩
    simp_all
set_option maxHeartbeats 1600000 in
theorem rKeyword_any (s : ByteArray) (w : World) : Calls Tryd.prog 35 #[.string s] w fun e w' => e = .returned (.bool (kwU s.data.toList)) ∧ w' = w := by
  go_enter Tryd.func35, Tryd.ntmps35
  go_wp2
  all_goals
    go_ret
    refine ⟨ret_bool ?_, rfl⟩
    go_light
    unfold kwU kws
    rw [← ByteArray.toList_eq]
    simp_all
set_option maxHeartbeats 1600000 in
theorem rrun_any (s : ByteArray) (p : Nat) (w : World) (hs : s.size ≤ maxLen) (hp : p ≤ s.size) : Calls Tryd.prog 14 #[.string s, .int .i64 p] w fun e w' => e = .returned (.string (s.extract p (p + runLen (s.data.toList.drop p)))) ∧ w' = w := by
  unfold maxLen at hs
  obtain ⟨r, HR⟩ : ∃ r, Hid (p + runLen (s.data.toList.drop p) = r) := ⟨_, rfl⟩
  rw [HR.out]
  go_enter Tryd.func14, Tryd.ntmps14
  go_wp2_with fail
  go_loop [5] (fun i => ∃ q : Nat, p ≤ q ∧ q ≤ s.size ∧ i = .int .i64 q ∧ Hid (q + runLen (s.data.toList.drop q) = r)) (fun i => s.size - (intOf i).toNat)
  case atStart => exact ⟨p, Nat.le_refl _, hp, rfl, HR.out⟩
  case round =>
    obtain ⟨q, hpq, hq, rfl, HQ⟩ := hrel
    by_cases hlt : q < s.size
    · have hlt' : (q : Int) < (s.size : Int) := by omega
      have HD : Hid _ := drop_at s hlt
      cases hr : runU (s[q]'hlt) with
      | true =>
        have hr' : runI ((s[q]'hlt).toNat : Int) = true := by rw [runI_u]; exact hr
        have HN : Hid ((q + 1) + runLen (s.data.toList.drop (q + 1)) = r) := by
          show _ = _; have := HQ.out; rw [HD.out, runLen_go hr] at this; omega
        clear HQ HD hr HR
        go_wp2_with (go_at_call 34; refine (rmore_any _ _).mono ?_; rw [hr']; rintro e w' ⟨rfl, rfl⟩)
        go_round
        case rel => exact ⟨q + 1, by omega, by omega, by go_num, HN.out⟩
        case measure => simp [intOf]; omega
      | false =>
        have hr' : runI ((s[q]'hlt).toNat : Int) = false := by rw [runI_u]; exact hr
        have hqr : q = r := by have := HQ.out; rw [HD.out, runLen_stop hr] at this; omega
        subst hqr
        clear HQ HD hr HR
        have h1 : (p : Int) ≤ (q : Int) := by omega
        have h2 : (q : Int) ≤ (s.size : Int) := by omega
        go_wp2_with (go_at_call 34; refine (rmore_any _ _).mono ?_; rw [hr']; rintro e w' ⟨rfl, rfl⟩)
        go_ret
        exact ⟨rfl, rfl⟩
    · have hlt' : ¬ (q : Int) < (s.size : Int) := by omega
      have hqr : q = r := by have := HQ.out; rw [drop_end s hlt] at this; simpa [runLen] using this
      have hqs : q = s.size := by omega
      subst hqr
      clear HQ HR
      have h1 : (p : Int) ≤ (q : Int) := by omega
      have h2 : (q : Int) ≤ (s.size : Int) := by omega
      clear hqs
      go_wp2_with fail
      go_ret
      exact ⟨rfl, rfl⟩
end Go.Proofs.YthkbcgedjecnlaaDoor
