import Derived.Test.YtkgoceomkkohmaaDoorName
namespace Go.Proofs.YtkgoceomkkohmaaDoor
open Go.RowKit
set_option linter.unusedVariables false
attribute [local go_sem ↓] Go.wp_at_zero Go.wp_at_succ

/-- a word: its first byte from lo to hi, letters, digits and _ behind it, at most 120 bytes -/
def wordB (lo hi : Int) (s : ByteArray) : Bool := decide (s.size ≠ 0) && decide (s.size ≤ 120) && decide (lo ≤ byteAt s 0 ∧ byteAt s 0 ≤ hi) && lettersB s s.size
def varB (s : ByteArray) : Bool := wordB 65 90 s
theorem nameB_word (s : ByteArray) : nameB s = (wordB 97 122 s && !kwB s) := by
  unfold nameB wordB smallB
  cases decide (s.size ≠ 0) <;> cases decide (s.size ≤ 120) <;> cases decide (97 ≤ byteAt s 0 ∧ byteAt s 0 ≤ 122) <;> cases kwB s <;> cases lettersB s s.size <;> rfl

theorem tLetter_any (c : Int) (w : World) : Calls Tryd.prog 58 #[.int .u8 c] w fun e w' => e = .returned (.bool (smallB c || capitalB c)) ∧ w' = w := by
  go_enter Tryd.func58, Tryd.ntmps58
  go_wp2
  all_goals
    go_ret
    refine ⟨ret_bool ?_, rfl⟩
    unfold smallB capitalB
    first | (simp; omega; done) | (simp_all; done) | (rw [Bool.eq_iff_iff]; simp; omega)

theorem tDigit_any (c : Int) (w : World) : Calls Tryd.prog 59 #[.int .u8 c] w fun e w' => e = .returned (.bool (digitB c)) ∧ w' = w := by
  go_enter Tryd.func59, Tryd.ntmps59
  go_wp2
  all_goals
    go_ret
    refine ⟨ret_bool ?_, rfl⟩
    unfold digitB
    first | (simp; omega) | simp_all

theorem rLetter_any (c : Int) (w : World) : Calls Tryd.prog 60 #[.int .u8 c] w fun e w' => e = .returned (.bool (letterB c)) ∧ w' = w := by
  go_enter Tryd.func60, Tryd.ntmps60
  go_wp2
  all_goals
    go_ret
    refine ⟨ret_bool ?_, rfl⟩
    unfold letterB smallB capitalB digitB
    first | (simp; omega; done) | (simp_all; done) | (rw [Bool.eq_iff_iff]; simp; omega)

theorem letter_cap {c : Int} (h : 65 ≤ c ∧ c ≤ 90) : letterB c = true := by simp [letterB, capitalB, h.1, h.2]
theorem letter_small {c : Int} (h : 97 ≤ c ∧ c ≤ 122) : letterB c = true := by simp [letterB, smallB, h.1, h.2]
set_option maxHeartbeats 1600000 in
theorem isVariable_any (s : ByteArray) (w : World) (hs : s.size ≤ maxLen) : Calls Tryd.prog 52 #[.string s] w fun e w' => e = .returned (.bool (varB s)) ∧ w' = w := by
  unfold maxLen at hs
  by_cases h0 : s.size = 0
  · have he : s.toList.isEmpty = true := by rw [empty_iff]; simpa using h0
    have HF : Hid (varB s = false) := by show varB s = false; simp [varB, wordB, h0]
    go_enter Tryd.func52, Tryd.ntmps52
    go_wp2
    go_ret
    exact ⟨ret_bool HF.out.symm, rfl⟩
  · have he : s.toList.isEmpty = false := by rw [empty_iff]; simpa using h0
    have hpos : (0 : Int) < (s.size : Int) := by omega
    by_cases h1 : s.size ≤ 120
    · have hlt0 : 0 < s.size := by omega
      have hb0 := byteAt_eq hlt0
      have HN : Hid (varB s = (decide (65 ≤ (s[0].toNat : Int) ∧ (s[0].toNat : Int) ≤ 90) && lettersB s s.size)) := by
        show varB s = _
        unfold varB wordB
        rw [hb0]
        simp [h0, h1]
      clear hb0
      by_cases hcp : 65 ≤ (s[0].toNat : Int) ∧ (s[0].toNat : Int) ≤ 90
      · have HY : Hid (varB s = lettersB s s.size) := by show varB s = _; rw [HN.out, decide_eq_true hcp]; simp
        obtain ⟨hc1, hc2⟩ := hcp
        go_enter Tryd.func52, Tryd.ntmps52
        go_wp2
        go_loop [23] (fun i => ∃ k : Nat, k ≤ s.size ∧ i = .int .i64 k ∧ Hid (lettersB s k = true)) (fun i => s.size - (intOf i).toNat)
        case atStart => exact ⟨0, Nat.zero_le _, rfl, rfl⟩
        case round =>
          obtain ⟨k, hk, rfl, HL⟩ := hrel
          by_cases hlt : k < s.size
          · have HB : Hid (byteAt s k = (s[k].toNat : Int)) := byteAt_eq hlt
            have hlt' : (k : Int) < (s.size : Int) := by omega
            cases hx : letterB (s[k].toNat : Int)
            · have HF : Hid (varB s = false) := by show varB s = false; rw [HY.out]; exact lettersB_not (by rw [HB.out]; exact hx) hlt
              unfold letterB at hx
              simp only [Bool.or_eq_false_iff] at hx
              obtain ⟨⟨⟨x1, x2⟩, x3⟩, x4⟩ := hx
              have x12 : (smallB (s[k].toNat : Int) || capitalB (s[k].toNat : Int)) = false := by rw [x1, x2]; rfl
              have x4' : ((s[k].toNat : Int) != 95) = true := by simpa using x4
              clear x4
              go_wp2_with (first
                  | (go_at_call 58; refine (tLetter_any _ _).mono ?_; rintro e w' ⟨rfl, rfl⟩)
                  | (go_at_call 59; refine (tDigit_any _ _).mono ?_; rintro e w' ⟨rfl, rfl⟩))
              go_ret
              exact ⟨ret_bool HF.out.symm, rfl⟩
            · have HS : Hid (lettersB s (k + 1) = true) := by show lettersB s (k + 1) = true; simp only [lettersB, HL.out, HB.out, hx, Bool.and_self]
              unfold letterB at hx
              cases x12 : (smallB (s[k].toNat : Int) || capitalB (s[k].toNat : Int))
              · cases x3 : digitB (s[k].toNat : Int)
                · have x4 : ((s[k].toNat : Int) != 95) = false := by rw [x12, x3] at hx; simpa using hx
                  clear hx
                  go_wp2_with (first
                  | (go_at_call 58; refine (tLetter_any _ _).mono ?_; rintro e w' ⟨rfl, rfl⟩)
                  | (go_at_call 59; refine (tDigit_any _ _).mono ?_; rintro e w' ⟨rfl, rfl⟩))
                  go_round
                  case rel => exact ⟨k + 1, by omega, by go_num, HS⟩
                  case measure => simp [intOf]; omega
                · clear hx
                  go_wp2_with (first
                  | (go_at_call 58; refine (tLetter_any _ _).mono ?_; rintro e w' ⟨rfl, rfl⟩)
                  | (go_at_call 59; refine (tDigit_any _ _).mono ?_; rintro e w' ⟨rfl, rfl⟩))
                  go_round
                  case rel => exact ⟨k + 1, by omega, by go_num, HS⟩
                  case measure => simp [intOf]; omega
              · clear hx
                go_wp2_with (first
                  | (go_at_call 58; refine (tLetter_any _ _).mono ?_; rintro e w' ⟨rfl, rfl⟩)
                  | (go_at_call 59; refine (tDigit_any _ _).mono ?_; rintro e w' ⟨rfl, rfl⟩))
                go_round
                case rel => exact ⟨k + 1, by omega, by go_num, HS⟩
                case measure => simp [intOf]; omega
          · obtain rfl : k = s.size := by omega
            go_wp2
            go_ret
            exact ⟨ret_bool (by rw [HY.out]; exact HL.out.symm), rfl⟩
      · have HF : Hid (varB s = false) := by show varB s = false; rw [HN.out, decide_eq_false hcp]; rfl
        by_cases hl : (s[0].toNat : Int) < 65
        · clear hcp
          go_enter Tryd.func52, Tryd.ntmps52
          go_wp2
          go_ret
          exact ⟨ret_bool HF.out.symm, rfl⟩
        · have hh : 90 < (s[0].toNat : Int) := by omega
          clear hcp
          go_enter Tryd.func52, Tryd.ntmps52
          go_wp2
          go_ret
          exact ⟨ret_bool HF.out.symm, rfl⟩
    · have h1' : (120 : Int) < (s.size : Int) := by omega
      have HF : Hid (varB s = false) := by show varB s = false; unfold varB wordB; simp; intros; omega
      go_enter Tryd.func52, Tryd.ntmps52
      go_wp2
      go_ret
      exact ⟨ret_bool HF.out.symm, rfl⟩

set_option maxHeartbeats 1600000 in
theorem written_any (s : ByteArray) (lo hi : Int) (w : World) (hs : s.size ≤ maxLen) (hlh : ∀ c : Int, lo ≤ c ∧ c ≤ hi → letterB c = true) : Calls Tryd.prog 53 #[.string s, .int .u8 lo, .int .u8 hi] w fun e w' => e = .returned (.bool (wordB lo hi s)) ∧ w' = w := by
  unfold maxLen at hs
  by_cases h0 : s.size = 0
  · have he : (s.size : Int) = 0 := by omega
    have HF : Hid (wordB lo hi s = false) := by show wordB lo hi s = false; simp [wordB, h0]
    go_enter Tryd.func53, Tryd.ntmps53
    go_wp2
    go_ret
    exact ⟨ret_bool HF.out.symm, rfl⟩
  · have hpos : (0 : Int) < (s.size : Int) := by omega
    by_cases h1 : s.size ≤ 120
    · have hlt0 : 0 < s.size := by omega
      have hb0 := byteAt_eq hlt0
      have HN : Hid (wordB lo hi s = (decide (lo ≤ (s[0].toNat : Int) ∧ (s[0].toNat : Int) ≤ hi) && lettersB s s.size)) := by
        show wordB lo hi s = _
        unfold wordB
        rw [hb0]
        simp [h0, h1]
      have hb0' : Hid (byteAt s 0 = (s[0].toNat : Int)) := hb0
      clear hb0
      by_cases hcp : lo ≤ (s[0].toNat : Int) ∧ (s[0].toNat : Int) ≤ hi
      · have HY : Hid (wordB lo hi s = lettersB s s.size) := by show wordB lo hi s = _; rw [HN.out, decide_eq_true hcp]; simp
        have HL0 : Hid (lettersB s 1 = true) := by show lettersB s 1 = true; simp only [lettersB, hb0'.out, hlh _ hcp, Bool.and_self]
        obtain ⟨hc1, hc2⟩ := hcp
        clear hlh
        go_enter Tryd.func53, Tryd.ntmps53
        go_wp2
        go_loop [7] (fun i => ∃ k : Nat, 1 ≤ k ∧ k ≤ s.size ∧ i = .int .i64 k ∧ Hid (lettersB s k = true)) (fun i => s.size - (intOf i).toNat)
        case atStart => exact ⟨1, Nat.le_refl _, by omega, rfl, HL0⟩
        case round =>
          obtain ⟨k, hk1, hk, rfl, HL⟩ := hrel
          by_cases hlt : k < s.size
          · have HB : Hid (byteAt s k = (s[k].toNat : Int)) := byteAt_eq hlt
            have hlt' : (k : Int) < (s.size : Int) := by omega
            cases hx : letterB (s[k].toNat : Int)
            · have HF : Hid (wordB lo hi s = false) := by show wordB lo hi s = false; rw [HY.out]; exact lettersB_not (by rw [HB.out]; exact hx) hlt
              go_wp2_with (go_at_call 60; refine (rLetter_any _ _).mono ?_; rintro e w' ⟨rfl, rfl⟩)
              go_ret
              exact ⟨ret_bool HF.out.symm, rfl⟩
            · have HS : Hid (lettersB s (k + 1) = true) := by show lettersB s (k + 1) = true; simp only [lettersB, HL.out, HB.out, hx, Bool.and_self]
              go_wp2_with (go_at_call 60; refine (rLetter_any _ _).mono ?_; rintro e w' ⟨rfl, rfl⟩)
              go_round
              case rel => exact ⟨k + 1, by omega, by omega, by go_num, HS⟩
              case measure => simp [intOf]; omega
          · obtain rfl : k = s.size := by omega
            go_wp2
            go_ret
            exact ⟨ret_bool (by rw [HY.out]; exact HL.out.symm), rfl⟩
      · have HF : Hid (wordB lo hi s = false) := by show wordB lo hi s = false; rw [HN.out, decide_eq_false hcp]; rfl
        clear hlh
        by_cases hl : (s[0].toNat : Int) < lo
        · clear hcp
          go_enter Tryd.func53, Tryd.ntmps53
          go_wp2
          go_ret
          exact ⟨ret_bool HF.out.symm, rfl⟩
        · have hh : hi < (s[0].toNat : Int) := by omega
          clear hcp
          go_enter Tryd.func53, Tryd.ntmps53
          go_wp2
          go_ret
          exact ⟨ret_bool HF.out.symm, rfl⟩
    · have h1' : (120 : Int) < (s.size : Int) := by omega
      have HF : Hid (wordB lo hi s = false) := by show wordB lo hi s = false; unfold wordB; simp; intros; omega
      clear hlh
      go_enter Tryd.func53, Tryd.ntmps53
      go_wp2
      go_ret
      exact ⟨ret_bool HF.out.symm, rfl⟩

theorem rVariable_any (s : ByteArray) (w : World) (hs : s.size ≤ maxLen) : Calls Tryd.prog 48 #[.string s] w fun e w' => e = .returned (.bool (varB s)) ∧ w' = w := by
  go_enter Tryd.func48, Tryd.ntmps48
  go_wp2_with fail
  refine (written_any s 65 90 _ hs fun c h => letter_cap h).mono ?_
  rintro e w' ⟨rfl, rfl⟩
  go_wp2
  go_ret
  exact ⟨rfl, rfl⟩

end Go.Proofs.YtkgoceomkkohmaaDoor
