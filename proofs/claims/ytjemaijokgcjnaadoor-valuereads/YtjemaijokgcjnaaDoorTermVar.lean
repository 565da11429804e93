import Derived.Test.YtjemaijokgcjnaaDoorName
namespace Go.Proofs.YtjemaijokgcjnaaDoor
open Go.RowKit
set_option linter.unusedVariables false
attribute [local go_sem ↓] Go.wp_at_zero Go.wp_at_succ

/-- a word: its first byte from lo to hi, letters, digits and _ behind it, at most 120 bytes -/
def wordB (lo hi : Int) (s : ByteArray) : Bool := decide (s.size ≠ 0) && decide (s.size ≤ 120) && decide (lo ≤ byteAt s 0 ∧ byteAt s 0 ≤ hi) && lettersB s s.size
def varB (s : ByteArray) : Bool := wordB 65 90 s
theorem nameB_word (s : ByteArray) : nameB s = (wordB 97 122 s && !kwB s) := by
  unfold nameB wordB smallB
  cases decide (s.size ≠ 0) <;> cases decide (s.size ≤ 120) <;> cases decide (97 ≤ byteAt s 0 ∧ byteAt s 0 ≤ 122) <;> cases kwB s <;> cases lettersB s s.size <;> rfl

theorem rLetter_any (c : Int) (w : World) : Calls Tryd.prog 60 #[.int .u8 c] w fun e w' => e = .returned (.bool (letterB c)) ∧ w' = w := by
  go_enter Tryd.func60, Tryd.ntmps60
  go_wp2
  all_goals
    go_ret
    refine ⟨ret_bool ?_, rfl⟩
    unfold letterB smallB capitalB digitB
    first | (simp; omega; done) | (simp_all; done) | (rw [Bool.eq_iff_iff]; simp; omega)

set_option maxHeartbeats 1600000 in
theorem written_any (s : ByteArray) (lo hi : Int) (w : World) (hs : s.size ≤ maxLen) (hlh : ∀ c : Int, lo ≤ c ∧ c ≤ hi → letterB c = true) : Calls Tryd.prog 45 #[.string s, .int .u8 lo, .int .u8 hi] w fun e w' => e = .returned (.bool (wordB lo hi s)) ∧ w' = w := by
  unfold maxLen at hs
  by_cases h0 : s.size = 0
  · have he : (s.size : Int) = 0 := by omega
    have HF : Hid (wordB lo hi s = false) := by show wordB lo hi s = false; simp [wordB, h0]
    go_enter Tryd.func45, Tryd.ntmps45
    go_wp2
    go_ret
    exact ⟨ret_bool HF.out.symm, rfl⟩
  · have hpos : (0 : Int) < (s.size : Int) := by omega
    by_cases h1 : s.size ≤ 120
    · have hlt0 : 0 < s.size := by omega
      have hb0 := byteAt_eq hlt0
      have HN : Hid (wordB lo hi s = (decide (lo ≤ (s[0].toNat : Int) ∧ (s[0].toNat : Int) ≤ hi) && lettersB s s.size)) := by
        show wordB lo hi s = _
        unfold wordB
        rw [hb0]
        simp [h0, h1]
      have hb0' : Hid (byteAt s 0 = (s[0].toNat : Int)) := hb0
      clear hb0
      by_cases hcp : lo ≤ (s[0].toNat : Int) ∧ (s[0].toNat : Int) ≤ hi
      · have HY : Hid (wordB lo hi s = lettersB s s.size) := by show wordB lo hi s = _; rw [HN.out, decide_eq_true hcp]; simp
        have HL0 : Hid (lettersB s 1 = true) := by show lettersB s 1 = true; simp only [lettersB, hb0'.out, hlh _ hcp, Bool.and_self]
        obtain ⟨hc1, hc2⟩ := hcp
        clear hlh
        go_enter Tryd.func45, Tryd.ntmps45
        go_wp2
        go_loop [7] (fun i => ∃ k : Nat, 1 ≤ k ∧ k ≤ s.size ∧ i = .int .i64 k ∧ Hid (lettersB s k = true)) (fun i => s.size - (intOf i).toNat)
        case atStart => exact ⟨1, Nat.le_refl _, by omega, rfl, HL0⟩
        case round =>
          obtain ⟨k, hk1, hk, rfl, HL⟩ := hrel
          by_cases hlt : k < s.size
          · have HB : Hid (byteAt s k = (s[k].toNat : Int)) := byteAt_eq hlt
            have hlt' : (k : Int) < (s.size : Int) := by omega
            cases hx : letterB (s[k].toNat : Int)
            · have HF : Hid (wordB lo hi s = false) := by show wordB lo hi s = false; rw [HY.out]; exact lettersB_not (by rw [HB.out]; exact hx) hlt
              go_wp2_with (go_at_call 60; refine (rLetter_any _ _).mono ?_; rintro e w' ⟨rfl, rfl⟩)
              go_ret
              exact ⟨ret_bool HF.out.symm, rfl⟩
            · have HS : Hid (lettersB s (k + 1) = true) := by show lettersB s (k + 1) = true; simp only [lettersB, HL.out, HB.out, hx, Bool.and_self]
              go_wp2_with (go_at_call 60; refine (rLetter_any _ _).mono ?_; rintro e w' ⟨rfl, rfl⟩)
              go_round
              case rel => exact ⟨k + 1, by omega, by omega, by go_num, HS⟩
              case measure => simp [intOf]; omega
          · obtain rfl : k = s.size := by omega
            go_wp2
            go_ret
            exact ⟨ret_bool (by rw [HY.out]; exact HL.out.symm), rfl⟩
      · have HF : Hid (wordB lo hi s = false) := by show wordB lo hi s = false; rw [HN.out, decide_eq_false hcp]; rfl
        clear hlh
        by_cases hl : (s[0].toNat : Int) < lo
        · clear hcp
          go_enter Tryd.func45, Tryd.ntmps45
          go_wp2
          go_ret
          exact ⟨ret_bool HF.out.symm, rfl⟩
        · have hh : hi < (s[0].toNat : Int) := by omega
          clear hcp
          go_enter Tryd.func45, Tryd.ntmps45
          go_wp2
          go_ret
          exact ⟨ret_bool HF.out.symm, rfl⟩
    · have h1' : (120 : Int) < (s.size : Int) := by omega
      have HF : Hid (wordB lo hi s = false) := by show wordB lo hi s = false; unfold wordB; simp; intros; omega
      clear hlh
      go_enter Tryd.func45, Tryd.ntmps45
      go_wp2
      go_ret
      exact ⟨ret_bool HF.out.symm, rfl⟩

end Go.Proofs.YtjemaijokgcjnaaDoor
