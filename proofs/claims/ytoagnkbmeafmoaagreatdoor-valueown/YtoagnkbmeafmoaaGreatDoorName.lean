import Derived.Test.YtoagnkbmeafmoaaGreatDoorVal
namespace Go.Proofs.YtoagnkbmeafmoaaGreatDoor
open Go.RowKit
set_option linter.unusedVariables false
attribute [local go_sem ↓] Go.wp_at_zero Go.wp_at_succ

def smallB (c : Int) : Bool := decide (97 ≤ c ∧ c ≤ 122)
def capitalB (c : Int) : Bool := decide (65 ≤ c ∧ c ≤ 90)
def digitB (c : Int) : Bool := decide (48 ≤ c ∧ c ≤ 57)
def letterB (c : Int) : Bool := smallB c || capitalB c || digitB c || c == 95
/-- the eight keywords, as bytes -/
def keywords : List (List UInt8) := [[110, 111, 116], [99, 111, 117, 110, 116], [115, 117, 109], [109, 105, 110], [109, 97, 120], [108, 101, 110], [99, 104, 97, 114, 115], [98, 97, 99, 107]]
def kwB (s : ByteArray) : Bool := decide (s.toList ∈ keywords)
def byteAt (s : ByteArray) (k : Nat) : Int := if h : k < s.size then (s[k].toNat : Int) else 0
theorem byteAt_eq {s : ByteArray} {k : Nat} (h : k < s.size) : byteAt s k = (s[k].toNat : Int) := dif_pos h
def lettersB (s : ByteArray) : Nat → Bool
  | 0 => true
  | k + 1 => lettersB s k && letterB (byteAt s k)
def nameB (s : ByteArray) : Bool := decide (s.size ≠ 0) && decide (s.size ≤ 120) && smallB (byteAt s 0) && !kwB s && lettersB s s.size
theorem empty_iff (s : ByteArray) : s.toList.isEmpty = decide (s.size = 0) := by
  rw [ByteArray.toList_eq, ← ByteArray.size_data, ← Array.length_toList]
  cases s.data.toList <;> simp

theorem lettersB_not {s : ByteArray} {k : Nat} (h : letterB (byteAt s k) = false) : ∀ {n : Nat}, k < n → lettersB s n = false
  | 0, hk => by omega
  | n + 1, hk => by
    by_cases e : k = n
    · subst e; simp only [lettersB, h, Bool.and_false]
    · simp only [lettersB, lettersB_not h (n := n) (by omega), Bool.false_and]

theorem isSmall_any (c : Int) (w : World) : Calls Tryz.prog 191 #[.int .u8 c] w fun e w' => e = .returned (.bool (smallB c)) ∧ w' = w := by
  go_enter Tryz.func191, Tryz.ntmps191
  go_wp2
  all_goals
    go_ret
    refine ⟨ret_bool ?_, rfl⟩
    unfold smallB
    first | (simp; omega) | simp_all

theorem isCapital_any (c : Int) (w : World) : Calls Tryz.prog 193 #[.int .u8 c] w fun e w' => e = .returned (.bool (capitalB c)) ∧ w' = w := by
  go_enter Tryz.func193, Tryz.ntmps193
  go_wp2
  all_goals
    go_ret
    refine ⟨ret_bool ?_, rfl⟩
    unfold capitalB
    first | (simp; omega) | simp_all

theorem isDigit_any (c : Int) (w : World) : Calls Tryz.prog 194 #[.int .u8 c] w fun e w' => e = .returned (.bool (digitB c)) ∧ w' = w := by
  go_enter Tryz.func194, Tryz.ntmps194
  go_wp2
  all_goals
    go_ret
    refine ⟨ret_bool ?_, rfl⟩
    unfold digitB
    first | (simp; omega) | simp_all

theorem isKeyword_any (s : ByteArray) (w : World) : Calls Tryz.prog 192 #[.string s] w fun e w' => e = .returned (.bool (kwB s)) ∧ w' = w := by
  go_enter Tryz.func192, Tryz.ntmps192
  go_wp2
  all_goals
    go_ret
    refine ⟨ret_bool ?_, rfl⟩
    go_light
    unfold kwB keywords
    simp_all

set_option maxHeartbeats 1600000 in
theorem isName_any (s : ByteArray) (w : World) (hs : s.size ≤ maxLen) : Calls Tryz.prog 82 #[.string s] w fun e w' => e = .returned (.bool (nameB s)) ∧ w' = w := by
  unfold maxLen at hs
  by_cases h0 : s.size = 0
  · have he : s.toList.isEmpty = true := by rw [empty_iff]; simpa using h0
    have HF : Hid (nameB s = false) := by show nameB s = false; simp [nameB, h0]
    go_enter Tryz.func82, Tryz.ntmps82
    go_wp2
    go_ret
    exact ⟨ret_bool HF.out.symm, rfl⟩
  · have he : s.toList.isEmpty = false := by rw [empty_iff]; simpa using h0
    have hpos : (0 : Int) < (s.size : Int) := by omega
    by_cases h1 : s.size ≤ 120
    · have hlt0 : 0 < s.size := by omega
      have hb0 := byteAt_eq hlt0
      have HN : Hid (nameB s = (smallB (s[0].toNat : Int) && !kwB s && lettersB s s.size)) := by
        show nameB s = _
        unfold nameB
        rw [hb0]
        simp [h0, h1]
      clear hb0
      cases hsm : smallB (s[0].toNat : Int)
      · have HF : Hid (nameB s = false) := by show nameB s = false; rw [HN.out, hsm]; simp
        go_enter Tryz.func82, Tryz.ntmps82
        go_wp2_with (go_at_call 191; refine (isSmall_any _ _).mono ?_; rintro e w' ⟨rfl, rfl⟩)
        go_ret
        exact ⟨ret_bool HF.out.symm, rfl⟩
      · cases hkw : kwB s
        · have HY : Hid (nameB s = lettersB s s.size) := by show nameB s = _; rw [HN.out, hsm, hkw]; simp
          go_enter Tryz.func82, Tryz.ntmps82
          go_wp2_with (first
            | (go_at_call 191; refine (isSmall_any _ _).mono ?_; rintro e w' ⟨rfl, rfl⟩)
            | (go_at_call 192; refine (isKeyword_any _ _).mono ?_; rintro e w' ⟨rfl, rfl⟩))
          go_loop [24] (fun i => ∃ k : Nat, k ≤ s.size ∧ i = .int .i64 k ∧ Hid (lettersB s k = true)) (fun i => s.size - (intOf i).toNat)
          case atStart => exact ⟨0, Nat.zero_le _, rfl, rfl⟩
          case round =>
            obtain ⟨k, hk, rfl, HL⟩ := hrel
            by_cases hlt : k < s.size
            · have HB : Hid (byteAt s k = (s[k].toNat : Int)) := byteAt_eq hlt
              have hlt' : (k : Int) < (s.size : Int) := by omega
              cases hx : letterB (s[k].toNat : Int)
              · have HF : Hid (nameB s = false) := by show nameB s = false; rw [HY.out]; exact lettersB_not (by rw [HB.out]; exact hx) hlt
                unfold letterB at hx
                simp only [Bool.or_eq_false_iff] at hx
                obtain ⟨⟨⟨x1, x2⟩, x3⟩, x4⟩ := hx
                have x4' : ((s[k].toNat : Int) != 95) = true := by simpa using x4
                clear x4
                go_wp2_with (first
                  | (go_at_call 191; refine (isSmall_any _ _).mono ?_; rintro e w' ⟨rfl, rfl⟩)
                  | (go_at_call 193; refine (isCapital_any _ _).mono ?_; rintro e w' ⟨rfl, rfl⟩)
                  | (go_at_call 194; refine (isDigit_any _ _).mono ?_; rintro e w' ⟨rfl, rfl⟩))
                go_ret
                exact ⟨ret_bool HF.out.symm, rfl⟩
              · have HS : Hid (lettersB s (k + 1) = true) := by show lettersB s (k + 1) = true; simp only [lettersB, HL.out, HB.out, hx, Bool.and_self]
                unfold letterB at hx
                cases x1 : smallB (s[k].toNat : Int)
                · cases x2 : capitalB (s[k].toNat : Int)
                  · cases x3 : digitB (s[k].toNat : Int)
                    · have x4 : ((s[k].toNat : Int) != 95) = false := by rw [x1, x2, x3] at hx; simpa using hx
                      clear hx
                      go_wp2_with (first
                        | (go_at_call 191; refine (isSmall_any _ _).mono ?_; rintro e w' ⟨rfl, rfl⟩)
                        | (go_at_call 193; refine (isCapital_any _ _).mono ?_; rintro e w' ⟨rfl, rfl⟩)
                        | (go_at_call 194; refine (isDigit_any _ _).mono ?_; rintro e w' ⟨rfl, rfl⟩))
                      go_round
                      case rel => exact ⟨k + 1, by omega, by go_num, HS⟩
                      case measure => simp [intOf]; omega
                    · clear hx
                      go_wp2_with (first
                        | (go_at_call 191; refine (isSmall_any _ _).mono ?_; rintro e w' ⟨rfl, rfl⟩)
                        | (go_at_call 193; refine (isCapital_any _ _).mono ?_; rintro e w' ⟨rfl, rfl⟩)
                        | (go_at_call 194; refine (isDigit_any _ _).mono ?_; rintro e w' ⟨rfl, rfl⟩))
                      go_round
                      case rel => exact ⟨k + 1, by omega, by go_num, HS⟩
                      case measure => simp [intOf]; omega
                  · clear hx
                    go_wp2_with (first
                      | (go_at_call 191; refine (isSmall_any _ _).mono ?_; rintro e w' ⟨rfl, rfl⟩)
                      | (go_at_call 193; refine (isCapital_any _ _).mono ?_; rintro e w' ⟨rfl, rfl⟩))
                    go_round
                    case rel => exact ⟨k + 1, by omega, by go_num, HS⟩
                    case measure => simp [intOf]; omega
                · clear hx
                  go_wp2_with (go_at_call 191; refine (isSmall_any _ _).mono ?_; rintro e w' ⟨rfl, rfl⟩)
                  go_round
                  case rel => exact ⟨k + 1, by omega, by go_num, HS⟩
                  case measure => simp [intOf]; omega
            · obtain rfl : k = s.size := by omega
              go_wp2
              go_ret
              exact ⟨ret_bool (by rw [HY.out, HL.out]), rfl⟩
        · have HF : Hid (nameB s = false) := by show nameB s = false; rw [HN.out, hkw]; simp
          go_enter Tryz.func82, Tryz.ntmps82
          go_wp2_with (first
            | (go_at_call 191; refine (isSmall_any _ _).mono ?_; rintro e w' ⟨rfl, rfl⟩)
            | (go_at_call 192; refine (isKeyword_any _ _).mono ?_; rintro e w' ⟨rfl, rfl⟩))
          go_ret
          exact ⟨ret_bool HF.out.symm, rfl⟩
    · have HF : Hid (nameB s = false) := by show nameB s = false; simp [nameB, h1]
      go_enter Tryz.func82, Tryz.ntmps82
      go_wp2
      go_ret
      exact ⟨ret_bool HF.out.symm, rfl⟩

end Go.Proofs.YtoagnkbmeafmoaaGreatDoor
