import Derived.Test.YtekjoccbbamehaaIxSeen
namespace Go.Proofs.Ytekjoccbbamehaa
open Go.RowKit Go.Maps Go.ChangeMaps
set_option linter.unusedVariables false
set_option linter.unusedSimpArgs false
attribute [local go_sem ↓] Go.wp_at_zero Go.wp_at_succ
attribute [-go_sem] loadVar

/-! masks as numbers; the reference's Is, low, Fit, Like -/
theorem bits_and32 (a b : Nat) (ha : a < 4294967296) (hb : b < 4294967296) : bits .and .u32 (a : Int) (b : Int) = ((a &&& b : Nat) : Int) := by
  have hx : a &&& b < 2 ^ 32 := Nat.and_lt_two_pow _ (by omega)
  have h1 : (BitVec.ofInt 32 (a : Int)).toNat = a := by
    rw [BitVec.ofInt_natCast, BitVec.toNat_ofNat]; exact Nat.mod_eq_of_lt (by omega)
  have h2 : (BitVec.ofInt 32 (b : Int)).toNat = b := by
    rw [BitVec.ofInt_natCast, BitVec.toNat_ofNat]; exact Nat.mod_eq_of_lt (by omega)
  show IntKind.u32.wrap ((BitVec.ofInt 32 (a : Int) &&& BitVec.ofInt 32 (b : Int)).toNat : Int) = _
  rw [BitVec.toNat_and, h1, h2]
  simp only [IntKind.wrap, IntKind.signed, IntKind.bits, Bool.false_and, Bool.false_eq_true, if_false]
  omega
theorem bits_or32 (a b : Nat) (ha : a < 4294967296) (hb : b < 4294967296) : bits .or .u32 (a : Int) (b : Int) = ((a ||| b : Nat) : Int) := by
  have hx : a ||| b < 2 ^ 32 := Nat.or_lt_two_pow (by omega) (by omega)
  have h1 : (BitVec.ofInt 32 (a : Int)).toNat = a := by
    rw [BitVec.ofInt_natCast, BitVec.toNat_ofNat]; exact Nat.mod_eq_of_lt (by omega)
  have h2 : (BitVec.ofInt 32 (b : Int)).toNat = b := by
    rw [BitVec.ofInt_natCast, BitVec.toNat_ofNat]; exact Nat.mod_eq_of_lt (by omega)
  show IntKind.u32.wrap ((BitVec.ofInt 32 (a : Int) ||| BitVec.ofInt 32 (b : Int)).toNat : Int) = _
  rw [BitVec.toNat_or, h1, h2]
  simp only [IntKind.wrap, IntKind.signed, IntKind.bits, Bool.false_and, Bool.false_eq_true, if_false]
  omega
theorem and_pow (M k : Nat) : M &&& 2 ^ k = if M.testBit k = true then 2 ^ k else 0 := by
  apply Nat.eq_of_testBit_eq
  intro i
  rw [Nat.testBit_and, Nat.testBit_two_pow]
  by_cases h : k = i
  · subst h
    cases hb : M.testBit k
    · simp
    · simp
  · have hd : decide (k = i) = false := decide_eq_false h
    rw [hd, Bool.and_false]
    split
    · rw [Nat.testBit_two_pow, hd]
    · simp
theorem offB_bit (M k : Nat) (hM : M < 4294967296) (hk : k < 24) : offB (M : Int) k = !M.testBit k := by
  have h2 : (2 : Nat) ^ k < 4294967296 := Nat.lt_of_lt_of_le (Nat.pow_lt_pow_right (by omega) hk) (by decide)
  have e0 : (2 : Int) ^ k = ((2 ^ k : Nat) : Int) := by rw [Int.natCast_pow]; rfl
  have e : ((2 : Int) ^ k % 4294967296) = ((2 ^ k : Nat) : Int) := by
    rw [e0]
    exact Int.emod_eq_of_lt (Int.natCast_nonneg _) (Int.ofNat_lt.2 h2)
  unfold offB
  rw [e, bits_and32 M (2 ^ k) hM h2, and_pow]
  cases M.testBit k
  · rfl
  · have hp : (2 : Nat) ^ k ≠ 0 := by have := Nat.two_pow_pos k; omega
    rw [if_pos rfl]
    rw [Bool.not_true, beq_eq_false_iff_ne]
    omega
theorem shr_bit (M k : Nat) (hM : M < 4294967296) : (bits .and .u32 ((M : Int) / 2 ^ k) 1 == 0) = !M.testBit k := by
  have e : (M : Int) / 2 ^ k = ((M / 2 ^ k : Nat) : Int) := by
    rw [Int.natCast_ediv, Int.natCast_pow]; rfl
  have h2 : M / 2 ^ k < 4294967296 := Nat.lt_of_le_of_lt (Nat.div_le_self _ _) hM
  have := bits_and32 (M / 2 ^ k) 1 h2 (by omega)
  rw [e, show (1 : Int) = ((1 : Nat) : Int) from rfl, this, Nat.testBit_eq_decide_div_mod_eq, Nat.and_one_is_mod]
  have hm : M / 2 ^ k % 2 = 0 ∨ M / 2 ^ k % 2 = 1 := by omega
  rcases hm with h | h <;> rw [h] <;> decide
theorem bit_one (M k : Nat) (hM : M < 4294967296) : (bits .and .u32 ((M : Int) / 2 ^ k) 1 == 1) = M.testBit k := by
  have h := shr_bit M k hM
  have e : (M : Int) / 2 ^ k = ((M / 2 ^ k : Nat) : Int) := by
    rw [Int.natCast_ediv, Int.natCast_pow]; rfl
  have h2 : M / 2 ^ k < 4294967296 := Nat.lt_of_le_of_lt (Nat.div_le_self _ _) hM
  have h3 := bits_and32 (M / 2 ^ k) 1 h2 (by omega)
  rw [e] at h ⊢
  rw [show (1 : Int) = ((1 : Nat) : Int) from rfl, h3] at h ⊢
  rw [Nat.and_one_is_mod] at h ⊢
  have h4 : M / 2 ^ k % 2 = 0 ∨ M / 2 ^ k % 2 = 1 := by omega
  rcases h4 with h4 | h4
  · rw [h4] at h ⊢
    simpa using h.symm
  · rw [h4] at h ⊢
    simpa using h.symm
theorem low_bit (M k : Nat) : M % 2 ^ (k + 1) = if M.testBit k = true then M % 2 ^ k ||| 2 ^ k else M % 2 ^ k := by
  apply Nat.eq_of_testBit_eq
  intro i
  have h1 : (M % 2 ^ (k + 1)).testBit i = (decide (i < k + 1) && M.testBit i) := Nat.testBit_mod_two_pow ..
  have h2 : (M % 2 ^ k).testBit i = (decide (i < k) && M.testBit i) := Nat.testBit_mod_two_pow ..
  by_cases e : k = i
  · subst e
    rw [h1]
    cases hb : M.testBit k
    · simp [h2]
    · simp [h2, Nat.testBit_or, Nat.testBit_two_pow]
  · have e1 : decide (i < k + 1) = decide (i < k) := by
      rw [decide_eq_decide]
      omega
    have e2 : decide (k = i) = false := decide_eq_false e
    rw [h1, e1]
    cases hb : M.testBit k
    · rw [if_neg (by decide), h2]
    · rw [if_pos rfl, Nat.testBit_or, h2, Nat.testBit_two_pow, e2, Bool.or_false]
theorem pow_mask (n : Nat) (hn : n ≤ 24) : ((2 : Int) ^ n % 4294967296) = ((2 ^ n : Nat) : Int) := by
  have h2 : (2 : Nat) ^ n ≤ 2 ^ 24 := Nat.pow_le_pow_right (by omega) hn
  have h3 : (2 : Nat) ^ n < 4294967296 := Nat.lt_of_le_of_lt h2 (by decide)
  have e0 : (2 : Int) ^ n = ((2 ^ n : Nat) : Int) := by rw [Int.natCast_pow]; rfl
  rw [e0]
  exact Int.emod_eq_of_lt (Int.natCast_nonneg _) (Int.ofNat_lt.2 h3)
theorem low_lt (M n : Nat) (hn : n ≤ 24) : M % 2 ^ n < 4294967296 := by
  have h : M % 2 ^ n < 2 ^ n := Nat.mod_lt _ (Nat.two_pow_pos n)
  have h2 : (2 : Nat) ^ n ≤ 2 ^ 24 := Nat.pow_le_pow_right (by omega) hn
  omega
theorem colB_low (M n : Nat) (h : M < 2 ^ n) : colB (M : Int) n = true := by
  have e : (M : Int) / 2 ^ n = ((M / 2 ^ n : Nat) : Int) := by
    rw [Int.natCast_ediv, Int.natCast_pow]; rfl
  unfold colB
  rw [e, Nat.div_eq_of_lt h]
  rfl
theorem wf_mask (M : Nat) (h : M < 4294967296) : (Lit.int .u32 (M : Int)).wf = true := by
  simp [Lit.wf, IntKind.min, IntKind.max, IntKind.signed, IntKind.bits]
  omega
set_option maxHeartbeats 800000 in
theorem is_any (M : Nat) (hM : M < 4294967296) (k : Nat) (hk : k ≤ 24) (w : World) : Calls Try.prog 23 #[.int .u32 (M : Int), .int .i64 (k : Int)] w fun e w' => e = .returned (.bool (M.testBit k)) ∧ w' = w := by
  have hs := fun u => run_shrX (M : Int) k hk u
  have hb := bit_one M k hM
  go_enter Try.func23, Try.ntmps23
  go_wp2
  go_ret
  exact ⟨rfl, rfl⟩
set_option maxHeartbeats 1600000 in
set_option maxRecDepth 100000 in
theorem low_any (M : Nat) (hM : M < 4294967296) (n : Nat) (hn : n ≤ 24) (w : World) : Calls Try.prog 7 #[.int .u32 (M : Int), .int .i64 (n : Int)] w fun e w' => e = .returned (.int .u32 ((M % 2 ^ n : Nat) : Int)) ∧ w' = w := by
  go_enter Try.func7, Try.ntmps7
  go_wp2
  go_loopw [5, 6] (fun o i wr => ∃ k : Nat, k ≤ n ∧ i = .int .i64 k ∧ o = .int .u32 ((M % 2 ^ k : Nat) : Int) ∧ wr = w) (fun _ i _ => n - (intOf i).toNat)
  case atStart => exact ⟨0, by omega, rfl, by simp [Nat.mod_one], rfl⟩
  case round =>
    obtain ⟨k, hk, rfl, rfl, rfl⟩ := hrel
    by_cases hlt : k < n
    · have hlt' : (k : Int) < (n : Int) := by omega
      have HIS := Lib.hid (is_any M hM k (by omega) wr)
      have HLB := Lib.hid (low_bit M k)
      have hl1 := low_lt M k (by omega)
      have h2 : (2 : Nat) ^ k ≤ 2 ^ 24 := Nat.pow_le_pow_right (by omega) (by omega)
      have h3 : (2 : Nat) ^ k < 4294967296 := Nat.lt_of_le_of_lt h2 (by decide)
      have hor := bits_or32 (M % 2 ^ k) (2 ^ k) hl1 h3
      rw [← pow_mask k (by omega)] at hor
      clear hl1 h2 h3
      generalize M % 2 ^ k = a at HLB hor ⊢
      go_wp2_with fail
      refine HIS.out.mono ?_
      rintro e w2 ⟨rfl, rfl⟩
      clear HIS
      cases hb : M.testBit k
      · rw [hb] at HLB
        clear hb
        go_wp2
        go_roundw
        case rel => exact ⟨k + 1, by omega, by go_num, by rw [HLB.out]; rfl, trivial⟩
        case measure => simp [intOf]; omega
      · rw [hb] at HLB
        clear hb
        go_wp2
        go_roundw
        case rel => exact ⟨k + 1, by omega, by go_num, by rw [HLB.out]; rfl, trivial⟩
        case measure => simp [intOf]; omega
    · obtain rfl : k = n := by omega
      go_wp2
      go_ret
      exact ⟨rfl, rfl⟩
end Go.Proofs.Ytekjoccbbamehaa
