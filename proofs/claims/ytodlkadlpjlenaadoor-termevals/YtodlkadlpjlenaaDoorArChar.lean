import Derived.Test.YtodlkadlpjlenaaDoorArBackM
import Derived.Test.YtodlkadlpjlenaaDoorName
namespace Go.Proofs.YtodlkadlpjlenaaDoor.AR
open Go.RowKit Go.Maps
set_option linter.unusedVariables false
set_option linter.unusedSimpArgs false
attribute [local go_sem ↓] Go.wp_at_zero Go.wp_at_succ

/-! the reference's characters are the model's -/
def bt (s : ByteArray) (i : Nat) : Nat := (byteAt s i).toNat
theorem byteAt_bt (s : ByteArray) (i : Nat) : byteAt s i = (bt s i : Int) := by
  unfold bt byteAt
  split
  · simp
  · simp
theorem bt_lt (s : ByteArray) (i : Nat) : bt s i < 256 := by
  unfold bt byteAt
  split
  · have := (s[i]).toNat_lt
    simp
    omega
  · simp
theorem get_bt (s : ByteArray) {i : Nat} (h : i < s.size) : (s.get! i).toNat = bt s i := by
  unfold bt
  rw [byteAt_eq h]
  have : s.get! i = s[i] := by
    show s.data[i]! = s.data[i]
    exact getElem!_pos s.data i h
  rw [this]
  simp
def fN (c : Nat) : Int := if c < 128 then 0 else if 192 ≤ c ∧ c < 224 then 1 else if 224 ≤ c ∧ c < 240 then 2 else if 240 ≤ c ∧ c < 248 then 3 else -1
def fL (c : Nat) : Int := if c < 128 then 0 else if 192 ≤ c ∧ c < 224 then 128 else if 224 ≤ c ∧ c < 240 then 2048 else if 240 ≤ c ∧ c < 248 then 65536 else 0
def fB (c : Nat) : Int := if c < 128 then (c : Int) else if 192 ≤ c ∧ c < 224 then (c : Int) - 192 else if 224 ≤ c ∧ c < 240 then (c : Int) - 224 else if 240 ≤ c ∧ c < 248 then (c : Int) - 240 else 0
def contB (c : Nat) : Bool := decide (128 ≤ c) && decide (c < 192)
def contsTo (s : ByteArray) (i : Nat) : Nat → Bool
  | 0 => true
  | k + 1 => contsTo s i k && contB (bt s (i + (k + 1)))
def ptN (s : ByteArray) (i : Nat) : Nat → Int
  | 0 => fB (bt s i)
  | k + 1 => ptN s i k * 64 + (bt s (i + (k + 1)) : Int) - 128
def badP (p l : Int) : Bool := decide (p < l) || decide (1114111 < p) || (decide (55296 ≤ p) && decide (p ≤ 57343))
def charR (s : ByteArray) (i : Nat) : Int × Bool :=
  if fN (bt s i) < 0 ∨ (s.size : Int) ≤ (i : Int) + fN (bt s i) then (1, false)
  else if contsTo s i (fN (bt s i)).toNat = false then (1, false)
  else if badP (ptN s i (fN (bt s i)).toNat) (fL (bt s i)) = true then (1, false)
  else (1 + fN (bt s i), true)
def chOk (s : ByteArray) (i : Nat) : Bool := decide (bt s i < 128) || decide (chW s i ≠ 1)
theorem dec_ok (s : ByteArray) {i : Nat} (h : i < s.size) : charR s i = ((chW s i : Int), chOk s i) := by
  have hb := bt_lt s i
  have g0 : (s.get! i).toNat = bt s i := get_bt s h
  have e : chW s i = (Utf8.decode s i).2 := rfl
  have hc : ∀ k, (decide (i + k < s.size) && ((s.get! (i + k)).toNat / 64 == 2)) = (decide (i + k < s.size) && contB (bt s (i + k))) := fun k => by
    by_cases hk : i + k < s.size
    · rw [get_bt s hk]
      have := bt_lt s (i + k)
      have h2 : (bt s (i + k) / 64 == 2) = contB (bt s (i + k)) := by
        unfold contB
        rw [Bool.eq_iff_iff]
        simp
        omega
      rw [h2]
    · simp [hk]
  have hd : Utf8.decode s i = (if bt s i < 0x80 then (bt s i, 1) else if (bt s i / 32 == 6 && (decide (i + 1 < s.size) && contB (bt s (i + 1)))) = true then (if ((bt s i % 32) * 64 + (s.get! (i + 1)).toNat % 64) ≥ 0x80 then (((bt s i % 32) * 64 + (s.get! (i + 1)).toNat % 64), 2) else (Utf8.runeError, 1))
      else if (bt s i / 16 == 14 && (decide (i + 1 < s.size) && contB (bt s (i + 1))) && (decide (i + 2 < s.size) && contB (bt s (i + 2)))) = true then (if (decide (((bt s i % 16) * 4096 + ((s.get! (i + 1)).toNat % 64) * 64 + (s.get! (i + 2)).toNat % 64) ≥ 0x800) && Utf8.valid (((bt s i % 16) * 4096 + ((s.get! (i + 1)).toNat % 64) * 64 + (s.get! (i + 2)).toNat % 64) : Nat)) = true then (((bt s i % 16) * 4096 + ((s.get! (i + 1)).toNat % 64) * 64 + (s.get! (i + 2)).toNat % 64), 3) else (Utf8.runeError, 1))
      else if (bt s i / 8 == 30 && (decide (i + 1 < s.size) && contB (bt s (i + 1))) && (decide (i + 2 < s.size) && contB (bt s (i + 2))) && (decide (i + 3 < s.size) && contB (bt s (i + 3)))) = true then (if (decide (((bt s i % 8) * 262144 + ((s.get! (i + 1)).toNat % 64) * 4096 + ((s.get! (i + 2)).toNat % 64) * 64 + (s.get! (i + 3)).toNat % 64) ≥ 0x10000) && Utf8.valid (((bt s i % 8) * 262144 + ((s.get! (i + 1)).toNat % 64) * 4096 + ((s.get! (i + 2)).toNat % 64) * 64 + (s.get! (i + 3)).toNat % 64) : Nat)) = true then (((bt s i % 8) * 262144 + ((s.get! (i + 1)).toNat % 64) * 4096 + ((s.get! (i + 2)).toNat % 64) * 64 + (s.get! (i + 3)).toNat % 64), 4) else (Utf8.runeError, 1))
      else (Utf8.runeError, 1)) := by
    rw [← hc 1, ← hc 2, ← hc 3, ← g0]
    rfl
  unfold chOk
  rw [e, hd]
  clear e hd hc g0
  have fin : ∀ (X : Nat × Nat) (r : Int × Bool) (x k : Nat) (b : Bool), X = (x, k) → r = ((k : Int), b) → b = (decide (bt s i < 128) || decide (k ≠ 1)) → r = ((X.2 : Int), decide (bt s i < 128) || decide (X.2 ≠ 1)) := by
    intro X r x k b h1 h2 h3
    rw [h1, h2, h3]
  by_cases a0 : bt s i < 128
  · have f0 : fN (bt s i) = 0 := by unfold fN; rw [if_pos a0]
    have fb : fB (bt s i) = bt s i := by unfold fB; rw [if_pos a0]
    have fl : fL (bt s i) = 0 := by unfold fL; rw [if_pos a0]
    refine fin _ _ (bt s i) 1 true (if_pos a0) ?_ (by simp [a0])
    unfold charR
    rw [f0, fl, if_neg (by omega), if_neg (by simp [contsTo]), if_neg (by simp [badP, ptN, fb]; omega)]
    rfl
  have bad : ∀ X : Nat × Nat, X = (Utf8.runeError, 1) → charR s i = (1, false) → charR s i = ((X.2 : Int), decide (bt s i < 128) || decide (X.2 ≠ 1)) := fun X h1 h2 => fin X _ _ 1 false h1 h2 (by simp [a0])
  by_cases a1 : 192 ≤ bt s i ∧ bt s i < 224
  · have f0 : fN (bt s i) = 1 := by unfold fN; rw [if_neg a0, if_pos a1]
    have fb : fB (bt s i) = bt s i - 192 := by unfold fB; rw [if_neg a0, if_pos a1]
    have fl : fL (bt s i) = 128 := by unfold fL; rw [if_neg a0, if_pos a1]
    have d1 : (bt s i / 32 == 6) = true := by simp; omega
    have d2 : (bt s i / 16 == 14) = false := by simp; omega
    have d3 : (bt s i / 8 == 30) = false := by simp; omega
    rw [d1, d2, d3]
    have cR : charR s i = if (s.size : Int) ≤ (i : Int) + 1 then (1, false) else if (contB (bt s (i + 1))) = false then (1, false) else if badP (ptN s i 1) 128 = true then (1, false) else (1 + 1, true) := by
      have ec : contsTo s i (1 : Int).toNat = (contB (bt s (i + 1))) := by
        show contsTo s i 1 = _
        simp [contsTo]
      have e1 : ((1 : Int) < 0 ∨ (s.size : Int) ≤ (i : Int) + 1) = ((s.size : Int) ≤ (i : Int) + 1) := by simp
      unfold charR
      rw [f0, fl, ec]
      simp only [e1]
      rfl
    by_cases hz : i + 1 < s.size
    · have zz : ∀ k, k ≤ 1 → i + k < s.size := fun k hk => by omega
      have t1 : decide (i + 1 < s.size) = true := decide_eq_true (zz 1 (by omega))
      rw [get_bt s (zz 1 (by omega)), t1]
      rw [if_neg (by omega)] at cR
      by_cases c1 : (contB (bt s (i + 1))) = true
      · rw [if_neg (by rw [c1]; simp)] at cR
        have q1 : 128 ≤ bt s (i + 1) ∧ bt s (i + 1) < 192 := by
          have c1' := c1
          simp [contB] at c1'
          omega
        have hp : ptN s i 1 = ((((bt s i % 32) * 64 + bt s (i + 1) % 64) : Nat) : Int) := by
          simp only [ptN, fb, Nat.zero_add, Nat.reduceAdd]
          omega
        rw [hp] at cR
        have hcc : (true && (true && contB (bt s (i + 1)))) = true := by simpa [and_assoc] using c1
        rw [if_neg a0]
        rw [if_pos hcc]
        have hcl : ((bt s i % 32) * 64 + bt s (i + 1) % 64) < 2048 := by omega
        generalize ((bt s i % 32) * 64 + bt s (i + 1) % 64) = c at cR hcl ⊢
        by_cases hm : c ≥ 128
        · rw [if_neg (by simp [badP]; omega)] at cR
          exact fin _ _ c 2 true (if_pos hm) cR (by simp)
        · rw [if_pos (by simp [badP]; omega)] at cR
          exact bad _ (if_neg hm) cR
      · rw [if_pos (by simpa using c1)] at cR
        refine bad _ ?_ cR
        have hcc : ¬ ((true && (true && contB (bt s (i + 1)))) = true) := by simpa [and_assoc] using c1
        rw [if_neg a0]
        rw [if_neg hcc]
        rw [if_neg (by simp)]
        rw [if_neg (by simp)]
    · rw [if_pos (by omega)] at cR
      refine bad _ ?_ cR
      have t1 : decide (i + 1 < s.size) = false := decide_eq_false hz
      rw [if_neg a0]
      rw [if_neg (by simp [hz])]
      rw [if_neg (by simp)]
      rw [if_neg (by simp)]
  by_cases a2 : 224 ≤ bt s i ∧ bt s i < 240
  · have f0 : fN (bt s i) = 2 := by unfold fN; rw [if_neg a0, if_neg a1, if_pos a2]
    have fb : fB (bt s i) = bt s i - 224 := by unfold fB; rw [if_neg a0, if_neg a1, if_pos a2]
    have fl : fL (bt s i) = 2048 := by unfold fL; rw [if_neg a0, if_neg a1, if_pos a2]
    have d1 : (bt s i / 32 == 6) = false := by simp; omega
    have d2 : (bt s i / 16 == 14) = true := by simp; omega
    have d3 : (bt s i / 8 == 30) = false := by simp; omega
    rw [d1, d2, d3]
    have cR : charR s i = if (s.size : Int) ≤ (i : Int) + 2 then (1, false) else if (contB (bt s (i + 1)) && contB (bt s (i + 2))) = false then (1, false) else if badP (ptN s i 2) 2048 = true then (1, false) else (1 + 2, true) := by
      have ec : contsTo s i (2 : Int).toNat = (contB (bt s (i + 1)) && contB (bt s (i + 2))) := by
        show contsTo s i 2 = _
        simp [contsTo]
      have e1 : ((2 : Int) < 0 ∨ (s.size : Int) ≤ (i : Int) + 2) = ((s.size : Int) ≤ (i : Int) + 2) := by simp
      unfold charR
      rw [f0, fl, ec]
      simp only [e1]
      rfl
    by_cases hz : i + 2 < s.size
    · have zz : ∀ k, k ≤ 2 → i + k < s.size := fun k hk => by omega
      have t1 : decide (i + 1 < s.size) = true := decide_eq_true (zz 1 (by omega))
      rw [get_bt s (zz 1 (by omega)), t1]
      have t2 : decide (i + 2 < s.size) = true := decide_eq_true (zz 2 (by omega))
      rw [get_bt s (zz 2 (by omega)), t2]
      rw [if_neg (by omega)] at cR
      by_cases c1 : (contB (bt s (i + 1)) && contB (bt s (i + 2))) = true
      · rw [if_neg (by rw [c1]; simp)] at cR
        have q1 : 128 ≤ bt s (i + 1) ∧ bt s (i + 1) < 192 := by
          have c1' := c1
          simp [contB] at c1'
          omega
        have q2 : 128 ≤ bt s (i + 2) ∧ bt s (i + 2) < 192 := by
          have c1' := c1
          simp [contB] at c1'
          omega
        have hp : ptN s i 2 = ((((bt s i % 16) * 4096 + (bt s (i + 1) % 64) * 64 + bt s (i + 2) % 64) : Nat) : Int) := by
          simp only [ptN, fb, Nat.zero_add, Nat.reduceAdd]
          omega
        rw [hp] at cR
        have hcc : (true && (true && contB (bt s (i + 1))) && (true && contB (bt s (i + 2)))) = true := by simpa [and_assoc] using c1
        rw [if_neg a0]
        rw [if_neg (by simp)]
        rw [if_pos hcc]
        generalize ((bt s i % 16) * 4096 + (bt s (i + 1) % 64) * 64 + bt s (i + 2) % 64) = c at cR ⊢
        by_cases hm : badP (c : Int) 2048 = true
        · rw [if_pos hm] at cR
          refine bad _ (if_neg ?_) cR
          simp [badP] at hm
          simp [Utf8.valid]
          omega
        · rw [if_neg hm] at cR
          refine fin _ _ c 3 true (if_pos ?_) cR (by simp)
          simp [badP] at hm
          simp [Utf8.valid]
          omega
      · rw [if_pos (by simpa using c1)] at cR
        refine bad _ ?_ cR
        have hcc : ¬ ((true && (true && contB (bt s (i + 1))) && (true && contB (bt s (i + 2)))) = true) := by simpa [and_assoc] using c1
        rw [if_neg a0]
        rw [if_neg (by simp)]
        rw [if_neg hcc]
        rw [if_neg (by simp)]
    · rw [if_pos (by omega)] at cR
      refine bad _ ?_ cR
      have t2 : decide (i + 2 < s.size) = false := decide_eq_false hz
      rw [if_neg a0]
      rw [if_neg (by simp)]
      rw [if_neg (by simp [hz])]
      rw [if_neg (by simp)]
  by_cases a3 : 240 ≤ bt s i ∧ bt s i < 248
  · have f0 : fN (bt s i) = 3 := by unfold fN; rw [if_neg a0, if_neg a1, if_neg a2, if_pos a3]
    have fb : fB (bt s i) = bt s i - 240 := by unfold fB; rw [if_neg a0, if_neg a1, if_neg a2, if_pos a3]
    have fl : fL (bt s i) = 65536 := by unfold fL; rw [if_neg a0, if_neg a1, if_neg a2, if_pos a3]
    have d1 : (bt s i / 32 == 6) = false := by simp; omega
    have d2 : (bt s i / 16 == 14) = false := by simp; omega
    have d3 : (bt s i / 8 == 30) = true := by simp; omega
    rw [d1, d2, d3]
    have cR : charR s i = if (s.size : Int) ≤ (i : Int) + 3 then (1, false) else if (contB (bt s (i + 1)) && contB (bt s (i + 2)) && contB (bt s (i + 3))) = false then (1, false) else if badP (ptN s i 3) 65536 = true then (1, false) else (1 + 3, true) := by
      have ec : contsTo s i (3 : Int).toNat = (contB (bt s (i + 1)) && contB (bt s (i + 2)) && contB (bt s (i + 3))) := by
        show contsTo s i 3 = _
        simp [contsTo]
      have e1 : ((3 : Int) < 0 ∨ (s.size : Int) ≤ (i : Int) + 3) = ((s.size : Int) ≤ (i : Int) + 3) := by simp
      unfold charR
      rw [f0, fl, ec]
      simp only [e1]
      rfl
    by_cases hz : i + 3 < s.size
    · have zz : ∀ k, k ≤ 3 → i + k < s.size := fun k hk => by omega
      have t1 : decide (i + 1 < s.size) = true := decide_eq_true (zz 1 (by omega))
      rw [get_bt s (zz 1 (by omega)), t1]
      have t2 : decide (i + 2 < s.size) = true := decide_eq_true (zz 2 (by omega))
      rw [get_bt s (zz 2 (by omega)), t2]
      have t3 : decide (i + 3 < s.size) = true := decide_eq_true (zz 3 (by omega))
      rw [get_bt s (zz 3 (by omega)), t3]
      rw [if_neg (by omega)] at cR
      by_cases c1 : (contB (bt s (i + 1)) && contB (bt s (i + 2)) && contB (bt s (i + 3))) = true
      · rw [if_neg (by rw [c1]; simp)] at cR
        have q1 : 128 ≤ bt s (i + 1) ∧ bt s (i + 1) < 192 := by
          have c1' := c1
          simp [contB] at c1'
          omega
        have q2 : 128 ≤ bt s (i + 2) ∧ bt s (i + 2) < 192 := by
          have c1' := c1
          simp [contB] at c1'
          omega
        have q3 : 128 ≤ bt s (i + 3) ∧ bt s (i + 3) < 192 := by
          have c1' := c1
          simp [contB] at c1'
          omega
        have hp : ptN s i 3 = ((((bt s i % 8) * 262144 + (bt s (i + 1) % 64) * 4096 + (bt s (i + 2) % 64) * 64 + bt s (i + 3) % 64) : Nat) : Int) := by
          simp only [ptN, fb, Nat.zero_add, Nat.reduceAdd]
          omega
        rw [hp] at cR
        have hcc : (true && (true && contB (bt s (i + 1))) && (true && contB (bt s (i + 2))) && (true && contB (bt s (i + 3)))) = true := by simpa [and_assoc] using c1
        rw [if_neg a0]
        rw [if_neg (by simp)]
        rw [if_neg (by simp)]
        rw [if_pos hcc]
        generalize ((bt s i % 8) * 262144 + (bt s (i + 1) % 64) * 4096 + (bt s (i + 2) % 64) * 64 + bt s (i + 3) % 64) = c at cR ⊢
        by_cases hm : badP (c : Int) 65536 = true
        · rw [if_pos hm] at cR
          refine bad _ (if_neg ?_) cR
          simp [badP] at hm
          simp [Utf8.valid]
          omega
        · rw [if_neg hm] at cR
          refine fin _ _ c 4 true (if_pos ?_) cR (by simp)
          simp [badP] at hm
          simp [Utf8.valid]
          omega
      · rw [if_pos (by simpa using c1)] at cR
        refine bad _ ?_ cR
        have hcc : ¬ ((true && (true && contB (bt s (i + 1))) && (true && contB (bt s (i + 2))) && (true && contB (bt s (i + 3)))) = true) := by simpa [and_assoc] using c1
        rw [if_neg a0]
        rw [if_neg (by simp)]
        rw [if_neg (by simp)]
        rw [if_neg hcc]
    · rw [if_pos (by omega)] at cR
      refine bad _ ?_ cR
      have t3 : decide (i + 3 < s.size) = false := decide_eq_false hz
      rw [if_neg a0]
      rw [if_neg (by simp)]
      rw [if_neg (by simp)]
      rw [if_neg (by simp [hz])]
  have f0 : fN (bt s i) = -1 := by unfold fN; rw [if_neg a0, if_neg a1, if_neg a2, if_neg a3]
  have n6 : ¬ bt s i / 32 = 6 := by omega
  have n14 : ¬ bt s i / 16 = 14 := by omega
  have n30 : ¬ bt s i / 8 = 30 := by omega
  refine bad _ ?_ ?_
  · rw [if_neg a0, if_neg (by simp [n6]), if_neg (by simp [n14]), if_neg (by simp [n30])]
  · unfold charR
    rw [f0, if_pos (by omega)]
end Go.Proofs.YtodlkadlpjlenaaDoor.AR
