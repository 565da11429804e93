import Derived.Test.YtmadbakpdmkebaaDoorMath
import Derived.Test.YtmadbakpdmkebaaDoorProg
import Derived.WalkKit
import Derived.WalkSpells
import Derived.WalkLawsBesides
import Derived.Below
import Derived.Deep.Light
namespace Go.Proofs.YtmadbakpdmkebaaDoor
open Go.RowKit
set_option linter.unusedVariables false

/-- how many parts so many lists have -/
def sumL (L : Nat → Nat) : Nat → Nat
  | 0 => 0
  | k + 1 => sumL L k + 1 + L k
theorem sumL_mono (L : Nat → Nat) : ∀ {a b : Nat}, a ≤ b → sumL L a ≤ sumL L b
  | a, 0, h => by rw [show a = 0 by omega]; exact Nat.le_refl _
  | a, b + 1, h => by
    by_cases e : a = b + 1
    · rw [e]; exact Nat.le_refl _
    · have := sumL_mono L (a := a) (b := b) (by omega)
      simp only [sumL]
      omega

set_option maxHeartbeats 800000 in
theorem beyondFacts_any (g off q c : Nat) (A : Nat → Option Addr) (L C : Nat → Nat) (w : World) (hq : q ≤ 281474976710656) (hL : ∀ i, i < q → L i ≤ 281474976710656)
    (hc : ∀ i, i < q → w.cell? ⟨g, off + i * 2 + 1, none⟩ = some (.slice (A i) (L i) (C i))) :
    Calls Tryd.prog 4 #[.slice (some ⟨g, off, none⟩) q c] w fun e w' => e = .returned (.bool (decide (1048576 < sumL L q))) ∧ w' = w := by
  go_enter Tryd.func4, Tryd.ntmps4
  go_wp2
  go_loop [3, 4] (fun n i => ∃ k : Nat, k ≤ q ∧ i = .int .i64 k ∧ n = .int .i64 (sumL L k) ∧ sumL L k ≤ 1048576) (fun _ i => q - (intOf i).toNat)
  case atStart => exact ⟨0, Nat.zero_le _, rfl, rfl, by simp [sumL]⟩
  case round =>
    obtain ⟨k, hk, rfl, rfl, hs⟩ := hrel
    by_cases hlt : k < q
    · have hck := hc k hlt
      have hlk := hL k hlt
      have hlt' : (k : Int) < (q : Int) := by omega
      have HS : Hid (sumL L (k + 1) = sumL L k + 1 + L k) := rfl
      have HM : Hid (sumL L (k + 1) ≤ sumL L q) := sumL_mono L (by omega)
      clear hc hL
      generalize sumL L k = s at hs HS
      generalize L k = l at hck hlk HS
      by_cases hb : s + 1 + l ≤ 1048576
      · go_wp2
        go_round
        case rel => exact ⟨k + 1, by omega, by go_num, by rw [HS.out]; go_num, by rw [HS.out]; omega⟩
        case measure => simp [intOf]; omega
      · have HF : Hid (decide (1048576 < sumL L q) = true) := by
          have h1 := HM.out
          rw [HS.out] at h1
          exact decide_eq_true (by omega)
        go_wp2
        go_ret
        exact ⟨ret_bool HF.out.symm, rfl⟩
    · obtain rfl : k = q := by omega
      have HF : Hid (decide (1048576 < sumL L k) = false) := decide_eq_false (by omega)
      clear hc hL
      go_wp2
      go_ret
      exact ⟨ret_bool HF.out.symm, rfl⟩

end Go.Proofs.YtmadbakpdmkebaaDoor
