import Derived.Test.YtikjphfeeljhbaaGreatDoorTermAtom
import Derived.Test.YtikjphfeeljhbaaGreatDoorShelf
import Derived.Lib.ItoaNum
import Derived.Lib.AppendIntMem
import Derived.Lib.LaidTab
namespace Go.Proofs.YtikjphfeeljhbaaGreatDoor
open Go.RowKit Go.Maps
set_option linter.unusedVariables false
set_option linter.unusedSimpArgs false
attribute [local go_sem ↓] Go.wp_at_zero Go.wp_at_succ

theorem nDig_le : ∀ (k u : Nat), u < 10 ^ (k + 1) → Lib.nDigits u ≤ k + 1
  | 0, u, h => by rw [Lib.nDigits_small (by simpa using h)]; omega
  | k + 1, u, h => by
    by_cases h1 : u < 10
    · rw [Lib.nDigits_small h1]; omega
    · rw [Lib.nDigits_big h1]
      have := nDig_le k (u / 10) (by rw [Nat.pow_succ] at h; omega)
      omega
def digB (m : Nat) : UInt8 := UInt8.ofNat (48 + m % 10)
theorem dec_step {m : Nat} (h : ¬ m < 10) (t : List UInt8) : Lib.decDigits m ++ t = Lib.decDigits (m / 10) ++ (digB m :: t) := by
  rw [Lib.decDigits, dif_neg h]
  simp [digB]
theorem dec_last {m : Nat} (h : m < 10) (t : List UInt8) : Lib.decDigits m ++ t = digB m :: t := by
  rw [Lib.decDigits, dif_pos h]
  simp [digB, Nat.mod_eq_of_lt h]
theorem digB_nat (m : Nat) : ((digB m).toNat : Int) = 48 + (m : Int) % 10 := by
  unfold digB
  have : (UInt8.ofNat (48 + m % 10)).toNat = 48 + m % 10 := by
    rw [UInt8.toNat_ofNat']
    omega
  rw [this]
  omega
theorem one_string (w : World) (b : UInt8) {x : Int} (hx : x = (b.toNat : Int)) : (convert 83 9 (.slice (some ⟨w.heap.size, 0, none⟩) 1 1)).run Tryz.prog (w.alloc (.cells #[.int .u8 x] 5)) = .ok (.string ⟨#[b]⟩) (w.alloc (.cells #[.int .u8 x] 5)) := by
  subst hx
  exact bytes_string (base := 0) (out := [b]) (World.ownsRow_lit w #[.int .u8 (b.toNat : Int)] 1 (Nat.zero_le _) (by decide) rfl)
theorem cons_bytes (b : UInt8) (t : List UInt8) : (⟨#[b]⟩ : ByteArray) ++ ⟨t.toArray⟩ = ⟨(b :: t).toArray⟩ := by
  have e : ((⟨#[b]⟩ : ByteArray) ++ ⟨t.toArray⟩).data = (b :: t).toArray := by
    rw [ByteArray.data_append]
    simp
  cases h : ((⟨#[b]⟩ : ByteArray) ++ ⟨t.toArray⟩) with
  | mk d => rw [h] at e; simp only at e; rw [e]
end Go.Proofs.YtikjphfeeljhbaaGreatDoor
