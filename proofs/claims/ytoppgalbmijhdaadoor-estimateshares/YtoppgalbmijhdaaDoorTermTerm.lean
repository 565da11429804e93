import Derived.Test.YtoppgalbmijhdaaDoorTermL
namespace Go.Proofs.YtoppgalbmijhdaaDoor
open Go.RowKit
set_option linter.unusedVariables false
set_option linter.unusedSimpArgs false
attribute [local go_sem ↓] Go.wp_at_zero Go.wp_at_succ

theorem run_eqV (k1 n1 : Int) (s1 : ByteArray) (k2 n2 : Int) (s2 : ByteArray) (w : World) :
    (binOp .eql 38 (.agg #[.int .i8 k1, .int .i64 n1, .string s1]) (.agg #[.int .i8 k2, .int .i64 n2, .string s2])).run Tryd.prog w = .ok (.bool (decide ((⟨k1, n1, s1⟩ : V) = ⟨k2, n2, s2⟩))) w := by
  by_cases hk : k1 = k2
  · by_cases hn : n1 = n2
    · by_cases hs : s1.toList = s2.toList
      · have := toList_inj hs
        subst hk hn this
        go_simp
      · have e : decide ((⟨k1, n1, s1⟩ : V) = ⟨k2, n2, s2⟩) = false := decide_eq_false (fun h => hs (by cases h; rfl))
        rw [e]
        go_simp
    · have e : decide ((⟨k1, n1, s1⟩ : V) = ⟨k2, n2, s2⟩) = false := decide_eq_false (fun h => hn (by cases h; rfl))
      rw [e]
      go_simp
  · have e : decide ((⟨k1, n1, s1⟩ : V) = ⟨k2, n2, s2⟩) = false := decide_eq_false (fun h => hk (by cases h; rfl))
    rw [e]
    go_simp

theorem some_iff (s : ByteArray) (h : s ≠ noS) : s.toList.isEmpty = false := by
  cases e : s.toList with
  | nil => exact absurd ((noS_iff s).1 e) h
  | cons _ _ => rfl
theorem blank_iff {s : ByteArray} (h : s ≠ blankS) : (s.toList == [95]) = false := by
  rw [beq_eq_false_iff_ne]
  intro e
  exact h (toList_inj (by rw [e, ByteArray.toList_eq]; rfl))

def errB (b : Bool) : Int := if b then 0 else 40
end Go.Proofs.YtoppgalbmijhdaaDoor
