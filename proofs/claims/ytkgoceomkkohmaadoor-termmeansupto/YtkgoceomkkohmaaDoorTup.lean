import Derived.Test.YtkgoceomkkohmaaDoorTwin
namespace Go.Proofs.YtkgoceomkkohmaaDoor.AR
open Go.RowKit
set_option linter.unusedVariables false
attribute [local go_sem ↓] Go.wp_at_zero Go.wp_at_succ

/-- the order of two lists, r rounds ahead of the shorter one's end -/
def tupC (c : Nat → Int) (n m : Nat) : Nat → Int
  | 0 => if n < m then -1 else if m < n then 1 else 0
  | r + 1 => if c (min n m - (r + 1)) = 0 then tupC c n m r else c (min n m - (r + 1))

theorem tupC_step (c : Nat → Int) (n m k : Nat) (h : k < min n m) : tupC c n m (min n m - k) = if c k = 0 then tupC c n m (min n m - (k + 1)) else c k := by
  obtain ⟨r, hr⟩ : ∃ r, min n m - k = r + 1 := ⟨min n m - k - 1, by omega⟩
  rw [hr, show min n m - (k + 1) = r by omega]
  simp only [tupC]
  rw [show min n m - (r + 1) = k by omega]

theorem Lst.form {w : World} {v : Value} {n : Nat} {K N : Nat → Int} {S : Nat → ByteArray} (l : Lst w v n K N S) : ∃ a cap, v = .slice a n cap ∧ n ≤ maxLen ∧ (0 < n → ∃ g off, a = some ⟨g, off, none⟩ ∧ Cells w g off n K N S) := by
  obtain ⟨hn, ⟨a, d, rfl, rfl⟩ | ⟨g, off, cap, rfl, _, _, c⟩⟩ := l
  · exact ⟨a, d, rfl, hn, fun h => by omega⟩
  · exact ⟨_, cap, rfl, hn, fun _ => ⟨g, off, rfl, c⟩⟩

end Go.Proofs.YtkgoceomkkohmaaDoor.AR
