import Derived.Test.YtkgoceomkkohmaaDoorVal
import Derived.Test.YtkgoceomkkohmaaDoorOrder
import Derived.Deep.OwnRows
import Derived.Deep.QuietTactic
import Derived.BigQuiet
import Derived.Lib.Hide
namespace Go.Proofs.YtkgoceomkkohmaaDoor.AR
open Go.RowKit
set_option linter.unusedVariables false
attribute [local go_sem ↓] Go.wp_at_zero Go.wp_at_succ

/-- n values in memory, from a place on: element i has the kind K i, the number N i, the text S i -/
structure Cells (w : World) (g off n : Nat) (K N : Nat → Int) (S : Nat → ByteArray) : Prop where
  lt : 0 < n → g < w.heap.size
  kind : ∀ i, i < n → w.cell? ⟨g, off + i * 3, none⟩ = some (.int .i8 (K i))
  num : ∀ i, i < n → w.cell? ⟨g, off + i * 3 + 1, none⟩ = some (.int .i64 (N i))
  text : ∀ i, i < n → w.cell? ⟨g, off + i * 3 + 2, none⟩ = some (.string (S i))
  size : ∀ i, i < n → (S i).size ≤ maxLen

theorem Cells.below {w w' : World} {g off n : Nat} {K N : Nat → Int} {S : Nat → ByteArray} (v : Cells w g off n K N S) (h : Below w.heap.size w w') : Cells w' g off n K N S :=
  ⟨fun hn => Nat.lt_of_lt_of_le (v.lt hn) h.size, fun i hi => by rw [h.cell (p := ⟨g, _, none⟩) (v.lt (by omega))]; exact v.kind i hi, fun i hi => by rw [h.cell (p := ⟨g, _, none⟩) (v.lt (by omega))]; exact v.num i hi, fun i hi => by rw [h.cell (p := ⟨g, _, none⟩) (v.lt (by omega))]; exact v.text i hi, v.size⟩

theorem Cells.take {w : World} {g off n m : Nat} {K N : Nat → Int} {S : Nat → ByteArray} (v : Cells w g off n K N S) (h : m ≤ n) : Cells w g off m K N S :=
  ⟨fun hm => v.lt (by omega), fun i hi => v.kind i (by omega), fun i hi => v.num i (by omega), fun i hi => v.text i (by omega), fun i hi => v.size i (by omega)⟩

/-- a list of n values: nil, or a slice over their cells -/
def Lst (w : World) (v : Value) (n : Nat) (K N : Nat → Int) (S : Nat → ByteArray) : Prop :=
  n ≤ maxLen ∧ ((∃ a cap, v = .slice a 0 cap ∧ n = 0) ∨ ∃ g off cap, v = .slice (some ⟨g, off, none⟩) n cap ∧ n ≤ cap ∧ cap ≤ maxLen ∧ Cells w g off n K N S)

theorem Lst.below {w w' : World} {v : Value} {n : Nat} {K N : Nat → Int} {S : Nat → ByteArray} (l : Lst w v n K N S) (h : Below w.heap.size w w') : Lst w' v n K N S := by
  obtain ⟨hn, l | ⟨g, off, cap, hv, hl, hc, c⟩⟩ := l
  · exact ⟨hn, .inl l⟩
  · exact ⟨hn, .inr ⟨g, off, cap, hv, hl, hc, c.below h⟩⟩

/-- are the first n elements alike? -/
def sameTo (K N : Nat → Int) (S : Nat → ByteArray) (K' N' : Nat → Int) (S' : Nat → ByteArray) : Nat → Bool
  | 0 => true
  | k + 1 => sameTo K N S K' N' S' k && (cmpV (K k) (N k) (S k) (K' k) (N' k) (S' k) == 0)
def sameB (n m : Nat) (K N : Nat → Int) (S : Nat → ByteArray) (K' N' : Nat → Int) (S' : Nat → ByteArray) : Bool := (n == m) && sameTo K N S K' N' S' n

theorem sameTo_not {K N : Nat → Int} {S : Nat → ByteArray} {K' N' : Nat → Int} {S' : Nat → ByteArray} {k : Nat} (h : ¬ cmpV (K k) (N k) (S k) (K' k) (N' k) (S' k) = 0) : ∀ {n : Nat}, k < n → sameTo K N S K' N' S' n = false
  | 0, hk => by omega
  | n + 1, hk => by
    by_cases e : k = n
    · subst e; simp [sameTo, h]
    · simp [sameTo, sameTo_not h (n := n) (by omega)]
theorem sameTo_self {K N : Nat → Int} {S : Nat → ByteArray} : ∀ n, sameTo K N S K N S n = true
  | 0 => rfl
  | n + 1 => by simp [sameTo, sameTo_self n, cmpV_s0 _ _ rfl]

theorem run_neq_value (k1 n1 : Int) (s1 : ByteArray) (k2 n2 : Int) (s2 : ByteArray) (w : World) :
    (binOp .neq 26 (.agg #[.int .i8 k1, .int .i64 n1, .string s1]) (.agg #[.int .i8 k2, .int .i64 n2, .string s2])).run Tryd.prog w = .ok (.bool (!(cmpV k1 n1 s1 k2 n2 s2 == 0))) w := by
  by_cases hk : k1 = k2
  · by_cases hn : n1 = n2
    · by_cases hs : s1.toList = s2.toList
      · subst hk hn
        rw [cmpV_s0 _ _ hs]
        go_simp
      · have : ¬ cmpV k1 n1 s1 k2 n2 s2 = 0 := fun h => hs (cmpV_zero h).2.2
        have e : (cmpV k1 n1 s1 k2 n2 s2 == 0) = false := by simpa using this
        rw [e]
        go_simp
    · have : ¬ cmpV k1 n1 s1 k2 n2 s2 = 0 := fun h => hn (cmpV_zero h).2.1
      have e : (cmpV k1 n1 s1 k2 n2 s2 == 0) = false := by simpa using this
      rw [e]
      go_simp
  · have : ¬ cmpV k1 n1 s1 k2 n2 s2 = 0 := fun h => hk (cmpV_zero h).1
    have e : (cmpV k1 n1 s1 k2 n2 s2 == 0) = false := by simpa using this
    rw [e]
    go_simp

end Go.Proofs.YtkgoceomkkohmaaDoor.AR
