import Derived.Test.YtbclaikfiofciaaDoorTwin
namespace Go.Proofs.YtbclaikfiofciaaDoor
open Go.RowKit
set_option linter.unusedVariables false
attribute [local go_sem ↓] Go.wp_at_zero Go.wp_at_succ

/-- the order of two lists, r rounds ahead of the shorter one's end -/
def tupC (c : Nat → Int) (n m : Nat) : Nat → Int
  | 0 => if n < m then -1 else if m < n then 1 else 0
  | r + 1 => if c (min n m - (r + 1)) = 0 then tupC c n m r else c (min n m - (r + 1))

theorem tupC_step (c : Nat → Int) (n m k : Nat) (h : k < min n m) : tupC c n m (min n m - k) = if c k = 0 then tupC c n m (min n m - (k + 1)) else c k := by
  obtain ⟨r, hr⟩ : ∃ r, min n m - k = r + 1 := ⟨min n m - k - 1, by omega⟩
  rw [hr, show min n m - (k + 1) = r by omega]
  simp only [tupC]
  rw [show min n m - (r + 1) = k by omega]

theorem Lst.form {w : World} {v : Value} {n : Nat} {K N : Nat → Int} {S : Nat → ByteArray} (l : Lst w v n K N S) : ∃ a cap, v = .slice a n cap ∧ n ≤ maxLen ∧ (0 < n → ∃ g off, a = some ⟨g, off, none⟩ ∧ Cells w g off n K N S) := by
  obtain ⟨hn, ⟨a, d, rfl, rfl⟩ | ⟨g, off, cap, rfl, _, _, c⟩⟩ := l
  · exact ⟨a, d, rfl, hn, fun h => by omega⟩
  · exact ⟨_, cap, rfl, hn, fun _ => ⟨g, off, rfl, c⟩⟩

theorem sameTo_mark {K N : Nat → Int} {S : Nat → ByteArray} {n : Nat} : ∀ k, k ≤ n → sameTo (markK n K) (markN n N) (markS n S) K N S k = true
  | 0, _ => rfl
  | k + 1, h => by
    have e : ¬ k = n := by omega
    simp [sameTo, sameTo_mark (n := n) k (by omega), markK, markN, markS, e, cmpV_s0 _ _ rfl]

theorem Cells.lst {w : World} {g off n c : Nat} {K N : Nat → Int} {S : Nat → ByteArray} (h : Cells w g off n K N S) (hn : n ≤ c) (hc : c ≤ maxLen) : Lst w (.slice (some ⟨g, off, none⟩) n c) n K N S :=
  ⟨Nat.le_trans hn hc, .inr ⟨g, off, c, rfl, hn, hc, h⟩⟩

set_option maxHeartbeats 800000 in
theorem leftValues_true (v : Value) (B n : Nat) (K N : Nat → Int) (S : Nat → ByteArray) (w : World) (hn : n ≤ 4398046511103) (hc : Cells w B 0 (n + 1) (markK n K) (markN n N) (markS n S)) (hl : Lst w v n K N S) :
    Calls Tryd.prog 8 #[.slice (some ⟨B, 0, none⟩) n (n + 1), v] w fun e w' => e = .returned (.bool true) ∧ Below w.heap.size w w' := by
  have hs : sameB n n (markK n K) (markN n N) (markS n S) K N S = true := by simp [sameB, sameTo_mark n (Nat.le_refl _)]
  have hc' := (hc.take (Nat.le_succ n)).lst (Nat.le_succ n) (by unfold maxLen; omega)
  obtain ⟨a, d, rfl, _, _⟩ := hl.form
  go_enter Tryd.func8, Tryd.ntmps8
  go_wp2_with fail
  refine (sameValues_any _ _ n n _ _ _ _ _ _ _ hc' hl).mono ?_
  rintro e w1 ⟨rfl, hb1⟩
  have c1 := hc.below hb1
  have x0 := c1.kind n (by omega)
  have x1 := c1.num n (by omega)
  have x2 := c1.text n (by omega)
  simp only [markK, markN, markS, if_true, Nat.zero_add] at x0 x1 x2
  have i1 : (n : Int) < (n : Int) + 1 := by omega
  have i2 : (0 : Int) ≤ (n : Int) := by omega
  have i3 : (n : Int) ≤ 4398046511103 := by omega
  clear hc hl c1 hc'
  go_wp2_with fail
  refine (isValue_mark _ _).mono ?_
  rintro e w2 ⟨rfl, hb2⟩
  go_wp2
  go_ret
  exact ⟨rfl, hb1.trans (hb2.mono hb1.size)⟩

end Go.Proofs.YtbclaikfiofciaaDoor
