import Derived.Test.YtmadbakpdmkebaaDoorVal
import Derived.Test.YtmadbakpdmkebaaDoorOrder
import Derived.Deep.OwnRows
import Derived.Deep.QuietTactic
import Derived.BigQuiet
namespace Go.Proofs.YtmadbakpdmkebaaDoor
open Go.RowKit
set_option linter.unusedVariables false
attribute [local go_sem ↓] Go.wp_at_zero Go.wp_at_succ

/-- n values in memory, from a place on: element i has the kind K i, the number N i, the text S i -/
structure Cells (w : World) (g off n : Nat) (K N : Nat → Int) (S : Nat → ByteArray) : Prop where
  lt : 0 < n → g < w.heap.size
  kind : ∀ i, i < n → w.cell? ⟨g, off + i * 3, none⟩ = some (.int .i8 (K i))
  num : ∀ i, i < n → w.cell? ⟨g, off + i * 3 + 1, none⟩ = some (.int .i64 (N i))
  text : ∀ i, i < n → w.cell? ⟨g, off + i * 3 + 2, none⟩ = some (.string (S i))
  size : ∀ i, i < n → (S i).size ≤ maxLen

theorem Cells.below {w w' : World} {g off n : Nat} {K N : Nat → Int} {S : Nat → ByteArray} (v : Cells w g off n K N S) (h : Below w.heap.size w w') : Cells w' g off n K N S :=
  ⟨fun hn => Nat.lt_of_lt_of_le (v.lt hn) h.size, fun i hi => by rw [h.cell (p := ⟨g, _, none⟩) (v.lt (by omega))]; exact v.kind i hi, fun i hi => by rw [h.cell (p := ⟨g, _, none⟩) (v.lt (by omega))]; exact v.num i hi, fun i hi => by rw [h.cell (p := ⟨g, _, none⟩) (v.lt (by omega))]; exact v.text i hi, v.size⟩

theorem Cells.take {w : World} {g off n m : Nat} {K N : Nat → Int} {S : Nat → ByteArray} (v : Cells w g off n K N S) (h : m ≤ n) : Cells w g off m K N S :=
  ⟨fun hm => v.lt (by omega), fun i hi => v.kind i (by omega), fun i hi => v.num i (by omega), fun i hi => v.text i (by omega), fun i hi => v.size i (by omega)⟩

/-- a list of n values: nil, or a slice over their cells -/
def Lst (w : World) (v : Value) (n : Nat) (K N : Nat → Int) (S : Nat → ByteArray) : Prop :=
  n ≤ maxLen ∧ ((∃ a cap, v = .slice a 0 cap ∧ n = 0) ∨ ∃ g off cap, v = .slice (some ⟨g, off, none⟩) n cap ∧ n ≤ cap ∧ cap ≤ maxLen ∧ Cells w g off n K N S)

theorem Lst.below {w w' : World} {v : Value} {n : Nat} {K N : Nat → Int} {S : Nat → ByteArray} (l : Lst w v n K N S) (h : Below w.heap.size w w') : Lst w' v n K N S := by
  obtain ⟨hn, l | ⟨g, off, cap, hv, hl, hc, c⟩⟩ := l
  · exact ⟨hn, .inl l⟩
  · exact ⟨hn, .inr ⟨g, off, cap, hv, hl, hc, c.below h⟩⟩

/-- are the first n elements alike? -/
def sameTo (K N : Nat → Int) (S : Nat → ByteArray) (K' N' : Nat → Int) (S' : Nat → ByteArray) : Nat → Bool
  | 0 => true
  | k + 1 => sameTo K N S K' N' S' k && (cmpV (K k) (N k) (S k) (K' k) (N' k) (S' k) == 0)
def sameB (n m : Nat) (K N : Nat → Int) (S : Nat → ByteArray) (K' N' : Nat → Int) (S' : Nat → ByteArray) : Bool := (n == m) && sameTo K N S K' N' S' n

theorem sameTo_not {K N : Nat → Int} {S : Nat → ByteArray} {K' N' : Nat → Int} {S' : Nat → ByteArray} {k : Nat} (h : ¬ cmpV (K k) (N k) (S k) (K' k) (N' k) (S' k) = 0) : ∀ {n : Nat}, k < n → sameTo K N S K' N' S' n = false
  | 0, hk => by omega
  | n + 1, hk => by
    by_cases e : k = n
    · subst e; simp [sameTo, h]
    · simp [sameTo, sameTo_not h (n := n) (by omega)]
theorem sameTo_self {K N : Nat → Int} {S : Nat → ByteArray} : ∀ n, sameTo K N S K N S n = true
  | 0 => rfl
  | n + 1 => by simp [sameTo, sameTo_self n, cmpV_s0 _ _ rfl]

theorem run_neq_value (k1 n1 : Int) (s1 : ByteArray) (k2 n2 : Int) (s2 : ByteArray) (w : World) :
    (binOp .neq 34 (.agg #[.int .i8 k1, .int .i64 n1, .string s1]) (.agg #[.int .i8 k2, .int .i64 n2, .string s2])).run Tryd.prog w = .ok (.bool (!(cmpV k1 n1 s1 k2 n2 s2 == 0))) w := by
  by_cases hk : k1 = k2
  · by_cases hn : n1 = n2
    · by_cases hs : s1.toList = s2.toList
      · subst hk hn
        rw [cmpV_s0 _ _ hs]
        go_simp
      · have : ¬ cmpV k1 n1 s1 k2 n2 s2 = 0 := fun h => hs (cmpV_zero h).2.2
        have e : (cmpV k1 n1 s1 k2 n2 s2 == 0) = false := by simpa using this
        rw [e]
        go_simp
    · have : ¬ cmpV k1 n1 s1 k2 n2 s2 = 0 := fun h => hn (cmpV_zero h).2.1
      have e : (cmpV k1 n1 s1 k2 n2 s2 == 0) = false := by simpa using this
      rw [e]
      go_simp
  · have : ¬ cmpV k1 n1 s1 k2 n2 s2 = 0 := fun h => hk (cmpV_zero h).1
    have e : (cmpV k1 n1 s1 k2 n2 s2 == 0) = false := by simpa using this
    rw [e]
    go_simp

theorem sameValues_diff (a b : Option Addr) (n m c d : Nat) (w : World) (hn : n ≤ maxLen) (hm : m ≤ maxLen) (h : ¬ n = m) :
    Calls Tryd.prog 11 #[.slice a n c, .slice b m d] w fun e w' => e = .returned (.bool false) ∧ Below w.heap.size w w' := by
  unfold maxLen at hn hm
  have hne : ((n : Int) != (m : Int)) = true := by simp; omega
  go_enter Tryd.func11, Tryd.ntmps11
  go_wp2
  go_ret
  exact ⟨rfl, Below.refl _ _⟩

theorem sameValues_zero (a b : Option Addr) (c d : Nat) (w : World) :
    Calls Tryd.prog 11 #[.slice a 0 c, .slice b 0 d] w fun e w' => e = .returned (.bool true) ∧ Below w.heap.size w w' := by
  go_enter Tryd.func11, Tryd.ntmps11
  go_wp2
  go_loop [5] (fun i => i = .int .i64 0) (fun _ => 0)
  case atStart => rfl
  case round =>
    subst hrel
    go_wp2
    go_ret
    exact ⟨rfl, Below.refl _ _⟩

set_option maxHeartbeats 1600000 in
theorem sameValues_cells (g off c g' off' c' n : Nat) (K N : Nat → Int) (S : Nat → ByteArray) (K' N' : Nat → Int) (S' : Nat → ByteArray) (w : World) (hn : n ≤ maxLen) (hc : Cells w g off n K N S) (hc' : Cells w g' off' n K' N' S') :
    Calls Tryd.prog 11 #[.slice (some ⟨g, off, none⟩) n c, .slice (some ⟨g', off', none⟩) n c'] w fun e w' => e = .returned (.bool (sameTo K N S K' N' S' n)) ∧ Below w.heap.size w w' := by
  unfold maxLen at hn
  go_enter Tryd.func11, Tryd.ntmps11
  go_wp2
  go_loopw [5] (fun i wr => ∃ k : Nat, k ≤ n ∧ i = .int .i64 k ∧ Hid (sameTo K N S K' N' S' k = true) ∧ Below w.heap.size w wr) (fun i _ => n - (intOf i).toNat)
  case atStart => exact ⟨0, Nat.zero_le _, rfl, rfl, Below.refl _ _⟩
  case round =>
    obtain ⟨k, hk, rfl, HS, bel⟩ := hrel
    by_cases hlt : k < n
    · have v := hc.below bel
      have v' := hc'.below bel
      have x0 := v.kind k hlt
      have x1 := v.num k hlt
      have x2 := v.text k hlt
      have y0 := v'.kind k hlt
      have y1 := v'.num k hlt
      have y2 := v'.text k hlt
      have hlt' : (k : Int) < (n : Int) := by omega
      have hge : (0 : Int) ≤ (k : Int) := by omega
      have hE := run_neq_value (K k) (N k) (S k) (K' k) (N' k) (S' k)
      have HC : Hid (∀ z, cmpV (K k) (N k) (S k) (K' k) (N' k) (S' k) = z → sameTo K N S K' N' S' (k + 1) = (z == 0)) := by
        intro z hz
        simp only [sameTo, HS.out, Bool.true_and, hz]
      have HN : Hid (¬ cmpV (K k) (N k) (S k) (K' k) (N' k) (S' k) = 0 → sameTo K N S K' N' S' n = false) := fun h => sameTo_not h hlt
      clear hc hc' v v'
      generalize cmpV (K k) (N k) (S k) (K' k) (N' k) (S' k) = z at hE HC HN
      by_cases hz : z = 0
      · subst hz
        go_wp2_with fail
        go_quiet (fail)
        go_wp2
        go_roundw
        case rel => exact ⟨k + 1, by omega, by go_num, by have := HC.out 0 rfl; show sameTo K N S K' N' S' (k + 1) = true; simpa using this, bel.trans ⟨rfl, rfl, rfl, Nat.le_refl _, fun _ _ => rfl⟩⟩
        case measure => simp [intOf]; omega
      · have hz' : (z == 0) = false := by simpa using hz
        have HF := HN.out hz
        have HF' : Hid (sameTo K N S K' N' S' n = false) := HF
        clear HF hz
        go_wp2_with fail
        go_quiet (fail)
        go_wp2
        go_ret
        exact ⟨ret_bool HF'.out.symm, bel.trans ⟨rfl, rfl, rfl, Nat.le_refl _, fun _ _ => rfl⟩⟩
    · obtain rfl : k = n := by omega
      go_wp2
      go_ret
      exact ⟨ret_bool HS.out.symm, bel⟩

theorem sameValues_any (v v' : Value) (n m : Nat) (K N : Nat → Int) (S : Nat → ByteArray) (K' N' : Nat → Int) (S' : Nat → ByteArray) (w : World) (hl : Lst w v n K N S) (hl' : Lst w v' m K' N' S') :
    Calls Tryd.prog 11 #[v, v'] w fun e w' => e = .returned (.bool (sameB n m K N S K' N' S')) ∧ Below w.heap.size w w' := by
  obtain ⟨hn, ⟨a0, d0, rfl, rfl⟩ | ⟨g, off, cap, rfl, hc, hx, c⟩⟩ := hl <;> obtain ⟨hm, ⟨a1, d1, rfl, rfl⟩ | ⟨g', off', cap', rfl, hc', hx', c'⟩⟩ := hl'
  · exact sameValues_zero _ _ _ _ w
  · by_cases e : m = 0
    · subst e; exact sameValues_zero _ _ _ _ w
    · have := sameValues_diff a0 (some ⟨g', off', none⟩) 0 m d0 cap' w hn hm (by omega)
      refine this.mono fun e w' ⟨he, hb⟩ => ⟨?_, hb⟩
      rw [he]; exact ret_bool (by simp [sameB]; omega)
  · by_cases e : n = 0
    · subst e; exact sameValues_zero _ _ _ _ w
    · have := sameValues_diff (some ⟨g, off, none⟩) a1 n 0 cap d1 w hn hm (by omega)
      refine this.mono fun e w' ⟨he, hb⟩ => ⟨?_, hb⟩
      rw [he]; exact ret_bool (by simp [sameB]; omega)
  · by_cases e : n = m
    · subst e
      refine (sameValues_cells g off cap g' off' cap' n K N S K' N' S' w hn c c').mono fun e w' ⟨he, hb⟩ => ⟨?_, hb⟩
      rw [he]; exact ret_bool (by simp [sameB])
    · refine (sameValues_diff _ _ n m _ _ w hn hm e).mono fun _ w' ⟨he, hb⟩ => ⟨?_, hb⟩
      rw [he]; exact ret_bool (by simp [sameB, e])

end Go.Proofs.YtmadbakpdmkebaaDoor
