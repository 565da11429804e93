import Derived.Test.YtekjoccbbamehaaIxNew
namespace Go.Proofs.Ytekjoccbbamehaa
open Go.RowKit Go.Maps Go.ChangeMaps
set_option linter.unusedVariables false
set_option linter.unusedSimpArgs false
attribute [local go_sem ↓] Go.wp_at_zero Go.wp_at_succ

/-- a list of ints in memory -/
def IntsAt (w : World) (v : Value) (l : List Int) : Prop :=
  ∃ a c, v = .slice a l.length c ∧ l.length ≤ maxLen ∧ (l = [] ∨ ∃ g off, a = some ⟨g, off, none⟩ ∧ g < w.heap.size ∧ ∀ j, j < l.length → w.cell? ⟨g, off + j, none⟩ = some (.int .i64 (l.getD j 0)))
theorem IntsAt.below {w w' : World} {v : Value} {l : List Int} (h : IntsAt w v l) (hb : Below w.heap.size w w') : IntsAt w' v l := by
  obtain ⟨a, c, e, hl, h | ⟨g, off, e2, hg, hc⟩⟩ := h
  · exact ⟨a, c, e, hl, .inl h⟩
  · exact ⟨a, c, e, hl, .inr ⟨g, off, e2, Nat.lt_of_lt_of_le hg hb.size, fun j hj => (hb.cell (p := ⟨g, off + j, none⟩) hg).trans (hc j hj)⟩⟩
theorem IntsAt.of_own {w : World} {B : Nat} {v : Value} {l : List Nat} (h : w.ownsRow B 3 1 v l.length (numC l)) (hl : l.length ≤ 1000000000) : IntsAt w v (l.map Int.ofNat) := by
  have h' := h
  obtain ⟨_, ⟨rfl, h0⟩ | ⟨g, cap, cur, rfl, _, hgb, _⟩⟩ := h
  · obtain rfl : l = [] := List.length_eq_zero_iff.1 h0
    exact ⟨none, 0, rfl, by simp [maxLen], .inl rfl⟩
  · refine ⟨some ⟨g, 0, none⟩, cap, by rw [List.length_map], by rw [List.length_map]; unfold maxLen; omega, .inr ⟨g, 0, rfl, (Array.getElem?_eq_some_iff.1 hgb).1, fun j hj => ?_⟩⟩
    rw [List.length_map] at hj
    rw [Nat.zero_add, h'.cellAt j (by omega)]
    simp [numC, hj]
theorem getD_ext {l l' : List Int} (hl : l.length = l'.length) (h : ∀ i, i < l.length → l.getD i 0 = l'.getD i 0) : l = l' := by
  apply List.ext_getElem hl
  intro i h1 h2
  have := h i h1
  simpa [h1, h2] using this
set_option maxHeartbeats 800000 in
theorem sameInts_diff (a b : Option Addr) (n m c d : Nat) (w : World) (hn : n ≤ maxLen) (hm : m ≤ maxLen) (h : ¬ n = m) :
    Calls Try.prog 19 #[.slice a n c, .slice b m d] w fun e w' => e = .returned (.bool false) ∧ Below w.heap.size w w' := by
  unfold maxLen at hn hm
  have hne : ((n : Int) != (m : Int)) = true := by simp; omega
  go_enter Try.func19, Try.ntmps19
  go_wp2
  go_ret
  exact ⟨rfl, Below.refl _ _⟩
set_option maxHeartbeats 800000 in
theorem sameInts_zero (a b : Option Addr) (c d : Nat) (w : World) :
    Calls Try.prog 19 #[.slice a 0 c, .slice b 0 d] w fun e w' => e = .returned (.bool true) ∧ Below w.heap.size w w' := by
  go_enter Try.func19, Try.ntmps19
  go_wp2
  go_loop [5] (fun i => i = .int .i64 0) (fun _ => 0)
  case atStart => rfl
  case round =>
    subst hrel
    go_wp2
    go_ret
    exact ⟨rfl, Below.refl _ _⟩
set_option maxHeartbeats 1600000 in
set_option maxRecDepth 100000 in
theorem sameInts_cells (g off c g' off' c' : Nat) (l l' : List Int) (w : World) (hn : l.length ≤ maxLen) (he : l.length = l'.length) (hg : g < w.heap.size) (hg' : g' < w.heap.size) (hc : ∀ j, j < l.length → w.cell? ⟨g, off + j, none⟩ = some (.int .i64 (l.getD j 0))) (hc' : ∀ j, j < l'.length → w.cell? ⟨g', off' + j, none⟩ = some (.int .i64 (l'.getD j 0))) :
    Calls Try.prog 19 #[.slice (some ⟨g, off, none⟩) l.length c, .slice (some ⟨g', off', none⟩) l.length c'] w fun e w' => e = .returned (.bool (decide (l = l'))) ∧ Below w.heap.size w w' := by
  unfold maxLen at hn
  have HC := Lib.hid hc
  have HC' := Lib.hid hc'
  have HE := Lib.hid he
  clear hc hc' he
  go_enter Try.func19, Try.ntmps19
  go_wp2
  go_loopw [5] (fun i wr => ∃ k : Nat, k ≤ l.length ∧ i = .int .i64 k ∧ Hid (∀ i, i < k → l.getD i 0 = l'.getD i 0) ∧ Below w.heap.size w wr) (fun i _ => l.length - (intOf i).toNat)
  case atStart => exact ⟨0, Nat.zero_le _, rfl, Lib.hid (fun i hi => by omega), Below.refl _ _⟩
  case round =>
    obtain ⟨k, hk, rfl, HS, bel⟩ := hrel
    by_cases hlt : k < l.length
    · have x0 := (bel.cell (p := ⟨g, off + k, none⟩) hg).trans (HC.out k hlt)
      have y0 := (bel.cell (p := ⟨g', off' + k, none⟩) hg').trans (HC'.out k (HE.out ▸ hlt))
      have hlt' : (k : Int) < (l.length : Int) := by omega
      have hge : (0 : Int) ≤ (k : Int) := by omega
      have HL := Lib.hid hlt
      generalize hx : l.getD k 0 = x at x0
      generalize hy : l'.getD k 0 = y at y0
      by_cases hz : x = y
      · have HS2 : Hid (∀ i, i < k + 1 → l.getD i 0 = l'.getD i 0) := fun i hi => by
          by_cases e : i = k
          · rw [e, hx, hy, hz]
          · exact HS.out i (by omega)
        subst hz
        clear hx hy
        go_wp2_with fail
        go_quiet (fail)
        go_wp2
        go_roundw
        case rel => exact ⟨k + 1, by omega, by go_num, HS2, bel.trans ⟨rfl, rfl, rfl, Nat.le_refl _, fun _ _ => rfl⟩⟩
        case measure => simp [intOf]; omega
      · have HF : Hid (decide (l = l') = false) := decide_eq_false (fun e => hz (by rw [← hx, ← hy, e]))
        have hz' : (x != y) = true := by simpa using hz
        clear hx hy
        go_wp2_with fail
        go_quiet (fail)
        go_wp2
        go_ret
        exact ⟨by rw [HF.out]; rfl, bel.trans ⟨rfl, rfl, rfl, Nat.le_refl _, fun _ _ => rfl⟩⟩
    · obtain rfl : k = l.length := by omega
      have HF : Hid (decide (l = l') = true) := decide_eq_true (getD_ext HE.out HS.out)
      go_wp2
      go_ret
      exact ⟨by rw [HF.out]; rfl, bel⟩
theorem sameInts_any {w : World} {v v' : Value} {l l' : List Int} (h : IntsAt w v l) (h' : IntsAt w v' l') :
    Calls Try.prog 19 #[v, v'] w fun e w' => e = .returned (.bool (decide (l = l'))) ∧ Below w.heap.size w w' := by
  obtain ⟨a, c, rfl, hl, hz⟩ := h
  obtain ⟨a', c', rfl, hl', hz'⟩ := h'
  by_cases e : l.length = l'.length
  · rcases hz with rfl | ⟨g, off, rfl, hg, hc⟩
    · obtain rfl : l' = [] := List.length_eq_zero_iff.1 e.symm
      exact sameInts_zero _ _ _ _ w
    · rcases hz' with rfl | ⟨g', off', rfl, hg', hc'⟩
      · obtain rfl : l = [] := List.length_eq_zero_iff.1 e
        exact sameInts_zero _ _ _ _ w
      · have := sameInts_cells g off c g' off' c' l l' w hl e hg hg' hc hc'
        rw [← e]
        exact this
  · have := sameInts_diff a a' l.length l'.length c c' w hl hl' e
    rw [decide_eq_false (fun e' => e (by rw [e']))]
    exact this
end Go.Proofs.Ytekjoccbbamehaa
