import Derived.Test.YtfkggabdjcabcaaRelApp
import Derived.Test.YtfkggabdjcabcaaRelMake
namespace Go.Proofs.Ytfkggabdjcabcaa
open Go.RowKit Go.Maps
set_option linter.unusedVariables false
set_option linter.unusedSimpArgs false

/-! turns: a row is added, or (off) removed -/
abbrev Tn := Bool × List Int
/-- a list of turns that lies somewhere -/
def Lt (w : World) (v : Value) (ts : List Tn) : Prop :=
  (∀ x ∈ ts, RowOk x.2) ∧ ∃ a c, v = .slice a ts.length c ∧ ∀ i x, ts[i]? = some x → ∃ g off, a = some ⟨g, off, none⟩ ∧ g < w.heap.size ∧ w.cell? ⟨g, off + i * 25, none⟩ = some (.bool x.1) ∧ w.rangeAt g (off + i * 25 + 1) (x.2.map cellI)
theorem Lt.below {w w' : World} {v : Value} {ts : List Tn} (h : Lt w v ts) (hb : Below w.heap.size w w') : Lt w' v ts := by
  obtain ⟨h1, a, c, rfl, h2⟩ := h
  refine ⟨h1, a, c, rfl, fun i x hx => ?_⟩
  obtain ⟨g, off, rfl, hg, hc, hr⟩ := h2 i x hx
  refine ⟨g, off, rfl, Nat.lt_of_lt_of_le hg hb.size, (hb.cell (p := ⟨g, _, none⟩) hg).trans hc, fun j v hv => ?_⟩
  exact (hb.cell (p := ⟨g, off + i * 25 + 1 + j, none⟩) hg).trans (hr j v hv)
/-- one turn: the rows, and how many went -/
def stepT (ar : Int) (s : List (List Int) × Nat) (x : Tn) : List (List Int) × Nat :=
  if x.1 then (if x.2 ∈ s.1 then (s.1.eraseIdx (s.1.idxOf x.2), s.2 + 1) else s) else (if fitB x.2 ar = true ∧ x.2 ∉ s.1 then (s.1 ++ [x.2], s.2) else s)
def turnL (ar : Int) (ts : List Tn) : List (List Int) × Nat := ts.foldl (stepT ar) ([], 0)
theorem turnL_take {ar : Int} {ts : List Tn} {k : Nat} {x : Tn} (h : ts[k]? = some x) : turnL ar (ts.take (k + 1)) = stepT ar (turnL ar (ts.take k)) x := by
  unfold turnL
  rw [List.take_add_one, h]
  simp [List.foldl_append]
theorem stepT_len (ar : Int) (s : List (List Int) × Nat) (x : Tn) : (stepT ar s x).1.length ≤ s.1.length + 1 ∧ (stepT ar s x).2 ≤ s.2 + 1 := by
  unfold stepT
  split
  · split
    · exact ⟨Nat.le_succ_of_le (List.length_eraseIdx_le _ _), Nat.le_refl _⟩
    · exact ⟨Nat.le_succ _, Nat.le_succ _⟩
  · split
    · exact ⟨by simp, Nat.le_succ _⟩
    · exact ⟨Nat.le_succ _, Nat.le_succ _⟩
theorem turnL_len (ar : Int) : ∀ (ts : List Tn) (k : Nat), k ≤ ts.length → (turnL ar (ts.take k)).1.length ≤ k ∧ (turnL ar (ts.take k)).2 ≤ k
  | ts, 0, _ => by simp [turnL]
  | ts, k + 1, h => by
    have ih := turnL_len ar ts k (by omega)
    obtain ⟨x, hx⟩ : ∃ x, ts[k]? = some x := ⟨ts[k], List.getElem?_eq_getElem (by omega)⟩
    rw [turnL_take hx]
    have := stepT_len ar (turnL ar (ts.take k)) x
    omega
/-- the place of a row, -1 where it is not there -/
def placeI (rows : List (List Int)) (r : List Int) : Int := if r ∈ rows then (rows.idxOf r : Int) else -1
theorem idxOf_at {rows : List (List Int)} {r : List Int} (h : r ∈ rows) : rows[rows.idxOf r]? = some r := by
  rw [List.getElem?_eq_getElem (List.idxOf_lt_length_of_mem h), List.getElem_idxOf]
theorem place_step {rows : List (List Int)} (nd : rows.Nodup) {r x : List Int} {k : Nat} (hx : rows[k]? = some x) :
    (if r ∈ rows.take (k + 1) then (rows.idxOf r : Int) else -1) = if x = r then (k : Int) else (if r ∈ rows.take k then (rows.idxOf r : Int) else -1) := by
  have hk : k < rows.length := (List.getElem?_eq_some_iff.1 hx).1
  have ht : rows.take (k + 1) = rows.take k ++ [x] := by rw [List.take_add_one, hx]; rfl
  rw [ht]
  by_cases e : x = r
  · subst e
    have hm := List.mem_of_getElem? hx
    have hi : rows.idxOf x = k := by
      have h1 := idxOf_at hm
      exact (List.getElem?_inj (List.idxOf_lt_length_of_mem hm) nd).1 (h1.trans hx.symm)
    simp [hi]
  · have : r ∈ rows.take k ++ [x] ↔ r ∈ rows.take k := by
      simp only [List.mem_append, List.mem_singleton]
      exact ⟨fun h => h.elim id (fun h => absurd h.symm e), .inl⟩
    simp only [this, if_neg e]
end Go.Proofs.Ytfkggabdjcabcaa
