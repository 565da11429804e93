import Derived.Test.YtoppgalbmijhdaaGreatDoorFaLeft
import Derived.Test.YtoppgalbmijhdaaGreatDoorSoM
namespace Go.Proofs.YtoppgalbmijhdaaGreatDoor
open Go.RowKit Go.Maps
set_option linter.unusedVariables false
set_option linter.unusedSimpArgs false

/-! copies of facts have their keys -/
theorem like_keys {l l' : List XF} (hl' : l'.length = l.length) (hx' : ∀ i, i < l.length → LikeF (atF l i) (atF l' i)) : l'.map XF.key = l.map XF.key := by
  apply List.ext_getElem
  · simpa using hl'
  · intro i h1 h2
    simp only [List.length_map] at h1 h2
    have := hx' i h2
    rw [atF_eq h1, atF_eq h2] at this
    simp only [List.getElem_map, XF.key, this.pr, this.vs]
theorem small_like {l l' : List XF} (h : ∀ i, i < l.length → (atF l i).vs.length ≤ 1048576) (hl' : l'.length = l.length) (hx' : ∀ i, i < l.length → LikeF (atF l i) (atF l' i)) {y : XF} (hy : y ∈ l') : y.vs.length ≤ 1048576 := by
  obtain ⟨i, hi, rfl⟩ := List.getElem_of_mem hy
  have h1 := h i (by omega)
  have h2 := (hx' i (by omega)).vs
  rw [atF_eq hi] at h2
  rw [h2]
  exact h1
theorem TwG.lf {u w0 : World} {lo : Nat} {l l' : List XF} {a : Option Addr} {c : Nat} {v : Value} (h : TwG u lo l' a c) (h0 : Lf w0 v l) (hs1 : l.length ≤ 1048576) (hs2 : ∀ i, i < l.length → (atF l i).vs.length ≤ 1048576) (hl' : l'.length = l.length) (hx' : ∀ i, i < l.length → LikeF (atF l i) (atF l' i)) : Lf u (.slice a l'.length c) l' := by
  have hc := h.cap
  obtain ⟨g, rfl, hg, _, hks⟩ := h.range
  subst hc
  exact ⟨ls_of_range (f := XF.cells) (k := 2) (by omega) (fun _ => rfl) XF0 (by omega) (by unfold maxLen; omega) hg hks, fun i hi => TwF.is (h.each i hi) (hx' i (by omega)) (h0.each i (by omega)) (hs2 i (by omega))⟩
end Go.Proofs.YtoppgalbmijhdaaGreatDoor
