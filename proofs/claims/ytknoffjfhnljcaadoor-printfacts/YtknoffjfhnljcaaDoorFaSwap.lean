import Derived.Test.YtknoffjfhnljcaaDoorFaRef
namespace Go.Proofs.YtknoffjfhnljcaaDoor
open Go.RowKit Go.Maps
set_option linter.unusedVariables false
set_option linter.unusedSimpArgs false
attribute [local go_sem ↓] Go.wp_at_zero Go.wp_at_succ

theorem LikeF.text {x y : XF} (h : LikeF x y) : factT y = factT x := by unfold factT bareT; rw [h.pr, h.vs]
theorem LikeF.okb {x y : XF} (h : LikeF x y) : factB y = factB x := by unfold factB; rw [h.pr, h.vs]
/-- two lists of facts that differ in where their lists lie alone -/
structure LikeG (l s : List XF) : Prop where
  len : s.length = l.length
  each : ∀ i, i < l.length → LikeF (atF l i) (atF s i)
theorem LikeG.mapf {α : Type} {l s : List XF} (h : LikeG l s) (f : XF → α) (hf : ∀ x y, LikeF x y → f y = f x) : s.map f = l.map f := by
  refine List.ext_getElem (by simp [h.len]) fun i h1 h2 => ?_
  simp only [List.length_map] at h1 h2
  have := hf _ _ (h.each i h2)
  rw [atF_eq h1, atF_eq h2] at this
  simpa using this
theorem LikeG.ok {l s : List XF} (h : LikeG l s) : okF s = okF l := by
  have e : ∀ m : List XF, okF m = (m.map factB).all id := fun m => by unfold okF; rw [List.all_map]; rfl
  rw [e, e, h.mapf factB (fun _ _ h => h.okb)]
theorem LikeG.txt {l s : List XF} (h : LikeG l s) : txtF s = txtF l := by
  have e : ∀ m : List XF, txtF m = (m.map factT).flatMap (fun t => t ++ [10]) := fun m => by unfold txtF; rw [List.flatMap_map]; rfl
  rw [e, e, h.mapf factT (fun _ _ h => h.text)]
theorem LikeG.small {l s : List XF} (h : LikeG l s) (hs : smallF l) : smallF s := by
  refine ⟨by rw [h.len]; exact hs.len, fun i hi => by rw [(h.each i (by rw [← h.len]; exact hi)).vs]; exact hs.each i (by rw [← h.len]; exact hi), ?_⟩
  have e : ∀ m : List XF, m.flatMap XF.vs = (m.map XF.vs).flatMap id := fun m => by rw [List.flatMap_map]; rfl
  rw [e, h.mapf XF.vs (fun _ _ h => h.vs), ← e]
  exact hs.vals
theorem atF_rev {l : List XF} {i : Nat} (h : i < l.length) : atF l.reverse i = atF l (l.length - 1 - i) := by
  rw [atF_eq (by simpa using h), atF_eq (by omega), List.getElem_reverse]
theorem small_rev {l : List XF} (hs : smallF l) : smallF l.reverse := by
  refine ⟨by simpa using hs.len, fun i hi => ?_, ?_⟩
  · rw [List.length_reverse] at hi
    rw [atF_rev hi]
    exact hs.each _ (by omega)
  · have : (l.reverse.flatMap XF.vs).length = (l.flatMap XF.vs).length := by
      rw [List.flatMap_reverse, List.length_reverse, List.length_flatMap, List.length_flatMap]
      congr 1
      refine List.map_congr_left fun y _ => ?_
      simp
    rw [this]
    exact hs.vals
/-- what stands at j behind i swaps -/
def swA (l : List XF) (i j : Nat) : XF := if j < i ∨ l.length ≤ i + j then atF l (l.length - 1 - j) else atF l j
def swF (l : List XF) (i : Nat) : Nat → List Value := fun j => if j = l.length then [.string markW, .slice none 0 0] else (swA l i j).cells
theorem swF_0 (l : List XF) : ∀ j, j < (l.length + 1) * 2 → rowF 2 (fun i => if i = l.length then [.string markW, .slice none 0 0] else (atF l i).cells) j = rowF 2 (swF l 0) j := fun j hj => by
  unfold rowF swF swA
  by_cases e : j / 2 = l.length
  · simp only [if_pos e]
  · simp only [if_neg e]
    rw [if_neg (by omega)]
theorem sw_i {l : List XF} {i : Nat} (h : i < l.length / 2) : swA l i i = atF l i := by unfold swA; rw [if_neg (by omega)]
theorem sw_k {l : List XF} {i : Nat} (h : i < l.length / 2) : swA l i (l.length - 1 - i) = atF l (l.length - 1 - i) := by unfold swA; rw [if_neg (by omega)]
theorem swF_step {l : List XF} {i : Nat} (h : i < l.length / 2) (j : Nat) (hj : j < l.length + 1) : (if j = i then (atF l (l.length - 1 - i)).cells else if j = l.length - 1 - i then (atF l i).cells else swF l i j) = swF l (i + 1) j := by
  unfold swF
  by_cases e1 : j = i
  · rw [if_pos e1, if_neg (by omega)]
    unfold swA
    rw [if_pos (by omega), e1]
  · rw [if_neg e1]
    by_cases e2 : j = l.length - 1 - i
    · rw [if_pos e2, if_neg (by omega)]
      unfold swA
      rw [if_pos (by omega), e2, show l.length - 1 - (l.length - 1 - i) = i by omega]
    · rw [if_neg e2]
      by_cases e3 : j = l.length
      · rw [if_pos e3, if_pos e3]
      · rw [if_neg e3, if_neg e3]
        unfold swA
        by_cases e4 : j < i ∨ l.length ≤ i + j
        · rw [if_pos e4, if_pos (by omega)]
        · rw [if_neg e4, if_neg (by omega)]
theorem swF_end {l : List XF} {j : Nat} (hj : j < l.length) : swF l (l.length / 2) j = (atF l.reverse j).cells := by
  unfold swF
  rw [if_neg (by omega), atF_rev hj]
  unfold swA
  by_cases e : j < l.length / 2 ∨ l.length ≤ l.length / 2 + j
  · rw [if_pos e]
  · rw [if_neg e, show l.length - 1 - j = j by omega]
theorem sw_row {w : World} {b : Nat} {l : List XF} {i : Nat} (h : i < l.length / 2) (hr : w.rowIs b 31 ((l.length + 1) * 2) (rowF 2 (swF l i))) :
    ((w.setCells b (i * 2) (atF l (l.length - 1 - i)).cells).setCells b ((l.length - 1 - i) * 2) (atF l i).cells).rowIs b 31 ((l.length + 1) * 2) (rowF 2 (swF l (i + 1)))
    ∧ ((w.setCells b ((l.length - 1 - i) * 2) (atF l i).cells).setCells b (i * 2) (atF l (l.length - 1 - i)).cells).rowIs b 31 ((l.length + 1) * 2) (rowF 2 (swF l (i + 1))) := by
  refine ⟨?_, ?_⟩
  · refine (rowF_set (k := l.length - 1 - i) (by decide) (rowF_set (k := i) (by decide) hr (atF l (l.length - 1 - i)).cells rfl) (atF l i).cells rfl).congr fun j hj => ?_
    have := swF_step h (j / 2) (by omega)
    unfold rowF
    rw [← this]
    by_cases e1 : j / 2 = i
    · simp only [if_pos e1, if_neg (show ¬ j / 2 = l.length - 1 - i by omega)]
    · simp only [if_neg e1]
  · refine (rowF_set (k := i) (by decide) (rowF_set (k := l.length - 1 - i) (by decide) hr (atF l i).cells rfl) (atF l (l.length - 1 - i)).cells rfl).congr fun j hj => ?_
    have := swF_step h (j / 2) (by omega)
    unfold rowF
    rw [← this]
end Go.Proofs.YtknoffjfhnljcaaDoor
