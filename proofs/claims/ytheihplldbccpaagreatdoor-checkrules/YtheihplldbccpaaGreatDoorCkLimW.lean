import Derived.Test.YtheihplldbccpaaGreatDoorLmLmW
import Derived.Test.YtheihplldbccpaaGreatDoorG18
namespace Go.Proofs.YtheihplldbccpaaGreatDoor
open Go.RowKit Go.Maps
set_option linter.unusedVariables false
set_option linter.unusedSimpArgs false
attribute [local go_sem ↓] Go.wp_at_zero Go.wp_at_succ
attribute [-go_sem] loadVar storeVar

theorem same_map {l l' : List XL} (hl : l'.length = l.length) (hx : ∀ i, i < l.length → (atL l' i).x = (atL l i).x) : l'.map XL.x = l.map XL.x := by
  refine List.ext_getElem (by simp [hl]) fun i h1 h2 => ?_
  simp only [List.length_map] at h1 h2
  have := hx i h2
  rw [atL_eq h1, atL_eq h2] at this
  simpa using this
theorem avL_map (l : List XL) : avL l = (l.map XL.x).flatMap (fun x => if x.k = 1 then vsT [] x.ts else []) := by rw [List.flatMap_map]; rfl
theorem eqL_map (d : Nat) (l : List XL) : eqL d l = (l.map XL.x).flatMap (fun x => if x.k = 3 ∧ x.rel = 1 then [(sdE d x.l, sdE d x.r)] else []) := by rw [List.flatMap_map]; rfl
theorem avL_same {l l' : List XL} (h : l'.map XL.x = l.map XL.x) : avL l' = avL l := by rw [avL_map, avL_map, h]
theorem eqL_same {l l' : List XL} (d : Nat) (h : l'.map XL.x = l.map XL.x) : eqL d l' = eqL d l := by rw [eqL_map, eqL_map, h]
theorem avL_len (d : Nat) : ∀ l : List XL, (avL l).length ≤ (l.flatMap (fun y => termsL d y.x)).length
  | [] => Nat.le_refl _
  | y :: l => by
    have h1 := avL_len d l
    unfold avL at h1 ⊢
    rw [List.flatMap_cons, List.flatMap_cons, List.length_append, List.length_append]
    have h2 : (avX y).length ≤ (termsL d y.x).length := by
      unfold avX termsL
      split
      · have := vsT_len y.x.ts []
        simp only [List.length_nil, List.length_append] at this ⊢
        omega
      · exact Nat.zero_le _
    omega
theorem loneL_len : ∀ qs : List Qn, (loneL qs).length ≤ 2 * qs.length
  | [] => Nat.le_refl _
  | q :: qs => by
    have h1 := loneL_len qs
    unfold loneL at h1 ⊢
    rw [List.flatMap_cons, List.length_append, List.length_append, List.length_cons]
    have h2 : ∀ o : Option ByteArray, o.toList.length ≤ 1 := fun o => by cases o <;> simp
    have := h2 q.1.lone
    have := h2 q.2.lone
    omega
theorem TwB.lb {w w0 : World} {lo d : Nat} {l l' : List XL} {a : Option Addr} {c : Nat} {v : Value} (h : TwB w lo d l' a c) (h0 : Lb w0 v d l) (hl : l'.length = l.length) (hx : ∀ i, i < l.length → (atL l' i).x = (atL l i).x) (hs : l.length ≤ 1048576) (hsm : ∀ y ∈ l, smallL d y.x) : Lb w (.slice a l'.length c) d l' := by
  refine ⟨?_, fun y hy => ?_⟩
  · have hcap := h.cap
    obtain ⟨g, ha, _, hg, _, hk⟩ := h.lies
    rw [ha, hcap]
    exact ls_of_range (f := XL.cells) (k := 16) (by omega) (fun _ => rfl) XL0 (by omega) (by unfold maxLen; omega) hg hk
  · obtain ⟨i, hi, rfl⟩ := List.getElem_of_mem hy
    have hir : i < l.length := by omega
    have h1 := h.each i hi
    have h2 := h0.at_is hir
    have h3 := hx i hir
    have h4 : (atL l i).x.ts.length ≤ 1048576 := by rw [atL_eq hir]; exact (hsm _ (List.getElem_mem hir)).1
    rw [← h3] at h2 h4
    have h5 := h1.toIs h2 h4
    rw [atL_eq hi] at h5
    exact h5
end Go.Proofs.YtheihplldbccpaaGreatDoor
