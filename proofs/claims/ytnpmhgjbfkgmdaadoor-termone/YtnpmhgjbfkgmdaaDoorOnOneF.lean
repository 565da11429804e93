import Derived.Test.YtnpmhgjbfkgmdaaDoorOnReg
namespace Go.Proofs.YtnpmhgjbfkgmdaaDoor
open Go.RowKit Go.Maps
set_option linter.unusedVariables false
set_option linter.unusedSimpArgs false

theorem uniA_sol {pa pb : ByteArray} {la lb : List T} {s : List P} (h : uniA pa pb la lb = some s) : pa = pb ∧ la.length = lb.length ∧ Sv s ∧ ∀ j, j < la.length → (atT la j).v = blankS ∨ (atT lb j).v = blankS ∨ res s (atT la j) = res s (atT lb j) := by
  by_cases hc : pa = pb ∧ la.length = lb.length ∧ atomB pa la = true ∧ atomB pb lb = true
  · have e : uniA pa pb la lb = uni [] la lb := if_pos hc
    rw [e] at h
    obtain ⟨a, _, c⟩ := uni_sol la lb [] s sv_nil (tn_all hc.2.2.1) (tn_all hc.2.2.2) h
    exact ⟨hc.1, hc.2.1, a, fun j hj => c _ (zip_of hc.2.1 hj)⟩
  · rw [uniA_no hc] at h
    cases h
theorem atT_map {s : List P} {l : List T} {j : Nat} (h : j < l.length) : atT (l.map (res s)) j = res s (atT l j) := by
  rw [atT_eq (by rw [List.length_map]; exact h), List.getElem_map, atT_eq h]
/-- what lies there behind both Applys: the boxed atoms, the pairs, the two atoms that were made (blocks bx, by') -/
structure Fst (w : World) (pa : ByteArray) (va vb sv vx vy : Value) (la lb : List T) (s : List P) (bx b2 : Nat) (u : World) : Prop where
  ost : Ost w pa pa va vb u
  lp : Lp u sv s
  rx : RL u bx 24 [.string pa, vx]
  ry : RL u b2 24 [.string pa, vy]
  lx : Lt u vx (la.map (res s))
  ly : Lt u vy (lb.map (res s))
theorem Fst.keep {w : World} {pa : ByteArray} {va vb sv vx vy : Value} {la lb : List T} {s : List P} {bx b2 : Nat} {u u' : World} (h : Fst w pa va vb sv vx vy la lb s bx b2 u) (hb : Below u.heap.size u u') : Fst w pa va vb sv vx vy la lb s bx b2 u' :=
  ⟨h.ost.keep hb, h.lp.below hb, h.rx.below hb, h.ry.below hb, h.lx.below hb, h.ly.below hb⟩
end Go.Proofs.YtnpmhgjbfkgmdaaDoor
