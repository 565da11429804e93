import Derived.Test.YtoppgalbmijhdaaDoorTermQuote
namespace Go.Proofs.YtoppgalbmijhdaaDoor
open Go.RowKit Go.Maps
set_option linter.unusedVariables false
set_option linter.unusedSimpArgs false
attribute [local go_sem ↓] Go.wp_at_zero Go.wp_at_succ

theorem TAt.below {w w' : World} {g o : Nat} {t : T} (h : TAt w g o t) (b : Below w.heap.size w w') (hg : g < w.heap.size) : TAt w' g o t :=
  ⟨by rw [b.cell (p := ⟨g, o, none⟩) hg]; exact h.c0, by rw [b.cell (p := ⟨g, o + 1, none⟩) hg]; exact h.c1, by rw [b.cell (p := ⟨g, o + 2, none⟩) hg]; exact h.c2, by rw [b.cell (p := ⟨g, o + 3, none⟩) hg]; exact h.c3⟩
theorem PAt.below {w w' : World} {g o : Nat} {t : P} (h : PAt w g o t) (b : Below w.heap.size w w') (hg : g < w.heap.size) : PAt w' g o t :=
  ⟨by rw [b.cell (p := ⟨g, o, none⟩) hg]; exact h.c0, by rw [b.cell (p := ⟨g, o + 1, none⟩) hg]; exact h.c1, by rw [b.cell (p := ⟨g, o + 2, none⟩) hg]; exact h.c2, by rw [b.cell (p := ⟨g, o + 3, none⟩) hg]; exact h.c3, by rw [b.cell (p := ⟨g, o + 4, none⟩) hg]; exact h.c4⟩
theorem VAt.below {w w' : World} {g o : Nat} {t : V} (h : VAt w g o t) (b : Below w.heap.size w w') (hg : g < w.heap.size) : VAt w' g o t :=
  ⟨by rw [b.cell (p := ⟨g, o, none⟩) hg]; exact h.c0, by rw [b.cell (p := ⟨g, o + 1, none⟩) hg]; exact h.c1, by rw [b.cell (p := ⟨g, o + 2, none⟩) hg]; exact h.c2⟩
theorem all_take {l : List T} {k : Nat} (h : k < l.length) : (l.take (k + 1)).all termB = ((l.take k).all termB && termB (atT l k)) := by
  have e : l.take (k + 1) = l.take k ++ [l[k]] := by rw [List.take_add_one, List.getElem?_eq_getElem h]; rfl
  rw [e, List.all_append, atT_eq h]
  simp
theorem all_not {l : List T} {k : Nat} (h : k < l.length) (hn : termB (atT l k) = false) : l.all termB = false := by
  rw [← Bool.not_eq_true]
  intro ha
  rw [List.all_eq_true] at ha
  rw [atT_eq h] at hn
  rw [ha _ (List.getElem_mem h)] at hn
  cases hn
theorem atT_wf {l : List T} (h : ∀ t ∈ l, t.wf) (i : Nat) : (atT l i).wf := by
  by_cases hi : i < l.length
  · rw [atT_eq hi]; exact h _ (List.getElem_mem hi)
  · unfold atT
    rw [List.getD, List.getElem?_eq_none (by omega)]
    exact T0.ok

end Go.Proofs.YtoppgalbmijhdaaDoor
