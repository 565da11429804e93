import Derived.Test.YtoagnkbmeafmoaaGreatDoorFaLeftA
namespace Go.Proofs.YtoagnkbmeafmoaaGreatDoor
open Go.RowKit Go.Maps
set_option linter.unusedVariables false
set_option linter.unusedSimpArgs false
attribute [local go_sem ↓] Go.wp_at_zero Go.wp_at_succ
attribute [-go_sem] loadVar storeVar

/-- facts that are not beyond the bound -/
structure smallF (l : List XF) : Prop where
  len : l.length ≤ 1048576
  each : ∀ i, i < l.length → (atF l i).vs.length ≤ 1048576
  vals : (l.flatMap XF.vs).length ≤ 1048576
theorem TwG.range {w : World} {lo : Nat} {l : List XF} {a : Option Addr} {c : Nat} (h : TwG w lo l a c) : ∃ g, a = some ⟨g, 0, none⟩ ∧ g < w.heap.size ∧ w.rangeAt g (l.length * 2) [.string markW, .slice none 0 0] ∧ ∀ i, i < l.length → w.rangeAt g (i * 2) (atF l i).cells := by
  obtain ⟨g, ha, _, hg, hr⟩ := h.lies
  refine ⟨g, ha, hg, ?_, fun i hi => ?_⟩
  · have := rowF_range hr rfl (i := l.length) (by omega) (by rw [if_pos rfl]; rfl)
    rw [if_pos rfl] at this
    exact this
  · have := rowF_range hr rfl (i := i) (by omega) (by rw [if_neg (by omega)]; rfl)
    rw [if_neg (by omega)] at this
    exact this
theorem TwG.below {w w' : World} {lo : Nat} {l : List XF} {a : Option Addr} {c : Nat} (h : TwG w lo l a c) (b : Below w.heap.size w w') : TwG w' lo l a c := by
  obtain ⟨h1, ⟨g, h2, h3, h4, h5⟩, h6, h7, h8⟩ := h
  exact ⟨h1, ⟨g, h2, h3, Nat.lt_of_lt_of_le h4 b.size, World.rowIs.of_block h5 (b.block g h4)⟩, fun i hi => (h6 i hi).below b, fun g' hg i hi => (h7 g' hg i hi).below b, h8⟩
theorem next_ofS {wc u v : World} (h : Below wc.heap.size wc u) (b : Below u.heap.size u v) : Below wc.heap.size wc v := h.trans (b.mono h.size)
end Go.Proofs.YtoagnkbmeafmoaaGreatDoor
