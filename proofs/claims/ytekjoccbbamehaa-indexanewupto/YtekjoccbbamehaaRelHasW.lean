import Derived.Test.YtekjoccbbamehaaRelAdd
import Derived.Deep.MidRow
namespace Go.Proofs.Ytekjoccbbamehaa
open Go.RowKit Go.Maps
set_option linter.unusedVariables false
set_option linter.unusedSimpArgs false
attribute [local go_sem ↓] Go.wp_at_zero Go.wp_at_succ

attribute [-go_sem] loadVar
theorem RowAt.range {w : World} {b : Nat} {r : List Int} (h : RowAt w b r) : w.rangeAt b 0 (List.map cellI r) := fun j v hv => by
  have h1 : w.heap[b]? = some (.cells (rowC r) 34 (0, 0)) := h
  rw [Nat.zero_add]
  show w.cell? ⟨b, j, none⟩ = some v
  simp only [World.cell?, h1]
  show (rowC r)[j]? = some v
  unfold rowC
  simpa using hv
end Go.Proofs.Ytekjoccbbamehaa
