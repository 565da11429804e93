import Derived.Test.YtlnioaokpmeioaaGreatDoorG41
import Derived.Test.YtlnioaokpmeioaaGreatDoorG21
section
namespace Go.Proofs.YtlnioaokpmeioaaGreatDoor
open Go.RowKit Go.Maps
set_option linter.unusedVariables false
set_option linter.unusedSimpArgs false
attribute [local go_sem ↓] Go.wp_at_zero Go.wp_at_succ

theorem EIs.len {w : World} {d : Nat} {e : E} {a : Option Addr} {c : Nat} (h : EIs w d e a c) : e.kids.length ≤ 281474976710656 := by
  cases d with
  | zero => exact h.elim
  | succ d => exact h.1.2
theorem termsL_wf {w : World} {d : Nat} {x : Lit4} {p : LP} (h : LIs w d x p) : ∀ t ∈ termsL d x, t.wf := by
  intro t ht
  unfold termsL at ht
  rcases List.mem_append.1 ht with h1 | h1
  · exact h.ts.wf t h1
  · rcases List.mem_append.1 h1 with h2 | h2
    · exact termsD_wf d _ _ _ h.l t h2
    · exact termsD_wf d _ _ _ h.r t h2
end Go.Proofs.YtlnioaokpmeioaaGreatDoor
end
