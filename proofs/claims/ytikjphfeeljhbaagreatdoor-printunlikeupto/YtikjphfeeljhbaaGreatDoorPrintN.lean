import Derived.Test.YtikjphfeeljhbaaGreatDoorPrintQ
namespace Go.Proofs.YtikjphfeeljhbaaGreatDoor
open Go.RowKit Go.Maps
set_option linter.unusedVariables false
set_option linter.unusedSimpArgs false
attribute [local go_sem ↓] Go.wp_at_zero Go.wp_at_succ

theorem EIs.len {w : World} {d : Nat} {e : E} {a : Option Addr} {c : Nat} (h : EIs w d e a c) : e.kids.length ≤ 281474976710656 := by
  cases d with
  | zero => exact h.elim
  | succ d => exact h.1.2
theorem litT_len {w : World} {d : Nat} {x : Lit4} {p : LP} (h : LIs w d x p) (hok : litB x = true) : 1 ≤ (litT x).length ∧ (litT x).length ≤ 1000000000 := by
  rcases litB_form hok with ⟨e, ha⟩ | ⟨e, ha⟩ | ⟨e, r1, r6, el, er⟩
  · have hT : litT x = atomT x.pr x.ts := by unfold litT; rw [if_pos e]
    have := atomT_len h.ts.wf ha
    rw [hT]; omega
  · have hT : litT x = [110, 111, 116, 32] ++ atomT x.pr x.ts := by unfold litT; rw [if_neg (by omega), if_pos e]
    have := atomT_len h.ts.wf ha
    rw [hT, List.length_append]
    simp only [List.length_cons, List.length_nil]
    omega
  · have hT : litT x = textE 8 x.l ++ (([32] ++ relT x.rel.toNat ++ [32]) ++ textE 8 x.r) := by unfold litT; rw [if_neg (by omega), if_neg (by omega)]
    have h1 := textE_len 8 d x.l p.la p.lc w h.l el
    have h2 := textE_len 8 d x.r p.ra p.rc w h.r er
    have h3 := relT_len x.rel.toNat
    rw [hT]
    simp only [List.length_append, List.length_cons, List.length_nil]
    omega
end Go.Proofs.YtikjphfeeljhbaaGreatDoor
