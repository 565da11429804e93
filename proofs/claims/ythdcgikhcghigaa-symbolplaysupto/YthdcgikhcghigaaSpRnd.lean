import Derived.Test.YthdcgikhcghigaaSpQui
import Derived.OrdersHeld
namespace Go.Proofs.Ythdcgikhcghigaa
open Go
set_option linter.unusedVariables false
set_option linter.unusedSimpArgs false

/-! a drawn region within a round of a range over a function, by a walk over what is held -/
theorem upon_wide {n : Nat} {P : Program} {o : Oper} {a : Act} {next : Act → World → Prop} {Q : Exit → Act → World → Prop} {r : Result Next} (h : o.upon P a next Q r) : o.uponIn Fence.wide n P a next Q r := by
  cases r with
  | ok x w =>
    cases x with
    | value v => exact h
    | skip => exact h
    | defer d => exact h
    | enter f args => exact ⟨fun h => (nomatch h), callsIn_wide.2 h⟩
    | row row args => exact ⟨fun h => (nomatch h), fun c cs _ => let ⟨v, w', r, s⟩ := h c cs; ⟨v, w', r, stepsIn_wide.2 s⟩⟩
    | _ => exact h.elim
  | halt x w =>
    cases x <;> first | exact h | exact h.elim
theorem wpAnyIn_of_any {n : Nat} {P : Program} {md : Region.Mode} {ops : Array Oper} {Q : Exit → Act → World → Prop} (hL : ¬ LetsOut Q) :
    ∀ (fuel : Nat) (listed : Array Bool) (a : Act) (w : World), wpAny P md ops Q fuel listed a w → wpAnyIn Fence.wide n P md ops Q fuel listed a w
  | 0, _, _, _, h => h
  | fuel + 1, listed, a, w, h => ⟨h.1, fun i hi => by
    have h1 := wpOp_mono (fun a w => wpAnyIn_of_any (n := n) hL fuel (listed.setIfInBounds i true) a w) (h.2 i hi)
    unfold wpOp at h1
    unfold wpOpIn
    cases ho : ops[i]? with
    | none => simpa only [ho] using h1
    | some o =>
      simp only [ho] at h1 ⊢
      split
      · rename_i hw
        simp only [hw, if_true] at h1
        rcases h1 with h1 | ⟨_, h1⟩
        · exact ⟨fun _ _ => trivial, upon_wide h1⟩
        · exact absurd h1 hL
      · rename_i hw
        simp only [hw, Bool.false_eq_true, if_false] at h1
        exact ⟨fun _ _ => trivial, h1⟩⟩
theorem wpIn_region_held_round {n lp : Nat} {P : Program} {id : Nat} {ops : Array Oper} {Q : Exit → Act → World → Prop} {S : World → Prop} {a : Act} {w : World} (hm : P.follows .mixedOrders = true) (hd : ops.toList.all noDefer = true) (hL : ¬ LetsOut Q)
    (h : wpAnyH P .any ops Q S ops.size (Array.replicate ops.size false) a { w with drawn := w.drawn + 1 }) : (Code.region id ops true).wpIn (Fence.wide.inRound lp) n P Q a w := by
  refine wpIn_region_any hm (wpAnyIn_round lp rfl (fun i o ho c hc => ?_) _ _ _ _ (wpAnyIn_of_any hL _ _ _ _ (wpAny_of_held _ _ _ _ h)))
  have h1 := List.all_eq_true.1 hd o (List.mem_of_getElem? (by simpa using ho))
  simp [noDefer, hc] at h1
end Go.Proofs.Ythdcgikhcghigaa
