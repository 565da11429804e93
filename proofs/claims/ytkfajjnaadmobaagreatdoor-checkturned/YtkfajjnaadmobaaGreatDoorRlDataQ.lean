import Derived.Test.YtkfajjnaadmobaaGreatDoorG23
section
namespace Go.Proofs.YtkfajjnaadmobaaGreatDoor
open Go.RowKit Go.Maps
set_option linter.unusedVariables false
set_option linter.unusedSimpArgs false
attribute [local go_sem ↓] Go.wp_at_zero Go.wp_at_succ

/-- a rule and where its lists lie; a list of rules in memory -/
structure XR where
  r : R3
  p : RP
def XR.cells (y : XR) : List Value := [.string y.r.pr, .slice y.p.a y.r.hd.length y.p.c, .slice y.p.ba y.r.bd.length y.p.bc]
theorem XR.val_eq (y : XR) : Value.agg y.cells.toArray = y.r.val y.p := rfl
def XR0 : XR := ⟨⟨noS, [], []⟩, ⟨none, 0, none, 0⟩⟩
def atR (l : List XR) (i : Nat) : XR := l.getD i XR0
theorem atR_eq {l : List XR} {i : Nat} (h : i < l.length) : atR l i = l[i] := by simp [atR, List.getD, List.getElem?_eq_getElem h]
theorem atR_map {n : Nat} (U : Nat → XR) {i : Nat} (h : i < n) : atR ((List.range n).map U) i = U i := by simp [atR, List.getD, h]
theorem oneCells_rule (y : XR) : (XR.cells y).toArray.all (·.oneCell') = true := by simp [XR.cells, Value.oneCell']
structure Lr (w : World) (v : Value) (d : Nat) (l : List XR) : Prop where
  lies : Ls w v l.length (l.flatMap XR.cells)
  each : ∀ i, i < l.length → RIs w d (atR l i).r (atR l i).p
theorem Lr.below {w w' : World} {v : Value} {d : Nat} {l : List XR} (h : Lr w v d l) (b : Below w.heap.size w w') : Lr w' v d l := ⟨h.lies.below b, fun i hi => (h.each i hi).below b⟩
theorem Lr.form {w : World} {v : Value} {d : Nat} {l : List XR} (h : Lr w v d l) : ∃ a c, v = .slice a l.length c ∧ l.length ≤ c ∧ c ≤ maxLen ∧ (0 < l.length → ∃ g off, a = some ⟨g, off, none⟩ ∧ g < w.heap.size ∧ ∀ i, i < l.length → w.rangeAt g (off + i * 3) (atR l i).cells) := ls_range (f := XR.cells) (k := 3) (fun _ => rfl) XR0 h.lies
theorem load_Rul {u : World} {g o : Nat} {cs : List Value} (h : u.rangeAt g o cs) (hl : cs.length = 3) : (loadVar 53 ⟨g, o, none⟩).run Tryz.prog u = .ok (.agg cs.toArray) u :=
  run_loadVar_mid u g o _ cs _ h Tryz.underlying53 rfl (by rw [hl]; kernel_rfl)
end Go.Proofs.YtkfajjnaadmobaaGreatDoor
end
