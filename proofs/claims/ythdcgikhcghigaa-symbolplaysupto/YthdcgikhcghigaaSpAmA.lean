import Derived.Test.YthdcgikhcghigaaSpAmR
namespace Go.Proofs.Ythdcgikhcghigaa
open Go.RowKit Go.Maps Go.Shelf
set_option linter.unusedVariables false
set_option linter.unusedSimpArgs false

theorem Pa.kept {W W' : World} {pT pR : Value} {mo : Option Int} {mb : Nat} {vs us : List V} {E : Nat → Prop} {row : Option Nat} {B8 : Nat} (h : Pa W pT pR mo mb vs us E) (hg : W.grownBy W' row) (hr : ∀ r, row = some r → B8 ≤ r ∧ ∃ o : Obj, W.heap[r]? = some o ∧ o.isCells = false) (hm : mb < B8) : Pa W' pT pR mo mb vs us E := by
  refine h.blocks (fun k hk => hg.block k (h.lt hk) (fun e => ?_))
  obtain ⟨h1, o, ho, hcl⟩ := hr _ e.symm
  rcases h.cells hk with e2 | ⟨c, t, hc⟩
  · omega
  · rw [hc] at ho
    cases ho
    simp [Obj.isCells] at hcl
/-- amid the range: up to the m-th one all is as it was; behind it the pair is turned -/
structure Am (W8 : World) (E : Nat → Prop) (kb : Nat) (pT pR : Value) (mo : Option Int) (mb : Nat) (vs : List V) (mm : Int) (k : Nat) (W : World) : Prop where
  st : ((k : Int) ≤ mm ∧ Pa W pT pR mo mb vs vs E) ∨ (mm < (k : Int) ∧ ∃ vs' E', Pa W pT pR mo mb vs' vs' E' ∧ (∀ q, E' q → E q ∨ W8.heap.size ≤ q) ∧ vs'.length ≤ vs.length + 49)
  fx : Tc (fun q => E q ∨ q = kb) W8 W
  bk : Boxed W kb 3 (.int .i64 (k : Int))
section
variable {W8 W W' : World} {E : Nat → Prop} {kb : Nat} {pT pR : Value} {mo : Option Int} {mb : Nat} {vs : List V} {mm : Int} {k : Nat}
theorem Am.keep (h : Am W8 E kb pT pR mo mb vs mm k W) (hb : Below W.heap.size W W') : Am W8 E kb pT pR mo mb vs mm k W' := by
  refine ⟨?_, h.fx.trans (Tc.of (E := fun q => E q ∨ q = kb) hb) (fun _ _ e => e), bxB h.bk hb⟩
  rcases h.st with ⟨e, h1⟩ | ⟨e, vs', E', h1, h2, h3⟩
  · exact .inl ⟨e, h1.keep hb⟩
  · exact .inr ⟨e, vs', E', h1.keep hb, h2, h3⟩
theorem Am.kept (h : Am W8 E kb pT pR mo mb vs mm k W) {row : Option Nat} (hg : W.grownBy W' row) (hr : ∀ r, row = some r → W8.heap.size ≤ r ∧ ∃ o : Obj, W.heap[r]? = some o ∧ o.isCells = false) (hm : mb < W8.heap.size) (hk : kb < W8.heap.size) : Am W8 E kb pT pR mo mb vs mm k W' := by
  refine ⟨?_, ⟨hg.os.trans h.fx.os, hg.tape.trans h.fx.tape, hg.output.trans h.fx.output, Nat.le_trans h.fx.size hg.size, fun q hq hn => (hg.block q (Nat.lt_of_lt_of_le hq h.fx.size) (fun e => by have := (hr _ e.symm).1; omega)).trans (h.fx.block q hq hn)⟩, h.bk.kept hg (fun e => by have := (hr _ e.symm).1; omega)⟩
  rcases h.st with ⟨e, h1⟩ | ⟨e, vs', E', h1, h2, h3⟩
  · exact .inl ⟨e, h1.kept hg hr hm⟩
  · exact .inr ⟨e, vs', E', h1.kept hg hr hm, h2, h3⟩
theorem Am.start (h : Pa W8 pT pR mo mb vs vs E) (hb : Boxed W8 kb 3 (.int .i64 0)) : Am W8 E kb pT pR mo mb vs mm 0 W8 := by
  refine ⟨?_, Tc.refl _ _, hb⟩
  by_cases h0 : (0 : Int) ≤ mm
  · exact .inl ⟨h0, h⟩
  · exact .inr ⟨by simp; omega, vs, E, h, fun q hq => .inl hq, by omega⟩
end
theorem tc_keepsFrom {E : Nat → Prop} {V X : World} {B : Nat} (h : Tc E V X) (hE : ∀ q, E q → q < B) : KeepsFrom B V X :=
  ⟨h.size, fun k ob hk ho _ => (h.block k (Array.getElem?_eq_some_iff.1 ho).1 (fun e => by have := hE k e; omega)).trans ho⟩
theorem tc_kpf {E : Nat → Prop} {V X : World} {B : Nat} (h : Tc E V X) (hE : ∀ q, E q → q < B) : KpF B V X := fun q c t hq hc => h.block q (Array.getElem?_eq_some_iff.1 hc).1 (fun e => by have := hE q e; omega)
theorem kpf_set {B : Nat} {V X : World} {kb i : Nat} {v : Value} (h : KpF B V X) (hk : kb < B) : KpF B V (X.setCell ⟨kb, i, none⟩ v) := fun q c t hq hc => (heap_setCell_other _ _ _ _ (by show q ≠ kb; omega)).trans (h q c t hq hc)
/-- at the end of a call with a range in it -/
theorem collectedT {W : World} {B D : Nat} {v : Value} (hB : Boxed W B 4 v) (hK : W.heap[D]? = some (.deferred (some []))) (x : Value) :
    D ≠ B ∧ Hid ((W.setCell ⟨B, 0, none⟩ x).heap[D]? = some (.deferred (some []))) ∧ Hid ((loadVar 4 ⟨B, 0, none⟩).run Try.prog ((W.setCell ⟨B, 0, none⟩ x).putObj D (.deferred none)) = .ok x ((W.setCell ⟨B, 0, none⟩ x).putObj D (.deferred none))) := by
  have hne : D ≠ B := by
    rintro rfl
    rw [show W.heap[D]? = _ from hB] at hK
    cases hK
  have hK' : (W.setCell ⟨B, 0, none⟩ x).heap[D]? = some (.deferred (some [])) := (heap_setCell_other _ _ _ _ (by exact hne)).trans hK
  have hbx : Boxed ((W.setCell ⟨B, 0, none⟩ x).putObj D (.deferred none)) B 4 x := (World.putObj_heap_other (by omega)).trans (hB.set x)
  exact ⟨hne, hK', run_loadBool hbx.cell⟩
/-- behind the range: what is there -/
theorem Am.done {w W8 W : World} {E : Nat → Prop} {kb br D k : Nat} {pT pR x : Value} {mo : Option Int} {mb : Nat} {vs : List V} {mm : Int} (h : Am W8 E kb pT pR mo mb vs mm k W) (hE : ∀ q, E q → q < w.heap.size) (hm : mb < w.heap.size) (hb8 : Below w.heap.size w W8) (hbr : w.heap.size ≤ br ∧ br < W8.heap.size) (hkb : w.heap.size ≤ kb) (hD : W8.heap.size ≤ D) (hK : W.heap[D]? = some (.deferred (some []))) :
    ∃ vs' E', Pa ((W.setCell ⟨br, 0, none⟩ x).putObj D (.deferred none)) pT pR mo mb vs' vs' E' ∧ Gs E E' w ((W.setCell ⟨br, 0, none⟩ x).putObj D (.deferred none)) ∧ vs'.length ≤ vs.length + 49 := by
  have hz8 := hb8.size
  have same : ∀ q, q ≠ br → q ≠ D → ((W.setCell ⟨br, 0, none⟩ x).putObj D (.deferred none)).heap[q]? = W.heap[q]? := fun q h1 h2 => (World.putObj_heap_other (by omega)).trans (heap_setCell_other _ _ _ _ (by exact h1))
  have hsz : W.heap.size ≤ ((W.setCell ⟨br, 0, none⟩ x).putObj D (.deferred none)).heap.size := by simp [World.putObj]
  have tc : Tc E w ((W.setCell ⟨br, 0, none⟩ x).putObj D (.deferred none)) := ⟨h.fx.os.trans hb8.os, h.fx.tape.trans hb8.tape, h.fx.output.trans hb8.output, Nat.le_trans (Nat.le_trans hz8 h.fx.size) hsz, fun q hq hn => by
    refine (same q (by omega) (by omega)).trans ((h.fx.block q (by omega) ?_).trans (hb8.block q hq))
    rintro (e | e)
    · exact hn e
    · omega⟩
  have fin : ∀ {vs' : List V} {E' : Nat → Prop}, Pa W pT pR mo mb vs' vs' E' → (∀ q, E' q → E q ∨ W8.heap.size ≤ q) → Pa ((W.setCell ⟨br, 0, none⟩ x).putObj D (.deferred none)) pT pR mo mb vs' vs' E' ∧ Gs E E' w ((W.setCell ⟨br, 0, none⟩ x).putObj D (.deferred none)) := fun {vs' E'} hp he => by
    refine ⟨hp.blocks (fun q hq => same q ?_ ?_), tc, fun q hq => (he q hq).imp id (fun e => by omega)⟩
    · rcases he q hq with e | e
      · have := hE q e; omega
      · omega
    · intro e
      rcases hp.cells hq with e2 | ⟨c, t, hc⟩
      · omega
      · rw [e, hK] at hc
        cases hc
  rcases h.st with ⟨_, h1⟩ | ⟨_, vs', E', h1, h2, h3⟩
  · exact ⟨vs, E, (fin h1 (fun q hq => .inl hq)).1, (fin h1 (fun q hq => .inl hq)).2, by omega⟩
  · exact ⟨vs', E', (fin h1 h2).1, (fin h1 h2).2, h3⟩
end Go.Proofs.Ythdcgikhcghigaa
