import Derived.Test.YthdcgikhcghigaaSymSeek
import Derived.Test.YthdcgikhcghigaaRfNext
import Derived.Deep.MidRow
import Derived.Deep.WholeRow
import Derived.Deep.RegionHeld3
import Derived.Deep.Light
import Derived.Deep.DeepCutAuto
namespace Go.Proofs.Ythdcgikhcghigaa
open Go.RowKit Go.Maps Go.Shelf
set_option linter.unusedVariables false
set_option linter.unusedSimpArgs false
attribute [local go_sem ↓] Go.wp_at_zero Go.wp_at_succ

theorem below_drewV {B : Nat} {a w : World} (h : Below B a w) (n : Nat) : Below B a (w.drewN n) := ⟨h.os, h.tape, h.output, h.size, h.block⟩
/-- a block that holds these cells -/
def RL (w : World) (b : Nat) (t : TypeId) (l : List Value) : Prop := w.rowIs b t l.length (fun j => l.getD j .nilIface)
theorem RL.set {w : World} {b : Nat} {t : TypeId} {l : List Value} (h : RL w b t l) (i : Nat) (v : Value) : RL (w.setCell ⟨b, i, none⟩ v) b t (l.set i v) := by
  unfold RL
  rw [List.length_set]
  refine (World.rowIs.set h i v).congr fun j hj => ?_
  by_cases e : j = i
  · subst e
    rw [if_pos rfl]
    simp [List.getD, List.getElem?_set_self hj]
  · rw [if_neg e]
    simp [List.getD, List.getElem?_set_ne (Ne.symm e)]
theorem RL.other {w : World} {b g i : Nat} {t : TypeId} {l : List Value} (h : RL w b t l) (e : b ≠ g) (v : Value) : RL (w.setCell ⟨g, i, none⟩ v) b t l := World.rowIs.setOther h e v
theorem RL.at {w : World} {b : Nat} {t : TypeId} {l : List Value} (h : RL w b t l) {j : Nat} {v : Value} (e : l[j]? = some v) : w.cell? ⟨b, j, none⟩ = some v := by
  obtain ⟨hj, hv⟩ := List.getElem?_eq_some_iff.1 e
  rw [World.rowIs.cell h hj]
  simp [List.getD, e]
theorem RL.below {w w' : World} {b : Nat} {t : TypeId} {l : List Value} (h : RL w b t l) (hb : Below w.heap.size w w') : RL w' b t l := World.rowIs.of_block h (hb.block b (World.rowIs.lt h))
theorem rl_new (w : World) (c : Array Value) (t : TypeId) : RL (w.alloc (.cells c t)) w.heap.size t c.toList := by
  have := World.rowIs_alloc w c t (fun j => c.toList.getD j .nilIface) (fun i hi => by simp [List.getD, hi])
  unfold RL
  rw [Array.length_toList]
  exact this
theorem rl_results {fn : Func} {sl : Nat} {ty : TypeId} (hr : fn.results = #[.cell sl ty]) {W : World} {tmps : Array Value} {b : Nat} {v : Value} (h2 : tmps.getD sl undef = .pointer (some ⟨b, 0, none⟩)) (hl : (loadVar ty ⟨b, 0, none⟩).run Try.prog W = .ok v W) :
    (results fn tmps).run Try.prog W = .ok v W := by
  have e0 : results fn tmps = (do
      let x ← asAddr (tmps.getD sl undef)
      loadVar ty x) := by
    simp [results, hr]
  rw [e0, h2]
  simp [asAddr, hl, Result.andThen]
theorem rl_results3 {fn : Func} {sl s2 : Nat} {ty : TypeId} (hr : fn.results = #[.cell sl ty, .tmp s2]) {W : World} {tmps : Array Value} {b : Nat} {v u : Value} (h2 : tmps.getD sl undef = .pointer (some ⟨b, 0, none⟩)) (h3 : tmps.getD s2 undef = u) (hl : (loadVar ty ⟨b, 0, none⟩).run Try.prog W = .ok v W) :
    (results fn tmps).run Try.prog W = .ok (.tuple #[v, u]) W := by
  have h2' : tmps[sl]?.getD undef = .pointer (some ⟨b, 0, none⟩) := by simpa using h2
  have h3' : tmps[s2]?.getD undef = u := by simpa using h3
  unfold results
  rw [hr]
  simp [h2', h3', asAddr, hl, Result.andThen]
theorem run_loadTab {w : World} {a : Addr} {v : Value} (h : w.cell? a = some v) : (loadVar 24 a).run Try.prog w = .ok v w := by
  simp [loadVar, go_sem, h]
theorem run_loadRef {w : World} {a : Addr} {v : Value} (h : w.cell? a = some v) : (loadVar 25 a).run Try.prog w = .ok v w := by
  simp [loadVar, go_sem, h]
theorem run_loadInt {w : World} {a : Addr} {v : Value} (h : w.cell? a = some v) : (loadVar 3 a).run Try.prog w = .ok v w := by
  simp [loadVar, go_sem, h]
theorem run_loadNums {w : World} {a : Addr} {v : Value} (h : w.cell? a = some v) : (loadVar 50 a).run Try.prog w = .ok v w := by
  simp [loadVar, go_sem, h]
theorem run_loadSeq {w : World} {a : Addr} {v : Value} (h : w.cell? a = some v) : (loadVar 27 a).run Try.prog w = .ok v w := by
  simp [loadVar, go_sem, h]
theorem run_loadBool {w : World} {a : Addr} {v : Value} (h : w.cell? a = some v) : (loadVar 4 a).run Try.prog w = .ok v w := by
  simp [loadVar, go_sem, h]
theorem run_loadVals {w : World} {a : Addr} {v : Value} (h : w.cell? a = some v) : (loadVar 40 a).run Try.prog w = .ok v w := by
  simp [loadVar, go_sem, h]
/-- a range over a function that tells nothing -/
theorem wpIn_rangeNone {F : Fence} {n : Nat} {P : Program} {g : Operand} {ps : Array Tmp} {assign body : Code} {Q : Exit → Act → World → Prop} {a : Act} {w : World}
    (hro : F.round = none) (h1 : 1 ≤ n) {gf : Nat} {lb : Array Value} (hg : a.eval g = .func (.func gf) #[] lb) (hFg : F.fn gf) (eg : ∀ args w, (callFunc gf args).run P w = .ok (.enter gf args) w)
    (hcall : ∀ (l : Nat) (W : World), Below w.heap.size w W → CallsIn F (n - 1) P gf (#[.func (.yield l) #[] #[]] ++ lb) W fun e W' => (∃ v, e = .returned v) ∧ W' = W)
    (hdone : ∀ (D : Nat) (W : World), w.heap.size ≤ D → Below w.heap.size w W → W.heap[D]? = some (.deferred (some [])) → Q .normal { a with defers := { target := .collected D, args := #[] } :: a.defers } W) :
    (Code.rangeFunc g ps assign body).wpIn F n P Q a w := by
  refine wpIn_rangeTells hro h1 hg hFg eg (encs := fun _ => Array.replicate ps.size undef) (Kp := fun _ _ => True) (N := 0) (w0 := w) ?_ (fun _ _ => trivial) (fun _ _ _ _ _ _ _ _ => trivial) (Below.refl _ _) (fun _ => by simp)
    (fun _ W => Below w.heap.size w W) (fun _ _ _ => False) (ownFrom_below (Nat.le_refl _) (Nat.le_refl _)) (fun _ _ _ _ _ hs _ _ => hs) (Below.refl _ _) (fun _ _ _ => True) (fun _ _ _ _ _ _ _ _ _ => trivial)
    (fun _ _ _ _ hk => absurd hk (Nat.not_lt_zero _)) (fun _ _ _ _ hk => absurd hk (Nat.not_lt_zero _)) (fun D W hD hb hd => hdone D W hD hb hd) (fun _ _ _ _ _ _ hf => hf.elim)
  intro l J Jx W hW _ _ _ hJ
  refine (hcall l W hW).mono ?_
  rintro e W' ⟨he, rfl⟩
  exact ⟨he, .inl hJ⟩
theorem bxB {w w' : World} {B : Nat} {t : TypeId} {v : Value} (h : Boxed w B t v) (hb : Below w.heap.size w w') : Boxed w' B t v := (hb.block B h.lt).trans h
theorem bxN {w : World} {B : Nat} (hB : B = w.heap.size) (t : TypeId) (v : Value) : Boxed (w.alloc (.cells #[v] t)) B t v := hB ▸ Boxed.new w t v
theorem belowA {w : World} (o : Obj) : Below w.heap.size w (w.alloc o) := (Below.refl _ _).alloc (Nat.le_refl _) _
/-- at the end of a call with a range in it: the deferred calls (none) are taken, a result is in its box -/
theorem collected_bool {w W4 W : World} {B D : Nat} {v : Value} (h4 : Below w.heap.size w W4) (hb : Below W4.heap.size W4 W) (hB : Boxed W B 4 v) (hw : w.heap.size ≤ B) (hne : B < D) (hK : W.heap[D]? = some (.deferred (some []))) (x : Value) :
    Hid ((W.setCell ⟨B, 0, none⟩ x).heap[D]? = some (.deferred (some []))) ∧ Hid ((loadVar 4 ⟨B, 0, none⟩).run Try.prog ((W.setCell ⟨B, 0, none⟩ x).putObj D (.deferred none)) = .ok x ((W.setCell ⟨B, 0, none⟩ x).putObj D (.deferred none))) ∧
      Hid (Below w.heap.size w ((W.setCell ⟨B, 0, none⟩ x).putObj D (.deferred none))) := by
  have hK' : (W.setCell ⟨B, 0, none⟩ x).heap[D]? = some (.deferred (some [])) := (heap_setCell_other _ _ _ _ (by show D ≠ B; omega)).trans hK
  have hbx : Boxed ((W.setCell ⟨B, 0, none⟩ x).putObj D (.deferred none)) B 4 x := (World.putObj_heap_other (by omega)).trans (hB.set x)
  exact ⟨hK', run_loadBool hbx.cell, ((h4.trans (hb.mono h4.size)).setCell (p := ⟨B, 0, none⟩) hw x).trans (belowK_b (w := w) (Nat.le_refl _) _ D _ (.deferred none) (by omega) hK' rfl rfl)⟩
/-- a region whose orders all end in the same act and world: what follows is shown once -/
theorem region_once {P : Program} {id : Nat} {ops : Array Oper} {b : Bool} {Q : Exit → Act → World → Prop} {a : Act} {w : World}
    (h : ∃ A V, (Code.region id ops b).wp P (fun e a' w' => e = .normal ∧ a' = A ∧ w' = V) a w ∧ Q .normal A V) : (Code.region id ops b).wp P Q a w := by
  obtain ⟨A, V, h, hk⟩ := h
  exact Code.wp_mono (fun e a' w' h => by obtain ⟨rfl, rfl, rfl⟩ := h; exact hk) h
theorem fn_there (f : Nat) (lb : Array Value) (w : World) : (binOp .eql 27 (.func (.func f) #[] lb) .nilFunc).run Try.prog w = .ok (.bool false) w := by kernel_rfl
theorem fn_gone (w : World) : (binOp .eql 27 .nilFunc .nilFunc).run Try.prog w = .ok (.bool true) w := by kernel_rfl
theorem run_store_nilFunc (P : Program) (w : World) (a : Addr) (m : Mode) : (store a .nilFunc m).run P w = stored P w a .nilFunc m := run_store P w a _ m rfl
theorem run_store_func (P : Program) (w : World) (a : Addr) (m : Mode) (f : Fn) (vs lb : Array Value) : (store a (.func f vs lb) m).run P w = stored P w a (.func f vs lb) m := run_store P w a _ m rfl
end Go.Proofs.Ythdcgikhcghigaa
