import Derived.Test.YtfklpedcigdlmaaDoorRgGen
import Derived.Test.YtfklpedcigdlmaaDoorG4
import Derived.Test.YtfklpedcigdlmaaDoorG42
namespace Go.Proofs.YtfklpedcigdlmaaDoor
open Go.RowKit Go.Maps
set_option linter.unusedVariables false
set_option linter.unusedSimpArgs false
attribute [local go_sem ↓] Go.wp_at_zero Go.wp_at_succ

/-- nothing changes but some blocks, and new ones -/
structure Tz (ex : Nat → Prop) (w w' : World) : Prop where
  os : w'.os = w.os
  tape : w'.tape = w.tape
  output : w'.output = w.output
  size : w.heap.size ≤ w'.heap.size
  block : ∀ b, b < w.heap.size → ¬ ex b → w'.heap[b]? = w.heap[b]?
theorem Tz.refl (ex : Nat → Prop) (w : World) : Tz ex w w := ⟨rfl, rfl, rfl, Nat.le_refl _, fun _ _ _ => rfl⟩
theorem Tz.of_below {ex : Nat → Prop} {w w' : World} (h : Below w.heap.size w w') : Tz ex w w' := ⟨h.os, h.tape, h.output, h.size, fun b hb _ => h.block b hb⟩
theorem Tz.trans {ex ex' : Nat → Prop} {w w' w'' : World} (h : Tz ex w w') (k : Tz ex' w' w'') (hs : ∀ b, b < w.heap.size → ex' b → ex b) : Tz ex w w'' :=
  ⟨k.os.trans h.os, k.tape.trans h.tape, k.output.trans h.output, Nat.le_trans h.size k.size, fun b hb he => (k.block b (Nat.lt_of_lt_of_le hb h.size) (fun e => he (hs b hb e))).trans (h.block b hb he)⟩
theorem Tz.below {ex : Nat → Prop} {B : Nat} {w0 w w' : World} (h : Below B w0 w) (k : Tz ex w w') (hz : B ≤ w.heap.size) (he : ∀ b, ex b → B ≤ b) : Below B w0 w' :=
  ⟨k.os.trans h.os, k.tape.trans h.tape, k.output.trans h.output, Nat.le_trans h.size k.size, fun b hb => (k.block b (by omega) (fun e => by have := he b e; omega)).trans (h.block b hb)⟩
theorem belowA {w : World} (o : Obj) : Below w.heap.size w (w.alloc o) := (Below.refl _ _).alloc (Nat.le_refl _) _
theorem takeXL {l : List XL} {k : Nat} (h : k < l.length) : l.take (k + 1) = l.take k ++ [atL l k] := by rw [List.take_add_one, List.getElem?_eq_getElem h, atL_eq h]; rfl
theorem load_s {u : World} {a : Addr} {s : ByteArray} (h : u.cell? a = some (.string s)) : (loadVar 9 a).run Tryd.prog u = .ok (.string s) u := by rw [loadVar.eq_1]; go_simp
theorem load_kind {u : World} {a : Addr} {k : Int} (h : u.cell? a = some (.int .i8 k)) : (loadVar 67 a).run Tryd.prog u = .ok (.int .i8 k) u := by go_simp
theorem load_AtL {u : World} {g o : Nat} {cs : List Value} (h : u.rangeAt g o cs) (hl : cs.length = 2) : (loadVar 70 ⟨g, o, none⟩).run Tryd.prog u = .ok (.agg cs.toArray) u :=
  run_loadVar_mid u g o _ cs _ h Tryd.underlying70 rfl (by rw [hl]; kernel_rfl)
theorem wpOp_valG {P : Program} {ops : Array Oper} {Q : Exit → Act → World → Prop} {K : Act → World → Prop} {i : Nat} {a : Act} {w w' : World} {o : Oper} {v : Value} (hi : ops[i]? = some o) (hw : Region.wanted o (yielded ops a.tmps) = true) (hrun : (execOp a.eval o).run P w = .ok (.value v) w') (hK : K (a.put o.dst v) w') : wpOp P ops Q i K a w := by
  unfold wpOp
  rw [hi]
  simp only [hw, if_true]
  refine Or.inl ?_
  unfold Oper.wp
  rw [hrun]
  exact hK
theorem run_loadS (ev : Operand → Value) (o : Oper) {ty : TypeId} {x : Operand} (hop : o.op = .load ty x) (w : World) {a : Addr} {v : Value} (hx : ev x = .pointer (some a)) (hl : (loadVar ty a).run Tryd.prog w = .ok v w) : (execOp ev o).run Tryd.prog w = .ok (.value v) w := by
  simp only [execOp, hop, hx]
  simp [Instr.loadAt, Instr.sureAddr, hl, Result.andThen]
theorem run_nilC (ev : Operand → Value) (o : Oper) {x : Operand} (hop : o.op = .nilCheck x) (w : World) {a : Addr} (hx : ev x = .pointer (some a)) : (execOp ev o).run Tryd.prog w = .ok (.value (.pointer (some a))) w := by
  simp only [execOp, hop, hx]
  go_simp
theorem run_fldR1 (ev : Operand → Value) (o : Oper) {x : Operand} (hop : o.op = .fieldAddr 45 x 1) (w : World) {be : Nat} (hx : ev x = .pointer (some ⟨be, 0, none⟩)) : (execOp ev o).run Tryd.prog w = .ok (.value (.pointer (some ⟨be, 1, none⟩))) w := by
  simp only [execOp, hop, hx]
  go_simp
theorem run_fldR2 (ev : Operand → Value) (o : Oper) {x : Operand} (hop : o.op = .fieldAddr 45 x 2) (w : World) {be : Nat} (hx : ev x = .pointer (some ⟨be, 0, none⟩)) : (execOp ev o).run Tryd.prog w = .ok (.value (.pointer (some ⟨be, 2, none⟩))) w := by
  simp only [execOp, hop, hx]
  go_simp
theorem heap_setTwo {u : World} {b4 b5 k : Nat} {v v' : Value} (h4 : k ≠ b4) (h5 : k ≠ b5) : ((u.setCell ⟨b4, 0, none⟩ v).setCell ⟨b4, 1, none⟩ v').heap[k]? = u.heap[k]? := by
  rw [heap_setCell_other _ _ _ _ (by show k ≠ b4; exact h4), heap_setCell_other _ _ _ _ (by show k ≠ b4; exact h4)]
attribute [-go_sem] loadVar storeVar
theorem rule_loads {u : World} {b : Nat} {r : R3} {p : RP} (h : RL u b 45 (r.cells p)) :
    (loadVar 45 ⟨b, 0, none⟩).run Tryd.prog u = .ok (r.val p) u ∧ (loadVar 43 ⟨b, 2, none⟩).run Tryd.prog u = .ok (.slice p.ba r.bd.length p.bc) u ∧ (loadVar 42 ⟨b, 1, none⟩).run Tryd.prog u = .ok (.slice p.a r.hd.length p.c) u := by
  refine ⟨run_loadVar_mid _ _ 0 45 (r.cells p) _ (RL.range h) Tryd.underlying45 rfl (by kernel_rfl), ?_, ?_⟩
  · have := RL.at h (j := 2) rfl
    rw [loadVar.eq_1]
    go_simp
  · have := RL.at h (j := 1) rfl
    rw [loadVar.eq_1]
    go_simp
theorem lit_atom {u : World} {b : Nat} {y : XL} (h : RL u b 82 y.cells) :
    (loadVar 67 ⟨b, 0, none⟩).run Tryd.prog u = .ok (.int .i8 y.x.k) u ∧ (loadVar 70 ⟨b, 1, none⟩).run Tryd.prog u = .ok (.agg #[.string y.x.pr, .slice y.p.a y.x.ts.length y.p.c]) u := by
  refine ⟨load_kind (RL.at h (j := 0) rfl), ?_⟩
  refine load_AtL (cs := [.string y.x.pr, .slice y.p.a y.x.ts.length y.p.c]) (fun j v hj => ?_) rfl
  match j, hj with
  | 0, hj => simp at hj; subst hj; exact RL.at h (j := 1) rfl
  | 1, hj => simp at hj; subst hj; exact RL.at h (j := 2) rfl
end Go.Proofs.YtfklpedcigdlmaaDoor
