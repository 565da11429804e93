import Derived.Test.YtoppgalbmijhdaaGreatDoorVal
import Derived.OrdersHeld
import Derived.Deep.RegionHeld3
namespace Go.Proofs.YtoppgalbmijhdaaGreatDoor
open Go.RowKit
set_option linter.unusedVariables false
set_option linter.unusedSimpArgs false

/-! a drawn region over any act: what its operations do (tools/mkregx.py writes such regions out) -/
theorem eval_far (a : Act) {i j : Nat} (v : Value) (h : i ≠ j) : (a.put (some i) v).eval (.tmp j) = a.eval (.tmp j) := Act.eval_put (by intro d hd; cases hd; intro e; exact h (by injection e with e; exact e.symm))
theorem eval_same (a : Act) {i : Nat} (v : Value) (h : i < a.tmps.size) : (a.put (some i) v).eval (.tmp i) = v := by
  simp [Act.eval, Act.put, h]
theorem put_size (a : Act) (i : Nat) (v : Value) : (a.put (some i) v).tmps.size = a.tmps.size := by simp [Act.put]
theorem tmps_far (a : Act) {i j : Nat} (v : Value) (h : i ≠ j) : (a.put (some i) v).tmps[j]? = a.tmps[j]? := by
  simp [Act.put, Array.getElem?_setIfInBounds_ne h]
theorem tmps_same (a : Act) {i : Nat} (v : Value) (h : i < a.tmps.size) : (a.put (some i) v).tmps[i]? = some v := by
  simp [Act.put, Array.getElem?_setIfInBounds_self_of_lt h]
theorem eval_constV (a : Act) (v : Value) : a.eval (.const v) = v := rfl
theorem run_move (ev : Operand → Value) (o : Oper) {x : Operand} (hop : o.op = .move x) (w : World) {v : Value} (hx : ev x = v) : (execOp ev o).run Tryz.prog w = .ok (.value v) w := by
  simp only [execOp, hop, hx]
  go_simp
theorem run_assignV (ev : Operand → Value) (o : Oper) {x : Operand} (hop : o.op = .assign x) (w : World) {v : Value} (hx : ev x = v) : (execOp ev o).run Tryz.prog w = .ok (.value v) w := by
  simp only [execOp, hop, hx]
  go_simp
theorem run_pickT (ev : Operand → Value) (o : Oper) {x y z : Operand} (hop : o.op = .pick x y z) (w : World) {v : Value} (hx : ev x = .bool true) (hy : ev y = v) : (execOp ev o).run Tryz.prog w = .ok (.value v) w := by
  simp only [execOp, hop, hx, hy]
  go_simp
theorem run_pickF (ev : Operand → Value) (o : Oper) {x y z : Operand} (hop : o.op = .pick x y z) (w : World) {v : Value} (hx : ev x = .bool false) (hy : ev z = v) : (execOp ev o).run Tryz.prog w = .ok (.value v) w := by
  simp only [execOp, hop, hx, hy]
  go_simp
theorem run_notV (ev : Operand → Value) (o : Oper) {t : TypeId} {x : Operand} (hop : o.op = .unOp .not t x) (w : World) {b : Bool} (hx : ev x = .bool b) : (execOp ev o).run Tryz.prog w = .ok (.value (.bool (!b))) w := by
  simp only [execOp, hop, hx]
  go_simp
theorem run_binV (ev : Operand → Value) (o : Oper) {p : BinOp} {t u : TypeId} {x y : Operand} (hop : o.op = .binOp p t x y u) (w : World) {a b c : Value} (hx : ev x = a) (hy : ev y = b) (hge : (eqGuard p t x y a b).run Tryz.prog w = .ok () w) (hr : (binOp p t a b).run Tryz.prog w = .ok c w) : (execOp ev o).run Tryz.prog w = .ok (.value c) w := by
  simp only [execOp, hop, hx, hy]
  simp [hge, hr, Result.andThen]
theorem run_callV {P : Program} {o : Oper} {a : Act} {w : World} (f : FuncId) {fn : Func} (hf : P.funcs[f]? = some fn) (hn : (fn.name == "runtime.NumGoroutine") = false) (hb : fn.body.isNone = false) (xs : Array Operand) (tys : Array TypeId) (hop : o.op = Op.call { callee := Callee.value (Operand.func f), args := xs, argTypes := tys }) (vs : Array Value) (hx : xs.map a.eval = vs) : (execOp a.eval o).run P w = .ok (.enter f vs) w := by
  have hn' : ¬ fn.name = "runtime.NumGoroutine" := by simpa using hn
  have hb' : ¬ fn.body = none := by cases h : fn.body <;> simp [h] at hb ⊢
  simp [execOp, hop, resolve, invoke, ← hx, Act.eval, Result.andThen, Deferred.ofValue, callFunc, (show Sem.run P program w = .ok P w from rfl), hf, hn', hb', go_sem]
def isOpG (ops : Array Oper) (i : Nat) (g : Option (Nat × Bool)) (op : Op) (dst : Option Tmp) : Prop := ops[i]?.map (fun o => (o.guard, o.op, o.dst)) = some (g, op, dst)
theorem isOpG_out {ops : Array Oper} {i : Nat} {g : Option (Nat × Bool)} {op : Op} {dst : Option Tmp} (h : isOpG ops i g op dst) : ∃ o, ops[i]? = some o ∧ o.guard = g ∧ o.op = op ∧ o.dst = dst := by
  obtain ⟨o, h1, h2⟩ := Option.map_eq_some_iff.1 h
  simp only [Prod.mk.injEq] at h2
  exact ⟨o, h1, h2.1, h2.2.1, h2.2.2⟩
theorem wantedN {ops : Array Oper} {o : Oper} {a : Act} (hg : o.guard = none) : Region.wanted o (yielded ops a.tmps) = true := by simp [Region.wanted, hg]
theorem wantedB {ops : Array Oper} {g o : Oper} {a : Act} {j d : Nat} {b c : Bool} (h5 : ops[j]? = some g) (d5 : g.dst = some d) (hg : o.guard = some (j, b)) (hv : a.tmps[d]? = some (.bool c)) : Region.wanted o (yielded ops a.tmps) = (c == b) := by
  cases c <;> cases b <;> simp [Region.wanted, hg, yielded, h5, d5, hv]
theorem wpOp_callG {P : Program} {ops : Array Oper} {Q : Exit → Act → World → Prop} {K : Act → World → Prop} {i : Nat} {a : Act} {w : World} {o : Oper} {f : Nat} {vs : Array Value} (hi : ops[i]? = some o) (hw : Region.wanted o (yielded ops a.tmps) = true) (hrun : (execOp a.eval o).run P w = .ok (.enter f vs) w)
    (hc : Calls P f vs w fun e w' => ∃ u, e = .returned u ∧ K (a.put o.dst u) w') : wpOp P ops Q i K a w := by
  unfold wpOp
  rw [hi]
  simp only [hw, if_true]
  refine Or.inl ?_
  unfold Oper.wp
  rw [hrun]
  refine Calls.mono hc ?_
  rintro e w' ⟨u, rfl, hK⟩
  exact hK
def LR (n : Nat) (l : List Nat) : Array Bool := l.foldl (fun a i => a.setIfInBounds i true) (Array.replicate n false)
theorem LR_snoc (n : Nat) (l : List Nat) (i : Nat) : LR n (l ++ [i]) = (LR n l).setIfInBounds i true := by simp [LR]
end Go.Proofs.YtoppgalbmijhdaaGreatDoor
