import Derived.Test.YtnpmhgjbfkgmdaaDoorTermIs
import Derived.Test.YtnpmhgjbfkgmdaaDoorRowGen
import Derived.Deep.DeepCutAuto
namespace Go.Proofs.YtnpmhgjbfkgmdaaDoor
open Go.RowKit Go.Maps
set_option linter.unusedVariables false
set_option linter.unusedSimpArgs false
attribute [local go_sem ↓] Go.wp_at_zero Go.wp_at_succ

/-- a step of a region that draws: a call of a function, by its contract -/
theorem step_call {P : Program} {ops : Array Oper} {o : Oper} {a : Act} {w : World} {K : Act → World → Prop} {Q : Exit → Act → World → Prop} {E : Prop}
    (hg : o.guard = none) (f : FuncId) {fn : Func} (hf : P.funcs[f]? = some fn) (hn : (fn.name == "runtime.NumGoroutine") = false) (hb : fn.body.isNone = false) (xs : Array Operand) (tys : Array TypeId) (hop : o.op = Op.call { callee := Callee.value (Operand.func f), args := xs, argTypes := tys }) (vs : Array Value) (hx : xs.map a.eval = vs)
    {post : Ending → World → Prop} (hc : Calls P f vs w post) (hK : ∀ e w', post e w' → ∃ v, e = .returned v ∧ K (a.put o.dst v) w') :
    if Region.wanted o (yielded ops a.tmps) = true then Oper.wp P o a w K Q else E := by
  have hw : Region.wanted o (yielded ops a.tmps) = true := by simp [Region.wanted, hg]
  rw [if_pos hw]
  have he : (execOp a.eval o).run P w = .ok (.enter f vs) w := by
    have hn' : ¬ fn.name = "runtime.NumGoroutine" := by simpa using hn
    have hb' : ¬ fn.body = none := by cases h : fn.body <;> simp [h] at hb ⊢
    simp [execOp, hop, resolve, invoke, ← hx, Act.eval, Result.andThen, Deferred.ofValue, callFunc, (show Sem.run P program w = .ok P w from rfl), hf, hn', hb', go_sem]
  unfold Oper.wp
  rw [he, Oper.upon_enter]
  refine hc.mono fun e w' h => ?_
  obtain ⟨v, rfl, hk⟩ := hK e w' h
  exact hk
theorem noS_list : noS.toList = [] := by rw [ByteArray.toList_eq]; rfl
theorem blank_list : blankS.toList = [95] := by rw [ByteArray.toList_eq]; rfl
theorem empty_not {s : ByteArray} (h : ¬ s = noS) : s.toList.isEmpty = false := by
  cases e : s.toList with
  | nil => exact absurd (toList_inj (by rw [e, noS_list])) h
  | cons a b => rfl
theorem blank_not {s : ByteArray} (h : ¬ s = blankS) : (s.toList == [95]) = false := by
  rw [beq_eq_false_iff_ne]
  exact fun e => h (toList_inj (by rw [e, blank_list]))
end Go.Proofs.YtnpmhgjbfkgmdaaDoor
