import Derived.Test.YtkgoceomkkohmaaDoorVal
import Derived.OrdersHeld
import Derived.Deep.RegionHeld3
import Derived.Test.YtkgoceomkkohmaaDoorRowGen
namespace Go.Proofs.YtkgoceomkkohmaaDoor
open Go.RowKit
set_option linter.unusedVariables false
set_option linter.unusedSimpArgs false

/-! a drawn region over any act: what its operations do (tools/mkregx.py writes such regions out) -/
theorem eval_far (a : Act) {i j : Nat} (v : Value) (h : i ≠ j) : (a.put (some i) v).eval (.tmp j) = a.eval (.tmp j) := Act.eval_put (by intro d hd; cases hd; intro e; exact h (by injection e with e; exact e.symm))
theorem eval_same (a : Act) {i : Nat} (v : Value) (h : i < a.tmps.size) : (a.put (some i) v).eval (.tmp i) = v := by
  simp [Act.eval, Act.put, h]
theorem put_size (a : Act) (i : Nat) (v : Value) : (a.put (some i) v).tmps.size = a.tmps.size := by simp [Act.put]
theorem tmps_far (a : Act) {i j : Nat} (v : Value) (h : i ≠ j) : (a.put (some i) v).tmps[j]? = a.tmps[j]? := by
  simp [Act.put, Array.getElem?_setIfInBounds_ne h]
theorem tmps_same (a : Act) {i : Nat} (v : Value) (h : i < a.tmps.size) : (a.put (some i) v).tmps[i]? = some v := by
  simp [Act.put, Array.getElem?_setIfInBounds_self_of_lt h]
theorem eval_constV (a : Act) (v : Value) : a.eval (.const v) = v := rfl
theorem run_move (ev : Operand → Value) (o : Oper) {x : Operand} (hop : o.op = .move x) (w : World) {v : Value} (hx : ev x = v) : (execOp ev o).run Tryd.prog w = .ok (.value v) w := by
  simp only [execOp, hop, hx]
  go_simp
theorem run_assignV (ev : Operand → Value) (o : Oper) {x : Operand} (hop : o.op = .assign x) (w : World) {v : Value} (hx : ev x = v) : (execOp ev o).run Tryd.prog w = .ok (.value v) w := by
  simp only [execOp, hop, hx]
  go_simp
theorem run_pickT (ev : Operand → Value) (o : Oper) {x y z : Operand} (hop : o.op = .pick x y z) (w : World) {v : Value} (hx : ev x = .bool true) (hy : ev y = v) : (execOp ev o).run Tryd.prog w = .ok (.value v) w := by
  simp only [execOp, hop, hx, hy]
  go_simp
theorem run_pickF (ev : Operand → Value) (o : Oper) {x y z : Operand} (hop : o.op = .pick x y z) (w : World) {v : Value} (hx : ev x = .bool false) (hy : ev z = v) : (execOp ev o).run Tryd.prog w = .ok (.value v) w := by
  simp only [execOp, hop, hx, hy]
  go_simp
theorem run_notV (ev : Operand → Value) (o : Oper) {t : TypeId} {x : Operand} (hop : o.op = .unOp .not t x) (w : World) {b : Bool} (hx : ev x = .bool b) : (execOp ev o).run Tryd.prog w = .ok (.value (.bool (!b))) w := by
  simp only [execOp, hop, hx]
  go_simp
theorem run_binV (ev : Operand → Value) (o : Oper) {p : BinOp} {t u : TypeId} {x y : Operand} (hop : o.op = .binOp p t x y u) (w : World) {a b c : Value} (hx : ev x = a) (hy : ev y = b) (hge : (eqGuard p t x y a b).run Tryd.prog w = .ok () w) (hr : (binOp p t a b).run Tryd.prog w = .ok c w) : (execOp ev o).run Tryd.prog w = .ok (.value c) w := by
  simp only [execOp, hop, hx, hy]
  simp [hge, hr, Result.andThen]
theorem run_callV {P : Program} {o : Oper} {a : Act} {w : World} (f : FuncId) {fn : Func} (hf : P.funcs[f]? = some fn) (hn : (fn.name == "runtime.NumGoroutine") = false) (hb : fn.body.isNone = false) (xs : Array Operand) (tys : Array TypeId) (hop : o.op = Op.call { callee := Callee.value (Operand.func f), args := xs, argTypes := tys }) (vs : Array Value) (hx : xs.map a.eval = vs) : (execOp a.eval o).run P w = .ok (.enter f vs) w := by
  have hn' : ¬ fn.name = "runtime.NumGoroutine" := by simpa using hn
  have hb' : ¬ fn.body = none := by cases h : fn.body <;> simp [h] at hb ⊢
  simp [execOp, hop, resolve, invoke, ← hx, Act.eval, Result.andThen, Deferred.ofValue, callFunc, (show Sem.run P program w = .ok P w from rfl), hf, hn', hb', go_sem]
def isOpG (ops : Array Oper) (i : Nat) (g : Option (Nat × Bool)) (op : Op) (dst : Option Tmp) : Prop := ops[i]?.map (fun o => (o.guard, o.op, o.dst)) = some (g, op, dst)
theorem isOpG_out {ops : Array Oper} {i : Nat} {g : Option (Nat × Bool)} {op : Op} {dst : Option Tmp} (h : isOpG ops i g op dst) : ∃ o, ops[i]? = some o ∧ o.guard = g ∧ o.op = op ∧ o.dst = dst := by
  obtain ⟨o, h1, h2⟩ := Option.map_eq_some_iff.1 h
  simp only [Prod.mk.injEq] at h2
  exact ⟨o, h1, h2.1, h2.2.1, h2.2.2⟩
theorem wantedN {ops : Array Oper} {o : Oper} {a : Act} (hg : o.guard = none) : Region.wanted o (yielded ops a.tmps) = true := by simp [Region.wanted, hg]
theorem wantedB {ops : Array Oper} {g o : Oper} {a : Act} {j d : Nat} {b c : Bool} (h5 : ops[j]? = some g) (d5 : g.dst = some d) (hg : o.guard = some (j, b)) (hv : a.tmps[d]? = some (.bool c)) : Region.wanted o (yielded ops a.tmps) = (c == b) := by
  cases c <;> cases b <;> simp [Region.wanted, hg, yielded, h5, d5, hv]
theorem wpOp_callG {P : Program} {ops : Array Oper} {Q : Exit → Act → World → Prop} {K : Act → World → Prop} {i : Nat} {a : Act} {w : World} {o : Oper} {f : Nat} {vs : Array Value} (hi : ops[i]? = some o) (hw : Region.wanted o (yielded ops a.tmps) = true) (hrun : (execOp a.eval o).run P w = .ok (.enter f vs) w)
    (hc : Calls P f vs w fun e w' => ∃ u, e = .returned u ∧ K (a.put o.dst u) w') : wpOp P ops Q i K a w := by
  unfold wpOp
  rw [hi]
  simp only [hw, if_true]
  refine Or.inl ?_
  unfold Oper.wp
  rw [hrun]
  refine Calls.mono hc ?_
  rintro e w' ⟨u, rfl, hK⟩
  exact hK
def LR (n : Nat) (l : List Nat) : Array Bool := l.foldl (fun a i => a.setIfInBounds i true) (Array.replicate n false)
theorem LR_snoc (n : Nat) (l : List Nat) (i : Nat) : LR n (l ++ [i]) = (LR n l).setIfInBounds i true := by simp [LR]
open Go.RowKit
set_option linter.unusedVariables false
set_option linter.unusedSimpArgs false

/-! TermMeans' region 37, over any act: three calls in a chain, a cell that is laid at any time between them, and a store: by states, an act known only by what it holds -/
theorem foldl_sets (b : Array Value) (i : Nat) : ∀ (js : List Nat) (t : Array Value), t.size = b.size → (js.foldl (fun t j => t.setIfInBounds j (b.getD j undef)) t)[i]? = if i ∈ js then b[i]? else t[i]?
  | [], t, _ => by simp
  | j :: js, t, h => by
    rw [List.foldl_cons, foldl_sets b i js _ (by simpa using h)]
    by_cases h1 : i ∈ js
    · simp [h1]
    · rw [if_neg h1]
      by_cases h2 : i = j
      · subst h2
        rw [if_pos List.mem_cons_self]
        by_cases h3 : i < t.size
        · rw [Array.getElem?_setIfInBounds_self_of_lt h3, Array.getD_eq_getD_getElem?, Array.getElem?_eq_getElem (by omega)]
          rfl
        · rw [Array.getElem?_eq_none (by simp; omega), Array.getElem?_eq_none (by omega)]
      · rw [if_neg (by simp [h1, h2]), Array.getElem?_setIfInBounds_ne (Ne.symm h2)]
/-- an act that holds what another holds, but for some slots -/
def Ag (js : List Nat) (a0 a : Act) : Prop := a.tmps.size = a0.tmps.size ∧ a.defers = a0.defers ∧ ∀ i, i ∉ js → a.tmps[i]? = a0.tmps[i]?
theorem Ag.refl (js : List Nat) (a : Act) : Ag js a a := ⟨rfl, rfl, fun _ _ => rfl⟩
theorem Ag.put {js : List Nat} {a0 a : Act} (h : Ag js a0 a) {i : Nat} (hi : i ∈ js) (v : Value) : Ag js a0 (a.put (some i) v) :=
  ⟨by simpa [Act.put] using h.1, h.2.1, fun k hk => by
    rw [show (a.put (some i) v).tmps = a.tmps.setIfInBounds i v from rfl, Array.getElem?_setIfInBounds_ne (by rintro rfl; exact hk hi)]
    exact h.2.2 k hk⟩
theorem Ag.put0 {js : List Nat} {a0 a : Act} (h : Ag js a0 a) (v : Value) : Ag js a0 (a.put none v) := h
theorem Ag.eval {js : List Nat} {a0 a : Act} (h : Ag js a0 a) {i : Nat} (hi : i ∉ js) : a.eval (.tmp i) = a0.eval (.tmp i) := by
  have := h.2.2 i hi
  simp only [Act.eval]
  simp [this]
theorem Ag.form {js : List Nat} {a0 a : Act} (h : Ag js a0 a) : a = { a0 with tmps := js.foldl (fun t j => t.setIfInBounds j (a.tmps.getD j undef)) a0.tmps } := by
  obtain ⟨h1, h2, h3⟩ := h
  cases a with
  | mk t ds =>
    simp only at h1 h2 h3 ⊢
    subst h2
    congr 1
    apply Array.ext_getElem?
    intro i
    rw [foldl_sets t i js _ h1.symm]
    by_cases hi : i ∈ js
    · rw [if_pos hi]
    · rw [if_neg hi, h3 i hi]
theorem wpOp_valG {P : Program} {ops : Array Oper} {Q : Exit → Act → World → Prop} {K : Act → World → Prop} {i : Nat} {a : Act} {w w' : World} {o : Oper} {v : Value} (hi : ops[i]? = some o) (hw : Region.wanted o (yielded ops a.tmps) = true) (hrun : (execOp a.eval o).run P w = .ok (.value v) w') (hK : K (a.put o.dst v) w') : wpOp P ops Q i K a w := by
  unfold wpOp
  rw [hi]
  simp only [hw, if_true]
  refine Or.inl ?_
  unfold Oper.wp
  rw [hrun]
  exact hK
theorem wpOp_skipG {P : Program} {ops : Array Oper} {Q : Exit → Act → World → Prop} {K : Act → World → Prop} {i : Nat} {a : Act} {w w' : World} {o : Oper} (hi : ops[i]? = some o) (hw : Region.wanted o (yielded ops a.tmps) = true) (hrun : (execOp a.eval o).run P w = .ok .skip w') (hK : K (a.put o.dst undef) w') : wpOp P ops Q i K a w := by
  unfold wpOp
  rw [hi]
  simp only [hw, if_true]
  refine Or.inl ?_
  unfold Oper.wp
  rw [hrun]
  exact hK
theorem run_allocV (ev : Operand → Value) (o : Oper) (hop : o.op = .alloc 26) (w : World) : (execOp ev o).run Tryd.prog w = .ok (.value (.pointer (some ⟨w.heap.size, 0, none⟩))) (w.alloc (.cells #[.int .i8 0, .int .i64 0, .string ⟨#[]⟩] 26)) := by
  simp only [execOp, hop]
  go_simp
theorem run_storeV (ev : Operand → Value) (o : Oper) {x y : Operand} (hop : o.op = .store 26 x y) (w : World) {b : Nat} {k n : Int} {s : ByteArray} {cs : List Value} (hx : ev x = .pointer (some ⟨b, 0, none⟩)) (hy : ev y = .agg #[.int .i8 k, .int .i64 n, .string s]) (hr : RL w b 26 [.int .i8 0, .int .i64 0, .string ⟨#[]⟩]) :
    (execOp ev o).run Tryd.prog w = .ok .skip (((w.setCell ⟨b, 0, none⟩ (.int .i8 k)).setCell ⟨b, 1, none⟩ (.int .i64 n)).setCell ⟨b, 2, none⟩ (.string s)) := by
  have c0 := hr.at (j := 0) rfl
  have c1 := hr.at (j := 1) rfl
  have c2 := hr.at (j := 2) rfl
  have f0 := World.rowIs.frozen hr 0
  have f1 := World.rowIs.frozen hr 1
  have f2 := World.rowIs.frozen hr 2
  simp only [execOp, hop, hx, hy]
  go_simp
theorem run_extrV (ev : Operand → Value) (o : Oper) {x : Operand} (hop : o.op = .extract x 0) (w : World) {u v : Value} (hx : ev x = .tuple #[u, v]) : (execOp ev o).run Tryd.prog w = .ok (.value u) w := by
  simp only [execOp, hop, hx]
  go_simp
theorem run_extrW (ev : Operand → Value) (o : Oper) {x : Operand} (hop : o.op = .extract x 1) (w : World) {u v : Value} (hx : ev x = .tuple #[u, v]) : (execOp ev o).run Tryd.prog w = .ok (.value v) w := by
  simp only [execOp, hop, hx]
  go_simp
theorem run_loadG (ev : Operand → Value) (o : Oper) {ty : TypeId} {x : Operand} (hop : o.op = .load ty x) (w : World) {a : Addr} {v : Value} (hx : ev x = .pointer (some a)) (hl : (loadVar ty a).run Tryd.prog w = .ok v w) : (execOp ev o).run Tryd.prog w = .ok (.value v) w := by
  simp only [execOp, hop, hx]
  simp [Instr.loadAt, Instr.sureAddr, hl, Result.andThen]
theorem eval_sameA {js : List Nat} {a0 a : Act} (h : Ag js a0 a) {i : Nat} (v : Value) (hi : i < a0.tmps.size) : (a.put (some i) v).eval (.tmp i) = v := eval_same a v (by rw [h.1]; exact hi)
def js37 : List Nat := [20, 21, 171, 172, 173, 174, 175, 176, 177, 178]
def takes37 : List (List Nat × Nat) := [([], 0), ([0], 2), ([0, 2, 1, 3, 4], 5), ([0, 2, 1, 3, 4, 5], 6), ([0, 2, 1, 3, 4, 5, 6], 7), ([0, 2, 1, 3, 8, 4], 5), ([0, 2, 1, 3, 8, 4, 5], 6), ([0, 2, 1, 3, 8, 4, 5, 6], 7), ([0, 2, 1, 3, 4, 5, 6, 7, 8, 9], 10)]
set_option maxHeartbeats 3200000 in
theorem reg37 {ops : Array Oper} {Q : Exit → Act → World → Prop} {a0 : Act} {w5 : World} {b3 : Nat} {own ev : Value} {k n : Int} {s : ByteArray} {b : Bool} {t1 t3 t4 : Array TypeId}
    (q0 : isOpG ops 0 none (.move (.tmp 10)) (some 172))
    (q1 : isOpG ops 1 none (.call { callee := .value (.func 12), args := #[.tmp 172], argTypes := t1 }) (some 173))
    (q2 : isOpG ops 2 none (.load 31 (.tmp 3)) (some 174))
    (q3 : isOpG ops 3 none (.call { callee := .value (.func 11), args := #[.tmp 173, .tmp 174], argTypes := t3 }) (some 175))
    (q4 : isOpG ops 4 none (.call { callee := .value (.func 6), args := #[.tmp 175, .const (.slice none 0 0)], argTypes := t4 }) (some 176))
    (q5 : isOpG ops 5 none (.move (.tmp 176)) (some 171))
    (q6 : isOpG ops 6 none (.extract (.tmp 171) 0) (some 177))
    (q7 : isOpG ops 7 none (.extract (.tmp 171) 1) (some 178))
    (q8 : isOpG ops 8 none (.alloc 26) (some 20))
    (q9 : isOpG ops 9 none (.store 26 (.tmp 20) (.tmp 177)) none)
    (q10 : isOpG ops 10 none (.assign (.tmp 178)) (some 21))
    (hs : Region.noSelect ops = true) (hq : (takes37.all fun p => Region.free .any ops (LR 11 p.1) p.2 && (Region.ready .any ops (LR 11 p.1)).contains p.2) = true)
    (r0F : Region.ready .any ops (LR 11 [0, 2]) = [1, 8]) (r0T : Region.ready .any ops (LR 11 [0, 2, 8]) = [1])
    (r1F : Region.ready .any ops (LR 11 [0, 2, 1]) = [3, 8]) (r1T : Region.ready .any ops (LR 11 [0, 2, 1, 8]) = [3])
    (r2F : Region.ready .any ops (LR 11 [0, 2, 1, 3]) = [4, 8]) (r2T : Region.ready .any ops (LR 11 [0, 2, 1, 3, 8]) = [4])
    (r3F : Region.ready .any ops (LR 11 [0, 2, 1, 3, 4, 5, 6, 7]) = [8]) (r3T : Region.ready .any ops (LR 11 [0, 2, 1, 3, 4, 5, 6, 7, 8]) = [9])
    (rend : Region.ready .any ops (LR 11 [0, 2, 1, 3, 4, 5, 6, 7, 8, 9, 10]) = [])
    (hQ : ∀ (d : Option Tmp) (v : Value) c a w, Q (.panic c) (a.put d v) w → Q (.panic c) a w)
    (hsz : 178 < a0.tmps.size) (e10 : a0.eval (.tmp 10) = own) (e3 : a0.eval (.tmp 3) = .pointer (some ⟨b3, 0, none⟩))
    (LE : ∀ u, Below w5.heap.size w5 u → (loadVar 31 ⟨b3, 0, none⟩).run Tryd.prog u = .ok ev u)
    (C1 : ∀ u, Below w5.heap.size w5 u → Calls Tryd.prog 12 #[own] u fun e w' => ∃ sp, e = .returned sp ∧ Below u.heap.size u w' ∧
      ∀ u2, Below w'.heap.size w' u2 → Calls Tryd.prog 11 #[sp, ev] u2 fun e w'' => ∃ ev', e = .returned ev' ∧ Below u2.heap.size u2 w'' ∧
      ∀ u3, Below w''.heap.size w'' u3 → Calls Tryd.prog 6 #[ev', .slice none 0 0] u3 fun e w3 => e = .returned (.tuple #[.agg #[.int .i8 k, .int .i64 n, .string s], .bool b]) ∧ Below u3.heap.size u3 w3)
    (F : ∀ (a : Act) (wc : World) (b20 : Nat), Ag js37 a0 a → a.eval (.tmp 20) = .pointer (some ⟨b20, 0, none⟩) → a.eval (.tmp 21) = .bool b → RL wc b20 26 [.int .i8 k, .int .i64 n, .string s] → Below w5.heap.size w5 wc → Q .normal a wc) :
    wpAnyH Tryd.prog .any ops Q (fun u => Below w5.heap.size w5 u) 11 (LR 11 []) a0 w5.drew := by
  have hall : ∀ p ∈ takes37, Region.free .any ops (LR 11 p.1) p.2 = true ∧ (Region.ready .any ops (LR 11 p.1)).contains p.2 = true := by
    intro p hp
    have := List.all_eq_true.1 hq p hp
    simpa using this
  unfold takes37 at hall
  have kS : ∀ {u u' : World}, Below w5.heap.size w5 u → Below u.heap.size u u' → Below w5.heap.size w5 u' := fun h b => h.trans (b.mono h.size)
  have kA : ∀ {u : World} (o : Obj), Below u.heap.size u (u.alloc o) := fun o => (Below.refl _ _).alloc (Nat.le_refl _) _
  -- all done but the store and what follows
  have P3T : ∀ (a : Act) (u : World) (b20 : Nat), Ag js37 a0 a → a.eval (.tmp 177) = .agg #[.int .i8 k, .int .i64 n, .string s] → a.eval (.tmp 178) = .bool b → a.eval (.tmp 20) = .pointer (some ⟨b20, 0, none⟩) → RL u b20 26 [.int .i8 0, .int .i64 0, .string ⟨#[]⟩] → w5.heap.size ≤ b20 → Below w5.heap.size w5 u →
      wpAnyH Tryd.prog .any ops Q (fun u => Below w5.heap.size w5 u) 2 (LR 11 [0, 2, 1, 3, 4, 5, 6, 7, 8]) a u := by
    intro a u b20 hA h177 h178 h20 hR hb hS
    refine wpAnyH_all r3T (by simp) ?_
    intro i hi
    obtain rfl := List.mem_singleton.1 hi
    obtain ⟨o9, ho, hg, hop, hd⟩ := isOpG_out q9
    refine wpOp_skipG ho (wantedN hg) (run_storeV (cs := []) _ _ hop u h20 h177 hR) ?_
    have hS' : Below w5.heap.size w5 (((u.setCell ⟨b20, 0, none⟩ (.int .i8 k)).setCell ⟨b20, 1, none⟩ (.int .i64 n)).setCell ⟨b20, 2, none⟩ (.string s)) := ((hS.setCell (p := ⟨b20, 0, none⟩) hb _).setCell (p := ⟨b20, 1, none⟩) hb _).setCell (p := ⟨b20, 2, none⟩) hb _
    refine ⟨hS', ?_⟩
    rw [hd]
    have hR' := ((hR.set 0 (.int .i8 k)).set 1 (.int .i64 n)).set 2 (.string s)
    show wpAnyH _ _ _ _ _ 1 (LR 11 [0, 2, 1, 3, 4, 5, 6, 7, 8, 9]) a _
    obtain ⟨o10, ho, hg, hop, hd⟩ := isOpG_out q10
    have hfr := hall ([0, 2, 1, 3, 4, 5, 6, 7, 8, 9], 10) (by simp)
    refine wpAnyH_take (listed := LR 11 [0, 2, 1, 3, 4, 5, 6, 7, 8, 9]) (v := .bool b) ho hs hfr.1 hfr.2 (hQ _ _) (Or.inl ⟨wantedN hg, fun w' _ => run_assignV _ _ hop w' h178⟩) hS' ?_
    rw [hd]
    exact wpAnyH_done rend (F _ _ b20 (hA.put (by decide) _) (by rw [eval_far _ _ (by decide)]; exact h20) (eval_sameA hA _ (by omega)) hR' hS') _
  have P3F : ∀ (a : Act) (u : World), Ag js37 a0 a → a.eval (.tmp 177) = .agg #[.int .i8 k, .int .i64 n, .string s] → a.eval (.tmp 178) = .bool b → Below w5.heap.size w5 u →
      wpAnyH Tryd.prog .any ops Q (fun u => Below w5.heap.size w5 u) 3 (LR 11 [0, 2, 1, 3, 4, 5, 6, 7]) a u := by
    intro a u hA h177 h178 hS
    refine wpAnyH_all r3F (by simp) ?_
    intro i hi
    obtain rfl := List.mem_singleton.1 hi
    obtain ⟨o8, ho, hg, hop, hd⟩ := isOpG_out q8
    refine wpOp_valG ho (wantedN hg) (run_allocV _ _ hop u) ⟨kS hS (kA _), ?_⟩
    rw [hd]
    exact P3T _ _ u.heap.size (hA.put (by decide) _) (by rw [eval_far _ _ (by decide)]; exact h177) (by rw [eval_far _ _ (by decide)]; exact h178) (eval_sameA hA _ (by omega)) (rl_new u _ _) hS.size (kS hS (kA _))
  -- behind Eval: what is read off its answer
  have P4T : ∀ (a : Act) (u : World) (b20 : Nat), Ag js37 a0 a → a.eval (.tmp 176) = .tuple #[.agg #[.int .i8 k, .int .i64 n, .string s], .bool b] → a.eval (.tmp 20) = .pointer (some ⟨b20, 0, none⟩) → RL u b20 26 [.int .i8 0, .int .i64 0, .string ⟨#[]⟩] → w5.heap.size ≤ b20 → Below w5.heap.size w5 u →
      wpAnyH Tryd.prog .any ops Q (fun u => Below w5.heap.size w5 u) 5 (LR 11 [0, 2, 1, 3, 8, 4]) a u := by
    intro a u b20 hA h176 h20 hR hb hS
    obtain ⟨o5, ho, hg, hop, hd⟩ := isOpG_out q5
    have hfr := hall ([0, 2, 1, 3, 8, 4], 5) (by simp)
    refine wpAnyH_take (listed := LR 11 [0, 2, 1, 3, 8, 4]) (v := .tuple #[.agg #[.int .i8 k, .int .i64 n, .string s], .bool b]) ho hs hfr.1 hfr.2 (hQ _ _) (Or.inl ⟨wantedN hg, fun w' _ => run_move _ _ hop w' h176⟩) hS ?_
    rw [hd, ← LR_snoc]
    have hA1 := hA.put (i := 171) (by decide) (.tuple #[.agg #[.int .i8 k, .int .i64 n, .string s], .bool b])
    have h171 := eval_sameA hA (.tuple #[.agg #[.int .i8 k, .int .i64 n, .string s], .bool b]) (i := 171) (by omega)
    obtain ⟨o6, ho, hg, hop, hd⟩ := isOpG_out q6
    have hfr := hall ([0, 2, 1, 3, 8, 4, 5], 6) (by simp)
    refine wpAnyH_take (listed := LR 11 [0, 2, 1, 3, 8, 4, 5]) (v := .agg #[.int .i8 k, .int .i64 n, .string s]) ho hs hfr.1 hfr.2 (hQ _ _) (Or.inl ⟨wantedN hg, fun w' _ => run_extrV _ _ hop w' h171⟩) hS ?_
    rw [hd, ← LR_snoc]
    have hA2 := hA1.put (i := 177) (by decide) (.agg #[.int .i8 k, .int .i64 n, .string s])
    obtain ⟨o7, ho, hg, hop, hd⟩ := isOpG_out q7
    have hfr := hall ([0, 2, 1, 3, 8, 4, 5, 6], 7) (by simp)
    refine wpAnyH_take (listed := LR 11 [0, 2, 1, 3, 8, 4, 5, 6]) (v := .bool b) ho hs hfr.1 hfr.2 (hQ _ _) (Or.inl ⟨wantedN hg, fun w' _ => run_extrW _ _ hop w' (by rw [eval_far _ _ (by decide)]; exact h171)⟩) hS ?_
    rw [hd, ← LR_snoc]
    refine P3T _ _ b20 (hA2.put (by decide) _) ?_ (eval_sameA hA2 _ (by omega)) ?_ hR hb hS
    · rw [eval_far _ _ (by decide)]
      exact eval_sameA hA1 _ (by omega)
    · rw [eval_far _ _ (by decide), eval_far _ _ (by decide), eval_far _ _ (by decide)]
      exact h20
  have P4F : ∀ (a : Act) (u : World), Ag js37 a0 a → a.eval (.tmp 176) = .tuple #[.agg #[.int .i8 k, .int .i64 n, .string s], .bool b] → Below w5.heap.size w5 u →
      wpAnyH Tryd.prog .any ops Q (fun u => Below w5.heap.size w5 u) 6 (LR 11 [0, 2, 1, 3, 4]) a u := by
    intro a u hA h176 hS
    obtain ⟨o5, ho, hg, hop, hd⟩ := isOpG_out q5
    have hfr := hall ([0, 2, 1, 3, 4], 5) (by simp)
    refine wpAnyH_take (listed := LR 11 [0, 2, 1, 3, 4]) (v := .tuple #[.agg #[.int .i8 k, .int .i64 n, .string s], .bool b]) ho hs hfr.1 hfr.2 (hQ _ _) (Or.inl ⟨wantedN hg, fun w' _ => run_move _ _ hop w' h176⟩) hS ?_
    rw [hd, ← LR_snoc]
    have hA1 := hA.put (i := 171) (by decide) (.tuple #[.agg #[.int .i8 k, .int .i64 n, .string s], .bool b])
    have h171 := eval_sameA hA (.tuple #[.agg #[.int .i8 k, .int .i64 n, .string s], .bool b]) (i := 171) (by omega)
    obtain ⟨o6, ho, hg, hop, hd⟩ := isOpG_out q6
    have hfr := hall ([0, 2, 1, 3, 4, 5], 6) (by simp)
    refine wpAnyH_take (listed := LR 11 [0, 2, 1, 3, 4, 5]) (v := .agg #[.int .i8 k, .int .i64 n, .string s]) ho hs hfr.1 hfr.2 (hQ _ _) (Or.inl ⟨wantedN hg, fun w' _ => run_extrV _ _ hop w' h171⟩) hS ?_
    rw [hd, ← LR_snoc]
    have hA2 := hA1.put (i := 177) (by decide) (.agg #[.int .i8 k, .int .i64 n, .string s])
    obtain ⟨o7, ho, hg, hop, hd⟩ := isOpG_out q7
    have hfr := hall ([0, 2, 1, 3, 4, 5, 6], 7) (by simp)
    refine wpAnyH_take (listed := LR 11 [0, 2, 1, 3, 4, 5, 6]) (v := .bool b) ho hs hfr.1 hfr.2 (hQ _ _) (Or.inl ⟨wantedN hg, fun w' _ => run_extrW _ _ hop w' (by rw [eval_far _ _ (by decide)]; exact h171)⟩) hS ?_
    rw [hd, ← LR_snoc]
    refine P3F _ _ (hA2.put (by decide) _) ?_ (eval_sameA hA2 _ (by omega)) hS
    rw [eval_far _ _ (by decide)]
    exact eval_sameA hA1 _ (by omega)
  -- ahead of Eval
  have P2T : ∀ (a : Act) (u : World) (b20 : Nat) (ev' : Value), Ag js37 a0 a → a.eval (.tmp 175) = ev' → a.eval (.tmp 20) = .pointer (some ⟨b20, 0, none⟩) → RL u b20 26 [.int .i8 0, .int .i64 0, .string ⟨#[]⟩] → w5.heap.size ≤ b20 → Below w5.heap.size w5 u →
      (∀ u3, Below u.heap.size u u3 → Calls Tryd.prog 6 #[ev', .slice none 0 0] u3 fun e w3 => e = .returned (.tuple #[.agg #[.int .i8 k, .int .i64 n, .string s], .bool b]) ∧ Below u3.heap.size u3 w3) →
      wpAnyH Tryd.prog .any ops Q (fun u => Below w5.heap.size w5 u) 6 (LR 11 [0, 2, 1, 3, 8]) a u := by
    intro a u b20 ev' hA h175 h20 hR hb hS C4
    refine wpAnyH_all r2T (by simp) ?_
    intro i hi
    obtain rfl := List.mem_singleton.1 hi
    obtain ⟨o4, ho, hg, hop, hd⟩ := isOpG_out q4
    refine wpOp_callG ho (wantedN hg) (run_callV 6 Tryd.func6 (by kernel_rfl) (by kernel_rfl) #[.tmp 175, .const (.slice none 0 0)] _ hop #[ev', .slice none 0 0] (by simp only [List.map_toArray, List.map_cons, List.map_nil, h175, eval_constV])) ?_
    refine (C4 u (Below.refl _ _)).mono ?_
    rintro e u1 ⟨rfl, b1⟩
    refine ⟨_, rfl, kS hS b1, ?_⟩
    rw [hd, ← LR_snoc]
    exact P4T _ _ b20 (hA.put (by decide) _) (eval_sameA hA _ (by omega)) (by rw [eval_far _ _ (by decide)]; exact h20) (hR.below b1) hb (kS hS b1)
  have P2F : ∀ (a : Act) (u : World) (ev' : Value), Ag js37 a0 a → a.eval (.tmp 175) = ev' → Below w5.heap.size w5 u →
      (∀ u3, Below u.heap.size u u3 → Calls Tryd.prog 6 #[ev', .slice none 0 0] u3 fun e w3 => e = .returned (.tuple #[.agg #[.int .i8 k, .int .i64 n, .string s], .bool b]) ∧ Below u3.heap.size u3 w3) →
      wpAnyH Tryd.prog .any ops Q (fun u => Below w5.heap.size w5 u) 7 (LR 11 [0, 2, 1, 3]) a u := by
    intro a u ev' hA h175 hS C4
    refine wpAnyH_all r2F (by simp) ?_
    intro i hi
    rcases List.mem_cons.1 hi with rfl | hi
    · obtain ⟨o4, ho, hg, hop, hd⟩ := isOpG_out q4
      refine wpOp_callG ho (wantedN hg) (run_callV 6 Tryd.func6 (by kernel_rfl) (by kernel_rfl) #[.tmp 175, .const (.slice none 0 0)] _ hop #[ev', .slice none 0 0] (by simp only [List.map_toArray, List.map_cons, List.map_nil, h175, eval_constV])) ?_
      refine (C4 u (Below.refl _ _)).mono ?_
      rintro e u1 ⟨rfl, b1⟩
      refine ⟨_, rfl, kS hS b1, ?_⟩
      rw [hd, ← LR_snoc]
      exact P4F _ _ (hA.put (by decide) _) (eval_sameA hA _ (by omega)) (kS hS b1)
    · obtain rfl := List.mem_singleton.1 hi
      obtain ⟨o8, ho, hg, hop, hd⟩ := isOpG_out q8
      refine wpOp_valG ho (wantedN hg) (run_allocV _ _ hop u) ⟨kS hS (kA _), ?_⟩
      rw [hd, ← LR_snoc]
      exact P2T _ _ u.heap.size ev' (hA.put (by decide) _) (by rw [eval_far _ _ (by decide)]; exact h175) (eval_sameA hA _ (by omega)) (rl_new u _ _) hS.size (kS hS (kA _)) (fun u3 h3 => C4 u3 ((kA _).trans (h3.mono (by simp))))
  -- ahead of ApplyExpr
  have P1T : ∀ (a : Act) (u : World) (b20 : Nat) (sp : Value), Ag js37 a0 a → a.eval (.tmp 173) = sp → a.eval (.tmp 174) = ev → a.eval (.tmp 20) = .pointer (some ⟨b20, 0, none⟩) → RL u b20 26 [.int .i8 0, .int .i64 0, .string ⟨#[]⟩] → w5.heap.size ≤ b20 → Below w5.heap.size w5 u →
      (∀ u2, Below u.heap.size u u2 → Calls Tryd.prog 11 #[sp, ev] u2 fun e w'' => ∃ ev', e = .returned ev' ∧ Below u2.heap.size u2 w'' ∧
        ∀ u3, Below w''.heap.size w'' u3 → Calls Tryd.prog 6 #[ev', .slice none 0 0] u3 fun e w3 => e = .returned (.tuple #[.agg #[.int .i8 k, .int .i64 n, .string s], .bool b]) ∧ Below u3.heap.size u3 w3) →
      wpAnyH Tryd.prog .any ops Q (fun u => Below w5.heap.size w5 u) 7 (LR 11 [0, 2, 1, 8]) a u := by
    intro a u b20 sp hA h173 h174 h20 hR hb hS C3
    refine wpAnyH_all r1T (by simp) ?_
    intro i hi
    obtain rfl := List.mem_singleton.1 hi
    obtain ⟨o3, ho, hg, hop, hd⟩ := isOpG_out q3
    refine wpOp_callG ho (wantedN hg) (run_callV 11 Tryd.func11 (by kernel_rfl) (by kernel_rfl) #[.tmp 173, .tmp 174] _ hop #[sp, ev] (by simp only [List.map_toArray, List.map_cons, List.map_nil, h173, h174])) ?_
    refine (C3 u (Below.refl _ _)).mono ?_
    rintro e u1 ⟨ev', rfl, b1, C4⟩
    refine ⟨_, rfl, kS hS b1, ?_⟩
    rw [hd]
    exact P2T _ _ b20 ev' (hA.put (by decide) _) (eval_sameA hA _ (by omega)) (by rw [eval_far _ _ (by decide)]; exact h20) (hR.below b1) hb (kS hS b1) C4
  have P1F : ∀ (a : Act) (u : World) (sp : Value), Ag js37 a0 a → a.eval (.tmp 173) = sp → a.eval (.tmp 174) = ev → Below w5.heap.size w5 u →
      (∀ u2, Below u.heap.size u u2 → Calls Tryd.prog 11 #[sp, ev] u2 fun e w'' => ∃ ev', e = .returned ev' ∧ Below u2.heap.size u2 w'' ∧
        ∀ u3, Below w''.heap.size w'' u3 → Calls Tryd.prog 6 #[ev', .slice none 0 0] u3 fun e w3 => e = .returned (.tuple #[.agg #[.int .i8 k, .int .i64 n, .string s], .bool b]) ∧ Below u3.heap.size u3 w3) →
      wpAnyH Tryd.prog .any ops Q (fun u => Below w5.heap.size w5 u) 8 (LR 11 [0, 2, 1]) a u := by
    intro a u sp hA h173 h174 hS C3
    refine wpAnyH_all r1F (by simp) ?_
    intro i hi
    rcases List.mem_cons.1 hi with rfl | hi
    · obtain ⟨o3, ho, hg, hop, hd⟩ := isOpG_out q3
      refine wpOp_callG ho (wantedN hg) (run_callV 11 Tryd.func11 (by kernel_rfl) (by kernel_rfl) #[.tmp 173, .tmp 174] _ hop #[sp, ev] (by simp only [List.map_toArray, List.map_cons, List.map_nil, h173, h174])) ?_
      refine (C3 u (Below.refl _ _)).mono ?_
      rintro e u1 ⟨ev', rfl, b1, C4⟩
      refine ⟨_, rfl, kS hS b1, ?_⟩
      rw [hd, ← LR_snoc]
      exact P2F _ _ ev' (hA.put (by decide) _) (eval_sameA hA _ (by omega)) (kS hS b1) C4
    · obtain rfl := List.mem_singleton.1 hi
      obtain ⟨o8, ho, hg, hop, hd⟩ := isOpG_out q8
      refine wpOp_valG ho (wantedN hg) (run_allocV _ _ hop u) ⟨kS hS (kA _), ?_⟩
      rw [hd, ← LR_snoc]
      exact P1T _ _ u.heap.size sp (hA.put (by decide) _) (by rw [eval_far _ _ (by decide)]; exact h173) (by rw [eval_far _ _ (by decide)]; exact h174) (eval_sameA hA _ (by omega)) (rl_new u _ _) hS.size (kS hS (kA _)) (fun u3 h3 => C3 u3 ((kA _).trans (h3.mono (by simp))))
  -- ahead of pairsOf
  have P0T : ∀ (a : Act) (u : World) (b20 : Nat), Ag js37 a0 a → a.eval (.tmp 172) = own → a.eval (.tmp 174) = ev → a.eval (.tmp 20) = .pointer (some ⟨b20, 0, none⟩) → RL u b20 26 [.int .i8 0, .int .i64 0, .string ⟨#[]⟩] → w5.heap.size ≤ b20 → Below w5.heap.size w5 u →
      wpAnyH Tryd.prog .any ops Q (fun u => Below w5.heap.size w5 u) 8 (LR 11 [0, 2, 8]) a u := by
    intro a u b20 hA h172 h174 h20 hR hb hS
    refine wpAnyH_all r0T (by simp) ?_
    intro i hi
    obtain rfl := List.mem_singleton.1 hi
    obtain ⟨o1, ho, hg, hop, hd⟩ := isOpG_out q1
    refine wpOp_callG ho (wantedN hg) (run_callV 12 Tryd.func12 (by kernel_rfl) (by kernel_rfl) #[.tmp 172] _ hop #[own] (by simp only [List.map_toArray, List.map_cons, List.map_nil, h172])) ?_
    refine (C1 u hS).mono ?_
    rintro e u1 ⟨sp, rfl, b1, C3⟩
    refine ⟨_, rfl, kS hS b1, ?_⟩
    rw [hd]
    exact P1T _ _ b20 sp (hA.put (by decide) _) (eval_sameA hA _ (by omega)) (by rw [eval_far _ _ (by decide)]; exact h174) (by rw [eval_far _ _ (by decide)]; exact h20) (hR.below b1) hb (kS hS b1) C3
  have hS0 : Below w5.heap.size w5 w5.drew := (Below.refl _ _).drew
  obtain ⟨o0, ho, hg, hop, hd⟩ := isOpG_out q0
  have hfr := hall ([], 0) (by simp)
  refine wpAnyH_take (listed := LR 11 []) (v := own) ho hs hfr.1 hfr.2 (hQ _ _) (Or.inl ⟨wantedN hg, fun w' _ => run_move _ _ hop w' e10⟩) hS0 ?_
  rw [hd, ← LR_snoc]
  have hA0 := (Ag.refl js37 a0).put (i := 172) (by decide) own
  have h172 := eval_sameA (Ag.refl js37 a0) own (i := 172) (by omega)
  obtain ⟨o2, ho, hg, hop, hd⟩ := isOpG_out q2
  have hfr := hall ([0], 2) (by simp)
  refine wpAnyH_take (listed := LR 11 [0]) (v := ev) ho hs hfr.1 hfr.2 (hQ _ _) (Or.inl ⟨wantedN hg, fun w' hS => run_loadG _ _ hop w' (by rw [eval_far _ _ (by decide)]; exact e3) (LE w' hS)⟩) hS0 ?_
  rw [hd, ← LR_snoc]
  have hA1 := hA0.put (i := 174) (by decide) ev
  have h174 := eval_sameA hA0 ev (i := 174) (by omega)
  have h172' : ((a0.put (some 172) own).put (some 174) ev).eval (.tmp 172) = own := by rw [eval_far _ _ (by decide)]; exact h172
  clear hd
  show wpAnyH _ _ _ _ _ 9 (LR 11 [0, 2]) _ _
  refine wpAnyH_all r0F (by simp) ?_
  intro i hi
  rcases List.mem_cons.1 hi with rfl | hi
  · obtain ⟨o1, ho, hg, hop, hd⟩ := isOpG_out q1
    refine wpOp_callG ho (wantedN hg) (run_callV 12 Tryd.func12 (by kernel_rfl) (by kernel_rfl) #[.tmp 172] _ hop #[own] (by simp only [List.map_toArray, List.map_cons, List.map_nil, h172'])) ?_
    refine (C1 _ hS0).mono ?_
    rintro e u1 ⟨sp, rfl, b1, C3⟩
    refine ⟨_, rfl, kS hS0 b1, ?_⟩
    rw [hd, ← LR_snoc]
    exact P1F _ _ sp (hA1.put (by decide) _) (eval_sameA hA1 _ (by omega)) (by rw [eval_far _ _ (by decide)]; exact h174) (kS hS0 b1) C3
  · obtain rfl := List.mem_singleton.1 hi
    obtain ⟨o8, ho, hg, hop, hd⟩ := isOpG_out q8
    refine wpOp_valG ho (wantedN hg) (run_allocV _ _ hop _) ⟨kS hS0 (kA _), ?_⟩
    rw [hd, ← LR_snoc]
    exact P0T _ _ _ (hA1.put (by decide) _) (by rw [eval_far _ _ (by decide)]; exact h172') (by rw [eval_far _ _ (by decide)]; exact h174) (eval_sameA hA1 _ (by omega)) (rl_new _ _ _) hS0.size (kS hS0 (kA _))
end Go.Proofs.YtkgoceomkkohmaaDoor
