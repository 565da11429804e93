import Derived.Test.YtgfnijhhhgjabaaGreatDoorG1
import Derived.OrdersHeld
import Derived.Deep.RegionHeld3
import Derived.Test.YtgfnijhhhgjabaaGreatDoorG38
section
namespace Go.Proofs.YtgfnijhhhgjabaaGreatDoor
open Go.RowKit
set_option linter.unusedVariables false
set_option linter.unusedSimpArgs false

/-! a drawn region over any act: what its operations do (tools/mkregx.py writes such regions out) -/
theorem eval_far (a : Act) {i j : Nat} (v : Value) (h : i ≠ j) : (a.put (some i) v).eval (.tmp j) = a.eval (.tmp j) := Act.eval_put (by intro d hd; cases hd; intro e; exact h (by injection e with e; exact e.symm))
theorem eval_same (a : Act) {i : Nat} (v : Value) (h : i < a.tmps.size) : (a.put (some i) v).eval (.tmp i) = v := by
  simp [Act.eval, Act.put, h]
theorem put_size (a : Act) (i : Nat) (v : Value) : (a.put (some i) v).tmps.size = a.tmps.size := by simp [Act.put]
theorem tmps_far (a : Act) {i j : Nat} (v : Value) (h : i ≠ j) : (a.put (some i) v).tmps[j]? = a.tmps[j]? := by
  simp [Act.put, Array.getElem?_setIfInBounds_ne h]
theorem tmps_same (a : Act) {i : Nat} (v : Value) (h : i < a.tmps.size) : (a.put (some i) v).tmps[i]? = some v := by
  simp [Act.put, Array.getElem?_setIfInBounds_self_of_lt h]
theorem eval_constV (a : Act) (v : Value) : a.eval (.const v) = v := rfl
theorem run_move (ev : Operand → Value) (o : Oper) {x : Operand} (hop : o.op = .move x) (w : World) {v : Value} (hx : ev x = v) : (execOp ev o).run Tryz.prog w = .ok (.value v) w := by
  simp only [execOp, hop, hx]
  go_simp
theorem run_assignV (ev : Operand → Value) (o : Oper) {x : Operand} (hop : o.op = .assign x) (w : World) {v : Value} (hx : ev x = v) : (execOp ev o).run Tryz.prog w = .ok (.value v) w := by
  simp only [execOp, hop, hx]
  go_simp
theorem run_pickT (ev : Operand → Value) (o : Oper) {x y z : Operand} (hop : o.op = .pick x y z) (w : World) {v : Value} (hx : ev x = .bool true) (hy : ev y = v) : (execOp ev o).run Tryz.prog w = .ok (.value v) w := by
  simp only [execOp, hop, hx, hy]
  go_simp
theorem run_pickF (ev : Operand → Value) (o : Oper) {x y z : Operand} (hop : o.op = .pick x y z) (w : World) {v : Value} (hx : ev x = .bool false) (hy : ev z = v) : (execOp ev o).run Tryz.prog w = .ok (.value v) w := by
  simp only [execOp, hop, hx, hy]
  go_simp
theorem run_notV (ev : Operand → Value) (o : Oper) {t : TypeId} {x : Operand} (hop : o.op = .unOp .not t x) (w : World) {b : Bool} (hx : ev x = .bool b) : (execOp ev o).run Tryz.prog w = .ok (.value (.bool (!b))) w := by
  simp only [execOp, hop, hx]
  go_simp
theorem run_binV (ev : Operand → Value) (o : Oper) {p : BinOp} {t u : TypeId} {x y : Operand} (hop : o.op = .binOp p t x y u) (w : World) {a b c : Value} (hx : ev x = a) (hy : ev y = b) (hge : (eqGuard p t x y a b).run Tryz.prog w = .ok () w) (hr : (binOp p t a b).run Tryz.prog w = .ok c w) : (execOp ev o).run Tryz.prog w = .ok (.value c) w := by
  simp only [execOp, hop, hx, hy]
  simp [hge, hr, Result.andThen]
theorem run_callV {P : Program} {o : Oper} {a : Act} {w : World} (f : FuncId) {fn : Func} (hf : P.funcs[f]? = some fn) (hn : (fn.name == "runtime.NumGoroutine") = false) (hb : fn.body.isNone = false) (xs : Array Operand) (tys : Array TypeId) (hop : o.op = Op.call { callee := Callee.value (Operand.func f), args := xs, argTypes := tys }) (vs : Array Value) (hx : xs.map a.eval = vs) : (execOp a.eval o).run P w = .ok (.enter f vs) w := by
  have hn' : ¬ fn.name = "runtime.NumGoroutine" := by simpa using hn
  have hb' : ¬ fn.body = none := by cases h : fn.body <;> simp [h] at hb ⊢
  simp [execOp, hop, resolve, invoke, ← hx, Act.eval, Result.andThen, Deferred.ofValue, callFunc, (show Sem.run P program w = .ok P w from rfl), hf, hn', hb', go_sem]
def isOpG (ops : Array Oper) (i : Nat) (g : Option (Nat × Bool)) (op : Op) (dst : Option Tmp) : Prop := ops[i]?.map (fun o => (o.guard, o.op, o.dst)) = some (g, op, dst)
theorem isOpG_out {ops : Array Oper} {i : Nat} {g : Option (Nat × Bool)} {op : Op} {dst : Option Tmp} (h : isOpG ops i g op dst) : ∃ o, ops[i]? = some o ∧ o.guard = g ∧ o.op = op ∧ o.dst = dst := by
  obtain ⟨o, h1, h2⟩ := Option.map_eq_some_iff.1 h
  simp only [Prod.mk.injEq] at h2
  exact ⟨o, h1, h2.1, h2.2.1, h2.2.2⟩
theorem wantedN {ops : Array Oper} {o : Oper} {a : Act} (hg : o.guard = none) : Region.wanted o (yielded ops a.tmps) = true := by simp [Region.wanted, hg]
theorem wantedB {ops : Array Oper} {g o : Oper} {a : Act} {j d : Nat} {b c : Bool} (h5 : ops[j]? = some g) (d5 : g.dst = some d) (hg : o.guard = some (j, b)) (hv : a.tmps[d]? = some (.bool c)) : Region.wanted o (yielded ops a.tmps) = (c == b) := by
  cases c <;> cases b <;> simp [Region.wanted, hg, yielded, h5, d5, hv]
theorem wpOp_callG {P : Program} {ops : Array Oper} {Q : Exit → Act → World → Prop} {K : Act → World → Prop} {i : Nat} {a : Act} {w : World} {o : Oper} {f : Nat} {vs : Array Value} (hi : ops[i]? = some o) (hw : Region.wanted o (yielded ops a.tmps) = true) (hrun : (execOp a.eval o).run P w = .ok (.enter f vs) w)
    (hc : Calls P f vs w fun e w' => ∃ u, e = .returned u ∧ K (a.put o.dst u) w') : wpOp P ops Q i K a w := by
  unfold wpOp
  rw [hi]
  simp only [hw, if_true]
  refine Or.inl ?_
  unfold Oper.wp
  rw [hrun]
  refine Calls.mono hc ?_
  rintro e w' ⟨u, rfl, hK⟩
  exact hK
def LR (n : Nat) (l : List Nat) : Array Bool := l.foldl (fun a i => a.setIfInBounds i true) (Array.replicate n false)
theorem LR_snoc (n : Nat) (l : List Nat) (i : Nat) : LR n (l ++ [i]) = (LR n l).setIfInBounds i true := by simp [LR]
end Go.Proofs.YtgfnijhhhgjabaaGreatDoor
end
section
namespace Go.Proofs.YtgfnijhhhgjabaaGreatDoor
open Go.RowKit Go.Maps
set_option linter.unusedVariables false
set_option linter.unusedSimpArgs false

theorem run_loadS (ev : Operand → Value) (o : Oper) {ty : TypeId} {x : Operand} (hop : o.op = .load ty x) (w : World) {a : Addr} {v : Value} (hx : ev x = .pointer (some a)) (hl : (loadVar ty a).run Tryz.prog w = .ok v w) : (execOp ev o).run Tryz.prog w = .ok (.value v) w := by
  simp only [execOp, hop, hx]
  simp [Instr.loadAt, Instr.sureAddr, hl, Result.andThen]
theorem run_nilC (ev : Operand → Value) (o : Oper) {x : Operand} (hop : o.op = .nilCheck x) (w : World) {a : Addr} (hx : ev x = .pointer (some a)) : (execOp ev o).run Tryz.prog w = .ok (.value (.pointer (some a))) w := by
  simp only [execOp, hop, hx]
  go_simp
theorem run_fldE0 (ev : Operand → Value) (o : Oper) {x : Operand} (hop : o.op = .fieldAddr 92 x 0) (w : World) {be : Nat} (hx : ev x = .pointer (some ⟨be, 0, none⟩)) : (execOp ev o).run Tryz.prog w = .ok (.value (.pointer (some ⟨be, 0, none⟩))) w := by
  simp only [execOp, hop, hx]
  go_simp
theorem run_fldE1 (ev : Operand → Value) (o : Oper) {x : Operand} (hop : o.op = .fieldAddr 92 x 1) (w : World) {be : Nat} (hx : ev x = .pointer (some ⟨be, 0, none⟩)) : (execOp ev o).run Tryz.prog w = .ok (.value (.pointer (some ⟨be, 2, none⟩))) w := by
  simp only [execOp, hop, hx]
  go_simp
theorem run_fldS0 (ev : Operand → Value) (o : Oper) {x : Operand} (hop : o.op = .fieldAddr 89 x 0) (w : World) {be : Nat} (hx : ev x = .pointer (some ⟨be, 0, none⟩)) : (execOp ev o).run Tryz.prog w = .ok (.value (.pointer (some ⟨be, 0, none⟩))) w := by
  simp only [execOp, hop, hx]
  go_simp
theorem run_fldS2 (ev : Operand → Value) (o : Oper) {x : Operand} (hop : o.op = .fieldAddr 89 x 0) (w : World) {be : Nat} (hx : ev x = .pointer (some ⟨be, 2, none⟩)) : (execOp ev o).run Tryz.prog w = .ok (.value (.pointer (some ⟨be, 2, none⟩))) w := by
  simp only [execOp, hop, hx]
  go_simp
def svregA_takes : List (List Nat × Nat) := [([], 0), ([0], 1), ([0, 1], 2), ([0, 1, 2], 3), ([0, 1, 2, 3], 4), ([0, 1, 2, 3, 4], 5), ([0, 1, 2, 3, 4, 5], 6), ([0, 1, 2, 3, 4, 5, 6], 7), ([0, 1, 2, 3, 4, 5, 6, 7], 8), ([0, 1, 2, 3, 4, 5, 6, 7, 8, 9], 10), ([0, 1, 2, 3, 4, 5, 6, 7, 8, 9, 10], 11), ([0, 1, 2, 3, 4, 5, 6, 7, 8, 9, 10, 11], 12), ([0, 1, 2, 3, 4, 5, 6, 7, 8, 9, 10, 11, 12], 13), ([0, 1, 2, 3, 4, 5, 6, 7, 8, 9, 10, 11, 12, 13], 14), ([0, 1, 2, 3, 4, 5, 6, 7, 8, 9, 10, 11, 12, 13, 14], 15), ([0, 1, 2, 3, 4, 5, 6, 7, 8, 9, 10, 11, 12, 13, 14, 15], 16), ([0, 1, 2, 3, 4, 5, 6, 7, 8, 9, 10, 11, 12, 13, 14, 15, 16], 17), ([0, 1, 2, 3, 4, 5, 6, 7, 8, 9, 10, 11, 12, 13, 14, 15, 16, 17], 18), ([0, 1, 2, 3, 4, 5, 6, 7, 8, 9, 10, 11, 12, 13, 14, 15, 16, 17, 18], 19), ([0, 1, 2, 3, 4, 5, 6, 7, 8, 9, 10, 11, 12, 13, 14, 15, 16, 17, 18, 19], 20), ([0, 1, 2, 3, 4, 5, 6, 7, 8, 9, 10, 11, 12, 13, 14, 15, 16, 17, 18, 19, 20], 21), ([0, 1, 2, 3, 4, 5, 6, 7, 8, 9, 10, 11, 12, 13, 14, 15, 16, 17, 18, 19, 20, 21], 22)]
set_option maxHeartbeats 3200000 in
theorem svregA {ops : Array Oper} {Q : Exit → Act → World → Prop} {S : World → Prop} {a0 : Act} {w5 : World} {bf be : Nat} {L0 L1 : Value} {ty1 ty2 : Array TypeId} {P : World → Prop}
    (q0 : isOpG ops 0 none (.move (.tmp 0)) (some 5))
    (q1 : isOpG ops 1 none (.move (.tmp 1)) (some 6))
    (q2 : isOpG ops 2 none (.nilCheck (.tmp 6)) (some 7))
    (q3 : isOpG ops 3 none (.fieldAddr 92 (.tmp 7) 0) (some 8))
    (q4 : isOpG ops 4 none (.fieldAddr 89 (.tmp 8) 0) (some 9))
    (q5 : isOpG ops 5 none (.load 80 (.tmp 9)) (some 10))
    (q6 : isOpG ops 6 none (.move (.tmp 1)) (some 11))
    (q7 : isOpG ops 7 none (.nilCheck (.tmp 11)) (some 12))
    (q8 : isOpG ops 8 none (.fieldAddr 92 (.tmp 12) 1) (some 13))
    (q9 : isOpG ops 9 none (.call { callee := .value (.func 56), args := #[.tmp 5, .tmp 10, .tmp 13], argTypes := ty1 }) (some 14))
    (q10 : isOpG ops 10 none (.move (.tmp 14)) (some 15))
    (q11 : isOpG ops 11 (some (10, false)) (.move (.tmp 0)) (some 16))
    (q12 : isOpG ops 12 (some (10, false)) (.move (.tmp 1)) (some 17))
    (q13 : isOpG ops 13 (some (10, false)) (.nilCheck (.tmp 17)) (some 18))
    (q14 : isOpG ops 14 (some (10, false)) (.fieldAddr 92 (.tmp 18) 1) (some 19))
    (q15 : isOpG ops 15 (some (10, false)) (.fieldAddr 89 (.tmp 19) 0) (some 20))
    (q16 : isOpG ops 16 (some (10, false)) (.load 80 (.tmp 20)) (some 21))
    (q17 : isOpG ops 17 (some (10, false)) (.move (.tmp 1)) (some 22))
    (q18 : isOpG ops 18 (some (10, false)) (.nilCheck (.tmp 22)) (some 23))
    (q19 : isOpG ops 19 (some (10, false)) (.fieldAddr 92 (.tmp 23) 0) (some 24))
    (q20 : isOpG ops 20 (some (10, false)) (.call { callee := .value (.func 56), args := #[.tmp 16, .tmp 21, .tmp 24], argTypes := ty2 }) (some 25))
    (q21 : isOpG ops 21 none (.pick (.tmp 15) (.const (.bool true)) (.tmp 25)) (some 26))
    (q22 : isOpG ops 22 none (.assign (.tmp 26)) (some 4))
    (hs : Region.noSelect ops = true) (hq : (svregA_takes.all fun p => Region.free .any ops (LR 23 p.1) p.2 && (Region.ready .any ops (LR 23 p.1)).contains p.2) = true)
    (r9 : Region.ready .any ops (LR 23 [0, 1, 2, 3, 4, 5, 6, 7, 8]) = [9])
    (rend : Region.ready .any ops (LR 23 [0, 1, 2, 3, 4, 5, 6, 7, 8, 9, 10, 11, 12, 13, 14, 15, 16, 17, 18, 19, 20, 21, 22]) = [])
    (hQ : ∀ (d : Option Tmp) (v : Value) c a w, Q (.panic c) (a.put d v) w → Q (.panic c) a w)
    (hsz : 26 < a0.tmps.size) (e0 : a0.eval (.tmp 0) = .pointer (some ⟨bf, 0, none⟩)) (e1 : a0.eval (.tmp 1) = .pointer (some ⟨be, 0, none⟩))
    (hS0 : S w5.drew)
    (keep : ∀ u u', S u → S u' → S u') (LL0 : ∀ u, S u → (loadVar 80 ⟨be, 0, none⟩).run Tryz.prog u = .ok L0 u) (LL1 : ∀ u, S u → (loadVar 80 ⟨be, 2, none⟩).run Tryz.prog u = .ok L1 u)
    (C1 : Calls Tryz.prog 56 #[.pointer (some ⟨bf, 0, none⟩), L0, .pointer (some ⟨be, 2, none⟩)] w5.drew fun e w' => e = .returned (.bool true) ∧ S w' ∧ P w')
    (F : ∀ (wc : World), P wc → Q .normal (((((((((((((((((((((((a0.put (some 5) (.pointer (some ⟨bf, 0, none⟩))).put (some 6) (.pointer (some ⟨be, 0, none⟩))).put (some 7) (.pointer (some ⟨be, 0, none⟩))).put (some 8) (.pointer (some ⟨be, 0, none⟩))).put (some 9) (.pointer (some ⟨be, 0, none⟩))).put (some 10) (L0)).put (some 11) (.pointer (some ⟨be, 0, none⟩))).put (some 12) (.pointer (some ⟨be, 0, none⟩))).put (some 13) (.pointer (some ⟨be, 2, none⟩))).put (some 14) (.bool true)).put (some 15) (.bool true)).put (some 16) (undef)).put (some 17) (undef)).put (some 18) (undef)).put (some 19) (undef)).put (some 20) (undef)).put (some 21) (undef)).put (some 22) (undef)).put (some 23) (undef)).put (some 24) (undef)).put (some 25) (undef)).put (some 26) (.bool true)).put (some 4) (.bool true)) wc) :
    wpAnyH Tryz.prog .any ops Q S 23 (LR 23 []) a0 w5.drew := by
  have hall : ∀ p ∈ svregA_takes, Region.free .any ops (LR 23 p.1) p.2 = true ∧ (Region.ready .any ops (LR 23 p.1)).contains p.2 = true := by
    intro p hp
    have := List.all_eq_true.1 hq p hp
    simpa using this
  unfold svregA_takes at hall
  obtain ⟨og10, hog10, _, _, dog10⟩ := isOpG_out q10
  obtain ⟨o0, ho, hg, hop, hd⟩ := isOpG_out q0
  have hfr := hall ([], 0) (by simp)
  refine wpAnyH_take (listed := LR 23 []) (v := .pointer (some ⟨bf, 0, none⟩)) ho hs hfr.1 hfr.2 (hQ _ _) (Or.inl ⟨(wantedN hg), fun w' hS => run_move _ _ hop w' (by (repeat rw [eval_far _ _ (by decide)]); exact e0)⟩) hS0 ?_
  rw [hd, ← LR_snoc]
  clear ho hg hop hd hfr
  obtain ⟨o1, ho, hg, hop, hd⟩ := isOpG_out q1
  have hfr := hall ([0], 1) (by simp)
  refine wpAnyH_take (listed := LR 23 [0]) (v := .pointer (some ⟨be, 0, none⟩)) ho hs hfr.1 hfr.2 (hQ _ _) (Or.inl ⟨(wantedN hg), fun w' hS => run_move _ _ hop w' (by (repeat rw [eval_far _ _ (by decide)]); exact e1)⟩) hS0 ?_
  rw [hd, ← LR_snoc]
  clear ho hg hop hd hfr
  obtain ⟨o2, ho, hg, hop, hd⟩ := isOpG_out q2
  have hfr := hall ([0, 1], 2) (by simp)
  refine wpAnyH_take (listed := LR 23 [0, 1]) (v := .pointer (some ⟨be, 0, none⟩)) ho hs hfr.1 hfr.2 (hQ _ _) (Or.inl ⟨(wantedN hg), fun w' hS => run_nilC _ _ hop w' (by (repeat (first | rw [eval_same _ _ (by (try simp only [put_size]); omega)] | rw [eval_far _ _ (by decide)])))⟩) hS0 ?_
  rw [hd, ← LR_snoc]
  clear ho hg hop hd hfr
  obtain ⟨o3, ho, hg, hop, hd⟩ := isOpG_out q3
  have hfr := hall ([0, 1, 2], 3) (by simp)
  refine wpAnyH_take (listed := LR 23 [0, 1, 2]) (v := .pointer (some ⟨be, 0, none⟩)) ho hs hfr.1 hfr.2 (hQ _ _) (Or.inl ⟨(wantedN hg), fun w' hS => run_fldE0 _ _ hop w' (by (repeat (first | rw [eval_same _ _ (by (try simp only [put_size]); omega)] | rw [eval_far _ _ (by decide)])))⟩) hS0 ?_
  rw [hd, ← LR_snoc]
  clear ho hg hop hd hfr
  obtain ⟨o4, ho, hg, hop, hd⟩ := isOpG_out q4
  have hfr := hall ([0, 1, 2, 3], 4) (by simp)
  refine wpAnyH_take (listed := LR 23 [0, 1, 2, 3]) (v := .pointer (some ⟨be, 0, none⟩)) ho hs hfr.1 hfr.2 (hQ _ _) (Or.inl ⟨(wantedN hg), fun w' hS => run_fldS0 _ _ hop w' (by (repeat (first | rw [eval_same _ _ (by (try simp only [put_size]); omega)] | rw [eval_far _ _ (by decide)])))⟩) hS0 ?_
  rw [hd, ← LR_snoc]
  clear ho hg hop hd hfr
  obtain ⟨o5, ho, hg, hop, hd⟩ := isOpG_out q5
  have hfr := hall ([0, 1, 2, 3, 4], 5) (by simp)
  refine wpAnyH_take (listed := LR 23 [0, 1, 2, 3, 4]) (v := L0) ho hs hfr.1 hfr.2 (hQ _ _) (Or.inl ⟨(wantedN hg), fun w' hS => run_loadS _ _ hop w' (by (repeat (first | rw [eval_same _ _ (by (try simp only [put_size]); omega)] | rw [eval_far _ _ (by decide)]))) (LL0 _ hS)⟩) hS0 ?_
  rw [hd, ← LR_snoc]
  clear ho hg hop hd hfr
  obtain ⟨o6, ho, hg, hop, hd⟩ := isOpG_out q6
  have hfr := hall ([0, 1, 2, 3, 4, 5], 6) (by simp)
  refine wpAnyH_take (listed := LR 23 [0, 1, 2, 3, 4, 5]) (v := .pointer (some ⟨be, 0, none⟩)) ho hs hfr.1 hfr.2 (hQ _ _) (Or.inl ⟨(wantedN hg), fun w' hS => run_move _ _ hop w' (by (repeat rw [eval_far _ _ (by decide)]); exact e1)⟩) hS0 ?_
  rw [hd, ← LR_snoc]
  clear ho hg hop hd hfr
  obtain ⟨o7, ho, hg, hop, hd⟩ := isOpG_out q7
  have hfr := hall ([0, 1, 2, 3, 4, 5, 6], 7) (by simp)
  refine wpAnyH_take (listed := LR 23 [0, 1, 2, 3, 4, 5, 6]) (v := .pointer (some ⟨be, 0, none⟩)) ho hs hfr.1 hfr.2 (hQ _ _) (Or.inl ⟨(wantedN hg), fun w' hS => run_nilC _ _ hop w' (by (repeat (first | rw [eval_same _ _ (by (try simp only [put_size]); omega)] | rw [eval_far _ _ (by decide)])))⟩) hS0 ?_
  rw [hd, ← LR_snoc]
  clear ho hg hop hd hfr
  obtain ⟨o8, ho, hg, hop, hd⟩ := isOpG_out q8
  have hfr := hall ([0, 1, 2, 3, 4, 5, 6, 7], 8) (by simp)
  refine wpAnyH_take (listed := LR 23 [0, 1, 2, 3, 4, 5, 6, 7]) (v := .pointer (some ⟨be, 2, none⟩)) ho hs hfr.1 hfr.2 (hQ _ _) (Or.inl ⟨(wantedN hg), fun w' hS => run_fldE1 _ _ hop w' (by (repeat (first | rw [eval_same _ _ (by (try simp only [put_size]); omega)] | rw [eval_far _ _ (by decide)])))⟩) hS0 ?_
  rw [hd, ← LR_snoc]
  clear ho hg hop hd hfr
  refine wpAnyH_all r9 (by simp) ?_
  intro i hi
  obtain rfl := List.mem_singleton.1 hi
  obtain ⟨o9, ho, hg, hop, hd⟩ := isOpG_out q9
  have x9_0 : ((((((((((a0.put (some 5) (.pointer (some ⟨bf, 0, none⟩))).put (some 6) (.pointer (some ⟨be, 0, none⟩))).put (some 7) (.pointer (some ⟨be, 0, none⟩))).put (some 8) (.pointer (some ⟨be, 0, none⟩))).put (some 9) (.pointer (some ⟨be, 0, none⟩))).put (some 10) (L0)).put (some 11) (.pointer (some ⟨be, 0, none⟩))).put (some 12) (.pointer (some ⟨be, 0, none⟩))).put (some 13) (.pointer (some ⟨be, 2, none⟩)))).eval (.tmp 5) = .pointer (some ⟨bf, 0, none⟩) := (by (repeat (first | rw [eval_same _ _ (by (try simp only [put_size]); omega)] | rw [eval_far _ _ (by decide)])))
  have x9_1 : ((((((((((a0.put (some 5) (.pointer (some ⟨bf, 0, none⟩))).put (some 6) (.pointer (some ⟨be, 0, none⟩))).put (some 7) (.pointer (some ⟨be, 0, none⟩))).put (some 8) (.pointer (some ⟨be, 0, none⟩))).put (some 9) (.pointer (some ⟨be, 0, none⟩))).put (some 10) (L0)).put (some 11) (.pointer (some ⟨be, 0, none⟩))).put (some 12) (.pointer (some ⟨be, 0, none⟩))).put (some 13) (.pointer (some ⟨be, 2, none⟩)))).eval (.tmp 10) = L0 := (by (repeat (first | rw [eval_same _ _ (by (try simp only [put_size]); omega)] | rw [eval_far _ _ (by decide)])))
  have x9_2 : ((((((((((a0.put (some 5) (.pointer (some ⟨bf, 0, none⟩))).put (some 6) (.pointer (some ⟨be, 0, none⟩))).put (some 7) (.pointer (some ⟨be, 0, none⟩))).put (some 8) (.pointer (some ⟨be, 0, none⟩))).put (some 9) (.pointer (some ⟨be, 0, none⟩))).put (some 10) (L0)).put (some 11) (.pointer (some ⟨be, 0, none⟩))).put (some 12) (.pointer (some ⟨be, 0, none⟩))).put (some 13) (.pointer (some ⟨be, 2, none⟩)))).eval (.tmp 13) = .pointer (some ⟨be, 2, none⟩) := (by (repeat (first | rw [eval_same _ _ (by (try simp only [put_size]); omega)] | rw [eval_far _ _ (by decide)])))
  refine wpOp_callG ho (wantedN hg) (run_callV 56 Tryz.func56 (by kernel_rfl) (by kernel_rfl) #[.tmp 5, .tmp 10, .tmp 13] _ hop #[.pointer (some ⟨bf, 0, none⟩), L0, .pointer (some ⟨be, 2, none⟩)] (by simp only [List.map_toArray, List.map_cons, List.map_nil, x9_0, x9_1, x9_2])) ?_
  refine (C1).mono ?_
  rintro e u1 ⟨rfl, hS1, hP⟩
  have hS9 := keep _ _ hS0 hS1
  refine ⟨_, rfl, hS9, ?_⟩
  rw [hd]
  clear ho hg hop hd
  rw [← LR_snoc]
  obtain ⟨o10, ho, hg, hop, hd⟩ := isOpG_out q10
  have hfr := hall ([0, 1, 2, 3, 4, 5, 6, 7, 8, 9], 10) (by simp)
  refine wpAnyH_take (listed := LR 23 [0, 1, 2, 3, 4, 5, 6, 7, 8, 9]) (v := .bool true) ho hs hfr.1 hfr.2 (hQ _ _) (Or.inl ⟨(wantedN hg), fun w' hS => run_move _ _ hop w' (by (repeat (first | rw [eval_same _ _ (by (try simp only [put_size]); omega)] | rw [eval_far _ _ (by decide)])))⟩) hS9 ?_
  rw [hd, ← LR_snoc]
  clear ho hg hop hd hfr
  obtain ⟨o11, ho, hg, hop, hd⟩ := isOpG_out q11
  have hfr := hall ([0, 1, 2, 3, 4, 5, 6, 7, 8, 9, 10], 11) (by simp)
  refine wpAnyH_take (listed := LR 23 [0, 1, 2, 3, 4, 5, 6, 7, 8, 9, 10]) (v := undef) ho hs hfr.1 hfr.2 (hQ _ _) (Or.inr ⟨((wantedB hog10 dog10 hg (by (repeat (first | rw [tmps_same _ _ (by (try simp only [put_size]); omega)] | rw [tmps_far _ _ (by decide)])))).trans (by decide)), rfl⟩) hS9 ?_
  rw [hd, ← LR_snoc]
  clear ho hg hop hd hfr
  obtain ⟨o12, ho, hg, hop, hd⟩ := isOpG_out q12
  have hfr := hall ([0, 1, 2, 3, 4, 5, 6, 7, 8, 9, 10, 11], 12) (by simp)
  refine wpAnyH_take (listed := LR 23 [0, 1, 2, 3, 4, 5, 6, 7, 8, 9, 10, 11]) (v := undef) ho hs hfr.1 hfr.2 (hQ _ _) (Or.inr ⟨((wantedB hog10 dog10 hg (by (repeat (first | rw [tmps_same _ _ (by (try simp only [put_size]); omega)] | rw [tmps_far _ _ (by decide)])))).trans (by decide)), rfl⟩) hS9 ?_
  rw [hd, ← LR_snoc]
  clear ho hg hop hd hfr
  obtain ⟨o13, ho, hg, hop, hd⟩ := isOpG_out q13
  have hfr := hall ([0, 1, 2, 3, 4, 5, 6, 7, 8, 9, 10, 11, 12], 13) (by simp)
  refine wpAnyH_take (listed := LR 23 [0, 1, 2, 3, 4, 5, 6, 7, 8, 9, 10, 11, 12]) (v := undef) ho hs hfr.1 hfr.2 (hQ _ _) (Or.inr ⟨((wantedB hog10 dog10 hg (by (repeat (first | rw [tmps_same _ _ (by (try simp only [put_size]); omega)] | rw [tmps_far _ _ (by decide)])))).trans (by decide)), rfl⟩) hS9 ?_
  rw [hd, ← LR_snoc]
  clear ho hg hop hd hfr
  obtain ⟨o14, ho, hg, hop, hd⟩ := isOpG_out q14
  have hfr := hall ([0, 1, 2, 3, 4, 5, 6, 7, 8, 9, 10, 11, 12, 13], 14) (by simp)
  refine wpAnyH_take (listed := LR 23 [0, 1, 2, 3, 4, 5, 6, 7, 8, 9, 10, 11, 12, 13]) (v := undef) ho hs hfr.1 hfr.2 (hQ _ _) (Or.inr ⟨((wantedB hog10 dog10 hg (by (repeat (first | rw [tmps_same _ _ (by (try simp only [put_size]); omega)] | rw [tmps_far _ _ (by decide)])))).trans (by decide)), rfl⟩) hS9 ?_
  rw [hd, ← LR_snoc]
  clear ho hg hop hd hfr
  obtain ⟨o15, ho, hg, hop, hd⟩ := isOpG_out q15
  have hfr := hall ([0, 1, 2, 3, 4, 5, 6, 7, 8, 9, 10, 11, 12, 13, 14], 15) (by simp)
  refine wpAnyH_take (listed := LR 23 [0, 1, 2, 3, 4, 5, 6, 7, 8, 9, 10, 11, 12, 13, 14]) (v := undef) ho hs hfr.1 hfr.2 (hQ _ _) (Or.inr ⟨((wantedB hog10 dog10 hg (by (repeat (first | rw [tmps_same _ _ (by (try simp only [put_size]); omega)] | rw [tmps_far _ _ (by decide)])))).trans (by decide)), rfl⟩) hS9 ?_
  rw [hd, ← LR_snoc]
  clear ho hg hop hd hfr
  obtain ⟨o16, ho, hg, hop, hd⟩ := isOpG_out q16
  have hfr := hall ([0, 1, 2, 3, 4, 5, 6, 7, 8, 9, 10, 11, 12, 13, 14, 15], 16) (by simp)
  refine wpAnyH_take (listed := LR 23 [0, 1, 2, 3, 4, 5, 6, 7, 8, 9, 10, 11, 12, 13, 14, 15]) (v := undef) ho hs hfr.1 hfr.2 (hQ _ _) (Or.inr ⟨((wantedB hog10 dog10 hg (by (repeat (first | rw [tmps_same _ _ (by (try simp only [put_size]); omega)] | rw [tmps_far _ _ (by decide)])))).trans (by decide)), rfl⟩) hS9 ?_
  rw [hd, ← LR_snoc]
  clear ho hg hop hd hfr
  obtain ⟨o17, ho, hg, hop, hd⟩ := isOpG_out q17
  have hfr := hall ([0, 1, 2, 3, 4, 5, 6, 7, 8, 9, 10, 11, 12, 13, 14, 15, 16], 17) (by simp)
  refine wpAnyH_take (listed := LR 23 [0, 1, 2, 3, 4, 5, 6, 7, 8, 9, 10, 11, 12, 13, 14, 15, 16]) (v := undef) ho hs hfr.1 hfr.2 (hQ _ _) (Or.inr ⟨((wantedB hog10 dog10 hg (by (repeat (first | rw [tmps_same _ _ (by (try simp only [put_size]); omega)] | rw [tmps_far _ _ (by decide)])))).trans (by decide)), rfl⟩) hS9 ?_
  rw [hd, ← LR_snoc]
  clear ho hg hop hd hfr
  obtain ⟨o18, ho, hg, hop, hd⟩ := isOpG_out q18
  have hfr := hall ([0, 1, 2, 3, 4, 5, 6, 7, 8, 9, 10, 11, 12, 13, 14, 15, 16, 17], 18) (by simp)
  refine wpAnyH_take (listed := LR 23 [0, 1, 2, 3, 4, 5, 6, 7, 8, 9, 10, 11, 12, 13, 14, 15, 16, 17]) (v := undef) ho hs hfr.1 hfr.2 (hQ _ _) (Or.inr ⟨((wantedB hog10 dog10 hg (by (repeat (first | rw [tmps_same _ _ (by (try simp only [put_size]); omega)] | rw [tmps_far _ _ (by decide)])))).trans (by decide)), rfl⟩) hS9 ?_
  rw [hd, ← LR_snoc]
  clear ho hg hop hd hfr
  obtain ⟨o19, ho, hg, hop, hd⟩ := isOpG_out q19
  have hfr := hall ([0, 1, 2, 3, 4, 5, 6, 7, 8, 9, 10, 11, 12, 13, 14, 15, 16, 17, 18], 19) (by simp)
  refine wpAnyH_take (listed := LR 23 [0, 1, 2, 3, 4, 5, 6, 7, 8, 9, 10, 11, 12, 13, 14, 15, 16, 17, 18]) (v := undef) ho hs hfr.1 hfr.2 (hQ _ _) (Or.inr ⟨((wantedB hog10 dog10 hg (by (repeat (first | rw [tmps_same _ _ (by (try simp only [put_size]); omega)] | rw [tmps_far _ _ (by decide)])))).trans (by decide)), rfl⟩) hS9 ?_
  rw [hd, ← LR_snoc]
  clear ho hg hop hd hfr
  obtain ⟨o20, ho, hg, hop, hd⟩ := isOpG_out q20
  have hfr := hall ([0, 1, 2, 3, 4, 5, 6, 7, 8, 9, 10, 11, 12, 13, 14, 15, 16, 17, 18, 19], 20) (by simp)
  refine wpAnyH_take (listed := LR 23 [0, 1, 2, 3, 4, 5, 6, 7, 8, 9, 10, 11, 12, 13, 14, 15, 16, 17, 18, 19]) (v := undef) ho hs hfr.1 hfr.2 (hQ _ _) (Or.inr ⟨((wantedB hog10 dog10 hg (by (repeat (first | rw [tmps_same _ _ (by (try simp only [put_size]); omega)] | rw [tmps_far _ _ (by decide)])))).trans (by decide)), rfl⟩) hS9 ?_
  rw [hd, ← LR_snoc]
  clear ho hg hop hd hfr
  obtain ⟨o21, ho, hg, hop, hd⟩ := isOpG_out q21
  have hfr := hall ([0, 1, 2, 3, 4, 5, 6, 7, 8, 9, 10, 11, 12, 13, 14, 15, 16, 17, 18, 19, 20], 21) (by simp)
  refine wpAnyH_take (listed := LR 23 [0, 1, 2, 3, 4, 5, 6, 7, 8, 9, 10, 11, 12, 13, 14, 15, 16, 17, 18, 19, 20]) (v := .bool true) ho hs hfr.1 hfr.2 (hQ _ _) (Or.inl ⟨(wantedN hg), fun w' hS => run_pickT _ _ hop w' (by (repeat (first | rw [eval_same _ _ (by (try simp only [put_size]); omega)] | rw [eval_far _ _ (by decide)]))) rfl⟩) hS9 ?_
  rw [hd, ← LR_snoc]
  clear ho hg hop hd hfr
  obtain ⟨o22, ho, hg, hop, hd⟩ := isOpG_out q22
  have hfr := hall ([0, 1, 2, 3, 4, 5, 6, 7, 8, 9, 10, 11, 12, 13, 14, 15, 16, 17, 18, 19, 20, 21], 22) (by simp)
  refine wpAnyH_take (listed := LR 23 [0, 1, 2, 3, 4, 5, 6, 7, 8, 9, 10, 11, 12, 13, 14, 15, 16, 17, 18, 19, 20, 21]) (v := .bool true) ho hs hfr.1 hfr.2 (hQ _ _) (Or.inl ⟨(wantedN hg), fun w' hS => run_assignV _ _ hop w' (by (repeat (first | rw [eval_same _ _ (by (try simp only [put_size]); omega)] | rw [eval_far _ _ (by decide)])))⟩) hS9 ?_
  rw [hd, ← LR_snoc]
  clear ho hg hop hd hfr
  exact wpAnyH_done rend (F _ hP) _
def svregB_takes : List (List Nat × Nat) := [([], 0), ([0], 1), ([0, 1], 2), ([0, 1, 2], 3), ([0, 1, 2, 3], 4), ([0, 1, 2, 3, 4], 5), ([0, 1, 2, 3, 4, 5], 6), ([0, 1, 2, 3, 4, 5, 6], 7), ([0, 1, 2, 3, 4, 5, 6, 7], 8), ([0, 1, 2, 3, 4, 5, 6, 7, 8, 9], 10), ([0, 1, 2, 3, 4, 5, 6, 7, 8, 9, 10], 11), ([0, 1, 2, 3, 4, 5, 6, 7, 8, 9, 10, 11], 12), ([0, 1, 2, 3, 4, 5, 6, 7, 8, 9, 10, 11, 12], 13), ([0, 1, 2, 3, 4, 5, 6, 7, 8, 9, 10, 11, 12, 13], 14), ([0, 1, 2, 3, 4, 5, 6, 7, 8, 9, 10, 11, 12, 13, 14], 15), ([0, 1, 2, 3, 4, 5, 6, 7, 8, 9, 10, 11, 12, 13, 14, 15], 16), ([0, 1, 2, 3, 4, 5, 6, 7, 8, 9, 10, 11, 12, 13, 14, 15, 16], 17), ([0, 1, 2, 3, 4, 5, 6, 7, 8, 9, 10, 11, 12, 13, 14, 15, 16, 17], 18), ([0, 1, 2, 3, 4, 5, 6, 7, 8, 9, 10, 11, 12, 13, 14, 15, 16, 17, 18], 19), ([0, 1, 2, 3, 4, 5, 6, 7, 8, 9, 10, 11, 12, 13, 14, 15, 16, 17, 18, 19, 20], 21), ([0, 1, 2, 3, 4, 5, 6, 7, 8, 9, 10, 11, 12, 13, 14, 15, 16, 17, 18, 19, 20, 21], 22)]
set_option maxHeartbeats 3200000 in
theorem svregB {ops : Array Oper} {Q : Exit → Act → World → Prop} {S : World → Prop} {a0 : Act} {w5 : World} {bf be : Nat} {L0 L1 : Value} {ty1 ty2 : Array TypeId} {P : World → Prop} {b2 : Bool}
    (q0 : isOpG ops 0 none (.move (.tmp 0)) (some 5))
    (q1 : isOpG ops 1 none (.move (.tmp 1)) (some 6))
    (q2 : isOpG ops 2 none (.nilCheck (.tmp 6)) (some 7))
    (q3 : isOpG ops 3 none (.fieldAddr 92 (.tmp 7) 0) (some 8))
    (q4 : isOpG ops 4 none (.fieldAddr 89 (.tmp 8) 0) (some 9))
    (q5 : isOpG ops 5 none (.load 80 (.tmp 9)) (some 10))
    (q6 : isOpG ops 6 none (.move (.tmp 1)) (some 11))
    (q7 : isOpG ops 7 none (.nilCheck (.tmp 11)) (some 12))
    (q8 : isOpG ops 8 none (.fieldAddr 92 (.tmp 12) 1) (some 13))
    (q9 : isOpG ops 9 none (.call { callee := .value (.func 56), args := #[.tmp 5, .tmp 10, .tmp 13], argTypes := ty1 }) (some 14))
    (q10 : isOpG ops 10 none (.move (.tmp 14)) (some 15))
    (q11 : isOpG ops 11 (some (10, false)) (.move (.tmp 0)) (some 16))
    (q12 : isOpG ops 12 (some (10, false)) (.move (.tmp 1)) (some 17))
    (q13 : isOpG ops 13 (some (10, false)) (.nilCheck (.tmp 17)) (some 18))
    (q14 : isOpG ops 14 (some (10, false)) (.fieldAddr 92 (.tmp 18) 1) (some 19))
    (q15 : isOpG ops 15 (some (10, false)) (.fieldAddr 89 (.tmp 19) 0) (some 20))
    (q16 : isOpG ops 16 (some (10, false)) (.load 80 (.tmp 20)) (some 21))
    (q17 : isOpG ops 17 (some (10, false)) (.move (.tmp 1)) (some 22))
    (q18 : isOpG ops 18 (some (10, false)) (.nilCheck (.tmp 22)) (some 23))
    (q19 : isOpG ops 19 (some (10, false)) (.fieldAddr 92 (.tmp 23) 0) (some 24))
    (q20 : isOpG ops 20 (some (10, false)) (.call { callee := .value (.func 56), args := #[.tmp 16, .tmp 21, .tmp 24], argTypes := ty2 }) (some 25))
    (q21 : isOpG ops 21 none (.pick (.tmp 15) (.const (.bool true)) (.tmp 25)) (some 26))
    (q22 : isOpG ops 22 none (.assign (.tmp 26)) (some 4))
    (hs : Region.noSelect ops = true) (hq : (svregB_takes.all fun p => Region.free .any ops (LR 23 p.1) p.2 && (Region.ready .any ops (LR 23 p.1)).contains p.2) = true)
    (r9 : Region.ready .any ops (LR 23 [0, 1, 2, 3, 4, 5, 6, 7, 8]) = [9])
    (r20 : Region.ready .any ops (LR 23 [0, 1, 2, 3, 4, 5, 6, 7, 8, 9, 10, 11, 12, 13, 14, 15, 16, 17, 18, 19]) = [20])
    (rend : Region.ready .any ops (LR 23 [0, 1, 2, 3, 4, 5, 6, 7, 8, 9, 10, 11, 12, 13, 14, 15, 16, 17, 18, 19, 20, 21, 22]) = [])
    (hQ : ∀ (d : Option Tmp) (v : Value) c a w, Q (.panic c) (a.put d v) w → Q (.panic c) a w)
    (hsz : 26 < a0.tmps.size) (e0 : a0.eval (.tmp 0) = .pointer (some ⟨bf, 0, none⟩)) (e1 : a0.eval (.tmp 1) = .pointer (some ⟨be, 0, none⟩))
    (hS0 : S w5.drew)
    (keep : ∀ u u', S u → S u' → S u') (LL0 : ∀ u, S u → (loadVar 80 ⟨be, 0, none⟩).run Tryz.prog u = .ok L0 u) (LL1 : ∀ u, S u → (loadVar 80 ⟨be, 2, none⟩).run Tryz.prog u = .ok L1 u)
    (C1 : Calls Tryz.prog 56 #[.pointer (some ⟨bf, 0, none⟩), L0, .pointer (some ⟨be, 2, none⟩)] w5.drew fun e w' => e = .returned (.bool false) ∧ S w' ∧ Calls Tryz.prog 56 #[.pointer (some ⟨bf, 0, none⟩), L1, .pointer (some ⟨be, 0, none⟩)] w' fun e w'' => e = .returned (.bool b2) ∧ S w'' ∧ P w'')
    (F : ∀ (wc : World), P wc → Q .normal (((((((((((((((((((((((a0.put (some 5) (.pointer (some ⟨bf, 0, none⟩))).put (some 6) (.pointer (some ⟨be, 0, none⟩))).put (some 7) (.pointer (some ⟨be, 0, none⟩))).put (some 8) (.pointer (some ⟨be, 0, none⟩))).put (some 9) (.pointer (some ⟨be, 0, none⟩))).put (some 10) (L0)).put (some 11) (.pointer (some ⟨be, 0, none⟩))).put (some 12) (.pointer (some ⟨be, 0, none⟩))).put (some 13) (.pointer (some ⟨be, 2, none⟩))).put (some 14) (.bool false)).put (some 15) (.bool false)).put (some 16) (.pointer (some ⟨bf, 0, none⟩))).put (some 17) (.pointer (some ⟨be, 0, none⟩))).put (some 18) (.pointer (some ⟨be, 0, none⟩))).put (some 19) (.pointer (some ⟨be, 2, none⟩))).put (some 20) (.pointer (some ⟨be, 2, none⟩))).put (some 21) (L1)).put (some 22) (.pointer (some ⟨be, 0, none⟩))).put (some 23) (.pointer (some ⟨be, 0, none⟩))).put (some 24) (.pointer (some ⟨be, 0, none⟩))).put (some 25) (.bool b2)).put (some 26) (.bool b2)).put (some 4) (.bool b2)) wc) :
    wpAnyH Tryz.prog .any ops Q S 23 (LR 23 []) a0 w5.drew := by
  have hall : ∀ p ∈ svregB_takes, Region.free .any ops (LR 23 p.1) p.2 = true ∧ (Region.ready .any ops (LR 23 p.1)).contains p.2 = true := by
    intro p hp
    have := List.all_eq_true.1 hq p hp
    simpa using this
  unfold svregB_takes at hall
  obtain ⟨og10, hog10, _, _, dog10⟩ := isOpG_out q10
  obtain ⟨o0, ho, hg, hop, hd⟩ := isOpG_out q0
  have hfr := hall ([], 0) (by simp)
  refine wpAnyH_take (listed := LR 23 []) (v := .pointer (some ⟨bf, 0, none⟩)) ho hs hfr.1 hfr.2 (hQ _ _) (Or.inl ⟨(wantedN hg), fun w' hS => run_move _ _ hop w' (by (repeat rw [eval_far _ _ (by decide)]); exact e0)⟩) hS0 ?_
  rw [hd, ← LR_snoc]
  clear ho hg hop hd hfr
  obtain ⟨o1, ho, hg, hop, hd⟩ := isOpG_out q1
  have hfr := hall ([0], 1) (by simp)
  refine wpAnyH_take (listed := LR 23 [0]) (v := .pointer (some ⟨be, 0, none⟩)) ho hs hfr.1 hfr.2 (hQ _ _) (Or.inl ⟨(wantedN hg), fun w' hS => run_move _ _ hop w' (by (repeat rw [eval_far _ _ (by decide)]); exact e1)⟩) hS0 ?_
  rw [hd, ← LR_snoc]
  clear ho hg hop hd hfr
  obtain ⟨o2, ho, hg, hop, hd⟩ := isOpG_out q2
  have hfr := hall ([0, 1], 2) (by simp)
  refine wpAnyH_take (listed := LR 23 [0, 1]) (v := .pointer (some ⟨be, 0, none⟩)) ho hs hfr.1 hfr.2 (hQ _ _) (Or.inl ⟨(wantedN hg), fun w' hS => run_nilC _ _ hop w' (by (repeat (first | rw [eval_same _ _ (by (try simp only [put_size]); omega)] | rw [eval_far _ _ (by decide)])))⟩) hS0 ?_
  rw [hd, ← LR_snoc]
  clear ho hg hop hd hfr
  obtain ⟨o3, ho, hg, hop, hd⟩ := isOpG_out q3
  have hfr := hall ([0, 1, 2], 3) (by simp)
  refine wpAnyH_take (listed := LR 23 [0, 1, 2]) (v := .pointer (some ⟨be, 0, none⟩)) ho hs hfr.1 hfr.2 (hQ _ _) (Or.inl ⟨(wantedN hg), fun w' hS => run_fldE0 _ _ hop w' (by (repeat (first | rw [eval_same _ _ (by (try simp only [put_size]); omega)] | rw [eval_far _ _ (by decide)])))⟩) hS0 ?_
  rw [hd, ← LR_snoc]
  clear ho hg hop hd hfr
  obtain ⟨o4, ho, hg, hop, hd⟩ := isOpG_out q4
  have hfr := hall ([0, 1, 2, 3], 4) (by simp)
  refine wpAnyH_take (listed := LR 23 [0, 1, 2, 3]) (v := .pointer (some ⟨be, 0, none⟩)) ho hs hfr.1 hfr.2 (hQ _ _) (Or.inl ⟨(wantedN hg), fun w' hS => run_fldS0 _ _ hop w' (by (repeat (first | rw [eval_same _ _ (by (try simp only [put_size]); omega)] | rw [eval_far _ _ (by decide)])))⟩) hS0 ?_
  rw [hd, ← LR_snoc]
  clear ho hg hop hd hfr
  obtain ⟨o5, ho, hg, hop, hd⟩ := isOpG_out q5
  have hfr := hall ([0, 1, 2, 3, 4], 5) (by simp)
  refine wpAnyH_take (listed := LR 23 [0, 1, 2, 3, 4]) (v := L0) ho hs hfr.1 hfr.2 (hQ _ _) (Or.inl ⟨(wantedN hg), fun w' hS => run_loadS _ _ hop w' (by (repeat (first | rw [eval_same _ _ (by (try simp only [put_size]); omega)] | rw [eval_far _ _ (by decide)]))) (LL0 _ hS)⟩) hS0 ?_
  rw [hd, ← LR_snoc]
  clear ho hg hop hd hfr
  obtain ⟨o6, ho, hg, hop, hd⟩ := isOpG_out q6
  have hfr := hall ([0, 1, 2, 3, 4, 5], 6) (by simp)
  refine wpAnyH_take (listed := LR 23 [0, 1, 2, 3, 4, 5]) (v := .pointer (some ⟨be, 0, none⟩)) ho hs hfr.1 hfr.2 (hQ _ _) (Or.inl ⟨(wantedN hg), fun w' hS => run_move _ _ hop w' (by (repeat rw [eval_far _ _ (by decide)]); exact e1)⟩) hS0 ?_
  rw [hd, ← LR_snoc]
  clear ho hg hop hd hfr
  obtain ⟨o7, ho, hg, hop, hd⟩ := isOpG_out q7
  have hfr := hall ([0, 1, 2, 3, 4, 5, 6], 7) (by simp)
  refine wpAnyH_take (listed := LR 23 [0, 1, 2, 3, 4, 5, 6]) (v := .pointer (some ⟨be, 0, none⟩)) ho hs hfr.1 hfr.2 (hQ _ _) (Or.inl ⟨(wantedN hg), fun w' hS => run_nilC _ _ hop w' (by (repeat (first | rw [eval_same _ _ (by (try simp only [put_size]); omega)] | rw [eval_far _ _ (by decide)])))⟩) hS0 ?_
  rw [hd, ← LR_snoc]
  clear ho hg hop hd hfr
  obtain ⟨o8, ho, hg, hop, hd⟩ := isOpG_out q8
  have hfr := hall ([0, 1, 2, 3, 4, 5, 6, 7], 8) (by simp)
  refine wpAnyH_take (listed := LR 23 [0, 1, 2, 3, 4, 5, 6, 7]) (v := .pointer (some ⟨be, 2, none⟩)) ho hs hfr.1 hfr.2 (hQ _ _) (Or.inl ⟨(wantedN hg), fun w' hS => run_fldE1 _ _ hop w' (by (repeat (first | rw [eval_same _ _ (by (try simp only [put_size]); omega)] | rw [eval_far _ _ (by decide)])))⟩) hS0 ?_
  rw [hd, ← LR_snoc]
  clear ho hg hop hd hfr
  refine wpAnyH_all r9 (by simp) ?_
  intro i hi
  obtain rfl := List.mem_singleton.1 hi
  obtain ⟨o9, ho, hg, hop, hd⟩ := isOpG_out q9
  have x9_0 : ((((((((((a0.put (some 5) (.pointer (some ⟨bf, 0, none⟩))).put (some 6) (.pointer (some ⟨be, 0, none⟩))).put (some 7) (.pointer (some ⟨be, 0, none⟩))).put (some 8) (.pointer (some ⟨be, 0, none⟩))).put (some 9) (.pointer (some ⟨be, 0, none⟩))).put (some 10) (L0)).put (some 11) (.pointer (some ⟨be, 0, none⟩))).put (some 12) (.pointer (some ⟨be, 0, none⟩))).put (some 13) (.pointer (some ⟨be, 2, none⟩)))).eval (.tmp 5) = .pointer (some ⟨bf, 0, none⟩) := (by (repeat (first | rw [eval_same _ _ (by (try simp only [put_size]); omega)] | rw [eval_far _ _ (by decide)])))
  have x9_1 : ((((((((((a0.put (some 5) (.pointer (some ⟨bf, 0, none⟩))).put (some 6) (.pointer (some ⟨be, 0, none⟩))).put (some 7) (.pointer (some ⟨be, 0, none⟩))).put (some 8) (.pointer (some ⟨be, 0, none⟩))).put (some 9) (.pointer (some ⟨be, 0, none⟩))).put (some 10) (L0)).put (some 11) (.pointer (some ⟨be, 0, none⟩))).put (some 12) (.pointer (some ⟨be, 0, none⟩))).put (some 13) (.pointer (some ⟨be, 2, none⟩)))).eval (.tmp 10) = L0 := (by (repeat (first | rw [eval_same _ _ (by (try simp only [put_size]); omega)] | rw [eval_far _ _ (by decide)])))
  have x9_2 : ((((((((((a0.put (some 5) (.pointer (some ⟨bf, 0, none⟩))).put (some 6) (.pointer (some ⟨be, 0, none⟩))).put (some 7) (.pointer (some ⟨be, 0, none⟩))).put (some 8) (.pointer (some ⟨be, 0, none⟩))).put (some 9) (.pointer (some ⟨be, 0, none⟩))).put (some 10) (L0)).put (some 11) (.pointer (some ⟨be, 0, none⟩))).put (some 12) (.pointer (some ⟨be, 0, none⟩))).put (some 13) (.pointer (some ⟨be, 2, none⟩)))).eval (.tmp 13) = .pointer (some ⟨be, 2, none⟩) := (by (repeat (first | rw [eval_same _ _ (by (try simp only [put_size]); omega)] | rw [eval_far _ _ (by decide)])))
  refine wpOp_callG ho (wantedN hg) (run_callV 56 Tryz.func56 (by kernel_rfl) (by kernel_rfl) #[.tmp 5, .tmp 10, .tmp 13] _ hop #[.pointer (some ⟨bf, 0, none⟩), L0, .pointer (some ⟨be, 2, none⟩)] (by simp only [List.map_toArray, List.map_cons, List.map_nil, x9_0, x9_1, x9_2])) ?_
  refine (C1).mono ?_
  rintro e u1 ⟨rfl, hS1, C2⟩
  have hS9 := keep _ _ hS0 hS1
  refine ⟨_, rfl, hS9, ?_⟩
  rw [hd]
  clear ho hg hop hd
  rw [← LR_snoc]
  obtain ⟨o10, ho, hg, hop, hd⟩ := isOpG_out q10
  have hfr := hall ([0, 1, 2, 3, 4, 5, 6, 7, 8, 9], 10) (by simp)
  refine wpAnyH_take (listed := LR 23 [0, 1, 2, 3, 4, 5, 6, 7, 8, 9]) (v := .bool false) ho hs hfr.1 hfr.2 (hQ _ _) (Or.inl ⟨(wantedN hg), fun w' hS => run_move _ _ hop w' (by (repeat (first | rw [eval_same _ _ (by (try simp only [put_size]); omega)] | rw [eval_far _ _ (by decide)])))⟩) hS9 ?_
  rw [hd, ← LR_snoc]
  clear ho hg hop hd hfr
  obtain ⟨o11, ho, hg, hop, hd⟩ := isOpG_out q11
  have hfr := hall ([0, 1, 2, 3, 4, 5, 6, 7, 8, 9, 10], 11) (by simp)
  refine wpAnyH_take (listed := LR 23 [0, 1, 2, 3, 4, 5, 6, 7, 8, 9, 10]) (v := .pointer (some ⟨bf, 0, none⟩)) ho hs hfr.1 hfr.2 (hQ _ _) (Or.inl ⟨((wantedB hog10 dog10 hg (by (repeat (first | rw [tmps_same _ _ (by (try simp only [put_size]); omega)] | rw [tmps_far _ _ (by decide)])))).trans (by decide)), fun w' hS => run_move _ _ hop w' (by (repeat rw [eval_far _ _ (by decide)]); exact e0)⟩) hS9 ?_
  rw [hd, ← LR_snoc]
  clear ho hg hop hd hfr
  obtain ⟨o12, ho, hg, hop, hd⟩ := isOpG_out q12
  have hfr := hall ([0, 1, 2, 3, 4, 5, 6, 7, 8, 9, 10, 11], 12) (by simp)
  refine wpAnyH_take (listed := LR 23 [0, 1, 2, 3, 4, 5, 6, 7, 8, 9, 10, 11]) (v := .pointer (some ⟨be, 0, none⟩)) ho hs hfr.1 hfr.2 (hQ _ _) (Or.inl ⟨((wantedB hog10 dog10 hg (by (repeat (first | rw [tmps_same _ _ (by (try simp only [put_size]); omega)] | rw [tmps_far _ _ (by decide)])))).trans (by decide)), fun w' hS => run_move _ _ hop w' (by (repeat rw [eval_far _ _ (by decide)]); exact e1)⟩) hS9 ?_
  rw [hd, ← LR_snoc]
  clear ho hg hop hd hfr
  obtain ⟨o13, ho, hg, hop, hd⟩ := isOpG_out q13
  have hfr := hall ([0, 1, 2, 3, 4, 5, 6, 7, 8, 9, 10, 11, 12], 13) (by simp)
  refine wpAnyH_take (listed := LR 23 [0, 1, 2, 3, 4, 5, 6, 7, 8, 9, 10, 11, 12]) (v := .pointer (some ⟨be, 0, none⟩)) ho hs hfr.1 hfr.2 (hQ _ _) (Or.inl ⟨((wantedB hog10 dog10 hg (by (repeat (first | rw [tmps_same _ _ (by (try simp only [put_size]); omega)] | rw [tmps_far _ _ (by decide)])))).trans (by decide)), fun w' hS => run_nilC _ _ hop w' (by (repeat (first | rw [eval_same _ _ (by (try simp only [put_size]); omega)] | rw [eval_far _ _ (by decide)])))⟩) hS9 ?_
  rw [hd, ← LR_snoc]
  clear ho hg hop hd hfr
  obtain ⟨o14, ho, hg, hop, hd⟩ := isOpG_out q14
  have hfr := hall ([0, 1, 2, 3, 4, 5, 6, 7, 8, 9, 10, 11, 12, 13], 14) (by simp)
  refine wpAnyH_take (listed := LR 23 [0, 1, 2, 3, 4, 5, 6, 7, 8, 9, 10, 11, 12, 13]) (v := .pointer (some ⟨be, 2, none⟩)) ho hs hfr.1 hfr.2 (hQ _ _) (Or.inl ⟨((wantedB hog10 dog10 hg (by (repeat (first | rw [tmps_same _ _ (by (try simp only [put_size]); omega)] | rw [tmps_far _ _ (by decide)])))).trans (by decide)), fun w' hS => run_fldE1 _ _ hop w' (by (repeat (first | rw [eval_same _ _ (by (try simp only [put_size]); omega)] | rw [eval_far _ _ (by decide)])))⟩) hS9 ?_
  rw [hd, ← LR_snoc]
  clear ho hg hop hd hfr
  obtain ⟨o15, ho, hg, hop, hd⟩ := isOpG_out q15
  have hfr := hall ([0, 1, 2, 3, 4, 5, 6, 7, 8, 9, 10, 11, 12, 13, 14], 15) (by simp)
  refine wpAnyH_take (listed := LR 23 [0, 1, 2, 3, 4, 5, 6, 7, 8, 9, 10, 11, 12, 13, 14]) (v := .pointer (some ⟨be, 2, none⟩)) ho hs hfr.1 hfr.2 (hQ _ _) (Or.inl ⟨((wantedB hog10 dog10 hg (by (repeat (first | rw [tmps_same _ _ (by (try simp only [put_size]); omega)] | rw [tmps_far _ _ (by decide)])))).trans (by decide)), fun w' hS => run_fldS2 _ _ hop w' (by (repeat (first | rw [eval_same _ _ (by (try simp only [put_size]); omega)] | rw [eval_far _ _ (by decide)])))⟩) hS9 ?_
  rw [hd, ← LR_snoc]
  clear ho hg hop hd hfr
  obtain ⟨o16, ho, hg, hop, hd⟩ := isOpG_out q16
  have hfr := hall ([0, 1, 2, 3, 4, 5, 6, 7, 8, 9, 10, 11, 12, 13, 14, 15], 16) (by simp)
  refine wpAnyH_take (listed := LR 23 [0, 1, 2, 3, 4, 5, 6, 7, 8, 9, 10, 11, 12, 13, 14, 15]) (v := L1) ho hs hfr.1 hfr.2 (hQ _ _) (Or.inl ⟨((wantedB hog10 dog10 hg (by (repeat (first | rw [tmps_same _ _ (by (try simp only [put_size]); omega)] | rw [tmps_far _ _ (by decide)])))).trans (by decide)), fun w' hS => run_loadS _ _ hop w' (by (repeat (first | rw [eval_same _ _ (by (try simp only [put_size]); omega)] | rw [eval_far _ _ (by decide)]))) (LL1 _ hS)⟩) hS9 ?_
  rw [hd, ← LR_snoc]
  clear ho hg hop hd hfr
  obtain ⟨o17, ho, hg, hop, hd⟩ := isOpG_out q17
  have hfr := hall ([0, 1, 2, 3, 4, 5, 6, 7, 8, 9, 10, 11, 12, 13, 14, 15, 16], 17) (by simp)
  refine wpAnyH_take (listed := LR 23 [0, 1, 2, 3, 4, 5, 6, 7, 8, 9, 10, 11, 12, 13, 14, 15, 16]) (v := .pointer (some ⟨be, 0, none⟩)) ho hs hfr.1 hfr.2 (hQ _ _) (Or.inl ⟨((wantedB hog10 dog10 hg (by (repeat (first | rw [tmps_same _ _ (by (try simp only [put_size]); omega)] | rw [tmps_far _ _ (by decide)])))).trans (by decide)), fun w' hS => run_move _ _ hop w' (by (repeat rw [eval_far _ _ (by decide)]); exact e1)⟩) hS9 ?_
  rw [hd, ← LR_snoc]
  clear ho hg hop hd hfr
  obtain ⟨o18, ho, hg, hop, hd⟩ := isOpG_out q18
  have hfr := hall ([0, 1, 2, 3, 4, 5, 6, 7, 8, 9, 10, 11, 12, 13, 14, 15, 16, 17], 18) (by simp)
  refine wpAnyH_take (listed := LR 23 [0, 1, 2, 3, 4, 5, 6, 7, 8, 9, 10, 11, 12, 13, 14, 15, 16, 17]) (v := .pointer (some ⟨be, 0, none⟩)) ho hs hfr.1 hfr.2 (hQ _ _) (Or.inl ⟨((wantedB hog10 dog10 hg (by (repeat (first | rw [tmps_same _ _ (by (try simp only [put_size]); omega)] | rw [tmps_far _ _ (by decide)])))).trans (by decide)), fun w' hS => run_nilC _ _ hop w' (by (repeat (first | rw [eval_same _ _ (by (try simp only [put_size]); omega)] | rw [eval_far _ _ (by decide)])))⟩) hS9 ?_
  rw [hd, ← LR_snoc]
  clear ho hg hop hd hfr
  obtain ⟨o19, ho, hg, hop, hd⟩ := isOpG_out q19
  have hfr := hall ([0, 1, 2, 3, 4, 5, 6, 7, 8, 9, 10, 11, 12, 13, 14, 15, 16, 17, 18], 19) (by simp)
  refine wpAnyH_take (listed := LR 23 [0, 1, 2, 3, 4, 5, 6, 7, 8, 9, 10, 11, 12, 13, 14, 15, 16, 17, 18]) (v := .pointer (some ⟨be, 0, none⟩)) ho hs hfr.1 hfr.2 (hQ _ _) (Or.inl ⟨((wantedB hog10 dog10 hg (by (repeat (first | rw [tmps_same _ _ (by (try simp only [put_size]); omega)] | rw [tmps_far _ _ (by decide)])))).trans (by decide)), fun w' hS => run_fldE0 _ _ hop w' (by (repeat (first | rw [eval_same _ _ (by (try simp only [put_size]); omega)] | rw [eval_far _ _ (by decide)])))⟩) hS9 ?_
  rw [hd, ← LR_snoc]
  clear ho hg hop hd hfr
  refine wpAnyH_all r20 (by simp) ?_
  intro i hi
  obtain rfl := List.mem_singleton.1 hi
  obtain ⟨o20, ho, hg, hop, hd⟩ := isOpG_out q20
  have x20_0 : (((((((((((((((((((((a0.put (some 5) (.pointer (some ⟨bf, 0, none⟩))).put (some 6) (.pointer (some ⟨be, 0, none⟩))).put (some 7) (.pointer (some ⟨be, 0, none⟩))).put (some 8) (.pointer (some ⟨be, 0, none⟩))).put (some 9) (.pointer (some ⟨be, 0, none⟩))).put (some 10) (L0)).put (some 11) (.pointer (some ⟨be, 0, none⟩))).put (some 12) (.pointer (some ⟨be, 0, none⟩))).put (some 13) (.pointer (some ⟨be, 2, none⟩))).put (some 14) (.bool false)).put (some 15) (.bool false)).put (some 16) (.pointer (some ⟨bf, 0, none⟩))).put (some 17) (.pointer (some ⟨be, 0, none⟩))).put (some 18) (.pointer (some ⟨be, 0, none⟩))).put (some 19) (.pointer (some ⟨be, 2, none⟩))).put (some 20) (.pointer (some ⟨be, 2, none⟩))).put (some 21) (L1)).put (some 22) (.pointer (some ⟨be, 0, none⟩))).put (some 23) (.pointer (some ⟨be, 0, none⟩))).put (some 24) (.pointer (some ⟨be, 0, none⟩)))).eval (.tmp 16) = .pointer (some ⟨bf, 0, none⟩) := (by (repeat (first | rw [eval_same _ _ (by (try simp only [put_size]); omega)] | rw [eval_far _ _ (by decide)])))
  have x20_1 : (((((((((((((((((((((a0.put (some 5) (.pointer (some ⟨bf, 0, none⟩))).put (some 6) (.pointer (some ⟨be, 0, none⟩))).put (some 7) (.pointer (some ⟨be, 0, none⟩))).put (some 8) (.pointer (some ⟨be, 0, none⟩))).put (some 9) (.pointer (some ⟨be, 0, none⟩))).put (some 10) (L0)).put (some 11) (.pointer (some ⟨be, 0, none⟩))).put (some 12) (.pointer (some ⟨be, 0, none⟩))).put (some 13) (.pointer (some ⟨be, 2, none⟩))).put (some 14) (.bool false)).put (some 15) (.bool false)).put (some 16) (.pointer (some ⟨bf, 0, none⟩))).put (some 17) (.pointer (some ⟨be, 0, none⟩))).put (some 18) (.pointer (some ⟨be, 0, none⟩))).put (some 19) (.pointer (some ⟨be, 2, none⟩))).put (some 20) (.pointer (some ⟨be, 2, none⟩))).put (some 21) (L1)).put (some 22) (.pointer (some ⟨be, 0, none⟩))).put (some 23) (.pointer (some ⟨be, 0, none⟩))).put (some 24) (.pointer (some ⟨be, 0, none⟩)))).eval (.tmp 21) = L1 := (by (repeat (first | rw [eval_same _ _ (by (try simp only [put_size]); omega)] | rw [eval_far _ _ (by decide)])))
  have x20_2 : (((((((((((((((((((((a0.put (some 5) (.pointer (some ⟨bf, 0, none⟩))).put (some 6) (.pointer (some ⟨be, 0, none⟩))).put (some 7) (.pointer (some ⟨be, 0, none⟩))).put (some 8) (.pointer (some ⟨be, 0, none⟩))).put (some 9) (.pointer (some ⟨be, 0, none⟩))).put (some 10) (L0)).put (some 11) (.pointer (some ⟨be, 0, none⟩))).put (some 12) (.pointer (some ⟨be, 0, none⟩))).put (some 13) (.pointer (some ⟨be, 2, none⟩))).put (some 14) (.bool false)).put (some 15) (.bool false)).put (some 16) (.pointer (some ⟨bf, 0, none⟩))).put (some 17) (.pointer (some ⟨be, 0, none⟩))).put (some 18) (.pointer (some ⟨be, 0, none⟩))).put (some 19) (.pointer (some ⟨be, 2, none⟩))).put (some 20) (.pointer (some ⟨be, 2, none⟩))).put (some 21) (L1)).put (some 22) (.pointer (some ⟨be, 0, none⟩))).put (some 23) (.pointer (some ⟨be, 0, none⟩))).put (some 24) (.pointer (some ⟨be, 0, none⟩)))).eval (.tmp 24) = .pointer (some ⟨be, 0, none⟩) := (by (repeat (first | rw [eval_same _ _ (by (try simp only [put_size]); omega)] | rw [eval_far _ _ (by decide)])))
  refine wpOp_callG ho ((wantedB hog10 dog10 hg (by (repeat (first | rw [tmps_same _ _ (by (try simp only [put_size]); omega)] | rw [tmps_far _ _ (by decide)])))).trans (by decide)) (run_callV 56 Tryz.func56 (by kernel_rfl) (by kernel_rfl) #[.tmp 16, .tmp 21, .tmp 24] _ hop #[.pointer (some ⟨bf, 0, none⟩), L1, .pointer (some ⟨be, 0, none⟩)] (by simp only [List.map_toArray, List.map_cons, List.map_nil, x20_0, x20_1, x20_2])) ?_
  refine (C2).mono ?_
  rintro e u2 ⟨rfl, hS2, hP⟩
  have hS20 := keep _ _ hS9 hS2
  refine ⟨_, rfl, hS20, ?_⟩
  rw [hd]
  clear ho hg hop hd
  rw [← LR_snoc]
  obtain ⟨o21, ho, hg, hop, hd⟩ := isOpG_out q21
  have hfr := hall ([0, 1, 2, 3, 4, 5, 6, 7, 8, 9, 10, 11, 12, 13, 14, 15, 16, 17, 18, 19, 20], 21) (by simp)
  refine wpAnyH_take (listed := LR 23 [0, 1, 2, 3, 4, 5, 6, 7, 8, 9, 10, 11, 12, 13, 14, 15, 16, 17, 18, 19, 20]) (v := .bool b2) ho hs hfr.1 hfr.2 (hQ _ _) (Or.inl ⟨(wantedN hg), fun w' hS => run_pickF _ _ hop w' (by (repeat (first | rw [eval_same _ _ (by (try simp only [put_size]); omega)] | rw [eval_far _ _ (by decide)]))) (by (repeat (first | rw [eval_same _ _ (by (try simp only [put_size]); omega)] | rw [eval_far _ _ (by decide)])))⟩) hS20 ?_
  rw [hd, ← LR_snoc]
  clear ho hg hop hd hfr
  obtain ⟨o22, ho, hg, hop, hd⟩ := isOpG_out q22
  have hfr := hall ([0, 1, 2, 3, 4, 5, 6, 7, 8, 9, 10, 11, 12, 13, 14, 15, 16, 17, 18, 19, 20, 21], 22) (by simp)
  refine wpAnyH_take (listed := LR 23 [0, 1, 2, 3, 4, 5, 6, 7, 8, 9, 10, 11, 12, 13, 14, 15, 16, 17, 18, 19, 20, 21]) (v := .bool b2) ho hs hfr.1 hfr.2 (hQ _ _) (Or.inl ⟨(wantedN hg), fun w' hS => run_assignV _ _ hop w' (by (repeat (first | rw [eval_same _ _ (by (try simp only [put_size]); omega)] | rw [eval_far _ _ (by decide)])))⟩) hS20 ?_
  rw [hd, ← LR_snoc]
  clear ho hg hop hd hfr
  exact wpAnyH_done rend (F _ hP) _
end Go.Proofs.YtgfnijhhhgjabaaGreatDoor
end
section
namespace Go.Proofs.YtgfnijhhhgjabaaGreatDoor
open Go.RowKit Go.Maps
set_option linter.unusedVariables false
set_option linter.unusedSimpArgs false
attribute [local go_sem ↓] Go.wp_at_zero Go.wp_at_succ

theorem load_pv {u : World} {a : Addr} {v : Value} (h : u.cell? a = some v) : (loadVar 80 a).run Tryz.prog u = .ok v u := by go_simp
theorem GvP.undrew {B bf bm : Nat} {vs : List Vb} {fs : List ByteArray} {sv : Value} {r : Er} {o : Option ByteArray} {w w' : World} (h : GvP B bf bm vs fs sv r o w.drew w') : GvP B bf bm vs fs sv r o w w' := by
  obtain ⟨r', sv', h1, h2, h3, h4, h5, h6, h7⟩ := h
  exact ⟨r', sv', h1, h2, h3, h4, h5, ⟨h6.os, h6.tape, h6.output, h6.size, h6.block⟩, h7⟩
/-- where nothing was given first, and then something or nothing -/
theorem GvP.then {B bf bm : Nat} {vs : List Vb} {fs : List ByteArray} {sv sv1 : Value} {r r1 : Er} {o : Option ByteArray} {w u w' : World} (hbe : r1.be = r.be) (hq : r1.q = r.q ∧ r1.l0 = r.l0 ∧ r1.l1 = r.l1) (ha : ∀ g off, (r1.a0 = some ⟨g, off, none⟩ → ∃ off0, r.a0 = some ⟨g, off0, none⟩) ∧ (r1.a1 = some ⟨g, off, none⟩ → ∃ off0, r.a1 = some ⟨g, off0, none⟩)) (ht : Tz (fun k => FP bf bm vs sv k ∨ k = r.be) w u) (hn : ∀ g, sv1.ownBlock = some g → sv.ownBlock = some g ∨ w.heap.size ≤ g)
    (h : GvP B bf bm vs fs sv1 r1 o u w') : GvP B bf bm vs fs sv r o w w' := by
  obtain ⟨r', sv', h1, h2, h3, h4, h5, h6, h7⟩ := h
  refine ⟨r', sv', h1.trans hbe, ⟨h2.1.trans hq.1, h2.2.1.trans hq.2.1, h2.2.2.trans hq.2.2⟩, fun g off => ⟨fun e => ?_, fun e => ?_⟩, h4, h5, ht.trans h6 ?_, fun g hg => ?_⟩
  · obtain ⟨o1, e1⟩ := (h3 g off).1 e
    exact (ha g o1).1 e1
  · obtain ⟨o1, e1⟩ := (h3 g off).2 e
    exact (ha g o1).2 e1
  · rintro b hb (e | e)
    · rcases e with e | e | e | e
      · exact .inl (.inl e)
      · exact .inl (.inr (.inl e))
      · rcases hn b e with k | k
        · exact .inl (.inr (.inr (.inl k)))
        · omega
      · exact .inl (.inr (.inr (.inr e)))
    · exact .inr (e.trans hbe)
  · rcases h7 g hg with k | k
    · exact hn g k
    · exact .inr (Nat.le_trans ht.size k)
set_option maxHeartbeats 3200000 in
theorem solve_any {B bf bm : Nat} {vs : List Vb} {fs : List ByteArray} {sv : Value} {w : World} (h : Fd B bf bm vs fs sv w) (hB : B ≤ w.heap.size) (r : Er) (hr : EqIs bf bm vs fs sv w r) (hl : fs.length ≤ 1000000000) :
    Calls Tryz.prog 36 #[.pointer (some ⟨bf, 0, none⟩), .pointer (some ⟨r.be, 0, none⟩)] w fun e w' => e = .returned (.bool (gaveO fs r.q).isSome) ∧ GvP B bf bm vs fs sv r (gaveO fs r.q) w w' := by
  have hbe := World.rowIs.lt hr.row
  have hD : Below w.heap.size w w.drew := (Below.refl _ _).drew
  have HFD := Lib.hid (h.below hD)
  have HRD : Hid (EqIs bf bm vs fs sv w.drew r) := hr.keep (Tz.of_below (ex := fun _ => False) hD) (fun _ _ _ e => e) (fun n hn => hn) (fun x hx => hx) (fun k _ hk => hk)
  have HS0 : Hid (w.drew.cell? ⟨r.be, 0, none⟩ = some (ptrO r.l0) ∧ w.drew.cell? ⟨r.be, 2, none⟩ = some (ptrO r.l1)) := ⟨HRD.out.row.at (j := 0) rfl, HRD.out.row.at (j := 2) rfl⟩
  have HG0 := Lib.hid (give0_any HFD.out hB r HRD.out hl (Nat.lt_of_lt_of_le hbe hD.size))
  clear h hr
  cases ho1 : givesO r.q.1.lone r.q.2.vars fs with
  | some v =>
    have HGV : Hid (gaveO fs r.q = some v) := by show _ = _; unfold gaveO; rw [ho1]
    rw [ho1] at HG0
    rw [HGV.out]
    have HC1 : Hid (Calls Tryz.prog 56 #[.pointer (some ⟨bf, 0, none⟩), ptrO r.l0, .pointer (some ⟨r.be, 2, none⟩)] w.drew fun e w' => e = .returned (.bool true) ∧ (w'.cell? ⟨r.be, 0, none⟩ = some (ptrO r.l0) ∧ w'.cell? ⟨r.be, 2, none⟩ = some (ptrO r.l1)) ∧ GvP B bf bm vs fs sv r (some v) w w') := by
      refine HG0.out.mono ?_
      rintro e w' ⟨rfl, hg⟩
      refine ⟨rfl, ?_, hg.undrew⟩
      obtain ⟨r', sv', h1, h2, _, _, h5, _⟩ := hg
      have a0 := h5.row.at (j := 0) rfl
      have a2 := h5.row.at (j := 2) rfl
      rw [h1, h2.2.1] at a0
      rw [h1, h2.2.2] at a2
      exact ⟨a0, a2⟩
    clear ho1
    go_enter Tryz.func36, Tryz.ntmps36
    go_upto_region 1 with fail
    refine wp_region_noPanic ?_
    refine wp_region_held (S := fun u => u.cell? ⟨r.be, 0, none⟩ = some (ptrO r.l0) ∧ u.cell? ⟨r.be, 2, none⟩ = some (ptrO r.l1)) (by kernel_rfl) ?_
    refine svregA (w5 := w) (S := fun u => u.cell? ⟨r.be, 0, none⟩ = some (ptrO r.l0) ∧ u.cell? ⟨r.be, 2, none⟩ = some (ptrO r.l1)) (bf := bf) (be := r.be) (L0 := ptrO r.l0) (L1 := ptrO r.l1) (P := fun wc => GvP B bf bm vs fs sv r (some v) w wc) rfl rfl rfl rfl rfl rfl rfl rfl rfl rfl rfl rfl rfl rfl rfl rfl rfl rfl rfl rfl rfl rfl rfl (by kernel_rfl) (by kernel_rfl) (by kernel_rfl) (by kernel_rfl) (fun _ _ _ _ _ h => h) (by simp) rfl rfl HS0.out (fun _ _ _ h => h) (fun u hu => load_pv hu.1) (fun u hu => load_pv hu.2) HC1.out ?_
    intro wc hP
    refine NoPanic.normal ?_
    rename_i hK
    refine hK _ _ ?_
    simp (config := { maxSteps := 8000000 }) only [Act.put, List.getElem_toArray, List.getElem_cons_zero, List.getElem_cons_succ, List.setIfInBounds_toArray, List.set_cons_succ, List.set_cons_zero]
    have HP := Lib.hid hP
    clear hP
    go_wp2
    go_ret
    exact ⟨rfl, HP.out⟩
  | none =>
    have HGV : Hid (gaveO fs r.q = givesO r.q.2.lone r.q.1.vars fs) := by show _ = _; unfold gaveO; rw [ho1]
    rw [ho1] at HG0
    rw [HGV.out]
    have HC1 : Hid (Calls Tryz.prog 56 #[.pointer (some ⟨bf, 0, none⟩), ptrO r.l0, .pointer (some ⟨r.be, 2, none⟩)] w.drew fun e w' => e = .returned (.bool false) ∧ (w'.cell? ⟨r.be, 0, none⟩ = some (ptrO r.l0) ∧ w'.cell? ⟨r.be, 2, none⟩ = some (ptrO r.l1)) ∧ Calls Tryz.prog 56 #[.pointer (some ⟨bf, 0, none⟩), ptrO r.l1, .pointer (some ⟨r.be, 0, none⟩)] w' fun e w'' => e = .returned (.bool (givesO r.q.2.lone r.q.1.vars fs).isSome) ∧ (w''.cell? ⟨r.be, 0, none⟩ = some (ptrO r.l0) ∧ w''.cell? ⟨r.be, 2, none⟩ = some (ptrO r.l1)) ∧ GvP B bf bm vs fs sv r (givesO r.q.2.lone r.q.1.vars fs) w w'') := by
      refine HG0.out.mono ?_
      rintro e u ⟨rfl, hg⟩
      obtain ⟨r1, sv1, h1, h2, h3, h4, h5, h6, h7⟩ := hg.undrew
      simp only [Option.toList_none, List.append_nil] at h4 h5
      refine ⟨rfl, ?_, ?_⟩
      · have a0 := h5.row.at (j := 0) rfl
        have a2 := h5.row.at (j := 2) rfl
        rw [h1, h2.2.1] at a0
        rw [h1, h2.2.2] at a2
        exact ⟨a0, a2⟩
      · have hg1 := give1_any h4 (Nat.le_trans hB h6.size) r1 h5 hl (World.rowIs.lt h5.row)
        rw [h1, h2.1, h2.2.2] at hg1
        refine hg1.mono ?_
        rintro e w'' ⟨rfl, hg2⟩
        refine ⟨rfl, ?_, GvP.then h1 h2 h3 h6 h7 hg2⟩
        obtain ⟨r', sv', k1, k2, _, _, k5, _⟩ := hg2
        have a0 := k5.row.at (j := 0) rfl
        have a2 := k5.row.at (j := 2) rfl
        rw [k1, h1, k2.2.1, h2.2.1] at a0
        rw [k1, h1, k2.2.2, h2.2.2] at a2
        exact ⟨a0, a2⟩
    generalize givesO r.q.2.lone r.q.1.vars fs = o2 at HC1
    clear ho1 HGV HG0
    go_enter Tryz.func36, Tryz.ntmps36
    go_upto_region 1 with fail
    refine wp_region_noPanic ?_
    refine wp_region_held (S := fun u => u.cell? ⟨r.be, 0, none⟩ = some (ptrO r.l0) ∧ u.cell? ⟨r.be, 2, none⟩ = some (ptrO r.l1)) (by kernel_rfl) ?_
    refine svregB (w5 := w) (S := fun u => u.cell? ⟨r.be, 0, none⟩ = some (ptrO r.l0) ∧ u.cell? ⟨r.be, 2, none⟩ = some (ptrO r.l1)) (bf := bf) (be := r.be) (L0 := ptrO r.l0) (L1 := ptrO r.l1) (P := fun wc => GvP B bf bm vs fs sv r o2 w wc) (b2 := o2.isSome) rfl rfl rfl rfl rfl rfl rfl rfl rfl rfl rfl rfl rfl rfl rfl rfl rfl rfl rfl rfl rfl rfl rfl (by kernel_rfl) (by kernel_rfl) (by kernel_rfl) (by kernel_rfl) (by kernel_rfl) (fun _ _ _ _ _ h => h) (by simp) rfl rfl HS0.out (fun _ _ _ h => h) (fun u hu => load_pv hu.1) (fun u hu => load_pv hu.2) HC1.out ?_
    intro wc hP
    refine NoPanic.normal ?_
    rename_i hK
    refine hK _ _ ?_
    simp (config := { maxSteps := 8000000 }) only [Act.put, List.getElem_toArray, List.getElem_cons_zero, List.getElem_cons_succ, List.setIfInBounds_toArray, List.set_cons_succ, List.set_cons_zero]
    have HP := Lib.hid hP
    clear hP
    go_wp2
    go_ret
    exact ⟨rfl, HP.out⟩
end Go.Proofs.YtgfnijhhhgjabaaGreatDoor
end
