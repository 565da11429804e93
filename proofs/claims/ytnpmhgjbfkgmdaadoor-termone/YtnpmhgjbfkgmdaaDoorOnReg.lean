import Derived.Test.YtnpmhgjbfkgmdaaDoorOnOneS
import Derived.Test.YtnpmhgjbfkgmdaaDoorTermReg
import Derived.OrdersHeld
namespace Go.Proofs.YtnpmhgjbfkgmdaaDoor
open Go.RowKit Go.Maps
set_option linter.unusedVariables false
set_option linter.unusedSimpArgs false

theorem run_loadA (ev : Operand → Value) (o : Oper) {x : Operand} (hop : o.op = .load 24 x) (w : World) {b : Nat} {p : ByteArray} {a : Option Addr} {n c : Nat} (hx : ev x = .pointer (some ⟨b, 0, none⟩)) (h0 : w.cell? ⟨b, 0, none⟩ = some (.string p)) (h1 : w.cell? ⟨b, 1, none⟩ = some (.slice a n c)) : (execOp ev o).run Tryd.prog w = .ok (.value (.agg #[.string p, .slice a n c])) w := by
  simp only [execOp, hop, hx]
  go_simp
theorem run_assignV (ev : Operand → Value) (o : Oper) {x : Operand} (hop : o.op = .assign x) (w : World) {v : Value} (hx : ev x = v) : (execOp ev o).run Tryd.prog w = .ok (.value v) w := by
  simp only [execOp, hop, hx]
  go_simp
theorem run_extract0 (ev : Operand → Value) (o : Oper) {x : Operand} (hop : o.op = .extract x 0) (w : World) {u v : Value} (hx : ev x = .tuple #[u, v]) : (execOp ev o).run Tryd.prog w = .ok (.value u) w := by
  simp only [execOp, hop, hx]
  go_simp
theorem run_extract1 (ev : Operand → Value) (o : Oper) {x : Operand} (hop : o.op = .extract x 1) (w : World) {u v : Value} (hx : ev x = .tuple #[u, v]) : (execOp ev o).run Tryd.prog w = .ok (.value v) w := by
  simp only [execOp, hop, hx]
  go_simp
theorem run_callA {P : Program} {o : Oper} {a : Act} {w : World} (f : FuncId) {fn : Func} (hf : P.funcs[f]? = some fn) (hn : (fn.name == "runtime.NumGoroutine") = false) (hb : fn.body.isNone = false) (xs : Array Operand) (tys : Array TypeId) (hop : o.op = Op.call { callee := Callee.value (Operand.func f), args := xs, argTypes := tys }) (vs : Array Value) (hx : xs.map a.eval = vs) : (execOp a.eval o).run P w = .ok (.enter f vs) w := by
  have hn' : ¬ fn.name = "runtime.NumGoroutine" := by simpa using hn
  have hb' : ¬ fn.body = none := by cases h : fn.body <;> simp [h] at hb ⊢
  simp [execOp, hop, resolve, invoke, ← hx, Act.eval, Result.andThen, Deferred.ofValue, callFunc, (show Sem.run P program w = .ok P w from rfl), hf, hn', hb', go_sem]
theorem eval_const (a : Act) (v : Value) : a.eval (.const v) = v := rfl
def LR14 (l : List Nat) : Array Bool := l.foldl (fun a i => a.setIfInBounds i true) (Array.replicate 14 false)
theorem LR14_snoc (l : List Nat) (i : Nat) : LR14 (l ++ [i]) = (LR14 l).setIfInBounds i true := by simp [LR14]
def takes9 : List (List Nat × Nat) := [([], 0), ([0], 1), ([0, 1], 2), ([0, 1, 2], 4), ([0, 1, 2, 4], 5), ([0, 1, 2, 4, 5], 6), ([0, 1, 2, 4, 5, 6, 3, 7, 8], 9), ([0, 1, 2, 4, 5, 6, 3, 7, 8, 9], 10), ([0, 1, 2, 4, 5, 6, 3, 7, 8, 9, 10], 11), ([0, 1, 2, 4, 5, 6, 3, 7, 8, 9, 10, 11], 12), ([0, 1, 2, 4, 5, 6, 3, 7, 8, 9, 10, 11, 12], 13)]
set_option maxHeartbeats 1600000 in
theorem reg9 {ops : Array Oper} {Q : Exit → Act → World → Prop} {a0 : Act} {w w5 : World} {pa pb : ByteArray} {aa ab : Option Addr} {la lb : List T} {ca cb : Nat} {t3 t7 t8 : Array TypeId}
    (q0 : isOp ops 0 (.load 24 (.tmp 2)) (some 44))
    (q1 : isOp ops 1 (.load 24 (.tmp 2)) (some 45))
    (q2 : isOp ops 2 (.load 24 (.tmp 3)) (some 46))
    (q3 : isOp ops 3 (.call { callee := .value (.func 7), args := #[.tmp 44, .tmp 45, .tmp 46, .const (.string ⟨#[65]⟩)], argTypes := t3 }) (some 47))
    (q4 : isOp ops 4 (.load 24 (.tmp 3)) (some 48))
    (q5 : isOp ops 5 (.load 24 (.tmp 2)) (some 49))
    (q6 : isOp ops 6 (.load 24 (.tmp 3)) (some 50))
    (q7 : isOp ops 7 (.call { callee := .value (.func 7), args := #[.tmp 48, .tmp 49, .tmp 50, .const (.string ⟨#[66]⟩)], argTypes := t7 }) (some 51))
    (q8 : isOp ops 8 (.call { callee := .value (.func 5), args := #[.tmp 47, .tmp 51], argTypes := t8 }) (some 52))
    (q9 : isOp ops 9 (.move (.tmp 52)) (some 43))
    (q10 : isOp ops 10 (.extract (.tmp 43) 0) (some 53))
    (q11 : isOp ops 11 (.extract (.tmp 43) 1) (some 54))
    (q12 : isOp ops 12 (.assign (.tmp 53)) (some 9))
    (q13 : isOp ops 13 (.assign (.tmp 54)) (some 10))
    (hs : Region.noSelect ops = true) (hq : (takes9.all fun p => Region.free .any ops (LR14 p.1) p.2 && (Region.ready .any ops (LR14 p.1)).contains p.2) = true)
    (r3 : Region.ready .any ops (LR14 [0, 1, 2, 4, 5, 6]) = [3]) (r7 : Region.ready .any ops (LR14 [0, 1, 2, 4, 5, 6, 3]) = [7]) (r8 : Region.ready .any ops (LR14 [0, 1, 2, 4, 5, 6, 3, 7]) = [8]) (rend : Region.ready .any ops (LR14 [0, 1, 2, 4, 5, 6, 3, 7, 8, 9, 10, 11, 12, 13]) = [])
    (hQ : ∀ (d : Option Tmp) (v : Value) c a w, Q (.panic c) (a.put d v) w → Q (.panic c) a w)
    (hsz : 60 < a0.tmps.size) (e2 : a0.eval (.tmp 2) = .pointer (some ⟨w.heap.size, 0, none⟩)) (e3 : a0.eval (.tmp 3) = .pointer (some ⟨w.heap.size + 1, 0, none⟩))
    (hO : Ost w pa pb (.slice aa la.length ca) (.slice ab lb.length cb) w5) (hpa : pa.size ≤ maxLen) (hpb : pb.size ≤ maxLen)
    (KA : ∀ u, Ost w pa pb (.slice aa la.length ca) (.slice ab lb.length cb) u → Calls Tryd.prog 7 #[.agg #[.string pa, .slice aa la.length ca], .agg #[.string pa, .slice aa la.length ca], .agg #[.string pb, .slice ab lb.length cb], .string ⟨#[65]⟩] u fun e w' => ∃ o a' c', e = .returned (.agg #[.string pa, .slice a' o.length c']) ∧ Lt w' (.slice a' o.length c') o ∧ Muted 65 (vsT [] la ++ vsT [] lb) la o ∧ Below u.heap.size u w')
    (KB : ∀ u, Ost w pa pb (.slice aa la.length ca) (.slice ab lb.length cb) u → Calls Tryd.prog 7 #[.agg #[.string pb, .slice ab lb.length cb], .agg #[.string pa, .slice aa la.length ca], .agg #[.string pb, .slice ab lb.length cb], .string ⟨#[66]⟩] u fun e w' => ∃ o a' c', e = .returned (.agg #[.string pb, .slice a' o.length c']) ∧ Lt w' (.slice a' o.length c') o ∧ Muted 66 (vsT [] la ++ vsT [] lb) lb o ∧ Below u.heap.size u w')
    (F : ∀ (vA vB sv8 : Value) (ok8 : Bool) (oa ob : List T) (wc : World), Ost w pa pb (.slice aa la.length ca) (.slice ab lb.length cb) wc → Below w5.heap.size w5 wc → Muted 65 (vsT [] la ++ vsT [] lb) la oa → Muted 66 (vsT [] la ++ vsT [] lb) lb ob → ok8 = (uniA pa pb oa ob).isSome → Q .normal ((((((((((((((a0.put (some 44) (.agg #[.string pa, .slice aa la.length ca])).put (some 45) (.agg #[.string pa, .slice aa la.length ca])).put (some 46) (.agg #[.string pb, .slice ab lb.length cb])).put (some 48) (.agg #[.string pb, .slice ab lb.length cb])).put (some 49) (.agg #[.string pa, .slice aa la.length ca])).put (some 50) (.agg #[.string pb, .slice ab lb.length cb])).put (some 47) vA).put (some 51) vB).put (some 52) (.tuple #[sv8, .bool ok8])).put (some 43) (.tuple #[sv8, .bool ok8])).put (some 53) sv8).put (some 54) (.bool ok8)).put (some 9) sv8).put (some 10) (.bool ok8)) wc) :
    wpAnyH Tryd.prog .any ops Q (fun u => Ost w pa pb (.slice aa la.length ca) (.slice ab lb.length cb) u ∧ Below w5.heap.size w5 u) 14 (LR14 []) a0 w5.drew := by
  have hall : ∀ p ∈ takes9, Region.free .any ops (LR14 p.1) p.2 = true ∧ (Region.ready .any ops (LR14 p.1)).contains p.2 = true := by
    intro p hp
    have := List.all_eq_true.1 hq p hp
    simpa using this
  unfold takes9 at hall
  have hS0 : (fun u => Ost w pa pb (.slice aa la.length ca) (.slice ab lb.length cb) u ∧ Below w5.heap.size w5 u) w5.drew := ⟨hO.keep (Below.refl _ _).drew, (Below.refl _ _).drew⟩
  obtain ⟨o0, ho, hg, hop, hd⟩ := isOp_out q0
  have hfr := hall ([], 0) (by simp)
  refine wpAnyH_take (listed := LR14 []) (v := .agg #[.string pa, .slice aa la.length ca]) ho hs hfr.1 hfr.2 (hQ _ _) (Or.inl ⟨by simp [Region.wanted, hg], fun w' hS => run_loadA _ _ hop w' (by (repeat rw [eval_far _ _ (by decide)]); exact e2) (hS.1.r0.at (j := 0) rfl) (hS.1.r0.at (j := 1) rfl)⟩) hS0 ?_
  rw [hd, ← LR14_snoc]
  clear ho hg hop hd hfr
  obtain ⟨o1, ho, hg, hop, hd⟩ := isOp_out q1
  have hfr := hall ([0], 1) (by simp)
  refine wpAnyH_take (listed := LR14 [0]) (v := .agg #[.string pa, .slice aa la.length ca]) ho hs hfr.1 hfr.2 (hQ _ _) (Or.inl ⟨by simp [Region.wanted, hg], fun w' hS => run_loadA _ _ hop w' (by (repeat rw [eval_far _ _ (by decide)]); exact e2) (hS.1.r0.at (j := 0) rfl) (hS.1.r0.at (j := 1) rfl)⟩) hS0 ?_
  rw [hd, ← LR14_snoc]
  clear ho hg hop hd hfr
  obtain ⟨o2, ho, hg, hop, hd⟩ := isOp_out q2
  have hfr := hall ([0, 1], 2) (by simp)
  refine wpAnyH_take (listed := LR14 [0, 1]) (v := .agg #[.string pb, .slice ab lb.length cb]) ho hs hfr.1 hfr.2 (hQ _ _) (Or.inl ⟨by simp [Region.wanted, hg], fun w' hS => run_loadA _ _ hop w' (by (repeat rw [eval_far _ _ (by decide)]); exact e3) (hS.1.r1.at (j := 0) rfl) (hS.1.r1.at (j := 1) rfl)⟩) hS0 ?_
  rw [hd, ← LR14_snoc]
  clear ho hg hop hd hfr
  obtain ⟨o4, ho, hg, hop, hd⟩ := isOp_out q4
  have hfr := hall ([0, 1, 2], 4) (by simp)
  refine wpAnyH_take (listed := LR14 [0, 1, 2]) (v := .agg #[.string pb, .slice ab lb.length cb]) ho hs hfr.1 hfr.2 (hQ _ _) (Or.inl ⟨by simp [Region.wanted, hg], fun w' hS => run_loadA _ _ hop w' (by (repeat rw [eval_far _ _ (by decide)]); exact e3) (hS.1.r1.at (j := 0) rfl) (hS.1.r1.at (j := 1) rfl)⟩) hS0 ?_
  rw [hd, ← LR14_snoc]
  clear ho hg hop hd hfr
  obtain ⟨o5, ho, hg, hop, hd⟩ := isOp_out q5
  have hfr := hall ([0, 1, 2, 4], 5) (by simp)
  refine wpAnyH_take (listed := LR14 [0, 1, 2, 4]) (v := .agg #[.string pa, .slice aa la.length ca]) ho hs hfr.1 hfr.2 (hQ _ _) (Or.inl ⟨by simp [Region.wanted, hg], fun w' hS => run_loadA _ _ hop w' (by (repeat rw [eval_far _ _ (by decide)]); exact e2) (hS.1.r0.at (j := 0) rfl) (hS.1.r0.at (j := 1) rfl)⟩) hS0 ?_
  rw [hd, ← LR14_snoc]
  clear ho hg hop hd hfr
  obtain ⟨o6, ho, hg, hop, hd⟩ := isOp_out q6
  have hfr := hall ([0, 1, 2, 4, 5], 6) (by simp)
  refine wpAnyH_take (listed := LR14 [0, 1, 2, 4, 5]) (v := .agg #[.string pb, .slice ab lb.length cb]) ho hs hfr.1 hfr.2 (hQ _ _) (Or.inl ⟨by simp [Region.wanted, hg], fun w' hS => run_loadA _ _ hop w' (by (repeat rw [eval_far _ _ (by decide)]); exact e3) (hS.1.r1.at (j := 0) rfl) (hS.1.r1.at (j := 1) rfl)⟩) hS0 ?_
  rw [hd, ← LR14_snoc]
  clear ho hg hop hd hfr
  refine wpAnyH_all r3 (by simp) ?_
  intro i hi
  obtain rfl := List.mem_singleton.1 hi
  obtain ⟨o3, ho, hg, hop, hd⟩ := isOp_out q3
  have x44 : (((((((a0.put (some 44) (.agg #[.string pa, .slice aa la.length ca])).put (some 45) (.agg #[.string pa, .slice aa la.length ca])).put (some 46) (.agg #[.string pb, .slice ab lb.length cb])).put (some 48) (.agg #[.string pb, .slice ab lb.length cb])).put (some 49) (.agg #[.string pa, .slice aa la.length ca])).put (some 50) (.agg #[.string pb, .slice ab lb.length cb]))).eval (.tmp 44) = .agg #[.string pa, .slice aa la.length ca] := by repeat (first | rw [eval_same _ _ (by (try simp only [put_size]); omega)] | rw [eval_far _ _ (by decide)])
  have x45 : (((((((a0.put (some 44) (.agg #[.string pa, .slice aa la.length ca])).put (some 45) (.agg #[.string pa, .slice aa la.length ca])).put (some 46) (.agg #[.string pb, .slice ab lb.length cb])).put (some 48) (.agg #[.string pb, .slice ab lb.length cb])).put (some 49) (.agg #[.string pa, .slice aa la.length ca])).put (some 50) (.agg #[.string pb, .slice ab lb.length cb]))).eval (.tmp 45) = .agg #[.string pa, .slice aa la.length ca] := by repeat (first | rw [eval_same _ _ (by (try simp only [put_size]); omega)] | rw [eval_far _ _ (by decide)])
  have x46 : (((((((a0.put (some 44) (.agg #[.string pa, .slice aa la.length ca])).put (some 45) (.agg #[.string pa, .slice aa la.length ca])).put (some 46) (.agg #[.string pb, .slice ab lb.length cb])).put (some 48) (.agg #[.string pb, .slice ab lb.length cb])).put (some 49) (.agg #[.string pa, .slice aa la.length ca])).put (some 50) (.agg #[.string pb, .slice ab lb.length cb]))).eval (.tmp 46) = .agg #[.string pb, .slice ab lb.length cb] := by repeat (first | rw [eval_same _ _ (by (try simp only [put_size]); omega)] | rw [eval_far _ _ (by decide)])
  refine wpOp_call ho hg (run_callA 7 Tryd.func7 (by kernel_rfl) (by kernel_rfl) #[.tmp 44, .tmp 45, .tmp 46, .const (.string ⟨#[65]⟩)] _ hop #[.agg #[.string pa, .slice aa la.length ca], .agg #[.string pa, .slice aa la.length ca], .agg #[.string pb, .slice ab lb.length cb], .string ⟨#[65]⟩] (by simp only [List.map_toArray, List.map_cons, List.map_nil, eval_const, x44, x45, x46])) ?_
  refine (KA _ hS0.1).mono ?_
  rintro e w6 ⟨oa, a6, c6, rfl, hl6, hm6, b6⟩
  refine ⟨_, rfl, ⟨hS0.1.keep b6, hS0.2.trans (b6.mono hS0.2.size)⟩, ?_⟩
  rw [hd]
  clear ho hg hop hd
  rw [← LR14_snoc]
  have hS6 : (fun u => Ost w pa pb (.slice aa la.length ca) (.slice ab lb.length cb) u ∧ Below w5.heap.size w5 u) w6 := ⟨hS0.1.keep b6, hS0.2.trans (b6.mono hS0.2.size)⟩
  refine wpAnyH_all r7 (by simp) ?_
  intro i hi
  obtain rfl := List.mem_singleton.1 hi
  obtain ⟨o7, ho, hg, hop, hd⟩ := isOp_out q7
  have x48 : ((((((((a0.put (some 44) (.agg #[.string pa, .slice aa la.length ca])).put (some 45) (.agg #[.string pa, .slice aa la.length ca])).put (some 46) (.agg #[.string pb, .slice ab lb.length cb])).put (some 48) (.agg #[.string pb, .slice ab lb.length cb])).put (some 49) (.agg #[.string pa, .slice aa la.length ca])).put (some 50) (.agg #[.string pb, .slice ab lb.length cb])).put (some 47) (.agg #[.string pa, .slice a6 oa.length c6]))).eval (.tmp 48) = .agg #[.string pb, .slice ab lb.length cb] := by repeat (first | rw [eval_same _ _ (by (try simp only [put_size]); omega)] | rw [eval_far _ _ (by decide)])
  have x49 : ((((((((a0.put (some 44) (.agg #[.string pa, .slice aa la.length ca])).put (some 45) (.agg #[.string pa, .slice aa la.length ca])).put (some 46) (.agg #[.string pb, .slice ab lb.length cb])).put (some 48) (.agg #[.string pb, .slice ab lb.length cb])).put (some 49) (.agg #[.string pa, .slice aa la.length ca])).put (some 50) (.agg #[.string pb, .slice ab lb.length cb])).put (some 47) (.agg #[.string pa, .slice a6 oa.length c6]))).eval (.tmp 49) = .agg #[.string pa, .slice aa la.length ca] := by repeat (first | rw [eval_same _ _ (by (try simp only [put_size]); omega)] | rw [eval_far _ _ (by decide)])
  have x50 : ((((((((a0.put (some 44) (.agg #[.string pa, .slice aa la.length ca])).put (some 45) (.agg #[.string pa, .slice aa la.length ca])).put (some 46) (.agg #[.string pb, .slice ab lb.length cb])).put (some 48) (.agg #[.string pb, .slice ab lb.length cb])).put (some 49) (.agg #[.string pa, .slice aa la.length ca])).put (some 50) (.agg #[.string pb, .slice ab lb.length cb])).put (some 47) (.agg #[.string pa, .slice a6 oa.length c6]))).eval (.tmp 50) = .agg #[.string pb, .slice ab lb.length cb] := by repeat (first | rw [eval_same _ _ (by (try simp only [put_size]); omega)] | rw [eval_far _ _ (by decide)])
  refine wpOp_call ho hg (run_callA 7 Tryd.func7 (by kernel_rfl) (by kernel_rfl) #[.tmp 48, .tmp 49, .tmp 50, .const (.string ⟨#[66]⟩)] _ hop #[.agg #[.string pb, .slice ab lb.length cb], .agg #[.string pa, .slice aa la.length ca], .agg #[.string pb, .slice ab lb.length cb], .string ⟨#[66]⟩] (by simp only [List.map_toArray, List.map_cons, List.map_nil, eval_const, x48, x49, x50])) ?_
  refine (KB _ hS6.1).mono ?_
  rintro e w7 ⟨ob, a7, c7, rfl, hl7, hm7, b7⟩
  refine ⟨_, rfl, ⟨hS6.1.keep b7, hS6.2.trans (b7.mono hS6.2.size)⟩, ?_⟩
  rw [hd]
  clear ho hg hop hd
  rw [← LR14_snoc]
  have hS7 : (fun u => Ost w pa pb (.slice aa la.length ca) (.slice ab lb.length cb) u ∧ Below w5.heap.size w5 u) w7 := ⟨hS6.1.keep b7, hS6.2.trans (b7.mono hS6.2.size)⟩
  refine wpAnyH_all r8 (by simp) ?_
  intro i hi
  obtain rfl := List.mem_singleton.1 hi
  obtain ⟨o8, ho, hg, hop, hd⟩ := isOp_out q8
  have x47 : (((((((((a0.put (some 44) (.agg #[.string pa, .slice aa la.length ca])).put (some 45) (.agg #[.string pa, .slice aa la.length ca])).put (some 46) (.agg #[.string pb, .slice ab lb.length cb])).put (some 48) (.agg #[.string pb, .slice ab lb.length cb])).put (some 49) (.agg #[.string pa, .slice aa la.length ca])).put (some 50) (.agg #[.string pb, .slice ab lb.length cb])).put (some 47) (.agg #[.string pa, .slice a6 oa.length c6])).put (some 51) (.agg #[.string pb, .slice a7 ob.length c7]))).eval (.tmp 47) = .agg #[.string pa, .slice a6 oa.length c6] := by repeat (first | rw [eval_same _ _ (by (try simp only [put_size]); omega)] | rw [eval_far _ _ (by decide)])
  have x51 : (((((((((a0.put (some 44) (.agg #[.string pa, .slice aa la.length ca])).put (some 45) (.agg #[.string pa, .slice aa la.length ca])).put (some 46) (.agg #[.string pb, .slice ab lb.length cb])).put (some 48) (.agg #[.string pb, .slice ab lb.length cb])).put (some 49) (.agg #[.string pa, .slice aa la.length ca])).put (some 50) (.agg #[.string pb, .slice ab lb.length cb])).put (some 47) (.agg #[.string pa, .slice a6 oa.length c6])).put (some 51) (.agg #[.string pb, .slice a7 ob.length c7]))).eval (.tmp 51) = .agg #[.string pb, .slice a7 ob.length c7] := by repeat (first | rw [eval_same _ _ (by (try simp only [put_size]); omega)] | rw [eval_far _ _ (by decide)])
  refine wpOp_call ho hg (run_callA 5 Tryd.func5 (by kernel_rfl) (by kernel_rfl) #[.tmp 47, .tmp 51] _ hop #[.agg #[.string pa, .slice a6 oa.length c6], .agg #[.string pb, .slice a7 ob.length c7]] (by simp only [List.map_toArray, List.map_cons, List.map_nil, eval_const, x47, x51])) ?_
  refine (unify_post pa pb _ _ oa ob _ hpa hpb (hl6.below b7) hl7).mono ?_
  rintro e w8 ⟨⟨sv8, rfl, _, _⟩, b8⟩
  refine ⟨_, rfl, ⟨hS7.1.keep b8, hS7.2.trans (b8.mono hS7.2.size)⟩, ?_⟩
  rw [hd]
  clear ho hg hop hd
  rw [← LR14_snoc]
  have hS8 : (fun u => Ost w pa pb (.slice aa la.length ca) (.slice ab lb.length cb) u ∧ Below w5.heap.size w5 u) w8 := ⟨hS7.1.keep b8, hS7.2.trans (b8.mono hS7.2.size)⟩
  obtain ⟨ok8, hok8⟩ : ∃ ok, (uniA pa pb oa ob).isSome = ok := ⟨_, rfl⟩
  rw [hok8]
  obtain ⟨o9, ho, hg, hop, hd⟩ := isOp_out q9
  have hfr := hall ([0, 1, 2, 4, 5, 6, 3, 7, 8], 9) (by simp)
  refine wpAnyH_take (listed := LR14 [0, 1, 2, 4, 5, 6, 3, 7, 8]) (v := .tuple #[sv8, .bool ok8]) ho hs hfr.1 hfr.2 (hQ _ _) (Or.inl ⟨by simp [Region.wanted, hg], fun w' hS => run_move _ _ hop w' (by repeat (first | rw [eval_same _ _ (by (try simp only [put_size]); omega)] | rw [eval_far _ _ (by decide)]))⟩) hS8 ?_
  rw [hd, ← LR14_snoc]
  clear ho hg hop hd hfr
  obtain ⟨o10, ho, hg, hop, hd⟩ := isOp_out q10
  have hfr := hall ([0, 1, 2, 4, 5, 6, 3, 7, 8, 9], 10) (by simp)
  refine wpAnyH_take (listed := LR14 [0, 1, 2, 4, 5, 6, 3, 7, 8, 9]) (v := sv8) ho hs hfr.1 hfr.2 (hQ _ _) (Or.inl ⟨by simp [Region.wanted, hg], fun w' hS => run_extract0 (u := sv8) (v := .bool ok8) _ _ hop w' (by repeat (first | rw [eval_same _ _ (by (try simp only [put_size]); omega)] | rw [eval_far _ _ (by decide)]))⟩) hS8 ?_
  rw [hd, ← LR14_snoc]
  clear ho hg hop hd hfr
  obtain ⟨o11, ho, hg, hop, hd⟩ := isOp_out q11
  have hfr := hall ([0, 1, 2, 4, 5, 6, 3, 7, 8, 9, 10], 11) (by simp)
  refine wpAnyH_take (listed := LR14 [0, 1, 2, 4, 5, 6, 3, 7, 8, 9, 10]) (v := .bool ok8) ho hs hfr.1 hfr.2 (hQ _ _) (Or.inl ⟨by simp [Region.wanted, hg], fun w' hS => run_extract1 (u := sv8) (v := .bool ok8) _ _ hop w' (by repeat (first | rw [eval_same _ _ (by (try simp only [put_size]); omega)] | rw [eval_far _ _ (by decide)]))⟩) hS8 ?_
  rw [hd, ← LR14_snoc]
  clear ho hg hop hd hfr
  obtain ⟨o12, ho, hg, hop, hd⟩ := isOp_out q12
  have hfr := hall ([0, 1, 2, 4, 5, 6, 3, 7, 8, 9, 10, 11], 12) (by simp)
  refine wpAnyH_take (listed := LR14 [0, 1, 2, 4, 5, 6, 3, 7, 8, 9, 10, 11]) (v := sv8) ho hs hfr.1 hfr.2 (hQ _ _) (Or.inl ⟨by simp [Region.wanted, hg], fun w' hS => run_assignV _ _ hop w' (by repeat (first | rw [eval_same _ _ (by (try simp only [put_size]); omega)] | rw [eval_far _ _ (by decide)]))⟩) hS8 ?_
  rw [hd, ← LR14_snoc]
  clear ho hg hop hd hfr
  obtain ⟨o13, ho, hg, hop, hd⟩ := isOp_out q13
  have hfr := hall ([0, 1, 2, 4, 5, 6, 3, 7, 8, 9, 10, 11, 12], 13) (by simp)
  refine wpAnyH_take (listed := LR14 [0, 1, 2, 4, 5, 6, 3, 7, 8, 9, 10, 11, 12]) (v := .bool ok8) ho hs hfr.1 hfr.2 (hQ _ _) (Or.inl ⟨by simp [Region.wanted, hg], fun w' hS => run_assignV _ _ hop w' (by repeat (first | rw [eval_same _ _ (by (try simp only [put_size]); omega)] | rw [eval_far _ _ (by decide)]))⟩) hS8 ?_
  rw [hd, ← LR14_snoc]
  clear ho hg hop hd hfr
  exact wpAnyH_done rend (F _ _ sv8 ok8 oa ob w8 hS8.1 hS8.2 hm6 hm7 hok8.symm) _
end Go.Proofs.YtnpmhgjbfkgmdaaDoor
