import Derived.Test.YtgfnijhhhgjabaaGreatDoorG13
import Derived.Test.YtgfnijhhhgjabaaGreatDoorG14
section
namespace Go.Proofs.YtgfnijhhhgjabaaGreatDoor
open Go.RowKit Go.Maps
set_option linter.unusedVariables false
set_option linter.unusedSimpArgs false

theorem wpOp_valG {P : Program} {ops : Array Oper} {Q : Exit → Act → World → Prop} {K : Act → World → Prop} {i : Nat} {a : Act} {w w' : World} {o : Oper} {v : Value} (hi : ops[i]? = some o) (hw : Region.wanted o (yielded ops a.tmps) = true) (hrun : (execOp a.eval o).run P w = .ok (.value v) w') (hK : K (a.put o.dst v) w') : wpOp P ops Q i K a w := by
  unfold wpOp
  rw [hi]
  simp only [hw, if_true]
  refine Or.inl ?_
  unfold Oper.wp
  rw [hrun]
  exact hK
theorem run_fldL3 (ev : Operand → Value) (o : Oper) {x : Operand} (hop : o.op = .fieldAddr 55 x 3) (w : World) {be : Nat} (hx : ev x = .pointer (some ⟨be, 0, none⟩)) : (execOp ev o).run Tryz.prog w = .ok (.value (.pointer (some ⟨be, 4, none⟩))) w := by
  simp only [execOp, hop, hx]
  go_simp
theorem run_fldL4 (ev : Operand → Value) (o : Oper) {x : Operand} (hop : o.op = .fieldAddr 55 x 4) (w : World) {be : Nat} (hx : ev x = .pointer (some ⟨be, 0, none⟩)) : (execOp ev o).run Tryz.prog w = .ok (.value (.pointer (some ⟨be, 10, none⟩))) w := by
  simp only [execOp, hop, hx]
  go_simp
theorem run_buildE (ev : Operand → Value) (o : Oper) {x y : Operand} (hop : o.op = .build 92 #[(0, x), (1, y)]) (w : World) {o1 o2 a1 a2 : Option Addr} {n1 n2 c1 c2 : Nat} (hx : ev x = .agg #[.pointer o1, .slice a1 n1 c1]) (hy : ev y = .agg #[.pointer o2, .slice a2 n2 c2]) : (execOp ev o).run Tryz.prog w = .ok (.value (.agg #[.pointer o1, .slice a1 n1 c1, .pointer o2, .slice a2 n2 c2])) w := by
  simp only [execOp, hop]
  simp only [List.map_toArray, List.map_cons, List.map_nil, Array.map, hx, hy]
  go_simp
theorem run_boxE (ev : Operand → Value) (o : Oper) {x : Operand} (hop : o.op = .box 92 x) (w : World) {o1 o2 a1 a2 : Option Addr} {n1 n2 c1 c2 : Nat} (hx : ev x = .agg #[.pointer o1, .slice a1 n1 c1, .pointer o2, .slice a2 n2 c2]) : (execOp ev o).run Tryz.prog w = .ok (.value (.pointer (some ⟨w.heap.size, 0, none⟩))) (w.alloc (.cells #[.pointer o1, .slice a1 n1 c1, .pointer o2, .slice a2 n2 c2] 92)) := by
  simp only [execOp, hop, hx]
  go_simp
def lmreg12_takes : List (List Nat × Nat) := [([], 0), ([0], 1), ([0, 1], 2), ([0, 1, 2], 4), ([0, 1, 2, 4], 5), ([0, 1, 2, 4, 5], 6), ([0, 1, 2, 4, 5, 6, 3, 7], 8)]
set_option maxHeartbeats 3200000 in
theorem lmreg12 {ops : Array Oper} {Q : Exit → Act → World → Prop} {S : World → Prop} {a0 : Act} {w5 : World} {bf bw lb : Nat} {EL ER : Value} {ty1 ty2 ty3 : Array TypeId} {P : World → Prop}
    (q0 : isOpG ops 0 none (.move (.tmp 3)) (some 39))
    (q1 : isOpG ops 1 none (.fieldAddr 55 (.tmp 8) 3) (some 40))
    (q2 : isOpG ops 2 none (.load 53 (.tmp 40)) (some 41))
    (q4 : isOpG ops 4 none (.move (.tmp 3)) (some 43))
    (q5 : isOpG ops 5 none (.fieldAddr 55 (.tmp 8) 4) (some 44))
    (q6 : isOpG ops 6 none (.load 53 (.tmp 44)) (some 45))
    (q3 : isOpG ops 3 none (.call { callee := .value (.func 34), args := #[.tmp 39, .tmp 41], argTypes := ty1 }) (some 42))
    (q7 : isOpG ops 7 none (.call { callee := .value (.func 34), args := #[.tmp 43, .tmp 45], argTypes := ty2 }) (some 46))
    (q8 : isOpG ops 8 none (.build 92 #[(0, .tmp 42), (1, .tmp 46)]) (some 47))
    (q9 : isOpG ops 9 none (.box 92 (.tmp 47)) (some 48))
    (q10 : isOpG ops 10 none (.call { callee := .value (.func 33), args := #[.tmp 6, .tmp 48], argTypes := ty3 }) (some 49))
    (hs : Region.noSelect ops = true) (hq : (lmreg12_takes.all fun p => Region.free .any ops (LR 11 p.1) p.2 && (Region.ready .any ops (LR 11 p.1)).contains p.2) = true)
    (r3 : Region.ready .any ops (LR 11 [0, 1, 2, 4, 5, 6]) = [3])
    (r7 : Region.ready .any ops (LR 11 [0, 1, 2, 4, 5, 6, 3]) = [7])
    (r9 : Region.ready .any ops (LR 11 [0, 1, 2, 4, 5, 6, 3, 7, 8]) = [9])
    (r10 : Region.ready .any ops (LR 11 [0, 1, 2, 4, 5, 6, 3, 7, 8, 9]) = [10])
    (rend : Region.ready .any ops (LR 11 [0, 1, 2, 4, 5, 6, 3, 7, 8, 9, 10]) = [])
    (hQ : ∀ (d : Option Tmp) (v : Value) c a w, Q (.panic c) (a.put d v) w → Q (.panic c) a w)
    (hsz : 49 < a0.tmps.size) (e3 : a0.eval (.tmp 3) = .pointer (some ⟨bf, 0, none⟩)) (e6 : a0.eval (.tmp 6) = .pointer (some ⟨bw, 0, none⟩)) (e8 : a0.eval (.tmp 8) = .pointer (some ⟨lb, 0, none⟩))
    (hS0 : S w5.drew)
    (keep : ∀ u u', S u → S u' → S u') (LL : ∀ u, S u → (loadVar 53 ⟨lb, 4, none⟩).run Tryz.prog u = .ok EL u) (LR0 : ∀ u, S u → (loadVar 53 ⟨lb, 10, none⟩).run Tryz.prog u = .ok ER u)
    (C1 : Calls Tryz.prog 34 #[.pointer (some ⟨bf, 0, none⟩), EL] w5.drew fun e u1 => ∃ o1 a1 n1 c1, e = .returned (.agg #[.pointer o1, .slice a1 n1 c1]) ∧ S u1 ∧ Calls Tryz.prog 34 #[.pointer (some ⟨bf, 0, none⟩), ER] u1 fun e u2 => ∃ o2 a2 n2 c2, e = .returned (.agg #[.pointer o2, .slice a2 n2 c2]) ∧ S u2 ∧ S (u2.alloc (.cells #[.pointer o1, .slice a1 n1 c1, .pointer o2, .slice a2 n2 c2] 92)) ∧ Calls Tryz.prog 33 #[.pointer (some ⟨bw, 0, none⟩), .pointer (some ⟨u2.heap.size, 0, none⟩)] (u2.alloc (.cells #[.pointer o1, .slice a1 n1 c1, .pointer o2, .slice a2 n2 c2] 92)) fun e u3 => ∃ v3, e = .returned v3 ∧ S u3 ∧ P u3)
    (F : ∀ (wc u2 : World) (o1 o2 a1 a2 : Option Addr) (n1 n2 c1 c2 : Nat) (v3 : Value), P wc → Q .normal (((((((((((a0.put (some 39) (.pointer (some ⟨bf, 0, none⟩))).put (some 40) (.pointer (some ⟨lb, 4, none⟩))).put (some 41) (EL)).put (some 43) (.pointer (some ⟨bf, 0, none⟩))).put (some 44) (.pointer (some ⟨lb, 10, none⟩))).put (some 45) (ER)).put (some 42) (.agg #[.pointer o1, .slice a1 n1 c1])).put (some 46) (.agg #[.pointer o2, .slice a2 n2 c2])).put (some 47) (.agg #[.pointer o1, .slice a1 n1 c1, .pointer o2, .slice a2 n2 c2])).put (some 48) (.pointer (some ⟨u2.heap.size, 0, none⟩))).put (some 49) (v3)) wc) :
    wpAnyH Tryz.prog .any ops Q S 11 (LR 11 []) a0 w5.drew := by
  have hall : ∀ p ∈ lmreg12_takes, Region.free .any ops (LR 11 p.1) p.2 = true ∧ (Region.ready .any ops (LR 11 p.1)).contains p.2 = true := by
    intro p hp
    have := List.all_eq_true.1 hq p hp
    simpa using this
  unfold lmreg12_takes at hall
  obtain ⟨o0, ho, hg, hop, hd⟩ := isOpG_out q0
  have hfr := hall ([], 0) (by simp)
  refine wpAnyH_take (listed := LR 11 []) (v := .pointer (some ⟨bf, 0, none⟩)) ho hs hfr.1 hfr.2 (hQ _ _) (Or.inl ⟨(wantedN hg), fun w' hS => run_move _ _ hop w' (by (repeat rw [eval_far _ _ (by decide)]); exact e3)⟩) hS0 ?_
  rw [hd, ← LR_snoc]
  clear ho hg hop hd hfr
  obtain ⟨o1, ho, hg, hop, hd⟩ := isOpG_out q1
  have hfr := hall ([0], 1) (by simp)
  refine wpAnyH_take (listed := LR 11 [0]) (v := .pointer (some ⟨lb, 4, none⟩)) ho hs hfr.1 hfr.2 (hQ _ _) (Or.inl ⟨(wantedN hg), fun w' hS => run_fldL3 _ _ hop w' (by (repeat rw [eval_far _ _ (by decide)]); exact e8)⟩) hS0 ?_
  rw [hd, ← LR_snoc]
  clear ho hg hop hd hfr
  obtain ⟨o2, ho, hg, hop, hd⟩ := isOpG_out q2
  have hfr := hall ([0, 1], 2) (by simp)
  refine wpAnyH_take (listed := LR 11 [0, 1]) (v := EL) ho hs hfr.1 hfr.2 (hQ _ _) (Or.inl ⟨(wantedN hg), fun w' hS => run_loadS _ _ hop w' (by (repeat (first | rw [eval_same _ _ (by (try simp only [put_size]); omega)] | rw [eval_far _ _ (by decide)]))) (LL _ hS)⟩) hS0 ?_
  rw [hd, ← LR_snoc]
  clear ho hg hop hd hfr
  obtain ⟨o4, ho, hg, hop, hd⟩ := isOpG_out q4
  have hfr := hall ([0, 1, 2], 4) (by simp)
  refine wpAnyH_take (listed := LR 11 [0, 1, 2]) (v := .pointer (some ⟨bf, 0, none⟩)) ho hs hfr.1 hfr.2 (hQ _ _) (Or.inl ⟨(wantedN hg), fun w' hS => run_move _ _ hop w' (by (repeat rw [eval_far _ _ (by decide)]); exact e3)⟩) hS0 ?_
  rw [hd, ← LR_snoc]
  clear ho hg hop hd hfr
  obtain ⟨o5, ho, hg, hop, hd⟩ := isOpG_out q5
  have hfr := hall ([0, 1, 2, 4], 5) (by simp)
  refine wpAnyH_take (listed := LR 11 [0, 1, 2, 4]) (v := .pointer (some ⟨lb, 10, none⟩)) ho hs hfr.1 hfr.2 (hQ _ _) (Or.inl ⟨(wantedN hg), fun w' hS => run_fldL4 _ _ hop w' (by (repeat rw [eval_far _ _ (by decide)]); exact e8)⟩) hS0 ?_
  rw [hd, ← LR_snoc]
  clear ho hg hop hd hfr
  obtain ⟨o6, ho, hg, hop, hd⟩ := isOpG_out q6
  have hfr := hall ([0, 1, 2, 4, 5], 6) (by simp)
  refine wpAnyH_take (listed := LR 11 [0, 1, 2, 4, 5]) (v := ER) ho hs hfr.1 hfr.2 (hQ _ _) (Or.inl ⟨(wantedN hg), fun w' hS => run_loadS _ _ hop w' (by (repeat (first | rw [eval_same _ _ (by (try simp only [put_size]); omega)] | rw [eval_far _ _ (by decide)]))) (LR0 _ hS)⟩) hS0 ?_
  rw [hd, ← LR_snoc]
  clear ho hg hop hd hfr
  refine wpAnyH_all r3 (by simp) ?_
  intro i hi
  obtain rfl := List.mem_singleton.1 hi
  obtain ⟨o3, ho, hg, hop, hd⟩ := isOpG_out q3
  have x3_0 : (((((((a0.put (some 39) (.pointer (some ⟨bf, 0, none⟩))).put (some 40) (.pointer (some ⟨lb, 4, none⟩))).put (some 41) (EL)).put (some 43) (.pointer (some ⟨bf, 0, none⟩))).put (some 44) (.pointer (some ⟨lb, 10, none⟩))).put (some 45) (ER))).eval (.tmp 39) = .pointer (some ⟨bf, 0, none⟩) := (by (repeat (first | rw [eval_same _ _ (by (try simp only [put_size]); omega)] | rw [eval_far _ _ (by decide)])))
  have x3_1 : (((((((a0.put (some 39) (.pointer (some ⟨bf, 0, none⟩))).put (some 40) (.pointer (some ⟨lb, 4, none⟩))).put (some 41) (EL)).put (some 43) (.pointer (some ⟨bf, 0, none⟩))).put (some 44) (.pointer (some ⟨lb, 10, none⟩))).put (some 45) (ER))).eval (.tmp 41) = EL := (by (repeat (first | rw [eval_same _ _ (by (try simp only [put_size]); omega)] | rw [eval_far _ _ (by decide)])))
  refine wpOp_callG ho (wantedN hg) (run_callV 34 Tryz.func34 (by kernel_rfl) (by kernel_rfl) #[.tmp 39, .tmp 41] _ hop #[.pointer (some ⟨bf, 0, none⟩), EL] (by simp only [List.map_toArray, List.map_cons, List.map_nil, x3_0, x3_1])) ?_
  refine (C1).mono ?_
  rintro e u1 ⟨o1, a1, n1, c1, rfl, hS1, C2⟩
  have hS3 := keep _ _ hS0 hS1
  refine ⟨_, rfl, hS3, ?_⟩
  rw [hd]
  clear ho hg hop hd
  rw [← LR_snoc]
  refine wpAnyH_all r7 (by simp) ?_
  intro i hi
  obtain rfl := List.mem_singleton.1 hi
  obtain ⟨o7, ho, hg, hop, hd⟩ := isOpG_out q7
  have x7_0 : ((((((((a0.put (some 39) (.pointer (some ⟨bf, 0, none⟩))).put (some 40) (.pointer (some ⟨lb, 4, none⟩))).put (some 41) (EL)).put (some 43) (.pointer (some ⟨bf, 0, none⟩))).put (some 44) (.pointer (some ⟨lb, 10, none⟩))).put (some 45) (ER)).put (some 42) (.agg #[.pointer o1, .slice a1 n1 c1]))).eval (.tmp 43) = .pointer (some ⟨bf, 0, none⟩) := (by (repeat (first | rw [eval_same _ _ (by (try simp only [put_size]); omega)] | rw [eval_far _ _ (by decide)])))
  have x7_1 : ((((((((a0.put (some 39) (.pointer (some ⟨bf, 0, none⟩))).put (some 40) (.pointer (some ⟨lb, 4, none⟩))).put (some 41) (EL)).put (some 43) (.pointer (some ⟨bf, 0, none⟩))).put (some 44) (.pointer (some ⟨lb, 10, none⟩))).put (some 45) (ER)).put (some 42) (.agg #[.pointer o1, .slice a1 n1 c1]))).eval (.tmp 45) = ER := (by (repeat (first | rw [eval_same _ _ (by (try simp only [put_size]); omega)] | rw [eval_far _ _ (by decide)])))
  refine wpOp_callG ho (wantedN hg) (run_callV 34 Tryz.func34 (by kernel_rfl) (by kernel_rfl) #[.tmp 43, .tmp 45] _ hop #[.pointer (some ⟨bf, 0, none⟩), ER] (by simp only [List.map_toArray, List.map_cons, List.map_nil, x7_0, x7_1])) ?_
  refine (C2).mono ?_
  rintro e u2 ⟨o2, a2, n2, c2, rfl, hS2, hS2b, C3⟩
  have hS7 := keep _ _ hS3 hS2
  refine ⟨_, rfl, hS7, ?_⟩
  rw [hd]
  clear ho hg hop hd
  rw [← LR_snoc]
  obtain ⟨o8, ho, hg, hop, hd⟩ := isOpG_out q8
  have hfr := hall ([0, 1, 2, 4, 5, 6, 3, 7], 8) (by simp)
  refine wpAnyH_take (listed := LR 11 [0, 1, 2, 4, 5, 6, 3, 7]) (v := .agg #[.pointer o1, .slice a1 n1 c1, .pointer o2, .slice a2 n2 c2]) ho hs hfr.1 hfr.2 (hQ _ _) (Or.inl ⟨(wantedN hg), fun w' hS => run_buildE _ _ hop w' (by (repeat (first | rw [eval_same _ _ (by (try simp only [put_size]); omega)] | rw [eval_far _ _ (by decide)]))) (by (repeat (first | rw [eval_same _ _ (by (try simp only [put_size]); omega)] | rw [eval_far _ _ (by decide)])))⟩) hS7 ?_
  rw [hd, ← LR_snoc]
  clear ho hg hop hd hfr
  refine wpAnyH_all r9 (by simp) ?_
  intro i hi
  obtain rfl := List.mem_singleton.1 hi
  obtain ⟨o9, ho, hg, hop, hd⟩ := isOpG_out q9
  refine wpOp_valG ho (wantedN hg) (run_boxE _ _ hop u2 (by (repeat (first | rw [eval_same _ _ (by (try simp only [put_size]); omega)] | rw [eval_far _ _ (by decide)])))) ?_
  have hS9 := hS2b
  refine ⟨hS9, ?_⟩
  rw [hd]
  clear ho hg hop hd
  rw [← LR_snoc]
  refine wpAnyH_all r10 (by simp) ?_
  intro i hi
  obtain rfl := List.mem_singleton.1 hi
  obtain ⟨o10, ho, hg, hop, hd⟩ := isOpG_out q10
  have x10_0 : (((((((((((a0.put (some 39) (.pointer (some ⟨bf, 0, none⟩))).put (some 40) (.pointer (some ⟨lb, 4, none⟩))).put (some 41) (EL)).put (some 43) (.pointer (some ⟨bf, 0, none⟩))).put (some 44) (.pointer (some ⟨lb, 10, none⟩))).put (some 45) (ER)).put (some 42) (.agg #[.pointer o1, .slice a1 n1 c1])).put (some 46) (.agg #[.pointer o2, .slice a2 n2 c2])).put (some 47) (.agg #[.pointer o1, .slice a1 n1 c1, .pointer o2, .slice a2 n2 c2])).put (some 48) (.pointer (some ⟨u2.heap.size, 0, none⟩)))).eval (.tmp 6) = .pointer (some ⟨bw, 0, none⟩) := (by (repeat rw [eval_far _ _ (by decide)]); exact e6)
  have x10_1 : (((((((((((a0.put (some 39) (.pointer (some ⟨bf, 0, none⟩))).put (some 40) (.pointer (some ⟨lb, 4, none⟩))).put (some 41) (EL)).put (some 43) (.pointer (some ⟨bf, 0, none⟩))).put (some 44) (.pointer (some ⟨lb, 10, none⟩))).put (some 45) (ER)).put (some 42) (.agg #[.pointer o1, .slice a1 n1 c1])).put (some 46) (.agg #[.pointer o2, .slice a2 n2 c2])).put (some 47) (.agg #[.pointer o1, .slice a1 n1 c1, .pointer o2, .slice a2 n2 c2])).put (some 48) (.pointer (some ⟨u2.heap.size, 0, none⟩)))).eval (.tmp 48) = .pointer (some ⟨u2.heap.size, 0, none⟩) := (by (repeat (first | rw [eval_same _ _ (by (try simp only [put_size]); omega)] | rw [eval_far _ _ (by decide)])))
  refine wpOp_callG ho (wantedN hg) (run_callV 33 Tryz.func33 (by kernel_rfl) (by kernel_rfl) #[.tmp 6, .tmp 48] _ hop #[.pointer (some ⟨bw, 0, none⟩), .pointer (some ⟨u2.heap.size, 0, none⟩)] (by simp only [List.map_toArray, List.map_cons, List.map_nil, x10_0, x10_1])) ?_
  refine (C3).mono ?_
  rintro e u3 ⟨v3, rfl, hS3, hP⟩
  have hS10 := keep _ _ hS9 hS3
  refine ⟨_, rfl, hS10, ?_⟩
  rw [hd]
  clear ho hg hop hd
  rw [← LR_snoc]
  exact wpAnyH_done rend (F _ u2 o1 o2 a1 a2 n1 n2 c1 c2 v3 hP) _
end Go.Proofs.YtgfnijhhhgjabaaGreatDoor
end
section
namespace Go.Proofs.YtgfnijhhhgjabaaGreatDoor
open Go.RowKit Go.Maps
set_option linter.unusedVariables false
set_option linter.unusedSimpArgs false
attribute [local go_sem ↓] Go.wp_at_zero Go.wp_at_succ

theorem ptrO_form (l : Option Vb) : ∃ o, ptrO l = .pointer o := by
  cases l with
  | none => exact ⟨none, rfl⟩
  | some x => exact ⟨_, rfl⟩
/-- amid Limited: the finder, the equations that wait, their list -/
structure Lst (B bf bm bw : Nat) (w0 : World) (vs : List Vb) (fs : List ByteArray) (sv svw : Value) (L : List Er) (w : World) : Prop where
  fd : Fd B bf bm vs fs sv w
  eq : Eqs bf bm vs fs sv w L
  wk : Wk B bw (L.map Er.be) svw w
  wa : ∀ j, WP bw svw j → ¬ FP bf bm vs sv j ∧ ∀ r ∈ L, ¬ EP r j
  bl : Below B w0 w
  lo : ∀ r ∈ L, B ≤ r.be
  bb : B ≤ bw
  zz : B ≤ w.heap.size
theorem Lst.ge {B bf bm bw : Nat} {w0 : World} {vs : List Vb} {fs : List ByteArray} {sv svw : Value} {L : List Er} {w : World} (h : Lst B bf bm bw w0 vs fs sv svw L w) : ∀ j, WP bw svw j → B ≤ j := by
  rintro j (rfl | e)
  · exact h.bb
  · exact (h.wk.own.lt j e).1
theorem Lst.below {B bf bm bw : Nat} {w0 : World} {vs : List Vb} {fs : List ByteArray} {sv svw : Value} {L : List Er} {w w' : World} (h : Lst B bf bm bw w0 vs fs sv svw L w) (b : Below w.heap.size w w') : Lst B bf bm bw w0 vs fs sv svw L w' :=
  ⟨h.fd.below b, h.eq.keep b.size (fun r hr k hk => b.block k ((h.eq.is r hr).lt k hk).1) (fun _ hn => hn) (fun _ hx => hx) (fun _ _ hk => hk), h.wk.keep (fun k hk => b.block k (h.wk.lt k hk)), h.wa, h.bl.trans (b.mono h.zz), h.lo, h.bb, Nat.le_trans h.zz b.size⟩
/-- a list of variables that belongs to nobody yet -/
def Nw (bf bm bw : Nat) (vs : List Vb) (sv svw : Value) (L : List Er) (w : World) (a : Option Addr) : Prop := ∀ g off, a = some ⟨g, off, none⟩ → g < w.heap.size ∧ ¬ FP bf bm vs sv g ∧ ¬ WP bw svw g ∧ ∀ r ∈ L, g ≠ r.be
theorem fp_more {bf bm : Nat} {vs m : List Vb} {sv : Value} {z : Nat} (hm : ∀ y ∈ m, z ≤ y.b) : ∀ k, k < z → ¬ FP bf bm vs sv k → ¬ FP bf bm (vs ++ m) sv k := by
  rintro k hk hf (e | e | e | ⟨x, hx, e⟩)
  · exact hf (.inl e)
  · exact hf (.inr (.inl e))
  · exact hf (.inr (.inr (.inl e)))
  · rcases List.mem_append.1 hx with hx | hx
    · exact hf (.inr (.inr (.inr ⟨x, hx, e⟩)))
    · have := hm x hx
      omega
/-- behind side -/
theorem Lst.side {B bf bm bw : Nat} {w0 : World} {vs : List Vb} {fs : List ByteArray} {sv svw : Value} {L : List Er} {u u' : World} {q : Sd} {r : Ending} (h : Lst B bf bm bw w0 vs fs sv svw L u) (hs : SiP B bf bm vs fs sv q u r u') :
    ∃ vs' l xs a c, r = .returned (.agg #[ptrO l, .slice a xs.length c]) ∧ Lst B bf bm bw w0 vs' fs sv svw L u' ∧ Nw bf bm bw vs' sv svw L u' a ∧ Lq u' a c xs ∧ xs.map Vb.v = q.vars ∧ l.map Vb.v = q.lone ∧ (∀ x, l = some x → x ∈ vs') ∧ (∀ x ∈ xs, x ∈ vs') ∧ Tz (fun k => k = bm) u u' ∧ (∀ x ∈ vs, x ∈ vs') ∧
      (∀ a1 c1 xs1, Nw bf bm bw vs sv svw L u a1 → Lq u a1 c1 xs1 → Nw bf bm bw vs' sv svw L u' a1 ∧ Lq u' a1 c1 xs1) := by
  obtain ⟨vs', l, xs, a, c, h1, h2, h3, ⟨m, hm, hm2⟩, h5, h6, h7, h8, h9, h10⟩ := hs
  subst hm
  have hfp := fp_more (bf := bf) (bm := bm) (vs := vs) (sv := sv) hm2
  have hbm : ∀ k, ¬ FP bf bm vs sv k → k ≠ bm := fun k hk e => hk (.inr (.inl e))
  have hzu := h3.size
  refine ⟨vs ++ m, l, xs, a, c, h1, ⟨h2, ?_, ?_, ?_, ?_, h.lo, h.bb, Nat.le_trans h.zz hzu⟩, ?_, h5, h6, h7, h8, h9, h3, fun x hx => List.mem_append.2 (.inl hx), ?_⟩
  · exact h.eq.keep hzu (fun r hr k hk => h3.block k ((h.eq.is r hr).lt k hk).1 (hbm k ((h.eq.is r hr).lt k hk).2)) (fun _ hn => hn) (fun x hx => List.mem_append.2 (.inl hx)) hfp
  · exact h.wk.keep (fun k hk => h3.block k (h.wk.lt k hk) (hbm k (h.wa k hk).1))
  · exact fun j hj => ⟨hfp j (h.wk.lt j hj) (h.wa j hj).1, (h.wa j hj).2⟩
  · exact Tz.below h.bl h3 h.zz (fun b e => by rw [e]; exact h.fd.lo.2.1)
  · intro g off e
    obtain ⟨g1, g2, g3⟩ := h10 g off e
    have hb := h.fd.lt bf (.inl rfl)
    have hb2 := h.fd.lt bm (.inr (.inl rfl))
    refine ⟨g2, ?_, fun hw => by have := h.wk.lt g hw; omega, fun r hr e2 => by have := ((h.eq.is r hr).lt r.be (.inl rfl)).1; omega⟩
    rintro (e1 | e1 | e1 | ⟨x, hx, e1⟩)
    · omega
    · omega
    · have := h.fd.lt g (.inr (.inr (.inl e1)))
      omega
    · exact g3 x hx e1.symm
  · intro a1 c1 xs1 hn hl
    refine ⟨fun g off e => ⟨Nat.lt_of_lt_of_le (hn g off e).1 hzu, hfp g (hn g off e).1 (hn g off e).2.1, (hn g off e).2.2⟩, hl.keep hzu (fun g off e => h3.block g (hn g off e).1 (hbm g (hn g off e).2.1))⟩
/-- an equation more that waits -/
theorem Lst.add {B bf bm bw : Nat} {w0 : World} {vs : List Vb} {fs : List ByteArray} {sv svw svw' : Value} {L : List Er} {u u4 : World} {q1 q2 : Sd} {l0 l1 : Option Vb} {x0 x1 : List Vb} {a0 a1 : Option Addr} {c0 c1 : Nat} (h : Lst B bf bm bw w0 vs fs sv svw L u)
    (n0 : Nw bf bm bw vs sv svw L u a0) (n1 : Nw bf bm bw vs sv svw L u a1) (lq0 : Lq u a0 c0 x0) (lq1 : Lq u a1 c1 x1) (e0 : x0.map Vb.v = q1.vars) (e1 : x1.map Vb.v = q2.vars) (f0 : l0.map Vb.v = q1.lone) (f1 : l1.map Vb.v = q2.lone) (m0 : ∀ x, l0 = some x → x ∈ vs) (m1 : ∀ x, l1 = some x → x ∈ vs) (i0 : ∀ x ∈ x0, x ∈ vs) (i1 : ∀ x ∈ x1, x ∈ vs)
    (hw : Wk B bw (L.map Er.be ++ [u.heap.size]) svw' u4) (ht : Tz (WP bw svw) (u.alloc (.cells #[ptrO l0, .slice a0 x0.length c0, ptrO l1, .slice a1 x1.length c1] 92)) u4) (hn : ∀ g, svw'.ownBlock = some g → svw.ownBlock = some g ∨ (u.alloc (.cells #[ptrO l0, .slice a0 x0.length c0, ptrO l1, .slice a1 x1.length c1] 92)).heap.size ≤ g) :
    ∃ r, r.q = (q1, q2) ∧ Lst B bf bm bw w0 vs fs sv svw' (L ++ [r]) u4 := by
  have hA := belowA (w := u) (.cells #[ptrO l0, .slice a0 x0.length c0, ptrO l1, .slice a1 x1.length c1] 92)
  have hR := rl_new u #[ptrO l0, .slice a0 x0.length c0, ptrO l1, .slice a1 x1.length c1] 92
  have hz : (u.alloc (.cells #[ptrO l0, .slice a0 x0.length c0, ptrO l1, .slice a1 x1.length c1] 92)).heap.size = u.heap.size + 1 := by simp
  have h3 := h.below hA
  generalize u.alloc (.cells #[ptrO l0, .slice a0 x0.length c0, ptrO l1, .slice a1 x1.length c1] 92) = u3 at *
  have hlt3 : ∀ k, WP bw svw k → k < u.heap.size := h.wk.lt
  obtain ⟨r, hr⟩ : ∃ r : Er, r = ⟨u.heap.size, (q1, q2), l0, x0, a0, c0, l1, x1, a1, c1⟩ := ⟨_, rfl⟩
  have hrb : r.be = u.heap.size := by rw [hr]
  have hEr : EqIs bf bm vs fs sv u3 r := by
    rw [hr]
    refine ⟨hR, lq0.keep hA.size (fun g off e => hA.block g (n0 g off e).1), lq1.keep hA.size (fun g off e => hA.block g (n1 g off e).1), f0.symm, f1.symm, ⟨[], by rw [List.nil_append]; exact e0.symm, fun n hn => (by cases hn)⟩, ⟨[], by rw [List.nil_append]; exact e1.symm, fun n hn => (by cases hn)⟩, m0, m1, i0, i1, fun e => by have := h.fd.lt _ e; simp only at this; omega, fun g off e => ⟨(n0 g off e).2.1, by have := (n0 g off e).1; show g ≠ u.heap.size; omega, by have := (n0 g off e).1; omega⟩, fun g off e => ⟨(n1 g off e).2.1, by have := (n1 g off e).1; show g ≠ u.heap.size; omega, by have := (n1 g off e).1; omega⟩⟩
  have hEb : ∀ k, EP r k → ¬ WP bw svw k ∧ ∀ x ∈ L, k ≠ x.be := by
    intro k hk
    rw [hr] at hk
    rcases hk with e | ⟨off, e⟩ | ⟨off, e⟩
    · simp only at e
      exact ⟨fun hw => by have := hlt3 k hw; omega, fun x hx e2 => by have := ((h.eq.is x hx).lt x.be (.inl rfl)).1; omega⟩
    · exact (n0 k off e).2.2
    · exact (n1 k off e).2.2
  have heqs : Eqs bf bm vs fs sv u3 (L ++ [r]) := by
    refine ⟨fun x hx => ?_, ?_, fun x hx y hy k hk e => ?_⟩
    · rcases List.mem_append.1 hx with hx | hx
      · exact h3.eq.is x hx
      · rw [List.mem_singleton.1 hx]; exact hEr
    · rw [List.map_append, List.nodup_append]
      refine ⟨h.eq.nd, by simp, fun a ha b hb => ?_⟩
      obtain ⟨x, hx, rfl⟩ := List.mem_map.1 ha
      simp only [List.map_cons, List.map_nil, List.mem_singleton] at hb
      have := ((h.eq.is x hx).lt x.be (.inl rfl)).1
      rw [hb, hrb]
      omega
    · rcases List.mem_append.1 hx with hx2 | hx2
      · rcases List.mem_append.1 hy with hy2 | hy2
        · exact h.eq.ap x hx2 y hy2 k hk e
        · rw [List.mem_singleton.1 hy2, hrb] at e
          have := ((h.eq.is x hx2).lt k hk).1
          omega
      · rw [List.mem_singleton.1 hx2] at hk ⊢
        rcases List.mem_append.1 hy with hy2 | hy2
        · exact absurd e ((hEb k hk).2 y hy2)
        · rw [List.mem_singleton.1 hy2]
  have hwe : ∀ x ∈ L ++ [r], ∀ k, EP x k → ¬ WP bw svw k := fun x hx k hk hw => by
    rcases List.mem_append.1 hx with hx | hx
    · exact (h.wa k hw).2 x hx hk
    · rw [List.mem_singleton.1 hx] at hk
      exact (hEb k hk).1 hw
  refine ⟨r, by rw [hr], ⟨h3.fd.keep (fun k hk => ht.block k (h3.fd.lt k hk) (fun e => (h.wa k e).1 hk)), ?_, ?_, ?_, ?_, ?_, h.bb, Nat.le_trans h3.zz ht.size⟩⟩
  · exact heqs.keep ht.size (fun x hx k hk => ht.block k ((heqs.is x hx).lt k hk).1 (hwe x hx k hk)) (fun _ hn => hn) (fun _ hx => hx) (fun _ _ hk => hk)
  · rw [List.map_append, List.map_cons, List.map_nil, hrb]
    exact hw
  · have hbw := hlt3 bw (.inl rfl)
    rintro j (e | e)
    · rw [e]
      exact ⟨(h.wa bw (.inl rfl)).1, fun x hx hk => hwe x hx bw hk (.inl rfl)⟩
    · rcases hn j e with k | k
      · exact ⟨(h.wa j (.inr k)).1, fun x hx hk => hwe x hx j hk (.inr k)⟩
      · exact ⟨fun hf => by have := h3.fd.lt j hf; omega, fun x hx hk => by have := ((heqs.is x hx).lt j hk).1; omega⟩
  · exact Tz.below h3.bl ht h3.zz h.ge
  · intro x hx
    rcases List.mem_append.1 hx with hx | hx
    · exact h.lo x hx
    · rw [List.mem_singleton.1 hx, hrb]
      exact h.zz
/-- behind a round -/
theorem Lst.round {B bf bm bw : Nat} {w0 : World} {vs : List Vb} {fs : List ByteArray} {sv svw : Value} {L : List Er} {u u' : World} {e : Ending} (h : Lst B bf bm bw w0 vs fs sv svw L u) (hr : RnP B bf bm bw vs fs sv svw L u e u') :
    ∃ sv' svw' L', e = .returned (.bool (decide (L'.length < L.length))) ∧ L'.map Er.q = (progR (L.map Er.q) fs).2 ∧ (progR (L.map Er.q) fs).1.length + L'.length = fs.length + L.length ∧ Lst B bf bm bw w0 vs (progR (L.map Er.q) fs).1 sv' svw' L' u' := by
  obtain ⟨sv', svw', L', h1, h2, h3, h4, h5, h6, h7, h8, h9, h10⟩ := hr
  refine ⟨sv', svw', L', h1, h4, h9, h2, h3, h5, h6, Tz.below h.bl h7 h.zz ?_, fun r hr => ?_, h.bb, Nat.le_trans h.zz h7.size⟩
  · rintro b (k | k | ⟨r, hr, k⟩)
    · exact h.fd.ge b k
    · exact h.ge b k
    · rw [k]; exact h.lo r hr
  · obtain ⟨r0, hr0, e0⟩ := h10 r hr
    rw [e0]
    exact h.lo r0 hr0
end Go.Proofs.YtgfnijhhhgjabaaGreatDoor
end
