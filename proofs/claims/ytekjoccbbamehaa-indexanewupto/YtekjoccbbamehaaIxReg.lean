import Derived.Test.YtekjoccbbamehaaRgGen
namespace Go.Proofs.Ytekjoccbbamehaa
open Go.RowKit Go.Maps
set_option linter.unusedVariables false
set_option linter.unusedSimpArgs false

theorem wpOp_valG {P : Program} {ops : Array Oper} {Q : Exit → Act → World → Prop} {K : Act → World → Prop} {i : Nat} {a : Act} {w w' : World} {o : Oper} {v : Value} (hi : ops[i]? = some o) (hw : Region.wanted o (yielded ops a.tmps) = true) (hrun : (execOp a.eval o).run P w = .ok (.value v) w') (hK : K (a.put o.dst v) w') : wpOp P ops Q i K a w := by
  unfold wpOp
  rw [hi]
  simp only [hw, if_true]
  refine Or.inl ?_
  unfold Oper.wp
  rw [hrun]
  exact hK
theorem wpOp_skipG {P : Program} {ops : Array Oper} {Q : Exit → Act → World → Prop} {K : Act → World → Prop} {i : Nat} {a : Act} {w w' : World} {o : Oper} (hi : ops[i]? = some o) (hw : Region.wanted o (yielded ops a.tmps) = true) (hrun : (execOp a.eval o).run P w = .ok .skip w') (hK : K (a.put o.dst undef) w') : wpOp P ops Q i K a w := by
  unfold wpOp
  rw [hi]
  simp only [hw, if_true]
  refine Or.inl ?_
  unfold Oper.wp
  rw [hrun]
  exact hK
theorem put_none (a : Act) (v : Value) : a.put none v = a := rfl
theorem typ_ofX {ops : Array Oper} {i : Nat} {o : Oper} {ty : TypeId} (h : ops[i]?.map Oper.type = some ty) (ho : ops[i]? = some o) : o.type = ty := by
  rw [ho] at h
  exact Option.some.inj h
theorem run_appX (ev : Operand → Value) (o : Oper) {x y : Operand} {t ty : TypeId} (hop : o.op = .call { callee := .builtin .append, args := #[x, y], argTypes := #[t, t] }) (hty : o.type = ty) (w : World) {a b v : Value} {w' : World} (hx : ev x = a) (hy : ev y = b) (hr : (Builtin.append_ #[t, t] ty #[a, b]).run Try.prog w = .ok v w') : (execOp ev o).run Try.prog w = .ok (.value v) w' := by
  simp only [execOp, hop]
  simp [resolve, invoke, builtin, hx, hy, hty, hr, Result.andThen]
theorem run_ex0 (ev : Operand → Value) (o : Oper) {x : Operand} (hop : o.op = .extract x 0) (w : World) {a b : Value} (hx : ev x = .tuple #[a, b]) : (execOp ev o).run Try.prog w = .ok (.value a) w := by
  simp only [execOp, hop, hx]
  go_simp
theorem run_ex1 (ev : Operand → Value) (o : Oper) {x : Operand} (hop : o.op = .extract x 1) (w : World) {a b : Value} (hx : ev x = .tuple #[a, b]) : (execOp ev o).run Try.prog w = .ok (.value b) w := by
  simp only [execOp, hop, hx]
  go_simp
theorem run_loadX (ev : Operand → Value) (o : Oper) {ty : TypeId} {x : Operand} (hop : o.op = .load ty x) (w : World) {a : Addr} {v : Value} (hx : ev x = .pointer (some a)) (hl : (loadVar ty a).run Try.prog w = .ok v w) : (execOp ev o).run Try.prog w = .ok (.value v) w := by
  simp only [execOp, hop, hx]
  simp [Instr.loadAt, Instr.sureAddr, hl, Result.andThen]
theorem run_nilX (ev : Operand → Value) (o : Oper) {x : Operand} (hop : o.op = .nilCheck x) (w : World) {a : Addr} (hx : ev x = .pointer (some a)) : (execOp ev o).run Try.prog w = .ok (.value (.pointer (some a))) w := by
  simp only [execOp, hop, hx]
  go_simp
theorem run_fldX1 (ev : Operand → Value) (o : Oper) {x : Operand} (hop : o.op = .fieldAddr 74 x 1) (w : World) {b : Nat} (hx : ev x = .pointer (some ⟨b, 0, none⟩)) : (execOp ev o).run Try.prog w = .ok (.value (.pointer (some ⟨b, 1, none⟩))) w := by
  simp only [execOp, hop, hx]
  go_simp
theorem run_fldX2 (ev : Operand → Value) (o : Oper) {x : Operand} (hop : o.op = .fieldAddr 74 x 2) (w : World) {b : Nat} (hx : ev x = .pointer (some ⟨b, 0, none⟩)) : (execOp ev o).run Try.prog w = .ok (.value (.pointer (some ⟨b, 2, none⟩))) w := by
  simp only [execOp, hop, hx]
  go_simp
theorem run_bsI {b : Nat} (ev : Operand → Value) (o : Oper) {x : Operand} (hop : o.op = .buildSlice 38 1 #[(0, x)]) (w : World) {n : Int} (hx : ev x = .int .i64 n) (hb : w.heap.size = b) : (execOp ev o).run Try.prog w = .ok (.value (.slice (some ⟨b, 0, none⟩) 1 1)) (w.alloc (.cells #[.int .i64 n] 3)) := by
  subst hb
  simp only [execOp, hop, hx]
  go_simp
theorem run_mapE (ev : Operand → Value) (o : Oper) {x y : Operand} {ty : TypeId} (hop : o.op = .mapEntry ty x y) (w : World) {a b v : Value} {w' : World} (hx : ev x = a) (hy : ev y = b) (hr : (Instr.mapEntry ty a b).run Try.prog w = .ok v w') : (execOp ev o).run Try.prog w = .ok (.value v) w' := by
  simp only [execOp, hop, hx, hy]
  simp [hr, Result.andThen]
theorem run_entS (ev : Operand → Value) (o : Oper) {x y z : Operand} {ty : TypeId} (hop : o.op = .entryStore ty x y z) (w : World) {a b c : Value} {w' : World} (hx : ev x = a) (hy : ev y = b) (hz : ev z = c) (hr : (Instr.entryStore ty a b c).run Try.prog w = .ok () w') : (execOp ev o).run Try.prog w = .ok .skip w' := by
  simp only [execOp, hop, hx, hy, hz]
  simp [hr, Result.andThen]
def ixtake_takes : List (List Nat × Nat) := [([], 0), ([0], 1), ([0, 1], 2), ([0, 1, 2], 3), ([0, 1, 2, 3], 4), ([0, 1, 2, 3, 4], 5), ([0, 1, 2, 3, 4, 5], 6), ([0, 1, 2, 3, 4, 5, 6], 7), ([0, 1, 2, 3, 4, 5, 6, 7], 8), ([0, 1, 2, 3, 4, 5, 6, 7, 8, 9, 10], 11), ([0, 1, 2, 3, 4, 5, 6, 7, 8, 9, 10, 11], 13)]
set_option maxHeartbeats 3200000 in
theorem ixtake {ops : Array Oper} {Q : Exit → Act → World → Prop} {S : World → Prop} {a0 : Act} {w5 : World} {x kb b n st : Nat} {ka : Array Value} {v nv : Value} {w2 w3 w4 : World}
    (q0 : isOpG ops 0 none (.move (.tmp 0)) (some 11))
    (q1 : isOpG ops 1 none (.nilCheck (.tmp 11)) (some 12))
    (q2 : isOpG ops 2 none (.fieldAddr 74 (.tmp 12) 1) (some 13))
    (q3 : isOpG ops 3 none (.load 72 (.tmp 13)) (some 14))
    (q4 : isOpG ops 4 none (.load 34 (.tmp 4)) (some 15))
    (q5 : isOpG ops 5 none (.move (.tmp 0)) (some 17))
    (q6 : isOpG ops 6 none (.nilCheck (.tmp 17)) (some 18))
    (q7 : isOpG ops 7 none (.fieldAddr 74 (.tmp 18) 2) (some 19))
    (q8 : isOpG ops 8 none (.load 3 (.tmp 19)) (some 20))
    (q9 : isOpG ops 9 none (.buildSlice 38 1 #[(0, .tmp 20)]) (some 21))
    (q10 : isOpG ops 10 none (.mapEntry 72 (.tmp 14) (.tmp 15)) (some 22))
    (q11 : isOpG ops 11 none (.extract (.tmp 22) 0) (some 16))
    (q13 : isOpG ops 13 none (.extract (.tmp 22) 1) (some 24))
    (q12 : isOpG ops 12 none (.call { callee := .builtin .append, args := #[.tmp 16, .tmp 21], argTypes := #[38, 38] }) (some 23))
    (q14 : isOpG ops 14 none (.entryStore 72 (.tmp 14) (.tmp 24) (.tmp 23)) none)
    (hs : Region.noSelect ops = true) (hq : (ixtake_takes.all fun p => Region.free .any ops (LR 15 p.1) p.2 && (Region.ready .any ops (LR 15 p.1)).contains p.2) = true)
    (r9 : Region.ready .any ops (LR 15 [0, 1, 2, 3, 4, 5, 6, 7, 8]) = [9])
    (r10 : Region.ready .any ops (LR 15 [0, 1, 2, 3, 4, 5, 6, 7, 8, 9]) = [10])
    (r12 : Region.ready .any ops (LR 15 [0, 1, 2, 3, 4, 5, 6, 7, 8, 9, 10, 11, 13]) = [12])
    (r14 : Region.ready .any ops (LR 15 [0, 1, 2, 3, 4, 5, 6, 7, 8, 9, 10, 11, 13, 12]) = [14])
    (rend : Region.ready .any ops (LR 15 [0, 1, 2, 3, 4, 5, 6, 7, 8, 9, 10, 11, 13, 12, 14]) = [])
    (hQ : ∀ (d : Option Tmp) (v : Value) c a w, Q (.panic c) (a.put d v) w → Q (.panic c) a w)
    (hsz : 24 < a0.tmps.size) (e0 : a0.eval (.tmp 0) = .pointer (some ⟨x, 0, none⟩)) (e4 : a0.eval (.tmp 4) = .pointer (some ⟨kb, 0, none⟩))
    (hS0 : S w5.drew)
    (t12 : ops[12]?.map Oper.type = some 38) (LM : ∀ u, S u → (loadVar 72 ⟨x, 1, none⟩).run Try.prog u = .ok (.map (some b)) u) (LK : ∀ u, S u → (loadVar 34 ⟨kb, 0, none⟩).run Try.prog u = .ok (.agg ka) u) (LS : ∀ u, S u → (loadVar 3 ⟨x, 2, none⟩).run Try.prog u = .ok (.int .i64 (n : Int)) u)
    (HSB : S (w5.drew.alloc (.cells #[.int .i64 (n : Int)] 3))) (HME : (Instr.mapEntry 72 (.map (some b)) (.agg ka)).run Try.prog (w5.drew.alloc (.cells #[.int .i64 (n : Int)] 3)) = .ok (.tuple #[v, .int .i64 (st : Int)]) w2) (HSE : S w2)
    (HAP : (Builtin.append_ #[38, 38] 38 #[v, .slice (some ⟨w5.heap.size, 0, none⟩) 1 1]).run Try.prog w2 = .ok nv w3) (HSA : S w3) (HST : (Instr.entryStore 72 (.map (some b)) (.int .i64 (st : Int)) nv).run Try.prog w3 = .ok () w4) (HSS : S w4)
    (F : ∀ (wc : World), wc = w4 → Q .normal ((((((((((((((a0.put (some 11) (.pointer (some ⟨x, 0, none⟩))).put (some 12) (.pointer (some ⟨x, 0, none⟩))).put (some 13) (.pointer (some ⟨x, 1, none⟩))).put (some 14) (.map (some b))).put (some 15) (.agg ka)).put (some 17) (.pointer (some ⟨x, 0, none⟩))).put (some 18) (.pointer (some ⟨x, 0, none⟩))).put (some 19) (.pointer (some ⟨x, 2, none⟩))).put (some 20) (.int .i64 (n : Int))).put (some 21) (.slice (some ⟨w5.heap.size, 0, none⟩) 1 1)).put (some 22) (.tuple #[v, .int .i64 (st : Int)])).put (some 16) (v)).put (some 24) (.int .i64 (st : Int))).put (some 23) (nv)) wc) :
    wpAnyH Try.prog .any ops Q S 15 (LR 15 []) a0 w5.drew := by
  have hall : ∀ p ∈ ixtake_takes, Region.free .any ops (LR 15 p.1) p.2 = true ∧ (Region.ready .any ops (LR 15 p.1)).contains p.2 = true := by
    intro p hp
    have := List.all_eq_true.1 hq p hp
    simpa using this
  unfold ixtake_takes at hall
  obtain ⟨o0, ho, hg, hop, hd⟩ := isOpG_out q0
  have hfr := hall ([], 0) (by simp)
  refine wpAnyH_take (listed := LR 15 []) (v := .pointer (some ⟨x, 0, none⟩)) ho hs hfr.1 hfr.2 (hQ _ _) (Or.inl ⟨(wantedN hg), fun w' hS => run_move _ _ hop w' (by (repeat rw [eval_far _ _ (by decide)]); exact e0)⟩) hS0 ?_
  rw [hd, ← LR_snoc]
  clear ho hg hop hd hfr
  obtain ⟨o1, ho, hg, hop, hd⟩ := isOpG_out q1
  have hfr := hall ([0], 1) (by simp)
  refine wpAnyH_take (listed := LR 15 [0]) (v := .pointer (some ⟨x, 0, none⟩)) ho hs hfr.1 hfr.2 (hQ _ _) (Or.inl ⟨(wantedN hg), fun w' hS => run_nilX _ _ hop w' (by (repeat (first | rw [eval_same _ _ (by (try simp only [put_size]); omega)] | rw [eval_far _ _ (by decide)])))⟩) hS0 ?_
  rw [hd, ← LR_snoc]
  clear ho hg hop hd hfr
  obtain ⟨o2, ho, hg, hop, hd⟩ := isOpG_out q2
  have hfr := hall ([0, 1], 2) (by simp)
  refine wpAnyH_take (listed := LR 15 [0, 1]) (v := .pointer (some ⟨x, 1, none⟩)) ho hs hfr.1 hfr.2 (hQ _ _) (Or.inl ⟨(wantedN hg), fun w' hS => run_fldX1 _ _ hop w' (by (repeat (first | rw [eval_same _ _ (by (try simp only [put_size]); omega)] | rw [eval_far _ _ (by decide)])))⟩) hS0 ?_
  rw [hd, ← LR_snoc]
  clear ho hg hop hd hfr
  obtain ⟨o3, ho, hg, hop, hd⟩ := isOpG_out q3
  have hfr := hall ([0, 1, 2], 3) (by simp)
  refine wpAnyH_take (listed := LR 15 [0, 1, 2]) (v := .map (some b)) ho hs hfr.1 hfr.2 (hQ _ _) (Or.inl ⟨(wantedN hg), fun w' hS => run_loadX _ _ hop w' (by (repeat (first | rw [eval_same _ _ (by (try simp only [put_size]); omega)] | rw [eval_far _ _ (by decide)]))) (LM _ hS)⟩) hS0 ?_
  rw [hd, ← LR_snoc]
  clear ho hg hop hd hfr
  obtain ⟨o4, ho, hg, hop, hd⟩ := isOpG_out q4
  have hfr := hall ([0, 1, 2, 3], 4) (by simp)
  refine wpAnyH_take (listed := LR 15 [0, 1, 2, 3]) (v := .agg ka) ho hs hfr.1 hfr.2 (hQ _ _) (Or.inl ⟨(wantedN hg), fun w' hS => run_loadX _ _ hop w' (by (repeat rw [eval_far _ _ (by decide)]); exact e4) (LK _ hS)⟩) hS0 ?_
  rw [hd, ← LR_snoc]
  clear ho hg hop hd hfr
  obtain ⟨o5, ho, hg, hop, hd⟩ := isOpG_out q5
  have hfr := hall ([0, 1, 2, 3, 4], 5) (by simp)
  refine wpAnyH_take (listed := LR 15 [0, 1, 2, 3, 4]) (v := .pointer (some ⟨x, 0, none⟩)) ho hs hfr.1 hfr.2 (hQ _ _) (Or.inl ⟨(wantedN hg), fun w' hS => run_move _ _ hop w' (by (repeat rw [eval_far _ _ (by decide)]); exact e0)⟩) hS0 ?_
  rw [hd, ← LR_snoc]
  clear ho hg hop hd hfr
  obtain ⟨o6, ho, hg, hop, hd⟩ := isOpG_out q6
  have hfr := hall ([0, 1, 2, 3, 4, 5], 6) (by simp)
  refine wpAnyH_take (listed := LR 15 [0, 1, 2, 3, 4, 5]) (v := .pointer (some ⟨x, 0, none⟩)) ho hs hfr.1 hfr.2 (hQ _ _) (Or.inl ⟨(wantedN hg), fun w' hS => run_nilX _ _ hop w' (by (repeat (first | rw [eval_same _ _ (by (try simp only [put_size]); omega)] | rw [eval_far _ _ (by decide)])))⟩) hS0 ?_
  rw [hd, ← LR_snoc]
  clear ho hg hop hd hfr
  obtain ⟨o7, ho, hg, hop, hd⟩ := isOpG_out q7
  have hfr := hall ([0, 1, 2, 3, 4, 5, 6], 7) (by simp)
  refine wpAnyH_take (listed := LR 15 [0, 1, 2, 3, 4, 5, 6]) (v := .pointer (some ⟨x, 2, none⟩)) ho hs hfr.1 hfr.2 (hQ _ _) (Or.inl ⟨(wantedN hg), fun w' hS => run_fldX2 _ _ hop w' (by (repeat (first | rw [eval_same _ _ (by (try simp only [put_size]); omega)] | rw [eval_far _ _ (by decide)])))⟩) hS0 ?_
  rw [hd, ← LR_snoc]
  clear ho hg hop hd hfr
  obtain ⟨o8, ho, hg, hop, hd⟩ := isOpG_out q8
  have hfr := hall ([0, 1, 2, 3, 4, 5, 6, 7], 8) (by simp)
  refine wpAnyH_take (listed := LR 15 [0, 1, 2, 3, 4, 5, 6, 7]) (v := .int .i64 (n : Int)) ho hs hfr.1 hfr.2 (hQ _ _) (Or.inl ⟨(wantedN hg), fun w' hS => run_loadX _ _ hop w' (by (repeat (first | rw [eval_same _ _ (by (try simp only [put_size]); omega)] | rw [eval_far _ _ (by decide)]))) (LS _ hS)⟩) hS0 ?_
  rw [hd, ← LR_snoc]
  clear ho hg hop hd hfr
  refine wpAnyH_all r9 (by simp) ?_
  intro i hi
  obtain rfl := List.mem_singleton.1 hi
  obtain ⟨o9, ho, hg, hop, hd⟩ := isOpG_out q9
  refine wpOp_valG ho (wantedN hg) (run_bsI (b := w5.heap.size) _ _ hop _ (by (repeat (first | rw [eval_same _ _ (by (try simp only [put_size]); omega)] | rw [eval_far _ _ (by decide)]))) rfl) ?_
  have hS9 := HSB
  refine ⟨hS9, ?_⟩
  rw [hd]
  clear ho hg hop hd
  rw [← LR_snoc]
  refine wpAnyH_all r10 (by simp) ?_
  intro i hi
  obtain rfl := List.mem_singleton.1 hi
  obtain ⟨o10, ho, hg, hop, hd⟩ := isOpG_out q10
  refine wpOp_valG ho (wantedN hg) (run_mapE _ _ hop _ (by (repeat (first | rw [eval_same _ _ (by (try simp only [put_size]); omega)] | rw [eval_far _ _ (by decide)]))) (by (repeat (first | rw [eval_same _ _ (by (try simp only [put_size]); omega)] | rw [eval_far _ _ (by decide)]))) HME) ?_
  have hS10 := HSE
  refine ⟨hS10, ?_⟩
  rw [hd]
  clear ho hg hop hd
  rw [← LR_snoc]
  obtain ⟨o11, ho, hg, hop, hd⟩ := isOpG_out q11
  have hfr := hall ([0, 1, 2, 3, 4, 5, 6, 7, 8, 9, 10], 11) (by simp)
  refine wpAnyH_take (listed := LR 15 [0, 1, 2, 3, 4, 5, 6, 7, 8, 9, 10]) (v := v) ho hs hfr.1 hfr.2 (hQ _ _) (Or.inl ⟨(wantedN hg), fun w' hS => run_ex0 _ _ hop w' (by (repeat (first | rw [eval_same _ _ (by (try simp only [put_size]); omega)] | rw [eval_far _ _ (by decide)])))⟩) hS10 ?_
  rw [hd, ← LR_snoc]
  clear ho hg hop hd hfr
  obtain ⟨o13, ho, hg, hop, hd⟩ := isOpG_out q13
  have hfr := hall ([0, 1, 2, 3, 4, 5, 6, 7, 8, 9, 10, 11], 13) (by simp)
  refine wpAnyH_take (listed := LR 15 [0, 1, 2, 3, 4, 5, 6, 7, 8, 9, 10, 11]) (v := .int .i64 (st : Int)) ho hs hfr.1 hfr.2 (hQ _ _) (Or.inl ⟨(wantedN hg), fun w' hS => run_ex1 _ _ hop w' (by (repeat (first | rw [eval_same _ _ (by (try simp only [put_size]); omega)] | rw [eval_far _ _ (by decide)])))⟩) hS10 ?_
  rw [hd, ← LR_snoc]
  clear ho hg hop hd hfr
  refine wpAnyH_all r12 (by simp) ?_
  intro i hi
  obtain rfl := List.mem_singleton.1 hi
  obtain ⟨o12, ho, hg, hop, hd⟩ := isOpG_out q12
  refine wpOp_valG ho (wantedN hg) (run_appX _ _ hop (typ_ofX t12 ho) _ (by (repeat (first | rw [eval_same _ _ (by (try simp only [put_size]); omega)] | rw [eval_far _ _ (by decide)]))) (by (repeat (first | rw [eval_same _ _ (by (try simp only [put_size]); omega)] | rw [eval_far _ _ (by decide)]))) HAP) ?_
  have hS12 := HSA
  refine ⟨hS12, ?_⟩
  rw [hd]
  clear ho hg hop hd
  rw [← LR_snoc]
  refine wpAnyH_all r14 (by simp) ?_
  intro i hi
  obtain rfl := List.mem_singleton.1 hi
  obtain ⟨o14, ho, hg, hop, hd⟩ := isOpG_out q14
  refine wpOp_skipG ho (wantedN hg) (run_entS _ _ hop _ (by (repeat (first | rw [eval_same _ _ (by (try simp only [put_size]); omega)] | rw [eval_far _ _ (by decide)]))) (by (repeat (first | rw [eval_same _ _ (by (try simp only [put_size]); omega)] | rw [eval_far _ _ (by decide)]))) (by (repeat (first | rw [eval_same _ _ (by (try simp only [put_size]); omega)] | rw [eval_far _ _ (by decide)]))) HST) ?_
  have hS14 := HSS
  refine ⟨hS14, ?_⟩
  rw [hd, put_none]
  clear ho hg hop hd
  rw [← LR_snoc]
  exact wpAnyH_done rend (F _ rfl) _
end Go.Proofs.Ytekjoccbbamehaa
