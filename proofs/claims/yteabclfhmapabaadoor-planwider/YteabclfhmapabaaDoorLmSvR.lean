import Derived.Test.YteabclfhmapabaaDoorA10
import Derived.Test.YteabclfhmapabaaDoorRgGen
namespace Go.Proofs.YteabclfhmapabaaDoor
open Go.RowKit Go.Maps
set_option linter.unusedVariables false
set_option linter.unusedSimpArgs false

theorem run_loadS (ev : Operand → Value) (o : Oper) {ty : TypeId} {x : Operand} (hop : o.op = .load ty x) (w : World) {a : Addr} {v : Value} (hx : ev x = .pointer (some a)) (hl : (loadVar ty a).run Tryd.prog w = .ok v w) : (execOp ev o).run Tryd.prog w = .ok (.value v) w := by
  simp only [execOp, hop, hx]
  simp [Instr.loadAt, Instr.sureAddr, hl, Result.andThen]
theorem run_nilC (ev : Operand → Value) (o : Oper) {x : Operand} (hop : o.op = .nilCheck x) (w : World) {a : Addr} (hx : ev x = .pointer (some a)) : (execOp ev o).run Tryd.prog w = .ok (.value (.pointer (some a))) w := by
  simp only [execOp, hop, hx]
  go_simp
theorem run_fldE0 (ev : Operand → Value) (o : Oper) {x : Operand} (hop : o.op = .fieldAddr 155 x 0) (w : World) {be : Nat} (hx : ev x = .pointer (some ⟨be, 0, none⟩)) : (execOp ev o).run Tryd.prog w = .ok (.value (.pointer (some ⟨be, 0, none⟩))) w := by
  simp only [execOp, hop, hx]
  go_simp
theorem run_fldE1 (ev : Operand → Value) (o : Oper) {x : Operand} (hop : o.op = .fieldAddr 155 x 1) (w : World) {be : Nat} (hx : ev x = .pointer (some ⟨be, 0, none⟩)) : (execOp ev o).run Tryd.prog w = .ok (.value (.pointer (some ⟨be, 2, none⟩))) w := by
  simp only [execOp, hop, hx]
  go_simp
theorem run_fldS0 (ev : Operand → Value) (o : Oper) {x : Operand} (hop : o.op = .fieldAddr 152 x 0) (w : World) {be : Nat} (hx : ev x = .pointer (some ⟨be, 0, none⟩)) : (execOp ev o).run Tryd.prog w = .ok (.value (.pointer (some ⟨be, 0, none⟩))) w := by
  simp only [execOp, hop, hx]
  go_simp
theorem run_fldS2 (ev : Operand → Value) (o : Oper) {x : Operand} (hop : o.op = .fieldAddr 152 x 0) (w : World) {be : Nat} (hx : ev x = .pointer (some ⟨be, 2, none⟩)) : (execOp ev o).run Tryd.prog w = .ok (.value (.pointer (some ⟨be, 2, none⟩))) w := by
  simp only [execOp, hop, hx]
  go_simp
def svregA_takes : List (List Nat × Nat) := [([], 0), ([0], 1), ([0, 1], 2), ([0, 1, 2], 3), ([0, 1, 2, 3], 4), ([0, 1, 2, 3, 4], 5), ([0, 1, 2, 3, 4, 5], 6), ([0, 1, 2, 3, 4, 5, 6], 7), ([0, 1, 2, 3, 4, 5, 6, 7], 8), ([0, 1, 2, 3, 4, 5, 6, 7, 8, 9], 10), ([0, 1, 2, 3, 4, 5, 6, 7, 8, 9, 10], 11), ([0, 1, 2, 3, 4, 5, 6, 7, 8, 9, 10, 11], 12), ([0, 1, 2, 3, 4, 5, 6, 7, 8, 9, 10, 11, 12], 13), ([0, 1, 2, 3, 4, 5, 6, 7, 8, 9, 10, 11, 12, 13], 14), ([0, 1, 2, 3, 4, 5, 6, 7, 8, 9, 10, 11, 12, 13, 14], 15), ([0, 1, 2, 3, 4, 5, 6, 7, 8, 9, 10, 11, 12, 13, 14, 15], 16), ([0, 1, 2, 3, 4, 5, 6, 7, 8, 9, 10, 11, 12, 13, 14, 15, 16], 17), ([0, 1, 2, 3, 4, 5, 6, 7, 8, 9, 10, 11, 12, 13, 14, 15, 16, 17], 18), ([0, 1, 2, 3, 4, 5, 6, 7, 8, 9, 10, 11, 12, 13, 14, 15, 16, 17, 18], 19), ([0, 1, 2, 3, 4, 5, 6, 7, 8, 9, 10, 11, 12, 13, 14, 15, 16, 17, 18, 19], 20), ([0, 1, 2, 3, 4, 5, 6, 7, 8, 9, 10, 11, 12, 13, 14, 15, 16, 17, 18, 19, 20], 21), ([0, 1, 2, 3, 4, 5, 6, 7, 8, 9, 10, 11, 12, 13, 14, 15, 16, 17, 18, 19, 20, 21], 22)]
set_option maxHeartbeats 3200000 in
theorem svregA {ops : Array Oper} {Q : Exit → Act → World → Prop} {S : World → Prop} {a0 : Act} {w5 : World} {bf be : Nat} {L0 L1 : Value} {ty1 ty2 : Array TypeId} {P : World → Prop}
    (q0 : isOpG ops 0 none (.move (.tmp 0)) (some 5))
    (q1 : isOpG ops 1 none (.move (.tmp 1)) (some 6))
    (q2 : isOpG ops 2 none (.nilCheck (.tmp 6)) (some 7))
    (q3 : isOpG ops 3 none (.fieldAddr 155 (.tmp 7) 0) (some 8))
    (q4 : isOpG ops 4 none (.fieldAddr 152 (.tmp 8) 0) (some 9))
    (q5 : isOpG ops 5 none (.load 143 (.tmp 9)) (some 10))
    (q6 : isOpG ops 6 none (.move (.tmp 1)) (some 11))
    (q7 : isOpG ops 7 none (.nilCheck (.tmp 11)) (some 12))
    (q8 : isOpG ops 8 none (.fieldAddr 155 (.tmp 12) 1) (some 13))
    (q9 : isOpG ops 9 none (.call { callee := .value (.func 76), args := #[.tmp 5, .tmp 10, .tmp 13], argTypes := ty1 }) (some 14))
    (q10 : isOpG ops 10 none (.move (.tmp 14)) (some 15))
    (q11 : isOpG ops 11 (some (10, false)) (.move (.tmp 0)) (some 16))
    (q12 : isOpG ops 12 (some (10, false)) (.move (.tmp 1)) (some 17))
    (q13 : isOpG ops 13 (some (10, false)) (.nilCheck (.tmp 17)) (some 18))
    (q14 : isOpG ops 14 (some (10, false)) (.fieldAddr 155 (.tmp 18) 1) (some 19))
    (q15 : isOpG ops 15 (some (10, false)) (.fieldAddr 152 (.tmp 19) 0) (some 20))
    (q16 : isOpG ops 16 (some (10, false)) (.load 143 (.tmp 20)) (some 21))
    (q17 : isOpG ops 17 (some (10, false)) (.move (.tmp 1)) (some 22))
    (q18 : isOpG ops 18 (some (10, false)) (.nilCheck (.tmp 22)) (some 23))
    (q19 : isOpG ops 19 (some (10, false)) (.fieldAddr 155 (.tmp 23) 0) (some 24))
    (q20 : isOpG ops 20 (some (10, false)) (.call { callee := .value (.func 76), args := #[.tmp 16, .tmp 21, .tmp 24], argTypes := ty2 }) (some 25))
    (q21 : isOpG ops 21 none (.pick (.tmp 15) (.const (.bool true)) (.tmp 25)) (some 26))
    (q22 : isOpG ops 22 none (.assign (.tmp 26)) (some 4))
    (hs : Region.noSelect ops = true) (hq : (svregA_takes.all fun p => Region.free .any ops (LR 23 p.1) p.2 && (Region.ready .any ops (LR 23 p.1)).contains p.2) = true)
    (r9 : Region.ready .any ops (LR 23 [0, 1, 2, 3, 4, 5, 6, 7, 8]) = [9])
    (rend : Region.ready .any ops (LR 23 [0, 1, 2, 3, 4, 5, 6, 7, 8, 9, 10, 11, 12, 13, 14, 15, 16, 17, 18, 19, 20, 21, 22]) = [])
    (hQ : ∀ (d : Option Tmp) (v : Value) c a w, Q (.panic c) (a.put d v) w → Q (.panic c) a w)
    (hsz : 26 < a0.tmps.size) (e0 : a0.eval (.tmp 0) = .pointer (some ⟨bf, 0, none⟩)) (e1 : a0.eval (.tmp 1) = .pointer (some ⟨be, 0, none⟩))
    (hS0 : S w5.drew)
    (keep : ∀ u u', S u → S u' → S u') (LL0 : ∀ u, S u → (loadVar 143 ⟨be, 0, none⟩).run Tryd.prog u = .ok L0 u) (LL1 : ∀ u, S u → (loadVar 143 ⟨be, 2, none⟩).run Tryd.prog u = .ok L1 u)
    (C1 : Calls Tryd.prog 76 #[.pointer (some ⟨bf, 0, none⟩), L0, .pointer (some ⟨be, 2, none⟩)] w5.drew fun e w' => e = .returned (.bool true) ∧ S w' ∧ P w')
    (F : ∀ (wc : World), P wc → Q .normal (((((((((((((((((((((((a0.put (some 5) (.pointer (some ⟨bf, 0, none⟩))).put (some 6) (.pointer (some ⟨be, 0, none⟩))).put (some 7) (.pointer (some ⟨be, 0, none⟩))).put (some 8) (.pointer (some ⟨be, 0, none⟩))).put (some 9) (.pointer (some ⟨be, 0, none⟩))).put (some 10) (L0)).put (some 11) (.pointer (some ⟨be, 0, none⟩))).put (some 12) (.pointer (some ⟨be, 0, none⟩))).put (some 13) (.pointer (some ⟨be, 2, none⟩))).put (some 14) (.bool true)).put (some 15) (.bool true)).put (some 16) (undef)).put (some 17) (undef)).put (some 18) (undef)).put (some 19) (undef)).put (some 20) (undef)).put (some 21) (undef)).put (some 22) (undef)).put (some 23) (undef)).put (some 24) (undef)).put (some 25) (undef)).put (some 26) (.bool true)).put (some 4) (.bool true)) wc) :
    wpAnyH Tryd.prog .any ops Q S 23 (LR 23 []) a0 w5.drew := by
  have hall : ∀ p ∈ svregA_takes, Region.free .any ops (LR 23 p.1) p.2 = true ∧ (Region.ready .any ops (LR 23 p.1)).contains p.2 = true := by
    intro p hp
    have := List.all_eq_true.1 hq p hp
    simpa using this
  unfold svregA_takes at hall
  obtain ⟨og10, hog10, _, _, dog10⟩ := isOpG_out q10
  obtain ⟨o0, ho, hg, hop, hd⟩ := isOpG_out q0
  have hfr := hall ([], 0) (by simp)
  refine wpAnyH_take (listed := LR 23 []) (v := .pointer (some ⟨bf, 0, none⟩)) ho hs hfr.1 hfr.2 (hQ _ _) (Or.inl ⟨(wantedN hg), fun w' hS => run_move _ _ hop w' (by (repeat rw [eval_far _ _ (by decide)]); exact e0)⟩) hS0 ?_
  rw [hd, ← LR_snoc]
  clear ho hg hop hd hfr
  obtain ⟨o1, ho, hg, hop, hd⟩ := isOpG_out q1
  have hfr := hall ([0], 1) (by simp)
  refine wpAnyH_take (listed := LR 23 [0]) (v := .pointer (some ⟨be, 0, none⟩)) ho hs hfr.1 hfr.2 (hQ _ _) (Or.inl ⟨(wantedN hg), fun w' hS => run_move _ _ hop w' (by (repeat rw [eval_far _ _ (by decide)]); exact e1)⟩) hS0 ?_
  rw [hd, ← LR_snoc]
  clear ho hg hop hd hfr
  obtain ⟨o2, ho, hg, hop, hd⟩ := isOpG_out q2
  have hfr := hall ([0, 1], 2) (by simp)
  refine wpAnyH_take (listed := LR 23 [0, 1]) (v := .pointer (some ⟨be, 0, none⟩)) ho hs hfr.1 hfr.2 (hQ _ _) (Or.inl ⟨(wantedN hg), fun w' hS => run_nilC _ _ hop w' (by (repeat (first | rw [eval_same _ _ (by (try simp only [put_size]); omega)] | rw [eval_far _ _ (by decide)])))⟩) hS0 ?_
  rw [hd, ← LR_snoc]
  clear ho hg hop hd hfr
  obtain ⟨o3, ho, hg, hop, hd⟩ := isOpG_out q3
  have hfr := hall ([0, 1, 2], 3) (by simp)
  refine wpAnyH_take (listed := LR 23 [0, 1, 2]) (v := .pointer (some ⟨be, 0, none⟩)) ho hs hfr.1 hfr.2 (hQ _ _) (Or.inl ⟨(wantedN hg), fun w' hS => run_fldE0 _ _ hop w' (by (repeat (first | rw [eval_same _ _ (by (try simp only [put_size]); omega)] | rw [eval_far _ _ (by decide)])))⟩) hS0 ?_
  rw [hd, ← LR_snoc]
  clear ho hg hop hd hfr
  obtain ⟨o4, ho, hg, hop, hd⟩ := isOpG_out q4
  have hfr := hall ([0, 1, 2, 3], 4) (by simp)
  refine wpAnyH_take (listed := LR 23 [0, 1, 2, 3]) (v := .pointer (some ⟨be, 0, none⟩)) ho hs hfr.1 hfr.2 (hQ _ _) (Or.inl ⟨(wantedN hg), fun w' hS => run_fldS0 _ _ hop w' (by (repeat (first | rw [eval_same _ _ (by (try simp only [put_size]); omega)] | rw [eval_far _ _ (by decide)])))⟩) hS0 ?_
  rw [hd, ← LR_snoc]
  clear ho hg hop hd hfr
  obtain ⟨o5, ho, hg, hop, hd⟩ := isOpG_out q5
  have hfr := hall ([0, 1, 2, 3, 4], 5) (by simp)
  refine wpAnyH_take (listed := LR 23 [0, 1, 2, 3, 4]) (v := L0) ho hs hfr.1 hfr.2 (hQ _ _) (Or.inl ⟨(wantedN hg), fun w' hS => run_loadS _ _ hop w' (by (repeat (first | rw [eval_same _ _ (by (try simp only [put_size]); omega)] | rw [eval_far _ _ (by decide)]))) (LL0 _ hS)⟩) hS0 ?_
  rw [hd, ← LR_snoc]
  clear ho hg hop hd hfr
  obtain ⟨o6, ho, hg, hop, hd⟩ := isOpG_out q6
  have hfr := hall ([0, 1, 2, 3, 4, 5], 6) (by simp)
  refine wpAnyH_take (listed := LR 23 [0, 1, 2, 3, 4, 5]) (v := .pointer (some ⟨be, 0, none⟩)) ho hs hfr.1 hfr.2 (hQ _ _) (Or.inl ⟨(wantedN hg), fun w' hS => run_move _ _ hop w' (by (repeat rw [eval_far _ _ (by decide)]); exact e1)⟩) hS0 ?_
  rw [hd, ← LR_snoc]
  clear ho hg hop hd hfr
  obtain ⟨o7, ho, hg, hop, hd⟩ := isOpG_out q7
  have hfr := hall ([0, 1, 2, 3, 4, 5, 6], 7) (by simp)
  refine wpAnyH_take (listed := LR 23 [0, 1, 2, 3, 4, 5, 6]) (v := .pointer (some ⟨be, 0, none⟩)) ho hs hfr.1 hfr.2 (hQ _ _) (Or.inl ⟨(wantedN hg), fun w' hS => run_nilC _ _ hop w' (by (repeat (first | rw [eval_same _ _ (by (try simp only [put_size]); omega)] | rw [eval_far _ _ (by decide)])))⟩) hS0 ?_
  rw [hd, ← LR_snoc]
  clear ho hg hop hd hfr
  obtain ⟨o8, ho, hg, hop, hd⟩ := isOpG_out q8
  have hfr := hall ([0, 1, 2, 3, 4, 5, 6, 7], 8) (by simp)
  refine wpAnyH_take (listed := LR 23 [0, 1, 2, 3, 4, 5, 6, 7]) (v := .pointer (some ⟨be, 2, none⟩)) ho hs hfr.1 hfr.2 (hQ _ _) (Or.inl ⟨(wantedN hg), fun w' hS => run_fldE1 _ _ hop w' (by (repeat (first | rw [eval_same _ _ (by (try simp only [put_size]); omega)] | rw [eval_far _ _ (by decide)])))⟩) hS0 ?_
  rw [hd, ← LR_snoc]
  clear ho hg hop hd hfr
  refine wpAnyH_all r9 (by simp) ?_
  intro i hi
  obtain rfl := List.mem_singleton.1 hi
  obtain ⟨o9, ho, hg, hop, hd⟩ := isOpG_out q9
  have x9_0 : ((((((((((a0.put (some 5) (.pointer (some ⟨bf, 0, none⟩))).put (some 6) (.pointer (some ⟨be, 0, none⟩))).put (some 7) (.pointer (some ⟨be, 0, none⟩))).put (some 8) (.pointer (some ⟨be, 0, none⟩))).put (some 9) (.pointer (some ⟨be, 0, none⟩))).put (some 10) (L0)).put (some 11) (.pointer (some ⟨be, 0, none⟩))).put (some 12) (.pointer (some ⟨be, 0, none⟩))).put (some 13) (.pointer (some ⟨be, 2, none⟩)))).eval (.tmp 5) = .pointer (some ⟨bf, 0, none⟩) := (by (repeat (first | rw [eval_same _ _ (by (try simp only [put_size]); omega)] | rw [eval_far _ _ (by decide)])))
  have x9_1 : ((((((((((a0.put (some 5) (.pointer (some ⟨bf, 0, none⟩))).put (some 6) (.pointer (some ⟨be, 0, none⟩))).put (some 7) (.pointer (some ⟨be, 0, none⟩))).put (some 8) (.pointer (some ⟨be, 0, none⟩))).put (some 9) (.pointer (some ⟨be, 0, none⟩))).put (some 10) (L0)).put (some 11) (.pointer (some ⟨be, 0, none⟩))).put (some 12) (.pointer (some ⟨be, 0, none⟩))).put (some 13) (.pointer (some ⟨be, 2, none⟩)))).eval (.tmp 10) = L0 := (by (repeat (first | rw [eval_same _ _ (by (try simp only [put_size]); omega)] | rw [eval_far _ _ (by decide)])))
  have x9_2 : ((((((((((a0.put (some 5) (.pointer (some ⟨bf, 0, none⟩))).put (some 6) (.pointer (some ⟨be, 0, none⟩))).put (some 7) (.pointer (some ⟨be, 0, none⟩))).put (some 8) (.pointer (some ⟨be, 0, none⟩))).put (some 9) (.pointer (some ⟨be, 0, none⟩))).put (some 10) (L0)).put (some 11) (.pointer (some ⟨be, 0, none⟩))).put (some 12) (.pointer (some ⟨be, 0, none⟩))).put (some 13) (.pointer (some ⟨be, 2, none⟩)))).eval (.tmp 13) = .pointer (some ⟨be, 2, none⟩) := (by (repeat (first | rw [eval_same _ _ (by (try simp only [put_size]); omega)] | rw [eval_far _ _ (by decide)])))
  refine wpOp_callG ho (wantedN hg) (run_callV 76 Tryd.func76 (by kernel_rfl) (by kernel_rfl) #[.tmp 5, .tmp 10, .tmp 13] _ hop #[.pointer (some ⟨bf, 0, none⟩), L0, .pointer (some ⟨be, 2, none⟩)] (by simp only [List.map_toArray, List.map_cons, List.map_nil, x9_0, x9_1, x9_2])) ?_
  refine (C1).mono ?_
  rintro e u1 ⟨rfl, hS1, hP⟩
  have hS9 := keep _ _ hS0 hS1
  refine ⟨_, rfl, hS9, ?_⟩
  rw [hd]
  clear ho hg hop hd
  rw [← LR_snoc]
  obtain ⟨o10, ho, hg, hop, hd⟩ := isOpG_out q10
  have hfr := hall ([0, 1, 2, 3, 4, 5, 6, 7, 8, 9], 10) (by simp)
  refine wpAnyH_take (listed := LR 23 [0, 1, 2, 3, 4, 5, 6, 7, 8, 9]) (v := .bool true) ho hs hfr.1 hfr.2 (hQ _ _) (Or.inl ⟨(wantedN hg), fun w' hS => run_move _ _ hop w' (by (repeat (first | rw [eval_same _ _ (by (try simp only [put_size]); omega)] | rw [eval_far _ _ (by decide)])))⟩) hS9 ?_
  rw [hd, ← LR_snoc]
  clear ho hg hop hd hfr
  obtain ⟨o11, ho, hg, hop, hd⟩ := isOpG_out q11
  have hfr := hall ([0, 1, 2, 3, 4, 5, 6, 7, 8, 9, 10], 11) (by simp)
  refine wpAnyH_take (listed := LR 23 [0, 1, 2, 3, 4, 5, 6, 7, 8, 9, 10]) (v := undef) ho hs hfr.1 hfr.2 (hQ _ _) (Or.inr ⟨((wantedB hog10 dog10 hg (by (repeat (first | rw [tmps_same _ _ (by (try simp only [put_size]); omega)] | rw [tmps_far _ _ (by decide)])))).trans (by decide)), rfl⟩) hS9 ?_
  rw [hd, ← LR_snoc]
  clear ho hg hop hd hfr
  obtain ⟨o12, ho, hg, hop, hd⟩ := isOpG_out q12
  have hfr := hall ([0, 1, 2, 3, 4, 5, 6, 7, 8, 9, 10, 11], 12) (by simp)
  refine wpAnyH_take (listed := LR 23 [0, 1, 2, 3, 4, 5, 6, 7, 8, 9, 10, 11]) (v := undef) ho hs hfr.1 hfr.2 (hQ _ _) (Or.inr ⟨((wantedB hog10 dog10 hg (by (repeat (first | rw [tmps_same _ _ (by (try simp only [put_size]); omega)] | rw [tmps_far _ _ (by decide)])))).trans (by decide)), rfl⟩) hS9 ?_
  rw [hd, ← LR_snoc]
  clear ho hg hop hd hfr
  obtain ⟨o13, ho, hg, hop, hd⟩ := isOpG_out q13
  have hfr := hall ([0, 1, 2, 3, 4, 5, 6, 7, 8, 9, 10, 11, 12], 13) (by simp)
  refine wpAnyH_take (listed := LR 23 [0, 1, 2, 3, 4, 5, 6, 7, 8, 9, 10, 11, 12]) (v := undef) ho hs hfr.1 hfr.2 (hQ _ _) (Or.inr ⟨((wantedB hog10 dog10 hg (by (repeat (first | rw [tmps_same _ _ (by (try simp only [put_size]); omega)] | rw [tmps_far _ _ (by decide)])))).trans (by decide)), rfl⟩) hS9 ?_
  rw [hd, ← LR_snoc]
  clear ho hg hop hd hfr
  obtain ⟨o14, ho, hg, hop, hd⟩ := isOpG_out q14
  have hfr := hall ([0, 1, 2, 3, 4, 5, 6, 7, 8, 9, 10, 11, 12, 13], 14) (by simp)
  refine wpAnyH_take (listed := LR 23 [0, 1, 2, 3, 4, 5, 6, 7, 8, 9, 10, 11, 12, 13]) (v := undef) ho hs hfr.1 hfr.2 (hQ _ _) (Or.inr ⟨((wantedB hog10 dog10 hg (by (repeat (first | rw [tmps_same _ _ (by (try simp only [put_size]); omega)] | rw [tmps_far _ _ (by decide)])))).trans (by decide)), rfl⟩) hS9 ?_
  rw [hd, ← LR_snoc]
  clear ho hg hop hd hfr
  obtain ⟨o15, ho, hg, hop, hd⟩ := isOpG_out q15
  have hfr := hall ([0, 1, 2, 3, 4, 5, 6, 7, 8, 9, 10, 11, 12, 13, 14], 15) (by simp)
  refine wpAnyH_take (listed := LR 23 [0, 1, 2, 3, 4, 5, 6, 7, 8, 9, 10, 11, 12, 13, 14]) (v := undef) ho hs hfr.1 hfr.2 (hQ _ _) (Or.inr ⟨((wantedB hog10 dog10 hg (by (repeat (first | rw [tmps_same _ _ (by (try simp only [put_size]); omega)] | rw [tmps_far _ _ (by decide)])))).trans (by decide)), rfl⟩) hS9 ?_
  rw [hd, ← LR_snoc]
  clear ho hg hop hd hfr
  obtain ⟨o16, ho, hg, hop, hd⟩ := isOpG_out q16
  have hfr := hall ([0, 1, 2, 3, 4, 5, 6, 7, 8, 9, 10, 11, 12, 13, 14, 15], 16) (by simp)
  refine wpAnyH_take (listed := LR 23 [0, 1, 2, 3, 4, 5, 6, 7, 8, 9, 10, 11, 12, 13, 14, 15]) (v := undef) ho hs hfr.1 hfr.2 (hQ _ _) (Or.inr ⟨((wantedB hog10 dog10 hg (by (repeat (first | rw [tmps_same _ _ (by (try simp only [put_size]); omega)] | rw [tmps_far _ _ (by decide)])))).trans (by decide)), rfl⟩) hS9 ?_
  rw [hd, ← LR_snoc]
  clear ho hg hop hd hfr
  obtain ⟨o17, ho, hg, hop, hd⟩ := isOpG_out q17
  have hfr := hall ([0, 1, 2, 3, 4, 5, 6, 7, 8, 9, 10, 11, 12, 13, 14, 15, 16], 17) (by simp)
  refine wpAnyH_take (listed := LR 23 [0, 1, 2, 3, 4, 5, 6, 7, 8, 9, 10, 11, 12, 13, 14, 15, 16]) (v := undef) ho hs hfr.1 hfr.2 (hQ _ _) (Or.inr ⟨((wantedB hog10 dog10 hg (by (repeat (first | rw [tmps_same _ _ (by (try simp only [put_size]); omega)] | rw [tmps_far _ _ (by decide)])))).trans (by decide)), rfl⟩) hS9 ?_
  rw [hd, ← LR_snoc]
  clear ho hg hop hd hfr
  obtain ⟨o18, ho, hg, hop, hd⟩ := isOpG_out q18
  have hfr := hall ([0, 1, 2, 3, 4, 5, 6, 7, 8, 9, 10, 11, 12, 13, 14, 15, 16, 17], 18) (by simp)
  refine wpAnyH_take (listed := LR 23 [0, 1, 2, 3, 4, 5, 6, 7, 8, 9, 10, 11, 12, 13, 14, 15, 16, 17]) (v := undef) ho hs hfr.1 hfr.2 (hQ _ _) (Or.inr ⟨((wantedB hog10 dog10 hg (by (repeat (first | rw [tmps_same _ _ (by (try simp only [put_size]); omega)] | rw [tmps_far _ _ (by decide)])))).trans (by decide)), rfl⟩) hS9 ?_
  rw [hd, ← LR_snoc]
  clear ho hg hop hd hfr
  obtain ⟨o19, ho, hg, hop, hd⟩ := isOpG_out q19
  have hfr := hall ([0, 1, 2, 3, 4, 5, 6, 7, 8, 9, 10, 11, 12, 13, 14, 15, 16, 17, 18], 19) (by simp)
  refine wpAnyH_take (listed := LR 23 [0, 1, 2, 3, 4, 5, 6, 7, 8, 9, 10, 11, 12, 13, 14, 15, 16, 17, 18]) (v := undef) ho hs hfr.1 hfr.2 (hQ _ _) (Or.inr ⟨((wantedB hog10 dog10 hg (by (repeat (first | rw [tmps_same _ _ (by (try simp only [put_size]); omega)] | rw [tmps_far _ _ (by decide)])))).trans (by decide)), rfl⟩) hS9 ?_
  rw [hd, ← LR_snoc]
  clear ho hg hop hd hfr
  obtain ⟨o20, ho, hg, hop, hd⟩ := isOpG_out q20
  have hfr := hall ([0, 1, 2, 3, 4, 5, 6, 7, 8, 9, 10, 11, 12, 13, 14, 15, 16, 17, 18, 19], 20) (by simp)
  refine wpAnyH_take (listed := LR 23 [0, 1, 2, 3, 4, 5, 6, 7, 8, 9, 10, 11, 12, 13, 14, 15, 16, 17, 18, 19]) (v := undef) ho hs hfr.1 hfr.2 (hQ _ _) (Or.inr ⟨((wantedB hog10 dog10 hg (by (repeat (first | rw [tmps_same _ _ (by (try simp only [put_size]); omega)] | rw [tmps_far _ _ (by decide)])))).trans (by decide)), rfl⟩) hS9 ?_
  rw [hd, ← LR_snoc]
  clear ho hg hop hd hfr
  obtain ⟨o21, ho, hg, hop, hd⟩ := isOpG_out q21
  have hfr := hall ([0, 1, 2, 3, 4, 5, 6, 7, 8, 9, 10, 11, 12, 13, 14, 15, 16, 17, 18, 19, 20], 21) (by simp)
  refine wpAnyH_take (listed := LR 23 [0, 1, 2, 3, 4, 5, 6, 7, 8, 9, 10, 11, 12, 13, 14, 15, 16, 17, 18, 19, 20]) (v := .bool true) ho hs hfr.1 hfr.2 (hQ _ _) (Or.inl ⟨(wantedN hg), fun w' hS => run_pickT _ _ hop w' (by (repeat (first | rw [eval_same _ _ (by (try simp only [put_size]); omega)] | rw [eval_far _ _ (by decide)]))) rfl⟩) hS9 ?_
  rw [hd, ← LR_snoc]
  clear ho hg hop hd hfr
  obtain ⟨o22, ho, hg, hop, hd⟩ := isOpG_out q22
  have hfr := hall ([0, 1, 2, 3, 4, 5, 6, 7, 8, 9, 10, 11, 12, 13, 14, 15, 16, 17, 18, 19, 20, 21], 22) (by simp)
  refine wpAnyH_take (listed := LR 23 [0, 1, 2, 3, 4, 5, 6, 7, 8, 9, 10, 11, 12, 13, 14, 15, 16, 17, 18, 19, 20, 21]) (v := .bool true) ho hs hfr.1 hfr.2 (hQ _ _) (Or.inl ⟨(wantedN hg), fun w' hS => run_assignV _ _ hop w' (by (repeat (first | rw [eval_same _ _ (by (try simp only [put_size]); omega)] | rw [eval_far _ _ (by decide)])))⟩) hS9 ?_
  rw [hd, ← LR_snoc]
  clear ho hg hop hd hfr
  exact wpAnyH_done rend (F _ hP) _
def svregB_takes : List (List Nat × Nat) := [([], 0), ([0], 1), ([0, 1], 2), ([0, 1, 2], 3), ([0, 1, 2, 3], 4), ([0, 1, 2, 3, 4], 5), ([0, 1, 2, 3, 4, 5], 6), ([0, 1, 2, 3, 4, 5, 6], 7), ([0, 1, 2, 3, 4, 5, 6, 7], 8), ([0, 1, 2, 3, 4, 5, 6, 7, 8, 9], 10), ([0, 1, 2, 3, 4, 5, 6, 7, 8, 9, 10], 11), ([0, 1, 2, 3, 4, 5, 6, 7, 8, 9, 10, 11], 12), ([0, 1, 2, 3, 4, 5, 6, 7, 8, 9, 10, 11, 12], 13), ([0, 1, 2, 3, 4, 5, 6, 7, 8, 9, 10, 11, 12, 13], 14), ([0, 1, 2, 3, 4, 5, 6, 7, 8, 9, 10, 11, 12, 13, 14], 15), ([0, 1, 2, 3, 4, 5, 6, 7, 8, 9, 10, 11, 12, 13, 14, 15], 16), ([0, 1, 2, 3, 4, 5, 6, 7, 8, 9, 10, 11, 12, 13, 14, 15, 16], 17), ([0, 1, 2, 3, 4, 5, 6, 7, 8, 9, 10, 11, 12, 13, 14, 15, 16, 17], 18), ([0, 1, 2, 3, 4, 5, 6, 7, 8, 9, 10, 11, 12, 13, 14, 15, 16, 17, 18], 19), ([0, 1, 2, 3, 4, 5, 6, 7, 8, 9, 10, 11, 12, 13, 14, 15, 16, 17, 18, 19, 20], 21), ([0, 1, 2, 3, 4, 5, 6, 7, 8, 9, 10, 11, 12, 13, 14, 15, 16, 17, 18, 19, 20, 21], 22)]
set_option maxHeartbeats 3200000 in
theorem svregB {ops : Array Oper} {Q : Exit → Act → World → Prop} {S : World → Prop} {a0 : Act} {w5 : World} {bf be : Nat} {L0 L1 : Value} {ty1 ty2 : Array TypeId} {P : World → Prop} {b2 : Bool}
    (q0 : isOpG ops 0 none (.move (.tmp 0)) (some 5))
    (q1 : isOpG ops 1 none (.move (.tmp 1)) (some 6))
    (q2 : isOpG ops 2 none (.nilCheck (.tmp 6)) (some 7))
    (q3 : isOpG ops 3 none (.fieldAddr 155 (.tmp 7) 0) (some 8))
    (q4 : isOpG ops 4 none (.fieldAddr 152 (.tmp 8) 0) (some 9))
    (q5 : isOpG ops 5 none (.load 143 (.tmp 9)) (some 10))
    (q6 : isOpG ops 6 none (.move (.tmp 1)) (some 11))
    (q7 : isOpG ops 7 none (.nilCheck (.tmp 11)) (some 12))
    (q8 : isOpG ops 8 none (.fieldAddr 155 (.tmp 12) 1) (some 13))
    (q9 : isOpG ops 9 none (.call { callee := .value (.func 76), args := #[.tmp 5, .tmp 10, .tmp 13], argTypes := ty1 }) (some 14))
    (q10 : isOpG ops 10 none (.move (.tmp 14)) (some 15))
    (q11 : isOpG ops 11 (some (10, false)) (.move (.tmp 0)) (some 16))
    (q12 : isOpG ops 12 (some (10, false)) (.move (.tmp 1)) (some 17))
    (q13 : isOpG ops 13 (some (10, false)) (.nilCheck (.tmp 17)) (some 18))
    (q14 : isOpG ops 14 (some (10, false)) (.fieldAddr 155 (.tmp 18) 1) (some 19))
    (q15 : isOpG ops 15 (some (10, false)) (.fieldAddr 152 (.tmp 19) 0) (some 20))
    (q16 : isOpG ops 16 (some (10, false)) (.load 143 (.tmp 20)) (some 21))
    (q17 : isOpG ops 17 (some (10, false)) (.move (.tmp 1)) (some 22))
    (q18 : isOpG ops 18 (some (10, false)) (.nilCheck (.tmp 22)) (some 23))
    (q19 : isOpG ops 19 (some (10, false)) (.fieldAddr 155 (.tmp 23) 0) (some 24))
    (q20 : isOpG ops 20 (some (10, false)) (.call { callee := .value (.func 76), args := #[.tmp 16, .tmp 21, .tmp 24], argTypes := ty2 }) (some 25))
    (q21 : isOpG ops 21 none (.pick (.tmp 15) (.const (.bool true)) (.tmp 25)) (some 26))
    (q22 : isOpG ops 22 none (.assign (.tmp 26)) (some 4))
    (hs : Region.noSelect ops = true) (hq : (svregB_takes.all fun p => Region.free .any ops (LR 23 p.1) p.2 && (Region.ready .any ops (LR 23 p.1)).contains p.2) = true)
    (r9 : Region.ready .any ops (LR 23 [0, 1, 2, 3, 4, 5, 6, 7, 8]) = [9])
    (r20 : Region.ready .any ops (LR 23 [0, 1, 2, 3, 4, 5, 6, 7, 8, 9, 10, 11, 12, 13, 14, 15, 16, 17, 18, 19]) = [20])
    (rend : Region.ready .any ops (LR 23 [0, 1, 2, 3, 4, 5, 6, 7, 8, 9, 10, 11, 12, 13, 14, 15, 16, 17, 18, 19, 20, 21, 22]) = [])
    (hQ : ∀ (d : Option Tmp) (v : Value) c a w, Q (.panic c) (a.put d v) w → Q (.panic c) a w)
    (hsz : 26 < a0.tmps.size) (e0 : a0.eval (.tmp 0) = .pointer (some ⟨bf, 0, none⟩)) (e1 : a0.eval (.tmp 1) = .pointer (some ⟨be, 0, none⟩))
    (hS0 : S w5.drew)
    (keep : ∀ u u', S u → S u' → S u') (LL0 : ∀ u, S u → (loadVar 143 ⟨be, 0, none⟩).run Tryd.prog u = .ok L0 u) (LL1 : ∀ u, S u → (loadVar 143 ⟨be, 2, none⟩).run Tryd.prog u = .ok L1 u)
    (C1 : Calls Tryd.prog 76 #[.pointer (some ⟨bf, 0, none⟩), L0, .pointer (some ⟨be, 2, none⟩)] w5.drew fun e w' => e = .returned (.bool false) ∧ S w' ∧ Calls Tryd.prog 76 #[.pointer (some ⟨bf, 0, none⟩), L1, .pointer (some ⟨be, 0, none⟩)] w' fun e w'' => e = .returned (.bool b2) ∧ S w'' ∧ P w'')
    (F : ∀ (wc : World), P wc → Q .normal (((((((((((((((((((((((a0.put (some 5) (.pointer (some ⟨bf, 0, none⟩))).put (some 6) (.pointer (some ⟨be, 0, none⟩))).put (some 7) (.pointer (some ⟨be, 0, none⟩))).put (some 8) (.pointer (some ⟨be, 0, none⟩))).put (some 9) (.pointer (some ⟨be, 0, none⟩))).put (some 10) (L0)).put (some 11) (.pointer (some ⟨be, 0, none⟩))).put (some 12) (.pointer (some ⟨be, 0, none⟩))).put (some 13) (.pointer (some ⟨be, 2, none⟩))).put (some 14) (.bool false)).put (some 15) (.bool false)).put (some 16) (.pointer (some ⟨bf, 0, none⟩))).put (some 17) (.pointer (some ⟨be, 0, none⟩))).put (some 18) (.pointer (some ⟨be, 0, none⟩))).put (some 19) (.pointer (some ⟨be, 2, none⟩))).put (some 20) (.pointer (some ⟨be, 2, none⟩))).put (some 21) (L1)).put (some 22) (.pointer (some ⟨be, 0, none⟩))).put (some 23) (.pointer (some ⟨be, 0, none⟩))).put (some 24) (.pointer (some ⟨be, 0, none⟩))).put (some 25) (.bool b2)).put (some 26) (.bool b2)).put (some 4) (.bool b2)) wc) :
    wpAnyH Tryd.prog .any ops Q S 23 (LR 23 []) a0 w5.drew := by
  have hall : ∀ p ∈ svregB_takes, Region.free .any ops (LR 23 p.1) p.2 = true ∧ (Region.ready .any ops (LR 23 p.1)).contains p.2 = true := by
    intro p hp
    have := List.all_eq_true.1 hq p hp
    simpa using this
  unfold svregB_takes at hall
  obtain ⟨og10, hog10, _, _, dog10⟩ := isOpG_out q10
  obtain ⟨o0, ho, hg, hop, hd⟩ := isOpG_out q0
  have hfr := hall ([], 0) (by simp)
  refine wpAnyH_take (listed := LR 23 []) (v := .pointer (some ⟨bf, 0, none⟩)) ho hs hfr.1 hfr.2 (hQ _ _) (Or.inl ⟨(wantedN hg), fun w' hS => run_move _ _ hop w' (by (repeat rw [eval_far _ _ (by decide)]); exact e0)⟩) hS0 ?_
  rw [hd, ← LR_snoc]
  clear ho hg hop hd hfr
  obtain ⟨o1, ho, hg, hop, hd⟩ := isOpG_out q1
  have hfr := hall ([0], 1) (by simp)
  refine wpAnyH_take (listed := LR 23 [0]) (v := .pointer (some ⟨be, 0, none⟩)) ho hs hfr.1 hfr.2 (hQ _ _) (Or.inl ⟨(wantedN hg), fun w' hS => run_move _ _ hop w' (by (repeat rw [eval_far _ _ (by decide)]); exact e1)⟩) hS0 ?_
  rw [hd, ← LR_snoc]
  clear ho hg hop hd hfr
  obtain ⟨o2, ho, hg, hop, hd⟩ := isOpG_out q2
  have hfr := hall ([0, 1], 2) (by simp)
  refine wpAnyH_take (listed := LR 23 [0, 1]) (v := .pointer (some ⟨be, 0, none⟩)) ho hs hfr.1 hfr.2 (hQ _ _) (Or.inl ⟨(wantedN hg), fun w' hS => run_nilC _ _ hop w' (by (repeat (first | rw [eval_same _ _ (by (try simp only [put_size]); omega)] | rw [eval_far _ _ (by decide)])))⟩) hS0 ?_
  rw [hd, ← LR_snoc]
  clear ho hg hop hd hfr
  obtain ⟨o3, ho, hg, hop, hd⟩ := isOpG_out q3
  have hfr := hall ([0, 1, 2], 3) (by simp)
  refine wpAnyH_take (listed := LR 23 [0, 1, 2]) (v := .pointer (some ⟨be, 0, none⟩)) ho hs hfr.1 hfr.2 (hQ _ _) (Or.inl ⟨(wantedN hg), fun w' hS => run_fldE0 _ _ hop w' (by (repeat (first | rw [eval_same _ _ (by (try simp only [put_size]); omega)] | rw [eval_far _ _ (by decide)])))⟩) hS0 ?_
  rw [hd, ← LR_snoc]
  clear ho hg hop hd hfr
  obtain ⟨o4, ho, hg, hop, hd⟩ := isOpG_out q4
  have hfr := hall ([0, 1, 2, 3], 4) (by simp)
  refine wpAnyH_take (listed := LR 23 [0, 1, 2, 3]) (v := .pointer (some ⟨be, 0, none⟩)) ho hs hfr.1 hfr.2 (hQ _ _) (Or.inl ⟨(wantedN hg), fun w' hS => run_fldS0 _ _ hop w' (by (repeat (first | rw [eval_same _ _ (by (try simp only [put_size]); omega)] | rw [eval_far _ _ (by decide)])))⟩) hS0 ?_
  rw [hd, ← LR_snoc]
  clear ho hg hop hd hfr
  obtain ⟨o5, ho, hg, hop, hd⟩ := isOpG_out q5
  have hfr := hall ([0, 1, 2, 3, 4], 5) (by simp)
  refine wpAnyH_take (listed := LR 23 [0, 1, 2, 3, 4]) (v := L0) ho hs hfr.1 hfr.2 (hQ _ _) (Or.inl ⟨(wantedN hg), fun w' hS => run_loadS _ _ hop w' (by (repeat (first | rw [eval_same _ _ (by (try simp only [put_size]); omega)] | rw [eval_far _ _ (by decide)]))) (LL0 _ hS)⟩) hS0 ?_
  rw [hd, ← LR_snoc]
  clear ho hg hop hd hfr
  obtain ⟨o6, ho, hg, hop, hd⟩ := isOpG_out q6
  have hfr := hall ([0, 1, 2, 3, 4, 5], 6) (by simp)
  refine wpAnyH_take (listed := LR 23 [0, 1, 2, 3, 4, 5]) (v := .pointer (some ⟨be, 0, none⟩)) ho hs hfr.1 hfr.2 (hQ _ _) (Or.inl ⟨(wantedN hg), fun w' hS => run_move _ _ hop w' (by (repeat rw [eval_far _ _ (by decide)]); exact e1)⟩) hS0 ?_
  rw [hd, ← LR_snoc]
  clear ho hg hop hd hfr
  obtain ⟨o7, ho, hg, hop, hd⟩ := isOpG_out q7
  have hfr := hall ([0, 1, 2, 3, 4, 5, 6], 7) (by simp)
  refine wpAnyH_take (listed := LR 23 [0, 1, 2, 3, 4, 5, 6]) (v := .pointer (some ⟨be, 0, none⟩)) ho hs hfr.1 hfr.2 (hQ _ _) (Or.inl ⟨(wantedN hg), fun w' hS => run_nilC _ _ hop w' (by (repeat (first | rw [eval_same _ _ (by (try simp only [put_size]); omega)] | rw [eval_far _ _ (by decide)])))⟩) hS0 ?_
  rw [hd, ← LR_snoc]
  clear ho hg hop hd hfr
  obtain ⟨o8, ho, hg, hop, hd⟩ := isOpG_out q8
  have hfr := hall ([0, 1, 2, 3, 4, 5, 6, 7], 8) (by simp)
  refine wpAnyH_take (listed := LR 23 [0, 1, 2, 3, 4, 5, 6, 7]) (v := .pointer (some ⟨be, 2, none⟩)) ho hs hfr.1 hfr.2 (hQ _ _) (Or.inl ⟨(wantedN hg), fun w' hS => run_fldE1 _ _ hop w' (by (repeat (first | rw [eval_same _ _ (by (try simp only [put_size]); omega)] | rw [eval_far _ _ (by decide)])))⟩) hS0 ?_
  rw [hd, ← LR_snoc]
  clear ho hg hop hd hfr
  refine wpAnyH_all r9 (by simp) ?_
  intro i hi
  obtain rfl := List.mem_singleton.1 hi
  obtain ⟨o9, ho, hg, hop, hd⟩ := isOpG_out q9
  have x9_0 : ((((((((((a0.put (some 5) (.pointer (some ⟨bf, 0, none⟩))).put (some 6) (.pointer (some ⟨be, 0, none⟩))).put (some 7) (.pointer (some ⟨be, 0, none⟩))).put (some 8) (.pointer (some ⟨be, 0, none⟩))).put (some 9) (.pointer (some ⟨be, 0, none⟩))).put (some 10) (L0)).put (some 11) (.pointer (some ⟨be, 0, none⟩))).put (some 12) (.pointer (some ⟨be, 0, none⟩))).put (some 13) (.pointer (some ⟨be, 2, none⟩)))).eval (.tmp 5) = .pointer (some ⟨bf, 0, none⟩) := (by (repeat (first | rw [eval_same _ _ (by (try simp only [put_size]); omega)] | rw [eval_far _ _ (by decide)])))
  have x9_1 : ((((((((((a0.put (some 5) (.pointer (some ⟨bf, 0, none⟩))).put (some 6) (.pointer (some ⟨be, 0, none⟩))).put (some 7) (.pointer (some ⟨be, 0, none⟩))).put (some 8) (.pointer (some ⟨be, 0, none⟩))).put (some 9) (.pointer (some ⟨be, 0, none⟩))).put (some 10) (L0)).put (some 11) (.pointer (some ⟨be, 0, none⟩))).put (some 12) (.pointer (some ⟨be, 0, none⟩))).put (some 13) (.pointer (some ⟨be, 2, none⟩)))).eval (.tmp 10) = L0 := (by (repeat (first | rw [eval_same _ _ (by (try simp only [put_size]); omega)] | rw [eval_far _ _ (by decide)])))
  have x9_2 : ((((((((((a0.put (some 5) (.pointer (some ⟨bf, 0, none⟩))).put (some 6) (.pointer (some ⟨be, 0, none⟩))).put (some 7) (.pointer (some ⟨be, 0, none⟩))).put (some 8) (.pointer (some ⟨be, 0, none⟩))).put (some 9) (.pointer (some ⟨be, 0, none⟩))).put (some 10) (L0)).put (some 11) (.pointer (some ⟨be, 0, none⟩))).put (some 12) (.pointer (some ⟨be, 0, none⟩))).put (some 13) (.pointer (some ⟨be, 2, none⟩)))).eval (.tmp 13) = .pointer (some ⟨be, 2, none⟩) := (by (repeat (first | rw [eval_same _ _ (by (try simp only [put_size]); omega)] | rw [eval_far _ _ (by decide)])))
  refine wpOp_callG ho (wantedN hg) (run_callV 76 Tryd.func76 (by kernel_rfl) (by kernel_rfl) #[.tmp 5, .tmp 10, .tmp 13] _ hop #[.pointer (some ⟨bf, 0, none⟩), L0, .pointer (some ⟨be, 2, none⟩)] (by simp only [List.map_toArray, List.map_cons, List.map_nil, x9_0, x9_1, x9_2])) ?_
  refine (C1).mono ?_
  rintro e u1 ⟨rfl, hS1, C2⟩
  have hS9 := keep _ _ hS0 hS1
  refine ⟨_, rfl, hS9, ?_⟩
  rw [hd]
  clear ho hg hop hd
  rw [← LR_snoc]
  obtain ⟨o10, ho, hg, hop, hd⟩ := isOpG_out q10
  have hfr := hall ([0, 1, 2, 3, 4, 5, 6, 7, 8, 9], 10) (by simp)
  refine wpAnyH_take (listed := LR 23 [0, 1, 2, 3, 4, 5, 6, 7, 8, 9]) (v := .bool false) ho hs hfr.1 hfr.2 (hQ _ _) (Or.inl ⟨(wantedN hg), fun w' hS => run_move _ _ hop w' (by (repeat (first | rw [eval_same _ _ (by (try simp only [put_size]); omega)] | rw [eval_far _ _ (by decide)])))⟩) hS9 ?_
  rw [hd, ← LR_snoc]
  clear ho hg hop hd hfr
  obtain ⟨o11, ho, hg, hop, hd⟩ := isOpG_out q11
  have hfr := hall ([0, 1, 2, 3, 4, 5, 6, 7, 8, 9, 10], 11) (by simp)
  refine wpAnyH_take (listed := LR 23 [0, 1, 2, 3, 4, 5, 6, 7, 8, 9, 10]) (v := .pointer (some ⟨bf, 0, none⟩)) ho hs hfr.1 hfr.2 (hQ _ _) (Or.inl ⟨((wantedB hog10 dog10 hg (by (repeat (first | rw [tmps_same _ _ (by (try simp only [put_size]); omega)] | rw [tmps_far _ _ (by decide)])))).trans (by decide)), fun w' hS => run_move _ _ hop w' (by (repeat rw [eval_far _ _ (by decide)]); exact e0)⟩) hS9 ?_
  rw [hd, ← LR_snoc]
  clear ho hg hop hd hfr
  obtain ⟨o12, ho, hg, hop, hd⟩ := isOpG_out q12
  have hfr := hall ([0, 1, 2, 3, 4, 5, 6, 7, 8, 9, 10, 11], 12) (by simp)
  refine wpAnyH_take (listed := LR 23 [0, 1, 2, 3, 4, 5, 6, 7, 8, 9, 10, 11]) (v := .pointer (some ⟨be, 0, none⟩)) ho hs hfr.1 hfr.2 (hQ _ _) (Or.inl ⟨((wantedB hog10 dog10 hg (by (repeat (first | rw [tmps_same _ _ (by (try simp only [put_size]); omega)] | rw [tmps_far _ _ (by decide)])))).trans (by decide)), fun w' hS => run_move _ _ hop w' (by (repeat rw [eval_far _ _ (by decide)]); exact e1)⟩) hS9 ?_
  rw [hd, ← LR_snoc]
  clear ho hg hop hd hfr
  obtain ⟨o13, ho, hg, hop, hd⟩ := isOpG_out q13
  have hfr := hall ([0, 1, 2, 3, 4, 5, 6, 7, 8, 9, 10, 11, 12], 13) (by simp)
  refine wpAnyH_take (listed := LR 23 [0, 1, 2, 3, 4, 5, 6, 7, 8, 9, 10, 11, 12]) (v := .pointer (some ⟨be, 0, none⟩)) ho hs hfr.1 hfr.2 (hQ _ _) (Or.inl ⟨((wantedB hog10 dog10 hg (by (repeat (first | rw [tmps_same _ _ (by (try simp only [put_size]); omega)] | rw [tmps_far _ _ (by decide)])))).trans (by decide)), fun w' hS => run_nilC _ _ hop w' (by (repeat (first | rw [eval_same _ _ (by (try simp only [put_size]); omega)] | rw [eval_far _ _ (by decide)])))⟩) hS9 ?_
  rw [hd, ← LR_snoc]
  clear ho hg hop hd hfr
  obtain ⟨o14, ho, hg, hop, hd⟩ := isOpG_out q14
  have hfr := hall ([0, 1, 2, 3, 4, 5, 6, 7, 8, 9, 10, 11, 12, 13], 14) (by simp)
  refine wpAnyH_take (listed := LR 23 [0, 1, 2, 3, 4, 5, 6, 7, 8, 9, 10, 11, 12, 13]) (v := .pointer (some ⟨be, 2, none⟩)) ho hs hfr.1 hfr.2 (hQ _ _) (Or.inl ⟨((wantedB hog10 dog10 hg (by (repeat (first | rw [tmps_same _ _ (by (try simp only [put_size]); omega)] | rw [tmps_far _ _ (by decide)])))).trans (by decide)), fun w' hS => run_fldE1 _ _ hop w' (by (repeat (first | rw [eval_same _ _ (by (try simp only [put_size]); omega)] | rw [eval_far _ _ (by decide)])))⟩) hS9 ?_
  rw [hd, ← LR_snoc]
  clear ho hg hop hd hfr
  obtain ⟨o15, ho, hg, hop, hd⟩ := isOpG_out q15
  have hfr := hall ([0, 1, 2, 3, 4, 5, 6, 7, 8, 9, 10, 11, 12, 13, 14], 15) (by simp)
  refine wpAnyH_take (listed := LR 23 [0, 1, 2, 3, 4, 5, 6, 7, 8, 9, 10, 11, 12, 13, 14]) (v := .pointer (some ⟨be, 2, none⟩)) ho hs hfr.1 hfr.2 (hQ _ _) (Or.inl ⟨((wantedB hog10 dog10 hg (by (repeat (first | rw [tmps_same _ _ (by (try simp only [put_size]); omega)] | rw [tmps_far _ _ (by decide)])))).trans (by decide)), fun w' hS => run_fldS2 _ _ hop w' (by (repeat (first | rw [eval_same _ _ (by (try simp only [put_size]); omega)] | rw [eval_far _ _ (by decide)])))⟩) hS9 ?_
  rw [hd, ← LR_snoc]
  clear ho hg hop hd hfr
  obtain ⟨o16, ho, hg, hop, hd⟩ := isOpG_out q16
  have hfr := hall ([0, 1, 2, 3, 4, 5, 6, 7, 8, 9, 10, 11, 12, 13, 14, 15], 16) (by simp)
  refine wpAnyH_take (listed := LR 23 [0, 1, 2, 3, 4, 5, 6, 7, 8, 9, 10, 11, 12, 13, 14, 15]) (v := L1) ho hs hfr.1 hfr.2 (hQ _ _) (Or.inl ⟨((wantedB hog10 dog10 hg (by (repeat (first | rw [tmps_same _ _ (by (try simp only [put_size]); omega)] | rw [tmps_far _ _ (by decide)])))).trans (by decide)), fun w' hS => run_loadS _ _ hop w' (by (repeat (first | rw [eval_same _ _ (by (try simp only [put_size]); omega)] | rw [eval_far _ _ (by decide)]))) (LL1 _ hS)⟩) hS9 ?_
  rw [hd, ← LR_snoc]
  clear ho hg hop hd hfr
  obtain ⟨o17, ho, hg, hop, hd⟩ := isOpG_out q17
  have hfr := hall ([0, 1, 2, 3, 4, 5, 6, 7, 8, 9, 10, 11, 12, 13, 14, 15, 16], 17) (by simp)
  refine wpAnyH_take (listed := LR 23 [0, 1, 2, 3, 4, 5, 6, 7, 8, 9, 10, 11, 12, 13, 14, 15, 16]) (v := .pointer (some ⟨be, 0, none⟩)) ho hs hfr.1 hfr.2 (hQ _ _) (Or.inl ⟨((wantedB hog10 dog10 hg (by (repeat (first | rw [tmps_same _ _ (by (try simp only [put_size]); omega)] | rw [tmps_far _ _ (by decide)])))).trans (by decide)), fun w' hS => run_move _ _ hop w' (by (repeat rw [eval_far _ _ (by decide)]); exact e1)⟩) hS9 ?_
  rw [hd, ← LR_snoc]
  clear ho hg hop hd hfr
  obtain ⟨o18, ho, hg, hop, hd⟩ := isOpG_out q18
  have hfr := hall ([0, 1, 2, 3, 4, 5, 6, 7, 8, 9, 10, 11, 12, 13, 14, 15, 16, 17], 18) (by simp)
  refine wpAnyH_take (listed := LR 23 [0, 1, 2, 3, 4, 5, 6, 7, 8, 9, 10, 11, 12, 13, 14, 15, 16, 17]) (v := .pointer (some ⟨be, 0, none⟩)) ho hs hfr.1 hfr.2 (hQ _ _) (Or.inl ⟨((wantedB hog10 dog10 hg (by (repeat (first | rw [tmps_same _ _ (by (try simp only [put_size]); omega)] | rw [tmps_far _ _ (by decide)])))).trans (by decide)), fun w' hS => run_nilC _ _ hop w' (by (repeat (first | rw [eval_same _ _ (by (try simp only [put_size]); omega)] | rw [eval_far _ _ (by decide)])))⟩) hS9 ?_
  rw [hd, ← LR_snoc]
  clear ho hg hop hd hfr
  obtain ⟨o19, ho, hg, hop, hd⟩ := isOpG_out q19
  have hfr := hall ([0, 1, 2, 3, 4, 5, 6, 7, 8, 9, 10, 11, 12, 13, 14, 15, 16, 17, 18], 19) (by simp)
  refine wpAnyH_take (listed := LR 23 [0, 1, 2, 3, 4, 5, 6, 7, 8, 9, 10, 11, 12, 13, 14, 15, 16, 17, 18]) (v := .pointer (some ⟨be, 0, none⟩)) ho hs hfr.1 hfr.2 (hQ _ _) (Or.inl ⟨((wantedB hog10 dog10 hg (by (repeat (first | rw [tmps_same _ _ (by (try simp only [put_size]); omega)] | rw [tmps_far _ _ (by decide)])))).trans (by decide)), fun w' hS => run_fldE0 _ _ hop w' (by (repeat (first | rw [eval_same _ _ (by (try simp only [put_size]); omega)] | rw [eval_far _ _ (by decide)])))⟩) hS9 ?_
  rw [hd, ← LR_snoc]
  clear ho hg hop hd hfr
  refine wpAnyH_all r20 (by simp) ?_
  intro i hi
  obtain rfl := List.mem_singleton.1 hi
  obtain ⟨o20, ho, hg, hop, hd⟩ := isOpG_out q20
  have x20_0 : (((((((((((((((((((((a0.put (some 5) (.pointer (some ⟨bf, 0, none⟩))).put (some 6) (.pointer (some ⟨be, 0, none⟩))).put (some 7) (.pointer (some ⟨be, 0, none⟩))).put (some 8) (.pointer (some ⟨be, 0, none⟩))).put (some 9) (.pointer (some ⟨be, 0, none⟩))).put (some 10) (L0)).put (some 11) (.pointer (some ⟨be, 0, none⟩))).put (some 12) (.pointer (some ⟨be, 0, none⟩))).put (some 13) (.pointer (some ⟨be, 2, none⟩))).put (some 14) (.bool false)).put (some 15) (.bool false)).put (some 16) (.pointer (some ⟨bf, 0, none⟩))).put (some 17) (.pointer (some ⟨be, 0, none⟩))).put (some 18) (.pointer (some ⟨be, 0, none⟩))).put (some 19) (.pointer (some ⟨be, 2, none⟩))).put (some 20) (.pointer (some ⟨be, 2, none⟩))).put (some 21) (L1)).put (some 22) (.pointer (some ⟨be, 0, none⟩))).put (some 23) (.pointer (some ⟨be, 0, none⟩))).put (some 24) (.pointer (some ⟨be, 0, none⟩)))).eval (.tmp 16) = .pointer (some ⟨bf, 0, none⟩) := (by (repeat (first | rw [eval_same _ _ (by (try simp only [put_size]); omega)] | rw [eval_far _ _ (by decide)])))
  have x20_1 : (((((((((((((((((((((a0.put (some 5) (.pointer (some ⟨bf, 0, none⟩))).put (some 6) (.pointer (some ⟨be, 0, none⟩))).put (some 7) (.pointer (some ⟨be, 0, none⟩))).put (some 8) (.pointer (some ⟨be, 0, none⟩))).put (some 9) (.pointer (some ⟨be, 0, none⟩))).put (some 10) (L0)).put (some 11) (.pointer (some ⟨be, 0, none⟩))).put (some 12) (.pointer (some ⟨be, 0, none⟩))).put (some 13) (.pointer (some ⟨be, 2, none⟩))).put (some 14) (.bool false)).put (some 15) (.bool false)).put (some 16) (.pointer (some ⟨bf, 0, none⟩))).put (some 17) (.pointer (some ⟨be, 0, none⟩))).put (some 18) (.pointer (some ⟨be, 0, none⟩))).put (some 19) (.pointer (some ⟨be, 2, none⟩))).put (some 20) (.pointer (some ⟨be, 2, none⟩))).put (some 21) (L1)).put (some 22) (.pointer (some ⟨be, 0, none⟩))).put (some 23) (.pointer (some ⟨be, 0, none⟩))).put (some 24) (.pointer (some ⟨be, 0, none⟩)))).eval (.tmp 21) = L1 := (by (repeat (first | rw [eval_same _ _ (by (try simp only [put_size]); omega)] | rw [eval_far _ _ (by decide)])))
  have x20_2 : (((((((((((((((((((((a0.put (some 5) (.pointer (some ⟨bf, 0, none⟩))).put (some 6) (.pointer (some ⟨be, 0, none⟩))).put (some 7) (.pointer (some ⟨be, 0, none⟩))).put (some 8) (.pointer (some ⟨be, 0, none⟩))).put (some 9) (.pointer (some ⟨be, 0, none⟩))).put (some 10) (L0)).put (some 11) (.pointer (some ⟨be, 0, none⟩))).put (some 12) (.pointer (some ⟨be, 0, none⟩))).put (some 13) (.pointer (some ⟨be, 2, none⟩))).put (some 14) (.bool false)).put (some 15) (.bool false)).put (some 16) (.pointer (some ⟨bf, 0, none⟩))).put (some 17) (.pointer (some ⟨be, 0, none⟩))).put (some 18) (.pointer (some ⟨be, 0, none⟩))).put (some 19) (.pointer (some ⟨be, 2, none⟩))).put (some 20) (.pointer (some ⟨be, 2, none⟩))).put (some 21) (L1)).put (some 22) (.pointer (some ⟨be, 0, none⟩))).put (some 23) (.pointer (some ⟨be, 0, none⟩))).put (some 24) (.pointer (some ⟨be, 0, none⟩)))).eval (.tmp 24) = .pointer (some ⟨be, 0, none⟩) := (by (repeat (first | rw [eval_same _ _ (by (try simp only [put_size]); omega)] | rw [eval_far _ _ (by decide)])))
  refine wpOp_callG ho ((wantedB hog10 dog10 hg (by (repeat (first | rw [tmps_same _ _ (by (try simp only [put_size]); omega)] | rw [tmps_far _ _ (by decide)])))).trans (by decide)) (run_callV 76 Tryd.func76 (by kernel_rfl) (by kernel_rfl) #[.tmp 16, .tmp 21, .tmp 24] _ hop #[.pointer (some ⟨bf, 0, none⟩), L1, .pointer (some ⟨be, 0, none⟩)] (by simp only [List.map_toArray, List.map_cons, List.map_nil, x20_0, x20_1, x20_2])) ?_
  refine (C2).mono ?_
  rintro e u2 ⟨rfl, hS2, hP⟩
  have hS20 := keep _ _ hS9 hS2
  refine ⟨_, rfl, hS20, ?_⟩
  rw [hd]
  clear ho hg hop hd
  rw [← LR_snoc]
  obtain ⟨o21, ho, hg, hop, hd⟩ := isOpG_out q21
  have hfr := hall ([0, 1, 2, 3, 4, 5, 6, 7, 8, 9, 10, 11, 12, 13, 14, 15, 16, 17, 18, 19, 20], 21) (by simp)
  refine wpAnyH_take (listed := LR 23 [0, 1, 2, 3, 4, 5, 6, 7, 8, 9, 10, 11, 12, 13, 14, 15, 16, 17, 18, 19, 20]) (v := .bool b2) ho hs hfr.1 hfr.2 (hQ _ _) (Or.inl ⟨(wantedN hg), fun w' hS => run_pickF _ _ hop w' (by (repeat (first | rw [eval_same _ _ (by (try simp only [put_size]); omega)] | rw [eval_far _ _ (by decide)]))) (by (repeat (first | rw [eval_same _ _ (by (try simp only [put_size]); omega)] | rw [eval_far _ _ (by decide)])))⟩) hS20 ?_
  rw [hd, ← LR_snoc]
  clear ho hg hop hd hfr
  obtain ⟨o22, ho, hg, hop, hd⟩ := isOpG_out q22
  have hfr := hall ([0, 1, 2, 3, 4, 5, 6, 7, 8, 9, 10, 11, 12, 13, 14, 15, 16, 17, 18, 19, 20, 21], 22) (by simp)
  refine wpAnyH_take (listed := LR 23 [0, 1, 2, 3, 4, 5, 6, 7, 8, 9, 10, 11, 12, 13, 14, 15, 16, 17, 18, 19, 20, 21]) (v := .bool b2) ho hs hfr.1 hfr.2 (hQ _ _) (Or.inl ⟨(wantedN hg), fun w' hS => run_assignV _ _ hop w' (by (repeat (first | rw [eval_same _ _ (by (try simp only [put_size]); omega)] | rw [eval_far _ _ (by decide)])))⟩) hS20 ?_
  rw [hd, ← LR_snoc]
  clear ho hg hop hd hfr
  exact wpAnyH_done rend (F _ hP) _
end Go.Proofs.YteabclfhmapabaaDoor
