import Derived.Test.YtlnhnpfgmiffpaaRpReg8
namespace Go.Proofs.Ytlnhnpfgmiffpaa
open Go.RowKit Go.Maps
set_option linter.unusedVariables false
set_option linter.unusedSimpArgs false

theorem run_fB0 (ev : Operand → Value) (o : Oper) {x : Operand} (hop : o.op = .fieldAddr 29 x 0) (w : World) {t oo : Nat} (hx : ev x = .pointer (some ⟨t, oo, none⟩)) : (execOp ev o).run Try.prog w = .ok (.value (.pointer (some ⟨t, oo, none⟩))) w := by
  simp only [execOp, hop, hx]
  go_simp
theorem run_fB1 (ev : Operand → Value) (o : Oper) {x : Operand} (hop : o.op = .fieldAddr 29 x 1) (w : World) {t oo : Nat} (hx : ev x = .pointer (some ⟨t, oo, none⟩)) : (execOp ev o).run Try.prog w = .ok (.value (.pointer (some ⟨t, oo + 1, none⟩))) w := by
  simp only [execOp, hop, hx]
  go_simp
theorem run_fO4 (ev : Operand → Value) (o : Oper) {x : Operand} (hop : o.op = .fieldAddr 42 x 4) (w : World) {t : Nat} (hx : ev x = .pointer (some ⟨t, 0, none⟩)) : (execOp ev o).run Try.prog w = .ok (.value (.pointer (some ⟨t, 4, none⟩))) w := by
  simp only [execOp, hop, hx]
  go_simp
theorem run_fO5 (ev : Operand → Value) (o : Oper) {x : Operand} (hop : o.op = .fieldAddr 42 x 5) (w : World) {t : Nat} (hx : ev x = .pointer (some ⟨t, 0, none⟩)) : (execOp ev o).run Try.prog w = .ok (.value (.pointer (some ⟨t, 5, none⟩))) w := by
  simp only [execOp, hop, hx]
  go_simp
theorem bool_ff (w : World) : (binOp .eql 4 (.bool false) (.bool false)).run Try.prog w = .ok (.bool true) w := by kernel_rfl
theorem bool_tt (w : World) : (binOp .eql 4 (.bool true) (.bool true)).run Try.prog w = .ok (.bool true) w := by kernel_rfl
theorem bool_hv (hv : Bool) (w : World) : (binOp .eql 4 (.bool hv) (.bool hv)).run Try.prog w = .ok (.bool true) w := by
  cases hv
  · exact bool_ff w
  · exact bool_tt w
def regD2_takes : List (List Nat × Nat) := [([], 0), ([0], 1), ([0, 1], 2), ([0, 1, 2], 3), ([0, 1, 2, 3], 4), ([0, 1, 2, 3, 4], 5), ([0, 1, 2, 3, 4, 5], 7), ([0, 1, 2, 3, 4, 5, 7], 8), ([0, 1, 2, 3, 4, 5, 7, 8], 9), ([0, 1, 2, 3, 4, 5, 7, 8, 9], 10), ([0, 1, 2, 3, 4, 5, 7, 8, 9, 10], 11), ([0, 1, 2, 3, 4, 5, 7, 8, 9, 10, 11], 12), ([0, 1, 2, 3, 4, 5, 7, 8, 9, 10, 11, 12, 6, 13], 14), ([0, 1, 2, 3, 4, 5, 7, 8, 9, 10, 11, 12, 6, 13, 14], 15)]
set_option maxHeartbeats 3200000 in
theorem regD2 {ops : Array Oper} {Q : Exit → Act → World → Prop} {S : World → Prop} {a0 : Act} {w5 : World} {t oo B : Nat} {p pR : Value} {hv : Bool} {r : List Int} {ts1 ts2 : Array TypeId}
    (q0 : isOpG ops 0 none (.move (.tmp 0)) (some 47))
    (q1 : isOpG ops 1 none (.nilCheck (.tmp 47)) (some 48))
    (q2 : isOpG ops 2 none (.fieldAddr 29 (.tmp 48) 0) (some 49))
    (q3 : isOpG ops 3 none (.load 24 (.tmp 49)) (some 50))
    (q4 : isOpG ops 4 none (.fieldAddr 42 (.tmp 3) 5) (some 51))
    (q5 : isOpG ops 5 none (.load 40 (.tmp 51)) (some 52))
    (q7 : isOpG ops 7 none (.move (.tmp 0)) (some 54))
    (q8 : isOpG ops 8 none (.nilCheck (.tmp 54)) (some 55))
    (q9 : isOpG ops 9 none (.fieldAddr 29 (.tmp 55) 1) (some 56))
    (q10 : isOpG ops 10 none (.load 25 (.tmp 56)) (some 57))
    (q11 : isOpG ops 11 none (.fieldAddr 42 (.tmp 3) 5) (some 58))
    (q12 : isOpG ops 12 none (.load 40 (.tmp 58)) (some 59))
    (q6 : isOpG ops 6 none (.call { callee := .value (.func 18), args := #[.tmp 50, .tmp 52], argTypes := ts1 }) (some 53))
    (q13 : isOpG ops 13 none (.call { callee := .value (.func 19), args := #[.tmp 57, .tmp 59], argTypes := ts2 }) (some 60))
    (q14 : isOpG ops 14 none (.binOp .eql 4 (.tmp 53) (.tmp 60) 4) (some 61))
    (q15 : isOpG ops 15 none (.assign (.tmp 61)) (some 4))
    (hs : Region.noSelect ops = true) (hq : (regD2_takes.all fun p => Region.free .any ops (LR 16 p.1) p.2 && (Region.ready .any ops (LR 16 p.1)).contains p.2) = true)
    (r6 : Region.ready .any ops (LR 16 [0, 1, 2, 3, 4, 5, 7, 8, 9, 10, 11, 12]) = [6])
    (r13 : Region.ready .any ops (LR 16 [0, 1, 2, 3, 4, 5, 7, 8, 9, 10, 11, 12, 6]) = [13])
    (rend : Region.ready .any ops (LR 16 [0, 1, 2, 3, 4, 5, 7, 8, 9, 10, 11, 12, 6, 13, 14, 15]) = [])
    (hQ : ∀ (d : Option Tmp) (v : Value) c a w, Q (.panic c) (a.put d v) w → Q (.panic c) a w)
    (hsz : 137 < a0.tmps.size) (e0 : a0.eval (.tmp 0) = .pointer (some ⟨t, oo, none⟩)) (e3 : a0.eval (.tmp 3) = .pointer (some ⟨B, 0, none⟩))
    (hS0 : S w5.drew)
    (keep : ∀ u u', S u → Below u.heap.size u u' → S u')
    (L1 : ∀ u, S u → (loadVar 24 ⟨t, oo, none⟩).run Try.prog u = .ok p u) (L2 : ∀ u, S u → (loadVar 25 ⟨t, oo + 1, none⟩).run Try.prog u = .ok (pR) u)
    (L3 : ∀ u, S u → (loadVar 40 ⟨B, 5, none⟩).run Try.prog u = .ok (.agg (List.map cellI r).toArray) u)
    (K1 : ∀ u, S u → Calls Try.prog 18 #[p, .agg (List.map cellI r).toArray] u fun e w' => e = .returned (.bool hv) ∧ Below u.heap.size u w')
    (K2 : ∀ u, S u → Calls Try.prog 19 #[pR, .agg (List.map cellI r).toArray] u fun e w' => e = .returned (.bool hv) ∧ Below u.heap.size u w')
    (F : ∀ (wc : World), S wc → Q .normal ((((((((((((((((a0.put (some 47) (.pointer (some ⟨t, oo, none⟩))).put (some 48) (.pointer (some ⟨t, oo, none⟩))).put (some 49) (.pointer (some ⟨t, oo, none⟩))).put (some 50) (p)).put (some 51) (.pointer (some ⟨B, 5, none⟩))).put (some 52) (.agg (List.map cellI r).toArray)).put (some 54) (.pointer (some ⟨t, oo, none⟩))).put (some 55) (.pointer (some ⟨t, oo, none⟩))).put (some 56) (.pointer (some ⟨t, oo + 1, none⟩))).put (some 57) (pR)).put (some 58) (.pointer (some ⟨B, 5, none⟩))).put (some 59) (.agg (List.map cellI r).toArray)).put (some 53) (.bool hv)).put (some 60) (.bool hv)).put (some 61) (.bool true)).put (some 4) (.bool true)) wc) :
    wpAnyH Try.prog .any ops Q S 16 (LR 16 []) a0 w5.drew := by
  have hall : ∀ p ∈ regD2_takes, Region.free .any ops (LR 16 p.1) p.2 = true ∧ (Region.ready .any ops (LR 16 p.1)).contains p.2 = true := by
    intro p hp
    have := List.all_eq_true.1 hq p hp
    simpa using this
  unfold regD2_takes at hall
  obtain ⟨o0, ho, hg, hop, hd⟩ := isOpG_out q0
  have hfr := hall ([], 0) (by simp)
  refine wpAnyH_take (listed := LR 16 []) (v := .pointer (some ⟨t, oo, none⟩)) ho hs hfr.1 hfr.2 (hQ _ _) (Or.inl ⟨(wantedN hg), fun w' hS => run_move _ _ hop w' (by (repeat rw [eval_far _ _ (by decide)]); exact e0)⟩) hS0 ?_
  rw [hd, ← LR_snoc]
  clear ho hg hop hd hfr
  obtain ⟨o1, ho, hg, hop, hd⟩ := isOpG_out q1
  have hfr := hall ([0], 1) (by simp)
  refine wpAnyH_take (listed := LR 16 [0]) (v := .pointer (some ⟨t, oo, none⟩)) ho hs hfr.1 hfr.2 (hQ _ _) (Or.inl ⟨(wantedN hg), fun w' hS => run_nilV _ _ hop w' (by (repeat (first | rw [eval_same _ _ (by (try simp only [put_size]); omega)] | rw [eval_far _ _ (by decide)])))⟩) hS0 ?_
  rw [hd, ← LR_snoc]
  clear ho hg hop hd hfr
  obtain ⟨o2, ho, hg, hop, hd⟩ := isOpG_out q2
  have hfr := hall ([0, 1], 2) (by simp)
  refine wpAnyH_take (listed := LR 16 [0, 1]) (v := .pointer (some ⟨t, oo, none⟩)) ho hs hfr.1 hfr.2 (hQ _ _) (Or.inl ⟨(wantedN hg), fun w' hS => run_fB0 _ _ hop w' (by (repeat (first | rw [eval_same _ _ (by (try simp only [put_size]); omega)] | rw [eval_far _ _ (by decide)])))⟩) hS0 ?_
  rw [hd, ← LR_snoc]
  clear ho hg hop hd hfr
  obtain ⟨o3, ho, hg, hop, hd⟩ := isOpG_out q3
  have hfr := hall ([0, 1, 2], 3) (by simp)
  refine wpAnyH_take (listed := LR 16 [0, 1, 2]) (v := p) ho hs hfr.1 hfr.2 (hQ _ _) (Or.inl ⟨(wantedN hg), fun w' hS => run_loadV _ _ hop w' (by (repeat (first | rw [eval_same _ _ (by (try simp only [put_size]); omega)] | rw [eval_far _ _ (by decide)]))) (L1 _ hS)⟩) hS0 ?_
  rw [hd, ← LR_snoc]
  clear ho hg hop hd hfr
  obtain ⟨o4, ho, hg, hop, hd⟩ := isOpG_out q4
  have hfr := hall ([0, 1, 2, 3], 4) (by simp)
  refine wpAnyH_take (listed := LR 16 [0, 1, 2, 3]) (v := .pointer (some ⟨B, 5, none⟩)) ho hs hfr.1 hfr.2 (hQ _ _) (Or.inl ⟨(wantedN hg), fun w' hS => run_fO5 _ _ hop w' (by (repeat rw [eval_far _ _ (by decide)]); exact e3)⟩) hS0 ?_
  rw [hd, ← LR_snoc]
  clear ho hg hop hd hfr
  obtain ⟨o5, ho, hg, hop, hd⟩ := isOpG_out q5
  have hfr := hall ([0, 1, 2, 3, 4], 5) (by simp)
  refine wpAnyH_take (listed := LR 16 [0, 1, 2, 3, 4]) (v := .agg (List.map cellI r).toArray) ho hs hfr.1 hfr.2 (hQ _ _) (Or.inl ⟨(wantedN hg), fun w' hS => run_loadV _ _ hop w' (by (repeat (first | rw [eval_same _ _ (by (try simp only [put_size]); omega)] | rw [eval_far _ _ (by decide)]))) (L3 _ hS)⟩) hS0 ?_
  rw [hd, ← LR_snoc]
  clear ho hg hop hd hfr
  obtain ⟨o7, ho, hg, hop, hd⟩ := isOpG_out q7
  have hfr := hall ([0, 1, 2, 3, 4, 5], 7) (by simp)
  refine wpAnyH_take (listed := LR 16 [0, 1, 2, 3, 4, 5]) (v := .pointer (some ⟨t, oo, none⟩)) ho hs hfr.1 hfr.2 (hQ _ _) (Or.inl ⟨(wantedN hg), fun w' hS => run_move _ _ hop w' (by (repeat rw [eval_far _ _ (by decide)]); exact e0)⟩) hS0 ?_
  rw [hd, ← LR_snoc]
  clear ho hg hop hd hfr
  obtain ⟨o8, ho, hg, hop, hd⟩ := isOpG_out q8
  have hfr := hall ([0, 1, 2, 3, 4, 5, 7], 8) (by simp)
  refine wpAnyH_take (listed := LR 16 [0, 1, 2, 3, 4, 5, 7]) (v := .pointer (some ⟨t, oo, none⟩)) ho hs hfr.1 hfr.2 (hQ _ _) (Or.inl ⟨(wantedN hg), fun w' hS => run_nilV _ _ hop w' (by (repeat (first | rw [eval_same _ _ (by (try simp only [put_size]); omega)] | rw [eval_far _ _ (by decide)])))⟩) hS0 ?_
  rw [hd, ← LR_snoc]
  clear ho hg hop hd hfr
  obtain ⟨o9, ho, hg, hop, hd⟩ := isOpG_out q9
  have hfr := hall ([0, 1, 2, 3, 4, 5, 7, 8], 9) (by simp)
  refine wpAnyH_take (listed := LR 16 [0, 1, 2, 3, 4, 5, 7, 8]) (v := .pointer (some ⟨t, oo + 1, none⟩)) ho hs hfr.1 hfr.2 (hQ _ _) (Or.inl ⟨(wantedN hg), fun w' hS => run_fB1 _ _ hop w' (by (repeat (first | rw [eval_same _ _ (by (try simp only [put_size]); omega)] | rw [eval_far _ _ (by decide)])))⟩) hS0 ?_
  rw [hd, ← LR_snoc]
  clear ho hg hop hd hfr
  obtain ⟨o10, ho, hg, hop, hd⟩ := isOpG_out q10
  have hfr := hall ([0, 1, 2, 3, 4, 5, 7, 8, 9], 10) (by simp)
  refine wpAnyH_take (listed := LR 16 [0, 1, 2, 3, 4, 5, 7, 8, 9]) (v := pR) ho hs hfr.1 hfr.2 (hQ _ _) (Or.inl ⟨(wantedN hg), fun w' hS => run_loadV _ _ hop w' (by (repeat (first | rw [eval_same _ _ (by (try simp only [put_size]); omega)] | rw [eval_far _ _ (by decide)]))) (L2 _ hS)⟩) hS0 ?_
  rw [hd, ← LR_snoc]
  clear ho hg hop hd hfr
  obtain ⟨o11, ho, hg, hop, hd⟩ := isOpG_out q11
  have hfr := hall ([0, 1, 2, 3, 4, 5, 7, 8, 9, 10], 11) (by simp)
  refine wpAnyH_take (listed := LR 16 [0, 1, 2, 3, 4, 5, 7, 8, 9, 10]) (v := .pointer (some ⟨B, 5, none⟩)) ho hs hfr.1 hfr.2 (hQ _ _) (Or.inl ⟨(wantedN hg), fun w' hS => run_fO5 _ _ hop w' (by (repeat rw [eval_far _ _ (by decide)]); exact e3)⟩) hS0 ?_
  rw [hd, ← LR_snoc]
  clear ho hg hop hd hfr
  obtain ⟨o12, ho, hg, hop, hd⟩ := isOpG_out q12
  have hfr := hall ([0, 1, 2, 3, 4, 5, 7, 8, 9, 10, 11], 12) (by simp)
  refine wpAnyH_take (listed := LR 16 [0, 1, 2, 3, 4, 5, 7, 8, 9, 10, 11]) (v := .agg (List.map cellI r).toArray) ho hs hfr.1 hfr.2 (hQ _ _) (Or.inl ⟨(wantedN hg), fun w' hS => run_loadV _ _ hop w' (by (repeat (first | rw [eval_same _ _ (by (try simp only [put_size]); omega)] | rw [eval_far _ _ (by decide)]))) (L3 _ hS)⟩) hS0 ?_
  rw [hd, ← LR_snoc]
  clear ho hg hop hd hfr
  refine wpAnyH_all r6 (by simp) ?_
  intro i hi
  obtain rfl := List.mem_singleton.1 hi
  obtain ⟨o6, ho, hg, hop, hd⟩ := isOpG_out q6
  have x6_0 : (((((((((((((a0.put (some 47) (.pointer (some ⟨t, oo, none⟩))).put (some 48) (.pointer (some ⟨t, oo, none⟩))).put (some 49) (.pointer (some ⟨t, oo, none⟩))).put (some 50) (p)).put (some 51) (.pointer (some ⟨B, 5, none⟩))).put (some 52) (.agg (List.map cellI r).toArray)).put (some 54) (.pointer (some ⟨t, oo, none⟩))).put (some 55) (.pointer (some ⟨t, oo, none⟩))).put (some 56) (.pointer (some ⟨t, oo + 1, none⟩))).put (some 57) (pR)).put (some 58) (.pointer (some ⟨B, 5, none⟩))).put (some 59) (.agg (List.map cellI r).toArray))).eval (.tmp 50) = p := (by (repeat (first | rw [eval_same _ _ (by (try simp only [put_size]); omega)] | rw [eval_far _ _ (by decide)])))
  have x6_1 : (((((((((((((a0.put (some 47) (.pointer (some ⟨t, oo, none⟩))).put (some 48) (.pointer (some ⟨t, oo, none⟩))).put (some 49) (.pointer (some ⟨t, oo, none⟩))).put (some 50) (p)).put (some 51) (.pointer (some ⟨B, 5, none⟩))).put (some 52) (.agg (List.map cellI r).toArray)).put (some 54) (.pointer (some ⟨t, oo, none⟩))).put (some 55) (.pointer (some ⟨t, oo, none⟩))).put (some 56) (.pointer (some ⟨t, oo + 1, none⟩))).put (some 57) (pR)).put (some 58) (.pointer (some ⟨B, 5, none⟩))).put (some 59) (.agg (List.map cellI r).toArray))).eval (.tmp 52) = .agg (List.map cellI r).toArray := (by (repeat (first | rw [eval_same _ _ (by (try simp only [put_size]); omega)] | rw [eval_far _ _ (by decide)])))
  refine wpOp_callG ho (wantedN hg) (run_callV 18 Try.func18 (by kernel_rfl) (by kernel_rfl) #[.tmp 50, .tmp 52] _ hop #[p, .agg (List.map cellI r).toArray] (by simp only [List.map_toArray, List.map_cons, List.map_nil, x6_0, x6_1])) ?_
  refine (K1 _ hS0).mono ?_
  rintro e u1 ⟨rfl, b1⟩
  have hS6 := keep _ _ hS0 b1
  refine ⟨_, rfl, hS6, ?_⟩
  rw [hd]
  clear ho hg hop hd
  rw [← LR_snoc]
  refine wpAnyH_all r13 (by simp) ?_
  intro i hi
  obtain rfl := List.mem_singleton.1 hi
  obtain ⟨o13, ho, hg, hop, hd⟩ := isOpG_out q13
  have x13_0 : ((((((((((((((a0.put (some 47) (.pointer (some ⟨t, oo, none⟩))).put (some 48) (.pointer (some ⟨t, oo, none⟩))).put (some 49) (.pointer (some ⟨t, oo, none⟩))).put (some 50) (p)).put (some 51) (.pointer (some ⟨B, 5, none⟩))).put (some 52) (.agg (List.map cellI r).toArray)).put (some 54) (.pointer (some ⟨t, oo, none⟩))).put (some 55) (.pointer (some ⟨t, oo, none⟩))).put (some 56) (.pointer (some ⟨t, oo + 1, none⟩))).put (some 57) (pR)).put (some 58) (.pointer (some ⟨B, 5, none⟩))).put (some 59) (.agg (List.map cellI r).toArray)).put (some 53) (.bool hv))).eval (.tmp 57) = pR := (by (repeat (first | rw [eval_same _ _ (by (try simp only [put_size]); omega)] | rw [eval_far _ _ (by decide)])))
  have x13_1 : ((((((((((((((a0.put (some 47) (.pointer (some ⟨t, oo, none⟩))).put (some 48) (.pointer (some ⟨t, oo, none⟩))).put (some 49) (.pointer (some ⟨t, oo, none⟩))).put (some 50) (p)).put (some 51) (.pointer (some ⟨B, 5, none⟩))).put (some 52) (.agg (List.map cellI r).toArray)).put (some 54) (.pointer (some ⟨t, oo, none⟩))).put (some 55) (.pointer (some ⟨t, oo, none⟩))).put (some 56) (.pointer (some ⟨t, oo + 1, none⟩))).put (some 57) (pR)).put (some 58) (.pointer (some ⟨B, 5, none⟩))).put (some 59) (.agg (List.map cellI r).toArray)).put (some 53) (.bool hv))).eval (.tmp 59) = .agg (List.map cellI r).toArray := (by (repeat (first | rw [eval_same _ _ (by (try simp only [put_size]); omega)] | rw [eval_far _ _ (by decide)])))
  refine wpOp_callG ho (wantedN hg) (run_callV 19 Try.func19 (by kernel_rfl) (by kernel_rfl) #[.tmp 57, .tmp 59] _ hop #[pR, .agg (List.map cellI r).toArray] (by simp only [List.map_toArray, List.map_cons, List.map_nil, x13_0, x13_1])) ?_
  refine (K2 _ hS6).mono ?_
  rintro e u2 ⟨rfl, b2⟩
  have hS13 := keep _ _ hS6 b2
  refine ⟨_, rfl, hS13, ?_⟩
  rw [hd]
  clear ho hg hop hd
  rw [← LR_snoc]
  obtain ⟨o14, ho, hg, hop, hd⟩ := isOpG_out q14
  have hfr := hall ([0, 1, 2, 3, 4, 5, 7, 8, 9, 10, 11, 12, 6, 13], 14) (by simp)
  refine wpAnyH_take (listed := LR 16 [0, 1, 2, 3, 4, 5, 7, 8, 9, 10, 11, 12, 6, 13]) (v := .bool true) ho hs hfr.1 hfr.2 (hQ _ _) (Or.inl ⟨(wantedN hg), fun w' hS => run_binV _ _ hop w' (by (repeat (first | rw [eval_same _ _ (by (try simp only [put_size]); omega)] | rw [eval_far _ _ (by decide)]))) (by (repeat (first | rw [eval_same _ _ (by (try simp only [put_size]); omega)] | rw [eval_far _ _ (by decide)]))) (by first | rfl | go_simp) (bool_hv hv w')⟩) hS13 ?_
  rw [hd, ← LR_snoc]
  clear ho hg hop hd hfr
  obtain ⟨o15, ho, hg, hop, hd⟩ := isOpG_out q15
  have hfr := hall ([0, 1, 2, 3, 4, 5, 7, 8, 9, 10, 11, 12, 6, 13, 14], 15) (by simp)
  refine wpAnyH_take (listed := LR 16 [0, 1, 2, 3, 4, 5, 7, 8, 9, 10, 11, 12, 6, 13, 14]) (v := .bool true) ho hs hfr.1 hfr.2 (hQ _ _) (Or.inl ⟨(wantedN hg), fun w' hS => run_assignV _ _ hop w' (by (repeat (first | rw [eval_same _ _ (by (try simp only [put_size]); omega)] | rw [eval_far _ _ (by decide)])))⟩) hS13 ?_
  rw [hd, ← LR_snoc]
  clear ho hg hop hd hfr
  exact wpAnyH_done rend (F _ hS13) _
def regD4_takes : List (List Nat × Nat) := [([], 0), ([0], 1), ([0, 1], 2), ([0, 1, 2], 3), ([0, 1, 2, 3], 4), ([0, 1, 2, 3, 4], 5), ([0, 1, 2, 3, 4, 5], 7), ([0, 1, 2, 3, 4, 5, 7], 8), ([0, 1, 2, 3, 4, 5, 7, 8], 9), ([0, 1, 2, 3, 4, 5, 7, 8, 9], 10), ([0, 1, 2, 3, 4, 5, 7, 8, 9, 10], 11), ([0, 1, 2, 3, 4, 5, 7, 8, 9, 10, 11], 12), ([0, 1, 2, 3, 4, 5, 7, 8, 9, 10, 11, 12, 6, 13], 14), ([0, 1, 2, 3, 4, 5, 7, 8, 9, 10, 11, 12, 6, 13, 14], 15)]
set_option maxHeartbeats 3200000 in
theorem regD4 {ops : Array Oper} {Q : Exit → Act → World → Prop} {S : World → Prop} {a0 : Act} {w5 : World} {t oo B : Nat} {p pR : Value} {r : List Int} {ts1 ts2 : Array TypeId}
    (q0 : isOpG ops 0 none (.move (.tmp 0)) (some 94))
    (q1 : isOpG ops 1 none (.nilCheck (.tmp 94)) (some 95))
    (q2 : isOpG ops 2 none (.fieldAddr 29 (.tmp 95) 0) (some 96))
    (q3 : isOpG ops 3 none (.load 24 (.tmp 96)) (some 97))
    (q4 : isOpG ops 4 none (.fieldAddr 42 (.tmp 3) 5) (some 98))
    (q5 : isOpG ops 5 none (.load 40 (.tmp 98)) (some 99))
    (q7 : isOpG ops 7 none (.move (.tmp 0)) (some 101))
    (q8 : isOpG ops 8 none (.nilCheck (.tmp 101)) (some 102))
    (q9 : isOpG ops 9 none (.fieldAddr 29 (.tmp 102) 1) (some 103))
    (q10 : isOpG ops 10 none (.load 25 (.tmp 103)) (some 104))
    (q11 : isOpG ops 11 none (.fieldAddr 42 (.tmp 3) 5) (some 105))
    (q12 : isOpG ops 12 none (.load 40 (.tmp 105)) (some 106))
    (q6 : isOpG ops 6 none (.call { callee := .value (.func 22), args := #[.tmp 97, .tmp 99], argTypes := ts1 }) (some 100))
    (q13 : isOpG ops 13 none (.call { callee := .value (.func 23), args := #[.tmp 104, .tmp 106], argTypes := ts2 }) (some 107))
    (q14 : isOpG ops 14 none (.binOp .eql 4 (.tmp 100) (.tmp 107) 4) (some 108))
    (q15 : isOpG ops 15 none (.assign (.tmp 108)) (some 4))
    (hs : Region.noSelect ops = true) (hq : (regD4_takes.all fun p => Region.free .any ops (LR 16 p.1) p.2 && (Region.ready .any ops (LR 16 p.1)).contains p.2) = true)
    (r6 : Region.ready .any ops (LR 16 [0, 1, 2, 3, 4, 5, 7, 8, 9, 10, 11, 12]) = [6])
    (r13 : Region.ready .any ops (LR 16 [0, 1, 2, 3, 4, 5, 7, 8, 9, 10, 11, 12, 6]) = [13])
    (rend : Region.ready .any ops (LR 16 [0, 1, 2, 3, 4, 5, 7, 8, 9, 10, 11, 12, 6, 13, 14, 15]) = [])
    (hQ : ∀ (d : Option Tmp) (v : Value) c a w, Q (.panic c) (a.put d v) w → Q (.panic c) a w)
    (hsz : 137 < a0.tmps.size) (e0 : a0.eval (.tmp 0) = .pointer (some ⟨t, oo, none⟩)) (e3 : a0.eval (.tmp 3) = .pointer (some ⟨B, 0, none⟩))
    (hS0 : S w5.drew)
    (keep : ∀ u u', S u → Below u.heap.size u u' → S u')
    (L1 : ∀ u, S u → (loadVar 24 ⟨t, oo, none⟩).run Try.prog u = .ok p u) (L2 : ∀ u, S u → (loadVar 25 ⟨t, oo + 1, none⟩).run Try.prog u = .ok (pR) u)
    (L3 : ∀ u, S u → (loadVar 40 ⟨B, 5, none⟩).run Try.prog u = .ok (.agg (List.map cellI r).toArray) u)
    (K1 : ∀ u, S u → Calls Try.prog 22 #[p, .agg (List.map cellI r).toArray] u fun e w' => e = .returned (.bool false) ∧ Below u.heap.size u w')
    (K2 : ∀ u, S u → Calls Try.prog 23 #[pR, .agg (List.map cellI r).toArray] u fun e w' => e = .returned (.bool false) ∧ Below u.heap.size u w')
    (F : ∀ (wc : World), S wc → Q .normal ((((((((((((((((a0.put (some 94) (.pointer (some ⟨t, oo, none⟩))).put (some 95) (.pointer (some ⟨t, oo, none⟩))).put (some 96) (.pointer (some ⟨t, oo, none⟩))).put (some 97) (p)).put (some 98) (.pointer (some ⟨B, 5, none⟩))).put (some 99) (.agg (List.map cellI r).toArray)).put (some 101) (.pointer (some ⟨t, oo, none⟩))).put (some 102) (.pointer (some ⟨t, oo, none⟩))).put (some 103) (.pointer (some ⟨t, oo + 1, none⟩))).put (some 104) (pR)).put (some 105) (.pointer (some ⟨B, 5, none⟩))).put (some 106) (.agg (List.map cellI r).toArray)).put (some 100) (.bool false)).put (some 107) (.bool false)).put (some 108) (.bool true)).put (some 4) (.bool true)) wc) :
    wpAnyH Try.prog .any ops Q S 16 (LR 16 []) a0 w5.drew := by
  have hall : ∀ p ∈ regD4_takes, Region.free .any ops (LR 16 p.1) p.2 = true ∧ (Region.ready .any ops (LR 16 p.1)).contains p.2 = true := by
    intro p hp
    have := List.all_eq_true.1 hq p hp
    simpa using this
  unfold regD4_takes at hall
  obtain ⟨o0, ho, hg, hop, hd⟩ := isOpG_out q0
  have hfr := hall ([], 0) (by simp)
  refine wpAnyH_take (listed := LR 16 []) (v := .pointer (some ⟨t, oo, none⟩)) ho hs hfr.1 hfr.2 (hQ _ _) (Or.inl ⟨(wantedN hg), fun w' hS => run_move _ _ hop w' (by (repeat rw [eval_far _ _ (by decide)]); exact e0)⟩) hS0 ?_
  rw [hd, ← LR_snoc]
  clear ho hg hop hd hfr
  obtain ⟨o1, ho, hg, hop, hd⟩ := isOpG_out q1
  have hfr := hall ([0], 1) (by simp)
  refine wpAnyH_take (listed := LR 16 [0]) (v := .pointer (some ⟨t, oo, none⟩)) ho hs hfr.1 hfr.2 (hQ _ _) (Or.inl ⟨(wantedN hg), fun w' hS => run_nilV _ _ hop w' (by (repeat (first | rw [eval_same _ _ (by (try simp only [put_size]); omega)] | rw [eval_far _ _ (by decide)])))⟩) hS0 ?_
  rw [hd, ← LR_snoc]
  clear ho hg hop hd hfr
  obtain ⟨o2, ho, hg, hop, hd⟩ := isOpG_out q2
  have hfr := hall ([0, 1], 2) (by simp)
  refine wpAnyH_take (listed := LR 16 [0, 1]) (v := .pointer (some ⟨t, oo, none⟩)) ho hs hfr.1 hfr.2 (hQ _ _) (Or.inl ⟨(wantedN hg), fun w' hS => run_fB0 _ _ hop w' (by (repeat (first | rw [eval_same _ _ (by (try simp only [put_size]); omega)] | rw [eval_far _ _ (by decide)])))⟩) hS0 ?_
  rw [hd, ← LR_snoc]
  clear ho hg hop hd hfr
  obtain ⟨o3, ho, hg, hop, hd⟩ := isOpG_out q3
  have hfr := hall ([0, 1, 2], 3) (by simp)
  refine wpAnyH_take (listed := LR 16 [0, 1, 2]) (v := p) ho hs hfr.1 hfr.2 (hQ _ _) (Or.inl ⟨(wantedN hg), fun w' hS => run_loadV _ _ hop w' (by (repeat (first | rw [eval_same _ _ (by (try simp only [put_size]); omega)] | rw [eval_far _ _ (by decide)]))) (L1 _ hS)⟩) hS0 ?_
  rw [hd, ← LR_snoc]
  clear ho hg hop hd hfr
  obtain ⟨o4, ho, hg, hop, hd⟩ := isOpG_out q4
  have hfr := hall ([0, 1, 2, 3], 4) (by simp)
  refine wpAnyH_take (listed := LR 16 [0, 1, 2, 3]) (v := .pointer (some ⟨B, 5, none⟩)) ho hs hfr.1 hfr.2 (hQ _ _) (Or.inl ⟨(wantedN hg), fun w' hS => run_fO5 _ _ hop w' (by (repeat rw [eval_far _ _ (by decide)]); exact e3)⟩) hS0 ?_
  rw [hd, ← LR_snoc]
  clear ho hg hop hd hfr
  obtain ⟨o5, ho, hg, hop, hd⟩ := isOpG_out q5
  have hfr := hall ([0, 1, 2, 3, 4], 5) (by simp)
  refine wpAnyH_take (listed := LR 16 [0, 1, 2, 3, 4]) (v := .agg (List.map cellI r).toArray) ho hs hfr.1 hfr.2 (hQ _ _) (Or.inl ⟨(wantedN hg), fun w' hS => run_loadV _ _ hop w' (by (repeat (first | rw [eval_same _ _ (by (try simp only [put_size]); omega)] | rw [eval_far _ _ (by decide)]))) (L3 _ hS)⟩) hS0 ?_
  rw [hd, ← LR_snoc]
  clear ho hg hop hd hfr
  obtain ⟨o7, ho, hg, hop, hd⟩ := isOpG_out q7
  have hfr := hall ([0, 1, 2, 3, 4, 5], 7) (by simp)
  refine wpAnyH_take (listed := LR 16 [0, 1, 2, 3, 4, 5]) (v := .pointer (some ⟨t, oo, none⟩)) ho hs hfr.1 hfr.2 (hQ _ _) (Or.inl ⟨(wantedN hg), fun w' hS => run_move _ _ hop w' (by (repeat rw [eval_far _ _ (by decide)]); exact e0)⟩) hS0 ?_
  rw [hd, ← LR_snoc]
  clear ho hg hop hd hfr
  obtain ⟨o8, ho, hg, hop, hd⟩ := isOpG_out q8
  have hfr := hall ([0, 1, 2, 3, 4, 5, 7], 8) (by simp)
  refine wpAnyH_take (listed := LR 16 [0, 1, 2, 3, 4, 5, 7]) (v := .pointer (some ⟨t, oo, none⟩)) ho hs hfr.1 hfr.2 (hQ _ _) (Or.inl ⟨(wantedN hg), fun w' hS => run_nilV _ _ hop w' (by (repeat (first | rw [eval_same _ _ (by (try simp only [put_size]); omega)] | rw [eval_far _ _ (by decide)])))⟩) hS0 ?_
  rw [hd, ← LR_snoc]
  clear ho hg hop hd hfr
  obtain ⟨o9, ho, hg, hop, hd⟩ := isOpG_out q9
  have hfr := hall ([0, 1, 2, 3, 4, 5, 7, 8], 9) (by simp)
  refine wpAnyH_take (listed := LR 16 [0, 1, 2, 3, 4, 5, 7, 8]) (v := .pointer (some ⟨t, oo + 1, none⟩)) ho hs hfr.1 hfr.2 (hQ _ _) (Or.inl ⟨(wantedN hg), fun w' hS => run_fB1 _ _ hop w' (by (repeat (first | rw [eval_same _ _ (by (try simp only [put_size]); omega)] | rw [eval_far _ _ (by decide)])))⟩) hS0 ?_
  rw [hd, ← LR_snoc]
  clear ho hg hop hd hfr
  obtain ⟨o10, ho, hg, hop, hd⟩ := isOpG_out q10
  have hfr := hall ([0, 1, 2, 3, 4, 5, 7, 8, 9], 10) (by simp)
  refine wpAnyH_take (listed := LR 16 [0, 1, 2, 3, 4, 5, 7, 8, 9]) (v := pR) ho hs hfr.1 hfr.2 (hQ _ _) (Or.inl ⟨(wantedN hg), fun w' hS => run_loadV _ _ hop w' (by (repeat (first | rw [eval_same _ _ (by (try simp only [put_size]); omega)] | rw [eval_far _ _ (by decide)]))) (L2 _ hS)⟩) hS0 ?_
  rw [hd, ← LR_snoc]
  clear ho hg hop hd hfr
  obtain ⟨o11, ho, hg, hop, hd⟩ := isOpG_out q11
  have hfr := hall ([0, 1, 2, 3, 4, 5, 7, 8, 9, 10], 11) (by simp)
  refine wpAnyH_take (listed := LR 16 [0, 1, 2, 3, 4, 5, 7, 8, 9, 10]) (v := .pointer (some ⟨B, 5, none⟩)) ho hs hfr.1 hfr.2 (hQ _ _) (Or.inl ⟨(wantedN hg), fun w' hS => run_fO5 _ _ hop w' (by (repeat rw [eval_far _ _ (by decide)]); exact e3)⟩) hS0 ?_
  rw [hd, ← LR_snoc]
  clear ho hg hop hd hfr
  obtain ⟨o12, ho, hg, hop, hd⟩ := isOpG_out q12
  have hfr := hall ([0, 1, 2, 3, 4, 5, 7, 8, 9, 10, 11], 12) (by simp)
  refine wpAnyH_take (listed := LR 16 [0, 1, 2, 3, 4, 5, 7, 8, 9, 10, 11]) (v := .agg (List.map cellI r).toArray) ho hs hfr.1 hfr.2 (hQ _ _) (Or.inl ⟨(wantedN hg), fun w' hS => run_loadV _ _ hop w' (by (repeat (first | rw [eval_same _ _ (by (try simp only [put_size]); omega)] | rw [eval_far _ _ (by decide)]))) (L3 _ hS)⟩) hS0 ?_
  rw [hd, ← LR_snoc]
  clear ho hg hop hd hfr
  refine wpAnyH_all r6 (by simp) ?_
  intro i hi
  obtain rfl := List.mem_singleton.1 hi
  obtain ⟨o6, ho, hg, hop, hd⟩ := isOpG_out q6
  have x6_0 : (((((((((((((a0.put (some 94) (.pointer (some ⟨t, oo, none⟩))).put (some 95) (.pointer (some ⟨t, oo, none⟩))).put (some 96) (.pointer (some ⟨t, oo, none⟩))).put (some 97) (p)).put (some 98) (.pointer (some ⟨B, 5, none⟩))).put (some 99) (.agg (List.map cellI r).toArray)).put (some 101) (.pointer (some ⟨t, oo, none⟩))).put (some 102) (.pointer (some ⟨t, oo, none⟩))).put (some 103) (.pointer (some ⟨t, oo + 1, none⟩))).put (some 104) (pR)).put (some 105) (.pointer (some ⟨B, 5, none⟩))).put (some 106) (.agg (List.map cellI r).toArray))).eval (.tmp 97) = p := (by (repeat (first | rw [eval_same _ _ (by (try simp only [put_size]); omega)] | rw [eval_far _ _ (by decide)])))
  have x6_1 : (((((((((((((a0.put (some 94) (.pointer (some ⟨t, oo, none⟩))).put (some 95) (.pointer (some ⟨t, oo, none⟩))).put (some 96) (.pointer (some ⟨t, oo, none⟩))).put (some 97) (p)).put (some 98) (.pointer (some ⟨B, 5, none⟩))).put (some 99) (.agg (List.map cellI r).toArray)).put (some 101) (.pointer (some ⟨t, oo, none⟩))).put (some 102) (.pointer (some ⟨t, oo, none⟩))).put (some 103) (.pointer (some ⟨t, oo + 1, none⟩))).put (some 104) (pR)).put (some 105) (.pointer (some ⟨B, 5, none⟩))).put (some 106) (.agg (List.map cellI r).toArray))).eval (.tmp 99) = .agg (List.map cellI r).toArray := (by (repeat (first | rw [eval_same _ _ (by (try simp only [put_size]); omega)] | rw [eval_far _ _ (by decide)])))
  refine wpOp_callG ho (wantedN hg) (run_callV 22 Try.func22 (by kernel_rfl) (by kernel_rfl) #[.tmp 97, .tmp 99] _ hop #[p, .agg (List.map cellI r).toArray] (by simp only [List.map_toArray, List.map_cons, List.map_nil, x6_0, x6_1])) ?_
  refine (K1 _ hS0).mono ?_
  rintro e u1 ⟨rfl, b1⟩
  have hS6 := keep _ _ hS0 b1
  refine ⟨_, rfl, hS6, ?_⟩
  rw [hd]
  clear ho hg hop hd
  rw [← LR_snoc]
  refine wpAnyH_all r13 (by simp) ?_
  intro i hi
  obtain rfl := List.mem_singleton.1 hi
  obtain ⟨o13, ho, hg, hop, hd⟩ := isOpG_out q13
  have x13_0 : ((((((((((((((a0.put (some 94) (.pointer (some ⟨t, oo, none⟩))).put (some 95) (.pointer (some ⟨t, oo, none⟩))).put (some 96) (.pointer (some ⟨t, oo, none⟩))).put (some 97) (p)).put (some 98) (.pointer (some ⟨B, 5, none⟩))).put (some 99) (.agg (List.map cellI r).toArray)).put (some 101) (.pointer (some ⟨t, oo, none⟩))).put (some 102) (.pointer (some ⟨t, oo, none⟩))).put (some 103) (.pointer (some ⟨t, oo + 1, none⟩))).put (some 104) (pR)).put (some 105) (.pointer (some ⟨B, 5, none⟩))).put (some 106) (.agg (List.map cellI r).toArray)).put (some 100) (.bool false))).eval (.tmp 104) = pR := (by (repeat (first | rw [eval_same _ _ (by (try simp only [put_size]); omega)] | rw [eval_far _ _ (by decide)])))
  have x13_1 : ((((((((((((((a0.put (some 94) (.pointer (some ⟨t, oo, none⟩))).put (some 95) (.pointer (some ⟨t, oo, none⟩))).put (some 96) (.pointer (some ⟨t, oo, none⟩))).put (some 97) (p)).put (some 98) (.pointer (some ⟨B, 5, none⟩))).put (some 99) (.agg (List.map cellI r).toArray)).put (some 101) (.pointer (some ⟨t, oo, none⟩))).put (some 102) (.pointer (some ⟨t, oo, none⟩))).put (some 103) (.pointer (some ⟨t, oo + 1, none⟩))).put (some 104) (pR)).put (some 105) (.pointer (some ⟨B, 5, none⟩))).put (some 106) (.agg (List.map cellI r).toArray)).put (some 100) (.bool false))).eval (.tmp 106) = .agg (List.map cellI r).toArray := (by (repeat (first | rw [eval_same _ _ (by (try simp only [put_size]); omega)] | rw [eval_far _ _ (by decide)])))
  refine wpOp_callG ho (wantedN hg) (run_callV 23 Try.func23 (by kernel_rfl) (by kernel_rfl) #[.tmp 104, .tmp 106] _ hop #[pR, .agg (List.map cellI r).toArray] (by simp only [List.map_toArray, List.map_cons, List.map_nil, x13_0, x13_1])) ?_
  refine (K2 _ hS6).mono ?_
  rintro e u2 ⟨rfl, b2⟩
  have hS13 := keep _ _ hS6 b2
  refine ⟨_, rfl, hS13, ?_⟩
  rw [hd]
  clear ho hg hop hd
  rw [← LR_snoc]
  obtain ⟨o14, ho, hg, hop, hd⟩ := isOpG_out q14
  have hfr := hall ([0, 1, 2, 3, 4, 5, 7, 8, 9, 10, 11, 12, 6, 13], 14) (by simp)
  refine wpAnyH_take (listed := LR 16 [0, 1, 2, 3, 4, 5, 7, 8, 9, 10, 11, 12, 6, 13]) (v := .bool true) ho hs hfr.1 hfr.2 (hQ _ _) (Or.inl ⟨(wantedN hg), fun w' hS => run_binV _ _ hop w' (by (repeat (first | rw [eval_same _ _ (by (try simp only [put_size]); omega)] | rw [eval_far _ _ (by decide)]))) (by (repeat (first | rw [eval_same _ _ (by (try simp only [put_size]); omega)] | rw [eval_far _ _ (by decide)]))) (by first | rfl | go_simp) (bool_ff w')⟩) hS13 ?_
  rw [hd, ← LR_snoc]
  clear ho hg hop hd hfr
  obtain ⟨o15, ho, hg, hop, hd⟩ := isOpG_out q15
  have hfr := hall ([0, 1, 2, 3, 4, 5, 7, 8, 9, 10, 11, 12, 6, 13, 14], 15) (by simp)
  refine wpAnyH_take (listed := LR 16 [0, 1, 2, 3, 4, 5, 7, 8, 9, 10, 11, 12, 6, 13, 14]) (v := .bool true) ho hs hfr.1 hfr.2 (hQ _ _) (Or.inl ⟨(wantedN hg), fun w' hS => run_assignV _ _ hop w' (by (repeat (first | rw [eval_same _ _ (by (try simp only [put_size]); omega)] | rw [eval_far _ _ (by decide)])))⟩) hS13 ?_
  rw [hd, ← LR_snoc]
  clear ho hg hop hd hfr
  exact wpAnyH_done rend (F _ hS13) _
def regD5_takes : List (List Nat × Nat) := [([], 0), ([0], 1), ([0, 1], 2), ([0, 1, 2], 3), ([0, 1, 2, 3], 4), ([0, 1, 2, 3, 4], 5), ([0, 1, 2, 3, 4, 5], 6), ([0, 1, 2, 3, 4, 5, 6], 7), ([0, 1, 2, 3, 4, 5, 6, 7], 9), ([0, 1, 2, 3, 4, 5, 6, 7, 9], 10), ([0, 1, 2, 3, 4, 5, 6, 7, 9, 10], 11), ([0, 1, 2, 3, 4, 5, 6, 7, 9, 10, 11], 12), ([0, 1, 2, 3, 4, 5, 6, 7, 9, 10, 11, 12], 13), ([0, 1, 2, 3, 4, 5, 6, 7, 9, 10, 11, 12, 13], 14), ([0, 1, 2, 3, 4, 5, 6, 7, 9, 10, 11, 12, 13, 14], 15), ([0, 1, 2, 3, 4, 5, 6, 7, 9, 10, 11, 12, 13, 14, 15], 16), ([0, 1, 2, 3, 4, 5, 6, 7, 9, 10, 11, 12, 13, 14, 15, 16, 8, 17, 18], 19)]
set_option maxHeartbeats 3200000 in
theorem regD5 {ops : Array Oper} {Q : Exit → Act → World → Prop} {S : World → Prop} {a0 : Act} {w5 : World} {t oo B : Nat} {p pR : Value} {L : List Nat} {r : List Int} {ts1 ts2 : Array TypeId} {mask : Int} {ts3 : Array TypeId}
    (q0 : isOpG ops 0 none (.move (.tmp 0)) (some 111))
    (q1 : isOpG ops 1 none (.nilCheck (.tmp 111)) (some 112))
    (q2 : isOpG ops 2 none (.fieldAddr 29 (.tmp 112) 0) (some 113))
    (q3 : isOpG ops 3 none (.load 24 (.tmp 113)) (some 114))
    (q4 : isOpG ops 4 none (.fieldAddr 42 (.tmp 3) 4) (some 115))
    (q5 : isOpG ops 5 none (.load 37 (.tmp 115)) (some 116))
    (q6 : isOpG ops 6 none (.fieldAddr 42 (.tmp 3) 5) (some 117))
    (q7 : isOpG ops 7 none (.load 40 (.tmp 117)) (some 118))
    (q9 : isOpG ops 9 none (.move (.tmp 0)) (some 120))
    (q10 : isOpG ops 10 none (.nilCheck (.tmp 120)) (some 121))
    (q11 : isOpG ops 11 none (.fieldAddr 29 (.tmp 121) 1) (some 122))
    (q12 : isOpG ops 12 none (.load 25 (.tmp 122)) (some 123))
    (q13 : isOpG ops 13 none (.fieldAddr 42 (.tmp 3) 4) (some 124))
    (q14 : isOpG ops 14 none (.load 37 (.tmp 124)) (some 125))
    (q15 : isOpG ops 15 none (.fieldAddr 42 (.tmp 3) 5) (some 126))
    (q16 : isOpG ops 16 none (.load 40 (.tmp 126)) (some 127))
    (q8 : isOpG ops 8 none (.call { callee := .value (.func 25), args := #[.tmp 114, .tmp 116, .tmp 118], argTypes := ts1 }) (some 119))
    (q17 : isOpG ops 17 none (.call { callee := .value (.func 26), args := #[.tmp 123, .tmp 125, .tmp 127], argTypes := ts2 }) (some 128))
    (q18 : isOpG ops 18 none (.call { callee := .value (.func 24), args := #[.tmp 119, .tmp 128], argTypes := ts3 }) (some 129))
    (q19 : isOpG ops 19 none (.assign (.tmp 129)) (some 4))
    (hs : Region.noSelect ops = true) (hq : (regD5_takes.all fun p => Region.free .any ops (LR 20 p.1) p.2 && (Region.ready .any ops (LR 20 p.1)).contains p.2) = true)
    (r8 : Region.ready .any ops (LR 20 [0, 1, 2, 3, 4, 5, 6, 7, 9, 10, 11, 12, 13, 14, 15, 16]) = [8])
    (r17 : Region.ready .any ops (LR 20 [0, 1, 2, 3, 4, 5, 6, 7, 9, 10, 11, 12, 13, 14, 15, 16, 8]) = [17])
    (r18 : Region.ready .any ops (LR 20 [0, 1, 2, 3, 4, 5, 6, 7, 9, 10, 11, 12, 13, 14, 15, 16, 8, 17]) = [18])
    (rend : Region.ready .any ops (LR 20 [0, 1, 2, 3, 4, 5, 6, 7, 9, 10, 11, 12, 13, 14, 15, 16, 8, 17, 18, 19]) = [])
    (hQ : ∀ (d : Option Tmp) (v : Value) c a w, Q (.panic c) (a.put d v) w → Q (.panic c) a w)
    (hsz : 137 < a0.tmps.size) (e0 : a0.eval (.tmp 0) = .pointer (some ⟨t, oo, none⟩)) (e3 : a0.eval (.tmp 3) = .pointer (some ⟨B, 0, none⟩))
    (hS0 : S w5.drew)
    (keep : ∀ u u', S u → Below u.heap.size u u' → S u')
    (L1 : ∀ u, S u → (loadVar 24 ⟨t, oo, none⟩).run Try.prog u = .ok p u) (L2 : ∀ u, S u → (loadVar 25 ⟨t, oo + 1, none⟩).run Try.prog u = .ok (pR) u)
    (L3 : ∀ u, S u → (loadVar 40 ⟨B, 5, none⟩).run Try.prog u = .ok (.agg (List.map cellI r).toArray) u) (L4 : ∀ u, S u → (loadVar 37 ⟨B, 4, none⟩).run Try.prog u = .ok (.int .u32 mask) u)
    (K1 : ∀ u, S u → Calls Try.prog 25 #[p, .int .u32 mask, .agg (List.map cellI r).toArray] u fun e w' => (∃ v, e = .returned v ∧ BK.Ls w' v L.length (L.map intN)) ∧ Below u.heap.size u w')
    (K2 : ∀ u, S u → Calls Try.prog 26 #[pR, .int .u32 mask, .agg (List.map cellI r).toArray] u fun e w' => (∃ v, e = .returned v ∧ BK.Ls w' v L.length (L.map intN)) ∧ Below u.heap.size u w')
    (hL : L.length ≤ 1000000000) (F : ∀ (wc : World) (v1 v2 : Value), S wc → Q .normal ((((((((((((((((((((a0.put (some 111) (.pointer (some ⟨t, oo, none⟩))).put (some 112) (.pointer (some ⟨t, oo, none⟩))).put (some 113) (.pointer (some ⟨t, oo, none⟩))).put (some 114) (p)).put (some 115) (.pointer (some ⟨B, 4, none⟩))).put (some 116) (.int .u32 mask)).put (some 117) (.pointer (some ⟨B, 5, none⟩))).put (some 118) (.agg (List.map cellI r).toArray)).put (some 120) (.pointer (some ⟨t, oo, none⟩))).put (some 121) (.pointer (some ⟨t, oo, none⟩))).put (some 122) (.pointer (some ⟨t, oo + 1, none⟩))).put (some 123) (pR)).put (some 124) (.pointer (some ⟨B, 4, none⟩))).put (some 125) (.int .u32 mask)).put (some 126) (.pointer (some ⟨B, 5, none⟩))).put (some 127) (.agg (List.map cellI r).toArray)).put (some 119) (v1)).put (some 128) (v2)).put (some 129) (.bool true)).put (some 4) (.bool true)) wc) :
    wpAnyH Try.prog .any ops Q S 20 (LR 20 []) a0 w5.drew := by
  have hall : ∀ p ∈ regD5_takes, Region.free .any ops (LR 20 p.1) p.2 = true ∧ (Region.ready .any ops (LR 20 p.1)).contains p.2 = true := by
    intro p hp
    have := List.all_eq_true.1 hq p hp
    simpa using this
  unfold regD5_takes at hall
  obtain ⟨o0, ho, hg, hop, hd⟩ := isOpG_out q0
  have hfr := hall ([], 0) (by simp)
  refine wpAnyH_take (listed := LR 20 []) (v := .pointer (some ⟨t, oo, none⟩)) ho hs hfr.1 hfr.2 (hQ _ _) (Or.inl ⟨(wantedN hg), fun w' hS => run_move _ _ hop w' (by (repeat rw [eval_far _ _ (by decide)]); exact e0)⟩) hS0 ?_
  rw [hd, ← LR_snoc]
  clear ho hg hop hd hfr
  obtain ⟨o1, ho, hg, hop, hd⟩ := isOpG_out q1
  have hfr := hall ([0], 1) (by simp)
  refine wpAnyH_take (listed := LR 20 [0]) (v := .pointer (some ⟨t, oo, none⟩)) ho hs hfr.1 hfr.2 (hQ _ _) (Or.inl ⟨(wantedN hg), fun w' hS => run_nilV _ _ hop w' (by (repeat (first | rw [eval_same _ _ (by (try simp only [put_size]); omega)] | rw [eval_far _ _ (by decide)])))⟩) hS0 ?_
  rw [hd, ← LR_snoc]
  clear ho hg hop hd hfr
  obtain ⟨o2, ho, hg, hop, hd⟩ := isOpG_out q2
  have hfr := hall ([0, 1], 2) (by simp)
  refine wpAnyH_take (listed := LR 20 [0, 1]) (v := .pointer (some ⟨t, oo, none⟩)) ho hs hfr.1 hfr.2 (hQ _ _) (Or.inl ⟨(wantedN hg), fun w' hS => run_fB0 _ _ hop w' (by (repeat (first | rw [eval_same _ _ (by (try simp only [put_size]); omega)] | rw [eval_far _ _ (by decide)])))⟩) hS0 ?_
  rw [hd, ← LR_snoc]
  clear ho hg hop hd hfr
  obtain ⟨o3, ho, hg, hop, hd⟩ := isOpG_out q3
  have hfr := hall ([0, 1, 2], 3) (by simp)
  refine wpAnyH_take (listed := LR 20 [0, 1, 2]) (v := p) ho hs hfr.1 hfr.2 (hQ _ _) (Or.inl ⟨(wantedN hg), fun w' hS => run_loadV _ _ hop w' (by (repeat (first | rw [eval_same _ _ (by (try simp only [put_size]); omega)] | rw [eval_far _ _ (by decide)]))) (L1 _ hS)⟩) hS0 ?_
  rw [hd, ← LR_snoc]
  clear ho hg hop hd hfr
  obtain ⟨o4, ho, hg, hop, hd⟩ := isOpG_out q4
  have hfr := hall ([0, 1, 2, 3], 4) (by simp)
  refine wpAnyH_take (listed := LR 20 [0, 1, 2, 3]) (v := .pointer (some ⟨B, 4, none⟩)) ho hs hfr.1 hfr.2 (hQ _ _) (Or.inl ⟨(wantedN hg), fun w' hS => run_fO4 _ _ hop w' (by (repeat rw [eval_far _ _ (by decide)]); exact e3)⟩) hS0 ?_
  rw [hd, ← LR_snoc]
  clear ho hg hop hd hfr
  obtain ⟨o5, ho, hg, hop, hd⟩ := isOpG_out q5
  have hfr := hall ([0, 1, 2, 3, 4], 5) (by simp)
  refine wpAnyH_take (listed := LR 20 [0, 1, 2, 3, 4]) (v := .int .u32 mask) ho hs hfr.1 hfr.2 (hQ _ _) (Or.inl ⟨(wantedN hg), fun w' hS => run_loadV _ _ hop w' (by (repeat (first | rw [eval_same _ _ (by (try simp only [put_size]); omega)] | rw [eval_far _ _ (by decide)]))) (L4 _ hS)⟩) hS0 ?_
  rw [hd, ← LR_snoc]
  clear ho hg hop hd hfr
  obtain ⟨o6, ho, hg, hop, hd⟩ := isOpG_out q6
  have hfr := hall ([0, 1, 2, 3, 4, 5], 6) (by simp)
  refine wpAnyH_take (listed := LR 20 [0, 1, 2, 3, 4, 5]) (v := .pointer (some ⟨B, 5, none⟩)) ho hs hfr.1 hfr.2 (hQ _ _) (Or.inl ⟨(wantedN hg), fun w' hS => run_fO5 _ _ hop w' (by (repeat rw [eval_far _ _ (by decide)]); exact e3)⟩) hS0 ?_
  rw [hd, ← LR_snoc]
  clear ho hg hop hd hfr
  obtain ⟨o7, ho, hg, hop, hd⟩ := isOpG_out q7
  have hfr := hall ([0, 1, 2, 3, 4, 5, 6], 7) (by simp)
  refine wpAnyH_take (listed := LR 20 [0, 1, 2, 3, 4, 5, 6]) (v := .agg (List.map cellI r).toArray) ho hs hfr.1 hfr.2 (hQ _ _) (Or.inl ⟨(wantedN hg), fun w' hS => run_loadV _ _ hop w' (by (repeat (first | rw [eval_same _ _ (by (try simp only [put_size]); omega)] | rw [eval_far _ _ (by decide)]))) (L3 _ hS)⟩) hS0 ?_
  rw [hd, ← LR_snoc]
  clear ho hg hop hd hfr
  obtain ⟨o9, ho, hg, hop, hd⟩ := isOpG_out q9
  have hfr := hall ([0, 1, 2, 3, 4, 5, 6, 7], 9) (by simp)
  refine wpAnyH_take (listed := LR 20 [0, 1, 2, 3, 4, 5, 6, 7]) (v := .pointer (some ⟨t, oo, none⟩)) ho hs hfr.1 hfr.2 (hQ _ _) (Or.inl ⟨(wantedN hg), fun w' hS => run_move _ _ hop w' (by (repeat rw [eval_far _ _ (by decide)]); exact e0)⟩) hS0 ?_
  rw [hd, ← LR_snoc]
  clear ho hg hop hd hfr
  obtain ⟨o10, ho, hg, hop, hd⟩ := isOpG_out q10
  have hfr := hall ([0, 1, 2, 3, 4, 5, 6, 7, 9], 10) (by simp)
  refine wpAnyH_take (listed := LR 20 [0, 1, 2, 3, 4, 5, 6, 7, 9]) (v := .pointer (some ⟨t, oo, none⟩)) ho hs hfr.1 hfr.2 (hQ _ _) (Or.inl ⟨(wantedN hg), fun w' hS => run_nilV _ _ hop w' (by (repeat (first | rw [eval_same _ _ (by (try simp only [put_size]); omega)] | rw [eval_far _ _ (by decide)])))⟩) hS0 ?_
  rw [hd, ← LR_snoc]
  clear ho hg hop hd hfr
  obtain ⟨o11, ho, hg, hop, hd⟩ := isOpG_out q11
  have hfr := hall ([0, 1, 2, 3, 4, 5, 6, 7, 9, 10], 11) (by simp)
  refine wpAnyH_take (listed := LR 20 [0, 1, 2, 3, 4, 5, 6, 7, 9, 10]) (v := .pointer (some ⟨t, oo + 1, none⟩)) ho hs hfr.1 hfr.2 (hQ _ _) (Or.inl ⟨(wantedN hg), fun w' hS => run_fB1 _ _ hop w' (by (repeat (first | rw [eval_same _ _ (by (try simp only [put_size]); omega)] | rw [eval_far _ _ (by decide)])))⟩) hS0 ?_
  rw [hd, ← LR_snoc]
  clear ho hg hop hd hfr
  obtain ⟨o12, ho, hg, hop, hd⟩ := isOpG_out q12
  have hfr := hall ([0, 1, 2, 3, 4, 5, 6, 7, 9, 10, 11], 12) (by simp)
  refine wpAnyH_take (listed := LR 20 [0, 1, 2, 3, 4, 5, 6, 7, 9, 10, 11]) (v := pR) ho hs hfr.1 hfr.2 (hQ _ _) (Or.inl ⟨(wantedN hg), fun w' hS => run_loadV _ _ hop w' (by (repeat (first | rw [eval_same _ _ (by (try simp only [put_size]); omega)] | rw [eval_far _ _ (by decide)]))) (L2 _ hS)⟩) hS0 ?_
  rw [hd, ← LR_snoc]
  clear ho hg hop hd hfr
  obtain ⟨o13, ho, hg, hop, hd⟩ := isOpG_out q13
  have hfr := hall ([0, 1, 2, 3, 4, 5, 6, 7, 9, 10, 11, 12], 13) (by simp)
  refine wpAnyH_take (listed := LR 20 [0, 1, 2, 3, 4, 5, 6, 7, 9, 10, 11, 12]) (v := .pointer (some ⟨B, 4, none⟩)) ho hs hfr.1 hfr.2 (hQ _ _) (Or.inl ⟨(wantedN hg), fun w' hS => run_fO4 _ _ hop w' (by (repeat rw [eval_far _ _ (by decide)]); exact e3)⟩) hS0 ?_
  rw [hd, ← LR_snoc]
  clear ho hg hop hd hfr
  obtain ⟨o14, ho, hg, hop, hd⟩ := isOpG_out q14
  have hfr := hall ([0, 1, 2, 3, 4, 5, 6, 7, 9, 10, 11, 12, 13], 14) (by simp)
  refine wpAnyH_take (listed := LR 20 [0, 1, 2, 3, 4, 5, 6, 7, 9, 10, 11, 12, 13]) (v := .int .u32 mask) ho hs hfr.1 hfr.2 (hQ _ _) (Or.inl ⟨(wantedN hg), fun w' hS => run_loadV _ _ hop w' (by (repeat (first | rw [eval_same _ _ (by (try simp only [put_size]); omega)] | rw [eval_far _ _ (by decide)]))) (L4 _ hS)⟩) hS0 ?_
  rw [hd, ← LR_snoc]
  clear ho hg hop hd hfr
  obtain ⟨o15, ho, hg, hop, hd⟩ := isOpG_out q15
  have hfr := hall ([0, 1, 2, 3, 4, 5, 6, 7, 9, 10, 11, 12, 13, 14], 15) (by simp)
  refine wpAnyH_take (listed := LR 20 [0, 1, 2, 3, 4, 5, 6, 7, 9, 10, 11, 12, 13, 14]) (v := .pointer (some ⟨B, 5, none⟩)) ho hs hfr.1 hfr.2 (hQ _ _) (Or.inl ⟨(wantedN hg), fun w' hS => run_fO5 _ _ hop w' (by (repeat rw [eval_far _ _ (by decide)]); exact e3)⟩) hS0 ?_
  rw [hd, ← LR_snoc]
  clear ho hg hop hd hfr
  obtain ⟨o16, ho, hg, hop, hd⟩ := isOpG_out q16
  have hfr := hall ([0, 1, 2, 3, 4, 5, 6, 7, 9, 10, 11, 12, 13, 14, 15], 16) (by simp)
  refine wpAnyH_take (listed := LR 20 [0, 1, 2, 3, 4, 5, 6, 7, 9, 10, 11, 12, 13, 14, 15]) (v := .agg (List.map cellI r).toArray) ho hs hfr.1 hfr.2 (hQ _ _) (Or.inl ⟨(wantedN hg), fun w' hS => run_loadV _ _ hop w' (by (repeat (first | rw [eval_same _ _ (by (try simp only [put_size]); omega)] | rw [eval_far _ _ (by decide)]))) (L3 _ hS)⟩) hS0 ?_
  rw [hd, ← LR_snoc]
  clear ho hg hop hd hfr
  refine wpAnyH_all r8 (by simp) ?_
  intro i hi
  obtain rfl := List.mem_singleton.1 hi
  obtain ⟨o8, ho, hg, hop, hd⟩ := isOpG_out q8
  have x8_0 : (((((((((((((((((a0.put (some 111) (.pointer (some ⟨t, oo, none⟩))).put (some 112) (.pointer (some ⟨t, oo, none⟩))).put (some 113) (.pointer (some ⟨t, oo, none⟩))).put (some 114) (p)).put (some 115) (.pointer (some ⟨B, 4, none⟩))).put (some 116) (.int .u32 mask)).put (some 117) (.pointer (some ⟨B, 5, none⟩))).put (some 118) (.agg (List.map cellI r).toArray)).put (some 120) (.pointer (some ⟨t, oo, none⟩))).put (some 121) (.pointer (some ⟨t, oo, none⟩))).put (some 122) (.pointer (some ⟨t, oo + 1, none⟩))).put (some 123) (pR)).put (some 124) (.pointer (some ⟨B, 4, none⟩))).put (some 125) (.int .u32 mask)).put (some 126) (.pointer (some ⟨B, 5, none⟩))).put (some 127) (.agg (List.map cellI r).toArray))).eval (.tmp 114) = p := (by (repeat (first | rw [eval_same _ _ (by (try simp only [put_size]); omega)] | rw [eval_far _ _ (by decide)])))
  have x8_1 : (((((((((((((((((a0.put (some 111) (.pointer (some ⟨t, oo, none⟩))).put (some 112) (.pointer (some ⟨t, oo, none⟩))).put (some 113) (.pointer (some ⟨t, oo, none⟩))).put (some 114) (p)).put (some 115) (.pointer (some ⟨B, 4, none⟩))).put (some 116) (.int .u32 mask)).put (some 117) (.pointer (some ⟨B, 5, none⟩))).put (some 118) (.agg (List.map cellI r).toArray)).put (some 120) (.pointer (some ⟨t, oo, none⟩))).put (some 121) (.pointer (some ⟨t, oo, none⟩))).put (some 122) (.pointer (some ⟨t, oo + 1, none⟩))).put (some 123) (pR)).put (some 124) (.pointer (some ⟨B, 4, none⟩))).put (some 125) (.int .u32 mask)).put (some 126) (.pointer (some ⟨B, 5, none⟩))).put (some 127) (.agg (List.map cellI r).toArray))).eval (.tmp 116) = .int .u32 mask := (by (repeat (first | rw [eval_same _ _ (by (try simp only [put_size]); omega)] | rw [eval_far _ _ (by decide)])))
  have x8_2 : (((((((((((((((((a0.put (some 111) (.pointer (some ⟨t, oo, none⟩))).put (some 112) (.pointer (some ⟨t, oo, none⟩))).put (some 113) (.pointer (some ⟨t, oo, none⟩))).put (some 114) (p)).put (some 115) (.pointer (some ⟨B, 4, none⟩))).put (some 116) (.int .u32 mask)).put (some 117) (.pointer (some ⟨B, 5, none⟩))).put (some 118) (.agg (List.map cellI r).toArray)).put (some 120) (.pointer (some ⟨t, oo, none⟩))).put (some 121) (.pointer (some ⟨t, oo, none⟩))).put (some 122) (.pointer (some ⟨t, oo + 1, none⟩))).put (some 123) (pR)).put (some 124) (.pointer (some ⟨B, 4, none⟩))).put (some 125) (.int .u32 mask)).put (some 126) (.pointer (some ⟨B, 5, none⟩))).put (some 127) (.agg (List.map cellI r).toArray))).eval (.tmp 118) = .agg (List.map cellI r).toArray := (by (repeat (first | rw [eval_same _ _ (by (try simp only [put_size]); omega)] | rw [eval_far _ _ (by decide)])))
  refine wpOp_callG ho (wantedN hg) (run_callV 25 Try.func25 (by kernel_rfl) (by kernel_rfl) #[.tmp 114, .tmp 116, .tmp 118] _ hop #[p, .int .u32 mask, .agg (List.map cellI r).toArray] (by simp only [List.map_toArray, List.map_cons, List.map_nil, x8_0, x8_1, x8_2])) ?_
  refine (K1 _ hS0).mono ?_
  rintro e u1 ⟨⟨v1, rfl, ls1⟩, b1⟩
  have hS8 := keep _ _ hS0 b1
  refine ⟨_, rfl, hS8, ?_⟩
  rw [hd]
  clear ho hg hop hd
  rw [← LR_snoc]
  refine wpAnyH_all r17 (by simp) ?_
  intro i hi
  obtain rfl := List.mem_singleton.1 hi
  obtain ⟨o17, ho, hg, hop, hd⟩ := isOpG_out q17
  have x17_0 : ((((((((((((((((((a0.put (some 111) (.pointer (some ⟨t, oo, none⟩))).put (some 112) (.pointer (some ⟨t, oo, none⟩))).put (some 113) (.pointer (some ⟨t, oo, none⟩))).put (some 114) (p)).put (some 115) (.pointer (some ⟨B, 4, none⟩))).put (some 116) (.int .u32 mask)).put (some 117) (.pointer (some ⟨B, 5, none⟩))).put (some 118) (.agg (List.map cellI r).toArray)).put (some 120) (.pointer (some ⟨t, oo, none⟩))).put (some 121) (.pointer (some ⟨t, oo, none⟩))).put (some 122) (.pointer (some ⟨t, oo + 1, none⟩))).put (some 123) (pR)).put (some 124) (.pointer (some ⟨B, 4, none⟩))).put (some 125) (.int .u32 mask)).put (some 126) (.pointer (some ⟨B, 5, none⟩))).put (some 127) (.agg (List.map cellI r).toArray)).put (some 119) (v1))).eval (.tmp 123) = pR := (by (repeat (first | rw [eval_same _ _ (by (try simp only [put_size]); omega)] | rw [eval_far _ _ (by decide)])))
  have x17_1 : ((((((((((((((((((a0.put (some 111) (.pointer (some ⟨t, oo, none⟩))).put (some 112) (.pointer (some ⟨t, oo, none⟩))).put (some 113) (.pointer (some ⟨t, oo, none⟩))).put (some 114) (p)).put (some 115) (.pointer (some ⟨B, 4, none⟩))).put (some 116) (.int .u32 mask)).put (some 117) (.pointer (some ⟨B, 5, none⟩))).put (some 118) (.agg (List.map cellI r).toArray)).put (some 120) (.pointer (some ⟨t, oo, none⟩))).put (some 121) (.pointer (some ⟨t, oo, none⟩))).put (some 122) (.pointer (some ⟨t, oo + 1, none⟩))).put (some 123) (pR)).put (some 124) (.pointer (some ⟨B, 4, none⟩))).put (some 125) (.int .u32 mask)).put (some 126) (.pointer (some ⟨B, 5, none⟩))).put (some 127) (.agg (List.map cellI r).toArray)).put (some 119) (v1))).eval (.tmp 125) = .int .u32 mask := (by (repeat (first | rw [eval_same _ _ (by (try simp only [put_size]); omega)] | rw [eval_far _ _ (by decide)])))
  have x17_2 : ((((((((((((((((((a0.put (some 111) (.pointer (some ⟨t, oo, none⟩))).put (some 112) (.pointer (some ⟨t, oo, none⟩))).put (some 113) (.pointer (some ⟨t, oo, none⟩))).put (some 114) (p)).put (some 115) (.pointer (some ⟨B, 4, none⟩))).put (some 116) (.int .u32 mask)).put (some 117) (.pointer (some ⟨B, 5, none⟩))).put (some 118) (.agg (List.map cellI r).toArray)).put (some 120) (.pointer (some ⟨t, oo, none⟩))).put (some 121) (.pointer (some ⟨t, oo, none⟩))).put (some 122) (.pointer (some ⟨t, oo + 1, none⟩))).put (some 123) (pR)).put (some 124) (.pointer (some ⟨B, 4, none⟩))).put (some 125) (.int .u32 mask)).put (some 126) (.pointer (some ⟨B, 5, none⟩))).put (some 127) (.agg (List.map cellI r).toArray)).put (some 119) (v1))).eval (.tmp 127) = .agg (List.map cellI r).toArray := (by (repeat (first | rw [eval_same _ _ (by (try simp only [put_size]); omega)] | rw [eval_far _ _ (by decide)])))
  refine wpOp_callG ho (wantedN hg) (run_callV 26 Try.func26 (by kernel_rfl) (by kernel_rfl) #[.tmp 123, .tmp 125, .tmp 127] _ hop #[pR, .int .u32 mask, .agg (List.map cellI r).toArray] (by simp only [List.map_toArray, List.map_cons, List.map_nil, x17_0, x17_1, x17_2])) ?_
  refine (K2 _ hS8).mono ?_
  rintro e u2 ⟨⟨v2, rfl, ls2⟩, b2⟩
  have hS17 := keep _ _ hS8 b2
  refine ⟨_, rfl, hS17, ?_⟩
  rw [hd]
  clear ho hg hop hd
  rw [← LR_snoc]
  refine wpAnyH_all r18 (by simp) ?_
  intro i hi
  obtain rfl := List.mem_singleton.1 hi
  obtain ⟨o18, ho, hg, hop, hd⟩ := isOpG_out q18
  have x18_0 : (((((((((((((((((((a0.put (some 111) (.pointer (some ⟨t, oo, none⟩))).put (some 112) (.pointer (some ⟨t, oo, none⟩))).put (some 113) (.pointer (some ⟨t, oo, none⟩))).put (some 114) (p)).put (some 115) (.pointer (some ⟨B, 4, none⟩))).put (some 116) (.int .u32 mask)).put (some 117) (.pointer (some ⟨B, 5, none⟩))).put (some 118) (.agg (List.map cellI r).toArray)).put (some 120) (.pointer (some ⟨t, oo, none⟩))).put (some 121) (.pointer (some ⟨t, oo, none⟩))).put (some 122) (.pointer (some ⟨t, oo + 1, none⟩))).put (some 123) (pR)).put (some 124) (.pointer (some ⟨B, 4, none⟩))).put (some 125) (.int .u32 mask)).put (some 126) (.pointer (some ⟨B, 5, none⟩))).put (some 127) (.agg (List.map cellI r).toArray)).put (some 119) (v1)).put (some 128) (v2))).eval (.tmp 119) = v1 := (by (repeat (first | rw [eval_same _ _ (by (try simp only [put_size]); omega)] | rw [eval_far _ _ (by decide)])))
  have x18_1 : (((((((((((((((((((a0.put (some 111) (.pointer (some ⟨t, oo, none⟩))).put (some 112) (.pointer (some ⟨t, oo, none⟩))).put (some 113) (.pointer (some ⟨t, oo, none⟩))).put (some 114) (p)).put (some 115) (.pointer (some ⟨B, 4, none⟩))).put (some 116) (.int .u32 mask)).put (some 117) (.pointer (some ⟨B, 5, none⟩))).put (some 118) (.agg (List.map cellI r).toArray)).put (some 120) (.pointer (some ⟨t, oo, none⟩))).put (some 121) (.pointer (some ⟨t, oo, none⟩))).put (some 122) (.pointer (some ⟨t, oo + 1, none⟩))).put (some 123) (pR)).put (some 124) (.pointer (some ⟨B, 4, none⟩))).put (some 125) (.int .u32 mask)).put (some 126) (.pointer (some ⟨B, 5, none⟩))).put (some 127) (.agg (List.map cellI r).toArray)).put (some 119) (v1)).put (some 128) (v2))).eval (.tmp 128) = v2 := (by (repeat (first | rw [eval_same _ _ (by (try simp only [put_size]); omega)] | rw [eval_far _ _ (by decide)])))
  refine wpOp_callG ho (wantedN hg) (run_callV 24 Try.func24 (by kernel_rfl) (by kernel_rfl) #[.tmp 119, .tmp 128] _ hop #[v1, v2] (by simp only [List.map_toArray, List.map_cons, List.map_nil, x18_0, x18_1])) ?_
  refine (sameInts_same _ _ _ _ hL (ls1.below b2) ls2).mono ?_
  rintro e u3 ⟨rfl, b3⟩
  have hS18 := keep _ _ hS17 b3
  refine ⟨_, rfl, hS18, ?_⟩
  rw [hd]
  clear ho hg hop hd
  rw [← LR_snoc]
  obtain ⟨o19, ho, hg, hop, hd⟩ := isOpG_out q19
  have hfr := hall ([0, 1, 2, 3, 4, 5, 6, 7, 9, 10, 11, 12, 13, 14, 15, 16, 8, 17, 18], 19) (by simp)
  refine wpAnyH_take (listed := LR 20 [0, 1, 2, 3, 4, 5, 6, 7, 9, 10, 11, 12, 13, 14, 15, 16, 8, 17, 18]) (v := .bool true) ho hs hfr.1 hfr.2 (hQ _ _) (Or.inl ⟨(wantedN hg), fun w' hS => run_assignV _ _ hop w' (by (repeat (first | rw [eval_same _ _ (by (try simp only [put_size]); omega)] | rw [eval_far _ _ (by decide)])))⟩) hS18 ?_
  rw [hd, ← LR_snoc]
  clear ho hg hop hd hfr
  exact wpAnyH_done rend (F _ _ _ hS18) _
end Go.Proofs.Ytlnhnpfgmiffpaa
