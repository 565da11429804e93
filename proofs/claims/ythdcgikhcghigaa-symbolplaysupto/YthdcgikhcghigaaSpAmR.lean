import Derived.Test.YthdcgikhcghigaaSpDoes
import Derived.Test.YthdcgikhcghigaaSpRnd
namespace Go.Proofs.Ythdcgikhcghigaa
open Go.RowKit Go.Maps
set_option linter.unusedVariables false
set_option linter.unusedSimpArgs false

theorem run_exV (ev : Operand → Value) (o : Oper) {x : Operand} {i : Nat} (hop : o.op = .extract x i) (w : World) {vs : Array Value} {v : Value} (hx : ev x = .tuple vs) (hv : vs[i]? = some v) : (execOp ev o).run Try.prog w = .ok (.value v) w := by
  simp only [execOp, hop, hx]
  go_simp
theorem run_fB0 (ev : Operand → Value) (o : Oper) {x : Operand} (hop : o.op = .fieldAddr 29 x 0) (w : World) {t oo : Nat} (hx : ev x = .pointer (some ⟨t, oo, none⟩)) : (execOp ev o).run Try.prog w = .ok (.value (.pointer (some ⟨t, oo, none⟩))) w := by
  simp only [execOp, hop, hx]
  go_simp
theorem run_fB1 (ev : Operand → Value) (o : Oper) {x : Operand} (hop : o.op = .fieldAddr 29 x 1) (w : World) {t oo : Nat} (hx : ev x = .pointer (some ⟨t, oo, none⟩)) : (execOp ev o).run Try.prog w = .ok (.value (.pointer (some ⟨t, oo + 1, none⟩))) w := by
  simp only [execOp, hop, hx]
  go_simp
theorem run_fO2 (ev : Operand → Value) (o : Oper) {x : Operand} (hop : o.op = .fieldAddr 45 x 2) (w : World) {t : Nat} (hx : ev x = .pointer (some ⟨t, 0, none⟩)) : (execOp ev o).run Try.prog w = .ok (.value (.pointer (some ⟨t, 2, none⟩))) w := by
  simp only [execOp, hop, hx]
  go_simp
theorem run_fO4 (ev : Operand → Value) (o : Oper) {x : Operand} (hop : o.op = .fieldAddr 45 x 4) (w : World) {t : Nat} (hx : ev x = .pointer (some ⟨t, 0, none⟩)) : (execOp ev o).run Try.prog w = .ok (.value (.pointer (some ⟨t, 4, none⟩))) w := by
  simp only [execOp, hop, hx]
  go_simp
theorem run_fO5 (ev : Operand → Value) (o : Oper) {x : Operand} (hop : o.op = .fieldAddr 45 x 5) (w : World) {t : Nat} (hx : ev x = .pointer (some ⟨t, 0, none⟩)) : (execOp ev o).run Try.prog w = .ok (.value (.pointer (some ⟨t, 7, none⟩))) w := by
  simp only [execOp, hop, hx]
  go_simp
set_option maxRecDepth 100000 in
set_option maxHeartbeats 1600000 in
theorem run_buildOp (ev : Operand → Value) (o : Oper) {x : Operand} (hop : o.op = .build 45 #[(1, .const (.int .i64 4)), (5, x)]) (h4 : ev (.const (.int .i64 4)) = .int .i64 4) (w : World) {a : Option Addr} {n c : Nat} (hx : ev x = .slice a n c) : (execOp ev o).run Try.prog w = .ok (.value (.agg (opL 0 4 0 0 V0 (.slice a n c) (List.replicate 24 0)).toArray)) w := by
  simp only [execOp, hop, hx, h4]
  go_simp
  rfl
def areg12_takes : List (List Nat × Nat) := [([], 0), ([0], 1), ([0, 1], 2), ([0, 1, 2], 3), ([0, 1, 2, 3], 4), ([0, 1, 2, 3, 4, 5, 6], 7)]
set_option maxHeartbeats 3200000 in
theorem areg12 {ops : Array Oper} {Q : Exit → Act → World → Prop} {S : World → Prop} {a0 : Act} {w5 : World} {t oo B0 BS : Nat} {pR sq : Value} {ty1 ty2 : Array TypeId} (R1 : Value → World → Prop) (R2 : World → Prop)
    (q0 : isOpG ops 0 none (.load 27 (.tmp 6)) (some 55))
    (q1 : isOpG ops 1 none (.load 59 (.tmp 2)) (some 56))
    (q2 : isOpG ops 2 none (.nilCheck (.tmp 56)) (some 57))
    (q3 : isOpG ops 3 none (.fieldAddr 29 (.tmp 57) 1) (some 58))
    (q4 : isOpG ops 4 none (.load 25 (.tmp 58)) (some 59))
    (q5 : isOpG ops 5 none (.call { callee := .value (.func 11), args := #[.tmp 59], argTypes := ty1 }) (some 60))
    (q6 : isOpG ops 6 none (.call { callee := .value (.func 9), args := #[.tmp 55, .tmp 60, .const (.int .i64 (-1))], argTypes := ty2 }) (some 61))
    (q7 : isOpG ops 7 none (.unOp .not 4 (.tmp 61)) (some 62))
    (hs : Region.noSelect ops = true) (hq : (areg12_takes.all fun p => Region.free .any ops (LR 8 p.1) p.2 && (Region.ready .any ops (LR 8 p.1)).contains p.2) = true)
    (r5 : Region.ready .any ops (LR 8 [0, 1, 2, 3, 4]) = [5])
    (r6 : Region.ready .any ops (LR 8 [0, 1, 2, 3, 4, 5]) = [6])
    (rend : Region.ready .any ops (LR 8 [0, 1, 2, 3, 4, 5, 6, 7]) = [])
    (hQ : ∀ (d : Option Tmp) (v : Value) c a w, Q (.panic c) (a.put d v) w → Q (.panic c) a w)
    (hsz : 131 < a0.tmps.size) (e2 : a0.eval (.tmp 2) = .pointer (some ⟨B0, 0, none⟩)) (e6 : a0.eval (.tmp 6) = .pointer (some ⟨BS, 0, none⟩))
    (hS0 : S w5.drew)
    (keep1 : ∀ wl u, R1 wl u → S u) (keep2 : ∀ u, R2 u → S u) (LB : ∀ u, S u → (loadVar 59 ⟨B0, 0, none⟩).run Try.prog u = .ok (.pointer (some ⟨t, oo, none⟩)) u) (LR1 : ∀ u, S u → (loadVar 25 ⟨t, oo + 1, none⟩).run Try.prog u = .ok pR u) (LQ : ∀ u, S u → (loadVar 27 ⟨BS, 0, none⟩).run Try.prog u = .ok sq u)
    (K1 : Calls Try.prog 11 #[pR] w5.drew fun e u => ∃ wl, e = .returned wl ∧ R1 wl u) (K2 : ∀ wl u, R1 wl u → Calls Try.prog 9 #[sq, wl, .int .i64 (-1)] u fun e u' => e = .returned (.bool true) ∧ R2 u')
    (F : ∀ (wc : World) (wl : Value), R2 wc → Q .normal ((((((((a0.put (some 55) (sq)).put (some 56) (.pointer (some ⟨t, oo, none⟩))).put (some 57) (.pointer (some ⟨t, oo, none⟩))).put (some 58) (.pointer (some ⟨t, oo + 1, none⟩))).put (some 59) (pR)).put (some 60) (wl)).put (some 61) (.bool true)).put (some 62) (.bool false)) wc) :
    wpAnyH Try.prog .any ops Q S 8 (LR 8 []) a0 w5.drew := by
  have hall : ∀ p ∈ areg12_takes, Region.free .any ops (LR 8 p.1) p.2 = true ∧ (Region.ready .any ops (LR 8 p.1)).contains p.2 = true := by
    intro p hp
    have := List.all_eq_true.1 hq p hp
    simpa using this
  unfold areg12_takes at hall
  obtain ⟨o0, ho, hg, hop, hd⟩ := isOpG_out q0
  have hfr := hall ([], 0) (by simp)
  refine wpAnyH_take (listed := LR 8 []) (v := sq) ho hs hfr.1 hfr.2 (hQ _ _) (Or.inl ⟨(wantedN hg), fun w' hS => run_loadV _ _ hop w' (by (repeat rw [eval_far _ _ (by decide)]); exact e6) (LQ _ hS)⟩) hS0 ?_
  rw [hd, ← LR_snoc]
  clear ho hg hop hd hfr
  obtain ⟨o1, ho, hg, hop, hd⟩ := isOpG_out q1
  have hfr := hall ([0], 1) (by simp)
  refine wpAnyH_take (listed := LR 8 [0]) (v := .pointer (some ⟨t, oo, none⟩)) ho hs hfr.1 hfr.2 (hQ _ _) (Or.inl ⟨(wantedN hg), fun w' hS => run_loadV _ _ hop w' (by (repeat rw [eval_far _ _ (by decide)]); exact e2) (LB _ hS)⟩) hS0 ?_
  rw [hd, ← LR_snoc]
  clear ho hg hop hd hfr
  obtain ⟨o2, ho, hg, hop, hd⟩ := isOpG_out q2
  have hfr := hall ([0, 1], 2) (by simp)
  refine wpAnyH_take (listed := LR 8 [0, 1]) (v := .pointer (some ⟨t, oo, none⟩)) ho hs hfr.1 hfr.2 (hQ _ _) (Or.inl ⟨(wantedN hg), fun w' hS => run_nilV _ _ hop w' (by (repeat (first | rw [eval_same _ _ (by (try simp only [put_size]); omega)] | rw [eval_far _ _ (by decide)])))⟩) hS0 ?_
  rw [hd, ← LR_snoc]
  clear ho hg hop hd hfr
  obtain ⟨o3, ho, hg, hop, hd⟩ := isOpG_out q3
  have hfr := hall ([0, 1, 2], 3) (by simp)
  refine wpAnyH_take (listed := LR 8 [0, 1, 2]) (v := .pointer (some ⟨t, oo + 1, none⟩)) ho hs hfr.1 hfr.2 (hQ _ _) (Or.inl ⟨(wantedN hg), fun w' hS => run_fB1 _ _ hop w' (by (repeat (first | rw [eval_same _ _ (by (try simp only [put_size]); omega)] | rw [eval_far _ _ (by decide)])))⟩) hS0 ?_
  rw [hd, ← LR_snoc]
  clear ho hg hop hd hfr
  obtain ⟨o4, ho, hg, hop, hd⟩ := isOpG_out q4
  have hfr := hall ([0, 1, 2, 3], 4) (by simp)
  refine wpAnyH_take (listed := LR 8 [0, 1, 2, 3]) (v := pR) ho hs hfr.1 hfr.2 (hQ _ _) (Or.inl ⟨(wantedN hg), fun w' hS => run_loadV _ _ hop w' (by (repeat (first | rw [eval_same _ _ (by (try simp only [put_size]); omega)] | rw [eval_far _ _ (by decide)]))) (LR1 _ hS)⟩) hS0 ?_
  rw [hd, ← LR_snoc]
  clear ho hg hop hd hfr
  refine wpAnyH_all r5 (by simp) ?_
  intro i hi
  obtain rfl := List.mem_singleton.1 hi
  obtain ⟨o5, ho, hg, hop, hd⟩ := isOpG_out q5
  have x5_0 : ((((((a0.put (some 55) (sq)).put (some 56) (.pointer (some ⟨t, oo, none⟩))).put (some 57) (.pointer (some ⟨t, oo, none⟩))).put (some 58) (.pointer (some ⟨t, oo + 1, none⟩))).put (some 59) (pR))).eval (.tmp 59) = pR := (by (repeat (first | rw [eval_same _ _ (by (try simp only [put_size]); omega)] | rw [eval_far _ _ (by decide)])))
  refine wpOp_callG ho (wantedN hg) (run_callV 11 Try.func11 (by kernel_rfl) (by kernel_rfl) #[.tmp 59] _ hop #[pR] (by simp only [List.map_toArray, List.map_cons, List.map_nil, x5_0])) ?_
  refine (K1).mono ?_
  rintro e u1 ⟨wl, rfl, r1⟩
  have hS5 := keep1 _ _ r1
  refine ⟨_, rfl, hS5, ?_⟩
  rw [hd]
  clear ho hg hop hd
  rw [← LR_snoc]
  refine wpAnyH_all r6 (by simp) ?_
  intro i hi
  obtain rfl := List.mem_singleton.1 hi
  obtain ⟨o6, ho, hg, hop, hd⟩ := isOpG_out q6
  have x6_0 : (((((((a0.put (some 55) (sq)).put (some 56) (.pointer (some ⟨t, oo, none⟩))).put (some 57) (.pointer (some ⟨t, oo, none⟩))).put (some 58) (.pointer (some ⟨t, oo + 1, none⟩))).put (some 59) (pR)).put (some 60) (wl))).eval (.tmp 55) = sq := (by (repeat (first | rw [eval_same _ _ (by (try simp only [put_size]); omega)] | rw [eval_far _ _ (by decide)])))
  have x6_1 : (((((((a0.put (some 55) (sq)).put (some 56) (.pointer (some ⟨t, oo, none⟩))).put (some 57) (.pointer (some ⟨t, oo, none⟩))).put (some 58) (.pointer (some ⟨t, oo + 1, none⟩))).put (some 59) (pR)).put (some 60) (wl))).eval (.tmp 60) = wl := (by (repeat (first | rw [eval_same _ _ (by (try simp only [put_size]); omega)] | rw [eval_far _ _ (by decide)])))
  have x6_2 : (((((((a0.put (some 55) (sq)).put (some 56) (.pointer (some ⟨t, oo, none⟩))).put (some 57) (.pointer (some ⟨t, oo, none⟩))).put (some 58) (.pointer (some ⟨t, oo + 1, none⟩))).put (some 59) (pR)).put (some 60) (wl))).eval (.const (.int .i64 (-1))) = .int .i64 (-1) := rfl
  refine wpOp_callG ho (wantedN hg) (run_callV 9 Try.func9 (by kernel_rfl) (by kernel_rfl) #[.tmp 55, .tmp 60, .const (.int .i64 (-1))] _ hop #[sq, wl, .int .i64 (-1)] (by simp only [List.map_toArray, List.map_cons, List.map_nil, x6_0, x6_1, x6_2])) ?_
  refine (K2 _ _ r1).mono ?_
  rintro e u2 ⟨rfl, r2⟩
  have hS6 := keep2 _ r2
  refine ⟨_, rfl, hS6, ?_⟩
  rw [hd]
  clear ho hg hop hd
  rw [← LR_snoc]
  obtain ⟨o7, ho, hg, hop, hd⟩ := isOpG_out q7
  have hfr := hall ([0, 1, 2, 3, 4, 5, 6], 7) (by simp)
  refine wpAnyH_take (listed := LR 8 [0, 1, 2, 3, 4, 5, 6]) (v := .bool false) ho hs hfr.1 hfr.2 (hQ _ _) (Or.inl ⟨(wantedN hg), fun w' hS => run_notV (b := true) _ _ hop w' (by (repeat (first | rw [eval_same _ _ (by (try simp only [put_size]); omega)] | rw [eval_far _ _ (by decide)])))⟩) hS6 ?_
  rw [hd, ← LR_snoc]
  clear ho hg hop hd hfr
  exact wpAnyH_done rend (F _ wl r2) _
def areg14_takes : List (List Nat × Nat) := [([], 0), ([0], 1), ([0, 1], 2), ([0, 1, 2], 3), ([0, 1, 2, 3], 4), ([0, 1, 2, 3, 4], 5), ([0, 1, 2, 3, 4, 5, 6], 7), ([0, 1, 2, 3, 4, 5, 6, 7], 8), ([0, 1, 2, 3, 4, 5, 6, 7, 8], 9), ([0, 1, 2, 3, 4, 5, 6, 7, 8, 9], 10), ([0, 1, 2, 3, 4, 5, 6, 7, 8, 9, 10], 11)]
set_option maxHeartbeats 3200000 in
theorem areg14 {ops : Array Oper} {Q : Exit → Act → World → Prop} {S : World → Prop} {a0 : Act} {w5 : World} {t oo B0 B1 : Nat} {pT X v0 v1 : Value} {ty1 : Array TypeId} (R1 : World → Prop)
    (q0 : isOpG ops 0 none (.load 59 (.tmp 2)) (some 64))
    (q1 : isOpG ops 1 none (.nilCheck (.tmp 64)) (some 65))
    (q2 : isOpG ops 2 none (.fieldAddr 29 (.tmp 65) 0) (some 66))
    (q3 : isOpG ops 3 none (.load 24 (.tmp 66)) (some 67))
    (q4 : isOpG ops 4 none (.fieldAddr 45 (.tmp 3) 4) (some 68))
    (q5 : isOpG ops 5 none (.load 39 (.tmp 68)) (some 69))
    (q6 : isOpG ops 6 none (.call { callee := .value (.func 13), args := #[.tmp 67, .tmp 69], argTypes := ty1 }) (some 70))
    (q7 : isOpG ops 7 none (.move (.tmp 70)) (some 63))
    (q8 : isOpG ops 8 none (.extract (.tmp 63) 0) (some 71))
    (q9 : isOpG ops 9 none (.extract (.tmp 63) 1) (some 72))
    (q10 : isOpG ops 10 none (.assign (.tmp 71)) (some 10))
    (q11 : isOpG ops 11 none (.assign (.tmp 72)) (some 11))
    (hs : Region.noSelect ops = true) (hq : (areg14_takes.all fun p => Region.free .any ops (LR 12 p.1) p.2 && (Region.ready .any ops (LR 12 p.1)).contains p.2) = true)
    (r6 : Region.ready .any ops (LR 12 [0, 1, 2, 3, 4, 5]) = [6])
    (rend : Region.ready .any ops (LR 12 [0, 1, 2, 3, 4, 5, 6, 7, 8, 9, 10, 11]) = [])
    (hQ : ∀ (d : Option Tmp) (v : Value) c a w, Q (.panic c) (a.put d v) w → Q (.panic c) a w)
    (hsz : 131 < a0.tmps.size) (e2 : a0.eval (.tmp 2) = .pointer (some ⟨B0, 0, none⟩)) (e3 : a0.eval (.tmp 3) = .pointer (some ⟨B1, 0, none⟩))
    (hS0 : S w5.drew)
    (keep1 : ∀ u, R1 u → S u) (LB : ∀ u, S u → (loadVar 59 ⟨B0, 0, none⟩).run Try.prog u = .ok (.pointer (some ⟨t, oo, none⟩)) u) (LT : ∀ u, S u → (loadVar 24 ⟨t, oo, none⟩).run Try.prog u = .ok pT u) (LX : ∀ u, S u → (loadVar 39 ⟨B1, 4, none⟩).run Try.prog u = .ok X u)
    (K1 : Calls Try.prog 13 #[pT, X] w5.drew fun e u => e = .returned (.tuple #[v0, v1]) ∧ R1 u)
    (F : ∀ (wc : World), R1 wc → Q .normal ((((((((((((a0.put (some 64) (.pointer (some ⟨t, oo, none⟩))).put (some 65) (.pointer (some ⟨t, oo, none⟩))).put (some 66) (.pointer (some ⟨t, oo, none⟩))).put (some 67) (pT)).put (some 68) (.pointer (some ⟨B1, 4, none⟩))).put (some 69) (X)).put (some 70) (.tuple #[v0, v1])).put (some 63) (.tuple #[v0, v1])).put (some 71) (v0)).put (some 72) (v1)).put (some 10) (v0)).put (some 11) (v1)) wc) :
    wpAnyH Try.prog .any ops Q S 12 (LR 12 []) a0 w5.drew := by
  have hall : ∀ p ∈ areg14_takes, Region.free .any ops (LR 12 p.1) p.2 = true ∧ (Region.ready .any ops (LR 12 p.1)).contains p.2 = true := by
    intro p hp
    have := List.all_eq_true.1 hq p hp
    simpa using this
  unfold areg14_takes at hall
  obtain ⟨o0, ho, hg, hop, hd⟩ := isOpG_out q0
  have hfr := hall ([], 0) (by simp)
  refine wpAnyH_take (listed := LR 12 []) (v := .pointer (some ⟨t, oo, none⟩)) ho hs hfr.1 hfr.2 (hQ _ _) (Or.inl ⟨(wantedN hg), fun w' hS => run_loadV _ _ hop w' (by (repeat rw [eval_far _ _ (by decide)]); exact e2) (LB _ hS)⟩) hS0 ?_
  rw [hd, ← LR_snoc]
  clear ho hg hop hd hfr
  obtain ⟨o1, ho, hg, hop, hd⟩ := isOpG_out q1
  have hfr := hall ([0], 1) (by simp)
  refine wpAnyH_take (listed := LR 12 [0]) (v := .pointer (some ⟨t, oo, none⟩)) ho hs hfr.1 hfr.2 (hQ _ _) (Or.inl ⟨(wantedN hg), fun w' hS => run_nilV _ _ hop w' (by (repeat (first | rw [eval_same _ _ (by (try simp only [put_size]); omega)] | rw [eval_far _ _ (by decide)])))⟩) hS0 ?_
  rw [hd, ← LR_snoc]
  clear ho hg hop hd hfr
  obtain ⟨o2, ho, hg, hop, hd⟩ := isOpG_out q2
  have hfr := hall ([0, 1], 2) (by simp)
  refine wpAnyH_take (listed := LR 12 [0, 1]) (v := .pointer (some ⟨t, oo, none⟩)) ho hs hfr.1 hfr.2 (hQ _ _) (Or.inl ⟨(wantedN hg), fun w' hS => run_fB0 _ _ hop w' (by (repeat (first | rw [eval_same _ _ (by (try simp only [put_size]); omega)] | rw [eval_far _ _ (by decide)])))⟩) hS0 ?_
  rw [hd, ← LR_snoc]
  clear ho hg hop hd hfr
  obtain ⟨o3, ho, hg, hop, hd⟩ := isOpG_out q3
  have hfr := hall ([0, 1, 2], 3) (by simp)
  refine wpAnyH_take (listed := LR 12 [0, 1, 2]) (v := pT) ho hs hfr.1 hfr.2 (hQ _ _) (Or.inl ⟨(wantedN hg), fun w' hS => run_loadV _ _ hop w' (by (repeat (first | rw [eval_same _ _ (by (try simp only [put_size]); omega)] | rw [eval_far _ _ (by decide)]))) (LT _ hS)⟩) hS0 ?_
  rw [hd, ← LR_snoc]
  clear ho hg hop hd hfr
  obtain ⟨o4, ho, hg, hop, hd⟩ := isOpG_out q4
  have hfr := hall ([0, 1, 2, 3], 4) (by simp)
  refine wpAnyH_take (listed := LR 12 [0, 1, 2, 3]) (v := .pointer (some ⟨B1, 4, none⟩)) ho hs hfr.1 hfr.2 (hQ _ _) (Or.inl ⟨(wantedN hg), fun w' hS => run_fO4 _ _ hop w' (by (repeat rw [eval_far _ _ (by decide)]); exact e3)⟩) hS0 ?_
  rw [hd, ← LR_snoc]
  clear ho hg hop hd hfr
  obtain ⟨o5, ho, hg, hop, hd⟩ := isOpG_out q5
  have hfr := hall ([0, 1, 2, 3, 4], 5) (by simp)
  refine wpAnyH_take (listed := LR 12 [0, 1, 2, 3, 4]) (v := X) ho hs hfr.1 hfr.2 (hQ _ _) (Or.inl ⟨(wantedN hg), fun w' hS => run_loadV _ _ hop w' (by (repeat (first | rw [eval_same _ _ (by (try simp only [put_size]); omega)] | rw [eval_far _ _ (by decide)]))) (LX _ hS)⟩) hS0 ?_
  rw [hd, ← LR_snoc]
  clear ho hg hop hd hfr
  refine wpAnyH_all r6 (by simp) ?_
  intro i hi
  obtain rfl := List.mem_singleton.1 hi
  obtain ⟨o6, ho, hg, hop, hd⟩ := isOpG_out q6
  have x6_0 : (((((((a0.put (some 64) (.pointer (some ⟨t, oo, none⟩))).put (some 65) (.pointer (some ⟨t, oo, none⟩))).put (some 66) (.pointer (some ⟨t, oo, none⟩))).put (some 67) (pT)).put (some 68) (.pointer (some ⟨B1, 4, none⟩))).put (some 69) (X))).eval (.tmp 67) = pT := (by (repeat (first | rw [eval_same _ _ (by (try simp only [put_size]); omega)] | rw [eval_far _ _ (by decide)])))
  have x6_1 : (((((((a0.put (some 64) (.pointer (some ⟨t, oo, none⟩))).put (some 65) (.pointer (some ⟨t, oo, none⟩))).put (some 66) (.pointer (some ⟨t, oo, none⟩))).put (some 67) (pT)).put (some 68) (.pointer (some ⟨B1, 4, none⟩))).put (some 69) (X))).eval (.tmp 69) = X := (by (repeat (first | rw [eval_same _ _ (by (try simp only [put_size]); omega)] | rw [eval_far _ _ (by decide)])))
  refine wpOp_callG ho (wantedN hg) (run_callV 13 Try.func13 (by kernel_rfl) (by kernel_rfl) #[.tmp 67, .tmp 69] _ hop #[pT, X] (by simp only [List.map_toArray, List.map_cons, List.map_nil, x6_0, x6_1])) ?_
  refine (K1).mono ?_
  rintro e u1 ⟨rfl, r1⟩
  have hS6 := keep1 _ r1
  refine ⟨_, rfl, hS6, ?_⟩
  rw [hd]
  clear ho hg hop hd
  rw [← LR_snoc]
  obtain ⟨o7, ho, hg, hop, hd⟩ := isOpG_out q7
  have hfr := hall ([0, 1, 2, 3, 4, 5, 6], 7) (by simp)
  refine wpAnyH_take (listed := LR 12 [0, 1, 2, 3, 4, 5, 6]) (v := .tuple #[v0, v1]) ho hs hfr.1 hfr.2 (hQ _ _) (Or.inl ⟨(wantedN hg), fun w' hS => run_move _ _ hop w' (by (repeat (first | rw [eval_same _ _ (by (try simp only [put_size]); omega)] | rw [eval_far _ _ (by decide)])))⟩) hS6 ?_
  rw [hd, ← LR_snoc]
  clear ho hg hop hd hfr
  obtain ⟨o8, ho, hg, hop, hd⟩ := isOpG_out q8
  have hfr := hall ([0, 1, 2, 3, 4, 5, 6, 7], 8) (by simp)
  refine wpAnyH_take (listed := LR 12 [0, 1, 2, 3, 4, 5, 6, 7]) (v := v0) ho hs hfr.1 hfr.2 (hQ _ _) (Or.inl ⟨(wantedN hg), fun w' hS => run_exV _ _ hop w' (by (repeat (first | rw [eval_same _ _ (by (try simp only [put_size]); omega)] | rw [eval_far _ _ (by decide)]))) rfl⟩) hS6 ?_
  rw [hd, ← LR_snoc]
  clear ho hg hop hd hfr
  obtain ⟨o9, ho, hg, hop, hd⟩ := isOpG_out q9
  have hfr := hall ([0, 1, 2, 3, 4, 5, 6, 7, 8], 9) (by simp)
  refine wpAnyH_take (listed := LR 12 [0, 1, 2, 3, 4, 5, 6, 7, 8]) (v := v1) ho hs hfr.1 hfr.2 (hQ _ _) (Or.inl ⟨(wantedN hg), fun w' hS => run_exV _ _ hop w' (by (repeat (first | rw [eval_same _ _ (by (try simp only [put_size]); omega)] | rw [eval_far _ _ (by decide)]))) rfl⟩) hS6 ?_
  rw [hd, ← LR_snoc]
  clear ho hg hop hd hfr
  obtain ⟨o10, ho, hg, hop, hd⟩ := isOpG_out q10
  have hfr := hall ([0, 1, 2, 3, 4, 5, 6, 7, 8, 9], 10) (by simp)
  refine wpAnyH_take (listed := LR 12 [0, 1, 2, 3, 4, 5, 6, 7, 8, 9]) (v := v0) ho hs hfr.1 hfr.2 (hQ _ _) (Or.inl ⟨(wantedN hg), fun w' hS => run_assignV _ _ hop w' (by (repeat (first | rw [eval_same _ _ (by (try simp only [put_size]); omega)] | rw [eval_far _ _ (by decide)])))⟩) hS6 ?_
  rw [hd, ← LR_snoc]
  clear ho hg hop hd hfr
  obtain ⟨o11, ho, hg, hop, hd⟩ := isOpG_out q11
  have hfr := hall ([0, 1, 2, 3, 4, 5, 6, 7, 8, 9, 10], 11) (by simp)
  refine wpAnyH_take (listed := LR 12 [0, 1, 2, 3, 4, 5, 6, 7, 8, 9, 10]) (v := v1) ho hs hfr.1 hfr.2 (hQ _ _) (Or.inl ⟨(wantedN hg), fun w' hS => run_assignV _ _ hop w' (by (repeat (first | rw [eval_same _ _ (by (try simp only [put_size]); omega)] | rw [eval_far _ _ (by decide)])))⟩) hS6 ?_
  rw [hd, ← LR_snoc]
  clear ho hg hop hd hfr
  exact wpAnyH_done rend (F _ r1) _
def areg15_takes : List (List Nat × Nat) := [([], 0), ([0], 1), ([0, 1], 2), ([0, 1, 2], 3), ([0, 1, 2, 3], 4), ([0, 1, 2, 3, 4], 5), ([0, 1, 2, 3, 4, 5, 6], 7), ([0, 1, 2, 3, 4, 5, 6, 7], 8), ([0, 1, 2, 3, 4, 5, 6, 7, 8], 9), ([0, 1, 2, 3, 4, 5, 6, 7, 8, 9], 10), ([0, 1, 2, 3, 4, 5, 6, 7, 8, 9, 10], 11)]
set_option maxHeartbeats 3200000 in
theorem areg15 {ops : Array Oper} {Q : Exit → Act → World → Prop} {S : World → Prop} {a0 : Act} {w5 : World} {t oo B0 B1 : Nat} {pR X v0 v1 : Value} {ty1 : Array TypeId} (R1 : World → Prop)
    (q0 : isOpG ops 0 none (.load 59 (.tmp 2)) (some 74))
    (q1 : isOpG ops 1 none (.nilCheck (.tmp 74)) (some 75))
    (q2 : isOpG ops 2 none (.fieldAddr 29 (.tmp 75) 1) (some 76))
    (q3 : isOpG ops 3 none (.load 25 (.tmp 76)) (some 77))
    (q4 : isOpG ops 4 none (.fieldAddr 45 (.tmp 3) 4) (some 78))
    (q5 : isOpG ops 5 none (.load 39 (.tmp 78)) (some 79))
    (q6 : isOpG ops 6 none (.call { callee := .value (.func 14), args := #[.tmp 77, .tmp 79], argTypes := ty1 }) (some 80))
    (q7 : isOpG ops 7 none (.move (.tmp 80)) (some 73))
    (q8 : isOpG ops 8 none (.extract (.tmp 73) 0) (some 81))
    (q9 : isOpG ops 9 none (.extract (.tmp 73) 1) (some 82))
    (q10 : isOpG ops 10 none (.assign (.tmp 81)) (some 12))
    (q11 : isOpG ops 11 none (.assign (.tmp 82)) (some 13))
    (hs : Region.noSelect ops = true) (hq : (areg15_takes.all fun p => Region.free .any ops (LR 12 p.1) p.2 && (Region.ready .any ops (LR 12 p.1)).contains p.2) = true)
    (r6 : Region.ready .any ops (LR 12 [0, 1, 2, 3, 4, 5]) = [6])
    (rend : Region.ready .any ops (LR 12 [0, 1, 2, 3, 4, 5, 6, 7, 8, 9, 10, 11]) = [])
    (hQ : ∀ (d : Option Tmp) (v : Value) c a w, Q (.panic c) (a.put d v) w → Q (.panic c) a w)
    (hsz : 131 < a0.tmps.size) (e2 : a0.eval (.tmp 2) = .pointer (some ⟨B0, 0, none⟩)) (e3 : a0.eval (.tmp 3) = .pointer (some ⟨B1, 0, none⟩))
    (hS0 : S w5.drew)
    (keep1 : ∀ u, R1 u → S u) (LB : ∀ u, S u → (loadVar 59 ⟨B0, 0, none⟩).run Try.prog u = .ok (.pointer (some ⟨t, oo, none⟩)) u) (LR1 : ∀ u, S u → (loadVar 25 ⟨t, oo + 1, none⟩).run Try.prog u = .ok pR u) (LX : ∀ u, S u → (loadVar 39 ⟨B1, 4, none⟩).run Try.prog u = .ok X u)
    (K1 : Calls Try.prog 14 #[pR, X] w5.drew fun e u => e = .returned (.tuple #[v0, v1]) ∧ R1 u)
    (F : ∀ (wc : World), R1 wc → Q .normal ((((((((((((a0.put (some 74) (.pointer (some ⟨t, oo, none⟩))).put (some 75) (.pointer (some ⟨t, oo, none⟩))).put (some 76) (.pointer (some ⟨t, oo + 1, none⟩))).put (some 77) (pR)).put (some 78) (.pointer (some ⟨B1, 4, none⟩))).put (some 79) (X)).put (some 80) (.tuple #[v0, v1])).put (some 73) (.tuple #[v0, v1])).put (some 81) (v0)).put (some 82) (v1)).put (some 12) (v0)).put (some 13) (v1)) wc) :
    wpAnyH Try.prog .any ops Q S 12 (LR 12 []) a0 w5.drew := by
  have hall : ∀ p ∈ areg15_takes, Region.free .any ops (LR 12 p.1) p.2 = true ∧ (Region.ready .any ops (LR 12 p.1)).contains p.2 = true := by
    intro p hp
    have := List.all_eq_true.1 hq p hp
    simpa using this
  unfold areg15_takes at hall
  obtain ⟨o0, ho, hg, hop, hd⟩ := isOpG_out q0
  have hfr := hall ([], 0) (by simp)
  refine wpAnyH_take (listed := LR 12 []) (v := .pointer (some ⟨t, oo, none⟩)) ho hs hfr.1 hfr.2 (hQ _ _) (Or.inl ⟨(wantedN hg), fun w' hS => run_loadV _ _ hop w' (by (repeat rw [eval_far _ _ (by decide)]); exact e2) (LB _ hS)⟩) hS0 ?_
  rw [hd, ← LR_snoc]
  clear ho hg hop hd hfr
  obtain ⟨o1, ho, hg, hop, hd⟩ := isOpG_out q1
  have hfr := hall ([0], 1) (by simp)
  refine wpAnyH_take (listed := LR 12 [0]) (v := .pointer (some ⟨t, oo, none⟩)) ho hs hfr.1 hfr.2 (hQ _ _) (Or.inl ⟨(wantedN hg), fun w' hS => run_nilV _ _ hop w' (by (repeat (first | rw [eval_same _ _ (by (try simp only [put_size]); omega)] | rw [eval_far _ _ (by decide)])))⟩) hS0 ?_
  rw [hd, ← LR_snoc]
  clear ho hg hop hd hfr
  obtain ⟨o2, ho, hg, hop, hd⟩ := isOpG_out q2
  have hfr := hall ([0, 1], 2) (by simp)
  refine wpAnyH_take (listed := LR 12 [0, 1]) (v := .pointer (some ⟨t, oo + 1, none⟩)) ho hs hfr.1 hfr.2 (hQ _ _) (Or.inl ⟨(wantedN hg), fun w' hS => run_fB1 _ _ hop w' (by (repeat (first | rw [eval_same _ _ (by (try simp only [put_size]); omega)] | rw [eval_far _ _ (by decide)])))⟩) hS0 ?_
  rw [hd, ← LR_snoc]
  clear ho hg hop hd hfr
  obtain ⟨o3, ho, hg, hop, hd⟩ := isOpG_out q3
  have hfr := hall ([0, 1, 2], 3) (by simp)
  refine wpAnyH_take (listed := LR 12 [0, 1, 2]) (v := pR) ho hs hfr.1 hfr.2 (hQ _ _) (Or.inl ⟨(wantedN hg), fun w' hS => run_loadV _ _ hop w' (by (repeat (first | rw [eval_same _ _ (by (try simp only [put_size]); omega)] | rw [eval_far _ _ (by decide)]))) (LR1 _ hS)⟩) hS0 ?_
  rw [hd, ← LR_snoc]
  clear ho hg hop hd hfr
  obtain ⟨o4, ho, hg, hop, hd⟩ := isOpG_out q4
  have hfr := hall ([0, 1, 2, 3], 4) (by simp)
  refine wpAnyH_take (listed := LR 12 [0, 1, 2, 3]) (v := .pointer (some ⟨B1, 4, none⟩)) ho hs hfr.1 hfr.2 (hQ _ _) (Or.inl ⟨(wantedN hg), fun w' hS => run_fO4 _ _ hop w' (by (repeat rw [eval_far _ _ (by decide)]); exact e3)⟩) hS0 ?_
  rw [hd, ← LR_snoc]
  clear ho hg hop hd hfr
  obtain ⟨o5, ho, hg, hop, hd⟩ := isOpG_out q5
  have hfr := hall ([0, 1, 2, 3, 4], 5) (by simp)
  refine wpAnyH_take (listed := LR 12 [0, 1, 2, 3, 4]) (v := X) ho hs hfr.1 hfr.2 (hQ _ _) (Or.inl ⟨(wantedN hg), fun w' hS => run_loadV _ _ hop w' (by (repeat (first | rw [eval_same _ _ (by (try simp only [put_size]); omega)] | rw [eval_far _ _ (by decide)]))) (LX _ hS)⟩) hS0 ?_
  rw [hd, ← LR_snoc]
  clear ho hg hop hd hfr
  refine wpAnyH_all r6 (by simp) ?_
  intro i hi
  obtain rfl := List.mem_singleton.1 hi
  obtain ⟨o6, ho, hg, hop, hd⟩ := isOpG_out q6
  have x6_0 : (((((((a0.put (some 74) (.pointer (some ⟨t, oo, none⟩))).put (some 75) (.pointer (some ⟨t, oo, none⟩))).put (some 76) (.pointer (some ⟨t, oo + 1, none⟩))).put (some 77) (pR)).put (some 78) (.pointer (some ⟨B1, 4, none⟩))).put (some 79) (X))).eval (.tmp 77) = pR := (by (repeat (first | rw [eval_same _ _ (by (try simp only [put_size]); omega)] | rw [eval_far _ _ (by decide)])))
  have x6_1 : (((((((a0.put (some 74) (.pointer (some ⟨t, oo, none⟩))).put (some 75) (.pointer (some ⟨t, oo, none⟩))).put (some 76) (.pointer (some ⟨t, oo + 1, none⟩))).put (some 77) (pR)).put (some 78) (.pointer (some ⟨B1, 4, none⟩))).put (some 79) (X))).eval (.tmp 79) = X := (by (repeat (first | rw [eval_same _ _ (by (try simp only [put_size]); omega)] | rw [eval_far _ _ (by decide)])))
  refine wpOp_callG ho (wantedN hg) (run_callV 14 Try.func14 (by kernel_rfl) (by kernel_rfl) #[.tmp 77, .tmp 79] _ hop #[pR, X] (by simp only [List.map_toArray, List.map_cons, List.map_nil, x6_0, x6_1])) ?_
  refine (K1).mono ?_
  rintro e u1 ⟨rfl, r1⟩
  have hS6 := keep1 _ r1
  refine ⟨_, rfl, hS6, ?_⟩
  rw [hd]
  clear ho hg hop hd
  rw [← LR_snoc]
  obtain ⟨o7, ho, hg, hop, hd⟩ := isOpG_out q7
  have hfr := hall ([0, 1, 2, 3, 4, 5, 6], 7) (by simp)
  refine wpAnyH_take (listed := LR 12 [0, 1, 2, 3, 4, 5, 6]) (v := .tuple #[v0, v1]) ho hs hfr.1 hfr.2 (hQ _ _) (Or.inl ⟨(wantedN hg), fun w' hS => run_move _ _ hop w' (by (repeat (first | rw [eval_same _ _ (by (try simp only [put_size]); omega)] | rw [eval_far _ _ (by decide)])))⟩) hS6 ?_
  rw [hd, ← LR_snoc]
  clear ho hg hop hd hfr
  obtain ⟨o8, ho, hg, hop, hd⟩ := isOpG_out q8
  have hfr := hall ([0, 1, 2, 3, 4, 5, 6, 7], 8) (by simp)
  refine wpAnyH_take (listed := LR 12 [0, 1, 2, 3, 4, 5, 6, 7]) (v := v0) ho hs hfr.1 hfr.2 (hQ _ _) (Or.inl ⟨(wantedN hg), fun w' hS => run_exV _ _ hop w' (by (repeat (first | rw [eval_same _ _ (by (try simp only [put_size]); omega)] | rw [eval_far _ _ (by decide)]))) rfl⟩) hS6 ?_
  rw [hd, ← LR_snoc]
  clear ho hg hop hd hfr
  obtain ⟨o9, ho, hg, hop, hd⟩ := isOpG_out q9
  have hfr := hall ([0, 1, 2, 3, 4, 5, 6, 7, 8], 9) (by simp)
  refine wpAnyH_take (listed := LR 12 [0, 1, 2, 3, 4, 5, 6, 7, 8]) (v := v1) ho hs hfr.1 hfr.2 (hQ _ _) (Or.inl ⟨(wantedN hg), fun w' hS => run_exV _ _ hop w' (by (repeat (first | rw [eval_same _ _ (by (try simp only [put_size]); omega)] | rw [eval_far _ _ (by decide)]))) rfl⟩) hS6 ?_
  rw [hd, ← LR_snoc]
  clear ho hg hop hd hfr
  obtain ⟨o10, ho, hg, hop, hd⟩ := isOpG_out q10
  have hfr := hall ([0, 1, 2, 3, 4, 5, 6, 7, 8, 9], 10) (by simp)
  refine wpAnyH_take (listed := LR 12 [0, 1, 2, 3, 4, 5, 6, 7, 8, 9]) (v := v0) ho hs hfr.1 hfr.2 (hQ _ _) (Or.inl ⟨(wantedN hg), fun w' hS => run_assignV _ _ hop w' (by (repeat (first | rw [eval_same _ _ (by (try simp only [put_size]); omega)] | rw [eval_far _ _ (by decide)])))⟩) hS6 ?_
  rw [hd, ← LR_snoc]
  clear ho hg hop hd hfr
  obtain ⟨o11, ho, hg, hop, hd⟩ := isOpG_out q11
  have hfr := hall ([0, 1, 2, 3, 4, 5, 6, 7, 8, 9, 10], 11) (by simp)
  refine wpAnyH_take (listed := LR 12 [0, 1, 2, 3, 4, 5, 6, 7, 8, 9, 10]) (v := v1) ho hs hfr.1 hfr.2 (hQ _ _) (Or.inl ⟨(wantedN hg), fun w' hS => run_assignV _ _ hop w' (by (repeat (first | rw [eval_same _ _ (by (try simp only [put_size]); omega)] | rw [eval_far _ _ (by decide)])))⟩) hS6 ?_
  rw [hd, ← LR_snoc]
  clear ho hg hop hd hfr
  exact wpAnyH_done rend (F _ r1) _
def areg16_takes : List (List Nat × Nat) := [([], 0), ([0], 1), ([0, 1], 2), ([0, 1, 2], 3), ([0, 1, 2, 3], 4), ([0, 1, 2, 3, 4], 5), ([0, 1, 2, 3, 4, 5], 6), ([0, 1, 2, 3, 4, 5, 6], 7), ([0, 1, 2, 3, 4, 5, 6, 7], 8), ([0, 1, 2, 3, 4, 5, 6, 7, 8], 9), ([0, 1, 2, 3, 4, 5, 6, 7, 8, 9], 10), ([0, 1, 2, 3, 4, 5, 6, 7, 8, 9, 10], 11), ([0, 1, 2, 3, 4, 5, 6, 7, 8, 9, 10, 11], 12), ([0, 1, 2, 3, 4, 5, 6, 7, 8, 9, 10, 11, 12], 13), ([0, 1, 2, 3, 4, 5, 6, 7, 8, 9, 10, 11, 12, 13], 14), ([0, 1, 2, 3, 4, 5, 6, 7, 8, 9, 10, 11, 12, 13, 14], 16), ([0, 1, 2, 3, 4, 5, 6, 7, 8, 9, 10, 11, 12, 13, 14, 16], 17), ([0, 1, 2, 3, 4, 5, 6, 7, 8, 9, 10, 11, 12, 13, 14, 16, 17], 18), ([0, 1, 2, 3, 4, 5, 6, 7, 8, 9, 10, 11, 12, 13, 14, 16, 17, 18], 19), ([0, 1, 2, 3, 4, 5, 6, 7, 8, 9, 10, 11, 12, 13, 14, 16, 17, 18, 19], 20), ([0, 1, 2, 3, 4, 5, 6, 7, 8, 9, 10, 11, 12, 13, 14, 16, 17, 18, 19, 20], 21), ([0, 1, 2, 3, 4, 5, 6, 7, 8, 9, 10, 11, 12, 13, 14, 16, 17, 18, 19, 20, 21, 15, 22], 23), ([0, 1, 2, 3, 4, 5, 6, 7, 8, 9, 10, 11, 12, 13, 14, 16, 17, 18, 19, 20, 21, 15, 22, 23], 24), ([0, 1, 2, 3, 4, 5, 6, 7, 8, 9, 10, 11, 12, 13, 14, 16, 17, 18, 19, 20, 21, 15, 22, 23, 24], 25), ([0, 1, 2, 3, 4, 5, 6, 7, 8, 9, 10, 11, 12, 13, 14, 16, 17, 18, 19, 20, 21, 15, 22, 23, 24, 25], 26), ([0, 1, 2, 3, 4, 5, 6, 7, 8, 9, 10, 11, 12, 13, 14, 16, 17, 18, 19, 20, 21, 15, 22, 23, 24, 25, 26], 27), ([0, 1, 2, 3, 4, 5, 6, 7, 8, 9, 10, 11, 12, 13, 14, 16, 17, 18, 19, 20, 21, 15, 22, 23, 24, 25, 26, 27], 28), ([0, 1, 2, 3, 4, 5, 6, 7, 8, 9, 10, 11, 12, 13, 14, 16, 17, 18, 19, 20, 21, 15, 22, 23, 24, 25, 26, 27, 28], 29), ([0, 1, 2, 3, 4, 5, 6, 7, 8, 9, 10, 11, 12, 13, 14, 16, 17, 18, 19, 20, 21, 15, 22, 23, 24, 25, 26, 27, 28, 29, 30], 31), ([0, 1, 2, 3, 4, 5, 6, 7, 8, 9, 10, 11, 12, 13, 14, 16, 17, 18, 19, 20, 21, 15, 22, 23, 24, 25, 26, 27, 28, 29, 30, 31], 32), ([0, 1, 2, 3, 4, 5, 6, 7, 8, 9, 10, 11, 12, 13, 14, 16, 17, 18, 19, 20, 21, 15, 22, 23, 24, 25, 26, 27, 28, 29, 30, 31, 32], 33), ([0, 1, 2, 3, 4, 5, 6, 7, 8, 9, 10, 11, 12, 13, 14, 16, 17, 18, 19, 20, 21, 15, 22, 23, 24, 25, 26, 27, 28, 29, 30, 31, 32, 33], 34), ([0, 1, 2, 3, 4, 5, 6, 7, 8, 9, 10, 11, 12, 13, 14, 16, 17, 18, 19, 20, 21, 15, 22, 23, 24, 25, 26, 27, 28, 29, 30, 31, 32, 33, 34], 35), ([0, 1, 2, 3, 4, 5, 6, 7, 8, 9, 10, 11, 12, 13, 14, 16, 17, 18, 19, 20, 21, 15, 22, 23, 24, 25, 26, 27, 28, 29, 30, 31, 32, 33, 34, 35], 36), ([0, 1, 2, 3, 4, 5, 6, 7, 8, 9, 10, 11, 12, 13, 14, 16, 17, 18, 19, 20, 21, 15, 22, 23, 24, 25, 26, 27, 28, 29, 30, 31, 32, 33, 34, 35, 36], 37), ([0, 1, 2, 3, 4, 5, 6, 7, 8, 9, 10, 11, 12, 13, 14, 16, 17, 18, 19, 20, 21, 15, 22, 23, 24, 25, 26, 27, 28, 29, 30, 31, 32, 33, 34, 35, 36, 37], 38), ([0, 1, 2, 3, 4, 5, 6, 7, 8, 9, 10, 11, 12, 13, 14, 16, 17, 18, 19, 20, 21, 15, 22, 23, 24, 25, 26, 27, 28, 29, 30, 31, 32, 33, 34, 35, 36, 37, 38, 39, 40], 41), ([0, 1, 2, 3, 4, 5, 6, 7, 8, 9, 10, 11, 12, 13, 14, 16, 17, 18, 19, 20, 21, 15, 22, 23, 24, 25, 26, 27, 28, 29, 30, 31, 32, 33, 34, 35, 36, 37, 38, 39, 40, 41], 42)]
set_option maxHeartbeats 12800000 in
theorem areg16 {ops : Array Oper} {Q : Exit → Act → World → Prop} {S : World → Prop} {a0 : Act} {w5 : World} {t oo B0 B1 BS ln lc : Nat} {la : Option Addr} {nn : Int} {pT pR sq v0 v1 cv : Value} {ty1 ty2 ty3 ty4 ty5 : Array TypeId} (R1 R2 R3 : World → Prop) (R4 : Value → World → Prop) (R5 : World → Prop)
    (q0 : isOpG ops 0 none (.move (.tmp 10)) (some 83))
    (q1 : isOpG ops 1 none (.move (.tmp 12)) (some 84))
    (q2 : isOpG ops 2 none (.binOp .neq 41 (.tmp 83) (.tmp 84) 41) (some 85))
    (q3 : isOpG ops 3 none (.move (.tmp 85)) (some 86))
    (q4 : isOpG ops 4 (some (3, false)) (.move (.tmp 11)) (some 87))
    (q5 : isOpG ops 5 (some (3, false)) (.move (.tmp 13)) (some 88))
    (q6 : isOpG ops 6 (some (3, false)) (.binOp .neq 31 (.tmp 87) (.tmp 88) 31) (some 89))
    (q7 : isOpG ops 7 none (.pick (.tmp 86) (.const (.bool true)) (.tmp 89)) (some 90))
    (q8 : isOpG ops 8 none (.move (.tmp 90)) (some 91))
    (q9 : isOpG ops 9 (some (8, false)) (.load 59 (.tmp 2)) (some 92))
    (q10 : isOpG ops 10 (some (8, false)) (.nilCheck (.tmp 92)) (some 93))
    (q11 : isOpG ops 11 (some (8, false)) (.fieldAddr 29 (.tmp 93) 0) (some 94))
    (q12 : isOpG ops 12 (some (8, false)) (.load 24 (.tmp 94)) (some 95))
    (q13 : isOpG ops 13 (some (8, false)) (.fieldAddr 45 (.tmp 3) 2) (some 96))
    (q14 : isOpG ops 14 (some (8, false)) (.load 3 (.tmp 96)) (some 97))
    (q16 : isOpG ops 16 (some (8, false)) (.load 59 (.tmp 2)) (some 99))
    (q17 : isOpG ops 17 (some (8, false)) (.nilCheck (.tmp 99)) (some 100))
    (q18 : isOpG ops 18 (some (8, false)) (.fieldAddr 29 (.tmp 100) 1) (some 101))
    (q19 : isOpG ops 19 (some (8, false)) (.load 25 (.tmp 101)) (some 102))
    (q20 : isOpG ops 20 (some (8, false)) (.fieldAddr 45 (.tmp 3) 2) (some 103))
    (q21 : isOpG ops 21 (some (8, false)) (.load 3 (.tmp 103)) (some 104))
    (q15 : isOpG ops 15 (some (8, false)) (.call { callee := .value (.func 33), args := #[.tmp 95, .tmp 97], argTypes := ty1 }) (some 98))
    (q22 : isOpG ops 22 (some (8, false)) (.call { callee := .value (.func 34), args := #[.tmp 102, .tmp 104], argTypes := ty2 }) (some 105))
    (q23 : isOpG ops 23 (some (8, false)) (.binOp .neq 31 (.tmp 98) (.tmp 105) 31) (some 106))
    (q24 : isOpG ops 24 none (.pick (.tmp 91) (.const (.bool true)) (.tmp 106)) (some 107))
    (q25 : isOpG ops 25 none (.move (.tmp 107)) (some 108))
    (q26 : isOpG ops 26 (some (25, false)) (.load 59 (.tmp 2)) (some 109))
    (q27 : isOpG ops 27 (some (25, false)) (.fieldAddr 45 (.tmp 3) 5) (some 110))
    (q28 : isOpG ops 28 (some (25, false)) (.load 40 (.tmp 110)) (some 111))
    (q29 : isOpG ops 29 (some (25, false)) (.build 45 #[(1, .const (.int .i64 4)), (5, .tmp 111)]) (some 112))
    (q30 : isOpG ops 30 (some (25, false)) (.call { callee := .value (.func 19), args := #[.tmp 109, .tmp 112], argTypes := ty3 }) (some 113))
    (q31 : isOpG ops 31 (some (25, false)) (.unOp .not 4 (.tmp 113)) (some 114))
    (q32 : isOpG ops 32 none (.pick (.tmp 108) (.const (.bool true)) (.tmp 114)) (some 115))
    (q33 : isOpG ops 33 none (.move (.tmp 115)) (some 116))
    (q34 : isOpG ops 34 (some (33, false)) (.load 27 (.tmp 6)) (some 117))
    (q35 : isOpG ops 35 (some (33, false)) (.load 59 (.tmp 2)) (some 118))
    (q36 : isOpG ops 36 (some (33, false)) (.nilCheck (.tmp 118)) (some 119))
    (q37 : isOpG ops 37 (some (33, false)) (.fieldAddr 29 (.tmp 119) 1) (some 120))
    (q38 : isOpG ops 38 (some (33, false)) (.load 25 (.tmp 120)) (some 121))
    (q39 : isOpG ops 39 (some (33, false)) (.call { callee := .value (.func 11), args := #[.tmp 121], argTypes := ty4 }) (some 122))
    (q40 : isOpG ops 40 (some (33, false)) (.call { callee := .value (.func 9), args := #[.tmp 117, .tmp 122, .const (.int .i64 (-1))], argTypes := ty5 }) (some 123))
    (q41 : isOpG ops 41 (some (33, false)) (.unOp .not 4 (.tmp 123)) (some 124))
    (q42 : isOpG ops 42 none (.pick (.tmp 116) (.const (.bool true)) (.tmp 124)) (some 125))
    (hs : Region.noSelect ops = true) (hq : (areg16_takes.all fun p => Region.free .any ops (LR 43 p.1) p.2 && (Region.ready .any ops (LR 43 p.1)).contains p.2) = true)
    (r15 : Region.ready .any ops (LR 43 [0, 1, 2, 3, 4, 5, 6, 7, 8, 9, 10, 11, 12, 13, 14, 16, 17, 18, 19, 20, 21]) = [15])
    (r22 : Region.ready .any ops (LR 43 [0, 1, 2, 3, 4, 5, 6, 7, 8, 9, 10, 11, 12, 13, 14, 16, 17, 18, 19, 20, 21, 15]) = [22])
    (r30 : Region.ready .any ops (LR 43 [0, 1, 2, 3, 4, 5, 6, 7, 8, 9, 10, 11, 12, 13, 14, 16, 17, 18, 19, 20, 21, 15, 22, 23, 24, 25, 26, 27, 28, 29]) = [30])
    (r39 : Region.ready .any ops (LR 43 [0, 1, 2, 3, 4, 5, 6, 7, 8, 9, 10, 11, 12, 13, 14, 16, 17, 18, 19, 20, 21, 15, 22, 23, 24, 25, 26, 27, 28, 29, 30, 31, 32, 33, 34, 35, 36, 37, 38]) = [39])
    (r40 : Region.ready .any ops (LR 43 [0, 1, 2, 3, 4, 5, 6, 7, 8, 9, 10, 11, 12, 13, 14, 16, 17, 18, 19, 20, 21, 15, 22, 23, 24, 25, 26, 27, 28, 29, 30, 31, 32, 33, 34, 35, 36, 37, 38, 39]) = [40])
    (rend : Region.ready .any ops (LR 43 [0, 1, 2, 3, 4, 5, 6, 7, 8, 9, 10, 11, 12, 13, 14, 16, 17, 18, 19, 20, 21, 15, 22, 23, 24, 25, 26, 27, 28, 29, 30, 31, 32, 33, 34, 35, 36, 37, 38, 39, 40, 41, 42]) = [])
    (hQ : ∀ (d : Option Tmp) (v : Value) c a w, Q (.panic c) (a.put d v) w → Q (.panic c) a w)
    (hsz : 131 < a0.tmps.size) (e10 : a0.eval (.tmp 10) = v0) (e12 : a0.eval (.tmp 12) = v0) (e11 : a0.eval (.tmp 11) = v1) (e13 : a0.eval (.tmp 13) = v1) (e2 : a0.eval (.tmp 2) = .pointer (some ⟨B0, 0, none⟩)) (e3 : a0.eval (.tmp 3) = .pointer (some ⟨B1, 0, none⟩)) (e6 : a0.eval (.tmp 6) = .pointer (some ⟨BS, 0, none⟩))
    (hS0 : S w5.drew)
    (keep1 : ∀ u, R1 u → S u) (keep2 : ∀ u, R2 u → S u) (keep3 : ∀ u, R3 u → S u) (keep4 : ∀ wl u, R4 wl u → S u) (keep5 : ∀ u, R5 u → S u) (LB : ∀ u, S u → (loadVar 59 ⟨B0, 0, none⟩).run Try.prog u = .ok (.pointer (some ⟨t, oo, none⟩)) u) (LT : ∀ u, S u → (loadVar 24 ⟨t, oo, none⟩).run Try.prog u = .ok pT u) (LR1 : ∀ u, S u → (loadVar 25 ⟨t, oo + 1, none⟩).run Try.prog u = .ok pR u) (LQ : ∀ u, S u → (loadVar 27 ⟨BS, 0, none⟩).run Try.prog u = .ok sq u)
    (LN : ∀ u, S u → (loadVar 3 ⟨B1, 2, none⟩).run Try.prog u = .ok (.int .i64 nn) u) (LL : ∀ u, S u → (loadVar 40 ⟨B1, 7, none⟩).run Try.prog u = .ok (.slice la ln lc) u)
    (hneS : ∀ u, (binOp .neq 41 v0 v0).run Try.prog u = .ok (.bool false) u) (hneE : ∀ u, (binOp .neq 31 v1 v1).run Try.prog u = .ok (.bool false) u) (hneC : ∀ u, (binOp .neq 31 cv cv).run Try.prog u = .ok (.bool false) u)
    (gS : ∀ u, (eqGuard .neq 41 (.tmp 83) (.tmp 84) v0 v0).run Try.prog u = .ok () u) (gE : ∀ u, (eqGuard .neq 31 (.tmp 87) (.tmp 88) v1 v1).run Try.prog u = .ok () u) (gC : ∀ u, (eqGuard .neq 31 (.tmp 98) (.tmp 105) cv cv).run Try.prog u = .ok () u)
    (K1 : Calls Try.prog 33 #[pT, .int .i64 nn] w5.drew fun e u => e = .returned cv ∧ R1 u) (K2 : ∀ u, R1 u → Calls Try.prog 34 #[pR, .int .i64 nn] u fun e u' => e = .returned cv ∧ R2 u')
    (K3 : ∀ u, R2 u → Calls Try.prog 19 #[.pointer (some ⟨t, oo, none⟩), .agg (opL 0 4 0 0 V0 (.slice la ln lc) (List.replicate 24 0)).toArray] u fun e u' => e = .returned (.bool true) ∧ R3 u')
    (K4 : ∀ u, R3 u → Calls Try.prog 11 #[pR] u fun e u' => ∃ wl, e = .returned wl ∧ R4 wl u') (K5 : ∀ wl u, R4 wl u → Calls Try.prog 9 #[sq, wl, .int .i64 (-1)] u fun e u' => e = .returned (.bool true) ∧ R5 u')
    (F : ∀ (wc : World) (wl : Value), R5 wc → Q .normal (((((((((((((((((((((((((((((((((((((((((((a0.put (some 83) (v0)).put (some 84) (v0)).put (some 85) (.bool false)).put (some 86) (.bool false)).put (some 87) (v1)).put (some 88) (v1)).put (some 89) (.bool false)).put (some 90) (.bool false)).put (some 91) (.bool false)).put (some 92) (.pointer (some ⟨t, oo, none⟩))).put (some 93) (.pointer (some ⟨t, oo, none⟩))).put (some 94) (.pointer (some ⟨t, oo, none⟩))).put (some 95) (pT)).put (some 96) (.pointer (some ⟨B1, 2, none⟩))).put (some 97) (.int .i64 nn)).put (some 99) (.pointer (some ⟨t, oo, none⟩))).put (some 100) (.pointer (some ⟨t, oo, none⟩))).put (some 101) (.pointer (some ⟨t, oo + 1, none⟩))).put (some 102) (pR)).put (some 103) (.pointer (some ⟨B1, 2, none⟩))).put (some 104) (.int .i64 nn)).put (some 98) (cv)).put (some 105) (cv)).put (some 106) (.bool false)).put (some 107) (.bool false)).put (some 108) (.bool false)).put (some 109) (.pointer (some ⟨t, oo, none⟩))).put (some 110) (.pointer (some ⟨B1, 7, none⟩))).put (some 111) (.slice la ln lc)).put (some 112) (.agg (opL 0 4 0 0 V0 (.slice la ln lc) (List.replicate 24 0)).toArray)).put (some 113) (.bool true)).put (some 114) (.bool false)).put (some 115) (.bool false)).put (some 116) (.bool false)).put (some 117) (sq)).put (some 118) (.pointer (some ⟨t, oo, none⟩))).put (some 119) (.pointer (some ⟨t, oo, none⟩))).put (some 120) (.pointer (some ⟨t, oo + 1, none⟩))).put (some 121) (pR)).put (some 122) (wl)).put (some 123) (.bool true)).put (some 124) (.bool false)).put (some 125) (.bool false)) wc) :
    wpAnyH Try.prog .any ops Q S 43 (LR 43 []) a0 w5.drew := by
  have hall : ∀ p ∈ areg16_takes, Region.free .any ops (LR 43 p.1) p.2 = true ∧ (Region.ready .any ops (LR 43 p.1)).contains p.2 = true := by
    intro p hp
    have := List.all_eq_true.1 hq p hp
    simpa using this
  unfold areg16_takes at hall
  obtain ⟨og3, hog3, _, _, dog3⟩ := isOpG_out q3
  obtain ⟨og8, hog8, _, _, dog8⟩ := isOpG_out q8
  obtain ⟨og25, hog25, _, _, dog25⟩ := isOpG_out q25
  obtain ⟨og33, hog33, _, _, dog33⟩ := isOpG_out q33
  obtain ⟨o0, ho, hg, hop, hd⟩ := isOpG_out q0
  have hfr := hall ([], 0) (by simp)
  refine wpAnyH_take (listed := LR 43 []) (v := v0) ho hs hfr.1 hfr.2 (hQ _ _) (Or.inl ⟨(wantedN hg), fun w' hS => run_move _ _ hop w' (by (repeat rw [eval_far _ _ (by decide)]); exact e10)⟩) hS0 ?_
  rw [hd, ← LR_snoc]
  clear ho hg hop hd hfr
  obtain ⟨o1, ho, hg, hop, hd⟩ := isOpG_out q1
  have hfr := hall ([0], 1) (by simp)
  refine wpAnyH_take (listed := LR 43 [0]) (v := v0) ho hs hfr.1 hfr.2 (hQ _ _) (Or.inl ⟨(wantedN hg), fun w' hS => run_move _ _ hop w' (by (repeat rw [eval_far _ _ (by decide)]); exact e12)⟩) hS0 ?_
  rw [hd, ← LR_snoc]
  clear ho hg hop hd hfr
  obtain ⟨o2, ho, hg, hop, hd⟩ := isOpG_out q2
  have hfr := hall ([0, 1], 2) (by simp)
  refine wpAnyH_take (listed := LR 43 [0, 1]) (v := .bool false) ho hs hfr.1 hfr.2 (hQ _ _) (Or.inl ⟨(wantedN hg), fun w' hS => run_binV _ _ hop w' (by (repeat (first | rw [eval_same _ _ (by (try simp only [put_size]); omega)] | rw [eval_far _ _ (by decide)]))) (by (repeat (first | rw [eval_same _ _ (by (try simp only [put_size]); omega)] | rw [eval_far _ _ (by decide)]))) (gS w') (hneS w')⟩) hS0 ?_
  rw [hd, ← LR_snoc]
  clear ho hg hop hd hfr
  obtain ⟨o3, ho, hg, hop, hd⟩ := isOpG_out q3
  have hfr := hall ([0, 1, 2], 3) (by simp)
  refine wpAnyH_take (listed := LR 43 [0, 1, 2]) (v := .bool false) ho hs hfr.1 hfr.2 (hQ _ _) (Or.inl ⟨(wantedN hg), fun w' hS => run_move _ _ hop w' (by (repeat (first | rw [eval_same _ _ (by (try simp only [put_size]); omega)] | rw [eval_far _ _ (by decide)])))⟩) hS0 ?_
  rw [hd, ← LR_snoc]
  clear ho hg hop hd hfr
  obtain ⟨o4, ho, hg, hop, hd⟩ := isOpG_out q4
  have hfr := hall ([0, 1, 2, 3], 4) (by simp)
  refine wpAnyH_take (listed := LR 43 [0, 1, 2, 3]) (v := v1) ho hs hfr.1 hfr.2 (hQ _ _) (Or.inl ⟨((wantedB hog3 dog3 hg (by (repeat (first | rw [tmps_same _ _ (by (try simp only [put_size]); omega)] | rw [tmps_far _ _ (by decide)])))).trans (by decide)), fun w' hS => run_move _ _ hop w' (by (repeat rw [eval_far _ _ (by decide)]); exact e11)⟩) hS0 ?_
  rw [hd, ← LR_snoc]
  clear ho hg hop hd hfr
  obtain ⟨o5, ho, hg, hop, hd⟩ := isOpG_out q5
  have hfr := hall ([0, 1, 2, 3, 4], 5) (by simp)
  refine wpAnyH_take (listed := LR 43 [0, 1, 2, 3, 4]) (v := v1) ho hs hfr.1 hfr.2 (hQ _ _) (Or.inl ⟨((wantedB hog3 dog3 hg (by (repeat (first | rw [tmps_same _ _ (by (try simp only [put_size]); omega)] | rw [tmps_far _ _ (by decide)])))).trans (by decide)), fun w' hS => run_move _ _ hop w' (by (repeat rw [eval_far _ _ (by decide)]); exact e13)⟩) hS0 ?_
  rw [hd, ← LR_snoc]
  clear ho hg hop hd hfr
  obtain ⟨o6, ho, hg, hop, hd⟩ := isOpG_out q6
  have hfr := hall ([0, 1, 2, 3, 4, 5], 6) (by simp)
  refine wpAnyH_take (listed := LR 43 [0, 1, 2, 3, 4, 5]) (v := .bool false) ho hs hfr.1 hfr.2 (hQ _ _) (Or.inl ⟨((wantedB hog3 dog3 hg (by (repeat (first | rw [tmps_same _ _ (by (try simp only [put_size]); omega)] | rw [tmps_far _ _ (by decide)])))).trans (by decide)), fun w' hS => run_binV _ _ hop w' (by (repeat (first | rw [eval_same _ _ (by (try simp only [put_size]); omega)] | rw [eval_far _ _ (by decide)]))) (by (repeat (first | rw [eval_same _ _ (by (try simp only [put_size]); omega)] | rw [eval_far _ _ (by decide)]))) (gE w') (hneE w')⟩) hS0 ?_
  rw [hd, ← LR_snoc]
  clear ho hg hop hd hfr
  obtain ⟨o7, ho, hg, hop, hd⟩ := isOpG_out q7
  have hfr := hall ([0, 1, 2, 3, 4, 5, 6], 7) (by simp)
  refine wpAnyH_take (listed := LR 43 [0, 1, 2, 3, 4, 5, 6]) (v := .bool false) ho hs hfr.1 hfr.2 (hQ _ _) (Or.inl ⟨(wantedN hg), fun w' hS => run_pickF _ _ hop w' (by (repeat (first | rw [eval_same _ _ (by (try simp only [put_size]); omega)] | rw [eval_far _ _ (by decide)]))) (by (repeat (first | rw [eval_same _ _ (by (try simp only [put_size]); omega)] | rw [eval_far _ _ (by decide)])))⟩) hS0 ?_
  rw [hd, ← LR_snoc]
  clear ho hg hop hd hfr
  obtain ⟨o8, ho, hg, hop, hd⟩ := isOpG_out q8
  have hfr := hall ([0, 1, 2, 3, 4, 5, 6, 7], 8) (by simp)
  refine wpAnyH_take (listed := LR 43 [0, 1, 2, 3, 4, 5, 6, 7]) (v := .bool false) ho hs hfr.1 hfr.2 (hQ _ _) (Or.inl ⟨(wantedN hg), fun w' hS => run_move _ _ hop w' (by (repeat (first | rw [eval_same _ _ (by (try simp only [put_size]); omega)] | rw [eval_far _ _ (by decide)])))⟩) hS0 ?_
  rw [hd, ← LR_snoc]
  clear ho hg hop hd hfr
  obtain ⟨o9, ho, hg, hop, hd⟩ := isOpG_out q9
  have hfr := hall ([0, 1, 2, 3, 4, 5, 6, 7, 8], 9) (by simp)
  refine wpAnyH_take (listed := LR 43 [0, 1, 2, 3, 4, 5, 6, 7, 8]) (v := .pointer (some ⟨t, oo, none⟩)) ho hs hfr.1 hfr.2 (hQ _ _) (Or.inl ⟨((wantedB hog8 dog8 hg (by (repeat (first | rw [tmps_same _ _ (by (try simp only [put_size]); omega)] | rw [tmps_far _ _ (by decide)])))).trans (by decide)), fun w' hS => run_loadV _ _ hop w' (by (repeat rw [eval_far _ _ (by decide)]); exact e2) (LB _ hS)⟩) hS0 ?_
  rw [hd, ← LR_snoc]
  clear ho hg hop hd hfr
  obtain ⟨o10, ho, hg, hop, hd⟩ := isOpG_out q10
  have hfr := hall ([0, 1, 2, 3, 4, 5, 6, 7, 8, 9], 10) (by simp)
  refine wpAnyH_take (listed := LR 43 [0, 1, 2, 3, 4, 5, 6, 7, 8, 9]) (v := .pointer (some ⟨t, oo, none⟩)) ho hs hfr.1 hfr.2 (hQ _ _) (Or.inl ⟨((wantedB hog8 dog8 hg (by (repeat (first | rw [tmps_same _ _ (by (try simp only [put_size]); omega)] | rw [tmps_far _ _ (by decide)])))).trans (by decide)), fun w' hS => run_nilV _ _ hop w' (by (repeat (first | rw [eval_same _ _ (by (try simp only [put_size]); omega)] | rw [eval_far _ _ (by decide)])))⟩) hS0 ?_
  rw [hd, ← LR_snoc]
  clear ho hg hop hd hfr
  obtain ⟨o11, ho, hg, hop, hd⟩ := isOpG_out q11
  have hfr := hall ([0, 1, 2, 3, 4, 5, 6, 7, 8, 9, 10], 11) (by simp)
  refine wpAnyH_take (listed := LR 43 [0, 1, 2, 3, 4, 5, 6, 7, 8, 9, 10]) (v := .pointer (some ⟨t, oo, none⟩)) ho hs hfr.1 hfr.2 (hQ _ _) (Or.inl ⟨((wantedB hog8 dog8 hg (by (repeat (first | rw [tmps_same _ _ (by (try simp only [put_size]); omega)] | rw [tmps_far _ _ (by decide)])))).trans (by decide)), fun w' hS => run_fB0 _ _ hop w' (by (repeat (first | rw [eval_same _ _ (by (try simp only [put_size]); omega)] | rw [eval_far _ _ (by decide)])))⟩) hS0 ?_
  rw [hd, ← LR_snoc]
  clear ho hg hop hd hfr
  obtain ⟨o12, ho, hg, hop, hd⟩ := isOpG_out q12
  have hfr := hall ([0, 1, 2, 3, 4, 5, 6, 7, 8, 9, 10, 11], 12) (by simp)
  refine wpAnyH_take (listed := LR 43 [0, 1, 2, 3, 4, 5, 6, 7, 8, 9, 10, 11]) (v := pT) ho hs hfr.1 hfr.2 (hQ _ _) (Or.inl ⟨((wantedB hog8 dog8 hg (by (repeat (first | rw [tmps_same _ _ (by (try simp only [put_size]); omega)] | rw [tmps_far _ _ (by decide)])))).trans (by decide)), fun w' hS => run_loadV _ _ hop w' (by (repeat (first | rw [eval_same _ _ (by (try simp only [put_size]); omega)] | rw [eval_far _ _ (by decide)]))) (LT _ hS)⟩) hS0 ?_
  rw [hd, ← LR_snoc]
  clear ho hg hop hd hfr
  obtain ⟨o13, ho, hg, hop, hd⟩ := isOpG_out q13
  have hfr := hall ([0, 1, 2, 3, 4, 5, 6, 7, 8, 9, 10, 11, 12], 13) (by simp)
  refine wpAnyH_take (listed := LR 43 [0, 1, 2, 3, 4, 5, 6, 7, 8, 9, 10, 11, 12]) (v := .pointer (some ⟨B1, 2, none⟩)) ho hs hfr.1 hfr.2 (hQ _ _) (Or.inl ⟨((wantedB hog8 dog8 hg (by (repeat (first | rw [tmps_same _ _ (by (try simp only [put_size]); omega)] | rw [tmps_far _ _ (by decide)])))).trans (by decide)), fun w' hS => run_fO2 _ _ hop w' (by (repeat rw [eval_far _ _ (by decide)]); exact e3)⟩) hS0 ?_
  rw [hd, ← LR_snoc]
  clear ho hg hop hd hfr
  obtain ⟨o14, ho, hg, hop, hd⟩ := isOpG_out q14
  have hfr := hall ([0, 1, 2, 3, 4, 5, 6, 7, 8, 9, 10, 11, 12, 13], 14) (by simp)
  refine wpAnyH_take (listed := LR 43 [0, 1, 2, 3, 4, 5, 6, 7, 8, 9, 10, 11, 12, 13]) (v := .int .i64 nn) ho hs hfr.1 hfr.2 (hQ _ _) (Or.inl ⟨((wantedB hog8 dog8 hg (by (repeat (first | rw [tmps_same _ _ (by (try simp only [put_size]); omega)] | rw [tmps_far _ _ (by decide)])))).trans (by decide)), fun w' hS => run_loadV _ _ hop w' (by (repeat (first | rw [eval_same _ _ (by (try simp only [put_size]); omega)] | rw [eval_far _ _ (by decide)]))) (LN _ hS)⟩) hS0 ?_
  rw [hd, ← LR_snoc]
  clear ho hg hop hd hfr
  obtain ⟨o16, ho, hg, hop, hd⟩ := isOpG_out q16
  have hfr := hall ([0, 1, 2, 3, 4, 5, 6, 7, 8, 9, 10, 11, 12, 13, 14], 16) (by simp)
  refine wpAnyH_take (listed := LR 43 [0, 1, 2, 3, 4, 5, 6, 7, 8, 9, 10, 11, 12, 13, 14]) (v := .pointer (some ⟨t, oo, none⟩)) ho hs hfr.1 hfr.2 (hQ _ _) (Or.inl ⟨((wantedB hog8 dog8 hg (by (repeat (first | rw [tmps_same _ _ (by (try simp only [put_size]); omega)] | rw [tmps_far _ _ (by decide)])))).trans (by decide)), fun w' hS => run_loadV _ _ hop w' (by (repeat rw [eval_far _ _ (by decide)]); exact e2) (LB _ hS)⟩) hS0 ?_
  rw [hd, ← LR_snoc]
  clear ho hg hop hd hfr
  obtain ⟨o17, ho, hg, hop, hd⟩ := isOpG_out q17
  have hfr := hall ([0, 1, 2, 3, 4, 5, 6, 7, 8, 9, 10, 11, 12, 13, 14, 16], 17) (by simp)
  refine wpAnyH_take (listed := LR 43 [0, 1, 2, 3, 4, 5, 6, 7, 8, 9, 10, 11, 12, 13, 14, 16]) (v := .pointer (some ⟨t, oo, none⟩)) ho hs hfr.1 hfr.2 (hQ _ _) (Or.inl ⟨((wantedB hog8 dog8 hg (by (repeat (first | rw [tmps_same _ _ (by (try simp only [put_size]); omega)] | rw [tmps_far _ _ (by decide)])))).trans (by decide)), fun w' hS => run_nilV _ _ hop w' (by (repeat (first | rw [eval_same _ _ (by (try simp only [put_size]); omega)] | rw [eval_far _ _ (by decide)])))⟩) hS0 ?_
  rw [hd, ← LR_snoc]
  clear ho hg hop hd hfr
  obtain ⟨o18, ho, hg, hop, hd⟩ := isOpG_out q18
  have hfr := hall ([0, 1, 2, 3, 4, 5, 6, 7, 8, 9, 10, 11, 12, 13, 14, 16, 17], 18) (by simp)
  refine wpAnyH_take (listed := LR 43 [0, 1, 2, 3, 4, 5, 6, 7, 8, 9, 10, 11, 12, 13, 14, 16, 17]) (v := .pointer (some ⟨t, oo + 1, none⟩)) ho hs hfr.1 hfr.2 (hQ _ _) (Or.inl ⟨((wantedB hog8 dog8 hg (by (repeat (first | rw [tmps_same _ _ (by (try simp only [put_size]); omega)] | rw [tmps_far _ _ (by decide)])))).trans (by decide)), fun w' hS => run_fB1 _ _ hop w' (by (repeat (first | rw [eval_same _ _ (by (try simp only [put_size]); omega)] | rw [eval_far _ _ (by decide)])))⟩) hS0 ?_
  rw [hd, ← LR_snoc]
  clear ho hg hop hd hfr
  obtain ⟨o19, ho, hg, hop, hd⟩ := isOpG_out q19
  have hfr := hall ([0, 1, 2, 3, 4, 5, 6, 7, 8, 9, 10, 11, 12, 13, 14, 16, 17, 18], 19) (by simp)
  refine wpAnyH_take (listed := LR 43 [0, 1, 2, 3, 4, 5, 6, 7, 8, 9, 10, 11, 12, 13, 14, 16, 17, 18]) (v := pR) ho hs hfr.1 hfr.2 (hQ _ _) (Or.inl ⟨((wantedB hog8 dog8 hg (by (repeat (first | rw [tmps_same _ _ (by (try simp only [put_size]); omega)] | rw [tmps_far _ _ (by decide)])))).trans (by decide)), fun w' hS => run_loadV _ _ hop w' (by (repeat (first | rw [eval_same _ _ (by (try simp only [put_size]); omega)] | rw [eval_far _ _ (by decide)]))) (LR1 _ hS)⟩) hS0 ?_
  rw [hd, ← LR_snoc]
  clear ho hg hop hd hfr
  obtain ⟨o20, ho, hg, hop, hd⟩ := isOpG_out q20
  have hfr := hall ([0, 1, 2, 3, 4, 5, 6, 7, 8, 9, 10, 11, 12, 13, 14, 16, 17, 18, 19], 20) (by simp)
  refine wpAnyH_take (listed := LR 43 [0, 1, 2, 3, 4, 5, 6, 7, 8, 9, 10, 11, 12, 13, 14, 16, 17, 18, 19]) (v := .pointer (some ⟨B1, 2, none⟩)) ho hs hfr.1 hfr.2 (hQ _ _) (Or.inl ⟨((wantedB hog8 dog8 hg (by (repeat (first | rw [tmps_same _ _ (by (try simp only [put_size]); omega)] | rw [tmps_far _ _ (by decide)])))).trans (by decide)), fun w' hS => run_fO2 _ _ hop w' (by (repeat rw [eval_far _ _ (by decide)]); exact e3)⟩) hS0 ?_
  rw [hd, ← LR_snoc]
  clear ho hg hop hd hfr
  obtain ⟨o21, ho, hg, hop, hd⟩ := isOpG_out q21
  have hfr := hall ([0, 1, 2, 3, 4, 5, 6, 7, 8, 9, 10, 11, 12, 13, 14, 16, 17, 18, 19, 20], 21) (by simp)
  refine wpAnyH_take (listed := LR 43 [0, 1, 2, 3, 4, 5, 6, 7, 8, 9, 10, 11, 12, 13, 14, 16, 17, 18, 19, 20]) (v := .int .i64 nn) ho hs hfr.1 hfr.2 (hQ _ _) (Or.inl ⟨((wantedB hog8 dog8 hg (by (repeat (first | rw [tmps_same _ _ (by (try simp only [put_size]); omega)] | rw [tmps_far _ _ (by decide)])))).trans (by decide)), fun w' hS => run_loadV _ _ hop w' (by (repeat (first | rw [eval_same _ _ (by (try simp only [put_size]); omega)] | rw [eval_far _ _ (by decide)]))) (LN _ hS)⟩) hS0 ?_
  rw [hd, ← LR_snoc]
  clear ho hg hop hd hfr
  refine wpAnyH_all r15 (by simp) ?_
  intro i hi
  obtain rfl := List.mem_singleton.1 hi
  obtain ⟨o15, ho, hg, hop, hd⟩ := isOpG_out q15
  have x15_0 : ((((((((((((((((((((((a0.put (some 83) (v0)).put (some 84) (v0)).put (some 85) (.bool false)).put (some 86) (.bool false)).put (some 87) (v1)).put (some 88) (v1)).put (some 89) (.bool false)).put (some 90) (.bool false)).put (some 91) (.bool false)).put (some 92) (.pointer (some ⟨t, oo, none⟩))).put (some 93) (.pointer (some ⟨t, oo, none⟩))).put (some 94) (.pointer (some ⟨t, oo, none⟩))).put (some 95) (pT)).put (some 96) (.pointer (some ⟨B1, 2, none⟩))).put (some 97) (.int .i64 nn)).put (some 99) (.pointer (some ⟨t, oo, none⟩))).put (some 100) (.pointer (some ⟨t, oo, none⟩))).put (some 101) (.pointer (some ⟨t, oo + 1, none⟩))).put (some 102) (pR)).put (some 103) (.pointer (some ⟨B1, 2, none⟩))).put (some 104) (.int .i64 nn))).eval (.tmp 95) = pT := (by (repeat (first | rw [eval_same _ _ (by (try simp only [put_size]); omega)] | rw [eval_far _ _ (by decide)])))
  have x15_1 : ((((((((((((((((((((((a0.put (some 83) (v0)).put (some 84) (v0)).put (some 85) (.bool false)).put (some 86) (.bool false)).put (some 87) (v1)).put (some 88) (v1)).put (some 89) (.bool false)).put (some 90) (.bool false)).put (some 91) (.bool false)).put (some 92) (.pointer (some ⟨t, oo, none⟩))).put (some 93) (.pointer (some ⟨t, oo, none⟩))).put (some 94) (.pointer (some ⟨t, oo, none⟩))).put (some 95) (pT)).put (some 96) (.pointer (some ⟨B1, 2, none⟩))).put (some 97) (.int .i64 nn)).put (some 99) (.pointer (some ⟨t, oo, none⟩))).put (some 100) (.pointer (some ⟨t, oo, none⟩))).put (some 101) (.pointer (some ⟨t, oo + 1, none⟩))).put (some 102) (pR)).put (some 103) (.pointer (some ⟨B1, 2, none⟩))).put (some 104) (.int .i64 nn))).eval (.tmp 97) = .int .i64 nn := (by (repeat (first | rw [eval_same _ _ (by (try simp only [put_size]); omega)] | rw [eval_far _ _ (by decide)])))
  refine wpOp_callG ho ((wantedB hog8 dog8 hg (by (repeat (first | rw [tmps_same _ _ (by (try simp only [put_size]); omega)] | rw [tmps_far _ _ (by decide)])))).trans (by decide)) (run_callV 33 Try.func33 (by kernel_rfl) (by kernel_rfl) #[.tmp 95, .tmp 97] _ hop #[pT, .int .i64 nn] (by simp only [List.map_toArray, List.map_cons, List.map_nil, x15_0, x15_1])) ?_
  refine (K1).mono ?_
  rintro e u1 ⟨rfl, r1⟩
  have hS15 := keep1 _ r1
  refine ⟨_, rfl, hS15, ?_⟩
  rw [hd]
  clear ho hg hop hd
  rw [← LR_snoc]
  refine wpAnyH_all r22 (by simp) ?_
  intro i hi
  obtain rfl := List.mem_singleton.1 hi
  obtain ⟨o22, ho, hg, hop, hd⟩ := isOpG_out q22
  have x22_0 : (((((((((((((((((((((((a0.put (some 83) (v0)).put (some 84) (v0)).put (some 85) (.bool false)).put (some 86) (.bool false)).put (some 87) (v1)).put (some 88) (v1)).put (some 89) (.bool false)).put (some 90) (.bool false)).put (some 91) (.bool false)).put (some 92) (.pointer (some ⟨t, oo, none⟩))).put (some 93) (.pointer (some ⟨t, oo, none⟩))).put (some 94) (.pointer (some ⟨t, oo, none⟩))).put (some 95) (pT)).put (some 96) (.pointer (some ⟨B1, 2, none⟩))).put (some 97) (.int .i64 nn)).put (some 99) (.pointer (some ⟨t, oo, none⟩))).put (some 100) (.pointer (some ⟨t, oo, none⟩))).put (some 101) (.pointer (some ⟨t, oo + 1, none⟩))).put (some 102) (pR)).put (some 103) (.pointer (some ⟨B1, 2, none⟩))).put (some 104) (.int .i64 nn)).put (some 98) (cv))).eval (.tmp 102) = pR := (by (repeat (first | rw [eval_same _ _ (by (try simp only [put_size]); omega)] | rw [eval_far _ _ (by decide)])))
  have x22_1 : (((((((((((((((((((((((a0.put (some 83) (v0)).put (some 84) (v0)).put (some 85) (.bool false)).put (some 86) (.bool false)).put (some 87) (v1)).put (some 88) (v1)).put (some 89) (.bool false)).put (some 90) (.bool false)).put (some 91) (.bool false)).put (some 92) (.pointer (some ⟨t, oo, none⟩))).put (some 93) (.pointer (some ⟨t, oo, none⟩))).put (some 94) (.pointer (some ⟨t, oo, none⟩))).put (some 95) (pT)).put (some 96) (.pointer (some ⟨B1, 2, none⟩))).put (some 97) (.int .i64 nn)).put (some 99) (.pointer (some ⟨t, oo, none⟩))).put (some 100) (.pointer (some ⟨t, oo, none⟩))).put (some 101) (.pointer (some ⟨t, oo + 1, none⟩))).put (some 102) (pR)).put (some 103) (.pointer (some ⟨B1, 2, none⟩))).put (some 104) (.int .i64 nn)).put (some 98) (cv))).eval (.tmp 104) = .int .i64 nn := (by (repeat (first | rw [eval_same _ _ (by (try simp only [put_size]); omega)] | rw [eval_far _ _ (by decide)])))
  refine wpOp_callG ho ((wantedB hog8 dog8 hg (by (repeat (first | rw [tmps_same _ _ (by (try simp only [put_size]); omega)] | rw [tmps_far _ _ (by decide)])))).trans (by decide)) (run_callV 34 Try.func34 (by kernel_rfl) (by kernel_rfl) #[.tmp 102, .tmp 104] _ hop #[pR, .int .i64 nn] (by simp only [List.map_toArray, List.map_cons, List.map_nil, x22_0, x22_1])) ?_
  refine (K2 _ r1).mono ?_
  rintro e u2 ⟨rfl, r2⟩
  have hS22 := keep2 _ r2
  refine ⟨_, rfl, hS22, ?_⟩
  rw [hd]
  clear ho hg hop hd
  rw [← LR_snoc]
  obtain ⟨o23, ho, hg, hop, hd⟩ := isOpG_out q23
  have hfr := hall ([0, 1, 2, 3, 4, 5, 6, 7, 8, 9, 10, 11, 12, 13, 14, 16, 17, 18, 19, 20, 21, 15, 22], 23) (by simp)
  refine wpAnyH_take (listed := LR 43 [0, 1, 2, 3, 4, 5, 6, 7, 8, 9, 10, 11, 12, 13, 14, 16, 17, 18, 19, 20, 21, 15, 22]) (v := .bool false) ho hs hfr.1 hfr.2 (hQ _ _) (Or.inl ⟨((wantedB hog8 dog8 hg (by (repeat (first | rw [tmps_same _ _ (by (try simp only [put_size]); omega)] | rw [tmps_far _ _ (by decide)])))).trans (by decide)), fun w' hS => run_binV _ _ hop w' (by (repeat (first | rw [eval_same _ _ (by (try simp only [put_size]); omega)] | rw [eval_far _ _ (by decide)]))) (by (repeat (first | rw [eval_same _ _ (by (try simp only [put_size]); omega)] | rw [eval_far _ _ (by decide)]))) (gC w') (hneC w')⟩) hS22 ?_
  rw [hd, ← LR_snoc]
  clear ho hg hop hd hfr
  obtain ⟨o24, ho, hg, hop, hd⟩ := isOpG_out q24
  have hfr := hall ([0, 1, 2, 3, 4, 5, 6, 7, 8, 9, 10, 11, 12, 13, 14, 16, 17, 18, 19, 20, 21, 15, 22, 23], 24) (by simp)
  refine wpAnyH_take (listed := LR 43 [0, 1, 2, 3, 4, 5, 6, 7, 8, 9, 10, 11, 12, 13, 14, 16, 17, 18, 19, 20, 21, 15, 22, 23]) (v := .bool false) ho hs hfr.1 hfr.2 (hQ _ _) (Or.inl ⟨(wantedN hg), fun w' hS => run_pickF _ _ hop w' (by (repeat (first | rw [eval_same _ _ (by (try simp only [put_size]); omega)] | rw [eval_far _ _ (by decide)]))) (by (repeat (first | rw [eval_same _ _ (by (try simp only [put_size]); omega)] | rw [eval_far _ _ (by decide)])))⟩) hS22 ?_
  rw [hd, ← LR_snoc]
  clear ho hg hop hd hfr
  obtain ⟨o25, ho, hg, hop, hd⟩ := isOpG_out q25
  have hfr := hall ([0, 1, 2, 3, 4, 5, 6, 7, 8, 9, 10, 11, 12, 13, 14, 16, 17, 18, 19, 20, 21, 15, 22, 23, 24], 25) (by simp)
  refine wpAnyH_take (listed := LR 43 [0, 1, 2, 3, 4, 5, 6, 7, 8, 9, 10, 11, 12, 13, 14, 16, 17, 18, 19, 20, 21, 15, 22, 23, 24]) (v := .bool false) ho hs hfr.1 hfr.2 (hQ _ _) (Or.inl ⟨(wantedN hg), fun w' hS => run_move _ _ hop w' (by (repeat (first | rw [eval_same _ _ (by (try simp only [put_size]); omega)] | rw [eval_far _ _ (by decide)])))⟩) hS22 ?_
  rw [hd, ← LR_snoc]
  clear ho hg hop hd hfr
  obtain ⟨o26, ho, hg, hop, hd⟩ := isOpG_out q26
  have hfr := hall ([0, 1, 2, 3, 4, 5, 6, 7, 8, 9, 10, 11, 12, 13, 14, 16, 17, 18, 19, 20, 21, 15, 22, 23, 24, 25], 26) (by simp)
  refine wpAnyH_take (listed := LR 43 [0, 1, 2, 3, 4, 5, 6, 7, 8, 9, 10, 11, 12, 13, 14, 16, 17, 18, 19, 20, 21, 15, 22, 23, 24, 25]) (v := .pointer (some ⟨t, oo, none⟩)) ho hs hfr.1 hfr.2 (hQ _ _) (Or.inl ⟨((wantedB hog25 dog25 hg (by (repeat (first | rw [tmps_same _ _ (by (try simp only [put_size]); omega)] | rw [tmps_far _ _ (by decide)])))).trans (by decide)), fun w' hS => run_loadV _ _ hop w' (by (repeat rw [eval_far _ _ (by decide)]); exact e2) (LB _ hS)⟩) hS22 ?_
  rw [hd, ← LR_snoc]
  clear ho hg hop hd hfr
  obtain ⟨o27, ho, hg, hop, hd⟩ := isOpG_out q27
  have hfr := hall ([0, 1, 2, 3, 4, 5, 6, 7, 8, 9, 10, 11, 12, 13, 14, 16, 17, 18, 19, 20, 21, 15, 22, 23, 24, 25, 26], 27) (by simp)
  refine wpAnyH_take (listed := LR 43 [0, 1, 2, 3, 4, 5, 6, 7, 8, 9, 10, 11, 12, 13, 14, 16, 17, 18, 19, 20, 21, 15, 22, 23, 24, 25, 26]) (v := .pointer (some ⟨B1, 7, none⟩)) ho hs hfr.1 hfr.2 (hQ _ _) (Or.inl ⟨((wantedB hog25 dog25 hg (by (repeat (first | rw [tmps_same _ _ (by (try simp only [put_size]); omega)] | rw [tmps_far _ _ (by decide)])))).trans (by decide)), fun w' hS => run_fO5 _ _ hop w' (by (repeat rw [eval_far _ _ (by decide)]); exact e3)⟩) hS22 ?_
  rw [hd, ← LR_snoc]
  clear ho hg hop hd hfr
  obtain ⟨o28, ho, hg, hop, hd⟩ := isOpG_out q28
  have hfr := hall ([0, 1, 2, 3, 4, 5, 6, 7, 8, 9, 10, 11, 12, 13, 14, 16, 17, 18, 19, 20, 21, 15, 22, 23, 24, 25, 26, 27], 28) (by simp)
  refine wpAnyH_take (listed := LR 43 [0, 1, 2, 3, 4, 5, 6, 7, 8, 9, 10, 11, 12, 13, 14, 16, 17, 18, 19, 20, 21, 15, 22, 23, 24, 25, 26, 27]) (v := .slice la ln lc) ho hs hfr.1 hfr.2 (hQ _ _) (Or.inl ⟨((wantedB hog25 dog25 hg (by (repeat (first | rw [tmps_same _ _ (by (try simp only [put_size]); omega)] | rw [tmps_far _ _ (by decide)])))).trans (by decide)), fun w' hS => run_loadV _ _ hop w' (by (repeat (first | rw [eval_same _ _ (by (try simp only [put_size]); omega)] | rw [eval_far _ _ (by decide)]))) (LL _ hS)⟩) hS22 ?_
  rw [hd, ← LR_snoc]
  clear ho hg hop hd hfr
  obtain ⟨o29, ho, hg, hop, hd⟩ := isOpG_out q29
  have hfr := hall ([0, 1, 2, 3, 4, 5, 6, 7, 8, 9, 10, 11, 12, 13, 14, 16, 17, 18, 19, 20, 21, 15, 22, 23, 24, 25, 26, 27, 28], 29) (by simp)
  refine wpAnyH_take (listed := LR 43 [0, 1, 2, 3, 4, 5, 6, 7, 8, 9, 10, 11, 12, 13, 14, 16, 17, 18, 19, 20, 21, 15, 22, 23, 24, 25, 26, 27, 28]) (v := .agg (opL 0 4 0 0 V0 (.slice la ln lc) (List.replicate 24 0)).toArray) ho hs hfr.1 hfr.2 (hQ _ _) (Or.inl ⟨((wantedB hog25 dog25 hg (by (repeat (first | rw [tmps_same _ _ (by (try simp only [put_size]); omega)] | rw [tmps_far _ _ (by decide)])))).trans (by decide)), fun w' hS => run_buildOp _ _ hop rfl w' (by (repeat (first | rw [eval_same _ _ (by (try simp only [put_size]); omega)] | rw [eval_far _ _ (by decide)])))⟩) hS22 ?_
  rw [hd, ← LR_snoc]
  clear ho hg hop hd hfr
  refine wpAnyH_all r30 (by simp) ?_
  intro i hi
  obtain rfl := List.mem_singleton.1 hi
  obtain ⟨o30, ho, hg, hop, hd⟩ := isOpG_out q30
  have x30_0 : (((((((((((((((((((((((((((((((a0.put (some 83) (v0)).put (some 84) (v0)).put (some 85) (.bool false)).put (some 86) (.bool false)).put (some 87) (v1)).put (some 88) (v1)).put (some 89) (.bool false)).put (some 90) (.bool false)).put (some 91) (.bool false)).put (some 92) (.pointer (some ⟨t, oo, none⟩))).put (some 93) (.pointer (some ⟨t, oo, none⟩))).put (some 94) (.pointer (some ⟨t, oo, none⟩))).put (some 95) (pT)).put (some 96) (.pointer (some ⟨B1, 2, none⟩))).put (some 97) (.int .i64 nn)).put (some 99) (.pointer (some ⟨t, oo, none⟩))).put (some 100) (.pointer (some ⟨t, oo, none⟩))).put (some 101) (.pointer (some ⟨t, oo + 1, none⟩))).put (some 102) (pR)).put (some 103) (.pointer (some ⟨B1, 2, none⟩))).put (some 104) (.int .i64 nn)).put (some 98) (cv)).put (some 105) (cv)).put (some 106) (.bool false)).put (some 107) (.bool false)).put (some 108) (.bool false)).put (some 109) (.pointer (some ⟨t, oo, none⟩))).put (some 110) (.pointer (some ⟨B1, 7, none⟩))).put (some 111) (.slice la ln lc)).put (some 112) (.agg (opL 0 4 0 0 V0 (.slice la ln lc) (List.replicate 24 0)).toArray))).eval (.tmp 109) = .pointer (some ⟨t, oo, none⟩) := (by (repeat (first | rw [eval_same _ _ (by (try simp only [put_size]); omega)] | rw [eval_far _ _ (by decide)])))
  have x30_1 : (((((((((((((((((((((((((((((((a0.put (some 83) (v0)).put (some 84) (v0)).put (some 85) (.bool false)).put (some 86) (.bool false)).put (some 87) (v1)).put (some 88) (v1)).put (some 89) (.bool false)).put (some 90) (.bool false)).put (some 91) (.bool false)).put (some 92) (.pointer (some ⟨t, oo, none⟩))).put (some 93) (.pointer (some ⟨t, oo, none⟩))).put (some 94) (.pointer (some ⟨t, oo, none⟩))).put (some 95) (pT)).put (some 96) (.pointer (some ⟨B1, 2, none⟩))).put (some 97) (.int .i64 nn)).put (some 99) (.pointer (some ⟨t, oo, none⟩))).put (some 100) (.pointer (some ⟨t, oo, none⟩))).put (some 101) (.pointer (some ⟨t, oo + 1, none⟩))).put (some 102) (pR)).put (some 103) (.pointer (some ⟨B1, 2, none⟩))).put (some 104) (.int .i64 nn)).put (some 98) (cv)).put (some 105) (cv)).put (some 106) (.bool false)).put (some 107) (.bool false)).put (some 108) (.bool false)).put (some 109) (.pointer (some ⟨t, oo, none⟩))).put (some 110) (.pointer (some ⟨B1, 7, none⟩))).put (some 111) (.slice la ln lc)).put (some 112) (.agg (opL 0 4 0 0 V0 (.slice la ln lc) (List.replicate 24 0)).toArray))).eval (.tmp 112) = .agg (opL 0 4 0 0 V0 (.slice la ln lc) (List.replicate 24 0)).toArray := (by (repeat (first | rw [eval_same _ _ (by (try simp only [put_size]); omega)] | rw [eval_far _ _ (by decide)])))
  refine wpOp_callG ho ((wantedB hog25 dog25 hg (by (repeat (first | rw [tmps_same _ _ (by (try simp only [put_size]); omega)] | rw [tmps_far _ _ (by decide)])))).trans (by decide)) (run_callV 19 Try.func19 (by kernel_rfl) (by kernel_rfl) #[.tmp 109, .tmp 112] _ hop #[.pointer (some ⟨t, oo, none⟩), .agg (opL 0 4 0 0 V0 (.slice la ln lc) (List.replicate 24 0)).toArray] (by simp only [List.map_toArray, List.map_cons, List.map_nil, x30_0, x30_1])) ?_
  refine (K3 _ r2).mono ?_
  rintro e u3 ⟨rfl, r3⟩
  have hS30 := keep3 _ r3
  refine ⟨_, rfl, hS30, ?_⟩
  rw [hd]
  clear ho hg hop hd
  rw [← LR_snoc]
  obtain ⟨o31, ho, hg, hop, hd⟩ := isOpG_out q31
  have hfr := hall ([0, 1, 2, 3, 4, 5, 6, 7, 8, 9, 10, 11, 12, 13, 14, 16, 17, 18, 19, 20, 21, 15, 22, 23, 24, 25, 26, 27, 28, 29, 30], 31) (by simp)
  refine wpAnyH_take (listed := LR 43 [0, 1, 2, 3, 4, 5, 6, 7, 8, 9, 10, 11, 12, 13, 14, 16, 17, 18, 19, 20, 21, 15, 22, 23, 24, 25, 26, 27, 28, 29, 30]) (v := .bool false) ho hs hfr.1 hfr.2 (hQ _ _) (Or.inl ⟨((wantedB hog25 dog25 hg (by (repeat (first | rw [tmps_same _ _ (by (try simp only [put_size]); omega)] | rw [tmps_far _ _ (by decide)])))).trans (by decide)), fun w' hS => run_notV (b := true) _ _ hop w' (by (repeat (first | rw [eval_same _ _ (by (try simp only [put_size]); omega)] | rw [eval_far _ _ (by decide)])))⟩) hS30 ?_
  rw [hd, ← LR_snoc]
  clear ho hg hop hd hfr
  obtain ⟨o32, ho, hg, hop, hd⟩ := isOpG_out q32
  have hfr := hall ([0, 1, 2, 3, 4, 5, 6, 7, 8, 9, 10, 11, 12, 13, 14, 16, 17, 18, 19, 20, 21, 15, 22, 23, 24, 25, 26, 27, 28, 29, 30, 31], 32) (by simp)
  refine wpAnyH_take (listed := LR 43 [0, 1, 2, 3, 4, 5, 6, 7, 8, 9, 10, 11, 12, 13, 14, 16, 17, 18, 19, 20, 21, 15, 22, 23, 24, 25, 26, 27, 28, 29, 30, 31]) (v := .bool false) ho hs hfr.1 hfr.2 (hQ _ _) (Or.inl ⟨(wantedN hg), fun w' hS => run_pickF _ _ hop w' (by (repeat (first | rw [eval_same _ _ (by (try simp only [put_size]); omega)] | rw [eval_far _ _ (by decide)]))) (by (repeat (first | rw [eval_same _ _ (by (try simp only [put_size]); omega)] | rw [eval_far _ _ (by decide)])))⟩) hS30 ?_
  rw [hd, ← LR_snoc]
  clear ho hg hop hd hfr
  obtain ⟨o33, ho, hg, hop, hd⟩ := isOpG_out q33
  have hfr := hall ([0, 1, 2, 3, 4, 5, 6, 7, 8, 9, 10, 11, 12, 13, 14, 16, 17, 18, 19, 20, 21, 15, 22, 23, 24, 25, 26, 27, 28, 29, 30, 31, 32], 33) (by simp)
  refine wpAnyH_take (listed := LR 43 [0, 1, 2, 3, 4, 5, 6, 7, 8, 9, 10, 11, 12, 13, 14, 16, 17, 18, 19, 20, 21, 15, 22, 23, 24, 25, 26, 27, 28, 29, 30, 31, 32]) (v := .bool false) ho hs hfr.1 hfr.2 (hQ _ _) (Or.inl ⟨(wantedN hg), fun w' hS => run_move _ _ hop w' (by (repeat (first | rw [eval_same _ _ (by (try simp only [put_size]); omega)] | rw [eval_far _ _ (by decide)])))⟩) hS30 ?_
  rw [hd, ← LR_snoc]
  clear ho hg hop hd hfr
  obtain ⟨o34, ho, hg, hop, hd⟩ := isOpG_out q34
  have hfr := hall ([0, 1, 2, 3, 4, 5, 6, 7, 8, 9, 10, 11, 12, 13, 14, 16, 17, 18, 19, 20, 21, 15, 22, 23, 24, 25, 26, 27, 28, 29, 30, 31, 32, 33], 34) (by simp)
  refine wpAnyH_take (listed := LR 43 [0, 1, 2, 3, 4, 5, 6, 7, 8, 9, 10, 11, 12, 13, 14, 16, 17, 18, 19, 20, 21, 15, 22, 23, 24, 25, 26, 27, 28, 29, 30, 31, 32, 33]) (v := sq) ho hs hfr.1 hfr.2 (hQ _ _) (Or.inl ⟨((wantedB hog33 dog33 hg (by (repeat (first | rw [tmps_same _ _ (by (try simp only [put_size]); omega)] | rw [tmps_far _ _ (by decide)])))).trans (by decide)), fun w' hS => run_loadV _ _ hop w' (by (repeat rw [eval_far _ _ (by decide)]); exact e6) (LQ _ hS)⟩) hS30 ?_
  rw [hd, ← LR_snoc]
  clear ho hg hop hd hfr
  obtain ⟨o35, ho, hg, hop, hd⟩ := isOpG_out q35
  have hfr := hall ([0, 1, 2, 3, 4, 5, 6, 7, 8, 9, 10, 11, 12, 13, 14, 16, 17, 18, 19, 20, 21, 15, 22, 23, 24, 25, 26, 27, 28, 29, 30, 31, 32, 33, 34], 35) (by simp)
  refine wpAnyH_take (listed := LR 43 [0, 1, 2, 3, 4, 5, 6, 7, 8, 9, 10, 11, 12, 13, 14, 16, 17, 18, 19, 20, 21, 15, 22, 23, 24, 25, 26, 27, 28, 29, 30, 31, 32, 33, 34]) (v := .pointer (some ⟨t, oo, none⟩)) ho hs hfr.1 hfr.2 (hQ _ _) (Or.inl ⟨((wantedB hog33 dog33 hg (by (repeat (first | rw [tmps_same _ _ (by (try simp only [put_size]); omega)] | rw [tmps_far _ _ (by decide)])))).trans (by decide)), fun w' hS => run_loadV _ _ hop w' (by (repeat rw [eval_far _ _ (by decide)]); exact e2) (LB _ hS)⟩) hS30 ?_
  rw [hd, ← LR_snoc]
  clear ho hg hop hd hfr
  obtain ⟨o36, ho, hg, hop, hd⟩ := isOpG_out q36
  have hfr := hall ([0, 1, 2, 3, 4, 5, 6, 7, 8, 9, 10, 11, 12, 13, 14, 16, 17, 18, 19, 20, 21, 15, 22, 23, 24, 25, 26, 27, 28, 29, 30, 31, 32, 33, 34, 35], 36) (by simp)
  refine wpAnyH_take (listed := LR 43 [0, 1, 2, 3, 4, 5, 6, 7, 8, 9, 10, 11, 12, 13, 14, 16, 17, 18, 19, 20, 21, 15, 22, 23, 24, 25, 26, 27, 28, 29, 30, 31, 32, 33, 34, 35]) (v := .pointer (some ⟨t, oo, none⟩)) ho hs hfr.1 hfr.2 (hQ _ _) (Or.inl ⟨((wantedB hog33 dog33 hg (by (repeat (first | rw [tmps_same _ _ (by (try simp only [put_size]); omega)] | rw [tmps_far _ _ (by decide)])))).trans (by decide)), fun w' hS => run_nilV _ _ hop w' (by (repeat (first | rw [eval_same _ _ (by (try simp only [put_size]); omega)] | rw [eval_far _ _ (by decide)])))⟩) hS30 ?_
  rw [hd, ← LR_snoc]
  clear ho hg hop hd hfr
  obtain ⟨o37, ho, hg, hop, hd⟩ := isOpG_out q37
  have hfr := hall ([0, 1, 2, 3, 4, 5, 6, 7, 8, 9, 10, 11, 12, 13, 14, 16, 17, 18, 19, 20, 21, 15, 22, 23, 24, 25, 26, 27, 28, 29, 30, 31, 32, 33, 34, 35, 36], 37) (by simp)
  refine wpAnyH_take (listed := LR 43 [0, 1, 2, 3, 4, 5, 6, 7, 8, 9, 10, 11, 12, 13, 14, 16, 17, 18, 19, 20, 21, 15, 22, 23, 24, 25, 26, 27, 28, 29, 30, 31, 32, 33, 34, 35, 36]) (v := .pointer (some ⟨t, oo + 1, none⟩)) ho hs hfr.1 hfr.2 (hQ _ _) (Or.inl ⟨((wantedB hog33 dog33 hg (by (repeat (first | rw [tmps_same _ _ (by (try simp only [put_size]); omega)] | rw [tmps_far _ _ (by decide)])))).trans (by decide)), fun w' hS => run_fB1 _ _ hop w' (by (repeat (first | rw [eval_same _ _ (by (try simp only [put_size]); omega)] | rw [eval_far _ _ (by decide)])))⟩) hS30 ?_
  rw [hd, ← LR_snoc]
  clear ho hg hop hd hfr
  obtain ⟨o38, ho, hg, hop, hd⟩ := isOpG_out q38
  have hfr := hall ([0, 1, 2, 3, 4, 5, 6, 7, 8, 9, 10, 11, 12, 13, 14, 16, 17, 18, 19, 20, 21, 15, 22, 23, 24, 25, 26, 27, 28, 29, 30, 31, 32, 33, 34, 35, 36, 37], 38) (by simp)
  refine wpAnyH_take (listed := LR 43 [0, 1, 2, 3, 4, 5, 6, 7, 8, 9, 10, 11, 12, 13, 14, 16, 17, 18, 19, 20, 21, 15, 22, 23, 24, 25, 26, 27, 28, 29, 30, 31, 32, 33, 34, 35, 36, 37]) (v := pR) ho hs hfr.1 hfr.2 (hQ _ _) (Or.inl ⟨((wantedB hog33 dog33 hg (by (repeat (first | rw [tmps_same _ _ (by (try simp only [put_size]); omega)] | rw [tmps_far _ _ (by decide)])))).trans (by decide)), fun w' hS => run_loadV _ _ hop w' (by (repeat (first | rw [eval_same _ _ (by (try simp only [put_size]); omega)] | rw [eval_far _ _ (by decide)]))) (LR1 _ hS)⟩) hS30 ?_
  rw [hd, ← LR_snoc]
  clear ho hg hop hd hfr
  refine wpAnyH_all r39 (by simp) ?_
  intro i hi
  obtain rfl := List.mem_singleton.1 hi
  obtain ⟨o39, ho, hg, hop, hd⟩ := isOpG_out q39
  have x39_0 : ((((((((((((((((((((((((((((((((((((((((a0.put (some 83) (v0)).put (some 84) (v0)).put (some 85) (.bool false)).put (some 86) (.bool false)).put (some 87) (v1)).put (some 88) (v1)).put (some 89) (.bool false)).put (some 90) (.bool false)).put (some 91) (.bool false)).put (some 92) (.pointer (some ⟨t, oo, none⟩))).put (some 93) (.pointer (some ⟨t, oo, none⟩))).put (some 94) (.pointer (some ⟨t, oo, none⟩))).put (some 95) (pT)).put (some 96) (.pointer (some ⟨B1, 2, none⟩))).put (some 97) (.int .i64 nn)).put (some 99) (.pointer (some ⟨t, oo, none⟩))).put (some 100) (.pointer (some ⟨t, oo, none⟩))).put (some 101) (.pointer (some ⟨t, oo + 1, none⟩))).put (some 102) (pR)).put (some 103) (.pointer (some ⟨B1, 2, none⟩))).put (some 104) (.int .i64 nn)).put (some 98) (cv)).put (some 105) (cv)).put (some 106) (.bool false)).put (some 107) (.bool false)).put (some 108) (.bool false)).put (some 109) (.pointer (some ⟨t, oo, none⟩))).put (some 110) (.pointer (some ⟨B1, 7, none⟩))).put (some 111) (.slice la ln lc)).put (some 112) (.agg (opL 0 4 0 0 V0 (.slice la ln lc) (List.replicate 24 0)).toArray)).put (some 113) (.bool true)).put (some 114) (.bool false)).put (some 115) (.bool false)).put (some 116) (.bool false)).put (some 117) (sq)).put (some 118) (.pointer (some ⟨t, oo, none⟩))).put (some 119) (.pointer (some ⟨t, oo, none⟩))).put (some 120) (.pointer (some ⟨t, oo + 1, none⟩))).put (some 121) (pR))).eval (.tmp 121) = pR := (by (repeat (first | rw [eval_same _ _ (by (try simp only [put_size]); omega)] | rw [eval_far _ _ (by decide)])))
  refine wpOp_callG ho ((wantedB hog33 dog33 hg (by (repeat (first | rw [tmps_same _ _ (by (try simp only [put_size]); omega)] | rw [tmps_far _ _ (by decide)])))).trans (by decide)) (run_callV 11 Try.func11 (by kernel_rfl) (by kernel_rfl) #[.tmp 121] _ hop #[pR] (by simp only [List.map_toArray, List.map_cons, List.map_nil, x39_0])) ?_
  refine (K4 _ r3).mono ?_
  rintro e u4 ⟨wl, rfl, r4⟩
  have hS39 := keep4 _ _ r4
  refine ⟨_, rfl, hS39, ?_⟩
  rw [hd]
  clear ho hg hop hd
  rw [← LR_snoc]
  refine wpAnyH_all r40 (by simp) ?_
  intro i hi
  obtain rfl := List.mem_singleton.1 hi
  obtain ⟨o40, ho, hg, hop, hd⟩ := isOpG_out q40
  have x40_0 : (((((((((((((((((((((((((((((((((((((((((a0.put (some 83) (v0)).put (some 84) (v0)).put (some 85) (.bool false)).put (some 86) (.bool false)).put (some 87) (v1)).put (some 88) (v1)).put (some 89) (.bool false)).put (some 90) (.bool false)).put (some 91) (.bool false)).put (some 92) (.pointer (some ⟨t, oo, none⟩))).put (some 93) (.pointer (some ⟨t, oo, none⟩))).put (some 94) (.pointer (some ⟨t, oo, none⟩))).put (some 95) (pT)).put (some 96) (.pointer (some ⟨B1, 2, none⟩))).put (some 97) (.int .i64 nn)).put (some 99) (.pointer (some ⟨t, oo, none⟩))).put (some 100) (.pointer (some ⟨t, oo, none⟩))).put (some 101) (.pointer (some ⟨t, oo + 1, none⟩))).put (some 102) (pR)).put (some 103) (.pointer (some ⟨B1, 2, none⟩))).put (some 104) (.int .i64 nn)).put (some 98) (cv)).put (some 105) (cv)).put (some 106) (.bool false)).put (some 107) (.bool false)).put (some 108) (.bool false)).put (some 109) (.pointer (some ⟨t, oo, none⟩))).put (some 110) (.pointer (some ⟨B1, 7, none⟩))).put (some 111) (.slice la ln lc)).put (some 112) (.agg (opL 0 4 0 0 V0 (.slice la ln lc) (List.replicate 24 0)).toArray)).put (some 113) (.bool true)).put (some 114) (.bool false)).put (some 115) (.bool false)).put (some 116) (.bool false)).put (some 117) (sq)).put (some 118) (.pointer (some ⟨t, oo, none⟩))).put (some 119) (.pointer (some ⟨t, oo, none⟩))).put (some 120) (.pointer (some ⟨t, oo + 1, none⟩))).put (some 121) (pR)).put (some 122) (wl))).eval (.tmp 117) = sq := (by (repeat (first | rw [eval_same _ _ (by (try simp only [put_size]); omega)] | rw [eval_far _ _ (by decide)])))
  have x40_1 : (((((((((((((((((((((((((((((((((((((((((a0.put (some 83) (v0)).put (some 84) (v0)).put (some 85) (.bool false)).put (some 86) (.bool false)).put (some 87) (v1)).put (some 88) (v1)).put (some 89) (.bool false)).put (some 90) (.bool false)).put (some 91) (.bool false)).put (some 92) (.pointer (some ⟨t, oo, none⟩))).put (some 93) (.pointer (some ⟨t, oo, none⟩))).put (some 94) (.pointer (some ⟨t, oo, none⟩))).put (some 95) (pT)).put (some 96) (.pointer (some ⟨B1, 2, none⟩))).put (some 97) (.int .i64 nn)).put (some 99) (.pointer (some ⟨t, oo, none⟩))).put (some 100) (.pointer (some ⟨t, oo, none⟩))).put (some 101) (.pointer (some ⟨t, oo + 1, none⟩))).put (some 102) (pR)).put (some 103) (.pointer (some ⟨B1, 2, none⟩))).put (some 104) (.int .i64 nn)).put (some 98) (cv)).put (some 105) (cv)).put (some 106) (.bool false)).put (some 107) (.bool false)).put (some 108) (.bool false)).put (some 109) (.pointer (some ⟨t, oo, none⟩))).put (some 110) (.pointer (some ⟨B1, 7, none⟩))).put (some 111) (.slice la ln lc)).put (some 112) (.agg (opL 0 4 0 0 V0 (.slice la ln lc) (List.replicate 24 0)).toArray)).put (some 113) (.bool true)).put (some 114) (.bool false)).put (some 115) (.bool false)).put (some 116) (.bool false)).put (some 117) (sq)).put (some 118) (.pointer (some ⟨t, oo, none⟩))).put (some 119) (.pointer (some ⟨t, oo, none⟩))).put (some 120) (.pointer (some ⟨t, oo + 1, none⟩))).put (some 121) (pR)).put (some 122) (wl))).eval (.tmp 122) = wl := (by (repeat (first | rw [eval_same _ _ (by (try simp only [put_size]); omega)] | rw [eval_far _ _ (by decide)])))
  have x40_2 : (((((((((((((((((((((((((((((((((((((((((a0.put (some 83) (v0)).put (some 84) (v0)).put (some 85) (.bool false)).put (some 86) (.bool false)).put (some 87) (v1)).put (some 88) (v1)).put (some 89) (.bool false)).put (some 90) (.bool false)).put (some 91) (.bool false)).put (some 92) (.pointer (some ⟨t, oo, none⟩))).put (some 93) (.pointer (some ⟨t, oo, none⟩))).put (some 94) (.pointer (some ⟨t, oo, none⟩))).put (some 95) (pT)).put (some 96) (.pointer (some ⟨B1, 2, none⟩))).put (some 97) (.int .i64 nn)).put (some 99) (.pointer (some ⟨t, oo, none⟩))).put (some 100) (.pointer (some ⟨t, oo, none⟩))).put (some 101) (.pointer (some ⟨t, oo + 1, none⟩))).put (some 102) (pR)).put (some 103) (.pointer (some ⟨B1, 2, none⟩))).put (some 104) (.int .i64 nn)).put (some 98) (cv)).put (some 105) (cv)).put (some 106) (.bool false)).put (some 107) (.bool false)).put (some 108) (.bool false)).put (some 109) (.pointer (some ⟨t, oo, none⟩))).put (some 110) (.pointer (some ⟨B1, 7, none⟩))).put (some 111) (.slice la ln lc)).put (some 112) (.agg (opL 0 4 0 0 V0 (.slice la ln lc) (List.replicate 24 0)).toArray)).put (some 113) (.bool true)).put (some 114) (.bool false)).put (some 115) (.bool false)).put (some 116) (.bool false)).put (some 117) (sq)).put (some 118) (.pointer (some ⟨t, oo, none⟩))).put (some 119) (.pointer (some ⟨t, oo, none⟩))).put (some 120) (.pointer (some ⟨t, oo + 1, none⟩))).put (some 121) (pR)).put (some 122) (wl))).eval (.const (.int .i64 (-1))) = .int .i64 (-1) := rfl
  refine wpOp_callG ho ((wantedB hog33 dog33 hg (by (repeat (first | rw [tmps_same _ _ (by (try simp only [put_size]); omega)] | rw [tmps_far _ _ (by decide)])))).trans (by decide)) (run_callV 9 Try.func9 (by kernel_rfl) (by kernel_rfl) #[.tmp 117, .tmp 122, .const (.int .i64 (-1))] _ hop #[sq, wl, .int .i64 (-1)] (by simp only [List.map_toArray, List.map_cons, List.map_nil, x40_0, x40_1, x40_2])) ?_
  refine (K5 _ _ r4).mono ?_
  rintro e u5 ⟨rfl, r5⟩
  have hS40 := keep5 _ r5
  refine ⟨_, rfl, hS40, ?_⟩
  rw [hd]
  clear ho hg hop hd
  rw [← LR_snoc]
  obtain ⟨o41, ho, hg, hop, hd⟩ := isOpG_out q41
  have hfr := hall ([0, 1, 2, 3, 4, 5, 6, 7, 8, 9, 10, 11, 12, 13, 14, 16, 17, 18, 19, 20, 21, 15, 22, 23, 24, 25, 26, 27, 28, 29, 30, 31, 32, 33, 34, 35, 36, 37, 38, 39, 40], 41) (by simp)
  refine wpAnyH_take (listed := LR 43 [0, 1, 2, 3, 4, 5, 6, 7, 8, 9, 10, 11, 12, 13, 14, 16, 17, 18, 19, 20, 21, 15, 22, 23, 24, 25, 26, 27, 28, 29, 30, 31, 32, 33, 34, 35, 36, 37, 38, 39, 40]) (v := .bool false) ho hs hfr.1 hfr.2 (hQ _ _) (Or.inl ⟨((wantedB hog33 dog33 hg (by (repeat (first | rw [tmps_same _ _ (by (try simp only [put_size]); omega)] | rw [tmps_far _ _ (by decide)])))).trans (by decide)), fun w' hS => run_notV (b := true) _ _ hop w' (by (repeat (first | rw [eval_same _ _ (by (try simp only [put_size]); omega)] | rw [eval_far _ _ (by decide)])))⟩) hS40 ?_
  rw [hd, ← LR_snoc]
  clear ho hg hop hd hfr
  obtain ⟨o42, ho, hg, hop, hd⟩ := isOpG_out q42
  have hfr := hall ([0, 1, 2, 3, 4, 5, 6, 7, 8, 9, 10, 11, 12, 13, 14, 16, 17, 18, 19, 20, 21, 15, 22, 23, 24, 25, 26, 27, 28, 29, 30, 31, 32, 33, 34, 35, 36, 37, 38, 39, 40, 41], 42) (by simp)
  refine wpAnyH_take (listed := LR 43 [0, 1, 2, 3, 4, 5, 6, 7, 8, 9, 10, 11, 12, 13, 14, 16, 17, 18, 19, 20, 21, 15, 22, 23, 24, 25, 26, 27, 28, 29, 30, 31, 32, 33, 34, 35, 36, 37, 38, 39, 40, 41]) (v := .bool false) ho hs hfr.1 hfr.2 (hQ _ _) (Or.inl ⟨(wantedN hg), fun w' hS => run_pickF _ _ hop w' (by (repeat (first | rw [eval_same _ _ (by (try simp only [put_size]); omega)] | rw [eval_far _ _ (by decide)]))) (by (repeat (first | rw [eval_same _ _ (by (try simp only [put_size]); omega)] | rw [eval_far _ _ (by decide)])))⟩) hS40 ?_
  rw [hd, ← LR_snoc]
  clear ho hg hop hd hfr
  exact wpAnyH_done rend (F _ wl r5) _
end Go.Proofs.Ythdcgikhcghigaa
