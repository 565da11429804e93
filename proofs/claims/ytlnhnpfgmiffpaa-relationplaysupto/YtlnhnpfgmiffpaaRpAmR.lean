import Derived.Test.YtlnhnpfgmiffpaaRpReg2
import Derived.Test.YtlnhnpfgmiffpaaRpRnd
namespace Go.Proofs.Ytlnhnpfgmiffpaa
open Go.RowKit Go.Maps
set_option linter.unusedVariables false
set_option linter.unusedSimpArgs false

theorem run_exV (ev : Operand → Value) (o : Oper) {x : Operand} {i : Nat} (hop : o.op = .extract x i) (w : World) {vs : Array Value} {v : Value} (hx : ev x = .tuple vs) (hv : vs[i]? = some v) : (execOp ev o).run Try.prog w = .ok (.value v) w := by
  simp only [execOp, hop, hx]
  go_simp
def areg14_takes : List (List Nat × Nat) := [([], 0), ([0], 1), ([0, 1], 2), ([0, 1, 2], 3), ([0, 1, 2, 3], 4), ([0, 1, 2, 3, 4], 5), ([0, 1, 2, 3, 4, 5], 6), ([0, 1, 2, 3, 4, 5, 6], 7), ([0, 1, 2, 3, 4, 5, 6, 7], 8), ([0, 1, 2, 3, 4, 5, 6, 7, 8], 9), ([0, 1, 2, 3, 4, 5, 6, 7, 8, 9], 10), ([0, 1, 2, 3, 4, 5, 6, 7, 8, 9, 10], 11), ([0, 1, 2, 3, 4, 5, 6, 7, 8, 9, 10, 11], 12), ([0, 1, 2, 3, 4, 5, 6, 7, 8, 9, 10, 11, 12], 13), ([0, 1, 2, 3, 4, 5, 6, 7, 8, 9, 10, 11, 12, 13], 15), ([0, 1, 2, 3, 4, 5, 6, 7, 8, 9, 10, 11, 12, 13, 15], 16), ([0, 1, 2, 3, 4, 5, 6, 7, 8, 9, 10, 11, 12, 13, 15, 16], 17), ([0, 1, 2, 3, 4, 5, 6, 7, 8, 9, 10, 11, 12, 13, 15, 16, 17], 18), ([0, 1, 2, 3, 4, 5, 6, 7, 8, 9, 10, 11, 12, 13, 15, 16, 17, 18], 19), ([0, 1, 2, 3, 4, 5, 6, 7, 8, 9, 10, 11, 12, 13, 15, 16, 17, 18, 19, 14, 20], 21), ([0, 1, 2, 3, 4, 5, 6, 7, 8, 9, 10, 11, 12, 13, 15, 16, 17, 18, 19, 14, 20, 21], 22)]
set_option maxHeartbeats 3200000 in
theorem areg14 {ops : Array Oper} {Q : Exit → Act → World → Prop} {S : World → Prop} {a0 : Act} {w5 : World} {t oo B0 yb : Nat} {xv rv : Bool} {er : Int} {pT pR X : Value} {ty1 ty2 : Array TypeId} (R1 R2 : World → Prop)
    (q0 : isOpG ops 0 none (.move (.tmp 10)) (some 81))
    (q1 : isOpG ops 1 none (.move (.tmp 12)) (some 82))
    (q2 : isOpG ops 2 none (.binOp .neq 4 (.tmp 81) (.tmp 82) 4) (some 83))
    (q3 : isOpG ops 3 none (.move (.tmp 83)) (some 84))
    (q4 : isOpG ops 4 (some (3, false)) (.move (.tmp 11)) (some 85))
    (q5 : isOpG ops 5 (some (3, false)) (.move (.tmp 13)) (some 86))
    (q6 : isOpG ops 6 (some (3, false)) (.binOp .neq 31 (.tmp 85) (.tmp 86) 31) (some 87))
    (q7 : isOpG ops 7 none (.pick (.tmp 84) (.const (.bool true)) (.tmp 87)) (some 88))
    (q8 : isOpG ops 8 none (.move (.tmp 88)) (some 89))
    (q9 : isOpG ops 9 (some (8, false)) (.load 58 (.tmp 2)) (some 90))
    (q10 : isOpG ops 10 (some (8, false)) (.nilCheck (.tmp 90)) (some 91))
    (q11 : isOpG ops 11 (some (8, false)) (.fieldAddr 29 (.tmp 91) 0) (some 92))
    (q12 : isOpG ops 12 (some (8, false)) (.load 24 (.tmp 92)) (some 93))
    (q13 : isOpG ops 13 (some (8, false)) (.load 40 (.tmp 9)) (some 94))
    (q15 : isOpG ops 15 (some (8, false)) (.load 58 (.tmp 2)) (some 96))
    (q16 : isOpG ops 16 (some (8, false)) (.nilCheck (.tmp 96)) (some 97))
    (q17 : isOpG ops 17 (some (8, false)) (.fieldAddr 29 (.tmp 97) 1) (some 98))
    (q18 : isOpG ops 18 (some (8, false)) (.load 25 (.tmp 98)) (some 99))
    (q19 : isOpG ops 19 (some (8, false)) (.load 40 (.tmp 9)) (some 100))
    (q14 : isOpG ops 14 (some (8, false)) (.call { callee := .value (.func 22), args := #[.tmp 93, .tmp 94], argTypes := ty1 }) (some 95))
    (q20 : isOpG ops 20 (some (8, false)) (.call { callee := .value (.func 23), args := #[.tmp 99, .tmp 100], argTypes := ty2 }) (some 101))
    (q21 : isOpG ops 21 (some (8, false)) (.binOp .neq 4 (.tmp 95) (.tmp 101) 4) (some 102))
    (q22 : isOpG ops 22 none (.pick (.tmp 89) (.const (.bool true)) (.tmp 102)) (some 103))
    (hs : Region.noSelect ops = true) (hq : (areg14_takes.all fun p => Region.free .any ops (LR 23 p.1) p.2 && (Region.ready .any ops (LR 23 p.1)).contains p.2) = true)
    (r14 : Region.ready .any ops (LR 23 [0, 1, 2, 3, 4, 5, 6, 7, 8, 9, 10, 11, 12, 13, 15, 16, 17, 18, 19]) = [14])
    (r20 : Region.ready .any ops (LR 23 [0, 1, 2, 3, 4, 5, 6, 7, 8, 9, 10, 11, 12, 13, 15, 16, 17, 18, 19, 14]) = [20])
    (rend : Region.ready .any ops (LR 23 [0, 1, 2, 3, 4, 5, 6, 7, 8, 9, 10, 11, 12, 13, 15, 16, 17, 18, 19, 14, 20, 21, 22]) = [])
    (hQ : ∀ (d : Option Tmp) (v : Value) c a w, Q (.panic c) (a.put d v) w → Q (.panic c) a w)
    (hsz : 109 < a0.tmps.size) (e10 : a0.eval (.tmp 10) = .bool xv) (e12 : a0.eval (.tmp 12) = .bool xv) (e11 : a0.eval (.tmp 11) = .int .i64 er) (e13 : a0.eval (.tmp 13) = .int .i64 er) (e2 : a0.eval (.tmp 2) = .pointer (some ⟨B0, 0, none⟩)) (e9 : a0.eval (.tmp 9) = .pointer (some ⟨yb, 0, none⟩))
    (hS0 : S w5.drew)
    (keep1 : ∀ u, R1 u → S u) (keep2 : ∀ u, R2 u → S u) (LB : ∀ u, S u → (loadVar 58 ⟨B0, 0, none⟩).run Try.prog u = .ok (.pointer (some ⟨t, oo, none⟩)) u) (LT : ∀ u, S u → (loadVar 24 ⟨t, oo, none⟩).run Try.prog u = .ok pT u) (LR1 : ∀ u, S u → (loadVar 25 ⟨t, oo + 1, none⟩).run Try.prog u = .ok pR u) (LX : ∀ u, S u → (loadVar 40 ⟨yb, 0, none⟩).run Try.prog u = .ok X u)
    (hneB : ∀ u, (binOp .neq 4 (.bool xv) (.bool xv)).run Try.prog u = .ok (.bool false) u) (hneR : ∀ u, (binOp .neq 4 (.bool rv) (.bool rv)).run Try.prog u = .ok (.bool false) u) (hneE : ∀ u, (binOp .neq 31 (.int .i64 er) (.int .i64 er)).run Try.prog u = .ok (.bool false) u)
    (K1 : Calls Try.prog 22 #[pT, X] w5.drew fun e u => e = .returned (.bool rv) ∧ R1 u) (K2 : ∀ u, R1 u → Calls Try.prog 23 #[pR, X] u fun e u' => e = .returned (.bool rv) ∧ R2 u')
    (F : ∀ (wc : World), R2 wc → Q .normal (((((((((((((((((((((((a0.put (some 81) (.bool xv)).put (some 82) (.bool xv)).put (some 83) (.bool false)).put (some 84) (.bool false)).put (some 85) (.int .i64 er)).put (some 86) (.int .i64 er)).put (some 87) (.bool false)).put (some 88) (.bool false)).put (some 89) (.bool false)).put (some 90) (.pointer (some ⟨t, oo, none⟩))).put (some 91) (.pointer (some ⟨t, oo, none⟩))).put (some 92) (.pointer (some ⟨t, oo, none⟩))).put (some 93) (pT)).put (some 94) (X)).put (some 96) (.pointer (some ⟨t, oo, none⟩))).put (some 97) (.pointer (some ⟨t, oo, none⟩))).put (some 98) (.pointer (some ⟨t, oo + 1, none⟩))).put (some 99) (pR)).put (some 100) (X)).put (some 95) (.bool rv)).put (some 101) (.bool rv)).put (some 102) (.bool false)).put (some 103) (.bool false)) wc) :
    wpAnyH Try.prog .any ops Q S 23 (LR 23 []) a0 w5.drew := by
  have hall : ∀ p ∈ areg14_takes, Region.free .any ops (LR 23 p.1) p.2 = true ∧ (Region.ready .any ops (LR 23 p.1)).contains p.2 = true := by
    intro p hp
    have := List.all_eq_true.1 hq p hp
    simpa using this
  unfold areg14_takes at hall
  obtain ⟨og3, hog3, _, _, dog3⟩ := isOpG_out q3
  obtain ⟨og8, hog8, _, _, dog8⟩ := isOpG_out q8
  obtain ⟨o0, ho, hg, hop, hd⟩ := isOpG_out q0
  have hfr := hall ([], 0) (by simp)
  refine wpAnyH_take (listed := LR 23 []) (v := .bool xv) ho hs hfr.1 hfr.2 (hQ _ _) (Or.inl ⟨(wantedN hg), fun w' hS => run_move _ _ hop w' (by (repeat rw [eval_far _ _ (by decide)]); exact e10)⟩) hS0 ?_
  rw [hd, ← LR_snoc]
  clear ho hg hop hd hfr
  obtain ⟨o1, ho, hg, hop, hd⟩ := isOpG_out q1
  have hfr := hall ([0], 1) (by simp)
  refine wpAnyH_take (listed := LR 23 [0]) (v := .bool xv) ho hs hfr.1 hfr.2 (hQ _ _) (Or.inl ⟨(wantedN hg), fun w' hS => run_move _ _ hop w' (by (repeat rw [eval_far _ _ (by decide)]); exact e12)⟩) hS0 ?_
  rw [hd, ← LR_snoc]
  clear ho hg hop hd hfr
  obtain ⟨o2, ho, hg, hop, hd⟩ := isOpG_out q2
  have hfr := hall ([0, 1], 2) (by simp)
  refine wpAnyH_take (listed := LR 23 [0, 1]) (v := .bool false) ho hs hfr.1 hfr.2 (hQ _ _) (Or.inl ⟨(wantedN hg), fun w' hS => run_binV _ _ hop w' (by (repeat (first | rw [eval_same _ _ (by (try simp only [put_size]); omega)] | rw [eval_far _ _ (by decide)]))) (by (repeat (first | rw [eval_same _ _ (by (try simp only [put_size]); omega)] | rw [eval_far _ _ (by decide)]))) (by first | rfl | go_simp) (hneB w')⟩) hS0 ?_
  rw [hd, ← LR_snoc]
  clear ho hg hop hd hfr
  obtain ⟨o3, ho, hg, hop, hd⟩ := isOpG_out q3
  have hfr := hall ([0, 1, 2], 3) (by simp)
  refine wpAnyH_take (listed := LR 23 [0, 1, 2]) (v := .bool false) ho hs hfr.1 hfr.2 (hQ _ _) (Or.inl ⟨(wantedN hg), fun w' hS => run_move _ _ hop w' (by (repeat (first | rw [eval_same _ _ (by (try simp only [put_size]); omega)] | rw [eval_far _ _ (by decide)])))⟩) hS0 ?_
  rw [hd, ← LR_snoc]
  clear ho hg hop hd hfr
  obtain ⟨o4, ho, hg, hop, hd⟩ := isOpG_out q4
  have hfr := hall ([0, 1, 2, 3], 4) (by simp)
  refine wpAnyH_take (listed := LR 23 [0, 1, 2, 3]) (v := .int .i64 er) ho hs hfr.1 hfr.2 (hQ _ _) (Or.inl ⟨((wantedB hog3 dog3 hg (by (repeat (first | rw [tmps_same _ _ (by (try simp only [put_size]); omega)] | rw [tmps_far _ _ (by decide)])))).trans (by decide)), fun w' hS => run_move _ _ hop w' (by (repeat rw [eval_far _ _ (by decide)]); exact e11)⟩) hS0 ?_
  rw [hd, ← LR_snoc]
  clear ho hg hop hd hfr
  obtain ⟨o5, ho, hg, hop, hd⟩ := isOpG_out q5
  have hfr := hall ([0, 1, 2, 3, 4], 5) (by simp)
  refine wpAnyH_take (listed := LR 23 [0, 1, 2, 3, 4]) (v := .int .i64 er) ho hs hfr.1 hfr.2 (hQ _ _) (Or.inl ⟨((wantedB hog3 dog3 hg (by (repeat (first | rw [tmps_same _ _ (by (try simp only [put_size]); omega)] | rw [tmps_far _ _ (by decide)])))).trans (by decide)), fun w' hS => run_move _ _ hop w' (by (repeat rw [eval_far _ _ (by decide)]); exact e13)⟩) hS0 ?_
  rw [hd, ← LR_snoc]
  clear ho hg hop hd hfr
  obtain ⟨o6, ho, hg, hop, hd⟩ := isOpG_out q6
  have hfr := hall ([0, 1, 2, 3, 4, 5], 6) (by simp)
  refine wpAnyH_take (listed := LR 23 [0, 1, 2, 3, 4, 5]) (v := .bool false) ho hs hfr.1 hfr.2 (hQ _ _) (Or.inl ⟨((wantedB hog3 dog3 hg (by (repeat (first | rw [tmps_same _ _ (by (try simp only [put_size]); omega)] | rw [tmps_far _ _ (by decide)])))).trans (by decide)), fun w' hS => run_binV _ _ hop w' (by (repeat (first | rw [eval_same _ _ (by (try simp only [put_size]); omega)] | rw [eval_far _ _ (by decide)]))) (by (repeat (first | rw [eval_same _ _ (by (try simp only [put_size]); omega)] | rw [eval_far _ _ (by decide)]))) (by first | rfl | go_simp) (hneE w')⟩) hS0 ?_
  rw [hd, ← LR_snoc]
  clear ho hg hop hd hfr
  obtain ⟨o7, ho, hg, hop, hd⟩ := isOpG_out q7
  have hfr := hall ([0, 1, 2, 3, 4, 5, 6], 7) (by simp)
  refine wpAnyH_take (listed := LR 23 [0, 1, 2, 3, 4, 5, 6]) (v := .bool false) ho hs hfr.1 hfr.2 (hQ _ _) (Or.inl ⟨(wantedN hg), fun w' hS => run_pickF _ _ hop w' (by (repeat (first | rw [eval_same _ _ (by (try simp only [put_size]); omega)] | rw [eval_far _ _ (by decide)]))) (by (repeat (first | rw [eval_same _ _ (by (try simp only [put_size]); omega)] | rw [eval_far _ _ (by decide)])))⟩) hS0 ?_
  rw [hd, ← LR_snoc]
  clear ho hg hop hd hfr
  obtain ⟨o8, ho, hg, hop, hd⟩ := isOpG_out q8
  have hfr := hall ([0, 1, 2, 3, 4, 5, 6, 7], 8) (by simp)
  refine wpAnyH_take (listed := LR 23 [0, 1, 2, 3, 4, 5, 6, 7]) (v := .bool false) ho hs hfr.1 hfr.2 (hQ _ _) (Or.inl ⟨(wantedN hg), fun w' hS => run_move _ _ hop w' (by (repeat (first | rw [eval_same _ _ (by (try simp only [put_size]); omega)] | rw [eval_far _ _ (by decide)])))⟩) hS0 ?_
  rw [hd, ← LR_snoc]
  clear ho hg hop hd hfr
  obtain ⟨o9, ho, hg, hop, hd⟩ := isOpG_out q9
  have hfr := hall ([0, 1, 2, 3, 4, 5, 6, 7, 8], 9) (by simp)
  refine wpAnyH_take (listed := LR 23 [0, 1, 2, 3, 4, 5, 6, 7, 8]) (v := .pointer (some ⟨t, oo, none⟩)) ho hs hfr.1 hfr.2 (hQ _ _) (Or.inl ⟨((wantedB hog8 dog8 hg (by (repeat (first | rw [tmps_same _ _ (by (try simp only [put_size]); omega)] | rw [tmps_far _ _ (by decide)])))).trans (by decide)), fun w' hS => run_loadV _ _ hop w' (by (repeat rw [eval_far _ _ (by decide)]); exact e2) (LB _ hS)⟩) hS0 ?_
  rw [hd, ← LR_snoc]
  clear ho hg hop hd hfr
  obtain ⟨o10, ho, hg, hop, hd⟩ := isOpG_out q10
  have hfr := hall ([0, 1, 2, 3, 4, 5, 6, 7, 8, 9], 10) (by simp)
  refine wpAnyH_take (listed := LR 23 [0, 1, 2, 3, 4, 5, 6, 7, 8, 9]) (v := .pointer (some ⟨t, oo, none⟩)) ho hs hfr.1 hfr.2 (hQ _ _) (Or.inl ⟨((wantedB hog8 dog8 hg (by (repeat (first | rw [tmps_same _ _ (by (try simp only [put_size]); omega)] | rw [tmps_far _ _ (by decide)])))).trans (by decide)), fun w' hS => run_nilV _ _ hop w' (by (repeat (first | rw [eval_same _ _ (by (try simp only [put_size]); omega)] | rw [eval_far _ _ (by decide)])))⟩) hS0 ?_
  rw [hd, ← LR_snoc]
  clear ho hg hop hd hfr
  obtain ⟨o11, ho, hg, hop, hd⟩ := isOpG_out q11
  have hfr := hall ([0, 1, 2, 3, 4, 5, 6, 7, 8, 9, 10], 11) (by simp)
  refine wpAnyH_take (listed := LR 23 [0, 1, 2, 3, 4, 5, 6, 7, 8, 9, 10]) (v := .pointer (some ⟨t, oo, none⟩)) ho hs hfr.1 hfr.2 (hQ _ _) (Or.inl ⟨((wantedB hog8 dog8 hg (by (repeat (first | rw [tmps_same _ _ (by (try simp only [put_size]); omega)] | rw [tmps_far _ _ (by decide)])))).trans (by decide)), fun w' hS => run_fB0 _ _ hop w' (by (repeat (first | rw [eval_same _ _ (by (try simp only [put_size]); omega)] | rw [eval_far _ _ (by decide)])))⟩) hS0 ?_
  rw [hd, ← LR_snoc]
  clear ho hg hop hd hfr
  obtain ⟨o12, ho, hg, hop, hd⟩ := isOpG_out q12
  have hfr := hall ([0, 1, 2, 3, 4, 5, 6, 7, 8, 9, 10, 11], 12) (by simp)
  refine wpAnyH_take (listed := LR 23 [0, 1, 2, 3, 4, 5, 6, 7, 8, 9, 10, 11]) (v := pT) ho hs hfr.1 hfr.2 (hQ _ _) (Or.inl ⟨((wantedB hog8 dog8 hg (by (repeat (first | rw [tmps_same _ _ (by (try simp only [put_size]); omega)] | rw [tmps_far _ _ (by decide)])))).trans (by decide)), fun w' hS => run_loadV _ _ hop w' (by (repeat (first | rw [eval_same _ _ (by (try simp only [put_size]); omega)] | rw [eval_far _ _ (by decide)]))) (LT _ hS)⟩) hS0 ?_
  rw [hd, ← LR_snoc]
  clear ho hg hop hd hfr
  obtain ⟨o13, ho, hg, hop, hd⟩ := isOpG_out q13
  have hfr := hall ([0, 1, 2, 3, 4, 5, 6, 7, 8, 9, 10, 11, 12], 13) (by simp)
  refine wpAnyH_take (listed := LR 23 [0, 1, 2, 3, 4, 5, 6, 7, 8, 9, 10, 11, 12]) (v := X) ho hs hfr.1 hfr.2 (hQ _ _) (Or.inl ⟨((wantedB hog8 dog8 hg (by (repeat (first | rw [tmps_same _ _ (by (try simp only [put_size]); omega)] | rw [tmps_far _ _ (by decide)])))).trans (by decide)), fun w' hS => run_loadV _ _ hop w' (by (repeat rw [eval_far _ _ (by decide)]); exact e9) (LX _ hS)⟩) hS0 ?_
  rw [hd, ← LR_snoc]
  clear ho hg hop hd hfr
  obtain ⟨o15, ho, hg, hop, hd⟩ := isOpG_out q15
  have hfr := hall ([0, 1, 2, 3, 4, 5, 6, 7, 8, 9, 10, 11, 12, 13], 15) (by simp)
  refine wpAnyH_take (listed := LR 23 [0, 1, 2, 3, 4, 5, 6, 7, 8, 9, 10, 11, 12, 13]) (v := .pointer (some ⟨t, oo, none⟩)) ho hs hfr.1 hfr.2 (hQ _ _) (Or.inl ⟨((wantedB hog8 dog8 hg (by (repeat (first | rw [tmps_same _ _ (by (try simp only [put_size]); omega)] | rw [tmps_far _ _ (by decide)])))).trans (by decide)), fun w' hS => run_loadV _ _ hop w' (by (repeat rw [eval_far _ _ (by decide)]); exact e2) (LB _ hS)⟩) hS0 ?_
  rw [hd, ← LR_snoc]
  clear ho hg hop hd hfr
  obtain ⟨o16, ho, hg, hop, hd⟩ := isOpG_out q16
  have hfr := hall ([0, 1, 2, 3, 4, 5, 6, 7, 8, 9, 10, 11, 12, 13, 15], 16) (by simp)
  refine wpAnyH_take (listed := LR 23 [0, 1, 2, 3, 4, 5, 6, 7, 8, 9, 10, 11, 12, 13, 15]) (v := .pointer (some ⟨t, oo, none⟩)) ho hs hfr.1 hfr.2 (hQ _ _) (Or.inl ⟨((wantedB hog8 dog8 hg (by (repeat (first | rw [tmps_same _ _ (by (try simp only [put_size]); omega)] | rw [tmps_far _ _ (by decide)])))).trans (by decide)), fun w' hS => run_nilV _ _ hop w' (by (repeat (first | rw [eval_same _ _ (by (try simp only [put_size]); omega)] | rw [eval_far _ _ (by decide)])))⟩) hS0 ?_
  rw [hd, ← LR_snoc]
  clear ho hg hop hd hfr
  obtain ⟨o17, ho, hg, hop, hd⟩ := isOpG_out q17
  have hfr := hall ([0, 1, 2, 3, 4, 5, 6, 7, 8, 9, 10, 11, 12, 13, 15, 16], 17) (by simp)
  refine wpAnyH_take (listed := LR 23 [0, 1, 2, 3, 4, 5, 6, 7, 8, 9, 10, 11, 12, 13, 15, 16]) (v := .pointer (some ⟨t, oo + 1, none⟩)) ho hs hfr.1 hfr.2 (hQ _ _) (Or.inl ⟨((wantedB hog8 dog8 hg (by (repeat (first | rw [tmps_same _ _ (by (try simp only [put_size]); omega)] | rw [tmps_far _ _ (by decide)])))).trans (by decide)), fun w' hS => run_fB1 _ _ hop w' (by (repeat (first | rw [eval_same _ _ (by (try simp only [put_size]); omega)] | rw [eval_far _ _ (by decide)])))⟩) hS0 ?_
  rw [hd, ← LR_snoc]
  clear ho hg hop hd hfr
  obtain ⟨o18, ho, hg, hop, hd⟩ := isOpG_out q18
  have hfr := hall ([0, 1, 2, 3, 4, 5, 6, 7, 8, 9, 10, 11, 12, 13, 15, 16, 17], 18) (by simp)
  refine wpAnyH_take (listed := LR 23 [0, 1, 2, 3, 4, 5, 6, 7, 8, 9, 10, 11, 12, 13, 15, 16, 17]) (v := pR) ho hs hfr.1 hfr.2 (hQ _ _) (Or.inl ⟨((wantedB hog8 dog8 hg (by (repeat (first | rw [tmps_same _ _ (by (try simp only [put_size]); omega)] | rw [tmps_far _ _ (by decide)])))).trans (by decide)), fun w' hS => run_loadV _ _ hop w' (by (repeat (first | rw [eval_same _ _ (by (try simp only [put_size]); omega)] | rw [eval_far _ _ (by decide)]))) (LR1 _ hS)⟩) hS0 ?_
  rw [hd, ← LR_snoc]
  clear ho hg hop hd hfr
  obtain ⟨o19, ho, hg, hop, hd⟩ := isOpG_out q19
  have hfr := hall ([0, 1, 2, 3, 4, 5, 6, 7, 8, 9, 10, 11, 12, 13, 15, 16, 17, 18], 19) (by simp)
  refine wpAnyH_take (listed := LR 23 [0, 1, 2, 3, 4, 5, 6, 7, 8, 9, 10, 11, 12, 13, 15, 16, 17, 18]) (v := X) ho hs hfr.1 hfr.2 (hQ _ _) (Or.inl ⟨((wantedB hog8 dog8 hg (by (repeat (first | rw [tmps_same _ _ (by (try simp only [put_size]); omega)] | rw [tmps_far _ _ (by decide)])))).trans (by decide)), fun w' hS => run_loadV _ _ hop w' (by (repeat rw [eval_far _ _ (by decide)]); exact e9) (LX _ hS)⟩) hS0 ?_
  rw [hd, ← LR_snoc]
  clear ho hg hop hd hfr
  refine wpAnyH_all r14 (by simp) ?_
  intro i hi
  obtain rfl := List.mem_singleton.1 hi
  obtain ⟨o14, ho, hg, hop, hd⟩ := isOpG_out q14
  have x14_0 : ((((((((((((((((((((a0.put (some 81) (.bool xv)).put (some 82) (.bool xv)).put (some 83) (.bool false)).put (some 84) (.bool false)).put (some 85) (.int .i64 er)).put (some 86) (.int .i64 er)).put (some 87) (.bool false)).put (some 88) (.bool false)).put (some 89) (.bool false)).put (some 90) (.pointer (some ⟨t, oo, none⟩))).put (some 91) (.pointer (some ⟨t, oo, none⟩))).put (some 92) (.pointer (some ⟨t, oo, none⟩))).put (some 93) (pT)).put (some 94) (X)).put (some 96) (.pointer (some ⟨t, oo, none⟩))).put (some 97) (.pointer (some ⟨t, oo, none⟩))).put (some 98) (.pointer (some ⟨t, oo + 1, none⟩))).put (some 99) (pR)).put (some 100) (X))).eval (.tmp 93) = pT := (by (repeat (first | rw [eval_same _ _ (by (try simp only [put_size]); omega)] | rw [eval_far _ _ (by decide)])))
  have x14_1 : ((((((((((((((((((((a0.put (some 81) (.bool xv)).put (some 82) (.bool xv)).put (some 83) (.bool false)).put (some 84) (.bool false)).put (some 85) (.int .i64 er)).put (some 86) (.int .i64 er)).put (some 87) (.bool false)).put (some 88) (.bool false)).put (some 89) (.bool false)).put (some 90) (.pointer (some ⟨t, oo, none⟩))).put (some 91) (.pointer (some ⟨t, oo, none⟩))).put (some 92) (.pointer (some ⟨t, oo, none⟩))).put (some 93) (pT)).put (some 94) (X)).put (some 96) (.pointer (some ⟨t, oo, none⟩))).put (some 97) (.pointer (some ⟨t, oo, none⟩))).put (some 98) (.pointer (some ⟨t, oo + 1, none⟩))).put (some 99) (pR)).put (some 100) (X))).eval (.tmp 94) = X := (by (repeat (first | rw [eval_same _ _ (by (try simp only [put_size]); omega)] | rw [eval_far _ _ (by decide)])))
  refine wpOp_callG ho ((wantedB hog8 dog8 hg (by (repeat (first | rw [tmps_same _ _ (by (try simp only [put_size]); omega)] | rw [tmps_far _ _ (by decide)])))).trans (by decide)) (run_callV 22 Try.func22 (by kernel_rfl) (by kernel_rfl) #[.tmp 93, .tmp 94] _ hop #[pT, X] (by simp only [List.map_toArray, List.map_cons, List.map_nil, x14_0, x14_1])) ?_
  refine (K1).mono ?_
  rintro e u1 ⟨rfl, r1⟩
  have hS14 := keep1 _ r1
  refine ⟨_, rfl, hS14, ?_⟩
  rw [hd]
  clear ho hg hop hd
  rw [← LR_snoc]
  refine wpAnyH_all r20 (by simp) ?_
  intro i hi
  obtain rfl := List.mem_singleton.1 hi
  obtain ⟨o20, ho, hg, hop, hd⟩ := isOpG_out q20
  have x20_0 : (((((((((((((((((((((a0.put (some 81) (.bool xv)).put (some 82) (.bool xv)).put (some 83) (.bool false)).put (some 84) (.bool false)).put (some 85) (.int .i64 er)).put (some 86) (.int .i64 er)).put (some 87) (.bool false)).put (some 88) (.bool false)).put (some 89) (.bool false)).put (some 90) (.pointer (some ⟨t, oo, none⟩))).put (some 91) (.pointer (some ⟨t, oo, none⟩))).put (some 92) (.pointer (some ⟨t, oo, none⟩))).put (some 93) (pT)).put (some 94) (X)).put (some 96) (.pointer (some ⟨t, oo, none⟩))).put (some 97) (.pointer (some ⟨t, oo, none⟩))).put (some 98) (.pointer (some ⟨t, oo + 1, none⟩))).put (some 99) (pR)).put (some 100) (X)).put (some 95) (.bool rv))).eval (.tmp 99) = pR := (by (repeat (first | rw [eval_same _ _ (by (try simp only [put_size]); omega)] | rw [eval_far _ _ (by decide)])))
  have x20_1 : (((((((((((((((((((((a0.put (some 81) (.bool xv)).put (some 82) (.bool xv)).put (some 83) (.bool false)).put (some 84) (.bool false)).put (some 85) (.int .i64 er)).put (some 86) (.int .i64 er)).put (some 87) (.bool false)).put (some 88) (.bool false)).put (some 89) (.bool false)).put (some 90) (.pointer (some ⟨t, oo, none⟩))).put (some 91) (.pointer (some ⟨t, oo, none⟩))).put (some 92) (.pointer (some ⟨t, oo, none⟩))).put (some 93) (pT)).put (some 94) (X)).put (some 96) (.pointer (some ⟨t, oo, none⟩))).put (some 97) (.pointer (some ⟨t, oo, none⟩))).put (some 98) (.pointer (some ⟨t, oo + 1, none⟩))).put (some 99) (pR)).put (some 100) (X)).put (some 95) (.bool rv))).eval (.tmp 100) = X := (by (repeat (first | rw [eval_same _ _ (by (try simp only [put_size]); omega)] | rw [eval_far _ _ (by decide)])))
  refine wpOp_callG ho ((wantedB hog8 dog8 hg (by (repeat (first | rw [tmps_same _ _ (by (try simp only [put_size]); omega)] | rw [tmps_far _ _ (by decide)])))).trans (by decide)) (run_callV 23 Try.func23 (by kernel_rfl) (by kernel_rfl) #[.tmp 99, .tmp 100] _ hop #[pR, X] (by simp only [List.map_toArray, List.map_cons, List.map_nil, x20_0, x20_1])) ?_
  refine (K2 _ r1).mono ?_
  rintro e u2 ⟨rfl, r2⟩
  have hS20 := keep2 _ r2
  refine ⟨_, rfl, hS20, ?_⟩
  rw [hd]
  clear ho hg hop hd
  rw [← LR_snoc]
  obtain ⟨o21, ho, hg, hop, hd⟩ := isOpG_out q21
  have hfr := hall ([0, 1, 2, 3, 4, 5, 6, 7, 8, 9, 10, 11, 12, 13, 15, 16, 17, 18, 19, 14, 20], 21) (by simp)
  refine wpAnyH_take (listed := LR 23 [0, 1, 2, 3, 4, 5, 6, 7, 8, 9, 10, 11, 12, 13, 15, 16, 17, 18, 19, 14, 20]) (v := .bool false) ho hs hfr.1 hfr.2 (hQ _ _) (Or.inl ⟨((wantedB hog8 dog8 hg (by (repeat (first | rw [tmps_same _ _ (by (try simp only [put_size]); omega)] | rw [tmps_far _ _ (by decide)])))).trans (by decide)), fun w' hS => run_binV _ _ hop w' (by (repeat (first | rw [eval_same _ _ (by (try simp only [put_size]); omega)] | rw [eval_far _ _ (by decide)]))) (by (repeat (first | rw [eval_same _ _ (by (try simp only [put_size]); omega)] | rw [eval_far _ _ (by decide)]))) (by first | rfl | go_simp) (hneR w')⟩) hS20 ?_
  rw [hd, ← LR_snoc]
  clear ho hg hop hd hfr
  obtain ⟨o22, ho, hg, hop, hd⟩ := isOpG_out q22
  have hfr := hall ([0, 1, 2, 3, 4, 5, 6, 7, 8, 9, 10, 11, 12, 13, 15, 16, 17, 18, 19, 14, 20, 21], 22) (by simp)
  refine wpAnyH_take (listed := LR 23 [0, 1, 2, 3, 4, 5, 6, 7, 8, 9, 10, 11, 12, 13, 15, 16, 17, 18, 19, 14, 20, 21]) (v := .bool false) ho hs hfr.1 hfr.2 (hQ _ _) (Or.inl ⟨(wantedN hg), fun w' hS => run_pickF _ _ hop w' (by (repeat (first | rw [eval_same _ _ (by (try simp only [put_size]); omega)] | rw [eval_far _ _ (by decide)]))) (by (repeat (first | rw [eval_same _ _ (by (try simp only [put_size]); omega)] | rw [eval_far _ _ (by decide)])))⟩) hS20 ?_
  rw [hd, ← LR_snoc]
  clear ho hg hop hd hfr
  exact wpAnyH_done rend (F _ r2) _
def areg12_takes : List (List Nat × Nat) := [([], 0), ([0], 1), ([0, 1], 2), ([0, 1, 2], 3), ([0, 1, 2, 3], 4), ([0, 1, 2, 3, 4], 5), ([0, 1, 2, 3, 4, 5, 6], 7), ([0, 1, 2, 3, 4, 5, 6, 7], 8), ([0, 1, 2, 3, 4, 5, 6, 7, 8], 9), ([0, 1, 2, 3, 4, 5, 6, 7, 8, 9], 10), ([0, 1, 2, 3, 4, 5, 6, 7, 8, 9, 10], 11)]
set_option maxHeartbeats 3200000 in
theorem areg12 {ops : Array Oper} {Q : Exit → Act → World → Prop} {S : World → Prop} {a0 : Act} {w5 : World} {t oo B0 B1 : Nat} {pT X v0 v1 : Value} {ty1 : Array TypeId} (R1 : World → Prop)
    (q0 : isOpG ops 0 none (.load 58 (.tmp 2)) (some 62))
    (q1 : isOpG ops 1 none (.nilCheck (.tmp 62)) (some 63))
    (q2 : isOpG ops 2 none (.fieldAddr 29 (.tmp 63) 0) (some 64))
    (q3 : isOpG ops 3 none (.load 24 (.tmp 64)) (some 65))
    (q4 : isOpG ops 4 none (.fieldAddr 42 (.tmp 3) 5) (some 66))
    (q5 : isOpG ops 5 none (.load 40 (.tmp 66)) (some 67))
    (q6 : isOpG ops 6 none (.call { callee := .value (.func 16), args := #[.tmp 65, .tmp 67], argTypes := ty1 }) (some 68))
    (q7 : isOpG ops 7 none (.move (.tmp 68)) (some 61))
    (q8 : isOpG ops 8 none (.extract (.tmp 61) 0) (some 69))
    (q9 : isOpG ops 9 none (.extract (.tmp 61) 1) (some 70))
    (q10 : isOpG ops 10 none (.assign (.tmp 69)) (some 10))
    (q11 : isOpG ops 11 none (.assign (.tmp 70)) (some 11))
    (hs : Region.noSelect ops = true) (hq : (areg12_takes.all fun p => Region.free .any ops (LR 12 p.1) p.2 && (Region.ready .any ops (LR 12 p.1)).contains p.2) = true)
    (r6 : Region.ready .any ops (LR 12 [0, 1, 2, 3, 4, 5]) = [6])
    (rend : Region.ready .any ops (LR 12 [0, 1, 2, 3, 4, 5, 6, 7, 8, 9, 10, 11]) = [])
    (hQ : ∀ (d : Option Tmp) (v : Value) c a w, Q (.panic c) (a.put d v) w → Q (.panic c) a w)
    (hsz : 109 < a0.tmps.size) (e2 : a0.eval (.tmp 2) = .pointer (some ⟨B0, 0, none⟩)) (e3 : a0.eval (.tmp 3) = .pointer (some ⟨B1, 0, none⟩))
    (hS0 : S w5.drew)
    (keep1 : ∀ u, R1 u → S u) (LB : ∀ u, S u → (loadVar 58 ⟨B0, 0, none⟩).run Try.prog u = .ok (.pointer (some ⟨t, oo, none⟩)) u) (LT : ∀ u, S u → (loadVar 24 ⟨t, oo, none⟩).run Try.prog u = .ok pT u) (LX : ∀ u, S u → (loadVar 40 ⟨B1, 5, none⟩).run Try.prog u = .ok X u)
    (K1 : Calls Try.prog 16 #[pT, X] w5.drew fun e u => e = .returned (.tuple #[v0, v1]) ∧ R1 u)
    (F : ∀ (wc : World), R1 wc → Q .normal ((((((((((((a0.put (some 62) (.pointer (some ⟨t, oo, none⟩))).put (some 63) (.pointer (some ⟨t, oo, none⟩))).put (some 64) (.pointer (some ⟨t, oo, none⟩))).put (some 65) (pT)).put (some 66) (.pointer (some ⟨B1, 5, none⟩))).put (some 67) (X)).put (some 68) (.tuple #[v0, v1])).put (some 61) (.tuple #[v0, v1])).put (some 69) (v0)).put (some 70) (v1)).put (some 10) (v0)).put (some 11) (v1)) wc) :
    wpAnyH Try.prog .any ops Q S 12 (LR 12 []) a0 w5.drew := by
  have hall : ∀ p ∈ areg12_takes, Region.free .any ops (LR 12 p.1) p.2 = true ∧ (Region.ready .any ops (LR 12 p.1)).contains p.2 = true := by
    intro p hp
    have := List.all_eq_true.1 hq p hp
    simpa using this
  unfold areg12_takes at hall
  obtain ⟨o0, ho, hg, hop, hd⟩ := isOpG_out q0
  have hfr := hall ([], 0) (by simp)
  refine wpAnyH_take (listed := LR 12 []) (v := .pointer (some ⟨t, oo, none⟩)) ho hs hfr.1 hfr.2 (hQ _ _) (Or.inl ⟨(wantedN hg), fun w' hS => run_loadV _ _ hop w' (by (repeat rw [eval_far _ _ (by decide)]); exact e2) (LB _ hS)⟩) hS0 ?_
  rw [hd, ← LR_snoc]
  clear ho hg hop hd hfr
  obtain ⟨o1, ho, hg, hop, hd⟩ := isOpG_out q1
  have hfr := hall ([0], 1) (by simp)
  refine wpAnyH_take (listed := LR 12 [0]) (v := .pointer (some ⟨t, oo, none⟩)) ho hs hfr.1 hfr.2 (hQ _ _) (Or.inl ⟨(wantedN hg), fun w' hS => run_nilV _ _ hop w' (by (repeat (first | rw [eval_same _ _ (by (try simp only [put_size]); omega)] | rw [eval_far _ _ (by decide)])))⟩) hS0 ?_
  rw [hd, ← LR_snoc]
  clear ho hg hop hd hfr
  obtain ⟨o2, ho, hg, hop, hd⟩ := isOpG_out q2
  have hfr := hall ([0, 1], 2) (by simp)
  refine wpAnyH_take (listed := LR 12 [0, 1]) (v := .pointer (some ⟨t, oo, none⟩)) ho hs hfr.1 hfr.2 (hQ _ _) (Or.inl ⟨(wantedN hg), fun w' hS => run_fB0 _ _ hop w' (by (repeat (first | rw [eval_same _ _ (by (try simp only [put_size]); omega)] | rw [eval_far _ _ (by decide)])))⟩) hS0 ?_
  rw [hd, ← LR_snoc]
  clear ho hg hop hd hfr
  obtain ⟨o3, ho, hg, hop, hd⟩ := isOpG_out q3
  have hfr := hall ([0, 1, 2], 3) (by simp)
  refine wpAnyH_take (listed := LR 12 [0, 1, 2]) (v := pT) ho hs hfr.1 hfr.2 (hQ _ _) (Or.inl ⟨(wantedN hg), fun w' hS => run_loadV _ _ hop w' (by (repeat (first | rw [eval_same _ _ (by (try simp only [put_size]); omega)] | rw [eval_far _ _ (by decide)]))) (LT _ hS)⟩) hS0 ?_
  rw [hd, ← LR_snoc]
  clear ho hg hop hd hfr
  obtain ⟨o4, ho, hg, hop, hd⟩ := isOpG_out q4
  have hfr := hall ([0, 1, 2, 3], 4) (by simp)
  refine wpAnyH_take (listed := LR 12 [0, 1, 2, 3]) (v := .pointer (some ⟨B1, 5, none⟩)) ho hs hfr.1 hfr.2 (hQ _ _) (Or.inl ⟨(wantedN hg), fun w' hS => run_fO5 _ _ hop w' (by (repeat rw [eval_far _ _ (by decide)]); exact e3)⟩) hS0 ?_
  rw [hd, ← LR_snoc]
  clear ho hg hop hd hfr
  obtain ⟨o5, ho, hg, hop, hd⟩ := isOpG_out q5
  have hfr := hall ([0, 1, 2, 3, 4], 5) (by simp)
  refine wpAnyH_take (listed := LR 12 [0, 1, 2, 3, 4]) (v := X) ho hs hfr.1 hfr.2 (hQ _ _) (Or.inl ⟨(wantedN hg), fun w' hS => run_loadV _ _ hop w' (by (repeat (first | rw [eval_same _ _ (by (try simp only [put_size]); omega)] | rw [eval_far _ _ (by decide)]))) (LX _ hS)⟩) hS0 ?_
  rw [hd, ← LR_snoc]
  clear ho hg hop hd hfr
  refine wpAnyH_all r6 (by simp) ?_
  intro i hi
  obtain rfl := List.mem_singleton.1 hi
  obtain ⟨o6, ho, hg, hop, hd⟩ := isOpG_out q6
  have x6_0 : (((((((a0.put (some 62) (.pointer (some ⟨t, oo, none⟩))).put (some 63) (.pointer (some ⟨t, oo, none⟩))).put (some 64) (.pointer (some ⟨t, oo, none⟩))).put (some 65) (pT)).put (some 66) (.pointer (some ⟨B1, 5, none⟩))).put (some 67) (X))).eval (.tmp 65) = pT := (by (repeat (first | rw [eval_same _ _ (by (try simp only [put_size]); omega)] | rw [eval_far _ _ (by decide)])))
  have x6_1 : (((((((a0.put (some 62) (.pointer (some ⟨t, oo, none⟩))).put (some 63) (.pointer (some ⟨t, oo, none⟩))).put (some 64) (.pointer (some ⟨t, oo, none⟩))).put (some 65) (pT)).put (some 66) (.pointer (some ⟨B1, 5, none⟩))).put (some 67) (X))).eval (.tmp 67) = X := (by (repeat (first | rw [eval_same _ _ (by (try simp only [put_size]); omega)] | rw [eval_far _ _ (by decide)])))
  refine wpOp_callG ho (wantedN hg) (run_callV 16 Try.func16 (by kernel_rfl) (by kernel_rfl) #[.tmp 65, .tmp 67] _ hop #[pT, X] (by simp only [List.map_toArray, List.map_cons, List.map_nil, x6_0, x6_1])) ?_
  refine (K1).mono ?_
  rintro e u1 ⟨rfl, r1⟩
  have hS6 := keep1 _ r1
  refine ⟨_, rfl, hS6, ?_⟩
  rw [hd]
  clear ho hg hop hd
  rw [← LR_snoc]
  obtain ⟨o7, ho, hg, hop, hd⟩ := isOpG_out q7
  have hfr := hall ([0, 1, 2, 3, 4, 5, 6], 7) (by simp)
  refine wpAnyH_take (listed := LR 12 [0, 1, 2, 3, 4, 5, 6]) (v := .tuple #[v0, v1]) ho hs hfr.1 hfr.2 (hQ _ _) (Or.inl ⟨(wantedN hg), fun w' hS => run_move _ _ hop w' (by (repeat (first | rw [eval_same _ _ (by (try simp only [put_size]); omega)] | rw [eval_far _ _ (by decide)])))⟩) hS6 ?_
  rw [hd, ← LR_snoc]
  clear ho hg hop hd hfr
  obtain ⟨o8, ho, hg, hop, hd⟩ := isOpG_out q8
  have hfr := hall ([0, 1, 2, 3, 4, 5, 6, 7], 8) (by simp)
  refine wpAnyH_take (listed := LR 12 [0, 1, 2, 3, 4, 5, 6, 7]) (v := v0) ho hs hfr.1 hfr.2 (hQ _ _) (Or.inl ⟨(wantedN hg), fun w' hS => run_exV _ _ hop w' (by (repeat (first | rw [eval_same _ _ (by (try simp only [put_size]); omega)] | rw [eval_far _ _ (by decide)]))) rfl⟩) hS6 ?_
  rw [hd, ← LR_snoc]
  clear ho hg hop hd hfr
  obtain ⟨o9, ho, hg, hop, hd⟩ := isOpG_out q9
  have hfr := hall ([0, 1, 2, 3, 4, 5, 6, 7, 8], 9) (by simp)
  refine wpAnyH_take (listed := LR 12 [0, 1, 2, 3, 4, 5, 6, 7, 8]) (v := v1) ho hs hfr.1 hfr.2 (hQ _ _) (Or.inl ⟨(wantedN hg), fun w' hS => run_exV _ _ hop w' (by (repeat (first | rw [eval_same _ _ (by (try simp only [put_size]); omega)] | rw [eval_far _ _ (by decide)]))) rfl⟩) hS6 ?_
  rw [hd, ← LR_snoc]
  clear ho hg hop hd hfr
  obtain ⟨o10, ho, hg, hop, hd⟩ := isOpG_out q10
  have hfr := hall ([0, 1, 2, 3, 4, 5, 6, 7, 8, 9], 10) (by simp)
  refine wpAnyH_take (listed := LR 12 [0, 1, 2, 3, 4, 5, 6, 7, 8, 9]) (v := v0) ho hs hfr.1 hfr.2 (hQ _ _) (Or.inl ⟨(wantedN hg), fun w' hS => run_assignV _ _ hop w' (by (repeat (first | rw [eval_same _ _ (by (try simp only [put_size]); omega)] | rw [eval_far _ _ (by decide)])))⟩) hS6 ?_
  rw [hd, ← LR_snoc]
  clear ho hg hop hd hfr
  obtain ⟨o11, ho, hg, hop, hd⟩ := isOpG_out q11
  have hfr := hall ([0, 1, 2, 3, 4, 5, 6, 7, 8, 9, 10], 11) (by simp)
  refine wpAnyH_take (listed := LR 12 [0, 1, 2, 3, 4, 5, 6, 7, 8, 9, 10]) (v := v1) ho hs hfr.1 hfr.2 (hQ _ _) (Or.inl ⟨(wantedN hg), fun w' hS => run_assignV _ _ hop w' (by (repeat (first | rw [eval_same _ _ (by (try simp only [put_size]); omega)] | rw [eval_far _ _ (by decide)])))⟩) hS6 ?_
  rw [hd, ← LR_snoc]
  clear ho hg hop hd hfr
  exact wpAnyH_done rend (F _ r1) _
def areg13_takes : List (List Nat × Nat) := [([], 0), ([0], 1), ([0, 1], 2), ([0, 1, 2], 3), ([0, 1, 2, 3], 4), ([0, 1, 2, 3, 4], 5), ([0, 1, 2, 3, 4, 5, 6], 7), ([0, 1, 2, 3, 4, 5, 6, 7], 8), ([0, 1, 2, 3, 4, 5, 6, 7, 8], 9), ([0, 1, 2, 3, 4, 5, 6, 7, 8, 9], 10), ([0, 1, 2, 3, 4, 5, 6, 7, 8, 9, 10], 11)]
set_option maxHeartbeats 3200000 in
theorem areg13 {ops : Array Oper} {Q : Exit → Act → World → Prop} {S : World → Prop} {a0 : Act} {w5 : World} {t oo B0 B1 : Nat} {pR X v0 v1 : Value} {ty1 : Array TypeId} (R1 : World → Prop)
    (q0 : isOpG ops 0 none (.load 58 (.tmp 2)) (some 72))
    (q1 : isOpG ops 1 none (.nilCheck (.tmp 72)) (some 73))
    (q2 : isOpG ops 2 none (.fieldAddr 29 (.tmp 73) 1) (some 74))
    (q3 : isOpG ops 3 none (.load 25 (.tmp 74)) (some 75))
    (q4 : isOpG ops 4 none (.fieldAddr 42 (.tmp 3) 5) (some 76))
    (q5 : isOpG ops 5 none (.load 40 (.tmp 76)) (some 77))
    (q6 : isOpG ops 6 none (.call { callee := .value (.func 17), args := #[.tmp 75, .tmp 77], argTypes := ty1 }) (some 78))
    (q7 : isOpG ops 7 none (.move (.tmp 78)) (some 71))
    (q8 : isOpG ops 8 none (.extract (.tmp 71) 0) (some 79))
    (q9 : isOpG ops 9 none (.extract (.tmp 71) 1) (some 80))
    (q10 : isOpG ops 10 none (.assign (.tmp 79)) (some 12))
    (q11 : isOpG ops 11 none (.assign (.tmp 80)) (some 13))
    (hs : Region.noSelect ops = true) (hq : (areg13_takes.all fun p => Region.free .any ops (LR 12 p.1) p.2 && (Region.ready .any ops (LR 12 p.1)).contains p.2) = true)
    (r6 : Region.ready .any ops (LR 12 [0, 1, 2, 3, 4, 5]) = [6])
    (rend : Region.ready .any ops (LR 12 [0, 1, 2, 3, 4, 5, 6, 7, 8, 9, 10, 11]) = [])
    (hQ : ∀ (d : Option Tmp) (v : Value) c a w, Q (.panic c) (a.put d v) w → Q (.panic c) a w)
    (hsz : 109 < a0.tmps.size) (e2 : a0.eval (.tmp 2) = .pointer (some ⟨B0, 0, none⟩)) (e3 : a0.eval (.tmp 3) = .pointer (some ⟨B1, 0, none⟩))
    (hS0 : S w5.drew)
    (keep1 : ∀ u, R1 u → S u) (LB : ∀ u, S u → (loadVar 58 ⟨B0, 0, none⟩).run Try.prog u = .ok (.pointer (some ⟨t, oo, none⟩)) u) (LR1 : ∀ u, S u → (loadVar 25 ⟨t, oo + 1, none⟩).run Try.prog u = .ok pR u) (LX : ∀ u, S u → (loadVar 40 ⟨B1, 5, none⟩).run Try.prog u = .ok X u)
    (K1 : Calls Try.prog 17 #[pR, X] w5.drew fun e u => e = .returned (.tuple #[v0, v1]) ∧ R1 u)
    (F : ∀ (wc : World), R1 wc → Q .normal ((((((((((((a0.put (some 72) (.pointer (some ⟨t, oo, none⟩))).put (some 73) (.pointer (some ⟨t, oo, none⟩))).put (some 74) (.pointer (some ⟨t, oo + 1, none⟩))).put (some 75) (pR)).put (some 76) (.pointer (some ⟨B1, 5, none⟩))).put (some 77) (X)).put (some 78) (.tuple #[v0, v1])).put (some 71) (.tuple #[v0, v1])).put (some 79) (v0)).put (some 80) (v1)).put (some 12) (v0)).put (some 13) (v1)) wc) :
    wpAnyH Try.prog .any ops Q S 12 (LR 12 []) a0 w5.drew := by
  have hall : ∀ p ∈ areg13_takes, Region.free .any ops (LR 12 p.1) p.2 = true ∧ (Region.ready .any ops (LR 12 p.1)).contains p.2 = true := by
    intro p hp
    have := List.all_eq_true.1 hq p hp
    simpa using this
  unfold areg13_takes at hall
  obtain ⟨o0, ho, hg, hop, hd⟩ := isOpG_out q0
  have hfr := hall ([], 0) (by simp)
  refine wpAnyH_take (listed := LR 12 []) (v := .pointer (some ⟨t, oo, none⟩)) ho hs hfr.1 hfr.2 (hQ _ _) (Or.inl ⟨(wantedN hg), fun w' hS => run_loadV _ _ hop w' (by (repeat rw [eval_far _ _ (by decide)]); exact e2) (LB _ hS)⟩) hS0 ?_
  rw [hd, ← LR_snoc]
  clear ho hg hop hd hfr
  obtain ⟨o1, ho, hg, hop, hd⟩ := isOpG_out q1
  have hfr := hall ([0], 1) (by simp)
  refine wpAnyH_take (listed := LR 12 [0]) (v := .pointer (some ⟨t, oo, none⟩)) ho hs hfr.1 hfr.2 (hQ _ _) (Or.inl ⟨(wantedN hg), fun w' hS => run_nilV _ _ hop w' (by (repeat (first | rw [eval_same _ _ (by (try simp only [put_size]); omega)] | rw [eval_far _ _ (by decide)])))⟩) hS0 ?_
  rw [hd, ← LR_snoc]
  clear ho hg hop hd hfr
  obtain ⟨o2, ho, hg, hop, hd⟩ := isOpG_out q2
  have hfr := hall ([0, 1], 2) (by simp)
  refine wpAnyH_take (listed := LR 12 [0, 1]) (v := .pointer (some ⟨t, oo + 1, none⟩)) ho hs hfr.1 hfr.2 (hQ _ _) (Or.inl ⟨(wantedN hg), fun w' hS => run_fB1 _ _ hop w' (by (repeat (first | rw [eval_same _ _ (by (try simp only [put_size]); omega)] | rw [eval_far _ _ (by decide)])))⟩) hS0 ?_
  rw [hd, ← LR_snoc]
  clear ho hg hop hd hfr
  obtain ⟨o3, ho, hg, hop, hd⟩ := isOpG_out q3
  have hfr := hall ([0, 1, 2], 3) (by simp)
  refine wpAnyH_take (listed := LR 12 [0, 1, 2]) (v := pR) ho hs hfr.1 hfr.2 (hQ _ _) (Or.inl ⟨(wantedN hg), fun w' hS => run_loadV _ _ hop w' (by (repeat (first | rw [eval_same _ _ (by (try simp only [put_size]); omega)] | rw [eval_far _ _ (by decide)]))) (LR1 _ hS)⟩) hS0 ?_
  rw [hd, ← LR_snoc]
  clear ho hg hop hd hfr
  obtain ⟨o4, ho, hg, hop, hd⟩ := isOpG_out q4
  have hfr := hall ([0, 1, 2, 3], 4) (by simp)
  refine wpAnyH_take (listed := LR 12 [0, 1, 2, 3]) (v := .pointer (some ⟨B1, 5, none⟩)) ho hs hfr.1 hfr.2 (hQ _ _) (Or.inl ⟨(wantedN hg), fun w' hS => run_fO5 _ _ hop w' (by (repeat rw [eval_far _ _ (by decide)]); exact e3)⟩) hS0 ?_
  rw [hd, ← LR_snoc]
  clear ho hg hop hd hfr
  obtain ⟨o5, ho, hg, hop, hd⟩ := isOpG_out q5
  have hfr := hall ([0, 1, 2, 3, 4], 5) (by simp)
  refine wpAnyH_take (listed := LR 12 [0, 1, 2, 3, 4]) (v := X) ho hs hfr.1 hfr.2 (hQ _ _) (Or.inl ⟨(wantedN hg), fun w' hS => run_loadV _ _ hop w' (by (repeat (first | rw [eval_same _ _ (by (try simp only [put_size]); omega)] | rw [eval_far _ _ (by decide)]))) (LX _ hS)⟩) hS0 ?_
  rw [hd, ← LR_snoc]
  clear ho hg hop hd hfr
  refine wpAnyH_all r6 (by simp) ?_
  intro i hi
  obtain rfl := List.mem_singleton.1 hi
  obtain ⟨o6, ho, hg, hop, hd⟩ := isOpG_out q6
  have x6_0 : (((((((a0.put (some 72) (.pointer (some ⟨t, oo, none⟩))).put (some 73) (.pointer (some ⟨t, oo, none⟩))).put (some 74) (.pointer (some ⟨t, oo + 1, none⟩))).put (some 75) (pR)).put (some 76) (.pointer (some ⟨B1, 5, none⟩))).put (some 77) (X))).eval (.tmp 75) = pR := (by (repeat (first | rw [eval_same _ _ (by (try simp only [put_size]); omega)] | rw [eval_far _ _ (by decide)])))
  have x6_1 : (((((((a0.put (some 72) (.pointer (some ⟨t, oo, none⟩))).put (some 73) (.pointer (some ⟨t, oo, none⟩))).put (some 74) (.pointer (some ⟨t, oo + 1, none⟩))).put (some 75) (pR)).put (some 76) (.pointer (some ⟨B1, 5, none⟩))).put (some 77) (X))).eval (.tmp 77) = X := (by (repeat (first | rw [eval_same _ _ (by (try simp only [put_size]); omega)] | rw [eval_far _ _ (by decide)])))
  refine wpOp_callG ho (wantedN hg) (run_callV 17 Try.func17 (by kernel_rfl) (by kernel_rfl) #[.tmp 75, .tmp 77] _ hop #[pR, X] (by simp only [List.map_toArray, List.map_cons, List.map_nil, x6_0, x6_1])) ?_
  refine (K1).mono ?_
  rintro e u1 ⟨rfl, r1⟩
  have hS6 := keep1 _ r1
  refine ⟨_, rfl, hS6, ?_⟩
  rw [hd]
  clear ho hg hop hd
  rw [← LR_snoc]
  obtain ⟨o7, ho, hg, hop, hd⟩ := isOpG_out q7
  have hfr := hall ([0, 1, 2, 3, 4, 5, 6], 7) (by simp)
  refine wpAnyH_take (listed := LR 12 [0, 1, 2, 3, 4, 5, 6]) (v := .tuple #[v0, v1]) ho hs hfr.1 hfr.2 (hQ _ _) (Or.inl ⟨(wantedN hg), fun w' hS => run_move _ _ hop w' (by (repeat (first | rw [eval_same _ _ (by (try simp only [put_size]); omega)] | rw [eval_far _ _ (by decide)])))⟩) hS6 ?_
  rw [hd, ← LR_snoc]
  clear ho hg hop hd hfr
  obtain ⟨o8, ho, hg, hop, hd⟩ := isOpG_out q8
  have hfr := hall ([0, 1, 2, 3, 4, 5, 6, 7], 8) (by simp)
  refine wpAnyH_take (listed := LR 12 [0, 1, 2, 3, 4, 5, 6, 7]) (v := v0) ho hs hfr.1 hfr.2 (hQ _ _) (Or.inl ⟨(wantedN hg), fun w' hS => run_exV _ _ hop w' (by (repeat (first | rw [eval_same _ _ (by (try simp only [put_size]); omega)] | rw [eval_far _ _ (by decide)]))) rfl⟩) hS6 ?_
  rw [hd, ← LR_snoc]
  clear ho hg hop hd hfr
  obtain ⟨o9, ho, hg, hop, hd⟩ := isOpG_out q9
  have hfr := hall ([0, 1, 2, 3, 4, 5, 6, 7, 8], 9) (by simp)
  refine wpAnyH_take (listed := LR 12 [0, 1, 2, 3, 4, 5, 6, 7, 8]) (v := v1) ho hs hfr.1 hfr.2 (hQ _ _) (Or.inl ⟨(wantedN hg), fun w' hS => run_exV _ _ hop w' (by (repeat (first | rw [eval_same _ _ (by (try simp only [put_size]); omega)] | rw [eval_far _ _ (by decide)]))) rfl⟩) hS6 ?_
  rw [hd, ← LR_snoc]
  clear ho hg hop hd hfr
  obtain ⟨o10, ho, hg, hop, hd⟩ := isOpG_out q10
  have hfr := hall ([0, 1, 2, 3, 4, 5, 6, 7, 8, 9], 10) (by simp)
  refine wpAnyH_take (listed := LR 12 [0, 1, 2, 3, 4, 5, 6, 7, 8, 9]) (v := v0) ho hs hfr.1 hfr.2 (hQ _ _) (Or.inl ⟨(wantedN hg), fun w' hS => run_assignV _ _ hop w' (by (repeat (first | rw [eval_same _ _ (by (try simp only [put_size]); omega)] | rw [eval_far _ _ (by decide)])))⟩) hS6 ?_
  rw [hd, ← LR_snoc]
  clear ho hg hop hd hfr
  obtain ⟨o11, ho, hg, hop, hd⟩ := isOpG_out q11
  have hfr := hall ([0, 1, 2, 3, 4, 5, 6, 7, 8, 9, 10], 11) (by simp)
  refine wpAnyH_take (listed := LR 12 [0, 1, 2, 3, 4, 5, 6, 7, 8, 9, 10]) (v := v1) ho hs hfr.1 hfr.2 (hQ _ _) (Or.inl ⟨(wantedN hg), fun w' hS => run_assignV _ _ hop w' (by (repeat (first | rw [eval_same _ _ (by (try simp only [put_size]); omega)] | rw [eval_far _ _ (by decide)])))⟩) hS6 ?_
  rw [hd, ← LR_snoc]
  clear ho hg hop hd hfr
  exact wpAnyH_done rend (F _ r1) _
end Go.Proofs.Ytlnhnpfgmiffpaa
