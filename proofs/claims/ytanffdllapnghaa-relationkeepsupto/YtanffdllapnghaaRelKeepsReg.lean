import Derived.Test.YtanffdllapnghaaRelMap
import Derived.Test.YtanffdllapnghaaRgGen
namespace Go.Proofs.Ytanffdllapnghaa
open Go.RowKit Go.Maps
set_option linter.unusedVariables false
set_option linter.unusedSimpArgs false

theorem run_idxRow (ev : Operand → Value) (o : Oper) {x y : Operand} (hop : o.op = .indexAddr 28 x y) (w : World) {g n c k : Nat} (hx : ev x = .slice (some ⟨g, 0, none⟩) n c) (hy : ev y = .int .i64 k) (hk : k < n) : (execOp ev o).run Try.prog w = .ok (.value (.pointer (some ⟨g, k * 24, none⟩))) w := by
  have h1 : (k : Int) < (n : Int) := by omega
  have h0 : (0 : Int) ≤ (k : Int) := by omega
  simp only [execOp, hop, hx, hy]
  go_simp
theorem run_loadK (ev : Operand → Value) (o : Oper) {ty : TypeId} {x : Operand} (hop : o.op = .load ty x) (w : World) {a : Addr} {v : Value} (hx : ev x = .pointer (some a)) (hl : (loadVar ty a).run Try.prog w = .ok v w) : (execOp ev o).run Try.prog w = .ok (.value v) w := by
  simp only [execOp, hop, hx]
  simp [Instr.loadAt, Instr.sureAddr, hl, Result.andThen]
theorem gtr0 (u : World) : (binOp .gtr 3 (.int .i64 ((0 : Nat) : Int)) (.int .i64 0)).run Try.prog u = .ok (.bool false) u := by go_simp
theorem gtr1 (j : Nat) (u : World) : (binOp .gtr 3 (.int .i64 ((j + 1 : Nat) : Int)) (.int .i64 0)).run Try.prog u = .ok (.bool true) u := by
  have h : (0 : Int) < ((j + 1 : Nat) : Int) := by omega
  generalize ((j + 1 : Nat) : Int) = k at h ⊢
  go_simp
theorem sub1 (j : Nat) (hj : j ≤ 1000000000) (u : World) : (binOp .sub 3 (.int .i64 ((j + 1 : Nat) : Int)) (.int .i64 1)).run Try.prog u = .ok (.int .i64 (j : Int)) u := by
  have h : IntKind.i64.wrap (((j + 1 : Nat) : Int) - 1) = (j : Int) := by rw [IntKind.wrap_i64]; omega
  generalize ((j + 1 : Nat) : Int) = k at h ⊢
  go_simp
def reg30A_takes : List (List Nat × Nat) := [([], 0), ([0], 1), ([0, 1], 2), ([0, 1, 2], 3), ([0, 1, 2, 3], 4), ([0, 1, 2, 3, 4, 5], 6), ([0, 1, 2, 3, 4, 5, 6], 7), ([0, 1, 2, 3, 4, 5, 6, 7], 8), ([0, 1, 2, 3, 4, 5, 6, 7, 8], 9), ([0, 1, 2, 3, 4, 5, 6, 7, 8, 9], 10), ([0, 1, 2, 3, 4, 5, 6, 7, 8, 9, 10], 11), ([0, 1, 2, 3, 4, 5, 6, 7, 8, 9, 10, 11], 12), ([0, 1, 2, 3, 4, 5, 6, 7, 8, 9, 10, 11, 12], 13), ([0, 1, 2, 3, 4, 5, 6, 7, 8, 9, 10, 11, 12, 13], 14), ([0, 1, 2, 3, 4, 5, 6, 7, 8, 9, 10, 11, 12, 13, 14], 15), ([0, 1, 2, 3, 4, 5, 6, 7, 8, 9, 10, 11, 12, 13, 14, 15], 16), ([0, 1, 2, 3, 4, 5, 6, 7, 8, 9, 10, 11, 12, 13, 14, 15, 16], 17), ([0, 1, 2, 3, 4, 5, 6, 7, 8, 9, 10, 11, 12, 13, 14, 15, 16, 17], 18), ([0, 1, 2, 3, 4, 5, 6, 7, 8, 9, 10, 11, 12, 13, 14, 15, 16, 17, 18], 19), ([0, 1, 2, 3, 4, 5, 6, 7, 8, 9, 10, 11, 12, 13, 14, 15, 16, 17, 18, 19], 20), ([0, 1, 2, 3, 4, 5, 6, 7, 8, 9, 10, 11, 12, 13, 14, 15, 16, 17, 18, 19, 20], 21), ([0, 1, 2, 3, 4, 5, 6, 7, 8, 9, 10, 11, 12, 13, 14, 15, 16, 17, 18, 19, 20, 21], 22), ([0, 1, 2, 3, 4, 5, 6, 7, 8, 9, 10, 11, 12, 13, 14, 15, 16, 17, 18, 19, 20, 21, 22], 23)]
set_option maxHeartbeats 3200000 in
theorem reg30A {ops : Array Oper} {Q : Exit → Act → World → Prop} {S : World → Prop} {a0 : Act} {w5 : World} {tt g n cc i j : Nat} {x y : List Int} {ty1 ty2 : Array TypeId}
    (q0 : isOpG ops 0 none (.move (.tmp 7)) (some 138))
    (q1 : isOpG ops 1 none (.move (.tmp 19)) (some 139))
    (q2 : isOpG ops 2 none (.move (.tmp 20)) (some 140))
    (q3 : isOpG ops 3 none (.indexAddr 28 (.tmp 139) (.tmp 140)) (some 141))
    (q4 : isOpG ops 4 none (.load 25 (.tmp 141)) (some 142))
    (q5 : isOpG ops 5 none (.call { callee := .value (.func 9), args := #[.tmp 138, .tmp 142], argTypes := ty1 }) (some 143))
    (q6 : isOpG ops 6 none (.unOp .not 4 (.tmp 143)) (some 144))
    (q7 : isOpG ops 7 none (.move (.tmp 144)) (some 145))
    (q8 : isOpG ops 8 (some (7, false)) (.move (.tmp 20)) (some 146))
    (q9 : isOpG ops 9 (some (7, false)) (.binOp .gtr 3 (.tmp 146) (.const (.int .i64 0)) 3) (some 147))
    (q10 : isOpG ops 10 (some (7, false)) (.move (.tmp 147)) (some 148))
    (q11 : isOpG ops 11 (some (10, true)) (.move (.tmp 19)) (some 149))
    (q12 : isOpG ops 12 (some (10, true)) (.move (.tmp 20)) (some 150))
    (q13 : isOpG ops 13 (some (10, true)) (.binOp .sub 3 (.tmp 150) (.const (.int .i64 1)) 3) (some 151))
    (q14 : isOpG ops 14 (some (10, true)) (.indexAddr 28 (.tmp 149) (.tmp 151)) (some 152))
    (q15 : isOpG ops 15 (some (10, true)) (.load 25 (.tmp 152)) (some 153))
    (q16 : isOpG ops 16 (some (10, true)) (.move (.tmp 19)) (some 154))
    (q17 : isOpG ops 17 (some (10, true)) (.move (.tmp 20)) (some 155))
    (q18 : isOpG ops 18 (some (10, true)) (.indexAddr 28 (.tmp 154) (.tmp 155)) (some 156))
    (q19 : isOpG ops 19 (some (10, true)) (.load 25 (.tmp 156)) (some 157))
    (q20 : isOpG ops 20 (some (10, true)) (.call { callee := .value (.func 12), args := #[.tmp 153, .tmp 157], argTypes := ty2 }) (some 158))
    (q21 : isOpG ops 21 (some (10, true)) (.unOp .not 4 (.tmp 158)) (some 159))
    (q22 : isOpG ops 22 (some (7, false)) (.pick (.tmp 148) (.tmp 159) (.const (.bool false))) (some 160))
    (q23 : isOpG ops 23 none (.pick (.tmp 145) (.const (.bool true)) (.tmp 160)) (some 161))
    (hs : Region.noSelect ops = true) (hq : (reg30A_takes.all fun p => Region.free .any ops (LR 24 p.1) p.2 && (Region.ready .any ops (LR 24 p.1)).contains p.2) = true)
    (r5 : Region.ready .any ops (LR 24 [0, 1, 2, 3, 4]) = [5])
    (rend : Region.ready .any ops (LR 24 [0, 1, 2, 3, 4, 5, 6, 7, 8, 9, 10, 11, 12, 13, 14, 15, 16, 17, 18, 19, 20, 21, 22, 23]) = [])
    (hQ : ∀ (d : Option Tmp) (v : Value) c a w, Q (.panic c) (a.put d v) w → Q (.panic c) a w)
    (hsz : 161 < a0.tmps.size) (e7 : a0.eval (.tmp 7) = .pointer (some ⟨tt, 0, none⟩)) (e19 : a0.eval (.tmp 19) = .slice (some ⟨g, 0, none⟩) n cc) (e20 : a0.eval (.tmp 20) = .int .i64 i)
    (hS0 : S w5.drew)
    (keep : ∀ u u', S u → Below u.heap.size u u' → S u') (hin : i < n) (LY : ∀ u, S u → (loadVar 25 ⟨g, i * 24, none⟩).run Try.prog u = .ok (rowV y) u)
    (hgt : ∀ u, (binOp .gtr 3 (.int .i64 i) (.int .i64 0)).run Try.prog u = .ok (.bool false) u)
    (KH : ∀ u, S u → Calls Try.prog 9 #[.pointer (some ⟨tt, 0, none⟩), rowV y] u fun e w' => e = .returned (.bool true) ∧ Below u.heap.size u w')
    (F : ∀ (wc : World), S wc → Q .normal ((((((((((((((((((((((((a0.put (some 138) (.pointer (some ⟨tt, 0, none⟩))).put (some 139) (.slice (some ⟨g, 0, none⟩) n cc)).put (some 140) (.int .i64 i)).put (some 141) (.pointer (some ⟨g, i * 24, none⟩))).put (some 142) (rowV y)).put (some 143) (.bool true)).put (some 144) (.bool false)).put (some 145) (.bool false)).put (some 146) (.int .i64 i)).put (some 147) (.bool false)).put (some 148) (.bool false)).put (some 149) (undef)).put (some 150) (undef)).put (some 151) (undef)).put (some 152) (undef)).put (some 153) (undef)).put (some 154) (undef)).put (some 155) (undef)).put (some 156) (undef)).put (some 157) (undef)).put (some 158) (undef)).put (some 159) (undef)).put (some 160) (.bool false)).put (some 161) (.bool false)) wc) :
    wpAnyH Try.prog .any ops Q S 24 (LR 24 []) a0 w5.drew := by
  have hall : ∀ p ∈ reg30A_takes, Region.free .any ops (LR 24 p.1) p.2 = true ∧ (Region.ready .any ops (LR 24 p.1)).contains p.2 = true := by
    intro p hp
    have := List.all_eq_true.1 hq p hp
    simpa using this
  unfold reg30A_takes at hall
  obtain ⟨og7, hog7, _, _, dog7⟩ := isOpG_out q7
  obtain ⟨og10, hog10, _, _, dog10⟩ := isOpG_out q10
  obtain ⟨o0, ho, hg, hop, hd⟩ := isOpG_out q0
  have hfr := hall ([], 0) (by simp)
  refine wpAnyH_take (listed := LR 24 []) (v := .pointer (some ⟨tt, 0, none⟩)) ho hs hfr.1 hfr.2 (hQ _ _) (Or.inl ⟨(wantedN hg), fun w' hS => run_move _ _ hop w' (by (repeat rw [eval_far _ _ (by decide)]); exact e7)⟩) hS0 ?_
  rw [hd, ← LR_snoc]
  clear ho hg hop hd hfr
  obtain ⟨o1, ho, hg, hop, hd⟩ := isOpG_out q1
  have hfr := hall ([0], 1) (by simp)
  refine wpAnyH_take (listed := LR 24 [0]) (v := .slice (some ⟨g, 0, none⟩) n cc) ho hs hfr.1 hfr.2 (hQ _ _) (Or.inl ⟨(wantedN hg), fun w' hS => run_move _ _ hop w' (by (repeat rw [eval_far _ _ (by decide)]); exact e19)⟩) hS0 ?_
  rw [hd, ← LR_snoc]
  clear ho hg hop hd hfr
  obtain ⟨o2, ho, hg, hop, hd⟩ := isOpG_out q2
  have hfr := hall ([0, 1], 2) (by simp)
  refine wpAnyH_take (listed := LR 24 [0, 1]) (v := .int .i64 i) ho hs hfr.1 hfr.2 (hQ _ _) (Or.inl ⟨(wantedN hg), fun w' hS => run_move _ _ hop w' (by (repeat rw [eval_far _ _ (by decide)]); exact e20)⟩) hS0 ?_
  rw [hd, ← LR_snoc]
  clear ho hg hop hd hfr
  obtain ⟨o3, ho, hg, hop, hd⟩ := isOpG_out q3
  have hfr := hall ([0, 1, 2], 3) (by simp)
  refine wpAnyH_take (listed := LR 24 [0, 1, 2]) (v := .pointer (some ⟨g, i * 24, none⟩)) ho hs hfr.1 hfr.2 (hQ _ _) (Or.inl ⟨(wantedN hg), fun w' hS => run_idxRow _ _ hop w' (by (repeat (first | rw [eval_same _ _ (by (try simp only [put_size]); omega)] | rw [eval_far _ _ (by decide)]))) (by (repeat (first | rw [eval_same _ _ (by (try simp only [put_size]); omega)] | rw [eval_far _ _ (by decide)]))) hin⟩) hS0 ?_
  rw [hd, ← LR_snoc]
  clear ho hg hop hd hfr
  obtain ⟨o4, ho, hg, hop, hd⟩ := isOpG_out q4
  have hfr := hall ([0, 1, 2, 3], 4) (by simp)
  refine wpAnyH_take (listed := LR 24 [0, 1, 2, 3]) (v := rowV y) ho hs hfr.1 hfr.2 (hQ _ _) (Or.inl ⟨(wantedN hg), fun w' hS => run_loadK _ _ hop w' (by (repeat (first | rw [eval_same _ _ (by (try simp only [put_size]); omega)] | rw [eval_far _ _ (by decide)]))) (LY _ hS)⟩) hS0 ?_
  rw [hd, ← LR_snoc]
  clear ho hg hop hd hfr
  refine wpAnyH_all r5 (by simp) ?_
  intro i hi
  obtain rfl := List.mem_singleton.1 hi
  obtain ⟨o5, ho, hg, hop, hd⟩ := isOpG_out q5
  have x5_0 : ((((((a0.put (some 138) (.pointer (some ⟨tt, 0, none⟩))).put (some 139) (.slice (some ⟨g, 0, none⟩) n cc)).put (some 140) (.int .i64 i)).put (some 141) (.pointer (some ⟨g, i * 24, none⟩))).put (some 142) (rowV y))).eval (.tmp 138) = .pointer (some ⟨tt, 0, none⟩) := (by (repeat (first | rw [eval_same _ _ (by (try simp only [put_size]); omega)] | rw [eval_far _ _ (by decide)])))
  have x5_1 : ((((((a0.put (some 138) (.pointer (some ⟨tt, 0, none⟩))).put (some 139) (.slice (some ⟨g, 0, none⟩) n cc)).put (some 140) (.int .i64 i)).put (some 141) (.pointer (some ⟨g, i * 24, none⟩))).put (some 142) (rowV y))).eval (.tmp 142) = rowV y := (by (repeat (first | rw [eval_same _ _ (by (try simp only [put_size]); omega)] | rw [eval_far _ _ (by decide)])))
  refine wpOp_callG ho (wantedN hg) (run_callV 9 Try.func9 (by kernel_rfl) (by kernel_rfl) #[.tmp 138, .tmp 142] _ hop #[.pointer (some ⟨tt, 0, none⟩), rowV y] (by simp only [List.map_toArray, List.map_cons, List.map_nil, x5_0, x5_1])) ?_
  refine (KH _ hS0).mono ?_
  rintro e u1 ⟨rfl, b1⟩
  have hS5 := keep _ _ hS0 b1
  refine ⟨_, rfl, hS5, ?_⟩
  rw [hd]
  clear ho hg hop hd
  rw [← LR_snoc]
  obtain ⟨o6, ho, hg, hop, hd⟩ := isOpG_out q6
  have hfr := hall ([0, 1, 2, 3, 4, 5], 6) (by simp)
  refine wpAnyH_take (listed := LR 24 [0, 1, 2, 3, 4, 5]) (v := .bool false) ho hs hfr.1 hfr.2 (hQ _ _) (Or.inl ⟨(wantedN hg), fun w' hS => run_notV (b := true) _ _ hop w' (by (repeat (first | rw [eval_same _ _ (by (try simp only [put_size]); omega)] | rw [eval_far _ _ (by decide)])))⟩) hS5 ?_
  rw [hd, ← LR_snoc]
  clear ho hg hop hd hfr
  obtain ⟨o7, ho, hg, hop, hd⟩ := isOpG_out q7
  have hfr := hall ([0, 1, 2, 3, 4, 5, 6], 7) (by simp)
  refine wpAnyH_take (listed := LR 24 [0, 1, 2, 3, 4, 5, 6]) (v := .bool false) ho hs hfr.1 hfr.2 (hQ _ _) (Or.inl ⟨(wantedN hg), fun w' hS => run_move _ _ hop w' (by (repeat (first | rw [eval_same _ _ (by (try simp only [put_size]); omega)] | rw [eval_far _ _ (by decide)])))⟩) hS5 ?_
  rw [hd, ← LR_snoc]
  clear ho hg hop hd hfr
  obtain ⟨o8, ho, hg, hop, hd⟩ := isOpG_out q8
  have hfr := hall ([0, 1, 2, 3, 4, 5, 6, 7], 8) (by simp)
  refine wpAnyH_take (listed := LR 24 [0, 1, 2, 3, 4, 5, 6, 7]) (v := .int .i64 i) ho hs hfr.1 hfr.2 (hQ _ _) (Or.inl ⟨((wantedB hog7 dog7 hg (by (repeat (first | rw [tmps_same _ _ (by (try simp only [put_size]); omega)] | rw [tmps_far _ _ (by decide)])))).trans (by decide)), fun w' hS => run_move _ _ hop w' (by (repeat rw [eval_far _ _ (by decide)]); exact e20)⟩) hS5 ?_
  rw [hd, ← LR_snoc]
  clear ho hg hop hd hfr
  obtain ⟨o9, ho, hg, hop, hd⟩ := isOpG_out q9
  have hfr := hall ([0, 1, 2, 3, 4, 5, 6, 7, 8], 9) (by simp)
  refine wpAnyH_take (listed := LR 24 [0, 1, 2, 3, 4, 5, 6, 7, 8]) (v := .bool false) ho hs hfr.1 hfr.2 (hQ _ _) (Or.inl ⟨((wantedB hog7 dog7 hg (by (repeat (first | rw [tmps_same _ _ (by (try simp only [put_size]); omega)] | rw [tmps_far _ _ (by decide)])))).trans (by decide)), fun w' hS => run_binV _ _ hop w' (by (repeat (first | rw [eval_same _ _ (by (try simp only [put_size]); omega)] | rw [eval_far _ _ (by decide)]))) rfl (by first | rfl | go_simp) (hgt w')⟩) hS5 ?_
  rw [hd, ← LR_snoc]
  clear ho hg hop hd hfr
  obtain ⟨o10, ho, hg, hop, hd⟩ := isOpG_out q10
  have hfr := hall ([0, 1, 2, 3, 4, 5, 6, 7, 8, 9], 10) (by simp)
  refine wpAnyH_take (listed := LR 24 [0, 1, 2, 3, 4, 5, 6, 7, 8, 9]) (v := .bool false) ho hs hfr.1 hfr.2 (hQ _ _) (Or.inl ⟨((wantedB hog7 dog7 hg (by (repeat (first | rw [tmps_same _ _ (by (try simp only [put_size]); omega)] | rw [tmps_far _ _ (by decide)])))).trans (by decide)), fun w' hS => run_move _ _ hop w' (by (repeat (first | rw [eval_same _ _ (by (try simp only [put_size]); omega)] | rw [eval_far _ _ (by decide)])))⟩) hS5 ?_
  rw [hd, ← LR_snoc]
  clear ho hg hop hd hfr
  obtain ⟨o11, ho, hg, hop, hd⟩ := isOpG_out q11
  have hfr := hall ([0, 1, 2, 3, 4, 5, 6, 7, 8, 9, 10], 11) (by simp)
  refine wpAnyH_take (listed := LR 24 [0, 1, 2, 3, 4, 5, 6, 7, 8, 9, 10]) (v := undef) ho hs hfr.1 hfr.2 (hQ _ _) (Or.inr ⟨((wantedB hog10 dog10 hg (by (repeat (first | rw [tmps_same _ _ (by (try simp only [put_size]); omega)] | rw [tmps_far _ _ (by decide)])))).trans (by decide)), rfl⟩) hS5 ?_
  rw [hd, ← LR_snoc]
  clear ho hg hop hd hfr
  obtain ⟨o12, ho, hg, hop, hd⟩ := isOpG_out q12
  have hfr := hall ([0, 1, 2, 3, 4, 5, 6, 7, 8, 9, 10, 11], 12) (by simp)
  refine wpAnyH_take (listed := LR 24 [0, 1, 2, 3, 4, 5, 6, 7, 8, 9, 10, 11]) (v := undef) ho hs hfr.1 hfr.2 (hQ _ _) (Or.inr ⟨((wantedB hog10 dog10 hg (by (repeat (first | rw [tmps_same _ _ (by (try simp only [put_size]); omega)] | rw [tmps_far _ _ (by decide)])))).trans (by decide)), rfl⟩) hS5 ?_
  rw [hd, ← LR_snoc]
  clear ho hg hop hd hfr
  obtain ⟨o13, ho, hg, hop, hd⟩ := isOpG_out q13
  have hfr := hall ([0, 1, 2, 3, 4, 5, 6, 7, 8, 9, 10, 11, 12], 13) (by simp)
  refine wpAnyH_take (listed := LR 24 [0, 1, 2, 3, 4, 5, 6, 7, 8, 9, 10, 11, 12]) (v := undef) ho hs hfr.1 hfr.2 (hQ _ _) (Or.inr ⟨((wantedB hog10 dog10 hg (by (repeat (first | rw [tmps_same _ _ (by (try simp only [put_size]); omega)] | rw [tmps_far _ _ (by decide)])))).trans (by decide)), rfl⟩) hS5 ?_
  rw [hd, ← LR_snoc]
  clear ho hg hop hd hfr
  obtain ⟨o14, ho, hg, hop, hd⟩ := isOpG_out q14
  have hfr := hall ([0, 1, 2, 3, 4, 5, 6, 7, 8, 9, 10, 11, 12, 13], 14) (by simp)
  refine wpAnyH_take (listed := LR 24 [0, 1, 2, 3, 4, 5, 6, 7, 8, 9, 10, 11, 12, 13]) (v := undef) ho hs hfr.1 hfr.2 (hQ _ _) (Or.inr ⟨((wantedB hog10 dog10 hg (by (repeat (first | rw [tmps_same _ _ (by (try simp only [put_size]); omega)] | rw [tmps_far _ _ (by decide)])))).trans (by decide)), rfl⟩) hS5 ?_
  rw [hd, ← LR_snoc]
  clear ho hg hop hd hfr
  obtain ⟨o15, ho, hg, hop, hd⟩ := isOpG_out q15
  have hfr := hall ([0, 1, 2, 3, 4, 5, 6, 7, 8, 9, 10, 11, 12, 13, 14], 15) (by simp)
  refine wpAnyH_take (listed := LR 24 [0, 1, 2, 3, 4, 5, 6, 7, 8, 9, 10, 11, 12, 13, 14]) (v := undef) ho hs hfr.1 hfr.2 (hQ _ _) (Or.inr ⟨((wantedB hog10 dog10 hg (by (repeat (first | rw [tmps_same _ _ (by (try simp only [put_size]); omega)] | rw [tmps_far _ _ (by decide)])))).trans (by decide)), rfl⟩) hS5 ?_
  rw [hd, ← LR_snoc]
  clear ho hg hop hd hfr
  obtain ⟨o16, ho, hg, hop, hd⟩ := isOpG_out q16
  have hfr := hall ([0, 1, 2, 3, 4, 5, 6, 7, 8, 9, 10, 11, 12, 13, 14, 15], 16) (by simp)
  refine wpAnyH_take (listed := LR 24 [0, 1, 2, 3, 4, 5, 6, 7, 8, 9, 10, 11, 12, 13, 14, 15]) (v := undef) ho hs hfr.1 hfr.2 (hQ _ _) (Or.inr ⟨((wantedB hog10 dog10 hg (by (repeat (first | rw [tmps_same _ _ (by (try simp only [put_size]); omega)] | rw [tmps_far _ _ (by decide)])))).trans (by decide)), rfl⟩) hS5 ?_
  rw [hd, ← LR_snoc]
  clear ho hg hop hd hfr
  obtain ⟨o17, ho, hg, hop, hd⟩ := isOpG_out q17
  have hfr := hall ([0, 1, 2, 3, 4, 5, 6, 7, 8, 9, 10, 11, 12, 13, 14, 15, 16], 17) (by simp)
  refine wpAnyH_take (listed := LR 24 [0, 1, 2, 3, 4, 5, 6, 7, 8, 9, 10, 11, 12, 13, 14, 15, 16]) (v := undef) ho hs hfr.1 hfr.2 (hQ _ _) (Or.inr ⟨((wantedB hog10 dog10 hg (by (repeat (first | rw [tmps_same _ _ (by (try simp only [put_size]); omega)] | rw [tmps_far _ _ (by decide)])))).trans (by decide)), rfl⟩) hS5 ?_
  rw [hd, ← LR_snoc]
  clear ho hg hop hd hfr
  obtain ⟨o18, ho, hg, hop, hd⟩ := isOpG_out q18
  have hfr := hall ([0, 1, 2, 3, 4, 5, 6, 7, 8, 9, 10, 11, 12, 13, 14, 15, 16, 17], 18) (by simp)
  refine wpAnyH_take (listed := LR 24 [0, 1, 2, 3, 4, 5, 6, 7, 8, 9, 10, 11, 12, 13, 14, 15, 16, 17]) (v := undef) ho hs hfr.1 hfr.2 (hQ _ _) (Or.inr ⟨((wantedB hog10 dog10 hg (by (repeat (first | rw [tmps_same _ _ (by (try simp only [put_size]); omega)] | rw [tmps_far _ _ (by decide)])))).trans (by decide)), rfl⟩) hS5 ?_
  rw [hd, ← LR_snoc]
  clear ho hg hop hd hfr
  obtain ⟨o19, ho, hg, hop, hd⟩ := isOpG_out q19
  have hfr := hall ([0, 1, 2, 3, 4, 5, 6, 7, 8, 9, 10, 11, 12, 13, 14, 15, 16, 17, 18], 19) (by simp)
  refine wpAnyH_take (listed := LR 24 [0, 1, 2, 3, 4, 5, 6, 7, 8, 9, 10, 11, 12, 13, 14, 15, 16, 17, 18]) (v := undef) ho hs hfr.1 hfr.2 (hQ _ _) (Or.inr ⟨((wantedB hog10 dog10 hg (by (repeat (first | rw [tmps_same _ _ (by (try simp only [put_size]); omega)] | rw [tmps_far _ _ (by decide)])))).trans (by decide)), rfl⟩) hS5 ?_
  rw [hd, ← LR_snoc]
  clear ho hg hop hd hfr
  obtain ⟨o20, ho, hg, hop, hd⟩ := isOpG_out q20
  have hfr := hall ([0, 1, 2, 3, 4, 5, 6, 7, 8, 9, 10, 11, 12, 13, 14, 15, 16, 17, 18, 19], 20) (by simp)
  refine wpAnyH_take (listed := LR 24 [0, 1, 2, 3, 4, 5, 6, 7, 8, 9, 10, 11, 12, 13, 14, 15, 16, 17, 18, 19]) (v := undef) ho hs hfr.1 hfr.2 (hQ _ _) (Or.inr ⟨((wantedB hog10 dog10 hg (by (repeat (first | rw [tmps_same _ _ (by (try simp only [put_size]); omega)] | rw [tmps_far _ _ (by decide)])))).trans (by decide)), rfl⟩) hS5 ?_
  rw [hd, ← LR_snoc]
  clear ho hg hop hd hfr
  obtain ⟨o21, ho, hg, hop, hd⟩ := isOpG_out q21
  have hfr := hall ([0, 1, 2, 3, 4, 5, 6, 7, 8, 9, 10, 11, 12, 13, 14, 15, 16, 17, 18, 19, 20], 21) (by simp)
  refine wpAnyH_take (listed := LR 24 [0, 1, 2, 3, 4, 5, 6, 7, 8, 9, 10, 11, 12, 13, 14, 15, 16, 17, 18, 19, 20]) (v := undef) ho hs hfr.1 hfr.2 (hQ _ _) (Or.inr ⟨((wantedB hog10 dog10 hg (by (repeat (first | rw [tmps_same _ _ (by (try simp only [put_size]); omega)] | rw [tmps_far _ _ (by decide)])))).trans (by decide)), rfl⟩) hS5 ?_
  rw [hd, ← LR_snoc]
  clear ho hg hop hd hfr
  obtain ⟨o22, ho, hg, hop, hd⟩ := isOpG_out q22
  have hfr := hall ([0, 1, 2, 3, 4, 5, 6, 7, 8, 9, 10, 11, 12, 13, 14, 15, 16, 17, 18, 19, 20, 21], 22) (by simp)
  refine wpAnyH_take (listed := LR 24 [0, 1, 2, 3, 4, 5, 6, 7, 8, 9, 10, 11, 12, 13, 14, 15, 16, 17, 18, 19, 20, 21]) (v := .bool false) ho hs hfr.1 hfr.2 (hQ _ _) (Or.inl ⟨((wantedB hog7 dog7 hg (by (repeat (first | rw [tmps_same _ _ (by (try simp only [put_size]); omega)] | rw [tmps_far _ _ (by decide)])))).trans (by decide)), fun w' hS => run_pickF _ _ hop w' (by (repeat (first | rw [eval_same _ _ (by (try simp only [put_size]); omega)] | rw [eval_far _ _ (by decide)]))) rfl⟩) hS5 ?_
  rw [hd, ← LR_snoc]
  clear ho hg hop hd hfr
  obtain ⟨o23, ho, hg, hop, hd⟩ := isOpG_out q23
  have hfr := hall ([0, 1, 2, 3, 4, 5, 6, 7, 8, 9, 10, 11, 12, 13, 14, 15, 16, 17, 18, 19, 20, 21, 22], 23) (by simp)
  refine wpAnyH_take (listed := LR 24 [0, 1, 2, 3, 4, 5, 6, 7, 8, 9, 10, 11, 12, 13, 14, 15, 16, 17, 18, 19, 20, 21, 22]) (v := .bool false) ho hs hfr.1 hfr.2 (hQ _ _) (Or.inl ⟨(wantedN hg), fun w' hS => run_pickF _ _ hop w' (by (repeat (first | rw [eval_same _ _ (by (try simp only [put_size]); omega)] | rw [eval_far _ _ (by decide)]))) (by (repeat (first | rw [eval_same _ _ (by (try simp only [put_size]); omega)] | rw [eval_far _ _ (by decide)])))⟩) hS5 ?_
  rw [hd, ← LR_snoc]
  clear ho hg hop hd hfr
  exact wpAnyH_done rend (F _ hS5) _
def reg30B_takes : List (List Nat × Nat) := [([], 0), ([0], 1), ([0, 1], 2), ([0, 1, 2], 3), ([0, 1, 2, 3], 4), ([0, 1, 2, 3, 4, 5], 6), ([0, 1, 2, 3, 4, 5, 6], 7), ([0, 1, 2, 3, 4, 5, 6, 7], 8), ([0, 1, 2, 3, 4, 5, 6, 7, 8], 9), ([0, 1, 2, 3, 4, 5, 6, 7, 8, 9], 10), ([0, 1, 2, 3, 4, 5, 6, 7, 8, 9, 10], 11), ([0, 1, 2, 3, 4, 5, 6, 7, 8, 9, 10, 11], 12), ([0, 1, 2, 3, 4, 5, 6, 7, 8, 9, 10, 11, 12], 13), ([0, 1, 2, 3, 4, 5, 6, 7, 8, 9, 10, 11, 12, 13], 14), ([0, 1, 2, 3, 4, 5, 6, 7, 8, 9, 10, 11, 12, 13, 14], 15), ([0, 1, 2, 3, 4, 5, 6, 7, 8, 9, 10, 11, 12, 13, 14, 15], 16), ([0, 1, 2, 3, 4, 5, 6, 7, 8, 9, 10, 11, 12, 13, 14, 15, 16], 17), ([0, 1, 2, 3, 4, 5, 6, 7, 8, 9, 10, 11, 12, 13, 14, 15, 16, 17], 18), ([0, 1, 2, 3, 4, 5, 6, 7, 8, 9, 10, 11, 12, 13, 14, 15, 16, 17, 18], 19), ([0, 1, 2, 3, 4, 5, 6, 7, 8, 9, 10, 11, 12, 13, 14, 15, 16, 17, 18, 19, 20], 21), ([0, 1, 2, 3, 4, 5, 6, 7, 8, 9, 10, 11, 12, 13, 14, 15, 16, 17, 18, 19, 20, 21], 22), ([0, 1, 2, 3, 4, 5, 6, 7, 8, 9, 10, 11, 12, 13, 14, 15, 16, 17, 18, 19, 20, 21, 22], 23)]
set_option maxHeartbeats 3200000 in
theorem reg30B {ops : Array Oper} {Q : Exit → Act → World → Prop} {S : World → Prop} {a0 : Act} {w5 : World} {tt g n cc i j : Nat} {x y : List Int} {ty1 ty2 : Array TypeId}
    (q0 : isOpG ops 0 none (.move (.tmp 7)) (some 138))
    (q1 : isOpG ops 1 none (.move (.tmp 19)) (some 139))
    (q2 : isOpG ops 2 none (.move (.tmp 20)) (some 140))
    (q3 : isOpG ops 3 none (.indexAddr 28 (.tmp 139) (.tmp 140)) (some 141))
    (q4 : isOpG ops 4 none (.load 25 (.tmp 141)) (some 142))
    (q5 : isOpG ops 5 none (.call { callee := .value (.func 9), args := #[.tmp 138, .tmp 142], argTypes := ty1 }) (some 143))
    (q6 : isOpG ops 6 none (.unOp .not 4 (.tmp 143)) (some 144))
    (q7 : isOpG ops 7 none (.move (.tmp 144)) (some 145))
    (q8 : isOpG ops 8 (some (7, false)) (.move (.tmp 20)) (some 146))
    (q9 : isOpG ops 9 (some (7, false)) (.binOp .gtr 3 (.tmp 146) (.const (.int .i64 0)) 3) (some 147))
    (q10 : isOpG ops 10 (some (7, false)) (.move (.tmp 147)) (some 148))
    (q11 : isOpG ops 11 (some (10, true)) (.move (.tmp 19)) (some 149))
    (q12 : isOpG ops 12 (some (10, true)) (.move (.tmp 20)) (some 150))
    (q13 : isOpG ops 13 (some (10, true)) (.binOp .sub 3 (.tmp 150) (.const (.int .i64 1)) 3) (some 151))
    (q14 : isOpG ops 14 (some (10, true)) (.indexAddr 28 (.tmp 149) (.tmp 151)) (some 152))
    (q15 : isOpG ops 15 (some (10, true)) (.load 25 (.tmp 152)) (some 153))
    (q16 : isOpG ops 16 (some (10, true)) (.move (.tmp 19)) (some 154))
    (q17 : isOpG ops 17 (some (10, true)) (.move (.tmp 20)) (some 155))
    (q18 : isOpG ops 18 (some (10, true)) (.indexAddr 28 (.tmp 154) (.tmp 155)) (some 156))
    (q19 : isOpG ops 19 (some (10, true)) (.load 25 (.tmp 156)) (some 157))
    (q20 : isOpG ops 20 (some (10, true)) (.call { callee := .value (.func 12), args := #[.tmp 153, .tmp 157], argTypes := ty2 }) (some 158))
    (q21 : isOpG ops 21 (some (10, true)) (.unOp .not 4 (.tmp 158)) (some 159))
    (q22 : isOpG ops 22 (some (7, false)) (.pick (.tmp 148) (.tmp 159) (.const (.bool false))) (some 160))
    (q23 : isOpG ops 23 none (.pick (.tmp 145) (.const (.bool true)) (.tmp 160)) (some 161))
    (hs : Region.noSelect ops = true) (hq : (reg30B_takes.all fun p => Region.free .any ops (LR 24 p.1) p.2 && (Region.ready .any ops (LR 24 p.1)).contains p.2) = true)
    (r5 : Region.ready .any ops (LR 24 [0, 1, 2, 3, 4]) = [5])
    (r20 : Region.ready .any ops (LR 24 [0, 1, 2, 3, 4, 5, 6, 7, 8, 9, 10, 11, 12, 13, 14, 15, 16, 17, 18, 19]) = [20])
    (rend : Region.ready .any ops (LR 24 [0, 1, 2, 3, 4, 5, 6, 7, 8, 9, 10, 11, 12, 13, 14, 15, 16, 17, 18, 19, 20, 21, 22, 23]) = [])
    (hQ : ∀ (d : Option Tmp) (v : Value) c a w, Q (.panic c) (a.put d v) w → Q (.panic c) a w)
    (hsz : 161 < a0.tmps.size) (e7 : a0.eval (.tmp 7) = .pointer (some ⟨tt, 0, none⟩)) (e19 : a0.eval (.tmp 19) = .slice (some ⟨g, 0, none⟩) n cc) (e20 : a0.eval (.tmp 20) = .int .i64 i)
    (hS0 : S w5.drew)
    (keep : ∀ u u', S u → Below u.heap.size u u' → S u') (hin : i < n) (LY : ∀ u, S u → (loadVar 25 ⟨g, i * 24, none⟩).run Try.prog u = .ok (rowV y) u)
    (hgt : ∀ u, (binOp .gtr 3 (.int .i64 i) (.int .i64 0)).run Try.prog u = .ok (.bool true) u)
    (KH : ∀ u, S u → Calls Try.prog 9 #[.pointer (some ⟨tt, 0, none⟩), rowV y] u fun e w' => e = .returned (.bool true) ∧ Below u.heap.size u w')
    (hjn : j < n) (LX : ∀ u, S u → (loadVar 25 ⟨g, j * 24, none⟩).run Try.prog u = .ok (rowV x) u)
    (hsub : ∀ u, (binOp .sub 3 (.int .i64 i) (.int .i64 1)).run Try.prog u = .ok (.int .i64 j) u)
    (KB : ∀ u, S u → Calls Try.prog 12 #[rowV x, rowV y] u fun e w' => e = .returned (.bool true) ∧ Below u.heap.size u w')
    (F : ∀ (wc : World), S wc → Q .normal ((((((((((((((((((((((((a0.put (some 138) (.pointer (some ⟨tt, 0, none⟩))).put (some 139) (.slice (some ⟨g, 0, none⟩) n cc)).put (some 140) (.int .i64 i)).put (some 141) (.pointer (some ⟨g, i * 24, none⟩))).put (some 142) (rowV y)).put (some 143) (.bool true)).put (some 144) (.bool false)).put (some 145) (.bool false)).put (some 146) (.int .i64 i)).put (some 147) (.bool true)).put (some 148) (.bool true)).put (some 149) (.slice (some ⟨g, 0, none⟩) n cc)).put (some 150) (.int .i64 i)).put (some 151) (.int .i64 j)).put (some 152) (.pointer (some ⟨g, j * 24, none⟩))).put (some 153) (rowV x)).put (some 154) (.slice (some ⟨g, 0, none⟩) n cc)).put (some 155) (.int .i64 i)).put (some 156) (.pointer (some ⟨g, i * 24, none⟩))).put (some 157) (rowV y)).put (some 158) (.bool true)).put (some 159) (.bool false)).put (some 160) (.bool false)).put (some 161) (.bool false)) wc) :
    wpAnyH Try.prog .any ops Q S 24 (LR 24 []) a0 w5.drew := by
  have hall : ∀ p ∈ reg30B_takes, Region.free .any ops (LR 24 p.1) p.2 = true ∧ (Region.ready .any ops (LR 24 p.1)).contains p.2 = true := by
    intro p hp
    have := List.all_eq_true.1 hq p hp
    simpa using this
  unfold reg30B_takes at hall
  obtain ⟨og7, hog7, _, _, dog7⟩ := isOpG_out q7
  obtain ⟨og10, hog10, _, _, dog10⟩ := isOpG_out q10
  obtain ⟨o0, ho, hg, hop, hd⟩ := isOpG_out q0
  have hfr := hall ([], 0) (by simp)
  refine wpAnyH_take (listed := LR 24 []) (v := .pointer (some ⟨tt, 0, none⟩)) ho hs hfr.1 hfr.2 (hQ _ _) (Or.inl ⟨(wantedN hg), fun w' hS => run_move _ _ hop w' (by (repeat rw [eval_far _ _ (by decide)]); exact e7)⟩) hS0 ?_
  rw [hd, ← LR_snoc]
  clear ho hg hop hd hfr
  obtain ⟨o1, ho, hg, hop, hd⟩ := isOpG_out q1
  have hfr := hall ([0], 1) (by simp)
  refine wpAnyH_take (listed := LR 24 [0]) (v := .slice (some ⟨g, 0, none⟩) n cc) ho hs hfr.1 hfr.2 (hQ _ _) (Or.inl ⟨(wantedN hg), fun w' hS => run_move _ _ hop w' (by (repeat rw [eval_far _ _ (by decide)]); exact e19)⟩) hS0 ?_
  rw [hd, ← LR_snoc]
  clear ho hg hop hd hfr
  obtain ⟨o2, ho, hg, hop, hd⟩ := isOpG_out q2
  have hfr := hall ([0, 1], 2) (by simp)
  refine wpAnyH_take (listed := LR 24 [0, 1]) (v := .int .i64 i) ho hs hfr.1 hfr.2 (hQ _ _) (Or.inl ⟨(wantedN hg), fun w' hS => run_move _ _ hop w' (by (repeat rw [eval_far _ _ (by decide)]); exact e20)⟩) hS0 ?_
  rw [hd, ← LR_snoc]
  clear ho hg hop hd hfr
  obtain ⟨o3, ho, hg, hop, hd⟩ := isOpG_out q3
  have hfr := hall ([0, 1, 2], 3) (by simp)
  refine wpAnyH_take (listed := LR 24 [0, 1, 2]) (v := .pointer (some ⟨g, i * 24, none⟩)) ho hs hfr.1 hfr.2 (hQ _ _) (Or.inl ⟨(wantedN hg), fun w' hS => run_idxRow _ _ hop w' (by (repeat (first | rw [eval_same _ _ (by (try simp only [put_size]); omega)] | rw [eval_far _ _ (by decide)]))) (by (repeat (first | rw [eval_same _ _ (by (try simp only [put_size]); omega)] | rw [eval_far _ _ (by decide)]))) hin⟩) hS0 ?_
  rw [hd, ← LR_snoc]
  clear ho hg hop hd hfr
  obtain ⟨o4, ho, hg, hop, hd⟩ := isOpG_out q4
  have hfr := hall ([0, 1, 2, 3], 4) (by simp)
  refine wpAnyH_take (listed := LR 24 [0, 1, 2, 3]) (v := rowV y) ho hs hfr.1 hfr.2 (hQ _ _) (Or.inl ⟨(wantedN hg), fun w' hS => run_loadK _ _ hop w' (by (repeat (first | rw [eval_same _ _ (by (try simp only [put_size]); omega)] | rw [eval_far _ _ (by decide)]))) (LY _ hS)⟩) hS0 ?_
  rw [hd, ← LR_snoc]
  clear ho hg hop hd hfr
  refine wpAnyH_all r5 (by simp) ?_
  intro i hi
  obtain rfl := List.mem_singleton.1 hi
  obtain ⟨o5, ho, hg, hop, hd⟩ := isOpG_out q5
  have x5_0 : ((((((a0.put (some 138) (.pointer (some ⟨tt, 0, none⟩))).put (some 139) (.slice (some ⟨g, 0, none⟩) n cc)).put (some 140) (.int .i64 i)).put (some 141) (.pointer (some ⟨g, i * 24, none⟩))).put (some 142) (rowV y))).eval (.tmp 138) = .pointer (some ⟨tt, 0, none⟩) := (by (repeat (first | rw [eval_same _ _ (by (try simp only [put_size]); omega)] | rw [eval_far _ _ (by decide)])))
  have x5_1 : ((((((a0.put (some 138) (.pointer (some ⟨tt, 0, none⟩))).put (some 139) (.slice (some ⟨g, 0, none⟩) n cc)).put (some 140) (.int .i64 i)).put (some 141) (.pointer (some ⟨g, i * 24, none⟩))).put (some 142) (rowV y))).eval (.tmp 142) = rowV y := (by (repeat (first | rw [eval_same _ _ (by (try simp only [put_size]); omega)] | rw [eval_far _ _ (by decide)])))
  refine wpOp_callG ho (wantedN hg) (run_callV 9 Try.func9 (by kernel_rfl) (by kernel_rfl) #[.tmp 138, .tmp 142] _ hop #[.pointer (some ⟨tt, 0, none⟩), rowV y] (by simp only [List.map_toArray, List.map_cons, List.map_nil, x5_0, x5_1])) ?_
  refine (KH _ hS0).mono ?_
  rintro e u1 ⟨rfl, b1⟩
  have hS5 := keep _ _ hS0 b1
  refine ⟨_, rfl, hS5, ?_⟩
  rw [hd]
  clear ho hg hop hd
  rw [← LR_snoc]
  obtain ⟨o6, ho, hg, hop, hd⟩ := isOpG_out q6
  have hfr := hall ([0, 1, 2, 3, 4, 5], 6) (by simp)
  refine wpAnyH_take (listed := LR 24 [0, 1, 2, 3, 4, 5]) (v := .bool false) ho hs hfr.1 hfr.2 (hQ _ _) (Or.inl ⟨(wantedN hg), fun w' hS => run_notV (b := true) _ _ hop w' (by (repeat (first | rw [eval_same _ _ (by (try simp only [put_size]); omega)] | rw [eval_far _ _ (by decide)])))⟩) hS5 ?_
  rw [hd, ← LR_snoc]
  clear ho hg hop hd hfr
  obtain ⟨o7, ho, hg, hop, hd⟩ := isOpG_out q7
  have hfr := hall ([0, 1, 2, 3, 4, 5, 6], 7) (by simp)
  refine wpAnyH_take (listed := LR 24 [0, 1, 2, 3, 4, 5, 6]) (v := .bool false) ho hs hfr.1 hfr.2 (hQ _ _) (Or.inl ⟨(wantedN hg), fun w' hS => run_move _ _ hop w' (by (repeat (first | rw [eval_same _ _ (by (try simp only [put_size]); omega)] | rw [eval_far _ _ (by decide)])))⟩) hS5 ?_
  rw [hd, ← LR_snoc]
  clear ho hg hop hd hfr
  obtain ⟨o8, ho, hg, hop, hd⟩ := isOpG_out q8
  have hfr := hall ([0, 1, 2, 3, 4, 5, 6, 7], 8) (by simp)
  refine wpAnyH_take (listed := LR 24 [0, 1, 2, 3, 4, 5, 6, 7]) (v := .int .i64 i) ho hs hfr.1 hfr.2 (hQ _ _) (Or.inl ⟨((wantedB hog7 dog7 hg (by (repeat (first | rw [tmps_same _ _ (by (try simp only [put_size]); omega)] | rw [tmps_far _ _ (by decide)])))).trans (by decide)), fun w' hS => run_move _ _ hop w' (by (repeat rw [eval_far _ _ (by decide)]); exact e20)⟩) hS5 ?_
  rw [hd, ← LR_snoc]
  clear ho hg hop hd hfr
  obtain ⟨o9, ho, hg, hop, hd⟩ := isOpG_out q9
  have hfr := hall ([0, 1, 2, 3, 4, 5, 6, 7, 8], 9) (by simp)
  refine wpAnyH_take (listed := LR 24 [0, 1, 2, 3, 4, 5, 6, 7, 8]) (v := .bool true) ho hs hfr.1 hfr.2 (hQ _ _) (Or.inl ⟨((wantedB hog7 dog7 hg (by (repeat (first | rw [tmps_same _ _ (by (try simp only [put_size]); omega)] | rw [tmps_far _ _ (by decide)])))).trans (by decide)), fun w' hS => run_binV _ _ hop w' (by (repeat (first | rw [eval_same _ _ (by (try simp only [put_size]); omega)] | rw [eval_far _ _ (by decide)]))) rfl (by first | rfl | go_simp) (hgt w')⟩) hS5 ?_
  rw [hd, ← LR_snoc]
  clear ho hg hop hd hfr
  obtain ⟨o10, ho, hg, hop, hd⟩ := isOpG_out q10
  have hfr := hall ([0, 1, 2, 3, 4, 5, 6, 7, 8, 9], 10) (by simp)
  refine wpAnyH_take (listed := LR 24 [0, 1, 2, 3, 4, 5, 6, 7, 8, 9]) (v := .bool true) ho hs hfr.1 hfr.2 (hQ _ _) (Or.inl ⟨((wantedB hog7 dog7 hg (by (repeat (first | rw [tmps_same _ _ (by (try simp only [put_size]); omega)] | rw [tmps_far _ _ (by decide)])))).trans (by decide)), fun w' hS => run_move _ _ hop w' (by (repeat (first | rw [eval_same _ _ (by (try simp only [put_size]); omega)] | rw [eval_far _ _ (by decide)])))⟩) hS5 ?_
  rw [hd, ← LR_snoc]
  clear ho hg hop hd hfr
  obtain ⟨o11, ho, hg, hop, hd⟩ := isOpG_out q11
  have hfr := hall ([0, 1, 2, 3, 4, 5, 6, 7, 8, 9, 10], 11) (by simp)
  refine wpAnyH_take (listed := LR 24 [0, 1, 2, 3, 4, 5, 6, 7, 8, 9, 10]) (v := .slice (some ⟨g, 0, none⟩) n cc) ho hs hfr.1 hfr.2 (hQ _ _) (Or.inl ⟨((wantedB hog10 dog10 hg (by (repeat (first | rw [tmps_same _ _ (by (try simp only [put_size]); omega)] | rw [tmps_far _ _ (by decide)])))).trans (by decide)), fun w' hS => run_move _ _ hop w' (by (repeat rw [eval_far _ _ (by decide)]); exact e19)⟩) hS5 ?_
  rw [hd, ← LR_snoc]
  clear ho hg hop hd hfr
  obtain ⟨o12, ho, hg, hop, hd⟩ := isOpG_out q12
  have hfr := hall ([0, 1, 2, 3, 4, 5, 6, 7, 8, 9, 10, 11], 12) (by simp)
  refine wpAnyH_take (listed := LR 24 [0, 1, 2, 3, 4, 5, 6, 7, 8, 9, 10, 11]) (v := .int .i64 i) ho hs hfr.1 hfr.2 (hQ _ _) (Or.inl ⟨((wantedB hog10 dog10 hg (by (repeat (first | rw [tmps_same _ _ (by (try simp only [put_size]); omega)] | rw [tmps_far _ _ (by decide)])))).trans (by decide)), fun w' hS => run_move _ _ hop w' (by (repeat rw [eval_far _ _ (by decide)]); exact e20)⟩) hS5 ?_
  rw [hd, ← LR_snoc]
  clear ho hg hop hd hfr
  obtain ⟨o13, ho, hg, hop, hd⟩ := isOpG_out q13
  have hfr := hall ([0, 1, 2, 3, 4, 5, 6, 7, 8, 9, 10, 11, 12], 13) (by simp)
  refine wpAnyH_take (listed := LR 24 [0, 1, 2, 3, 4, 5, 6, 7, 8, 9, 10, 11, 12]) (v := .int .i64 j) ho hs hfr.1 hfr.2 (hQ _ _) (Or.inl ⟨((wantedB hog10 dog10 hg (by (repeat (first | rw [tmps_same _ _ (by (try simp only [put_size]); omega)] | rw [tmps_far _ _ (by decide)])))).trans (by decide)), fun w' hS => run_binV _ _ hop w' (by (repeat (first | rw [eval_same _ _ (by (try simp only [put_size]); omega)] | rw [eval_far _ _ (by decide)]))) rfl (by first | rfl | go_simp) (hsub w')⟩) hS5 ?_
  rw [hd, ← LR_snoc]
  clear ho hg hop hd hfr
  obtain ⟨o14, ho, hg, hop, hd⟩ := isOpG_out q14
  have hfr := hall ([0, 1, 2, 3, 4, 5, 6, 7, 8, 9, 10, 11, 12, 13], 14) (by simp)
  refine wpAnyH_take (listed := LR 24 [0, 1, 2, 3, 4, 5, 6, 7, 8, 9, 10, 11, 12, 13]) (v := .pointer (some ⟨g, j * 24, none⟩)) ho hs hfr.1 hfr.2 (hQ _ _) (Or.inl ⟨((wantedB hog10 dog10 hg (by (repeat (first | rw [tmps_same _ _ (by (try simp only [put_size]); omega)] | rw [tmps_far _ _ (by decide)])))).trans (by decide)), fun w' hS => run_idxRow _ _ hop w' (by (repeat (first | rw [eval_same _ _ (by (try simp only [put_size]); omega)] | rw [eval_far _ _ (by decide)]))) (by (repeat (first | rw [eval_same _ _ (by (try simp only [put_size]); omega)] | rw [eval_far _ _ (by decide)]))) hjn⟩) hS5 ?_
  rw [hd, ← LR_snoc]
  clear ho hg hop hd hfr
  obtain ⟨o15, ho, hg, hop, hd⟩ := isOpG_out q15
  have hfr := hall ([0, 1, 2, 3, 4, 5, 6, 7, 8, 9, 10, 11, 12, 13, 14], 15) (by simp)
  refine wpAnyH_take (listed := LR 24 [0, 1, 2, 3, 4, 5, 6, 7, 8, 9, 10, 11, 12, 13, 14]) (v := rowV x) ho hs hfr.1 hfr.2 (hQ _ _) (Or.inl ⟨((wantedB hog10 dog10 hg (by (repeat (first | rw [tmps_same _ _ (by (try simp only [put_size]); omega)] | rw [tmps_far _ _ (by decide)])))).trans (by decide)), fun w' hS => run_loadK _ _ hop w' (by (repeat (first | rw [eval_same _ _ (by (try simp only [put_size]); omega)] | rw [eval_far _ _ (by decide)]))) (LX _ hS)⟩) hS5 ?_
  rw [hd, ← LR_snoc]
  clear ho hg hop hd hfr
  obtain ⟨o16, ho, hg, hop, hd⟩ := isOpG_out q16
  have hfr := hall ([0, 1, 2, 3, 4, 5, 6, 7, 8, 9, 10, 11, 12, 13, 14, 15], 16) (by simp)
  refine wpAnyH_take (listed := LR 24 [0, 1, 2, 3, 4, 5, 6, 7, 8, 9, 10, 11, 12, 13, 14, 15]) (v := .slice (some ⟨g, 0, none⟩) n cc) ho hs hfr.1 hfr.2 (hQ _ _) (Or.inl ⟨((wantedB hog10 dog10 hg (by (repeat (first | rw [tmps_same _ _ (by (try simp only [put_size]); omega)] | rw [tmps_far _ _ (by decide)])))).trans (by decide)), fun w' hS => run_move _ _ hop w' (by (repeat rw [eval_far _ _ (by decide)]); exact e19)⟩) hS5 ?_
  rw [hd, ← LR_snoc]
  clear ho hg hop hd hfr
  obtain ⟨o17, ho, hg, hop, hd⟩ := isOpG_out q17
  have hfr := hall ([0, 1, 2, 3, 4, 5, 6, 7, 8, 9, 10, 11, 12, 13, 14, 15, 16], 17) (by simp)
  refine wpAnyH_take (listed := LR 24 [0, 1, 2, 3, 4, 5, 6, 7, 8, 9, 10, 11, 12, 13, 14, 15, 16]) (v := .int .i64 i) ho hs hfr.1 hfr.2 (hQ _ _) (Or.inl ⟨((wantedB hog10 dog10 hg (by (repeat (first | rw [tmps_same _ _ (by (try simp only [put_size]); omega)] | rw [tmps_far _ _ (by decide)])))).trans (by decide)), fun w' hS => run_move _ _ hop w' (by (repeat rw [eval_far _ _ (by decide)]); exact e20)⟩) hS5 ?_
  rw [hd, ← LR_snoc]
  clear ho hg hop hd hfr
  obtain ⟨o18, ho, hg, hop, hd⟩ := isOpG_out q18
  have hfr := hall ([0, 1, 2, 3, 4, 5, 6, 7, 8, 9, 10, 11, 12, 13, 14, 15, 16, 17], 18) (by simp)
  refine wpAnyH_take (listed := LR 24 [0, 1, 2, 3, 4, 5, 6, 7, 8, 9, 10, 11, 12, 13, 14, 15, 16, 17]) (v := .pointer (some ⟨g, i * 24, none⟩)) ho hs hfr.1 hfr.2 (hQ _ _) (Or.inl ⟨((wantedB hog10 dog10 hg (by (repeat (first | rw [tmps_same _ _ (by (try simp only [put_size]); omega)] | rw [tmps_far _ _ (by decide)])))).trans (by decide)), fun w' hS => run_idxRow _ _ hop w' (by (repeat (first | rw [eval_same _ _ (by (try simp only [put_size]); omega)] | rw [eval_far _ _ (by decide)]))) (by (repeat (first | rw [eval_same _ _ (by (try simp only [put_size]); omega)] | rw [eval_far _ _ (by decide)]))) hin⟩) hS5 ?_
  rw [hd, ← LR_snoc]
  clear ho hg hop hd hfr
  obtain ⟨o19, ho, hg, hop, hd⟩ := isOpG_out q19
  have hfr := hall ([0, 1, 2, 3, 4, 5, 6, 7, 8, 9, 10, 11, 12, 13, 14, 15, 16, 17, 18], 19) (by simp)
  refine wpAnyH_take (listed := LR 24 [0, 1, 2, 3, 4, 5, 6, 7, 8, 9, 10, 11, 12, 13, 14, 15, 16, 17, 18]) (v := rowV y) ho hs hfr.1 hfr.2 (hQ _ _) (Or.inl ⟨((wantedB hog10 dog10 hg (by (repeat (first | rw [tmps_same _ _ (by (try simp only [put_size]); omega)] | rw [tmps_far _ _ (by decide)])))).trans (by decide)), fun w' hS => run_loadK _ _ hop w' (by (repeat (first | rw [eval_same _ _ (by (try simp only [put_size]); omega)] | rw [eval_far _ _ (by decide)]))) (LY _ hS)⟩) hS5 ?_
  rw [hd, ← LR_snoc]
  clear ho hg hop hd hfr
  refine wpAnyH_all r20 (by simp) ?_
  intro i hi
  obtain rfl := List.mem_singleton.1 hi
  obtain ⟨o20, ho, hg, hop, hd⟩ := isOpG_out q20
  have x20_0 : (((((((((((((((((((((a0.put (some 138) (.pointer (some ⟨tt, 0, none⟩))).put (some 139) (.slice (some ⟨g, 0, none⟩) n cc)).put (some 140) (.int .i64 i)).put (some 141) (.pointer (some ⟨g, i * 24, none⟩))).put (some 142) (rowV y)).put (some 143) (.bool true)).put (some 144) (.bool false)).put (some 145) (.bool false)).put (some 146) (.int .i64 i)).put (some 147) (.bool true)).put (some 148) (.bool true)).put (some 149) (.slice (some ⟨g, 0, none⟩) n cc)).put (some 150) (.int .i64 i)).put (some 151) (.int .i64 j)).put (some 152) (.pointer (some ⟨g, j * 24, none⟩))).put (some 153) (rowV x)).put (some 154) (.slice (some ⟨g, 0, none⟩) n cc)).put (some 155) (.int .i64 i)).put (some 156) (.pointer (some ⟨g, i * 24, none⟩))).put (some 157) (rowV y))).eval (.tmp 153) = rowV x := (by (repeat (first | rw [eval_same _ _ (by (try simp only [put_size]); omega)] | rw [eval_far _ _ (by decide)])))
  have x20_1 : (((((((((((((((((((((a0.put (some 138) (.pointer (some ⟨tt, 0, none⟩))).put (some 139) (.slice (some ⟨g, 0, none⟩) n cc)).put (some 140) (.int .i64 i)).put (some 141) (.pointer (some ⟨g, i * 24, none⟩))).put (some 142) (rowV y)).put (some 143) (.bool true)).put (some 144) (.bool false)).put (some 145) (.bool false)).put (some 146) (.int .i64 i)).put (some 147) (.bool true)).put (some 148) (.bool true)).put (some 149) (.slice (some ⟨g, 0, none⟩) n cc)).put (some 150) (.int .i64 i)).put (some 151) (.int .i64 j)).put (some 152) (.pointer (some ⟨g, j * 24, none⟩))).put (some 153) (rowV x)).put (some 154) (.slice (some ⟨g, 0, none⟩) n cc)).put (some 155) (.int .i64 i)).put (some 156) (.pointer (some ⟨g, i * 24, none⟩))).put (some 157) (rowV y))).eval (.tmp 157) = rowV y := (by (repeat (first | rw [eval_same _ _ (by (try simp only [put_size]); omega)] | rw [eval_far _ _ (by decide)])))
  refine wpOp_callG ho ((wantedB hog10 dog10 hg (by (repeat (first | rw [tmps_same _ _ (by (try simp only [put_size]); omega)] | rw [tmps_far _ _ (by decide)])))).trans (by decide)) (run_callV 12 Try.func12 (by kernel_rfl) (by kernel_rfl) #[.tmp 153, .tmp 157] _ hop #[rowV x, rowV y] (by simp only [List.map_toArray, List.map_cons, List.map_nil, x20_0, x20_1])) ?_
  refine (KB _ hS5).mono ?_
  rintro e u2 ⟨rfl, b2⟩
  have hS20 := keep _ _ hS5 b2
  refine ⟨_, rfl, hS20, ?_⟩
  rw [hd]
  clear ho hg hop hd
  rw [← LR_snoc]
  obtain ⟨o21, ho, hg, hop, hd⟩ := isOpG_out q21
  have hfr := hall ([0, 1, 2, 3, 4, 5, 6, 7, 8, 9, 10, 11, 12, 13, 14, 15, 16, 17, 18, 19, 20], 21) (by simp)
  refine wpAnyH_take (listed := LR 24 [0, 1, 2, 3, 4, 5, 6, 7, 8, 9, 10, 11, 12, 13, 14, 15, 16, 17, 18, 19, 20]) (v := .bool false) ho hs hfr.1 hfr.2 (hQ _ _) (Or.inl ⟨((wantedB hog10 dog10 hg (by (repeat (first | rw [tmps_same _ _ (by (try simp only [put_size]); omega)] | rw [tmps_far _ _ (by decide)])))).trans (by decide)), fun w' hS => run_notV (b := true) _ _ hop w' (by (repeat (first | rw [eval_same _ _ (by (try simp only [put_size]); omega)] | rw [eval_far _ _ (by decide)])))⟩) hS20 ?_
  rw [hd, ← LR_snoc]
  clear ho hg hop hd hfr
  obtain ⟨o22, ho, hg, hop, hd⟩ := isOpG_out q22
  have hfr := hall ([0, 1, 2, 3, 4, 5, 6, 7, 8, 9, 10, 11, 12, 13, 14, 15, 16, 17, 18, 19, 20, 21], 22) (by simp)
  refine wpAnyH_take (listed := LR 24 [0, 1, 2, 3, 4, 5, 6, 7, 8, 9, 10, 11, 12, 13, 14, 15, 16, 17, 18, 19, 20, 21]) (v := .bool false) ho hs hfr.1 hfr.2 (hQ _ _) (Or.inl ⟨((wantedB hog7 dog7 hg (by (repeat (first | rw [tmps_same _ _ (by (try simp only [put_size]); omega)] | rw [tmps_far _ _ (by decide)])))).trans (by decide)), fun w' hS => run_pickT _ _ hop w' (by (repeat (first | rw [eval_same _ _ (by (try simp only [put_size]); omega)] | rw [eval_far _ _ (by decide)]))) (by (repeat (first | rw [eval_same _ _ (by (try simp only [put_size]); omega)] | rw [eval_far _ _ (by decide)])))⟩) hS20 ?_
  rw [hd, ← LR_snoc]
  clear ho hg hop hd hfr
  obtain ⟨o23, ho, hg, hop, hd⟩ := isOpG_out q23
  have hfr := hall ([0, 1, 2, 3, 4, 5, 6, 7, 8, 9, 10, 11, 12, 13, 14, 15, 16, 17, 18, 19, 20, 21, 22], 23) (by simp)
  refine wpAnyH_take (listed := LR 24 [0, 1, 2, 3, 4, 5, 6, 7, 8, 9, 10, 11, 12, 13, 14, 15, 16, 17, 18, 19, 20, 21, 22]) (v := .bool false) ho hs hfr.1 hfr.2 (hQ _ _) (Or.inl ⟨(wantedN hg), fun w' hS => run_pickF _ _ hop w' (by (repeat (first | rw [eval_same _ _ (by (try simp only [put_size]); omega)] | rw [eval_far _ _ (by decide)]))) (by (repeat (first | rw [eval_same _ _ (by (try simp only [put_size]); omega)] | rw [eval_far _ _ (by decide)])))⟩) hS20 ?_
  rw [hd, ← LR_snoc]
  clear ho hg hop hd hfr
  exact wpAnyH_done rend (F _ hS20) _
end Go.Proofs.Ytanffdllapnghaa
