import Derived.Test.YtekjoccbbamehaaIxFm
import Derived.Test.YtekjoccbbamehaaRgGen
namespace Go.Proofs.Ytekjoccbbamehaa
open Go.RowKit Go.Maps Go.Shelf
set_option linter.unusedVariables false
set_option linter.unusedSimpArgs false
attribute [local go_sem ↓] Go.wp_at_zero Go.wp_at_succ
attribute [local go_sem] Oper.semAt_some
attribute [-go_sem] loadVar storeVar

theorem run_ixN (ev : Operand → Value) (o : Oper) {x y : Operand} (hop : o.op = .indexAddr 38 x y) (w : World) {g n c k : Nat} (hx : ev x = .slice (some ⟨g, 0, none⟩) n c) (hy : ev y = .int .i64 (k : Int)) (hk : k < n) : (execOp ev o).run Try.prog w = .ok (.value (.pointer (some ⟨g, k, none⟩))) w := by
  have hk' : (k : Int) < (n : Int) := by omega
  have hk0 : (0 : Int) ≤ (k : Int) := by omega
  simp only [execOp, hop, hx, hy]
  go_simp
def rffinds0_takes : List (List Nat × Nat) := [([], 0), ([0], 1), ([0, 1], 2), ([0, 1, 2], 3), ([0, 1, 2, 3], 4), ([0, 1, 2, 3, 4], 5), ([0, 1, 2, 3, 4, 5, 6], 7), ([0, 1, 2, 3, 4, 5, 6, 7], 8), ([0, 1, 2, 3, 4, 5, 6, 7, 8], 9), ([0, 1, 2, 3, 4, 5, 6, 7, 8, 9], 10), ([0, 1, 2, 3, 4, 5, 6, 7, 8, 9, 10], 11), ([0, 1, 2, 3, 4, 5, 6, 7, 8, 9, 10, 11], 12), ([0, 1, 2, 3, 4, 5, 6, 7, 8, 9, 10, 11, 12], 13), ([0, 1, 2, 3, 4, 5, 6, 7, 8, 9, 10, 11, 12, 13], 14), ([0, 1, 2, 3, 4, 5, 6, 7, 8, 9, 10, 11, 12, 13, 14], 15), ([0, 1, 2, 3, 4, 5, 6, 7, 8, 9, 10, 11, 12, 13, 14, 15], 16), ([0, 1, 2, 3, 4, 5, 6, 7, 8, 9, 10, 11, 12, 13, 14, 15, 16], 17), ([0, 1, 2, 3, 4, 5, 6, 7, 8, 9, 10, 11, 12, 13, 14, 15, 16, 17], 18), ([0, 1, 2, 3, 4, 5, 6, 7, 8, 9, 10, 11, 12, 13, 14, 15, 16, 17, 18], 19), ([0, 1, 2, 3, 4, 5, 6, 7, 8, 9, 10, 11, 12, 13, 14, 15, 16, 17, 18, 19], 20), ([0, 1, 2, 3, 4, 5, 6, 7, 8, 9, 10, 11, 12, 13, 14, 15, 16, 17, 18, 19, 20], 21), ([0, 1, 2, 3, 4, 5, 6, 7, 8, 9, 10, 11, 12, 13, 14, 15, 16, 17, 18, 19, 20, 21], 22), ([0, 1, 2, 3, 4, 5, 6, 7, 8, 9, 10, 11, 12, 13, 14, 15, 16, 17, 18, 19, 20, 21, 22], 23), ([0, 1, 2, 3, 4, 5, 6, 7, 8, 9, 10, 11, 12, 13, 14, 15, 16, 17, 18, 19, 20, 21, 22, 23], 24)]
set_option maxHeartbeats 3200000 in
theorem rffinds0 {ops : Array Oper} {Q : Exit → Act → World → Prop} {S : World → Prop} {a0 : Act} {w5 : World} {xb yb : Nat} {m : Int} {xv yv : Value} {ty1 : Array TypeId}
    (q0 : isOpG ops 0 none (.move (.tmp 27)) (some 124))
    (q1 : isOpG ops 1 none (.binOp .neq 35 (.tmp 124) (.const (.int .i64 0)) 35) (some 125))
    (q2 : isOpG ops 2 none (.move (.tmp 125)) (some 126))
    (q3 : isOpG ops 3 (some (2, false)) (.move (.tmp 2)) (some 127))
    (q4 : isOpG ops 4 (some (2, false)) (.load 34 (.tmp 16)) (some 128))
    (q5 : isOpG ops 5 (some (2, false)) (.load 34 (.tmp 26)) (some 129))
    (q6 : isOpG ops 6 (some (2, false)) (.call { callee := .value (.func 12), args := #[.tmp 127, .tmp 128, .tmp 129], argTypes := ty1 }) (some 130))
    (q7 : isOpG ops 7 (some (2, false)) (.unOp .not 4 (.tmp 130)) (some 131))
    (q8 : isOpG ops 8 none (.pick (.tmp 126) (.const (.bool true)) (.tmp 131)) (some 132))
    (q9 : isOpG ops 9 none (.move (.tmp 132)) (some 133))
    (q10 : isOpG ops 10 (some (9, false)) (.move (.tmp 25)) (some 134))
    (q11 : isOpG ops 11 (some (9, false)) (.binOp .gtr 3 (.tmp 134) (.const (.int .i64 0)) 3) (some 135))
    (q12 : isOpG ops 12 (some (9, false)) (.move (.tmp 135)) (some 136))
    (q13 : isOpG ops 13 (some (12, true)) (.move (.tmp 18)) (some 137))
    (q14 : isOpG ops 14 (some (12, true)) (.move (.tmp 25)) (some 138))
    (q15 : isOpG ops 15 (some (12, true)) (.binOp .sub 3 (.tmp 138) (.const (.int .i64 1)) 3) (some 139))
    (q16 : isOpG ops 16 (some (12, true)) (.indexAddr 38 (.tmp 137) (.tmp 139)) (some 140))
    (q17 : isOpG ops 17 (some (12, true)) (.load 3 (.tmp 140)) (some 141))
    (q18 : isOpG ops 18 (some (12, true)) (.move (.tmp 18)) (some 142))
    (q19 : isOpG ops 19 (some (12, true)) (.move (.tmp 25)) (some 143))
    (q20 : isOpG ops 20 (some (12, true)) (.indexAddr 38 (.tmp 142) (.tmp 143)) (some 144))
    (q21 : isOpG ops 21 (some (12, true)) (.load 3 (.tmp 144)) (some 145))
    (q22 : isOpG ops 22 (some (12, true)) (.binOp .geq 3 (.tmp 141) (.tmp 145) 3) (some 146))
    (q23 : isOpG ops 23 (some (9, false)) (.pick (.tmp 136) (.tmp 146) (.const (.bool false))) (some 147))
    (q24 : isOpG ops 24 none (.pick (.tmp 133) (.const (.bool true)) (.tmp 147)) (some 148))
    (hs : Region.noSelect ops = true) (hq : (rffinds0_takes.all fun p => Region.free .any ops (LR 25 p.1) p.2 && (Region.ready .any ops (LR 25 p.1)).contains p.2) = true)
    (r6 : Region.ready .any ops (LR 25 [0, 1, 2, 3, 4, 5]) = [6])
    (rend : Region.ready .any ops (LR 25 [0, 1, 2, 3, 4, 5, 6, 7, 8, 9, 10, 11, 12, 13, 14, 15, 16, 17, 18, 19, 20, 21, 22, 23, 24]) = [])
    (hQ : ∀ (d : Option Tmp) (v : Value) c a w, Q (.panic c) (a.put d v) w → Q (.panic c) a w)
    (hsz : 148 < a0.tmps.size) (e2 : a0.eval (.tmp 2) = .int .u32 m) (e16 : a0.eval (.tmp 16) = .pointer (some ⟨xb, 0, none⟩)) (e25 : a0.eval (.tmp 25) = .int .i64 0) (e26 : a0.eval (.tmp 26) = .pointer (some ⟨yb, 0, none⟩)) (e27 : a0.eval (.tmp 27) = .int .i64 0)
    (hS0 : S w5.drew)
    (keep : ∀ u u', S u → S u' → S u') (LX : ∀ u, S u → (loadVar 34 ⟨xb, 0, none⟩).run Try.prog u = .ok (xv) u) (LY : ∀ u, S u → (loadVar 34 ⟨yb, 0, none⟩).run Try.prog u = .ok (yv) u)
    (E0 : ∀ u, (binOp .neq 35 (.int .i64 0) (.int .i64 0)).run Try.prog u = .ok (.bool false) u) (GT : ∀ u, (binOp .gtr 3 (.int .i64 0) (.int .i64 0)).run Try.prog u = .ok (.bool false) u)
    (C1 : Calls Try.prog 12 #[.int .u32 m, xv, yv] w5.drew fun e u1 => e = .returned (.bool true) ∧ S u1)
    (F : ∀ (wc : World), S wc → Q .normal (((((((((((((((((((((((((a0.put (some 124) (.int .i64 0)).put (some 125) (.bool false)).put (some 126) (.bool false)).put (some 127) (.int .u32 m)).put (some 128) (xv)).put (some 129) (yv)).put (some 130) (.bool true)).put (some 131) (.bool false)).put (some 132) (.bool false)).put (some 133) (.bool false)).put (some 134) (.int .i64 0)).put (some 135) (.bool false)).put (some 136) (.bool false)).put (some 137) (undef)).put (some 138) (undef)).put (some 139) (undef)).put (some 140) (undef)).put (some 141) (undef)).put (some 142) (undef)).put (some 143) (undef)).put (some 144) (undef)).put (some 145) (undef)).put (some 146) (undef)).put (some 147) (.bool false)).put (some 148) (.bool false)) wc) :
    wpAnyH Try.prog .any ops Q S 25 (LR 25 []) a0 w5.drew := by
  have hall : ∀ p ∈ rffinds0_takes, Region.free .any ops (LR 25 p.1) p.2 = true ∧ (Region.ready .any ops (LR 25 p.1)).contains p.2 = true := by
    intro p hp
    have := List.all_eq_true.1 hq p hp
    simpa using this
  unfold rffinds0_takes at hall
  obtain ⟨og2, hog2, _, _, dog2⟩ := isOpG_out q2
  obtain ⟨og9, hog9, _, _, dog9⟩ := isOpG_out q9
  obtain ⟨og12, hog12, _, _, dog12⟩ := isOpG_out q12
  obtain ⟨o0, ho, hg, hop, hd⟩ := isOpG_out q0
  have hfr := hall ([], 0) (by simp)
  refine wpAnyH_take (listed := LR 25 []) (v := .int .i64 0) ho hs hfr.1 hfr.2 (hQ _ _) (Or.inl ⟨(wantedN hg), fun w' hS => run_move _ _ hop w' (by (repeat rw [eval_far _ _ (by decide)]); exact e27)⟩) hS0 ?_
  rw [hd, ← LR_snoc]
  clear ho hg hop hd hfr
  obtain ⟨o1, ho, hg, hop, hd⟩ := isOpG_out q1
  have hfr := hall ([0], 1) (by simp)
  refine wpAnyH_take (listed := LR 25 [0]) (v := .bool false) ho hs hfr.1 hfr.2 (hQ _ _) (Or.inl ⟨(wantedN hg), fun w' hS => run_binV _ _ hop w' (by (repeat (first | rw [eval_same _ _ (by (try simp only [put_size]); omega)] | rw [eval_far _ _ (by decide)]))) rfl (by first | rfl | go_simp) (E0 w')⟩) hS0 ?_
  rw [hd, ← LR_snoc]
  clear ho hg hop hd hfr
  obtain ⟨o2, ho, hg, hop, hd⟩ := isOpG_out q2
  have hfr := hall ([0, 1], 2) (by simp)
  refine wpAnyH_take (listed := LR 25 [0, 1]) (v := .bool false) ho hs hfr.1 hfr.2 (hQ _ _) (Or.inl ⟨(wantedN hg), fun w' hS => run_move _ _ hop w' (by (repeat (first | rw [eval_same _ _ (by (try simp only [put_size]); omega)] | rw [eval_far _ _ (by decide)])))⟩) hS0 ?_
  rw [hd, ← LR_snoc]
  clear ho hg hop hd hfr
  obtain ⟨o3, ho, hg, hop, hd⟩ := isOpG_out q3
  have hfr := hall ([0, 1, 2], 3) (by simp)
  refine wpAnyH_take (listed := LR 25 [0, 1, 2]) (v := .int .u32 m) ho hs hfr.1 hfr.2 (hQ _ _) (Or.inl ⟨((wantedB hog2 dog2 hg (by (repeat (first | rw [tmps_same _ _ (by (try simp only [put_size]); omega)] | rw [tmps_far _ _ (by decide)])))).trans (by decide)), fun w' hS => run_move _ _ hop w' (by (repeat rw [eval_far _ _ (by decide)]); exact e2)⟩) hS0 ?_
  rw [hd, ← LR_snoc]
  clear ho hg hop hd hfr
  obtain ⟨o4, ho, hg, hop, hd⟩ := isOpG_out q4
  have hfr := hall ([0, 1, 2, 3], 4) (by simp)
  refine wpAnyH_take (listed := LR 25 [0, 1, 2, 3]) (v := xv) ho hs hfr.1 hfr.2 (hQ _ _) (Or.inl ⟨((wantedB hog2 dog2 hg (by (repeat (first | rw [tmps_same _ _ (by (try simp only [put_size]); omega)] | rw [tmps_far _ _ (by decide)])))).trans (by decide)), fun w' hS => run_loadX _ _ hop w' (by (repeat rw [eval_far _ _ (by decide)]); exact e16) (LX _ hS)⟩) hS0 ?_
  rw [hd, ← LR_snoc]
  clear ho hg hop hd hfr
  obtain ⟨o5, ho, hg, hop, hd⟩ := isOpG_out q5
  have hfr := hall ([0, 1, 2, 3, 4], 5) (by simp)
  refine wpAnyH_take (listed := LR 25 [0, 1, 2, 3, 4]) (v := yv) ho hs hfr.1 hfr.2 (hQ _ _) (Or.inl ⟨((wantedB hog2 dog2 hg (by (repeat (first | rw [tmps_same _ _ (by (try simp only [put_size]); omega)] | rw [tmps_far _ _ (by decide)])))).trans (by decide)), fun w' hS => run_loadX _ _ hop w' (by (repeat rw [eval_far _ _ (by decide)]); exact e26) (LY _ hS)⟩) hS0 ?_
  rw [hd, ← LR_snoc]
  clear ho hg hop hd hfr
  refine wpAnyH_all r6 (by simp) ?_
  intro i hi
  obtain rfl := List.mem_singleton.1 hi
  obtain ⟨o6, ho, hg, hop, hd⟩ := isOpG_out q6
  have x6_0 : (((((((a0.put (some 124) (.int .i64 0)).put (some 125) (.bool false)).put (some 126) (.bool false)).put (some 127) (.int .u32 m)).put (some 128) (xv)).put (some 129) (yv))).eval (.tmp 127) = .int .u32 m := (by (repeat (first | rw [eval_same _ _ (by (try simp only [put_size]); omega)] | rw [eval_far _ _ (by decide)])))
  have x6_1 : (((((((a0.put (some 124) (.int .i64 0)).put (some 125) (.bool false)).put (some 126) (.bool false)).put (some 127) (.int .u32 m)).put (some 128) (xv)).put (some 129) (yv))).eval (.tmp 128) = xv := (by (repeat (first | rw [eval_same _ _ (by (try simp only [put_size]); omega)] | rw [eval_far _ _ (by decide)])))
  have x6_2 : (((((((a0.put (some 124) (.int .i64 0)).put (some 125) (.bool false)).put (some 126) (.bool false)).put (some 127) (.int .u32 m)).put (some 128) (xv)).put (some 129) (yv))).eval (.tmp 129) = yv := (by (repeat (first | rw [eval_same _ _ (by (try simp only [put_size]); omega)] | rw [eval_far _ _ (by decide)])))
  refine wpOp_callG ho ((wantedB hog2 dog2 hg (by (repeat (first | rw [tmps_same _ _ (by (try simp only [put_size]); omega)] | rw [tmps_far _ _ (by decide)])))).trans (by decide)) (run_callV 12 Try.func12 (by kernel_rfl) (by kernel_rfl) #[.tmp 127, .tmp 128, .tmp 129] _ hop #[.int .u32 m, xv, yv] (by simp only [List.map_toArray, List.map_cons, List.map_nil, x6_0, x6_1, x6_2])) ?_
  refine (C1).mono ?_
  rintro e u1 ⟨rfl, hS1⟩
  have hS6 := keep _ _ hS0 hS1
  refine ⟨_, rfl, hS6, ?_⟩
  rw [hd]
  clear ho hg hop hd
  rw [← LR_snoc]
  obtain ⟨o7, ho, hg, hop, hd⟩ := isOpG_out q7
  have hfr := hall ([0, 1, 2, 3, 4, 5, 6], 7) (by simp)
  refine wpAnyH_take (listed := LR 25 [0, 1, 2, 3, 4, 5, 6]) (v := .bool false) ho hs hfr.1 hfr.2 (hQ _ _) (Or.inl ⟨((wantedB hog2 dog2 hg (by (repeat (first | rw [tmps_same _ _ (by (try simp only [put_size]); omega)] | rw [tmps_far _ _ (by decide)])))).trans (by decide)), fun w' hS => run_notV (b := true) _ _ hop w' (by (repeat (first | rw [eval_same _ _ (by (try simp only [put_size]); omega)] | rw [eval_far _ _ (by decide)])))⟩) hS6 ?_
  rw [hd, ← LR_snoc]
  clear ho hg hop hd hfr
  obtain ⟨o8, ho, hg, hop, hd⟩ := isOpG_out q8
  have hfr := hall ([0, 1, 2, 3, 4, 5, 6, 7], 8) (by simp)
  refine wpAnyH_take (listed := LR 25 [0, 1, 2, 3, 4, 5, 6, 7]) (v := .bool false) ho hs hfr.1 hfr.2 (hQ _ _) (Or.inl ⟨(wantedN hg), fun w' hS => run_pickF _ _ hop w' (by (repeat (first | rw [eval_same _ _ (by (try simp only [put_size]); omega)] | rw [eval_far _ _ (by decide)]))) (by (repeat (first | rw [eval_same _ _ (by (try simp only [put_size]); omega)] | rw [eval_far _ _ (by decide)])))⟩) hS6 ?_
  rw [hd, ← LR_snoc]
  clear ho hg hop hd hfr
  obtain ⟨o9, ho, hg, hop, hd⟩ := isOpG_out q9
  have hfr := hall ([0, 1, 2, 3, 4, 5, 6, 7, 8], 9) (by simp)
  refine wpAnyH_take (listed := LR 25 [0, 1, 2, 3, 4, 5, 6, 7, 8]) (v := .bool false) ho hs hfr.1 hfr.2 (hQ _ _) (Or.inl ⟨(wantedN hg), fun w' hS => run_move _ _ hop w' (by (repeat (first | rw [eval_same _ _ (by (try simp only [put_size]); omega)] | rw [eval_far _ _ (by decide)])))⟩) hS6 ?_
  rw [hd, ← LR_snoc]
  clear ho hg hop hd hfr
  obtain ⟨o10, ho, hg, hop, hd⟩ := isOpG_out q10
  have hfr := hall ([0, 1, 2, 3, 4, 5, 6, 7, 8, 9], 10) (by simp)
  refine wpAnyH_take (listed := LR 25 [0, 1, 2, 3, 4, 5, 6, 7, 8, 9]) (v := .int .i64 0) ho hs hfr.1 hfr.2 (hQ _ _) (Or.inl ⟨((wantedB hog9 dog9 hg (by (repeat (first | rw [tmps_same _ _ (by (try simp only [put_size]); omega)] | rw [tmps_far _ _ (by decide)])))).trans (by decide)), fun w' hS => run_move _ _ hop w' (by (repeat rw [eval_far _ _ (by decide)]); exact e25)⟩) hS6 ?_
  rw [hd, ← LR_snoc]
  clear ho hg hop hd hfr
  obtain ⟨o11, ho, hg, hop, hd⟩ := isOpG_out q11
  have hfr := hall ([0, 1, 2, 3, 4, 5, 6, 7, 8, 9, 10], 11) (by simp)
  refine wpAnyH_take (listed := LR 25 [0, 1, 2, 3, 4, 5, 6, 7, 8, 9, 10]) (v := .bool false) ho hs hfr.1 hfr.2 (hQ _ _) (Or.inl ⟨((wantedB hog9 dog9 hg (by (repeat (first | rw [tmps_same _ _ (by (try simp only [put_size]); omega)] | rw [tmps_far _ _ (by decide)])))).trans (by decide)), fun w' hS => run_binV _ _ hop w' (by (repeat (first | rw [eval_same _ _ (by (try simp only [put_size]); omega)] | rw [eval_far _ _ (by decide)]))) rfl (by first | rfl | go_simp) (GT w')⟩) hS6 ?_
  rw [hd, ← LR_snoc]
  clear ho hg hop hd hfr
  obtain ⟨o12, ho, hg, hop, hd⟩ := isOpG_out q12
  have hfr := hall ([0, 1, 2, 3, 4, 5, 6, 7, 8, 9, 10, 11], 12) (by simp)
  refine wpAnyH_take (listed := LR 25 [0, 1, 2, 3, 4, 5, 6, 7, 8, 9, 10, 11]) (v := .bool false) ho hs hfr.1 hfr.2 (hQ _ _) (Or.inl ⟨((wantedB hog9 dog9 hg (by (repeat (first | rw [tmps_same _ _ (by (try simp only [put_size]); omega)] | rw [tmps_far _ _ (by decide)])))).trans (by decide)), fun w' hS => run_move _ _ hop w' (by (repeat (first | rw [eval_same _ _ (by (try simp only [put_size]); omega)] | rw [eval_far _ _ (by decide)])))⟩) hS6 ?_
  rw [hd, ← LR_snoc]
  clear ho hg hop hd hfr
  obtain ⟨o13, ho, hg, hop, hd⟩ := isOpG_out q13
  have hfr := hall ([0, 1, 2, 3, 4, 5, 6, 7, 8, 9, 10, 11, 12], 13) (by simp)
  refine wpAnyH_take (listed := LR 25 [0, 1, 2, 3, 4, 5, 6, 7, 8, 9, 10, 11, 12]) (v := undef) ho hs hfr.1 hfr.2 (hQ _ _) (Or.inr ⟨((wantedB hog12 dog12 hg (by (repeat (first | rw [tmps_same _ _ (by (try simp only [put_size]); omega)] | rw [tmps_far _ _ (by decide)])))).trans (by decide)), rfl⟩) hS6 ?_
  rw [hd, ← LR_snoc]
  clear ho hg hop hd hfr
  obtain ⟨o14, ho, hg, hop, hd⟩ := isOpG_out q14
  have hfr := hall ([0, 1, 2, 3, 4, 5, 6, 7, 8, 9, 10, 11, 12, 13], 14) (by simp)
  refine wpAnyH_take (listed := LR 25 [0, 1, 2, 3, 4, 5, 6, 7, 8, 9, 10, 11, 12, 13]) (v := undef) ho hs hfr.1 hfr.2 (hQ _ _) (Or.inr ⟨((wantedB hog12 dog12 hg (by (repeat (first | rw [tmps_same _ _ (by (try simp only [put_size]); omega)] | rw [tmps_far _ _ (by decide)])))).trans (by decide)), rfl⟩) hS6 ?_
  rw [hd, ← LR_snoc]
  clear ho hg hop hd hfr
  obtain ⟨o15, ho, hg, hop, hd⟩ := isOpG_out q15
  have hfr := hall ([0, 1, 2, 3, 4, 5, 6, 7, 8, 9, 10, 11, 12, 13, 14], 15) (by simp)
  refine wpAnyH_take (listed := LR 25 [0, 1, 2, 3, 4, 5, 6, 7, 8, 9, 10, 11, 12, 13, 14]) (v := undef) ho hs hfr.1 hfr.2 (hQ _ _) (Or.inr ⟨((wantedB hog12 dog12 hg (by (repeat (first | rw [tmps_same _ _ (by (try simp only [put_size]); omega)] | rw [tmps_far _ _ (by decide)])))).trans (by decide)), rfl⟩) hS6 ?_
  rw [hd, ← LR_snoc]
  clear ho hg hop hd hfr
  obtain ⟨o16, ho, hg, hop, hd⟩ := isOpG_out q16
  have hfr := hall ([0, 1, 2, 3, 4, 5, 6, 7, 8, 9, 10, 11, 12, 13, 14, 15], 16) (by simp)
  refine wpAnyH_take (listed := LR 25 [0, 1, 2, 3, 4, 5, 6, 7, 8, 9, 10, 11, 12, 13, 14, 15]) (v := undef) ho hs hfr.1 hfr.2 (hQ _ _) (Or.inr ⟨((wantedB hog12 dog12 hg (by (repeat (first | rw [tmps_same _ _ (by (try simp only [put_size]); omega)] | rw [tmps_far _ _ (by decide)])))).trans (by decide)), rfl⟩) hS6 ?_
  rw [hd, ← LR_snoc]
  clear ho hg hop hd hfr
  obtain ⟨o17, ho, hg, hop, hd⟩ := isOpG_out q17
  have hfr := hall ([0, 1, 2, 3, 4, 5, 6, 7, 8, 9, 10, 11, 12, 13, 14, 15, 16], 17) (by simp)
  refine wpAnyH_take (listed := LR 25 [0, 1, 2, 3, 4, 5, 6, 7, 8, 9, 10, 11, 12, 13, 14, 15, 16]) (v := undef) ho hs hfr.1 hfr.2 (hQ _ _) (Or.inr ⟨((wantedB hog12 dog12 hg (by (repeat (first | rw [tmps_same _ _ (by (try simp only [put_size]); omega)] | rw [tmps_far _ _ (by decide)])))).trans (by decide)), rfl⟩) hS6 ?_
  rw [hd, ← LR_snoc]
  clear ho hg hop hd hfr
  obtain ⟨o18, ho, hg, hop, hd⟩ := isOpG_out q18
  have hfr := hall ([0, 1, 2, 3, 4, 5, 6, 7, 8, 9, 10, 11, 12, 13, 14, 15, 16, 17], 18) (by simp)
  refine wpAnyH_take (listed := LR 25 [0, 1, 2, 3, 4, 5, 6, 7, 8, 9, 10, 11, 12, 13, 14, 15, 16, 17]) (v := undef) ho hs hfr.1 hfr.2 (hQ _ _) (Or.inr ⟨((wantedB hog12 dog12 hg (by (repeat (first | rw [tmps_same _ _ (by (try simp only [put_size]); omega)] | rw [tmps_far _ _ (by decide)])))).trans (by decide)), rfl⟩) hS6 ?_
  rw [hd, ← LR_snoc]
  clear ho hg hop hd hfr
  obtain ⟨o19, ho, hg, hop, hd⟩ := isOpG_out q19
  have hfr := hall ([0, 1, 2, 3, 4, 5, 6, 7, 8, 9, 10, 11, 12, 13, 14, 15, 16, 17, 18], 19) (by simp)
  refine wpAnyH_take (listed := LR 25 [0, 1, 2, 3, 4, 5, 6, 7, 8, 9, 10, 11, 12, 13, 14, 15, 16, 17, 18]) (v := undef) ho hs hfr.1 hfr.2 (hQ _ _) (Or.inr ⟨((wantedB hog12 dog12 hg (by (repeat (first | rw [tmps_same _ _ (by (try simp only [put_size]); omega)] | rw [tmps_far _ _ (by decide)])))).trans (by decide)), rfl⟩) hS6 ?_
  rw [hd, ← LR_snoc]
  clear ho hg hop hd hfr
  obtain ⟨o20, ho, hg, hop, hd⟩ := isOpG_out q20
  have hfr := hall ([0, 1, 2, 3, 4, 5, 6, 7, 8, 9, 10, 11, 12, 13, 14, 15, 16, 17, 18, 19], 20) (by simp)
  refine wpAnyH_take (listed := LR 25 [0, 1, 2, 3, 4, 5, 6, 7, 8, 9, 10, 11, 12, 13, 14, 15, 16, 17, 18, 19]) (v := undef) ho hs hfr.1 hfr.2 (hQ _ _) (Or.inr ⟨((wantedB hog12 dog12 hg (by (repeat (first | rw [tmps_same _ _ (by (try simp only [put_size]); omega)] | rw [tmps_far _ _ (by decide)])))).trans (by decide)), rfl⟩) hS6 ?_
  rw [hd, ← LR_snoc]
  clear ho hg hop hd hfr
  obtain ⟨o21, ho, hg, hop, hd⟩ := isOpG_out q21
  have hfr := hall ([0, 1, 2, 3, 4, 5, 6, 7, 8, 9, 10, 11, 12, 13, 14, 15, 16, 17, 18, 19, 20], 21) (by simp)
  refine wpAnyH_take (listed := LR 25 [0, 1, 2, 3, 4, 5, 6, 7, 8, 9, 10, 11, 12, 13, 14, 15, 16, 17, 18, 19, 20]) (v := undef) ho hs hfr.1 hfr.2 (hQ _ _) (Or.inr ⟨((wantedB hog12 dog12 hg (by (repeat (first | rw [tmps_same _ _ (by (try simp only [put_size]); omega)] | rw [tmps_far _ _ (by decide)])))).trans (by decide)), rfl⟩) hS6 ?_
  rw [hd, ← LR_snoc]
  clear ho hg hop hd hfr
  obtain ⟨o22, ho, hg, hop, hd⟩ := isOpG_out q22
  have hfr := hall ([0, 1, 2, 3, 4, 5, 6, 7, 8, 9, 10, 11, 12, 13, 14, 15, 16, 17, 18, 19, 20, 21], 22) (by simp)
  refine wpAnyH_take (listed := LR 25 [0, 1, 2, 3, 4, 5, 6, 7, 8, 9, 10, 11, 12, 13, 14, 15, 16, 17, 18, 19, 20, 21]) (v := undef) ho hs hfr.1 hfr.2 (hQ _ _) (Or.inr ⟨((wantedB hog12 dog12 hg (by (repeat (first | rw [tmps_same _ _ (by (try simp only [put_size]); omega)] | rw [tmps_far _ _ (by decide)])))).trans (by decide)), rfl⟩) hS6 ?_
  rw [hd, ← LR_snoc]
  clear ho hg hop hd hfr
  obtain ⟨o23, ho, hg, hop, hd⟩ := isOpG_out q23
  have hfr := hall ([0, 1, 2, 3, 4, 5, 6, 7, 8, 9, 10, 11, 12, 13, 14, 15, 16, 17, 18, 19, 20, 21, 22], 23) (by simp)
  refine wpAnyH_take (listed := LR 25 [0, 1, 2, 3, 4, 5, 6, 7, 8, 9, 10, 11, 12, 13, 14, 15, 16, 17, 18, 19, 20, 21, 22]) (v := .bool false) ho hs hfr.1 hfr.2 (hQ _ _) (Or.inl ⟨((wantedB hog9 dog9 hg (by (repeat (first | rw [tmps_same _ _ (by (try simp only [put_size]); omega)] | rw [tmps_far _ _ (by decide)])))).trans (by decide)), fun w' hS => run_pickF _ _ hop w' (by (repeat (first | rw [eval_same _ _ (by (try simp only [put_size]); omega)] | rw [eval_far _ _ (by decide)]))) rfl⟩) hS6 ?_
  rw [hd, ← LR_snoc]
  clear ho hg hop hd hfr
  obtain ⟨o24, ho, hg, hop, hd⟩ := isOpG_out q24
  have hfr := hall ([0, 1, 2, 3, 4, 5, 6, 7, 8, 9, 10, 11, 12, 13, 14, 15, 16, 17, 18, 19, 20, 21, 22, 23], 24) (by simp)
  refine wpAnyH_take (listed := LR 25 [0, 1, 2, 3, 4, 5, 6, 7, 8, 9, 10, 11, 12, 13, 14, 15, 16, 17, 18, 19, 20, 21, 22, 23]) (v := .bool false) ho hs hfr.1 hfr.2 (hQ _ _) (Or.inl ⟨(wantedN hg), fun w' hS => run_pickF _ _ hop w' (by (repeat (first | rw [eval_same _ _ (by (try simp only [put_size]); omega)] | rw [eval_far _ _ (by decide)]))) (by (repeat (first | rw [eval_same _ _ (by (try simp only [put_size]); omega)] | rw [eval_far _ _ (by decide)])))⟩) hS6 ?_
  rw [hd, ← LR_snoc]
  clear ho hg hop hd hfr
  exact wpAnyH_done rend (F _ hS6) _
def rffindsS_takes : List (List Nat × Nat) := [([], 0), ([0], 1), ([0, 1], 2), ([0, 1, 2], 3), ([0, 1, 2, 3], 4), ([0, 1, 2, 3, 4], 5), ([0, 1, 2, 3, 4, 5, 6], 7), ([0, 1, 2, 3, 4, 5, 6, 7], 8), ([0, 1, 2, 3, 4, 5, 6, 7, 8], 9), ([0, 1, 2, 3, 4, 5, 6, 7, 8, 9], 10), ([0, 1, 2, 3, 4, 5, 6, 7, 8, 9, 10], 11), ([0, 1, 2, 3, 4, 5, 6, 7, 8, 9, 10, 11], 12), ([0, 1, 2, 3, 4, 5, 6, 7, 8, 9, 10, 11, 12], 13), ([0, 1, 2, 3, 4, 5, 6, 7, 8, 9, 10, 11, 12, 13], 14), ([0, 1, 2, 3, 4, 5, 6, 7, 8, 9, 10, 11, 12, 13, 14], 15), ([0, 1, 2, 3, 4, 5, 6, 7, 8, 9, 10, 11, 12, 13, 14, 15], 16), ([0, 1, 2, 3, 4, 5, 6, 7, 8, 9, 10, 11, 12, 13, 14, 15, 16], 17), ([0, 1, 2, 3, 4, 5, 6, 7, 8, 9, 10, 11, 12, 13, 14, 15, 16, 17], 18), ([0, 1, 2, 3, 4, 5, 6, 7, 8, 9, 10, 11, 12, 13, 14, 15, 16, 17, 18], 19), ([0, 1, 2, 3, 4, 5, 6, 7, 8, 9, 10, 11, 12, 13, 14, 15, 16, 17, 18, 19], 20), ([0, 1, 2, 3, 4, 5, 6, 7, 8, 9, 10, 11, 12, 13, 14, 15, 16, 17, 18, 19, 20], 21), ([0, 1, 2, 3, 4, 5, 6, 7, 8, 9, 10, 11, 12, 13, 14, 15, 16, 17, 18, 19, 20, 21], 22), ([0, 1, 2, 3, 4, 5, 6, 7, 8, 9, 10, 11, 12, 13, 14, 15, 16, 17, 18, 19, 20, 21, 22], 23), ([0, 1, 2, 3, 4, 5, 6, 7, 8, 9, 10, 11, 12, 13, 14, 15, 16, 17, 18, 19, 20, 21, 22, 23], 24)]
set_option maxHeartbeats 3200000 in
theorem rffindsS {ops : Array Oper} {Q : Exit → Act → World → Prop} {S : World → Prop} {a0 : Act} {w5 : World} {xb yb : Nat} {m : Int} {xv yv : Value} {ty1 : Array TypeId} {g nn cc j : Nat} {a b : Int}
    (q0 : isOpG ops 0 none (.move (.tmp 27)) (some 124))
    (q1 : isOpG ops 1 none (.binOp .neq 35 (.tmp 124) (.const (.int .i64 0)) 35) (some 125))
    (q2 : isOpG ops 2 none (.move (.tmp 125)) (some 126))
    (q3 : isOpG ops 3 (some (2, false)) (.move (.tmp 2)) (some 127))
    (q4 : isOpG ops 4 (some (2, false)) (.load 34 (.tmp 16)) (some 128))
    (q5 : isOpG ops 5 (some (2, false)) (.load 34 (.tmp 26)) (some 129))
    (q6 : isOpG ops 6 (some (2, false)) (.call { callee := .value (.func 12), args := #[.tmp 127, .tmp 128, .tmp 129], argTypes := ty1 }) (some 130))
    (q7 : isOpG ops 7 (some (2, false)) (.unOp .not 4 (.tmp 130)) (some 131))
    (q8 : isOpG ops 8 none (.pick (.tmp 126) (.const (.bool true)) (.tmp 131)) (some 132))
    (q9 : isOpG ops 9 none (.move (.tmp 132)) (some 133))
    (q10 : isOpG ops 10 (some (9, false)) (.move (.tmp 25)) (some 134))
    (q11 : isOpG ops 11 (some (9, false)) (.binOp .gtr 3 (.tmp 134) (.const (.int .i64 0)) 3) (some 135))
    (q12 : isOpG ops 12 (some (9, false)) (.move (.tmp 135)) (some 136))
    (q13 : isOpG ops 13 (some (12, true)) (.move (.tmp 18)) (some 137))
    (q14 : isOpG ops 14 (some (12, true)) (.move (.tmp 25)) (some 138))
    (q15 : isOpG ops 15 (some (12, true)) (.binOp .sub 3 (.tmp 138) (.const (.int .i64 1)) 3) (some 139))
    (q16 : isOpG ops 16 (some (12, true)) (.indexAddr 38 (.tmp 137) (.tmp 139)) (some 140))
    (q17 : isOpG ops 17 (some (12, true)) (.load 3 (.tmp 140)) (some 141))
    (q18 : isOpG ops 18 (some (12, true)) (.move (.tmp 18)) (some 142))
    (q19 : isOpG ops 19 (some (12, true)) (.move (.tmp 25)) (some 143))
    (q20 : isOpG ops 20 (some (12, true)) (.indexAddr 38 (.tmp 142) (.tmp 143)) (some 144))
    (q21 : isOpG ops 21 (some (12, true)) (.load 3 (.tmp 144)) (some 145))
    (q22 : isOpG ops 22 (some (12, true)) (.binOp .geq 3 (.tmp 141) (.tmp 145) 3) (some 146))
    (q23 : isOpG ops 23 (some (9, false)) (.pick (.tmp 136) (.tmp 146) (.const (.bool false))) (some 147))
    (q24 : isOpG ops 24 none (.pick (.tmp 133) (.const (.bool true)) (.tmp 147)) (some 148))
    (hs : Region.noSelect ops = true) (hq : (rffindsS_takes.all fun p => Region.free .any ops (LR 25 p.1) p.2 && (Region.ready .any ops (LR 25 p.1)).contains p.2) = true)
    (r6 : Region.ready .any ops (LR 25 [0, 1, 2, 3, 4, 5]) = [6])
    (rend : Region.ready .any ops (LR 25 [0, 1, 2, 3, 4, 5, 6, 7, 8, 9, 10, 11, 12, 13, 14, 15, 16, 17, 18, 19, 20, 21, 22, 23, 24]) = [])
    (hQ : ∀ (d : Option Tmp) (v : Value) c a w, Q (.panic c) (a.put d v) w → Q (.panic c) a w)
    (hsz : 148 < a0.tmps.size) (e2 : a0.eval (.tmp 2) = .int .u32 m) (e16 : a0.eval (.tmp 16) = .pointer (some ⟨xb, 0, none⟩)) (e25 : a0.eval (.tmp 25) = .int .i64 ((j + 1 : Nat) : Int)) (e26 : a0.eval (.tmp 26) = .pointer (some ⟨yb, 0, none⟩)) (e27 : a0.eval (.tmp 27) = .int .i64 0) (e18 : a0.eval (.tmp 18) = .slice (some ⟨g, 0, none⟩) nn cc)
    (hS0 : S w5.drew)
    (keep : ∀ u u', S u → S u' → S u') (LX : ∀ u, S u → (loadVar 34 ⟨xb, 0, none⟩).run Try.prog u = .ok (xv) u) (LY : ∀ u, S u → (loadVar 34 ⟨yb, 0, none⟩).run Try.prog u = .ok (yv) u)
    (E0 : ∀ u, (binOp .neq 35 (.int .i64 0) (.int .i64 0)).run Try.prog u = .ok (.bool false) u) (GT : ∀ u, (binOp .gtr 3 (.int .i64 ((j + 1 : Nat) : Int)) (.int .i64 0)).run Try.prog u = .ok (.bool true) u)
    (hk : j + 1 < nn) (LA : ∀ u, S u → (loadVar 3 ⟨g, j, none⟩).run Try.prog u = .ok (.int .i64 a) u) (LB : ∀ u, S u → (loadVar 3 ⟨g, j + 1, none⟩).run Try.prog u = .ok (.int .i64 b) u) (SB : ∀ u, (binOp .sub 3 (.int .i64 ((j + 1 : Nat) : Int)) (.int .i64 1)).run Try.prog u = .ok (.int .i64 (j : Int)) u) (GE : ∀ u, (binOp .geq 3 (.int .i64 a) (.int .i64 b)).run Try.prog u = .ok (.bool false) u)
    (C1 : Calls Try.prog 12 #[.int .u32 m, xv, yv] w5.drew fun e u1 => e = .returned (.bool true) ∧ S u1)
    (F : ∀ (wc : World), S wc → Q .normal (((((((((((((((((((((((((a0.put (some 124) (.int .i64 0)).put (some 125) (.bool false)).put (some 126) (.bool false)).put (some 127) (.int .u32 m)).put (some 128) (xv)).put (some 129) (yv)).put (some 130) (.bool true)).put (some 131) (.bool false)).put (some 132) (.bool false)).put (some 133) (.bool false)).put (some 134) (.int .i64 ((j + 1 : Nat) : Int))).put (some 135) (.bool true)).put (some 136) (.bool true)).put (some 137) (.slice (some ⟨g, 0, none⟩) nn cc)).put (some 138) (.int .i64 ((j + 1 : Nat) : Int))).put (some 139) (.int .i64 (j : Int))).put (some 140) (.pointer (some ⟨g, j, none⟩))).put (some 141) (.int .i64 a)).put (some 142) (.slice (some ⟨g, 0, none⟩) nn cc)).put (some 143) (.int .i64 ((j + 1 : Nat) : Int))).put (some 144) (.pointer (some ⟨g, j + 1, none⟩))).put (some 145) (.int .i64 b)).put (some 146) (.bool false)).put (some 147) (.bool false)).put (some 148) (.bool false)) wc) :
    wpAnyH Try.prog .any ops Q S 25 (LR 25 []) a0 w5.drew := by
  have hall : ∀ p ∈ rffindsS_takes, Region.free .any ops (LR 25 p.1) p.2 = true ∧ (Region.ready .any ops (LR 25 p.1)).contains p.2 = true := by
    intro p hp
    have := List.all_eq_true.1 hq p hp
    simpa using this
  unfold rffindsS_takes at hall
  obtain ⟨og2, hog2, _, _, dog2⟩ := isOpG_out q2
  obtain ⟨og9, hog9, _, _, dog9⟩ := isOpG_out q9
  obtain ⟨og12, hog12, _, _, dog12⟩ := isOpG_out q12
  obtain ⟨o0, ho, hg, hop, hd⟩ := isOpG_out q0
  have hfr := hall ([], 0) (by simp)
  refine wpAnyH_take (listed := LR 25 []) (v := .int .i64 0) ho hs hfr.1 hfr.2 (hQ _ _) (Or.inl ⟨(wantedN hg), fun w' hS => run_move _ _ hop w' (by (repeat rw [eval_far _ _ (by decide)]); exact e27)⟩) hS0 ?_
  rw [hd, ← LR_snoc]
  clear ho hg hop hd hfr
  obtain ⟨o1, ho, hg, hop, hd⟩ := isOpG_out q1
  have hfr := hall ([0], 1) (by simp)
  refine wpAnyH_take (listed := LR 25 [0]) (v := .bool false) ho hs hfr.1 hfr.2 (hQ _ _) (Or.inl ⟨(wantedN hg), fun w' hS => run_binV _ _ hop w' (by (repeat (first | rw [eval_same _ _ (by (try simp only [put_size]); omega)] | rw [eval_far _ _ (by decide)]))) rfl (by first | rfl | go_simp) (E0 w')⟩) hS0 ?_
  rw [hd, ← LR_snoc]
  clear ho hg hop hd hfr
  obtain ⟨o2, ho, hg, hop, hd⟩ := isOpG_out q2
  have hfr := hall ([0, 1], 2) (by simp)
  refine wpAnyH_take (listed := LR 25 [0, 1]) (v := .bool false) ho hs hfr.1 hfr.2 (hQ _ _) (Or.inl ⟨(wantedN hg), fun w' hS => run_move _ _ hop w' (by (repeat (first | rw [eval_same _ _ (by (try simp only [put_size]); omega)] | rw [eval_far _ _ (by decide)])))⟩) hS0 ?_
  rw [hd, ← LR_snoc]
  clear ho hg hop hd hfr
  obtain ⟨o3, ho, hg, hop, hd⟩ := isOpG_out q3
  have hfr := hall ([0, 1, 2], 3) (by simp)
  refine wpAnyH_take (listed := LR 25 [0, 1, 2]) (v := .int .u32 m) ho hs hfr.1 hfr.2 (hQ _ _) (Or.inl ⟨((wantedB hog2 dog2 hg (by (repeat (first | rw [tmps_same _ _ (by (try simp only [put_size]); omega)] | rw [tmps_far _ _ (by decide)])))).trans (by decide)), fun w' hS => run_move _ _ hop w' (by (repeat rw [eval_far _ _ (by decide)]); exact e2)⟩) hS0 ?_
  rw [hd, ← LR_snoc]
  clear ho hg hop hd hfr
  obtain ⟨o4, ho, hg, hop, hd⟩ := isOpG_out q4
  have hfr := hall ([0, 1, 2, 3], 4) (by simp)
  refine wpAnyH_take (listed := LR 25 [0, 1, 2, 3]) (v := xv) ho hs hfr.1 hfr.2 (hQ _ _) (Or.inl ⟨((wantedB hog2 dog2 hg (by (repeat (first | rw [tmps_same _ _ (by (try simp only [put_size]); omega)] | rw [tmps_far _ _ (by decide)])))).trans (by decide)), fun w' hS => run_loadX _ _ hop w' (by (repeat rw [eval_far _ _ (by decide)]); exact e16) (LX _ hS)⟩) hS0 ?_
  rw [hd, ← LR_snoc]
  clear ho hg hop hd hfr
  obtain ⟨o5, ho, hg, hop, hd⟩ := isOpG_out q5
  have hfr := hall ([0, 1, 2, 3, 4], 5) (by simp)
  refine wpAnyH_take (listed := LR 25 [0, 1, 2, 3, 4]) (v := yv) ho hs hfr.1 hfr.2 (hQ _ _) (Or.inl ⟨((wantedB hog2 dog2 hg (by (repeat (first | rw [tmps_same _ _ (by (try simp only [put_size]); omega)] | rw [tmps_far _ _ (by decide)])))).trans (by decide)), fun w' hS => run_loadX _ _ hop w' (by (repeat rw [eval_far _ _ (by decide)]); exact e26) (LY _ hS)⟩) hS0 ?_
  rw [hd, ← LR_snoc]
  clear ho hg hop hd hfr
  refine wpAnyH_all r6 (by simp) ?_
  intro i hi
  obtain rfl := List.mem_singleton.1 hi
  obtain ⟨o6, ho, hg, hop, hd⟩ := isOpG_out q6
  have x6_0 : (((((((a0.put (some 124) (.int .i64 0)).put (some 125) (.bool false)).put (some 126) (.bool false)).put (some 127) (.int .u32 m)).put (some 128) (xv)).put (some 129) (yv))).eval (.tmp 127) = .int .u32 m := (by (repeat (first | rw [eval_same _ _ (by (try simp only [put_size]); omega)] | rw [eval_far _ _ (by decide)])))
  have x6_1 : (((((((a0.put (some 124) (.int .i64 0)).put (some 125) (.bool false)).put (some 126) (.bool false)).put (some 127) (.int .u32 m)).put (some 128) (xv)).put (some 129) (yv))).eval (.tmp 128) = xv := (by (repeat (first | rw [eval_same _ _ (by (try simp only [put_size]); omega)] | rw [eval_far _ _ (by decide)])))
  have x6_2 : (((((((a0.put (some 124) (.int .i64 0)).put (some 125) (.bool false)).put (some 126) (.bool false)).put (some 127) (.int .u32 m)).put (some 128) (xv)).put (some 129) (yv))).eval (.tmp 129) = yv := (by (repeat (first | rw [eval_same _ _ (by (try simp only [put_size]); omega)] | rw [eval_far _ _ (by decide)])))
  refine wpOp_callG ho ((wantedB hog2 dog2 hg (by (repeat (first | rw [tmps_same _ _ (by (try simp only [put_size]); omega)] | rw [tmps_far _ _ (by decide)])))).trans (by decide)) (run_callV 12 Try.func12 (by kernel_rfl) (by kernel_rfl) #[.tmp 127, .tmp 128, .tmp 129] _ hop #[.int .u32 m, xv, yv] (by simp only [List.map_toArray, List.map_cons, List.map_nil, x6_0, x6_1, x6_2])) ?_
  refine (C1).mono ?_
  rintro e u1 ⟨rfl, hS1⟩
  have hS6 := keep _ _ hS0 hS1
  refine ⟨_, rfl, hS6, ?_⟩
  rw [hd]
  clear ho hg hop hd
  rw [← LR_snoc]
  obtain ⟨o7, ho, hg, hop, hd⟩ := isOpG_out q7
  have hfr := hall ([0, 1, 2, 3, 4, 5, 6], 7) (by simp)
  refine wpAnyH_take (listed := LR 25 [0, 1, 2, 3, 4, 5, 6]) (v := .bool false) ho hs hfr.1 hfr.2 (hQ _ _) (Or.inl ⟨((wantedB hog2 dog2 hg (by (repeat (first | rw [tmps_same _ _ (by (try simp only [put_size]); omega)] | rw [tmps_far _ _ (by decide)])))).trans (by decide)), fun w' hS => run_notV (b := true) _ _ hop w' (by (repeat (first | rw [eval_same _ _ (by (try simp only [put_size]); omega)] | rw [eval_far _ _ (by decide)])))⟩) hS6 ?_
  rw [hd, ← LR_snoc]
  clear ho hg hop hd hfr
  obtain ⟨o8, ho, hg, hop, hd⟩ := isOpG_out q8
  have hfr := hall ([0, 1, 2, 3, 4, 5, 6, 7], 8) (by simp)
  refine wpAnyH_take (listed := LR 25 [0, 1, 2, 3, 4, 5, 6, 7]) (v := .bool false) ho hs hfr.1 hfr.2 (hQ _ _) (Or.inl ⟨(wantedN hg), fun w' hS => run_pickF _ _ hop w' (by (repeat (first | rw [eval_same _ _ (by (try simp only [put_size]); omega)] | rw [eval_far _ _ (by decide)]))) (by (repeat (first | rw [eval_same _ _ (by (try simp only [put_size]); omega)] | rw [eval_far _ _ (by decide)])))⟩) hS6 ?_
  rw [hd, ← LR_snoc]
  clear ho hg hop hd hfr
  obtain ⟨o9, ho, hg, hop, hd⟩ := isOpG_out q9
  have hfr := hall ([0, 1, 2, 3, 4, 5, 6, 7, 8], 9) (by simp)
  refine wpAnyH_take (listed := LR 25 [0, 1, 2, 3, 4, 5, 6, 7, 8]) (v := .bool false) ho hs hfr.1 hfr.2 (hQ _ _) (Or.inl ⟨(wantedN hg), fun w' hS => run_move _ _ hop w' (by (repeat (first | rw [eval_same _ _ (by (try simp only [put_size]); omega)] | rw [eval_far _ _ (by decide)])))⟩) hS6 ?_
  rw [hd, ← LR_snoc]
  clear ho hg hop hd hfr
  obtain ⟨o10, ho, hg, hop, hd⟩ := isOpG_out q10
  have hfr := hall ([0, 1, 2, 3, 4, 5, 6, 7, 8, 9], 10) (by simp)
  refine wpAnyH_take (listed := LR 25 [0, 1, 2, 3, 4, 5, 6, 7, 8, 9]) (v := .int .i64 ((j + 1 : Nat) : Int)) ho hs hfr.1 hfr.2 (hQ _ _) (Or.inl ⟨((wantedB hog9 dog9 hg (by (repeat (first | rw [tmps_same _ _ (by (try simp only [put_size]); omega)] | rw [tmps_far _ _ (by decide)])))).trans (by decide)), fun w' hS => run_move _ _ hop w' (by (repeat rw [eval_far _ _ (by decide)]); exact e25)⟩) hS6 ?_
  rw [hd, ← LR_snoc]
  clear ho hg hop hd hfr
  obtain ⟨o11, ho, hg, hop, hd⟩ := isOpG_out q11
  have hfr := hall ([0, 1, 2, 3, 4, 5, 6, 7, 8, 9, 10], 11) (by simp)
  refine wpAnyH_take (listed := LR 25 [0, 1, 2, 3, 4, 5, 6, 7, 8, 9, 10]) (v := .bool true) ho hs hfr.1 hfr.2 (hQ _ _) (Or.inl ⟨((wantedB hog9 dog9 hg (by (repeat (first | rw [tmps_same _ _ (by (try simp only [put_size]); omega)] | rw [tmps_far _ _ (by decide)])))).trans (by decide)), fun w' hS => run_binV _ _ hop w' (by (repeat (first | rw [eval_same _ _ (by (try simp only [put_size]); omega)] | rw [eval_far _ _ (by decide)]))) rfl (by first | rfl | go_simp) (GT w')⟩) hS6 ?_
  rw [hd, ← LR_snoc]
  clear ho hg hop hd hfr
  obtain ⟨o12, ho, hg, hop, hd⟩ := isOpG_out q12
  have hfr := hall ([0, 1, 2, 3, 4, 5, 6, 7, 8, 9, 10, 11], 12) (by simp)
  refine wpAnyH_take (listed := LR 25 [0, 1, 2, 3, 4, 5, 6, 7, 8, 9, 10, 11]) (v := .bool true) ho hs hfr.1 hfr.2 (hQ _ _) (Or.inl ⟨((wantedB hog9 dog9 hg (by (repeat (first | rw [tmps_same _ _ (by (try simp only [put_size]); omega)] | rw [tmps_far _ _ (by decide)])))).trans (by decide)), fun w' hS => run_move _ _ hop w' (by (repeat (first | rw [eval_same _ _ (by (try simp only [put_size]); omega)] | rw [eval_far _ _ (by decide)])))⟩) hS6 ?_
  rw [hd, ← LR_snoc]
  clear ho hg hop hd hfr
  obtain ⟨o13, ho, hg, hop, hd⟩ := isOpG_out q13
  have hfr := hall ([0, 1, 2, 3, 4, 5, 6, 7, 8, 9, 10, 11, 12], 13) (by simp)
  refine wpAnyH_take (listed := LR 25 [0, 1, 2, 3, 4, 5, 6, 7, 8, 9, 10, 11, 12]) (v := .slice (some ⟨g, 0, none⟩) nn cc) ho hs hfr.1 hfr.2 (hQ _ _) (Or.inl ⟨((wantedB hog12 dog12 hg (by (repeat (first | rw [tmps_same _ _ (by (try simp only [put_size]); omega)] | rw [tmps_far _ _ (by decide)])))).trans (by decide)), fun w' hS => run_move _ _ hop w' (by (repeat rw [eval_far _ _ (by decide)]); exact e18)⟩) hS6 ?_
  rw [hd, ← LR_snoc]
  clear ho hg hop hd hfr
  obtain ⟨o14, ho, hg, hop, hd⟩ := isOpG_out q14
  have hfr := hall ([0, 1, 2, 3, 4, 5, 6, 7, 8, 9, 10, 11, 12, 13], 14) (by simp)
  refine wpAnyH_take (listed := LR 25 [0, 1, 2, 3, 4, 5, 6, 7, 8, 9, 10, 11, 12, 13]) (v := .int .i64 ((j + 1 : Nat) : Int)) ho hs hfr.1 hfr.2 (hQ _ _) (Or.inl ⟨((wantedB hog12 dog12 hg (by (repeat (first | rw [tmps_same _ _ (by (try simp only [put_size]); omega)] | rw [tmps_far _ _ (by decide)])))).trans (by decide)), fun w' hS => run_move _ _ hop w' (by (repeat rw [eval_far _ _ (by decide)]); exact e25)⟩) hS6 ?_
  rw [hd, ← LR_snoc]
  clear ho hg hop hd hfr
  obtain ⟨o15, ho, hg, hop, hd⟩ := isOpG_out q15
  have hfr := hall ([0, 1, 2, 3, 4, 5, 6, 7, 8, 9, 10, 11, 12, 13, 14], 15) (by simp)
  refine wpAnyH_take (listed := LR 25 [0, 1, 2, 3, 4, 5, 6, 7, 8, 9, 10, 11, 12, 13, 14]) (v := .int .i64 (j : Int)) ho hs hfr.1 hfr.2 (hQ _ _) (Or.inl ⟨((wantedB hog12 dog12 hg (by (repeat (first | rw [tmps_same _ _ (by (try simp only [put_size]); omega)] | rw [tmps_far _ _ (by decide)])))).trans (by decide)), fun w' hS => run_binV _ _ hop w' (by (repeat (first | rw [eval_same _ _ (by (try simp only [put_size]); omega)] | rw [eval_far _ _ (by decide)]))) rfl (by first | rfl | go_simp) (SB w')⟩) hS6 ?_
  rw [hd, ← LR_snoc]
  clear ho hg hop hd hfr
  obtain ⟨o16, ho, hg, hop, hd⟩ := isOpG_out q16
  have hfr := hall ([0, 1, 2, 3, 4, 5, 6, 7, 8, 9, 10, 11, 12, 13, 14, 15], 16) (by simp)
  refine wpAnyH_take (listed := LR 25 [0, 1, 2, 3, 4, 5, 6, 7, 8, 9, 10, 11, 12, 13, 14, 15]) (v := .pointer (some ⟨g, j, none⟩)) ho hs hfr.1 hfr.2 (hQ _ _) (Or.inl ⟨((wantedB hog12 dog12 hg (by (repeat (first | rw [tmps_same _ _ (by (try simp only [put_size]); omega)] | rw [tmps_far _ _ (by decide)])))).trans (by decide)), fun w' hS => run_ixN _ _ hop w' (by (repeat (first | rw [eval_same _ _ (by (try simp only [put_size]); omega)] | rw [eval_far _ _ (by decide)]))) (by (repeat (first | rw [eval_same _ _ (by (try simp only [put_size]); omega)] | rw [eval_far _ _ (by decide)]))) (by omega)⟩) hS6 ?_
  rw [hd, ← LR_snoc]
  clear ho hg hop hd hfr
  obtain ⟨o17, ho, hg, hop, hd⟩ := isOpG_out q17
  have hfr := hall ([0, 1, 2, 3, 4, 5, 6, 7, 8, 9, 10, 11, 12, 13, 14, 15, 16], 17) (by simp)
  refine wpAnyH_take (listed := LR 25 [0, 1, 2, 3, 4, 5, 6, 7, 8, 9, 10, 11, 12, 13, 14, 15, 16]) (v := .int .i64 a) ho hs hfr.1 hfr.2 (hQ _ _) (Or.inl ⟨((wantedB hog12 dog12 hg (by (repeat (first | rw [tmps_same _ _ (by (try simp only [put_size]); omega)] | rw [tmps_far _ _ (by decide)])))).trans (by decide)), fun w' hS => run_loadX _ _ hop w' (by (repeat (first | rw [eval_same _ _ (by (try simp only [put_size]); omega)] | rw [eval_far _ _ (by decide)]))) (LA _ hS)⟩) hS6 ?_
  rw [hd, ← LR_snoc]
  clear ho hg hop hd hfr
  obtain ⟨o18, ho, hg, hop, hd⟩ := isOpG_out q18
  have hfr := hall ([0, 1, 2, 3, 4, 5, 6, 7, 8, 9, 10, 11, 12, 13, 14, 15, 16, 17], 18) (by simp)
  refine wpAnyH_take (listed := LR 25 [0, 1, 2, 3, 4, 5, 6, 7, 8, 9, 10, 11, 12, 13, 14, 15, 16, 17]) (v := .slice (some ⟨g, 0, none⟩) nn cc) ho hs hfr.1 hfr.2 (hQ _ _) (Or.inl ⟨((wantedB hog12 dog12 hg (by (repeat (first | rw [tmps_same _ _ (by (try simp only [put_size]); omega)] | rw [tmps_far _ _ (by decide)])))).trans (by decide)), fun w' hS => run_move _ _ hop w' (by (repeat rw [eval_far _ _ (by decide)]); exact e18)⟩) hS6 ?_
  rw [hd, ← LR_snoc]
  clear ho hg hop hd hfr
  obtain ⟨o19, ho, hg, hop, hd⟩ := isOpG_out q19
  have hfr := hall ([0, 1, 2, 3, 4, 5, 6, 7, 8, 9, 10, 11, 12, 13, 14, 15, 16, 17, 18], 19) (by simp)
  refine wpAnyH_take (listed := LR 25 [0, 1, 2, 3, 4, 5, 6, 7, 8, 9, 10, 11, 12, 13, 14, 15, 16, 17, 18]) (v := .int .i64 ((j + 1 : Nat) : Int)) ho hs hfr.1 hfr.2 (hQ _ _) (Or.inl ⟨((wantedB hog12 dog12 hg (by (repeat (first | rw [tmps_same _ _ (by (try simp only [put_size]); omega)] | rw [tmps_far _ _ (by decide)])))).trans (by decide)), fun w' hS => run_move _ _ hop w' (by (repeat rw [eval_far _ _ (by decide)]); exact e25)⟩) hS6 ?_
  rw [hd, ← LR_snoc]
  clear ho hg hop hd hfr
  obtain ⟨o20, ho, hg, hop, hd⟩ := isOpG_out q20
  have hfr := hall ([0, 1, 2, 3, 4, 5, 6, 7, 8, 9, 10, 11, 12, 13, 14, 15, 16, 17, 18, 19], 20) (by simp)
  refine wpAnyH_take (listed := LR 25 [0, 1, 2, 3, 4, 5, 6, 7, 8, 9, 10, 11, 12, 13, 14, 15, 16, 17, 18, 19]) (v := .pointer (some ⟨g, j + 1, none⟩)) ho hs hfr.1 hfr.2 (hQ _ _) (Or.inl ⟨((wantedB hog12 dog12 hg (by (repeat (first | rw [tmps_same _ _ (by (try simp only [put_size]); omega)] | rw [tmps_far _ _ (by decide)])))).trans (by decide)), fun w' hS => run_ixN _ _ hop w' (by (repeat (first | rw [eval_same _ _ (by (try simp only [put_size]); omega)] | rw [eval_far _ _ (by decide)]))) (by (repeat (first | rw [eval_same _ _ (by (try simp only [put_size]); omega)] | rw [eval_far _ _ (by decide)]))) hk⟩) hS6 ?_
  rw [hd, ← LR_snoc]
  clear ho hg hop hd hfr
  obtain ⟨o21, ho, hg, hop, hd⟩ := isOpG_out q21
  have hfr := hall ([0, 1, 2, 3, 4, 5, 6, 7, 8, 9, 10, 11, 12, 13, 14, 15, 16, 17, 18, 19, 20], 21) (by simp)
  refine wpAnyH_take (listed := LR 25 [0, 1, 2, 3, 4, 5, 6, 7, 8, 9, 10, 11, 12, 13, 14, 15, 16, 17, 18, 19, 20]) (v := .int .i64 b) ho hs hfr.1 hfr.2 (hQ _ _) (Or.inl ⟨((wantedB hog12 dog12 hg (by (repeat (first | rw [tmps_same _ _ (by (try simp only [put_size]); omega)] | rw [tmps_far _ _ (by decide)])))).trans (by decide)), fun w' hS => run_loadX _ _ hop w' (by (repeat (first | rw [eval_same _ _ (by (try simp only [put_size]); omega)] | rw [eval_far _ _ (by decide)]))) (LB _ hS)⟩) hS6 ?_
  rw [hd, ← LR_snoc]
  clear ho hg hop hd hfr
  obtain ⟨o22, ho, hg, hop, hd⟩ := isOpG_out q22
  have hfr := hall ([0, 1, 2, 3, 4, 5, 6, 7, 8, 9, 10, 11, 12, 13, 14, 15, 16, 17, 18, 19, 20, 21], 22) (by simp)
  refine wpAnyH_take (listed := LR 25 [0, 1, 2, 3, 4, 5, 6, 7, 8, 9, 10, 11, 12, 13, 14, 15, 16, 17, 18, 19, 20, 21]) (v := .bool false) ho hs hfr.1 hfr.2 (hQ _ _) (Or.inl ⟨((wantedB hog12 dog12 hg (by (repeat (first | rw [tmps_same _ _ (by (try simp only [put_size]); omega)] | rw [tmps_far _ _ (by decide)])))).trans (by decide)), fun w' hS => run_binV _ _ hop w' (by (repeat (first | rw [eval_same _ _ (by (try simp only [put_size]); omega)] | rw [eval_far _ _ (by decide)]))) (by (repeat (first | rw [eval_same _ _ (by (try simp only [put_size]); omega)] | rw [eval_far _ _ (by decide)]))) (by first | rfl | go_simp) (GE w')⟩) hS6 ?_
  rw [hd, ← LR_snoc]
  clear ho hg hop hd hfr
  obtain ⟨o23, ho, hg, hop, hd⟩ := isOpG_out q23
  have hfr := hall ([0, 1, 2, 3, 4, 5, 6, 7, 8, 9, 10, 11, 12, 13, 14, 15, 16, 17, 18, 19, 20, 21, 22], 23) (by simp)
  refine wpAnyH_take (listed := LR 25 [0, 1, 2, 3, 4, 5, 6, 7, 8, 9, 10, 11, 12, 13, 14, 15, 16, 17, 18, 19, 20, 21, 22]) (v := .bool false) ho hs hfr.1 hfr.2 (hQ _ _) (Or.inl ⟨((wantedB hog9 dog9 hg (by (repeat (first | rw [tmps_same _ _ (by (try simp only [put_size]); omega)] | rw [tmps_far _ _ (by decide)])))).trans (by decide)), fun w' hS => run_pickT _ _ hop w' (by (repeat (first | rw [eval_same _ _ (by (try simp only [put_size]); omega)] | rw [eval_far _ _ (by decide)]))) (by (repeat (first | rw [eval_same _ _ (by (try simp only [put_size]); omega)] | rw [eval_far _ _ (by decide)])))⟩) hS6 ?_
  rw [hd, ← LR_snoc]
  clear ho hg hop hd hfr
  obtain ⟨o24, ho, hg, hop, hd⟩ := isOpG_out q24
  have hfr := hall ([0, 1, 2, 3, 4, 5, 6, 7, 8, 9, 10, 11, 12, 13, 14, 15, 16, 17, 18, 19, 20, 21, 22, 23], 24) (by simp)
  refine wpAnyH_take (listed := LR 25 [0, 1, 2, 3, 4, 5, 6, 7, 8, 9, 10, 11, 12, 13, 14, 15, 16, 17, 18, 19, 20, 21, 22, 23]) (v := .bool false) ho hs hfr.1 hfr.2 (hQ _ _) (Or.inl ⟨(wantedN hg), fun w' hS => run_pickF _ _ hop w' (by (repeat (first | rw [eval_same _ _ (by (try simp only [put_size]); omega)] | rw [eval_far _ _ (by decide)]))) (by (repeat (first | rw [eval_same _ _ (by (try simp only [put_size]); omega)] | rw [eval_far _ _ (by decide)])))⟩) hS6 ?_
  rw [hd, ← LR_snoc]
  clear ho hg hop hd hfr
  exact wpAnyH_done rend (F _ hS6) _
end Go.Proofs.Ytekjoccbbamehaa
