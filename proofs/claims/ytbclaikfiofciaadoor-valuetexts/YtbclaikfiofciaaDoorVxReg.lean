import Derived.Test.YtbclaikfiofciaaDoorVxFn
import Derived.Test.YtbclaikfiofciaaDoorRgGen
namespace Go.Proofs.YtbclaikfiofciaaDoor
open Go.RowKit Go.Maps
set_option linter.unusedVariables false
set_option linter.unusedSimpArgs false

theorem run_load3 (ev : Operand → Value) (o : Oper) {x : Operand} (hop : o.op = .load 27 x) (w : World) {b : Nat} {c0 c1 : Int} {c2 : ByteArray} (hx : ev x = .pointer (some ⟨b, 0, none⟩)) (h0 : w.cell? ⟨b, 0, none⟩ = some (.int .i8 c0)) (h1 : w.cell? ⟨b, 1, none⟩ = some (.int .i64 c1)) (h2 : w.cell? ⟨b, 2, none⟩ = some (.string c2)) : (execOp ev o).run Tryd.prog w = .ok (.value (.agg #[.int .i8 c0, .int .i64 c1, .string c2])) w := by
  simp only [execOp, hop, hx]
  go_simp
def reg29A_takes : List (List Nat × Nat) := [([], 0), ([0], 1), ([0, 1], 2), ([0, 1, 2], 3), ([0, 1, 2, 3], 4), ([0, 1, 2, 3, 4], 5), ([0, 1, 2, 3, 4, 5, 6], 7), ([0, 1, 2, 3, 4, 5, 6, 7], 8), ([0, 1, 2, 3, 4, 5, 6, 7, 8], 9), ([0, 1, 2, 3, 4, 5, 6, 7, 8, 9], 10), ([0, 1, 2, 3, 4, 5, 6, 7, 8, 9, 10], 11), ([0, 1, 2, 3, 4, 5, 6, 7, 8, 9, 10, 11], 12), ([0, 1, 2, 3, 4, 5, 6, 7, 8, 9, 10, 11, 12], 13), ([0, 1, 2, 3, 4, 5, 6, 7, 8, 9, 10, 11, 12, 13], 14), ([0, 1, 2, 3, 4, 5, 6, 7, 8, 9, 10, 11, 12, 13, 14], 15), ([0, 1, 2, 3, 4, 5, 6, 7, 8, 9, 10, 11, 12, 13, 14, 15], 16), ([0, 1, 2, 3, 4, 5, 6, 7, 8, 9, 10, 11, 12, 13, 14, 15, 16], 17), ([0, 1, 2, 3, 4, 5, 6, 7, 8, 9, 10, 11, 12, 13, 14, 15, 16, 17], 18), ([0, 1, 2, 3, 4, 5, 6, 7, 8, 9, 10, 11, 12, 13, 14, 15, 16, 17, 18], 19), ([0, 1, 2, 3, 4, 5, 6, 7, 8, 9, 10, 11, 12, 13, 14, 15, 16, 17, 18, 19], 20), ([0, 1, 2, 3, 4, 5, 6, 7, 8, 9, 10, 11, 12, 13, 14, 15, 16, 17, 18, 19, 20], 21), ([0, 1, 2, 3, 4, 5, 6, 7, 8, 9, 10, 11, 12, 13, 14, 15, 16, 17, 18, 19, 20, 21], 22), ([0, 1, 2, 3, 4, 5, 6, 7, 8, 9, 10, 11, 12, 13, 14, 15, 16, 17, 18, 19, 20, 21, 22], 23), ([0, 1, 2, 3, 4, 5, 6, 7, 8, 9, 10, 11, 12, 13, 14, 15, 16, 17, 18, 19, 20, 21, 22, 23], 24), ([0, 1, 2, 3, 4, 5, 6, 7, 8, 9, 10, 11, 12, 13, 14, 15, 16, 17, 18, 19, 20, 21, 22, 23, 24], 25), ([0, 1, 2, 3, 4, 5, 6, 7, 8, 9, 10, 11, 12, 13, 14, 15, 16, 17, 18, 19, 20, 21, 22, 23, 24, 25], 26), ([0, 1, 2, 3, 4, 5, 6, 7, 8, 9, 10, 11, 12, 13, 14, 15, 16, 17, 18, 19, 20, 21, 22, 23, 24, 25, 26], 27), ([0, 1, 2, 3, 4, 5, 6, 7, 8, 9, 10, 11, 12, 13, 14, 15, 16, 17, 18, 19, 20, 21, 22, 23, 24, 25, 26, 27], 28), ([0, 1, 2, 3, 4, 5, 6, 7, 8, 9, 10, 11, 12, 13, 14, 15, 16, 17, 18, 19, 20, 21, 22, 23, 24, 25, 26, 27, 28], 29), ([0, 1, 2, 3, 4, 5, 6, 7, 8, 9, 10, 11, 12, 13, 14, 15, 16, 17, 18, 19, 20, 21, 22, 23, 24, 25, 26, 27, 28, 29], 30), ([0, 1, 2, 3, 4, 5, 6, 7, 8, 9, 10, 11, 12, 13, 14, 15, 16, 17, 18, 19, 20, 21, 22, 23, 24, 25, 26, 27, 28, 29, 30], 31), ([0, 1, 2, 3, 4, 5, 6, 7, 8, 9, 10, 11, 12, 13, 14, 15, 16, 17, 18, 19, 20, 21, 22, 23, 24, 25, 26, 27, 28, 29, 30, 31], 32), ([0, 1, 2, 3, 4, 5, 6, 7, 8, 9, 10, 11, 12, 13, 14, 15, 16, 17, 18, 19, 20, 21, 22, 23, 24, 25, 26, 27, 28, 29, 30, 31, 32], 33), ([0, 1, 2, 3, 4, 5, 6, 7, 8, 9, 10, 11, 12, 13, 14, 15, 16, 17, 18, 19, 20, 21, 22, 23, 24, 25, 26, 27, 28, 29, 30, 31, 32, 33], 34), ([0, 1, 2, 3, 4, 5, 6, 7, 8, 9, 10, 11, 12, 13, 14, 15, 16, 17, 18, 19, 20, 21, 22, 23, 24, 25, 26, 27, 28, 29, 30, 31, 32, 33, 34], 35), ([0, 1, 2, 3, 4, 5, 6, 7, 8, 9, 10, 11, 12, 13, 14, 15, 16, 17, 18, 19, 20, 21, 22, 23, 24, 25, 26, 27, 28, 29, 30, 31, 32, 33, 34, 35], 36)]
set_option maxHeartbeats 3200000 in
theorem reg29A {ops : Array Oper} {Q : Exit → Act → World → Prop} {S : World → Prop} {a0 : Act} {w5 : World} {s t st : ByteArray} {k k2 kk m : Int} {bx : Nat} {ty1 : Array TypeId}
    (q0 : isOpG ops 0 none (.move (.tmp 22)) (some 198))
    (q1 : isOpG ops 1 none (.move (.tmp 198)) (some 199))
    (q2 : isOpG ops 2 (some (1, true)) (.load 27 (.tmp 21)) (some 200))
    (q3 : isOpG ops 3 (some (1, true)) (.move (.tmp 0)) (some 201))
    (q4 : isOpG ops 4 (some (1, true)) (.move (.tmp 1)) (some 202))
    (q5 : isOpG ops 5 (some (1, true)) (.binOp .add 9 (.tmp 201) (.tmp 202) 9) (some 203))
    (q6 : isOpG ops 6 (some (1, true)) (.call { callee := .value (.func 10), args := #[.tmp 203], argTypes := ty1 }) (some 204))
    (q7 : isOpG ops 7 (some (1, true)) (.binOp .eql 27 (.tmp 200) (.tmp 204) 27) (some 205))
    (q8 : isOpG ops 8 none (.pick (.tmp 199) (.tmp 205) (.const (.bool false))) (some 206))
    (q9 : isOpG ops 9 none (.move (.tmp 206)) (some 207))
    (q10 : isOpG ops 10 (some (9, true)) (.move (.tmp 24)) (some 208))
    (q11 : isOpG ops 11 none (.pick (.tmp 207) (.tmp 208) (.const (.bool false))) (some 209))
    (q12 : isOpG ops 12 none (.move (.tmp 209)) (some 210))
    (q13 : isOpG ops 13 (some (12, true)) (.move (.tmp 23)) (some 211))
    (q14 : isOpG ops 14 (some (12, true)) (.move (.tmp 9)) (some 212))
    (q15 : isOpG ops 15 (some (12, true)) (.move (.tmp 11)) (some 213))
    (q16 : isOpG ops 16 (some (12, true)) (.binOp .add 2 (.tmp 212) (.tmp 213) 2) (some 214))
    (q17 : isOpG ops 17 (some (12, true)) (.binOp .leq 2 (.tmp 211) (.tmp 214) 2) (some 215))
    (q18 : isOpG ops 18 none (.pick (.tmp 210) (.tmp 215) (.const (.bool false))) (some 216))
    (q19 : isOpG ops 19 none (.move (.tmp 216)) (some 217))
    (q20 : isOpG ops 20 (some (19, true)) (.move (.tmp 23)) (some 218))
    (q21 : isOpG ops 21 (some (19, true)) (.move (.tmp 9)) (some 219))
    (q22 : isOpG ops 22 (some (19, true)) (.move (.tmp 11)) (some 220))
    (q23 : isOpG ops 23 (some (19, true)) (.binOp .add 2 (.tmp 219) (.tmp 220) 2) (some 221))
    (q24 : isOpG ops 24 (some (19, true)) (.binOp .eql 2 (.tmp 218) (.tmp 221) 2) (some 222))
    (q25 : isOpG ops 25 (some (19, true)) (.move (.tmp 222)) (some 223))
    (q26 : isOpG ops 26 (some (25, false)) (.move (.tmp 0)) (some 224))
    (q27 : isOpG ops 27 (some (25, false)) (.call { callee := .value (.func 12), args := #[.tmp 224], argTypes := ty1 }) (some 225))
    (q28 : isOpG ops 28 (some (25, false)) (.unOp .not 4 (.tmp 225)) (some 226))
    (q29 : isOpG ops 29 (some (19, true)) (.pick (.tmp 223) (.const (.bool true)) (.tmp 226)) (some 227))
    (q30 : isOpG ops 30 (some (19, true)) (.move (.tmp 227)) (some 228))
    (q31 : isOpG ops 31 (some (30, false)) (.move (.tmp 1)) (some 229))
    (q32 : isOpG ops 32 (some (30, false)) (.call { callee := .value (.func 12), args := #[.tmp 229], argTypes := ty1 }) (some 230))
    (q33 : isOpG ops 33 (some (30, false)) (.unOp .not 4 (.tmp 230)) (some 231))
    (q34 : isOpG ops 34 (some (19, true)) (.pick (.tmp 228) (.const (.bool true)) (.tmp 231)) (some 232))
    (q35 : isOpG ops 35 none (.pick (.tmp 217) (.tmp 232) (.const (.bool false))) (some 233))
    (q36 : isOpG ops 36 none (.assign (.tmp 233)) (some 4))
    (hs : Region.noSelect ops = true) (hq : (reg29A_takes.all fun p => Region.free .any ops (LR 37 p.1) p.2 && (Region.ready .any ops (LR 37 p.1)).contains p.2) = true)
    (r6 : Region.ready .any ops (LR 37 [0, 1, 2, 3, 4, 5]) = [6])
    (rend : Region.ready .any ops (LR 37 [0, 1, 2, 3, 4, 5, 6, 7, 8, 9, 10, 11, 12, 13, 14, 15, 16, 17, 18, 19, 20, 21, 22, 23, 24, 25, 26, 27, 28, 29, 30, 31, 32, 33, 34, 35, 36]) = [])
    (hQ : ∀ (d : Option Tmp) (v : Value) c a w, Q (.panic c) (a.put d v) w → Q (.panic c) a w)
    (hsz : 233 < a0.tmps.size) (e0 : a0.eval (.tmp 0) = .string s) (e1 : a0.eval (.tmp 1) = .string t) (e9 : a0.eval (.tmp 9) = .int .i64 k) (e11 : a0.eval (.tmp 11) = .int .i64 k2) (e21 : a0.eval (.tmp 21) = .pointer (some ⟨bx, 0, none⟩)) (e22 : a0.eval (.tmp 22) = .bool true) (e23 : a0.eval (.tmp 23) = .int .i64 m) (e24 : a0.eval (.tmp 24) = .bool true)
    (hS0 : S w5.drew)
    (keep : ∀ u u', S u → Below u.heap.size u u' → S u') (lc : ∀ u, S u → u.cell? ⟨bx, 0, none⟩ = some (.int .i8 2) ∧ u.cell? ⟨bx, 1, none⟩ = some (.int .i64 0) ∧ u.cell? ⟨bx, 2, none⟩ = some (.string st))
    (hadd : ∀ u, (binOp .add 9 (.string s) (.string t)).run Tryd.prog u = .ok (.string st) u) (heq : ∀ u, (binOp .eql 27 (.agg #[.int .i8 2, .int .i64 0, .string st]) (.agg #[.int .i8 2, .int .i64 0, .string st])).run Tryd.prog u = .ok (.bool true) u)
    (hsum : ∀ u, (binOp .add 2 (.int .i64 k) (.int .i64 k2)).run Tryd.prog u = .ok (.int .i64 kk) u) (hle : ∀ u, (binOp .leq 2 (.int .i64 m) (.int .i64 kk)).run Tryd.prog u = .ok (.bool true) u) (hmb : ∀ u, (binOp .eql 2 (.int .i64 m) (.int .i64 kk)).run Tryd.prog u = .ok (.bool true) u)
    (K1 : ∀ u, Calls Tryd.prog 10 #[.string st] u fun e w' => e = .returned (.agg #[.int .i8 2, .int .i64 0, .string st]) ∧ Below u.heap.size u w')
    (F : ∀ (wc : World), S wc → Q .normal (((((((((((((((((((((((((((((((((((((a0.put (some 198) (.bool true)).put (some 199) (.bool true)).put (some 200) (.agg #[.int .i8 2, .int .i64 0, .string st])).put (some 201) (.string s)).put (some 202) (.string t)).put (some 203) (.string st)).put (some 204) (.agg #[.int .i8 2, .int .i64 0, .string st])).put (some 205) (.bool true)).put (some 206) (.bool true)).put (some 207) (.bool true)).put (some 208) (.bool true)).put (some 209) (.bool true)).put (some 210) (.bool true)).put (some 211) (.int .i64 m)).put (some 212) (.int .i64 k)).put (some 213) (.int .i64 k2)).put (some 214) (.int .i64 kk)).put (some 215) (.bool true)).put (some 216) (.bool true)).put (some 217) (.bool true)).put (some 218) (.int .i64 m)).put (some 219) (.int .i64 k)).put (some 220) (.int .i64 k2)).put (some 221) (.int .i64 kk)).put (some 222) (.bool true)).put (some 223) (.bool true)).put (some 224) (undef)).put (some 225) (undef)).put (some 226) (undef)).put (some 227) (.bool true)).put (some 228) (.bool true)).put (some 229) (undef)).put (some 230) (undef)).put (some 231) (undef)).put (some 232) (.bool true)).put (some 233) (.bool true)).put (some 4) (.bool true)) wc) :
    wpAnyH Tryd.prog .any ops Q S 37 (LR 37 []) a0 w5.drew := by
  have hall : ∀ p ∈ reg29A_takes, Region.free .any ops (LR 37 p.1) p.2 = true ∧ (Region.ready .any ops (LR 37 p.1)).contains p.2 = true := by
    intro p hp
    have := List.all_eq_true.1 hq p hp
    simpa using this
  unfold reg29A_takes at hall
  obtain ⟨og1, hog1, _, _, dog1⟩ := isOpG_out q1
  obtain ⟨og9, hog9, _, _, dog9⟩ := isOpG_out q9
  obtain ⟨og12, hog12, _, _, dog12⟩ := isOpG_out q12
  obtain ⟨og19, hog19, _, _, dog19⟩ := isOpG_out q19
  obtain ⟨og25, hog25, _, _, dog25⟩ := isOpG_out q25
  obtain ⟨og30, hog30, _, _, dog30⟩ := isOpG_out q30
  obtain ⟨o0, ho, hg, hop, hd⟩ := isOpG_out q0
  have hfr := hall ([], 0) (by simp)
  refine wpAnyH_take (listed := LR 37 []) (v := .bool true) ho hs hfr.1 hfr.2 (hQ _ _) (Or.inl ⟨(wantedN hg), fun w' hS => run_move _ _ hop w' (by (repeat rw [eval_far _ _ (by decide)]); exact e22)⟩) hS0 ?_
  rw [hd, ← LR_snoc]
  clear ho hg hop hd hfr
  obtain ⟨o1, ho, hg, hop, hd⟩ := isOpG_out q1
  have hfr := hall ([0], 1) (by simp)
  refine wpAnyH_take (listed := LR 37 [0]) (v := .bool true) ho hs hfr.1 hfr.2 (hQ _ _) (Or.inl ⟨(wantedN hg), fun w' hS => run_move _ _ hop w' (by (repeat (first | rw [eval_same _ _ (by (try simp only [put_size]); omega)] | rw [eval_far _ _ (by decide)])))⟩) hS0 ?_
  rw [hd, ← LR_snoc]
  clear ho hg hop hd hfr
  obtain ⟨o2, ho, hg, hop, hd⟩ := isOpG_out q2
  have hfr := hall ([0, 1], 2) (by simp)
  refine wpAnyH_take (listed := LR 37 [0, 1]) (v := .agg #[.int .i8 2, .int .i64 0, .string st]) ho hs hfr.1 hfr.2 (hQ _ _) (Or.inl ⟨((wantedB hog1 dog1 hg (by (repeat (first | rw [tmps_same _ _ (by (try simp only [put_size]); omega)] | rw [tmps_far _ _ (by decide)])))).trans (by decide)), fun w' hS => run_load3 _ _ hop w' (by (repeat rw [eval_far _ _ (by decide)]); exact e21) (lc w' hS).1 (lc w' hS).2.1 (lc w' hS).2.2⟩) hS0 ?_
  rw [hd, ← LR_snoc]
  clear ho hg hop hd hfr
  obtain ⟨o3, ho, hg, hop, hd⟩ := isOpG_out q3
  have hfr := hall ([0, 1, 2], 3) (by simp)
  refine wpAnyH_take (listed := LR 37 [0, 1, 2]) (v := .string s) ho hs hfr.1 hfr.2 (hQ _ _) (Or.inl ⟨((wantedB hog1 dog1 hg (by (repeat (first | rw [tmps_same _ _ (by (try simp only [put_size]); omega)] | rw [tmps_far _ _ (by decide)])))).trans (by decide)), fun w' hS => run_move _ _ hop w' (by (repeat rw [eval_far _ _ (by decide)]); exact e0)⟩) hS0 ?_
  rw [hd, ← LR_snoc]
  clear ho hg hop hd hfr
  obtain ⟨o4, ho, hg, hop, hd⟩ := isOpG_out q4
  have hfr := hall ([0, 1, 2, 3], 4) (by simp)
  refine wpAnyH_take (listed := LR 37 [0, 1, 2, 3]) (v := .string t) ho hs hfr.1 hfr.2 (hQ _ _) (Or.inl ⟨((wantedB hog1 dog1 hg (by (repeat (first | rw [tmps_same _ _ (by (try simp only [put_size]); omega)] | rw [tmps_far _ _ (by decide)])))).trans (by decide)), fun w' hS => run_move _ _ hop w' (by (repeat rw [eval_far _ _ (by decide)]); exact e1)⟩) hS0 ?_
  rw [hd, ← LR_snoc]
  clear ho hg hop hd hfr
  obtain ⟨o5, ho, hg, hop, hd⟩ := isOpG_out q5
  have hfr := hall ([0, 1, 2, 3, 4], 5) (by simp)
  refine wpAnyH_take (listed := LR 37 [0, 1, 2, 3, 4]) (v := .string st) ho hs hfr.1 hfr.2 (hQ _ _) (Or.inl ⟨((wantedB hog1 dog1 hg (by (repeat (first | rw [tmps_same _ _ (by (try simp only [put_size]); omega)] | rw [tmps_far _ _ (by decide)])))).trans (by decide)), fun w' hS => run_binV _ _ hop w' (by (repeat (first | rw [eval_same _ _ (by (try simp only [put_size]); omega)] | rw [eval_far _ _ (by decide)]))) (by (repeat (first | rw [eval_same _ _ (by (try simp only [put_size]); omega)] | rw [eval_far _ _ (by decide)]))) (by first | rfl | go_simp) (hadd w')⟩) hS0 ?_
  rw [hd, ← LR_snoc]
  clear ho hg hop hd hfr
  refine wpAnyH_all r6 (by simp) ?_
  intro i hi
  obtain rfl := List.mem_singleton.1 hi
  obtain ⟨o6, ho, hg, hop, hd⟩ := isOpG_out q6
  have x6_0 : (((((((a0.put (some 198) (.bool true)).put (some 199) (.bool true)).put (some 200) (.agg #[.int .i8 2, .int .i64 0, .string st])).put (some 201) (.string s)).put (some 202) (.string t)).put (some 203) (.string st))).eval (.tmp 203) = .string st := (by (repeat (first | rw [eval_same _ _ (by (try simp only [put_size]); omega)] | rw [eval_far _ _ (by decide)])))
  refine wpOp_callG ho ((wantedB hog1 dog1 hg (by (repeat (first | rw [tmps_same _ _ (by (try simp only [put_size]); omega)] | rw [tmps_far _ _ (by decide)])))).trans (by decide)) (run_callV 10 Tryd.func10 (by kernel_rfl) (by kernel_rfl) #[.tmp 203] _ hop #[.string st] (by simp only [List.map_toArray, List.map_cons, List.map_nil, x6_0])) ?_
  refine (K1 _).mono ?_
  rintro e u1 ⟨rfl, b1⟩
  have hS6 := keep _ _ hS0 b1
  refine ⟨_, rfl, hS6, ?_⟩
  rw [hd]
  clear ho hg hop hd
  rw [← LR_snoc]
  obtain ⟨o7, ho, hg, hop, hd⟩ := isOpG_out q7
  have hfr := hall ([0, 1, 2, 3, 4, 5, 6], 7) (by simp)
  refine wpAnyH_take (listed := LR 37 [0, 1, 2, 3, 4, 5, 6]) (v := .bool true) ho hs hfr.1 hfr.2 (hQ _ _) (Or.inl ⟨((wantedB hog1 dog1 hg (by (repeat (first | rw [tmps_same _ _ (by (try simp only [put_size]); omega)] | rw [tmps_far _ _ (by decide)])))).trans (by decide)), fun w' hS => run_binV _ _ hop w' (by (repeat (first | rw [eval_same _ _ (by (try simp only [put_size]); omega)] | rw [eval_far _ _ (by decide)]))) (by (repeat (first | rw [eval_same _ _ (by (try simp only [put_size]); omega)] | rw [eval_far _ _ (by decide)]))) (by first | rfl | go_simp) (heq w')⟩) hS6 ?_
  rw [hd, ← LR_snoc]
  clear ho hg hop hd hfr
  obtain ⟨o8, ho, hg, hop, hd⟩ := isOpG_out q8
  have hfr := hall ([0, 1, 2, 3, 4, 5, 6, 7], 8) (by simp)
  refine wpAnyH_take (listed := LR 37 [0, 1, 2, 3, 4, 5, 6, 7]) (v := .bool true) ho hs hfr.1 hfr.2 (hQ _ _) (Or.inl ⟨(wantedN hg), fun w' hS => run_pickT _ _ hop w' (by (repeat (first | rw [eval_same _ _ (by (try simp only [put_size]); omega)] | rw [eval_far _ _ (by decide)]))) (by (repeat (first | rw [eval_same _ _ (by (try simp only [put_size]); omega)] | rw [eval_far _ _ (by decide)])))⟩) hS6 ?_
  rw [hd, ← LR_snoc]
  clear ho hg hop hd hfr
  obtain ⟨o9, ho, hg, hop, hd⟩ := isOpG_out q9
  have hfr := hall ([0, 1, 2, 3, 4, 5, 6, 7, 8], 9) (by simp)
  refine wpAnyH_take (listed := LR 37 [0, 1, 2, 3, 4, 5, 6, 7, 8]) (v := .bool true) ho hs hfr.1 hfr.2 (hQ _ _) (Or.inl ⟨(wantedN hg), fun w' hS => run_move _ _ hop w' (by (repeat (first | rw [eval_same _ _ (by (try simp only [put_size]); omega)] | rw [eval_far _ _ (by decide)])))⟩) hS6 ?_
  rw [hd, ← LR_snoc]
  clear ho hg hop hd hfr
  obtain ⟨o10, ho, hg, hop, hd⟩ := isOpG_out q10
  have hfr := hall ([0, 1, 2, 3, 4, 5, 6, 7, 8, 9], 10) (by simp)
  refine wpAnyH_take (listed := LR 37 [0, 1, 2, 3, 4, 5, 6, 7, 8, 9]) (v := .bool true) ho hs hfr.1 hfr.2 (hQ _ _) (Or.inl ⟨((wantedB hog9 dog9 hg (by (repeat (first | rw [tmps_same _ _ (by (try simp only [put_size]); omega)] | rw [tmps_far _ _ (by decide)])))).trans (by decide)), fun w' hS => run_move _ _ hop w' (by (repeat rw [eval_far _ _ (by decide)]); exact e24)⟩) hS6 ?_
  rw [hd, ← LR_snoc]
  clear ho hg hop hd hfr
  obtain ⟨o11, ho, hg, hop, hd⟩ := isOpG_out q11
  have hfr := hall ([0, 1, 2, 3, 4, 5, 6, 7, 8, 9, 10], 11) (by simp)
  refine wpAnyH_take (listed := LR 37 [0, 1, 2, 3, 4, 5, 6, 7, 8, 9, 10]) (v := .bool true) ho hs hfr.1 hfr.2 (hQ _ _) (Or.inl ⟨(wantedN hg), fun w' hS => run_pickT _ _ hop w' (by (repeat (first | rw [eval_same _ _ (by (try simp only [put_size]); omega)] | rw [eval_far _ _ (by decide)]))) (by (repeat (first | rw [eval_same _ _ (by (try simp only [put_size]); omega)] | rw [eval_far _ _ (by decide)])))⟩) hS6 ?_
  rw [hd, ← LR_snoc]
  clear ho hg hop hd hfr
  obtain ⟨o12, ho, hg, hop, hd⟩ := isOpG_out q12
  have hfr := hall ([0, 1, 2, 3, 4, 5, 6, 7, 8, 9, 10, 11], 12) (by simp)
  refine wpAnyH_take (listed := LR 37 [0, 1, 2, 3, 4, 5, 6, 7, 8, 9, 10, 11]) (v := .bool true) ho hs hfr.1 hfr.2 (hQ _ _) (Or.inl ⟨(wantedN hg), fun w' hS => run_move _ _ hop w' (by (repeat (first | rw [eval_same _ _ (by (try simp only [put_size]); omega)] | rw [eval_far _ _ (by decide)])))⟩) hS6 ?_
  rw [hd, ← LR_snoc]
  clear ho hg hop hd hfr
  obtain ⟨o13, ho, hg, hop, hd⟩ := isOpG_out q13
  have hfr := hall ([0, 1, 2, 3, 4, 5, 6, 7, 8, 9, 10, 11, 12], 13) (by simp)
  refine wpAnyH_take (listed := LR 37 [0, 1, 2, 3, 4, 5, 6, 7, 8, 9, 10, 11, 12]) (v := .int .i64 m) ho hs hfr.1 hfr.2 (hQ _ _) (Or.inl ⟨((wantedB hog12 dog12 hg (by (repeat (first | rw [tmps_same _ _ (by (try simp only [put_size]); omega)] | rw [tmps_far _ _ (by decide)])))).trans (by decide)), fun w' hS => run_move _ _ hop w' (by (repeat rw [eval_far _ _ (by decide)]); exact e23)⟩) hS6 ?_
  rw [hd, ← LR_snoc]
  clear ho hg hop hd hfr
  obtain ⟨o14, ho, hg, hop, hd⟩ := isOpG_out q14
  have hfr := hall ([0, 1, 2, 3, 4, 5, 6, 7, 8, 9, 10, 11, 12, 13], 14) (by simp)
  refine wpAnyH_take (listed := LR 37 [0, 1, 2, 3, 4, 5, 6, 7, 8, 9, 10, 11, 12, 13]) (v := .int .i64 k) ho hs hfr.1 hfr.2 (hQ _ _) (Or.inl ⟨((wantedB hog12 dog12 hg (by (repeat (first | rw [tmps_same _ _ (by (try simp only [put_size]); omega)] | rw [tmps_far _ _ (by decide)])))).trans (by decide)), fun w' hS => run_move _ _ hop w' (by (repeat rw [eval_far _ _ (by decide)]); exact e9)⟩) hS6 ?_
  rw [hd, ← LR_snoc]
  clear ho hg hop hd hfr
  obtain ⟨o15, ho, hg, hop, hd⟩ := isOpG_out q15
  have hfr := hall ([0, 1, 2, 3, 4, 5, 6, 7, 8, 9, 10, 11, 12, 13, 14], 15) (by simp)
  refine wpAnyH_take (listed := LR 37 [0, 1, 2, 3, 4, 5, 6, 7, 8, 9, 10, 11, 12, 13, 14]) (v := .int .i64 k2) ho hs hfr.1 hfr.2 (hQ _ _) (Or.inl ⟨((wantedB hog12 dog12 hg (by (repeat (first | rw [tmps_same _ _ (by (try simp only [put_size]); omega)] | rw [tmps_far _ _ (by decide)])))).trans (by decide)), fun w' hS => run_move _ _ hop w' (by (repeat rw [eval_far _ _ (by decide)]); exact e11)⟩) hS6 ?_
  rw [hd, ← LR_snoc]
  clear ho hg hop hd hfr
  obtain ⟨o16, ho, hg, hop, hd⟩ := isOpG_out q16
  have hfr := hall ([0, 1, 2, 3, 4, 5, 6, 7, 8, 9, 10, 11, 12, 13, 14, 15], 16) (by simp)
  refine wpAnyH_take (listed := LR 37 [0, 1, 2, 3, 4, 5, 6, 7, 8, 9, 10, 11, 12, 13, 14, 15]) (v := .int .i64 kk) ho hs hfr.1 hfr.2 (hQ _ _) (Or.inl ⟨((wantedB hog12 dog12 hg (by (repeat (first | rw [tmps_same _ _ (by (try simp only [put_size]); omega)] | rw [tmps_far _ _ (by decide)])))).trans (by decide)), fun w' hS => run_binV _ _ hop w' (by (repeat (first | rw [eval_same _ _ (by (try simp only [put_size]); omega)] | rw [eval_far _ _ (by decide)]))) (by (repeat (first | rw [eval_same _ _ (by (try simp only [put_size]); omega)] | rw [eval_far _ _ (by decide)]))) (by first | rfl | go_simp) (hsum w')⟩) hS6 ?_
  rw [hd, ← LR_snoc]
  clear ho hg hop hd hfr
  obtain ⟨o17, ho, hg, hop, hd⟩ := isOpG_out q17
  have hfr := hall ([0, 1, 2, 3, 4, 5, 6, 7, 8, 9, 10, 11, 12, 13, 14, 15, 16], 17) (by simp)
  refine wpAnyH_take (listed := LR 37 [0, 1, 2, 3, 4, 5, 6, 7, 8, 9, 10, 11, 12, 13, 14, 15, 16]) (v := .bool true) ho hs hfr.1 hfr.2 (hQ _ _) (Or.inl ⟨((wantedB hog12 dog12 hg (by (repeat (first | rw [tmps_same _ _ (by (try simp only [put_size]); omega)] | rw [tmps_far _ _ (by decide)])))).trans (by decide)), fun w' hS => run_binV _ _ hop w' (by (repeat (first | rw [eval_same _ _ (by (try simp only [put_size]); omega)] | rw [eval_far _ _ (by decide)]))) (by (repeat (first | rw [eval_same _ _ (by (try simp only [put_size]); omega)] | rw [eval_far _ _ (by decide)]))) (by first | rfl | go_simp) (hle w')⟩) hS6 ?_
  rw [hd, ← LR_snoc]
  clear ho hg hop hd hfr
  obtain ⟨o18, ho, hg, hop, hd⟩ := isOpG_out q18
  have hfr := hall ([0, 1, 2, 3, 4, 5, 6, 7, 8, 9, 10, 11, 12, 13, 14, 15, 16, 17], 18) (by simp)
  refine wpAnyH_take (listed := LR 37 [0, 1, 2, 3, 4, 5, 6, 7, 8, 9, 10, 11, 12, 13, 14, 15, 16, 17]) (v := .bool true) ho hs hfr.1 hfr.2 (hQ _ _) (Or.inl ⟨(wantedN hg), fun w' hS => run_pickT _ _ hop w' (by (repeat (first | rw [eval_same _ _ (by (try simp only [put_size]); omega)] | rw [eval_far _ _ (by decide)]))) (by (repeat (first | rw [eval_same _ _ (by (try simp only [put_size]); omega)] | rw [eval_far _ _ (by decide)])))⟩) hS6 ?_
  rw [hd, ← LR_snoc]
  clear ho hg hop hd hfr
  obtain ⟨o19, ho, hg, hop, hd⟩ := isOpG_out q19
  have hfr := hall ([0, 1, 2, 3, 4, 5, 6, 7, 8, 9, 10, 11, 12, 13, 14, 15, 16, 17, 18], 19) (by simp)
  refine wpAnyH_take (listed := LR 37 [0, 1, 2, 3, 4, 5, 6, 7, 8, 9, 10, 11, 12, 13, 14, 15, 16, 17, 18]) (v := .bool true) ho hs hfr.1 hfr.2 (hQ _ _) (Or.inl ⟨(wantedN hg), fun w' hS => run_move _ _ hop w' (by (repeat (first | rw [eval_same _ _ (by (try simp only [put_size]); omega)] | rw [eval_far _ _ (by decide)])))⟩) hS6 ?_
  rw [hd, ← LR_snoc]
  clear ho hg hop hd hfr
  obtain ⟨o20, ho, hg, hop, hd⟩ := isOpG_out q20
  have hfr := hall ([0, 1, 2, 3, 4, 5, 6, 7, 8, 9, 10, 11, 12, 13, 14, 15, 16, 17, 18, 19], 20) (by simp)
  refine wpAnyH_take (listed := LR 37 [0, 1, 2, 3, 4, 5, 6, 7, 8, 9, 10, 11, 12, 13, 14, 15, 16, 17, 18, 19]) (v := .int .i64 m) ho hs hfr.1 hfr.2 (hQ _ _) (Or.inl ⟨((wantedB hog19 dog19 hg (by (repeat (first | rw [tmps_same _ _ (by (try simp only [put_size]); omega)] | rw [tmps_far _ _ (by decide)])))).trans (by decide)), fun w' hS => run_move _ _ hop w' (by (repeat rw [eval_far _ _ (by decide)]); exact e23)⟩) hS6 ?_
  rw [hd, ← LR_snoc]
  clear ho hg hop hd hfr
  obtain ⟨o21, ho, hg, hop, hd⟩ := isOpG_out q21
  have hfr := hall ([0, 1, 2, 3, 4, 5, 6, 7, 8, 9, 10, 11, 12, 13, 14, 15, 16, 17, 18, 19, 20], 21) (by simp)
  refine wpAnyH_take (listed := LR 37 [0, 1, 2, 3, 4, 5, 6, 7, 8, 9, 10, 11, 12, 13, 14, 15, 16, 17, 18, 19, 20]) (v := .int .i64 k) ho hs hfr.1 hfr.2 (hQ _ _) (Or.inl ⟨((wantedB hog19 dog19 hg (by (repeat (first | rw [tmps_same _ _ (by (try simp only [put_size]); omega)] | rw [tmps_far _ _ (by decide)])))).trans (by decide)), fun w' hS => run_move _ _ hop w' (by (repeat rw [eval_far _ _ (by decide)]); exact e9)⟩) hS6 ?_
  rw [hd, ← LR_snoc]
  clear ho hg hop hd hfr
  obtain ⟨o22, ho, hg, hop, hd⟩ := isOpG_out q22
  have hfr := hall ([0, 1, 2, 3, 4, 5, 6, 7, 8, 9, 10, 11, 12, 13, 14, 15, 16, 17, 18, 19, 20, 21], 22) (by simp)
  refine wpAnyH_take (listed := LR 37 [0, 1, 2, 3, 4, 5, 6, 7, 8, 9, 10, 11, 12, 13, 14, 15, 16, 17, 18, 19, 20, 21]) (v := .int .i64 k2) ho hs hfr.1 hfr.2 (hQ _ _) (Or.inl ⟨((wantedB hog19 dog19 hg (by (repeat (first | rw [tmps_same _ _ (by (try simp only [put_size]); omega)] | rw [tmps_far _ _ (by decide)])))).trans (by decide)), fun w' hS => run_move _ _ hop w' (by (repeat rw [eval_far _ _ (by decide)]); exact e11)⟩) hS6 ?_
  rw [hd, ← LR_snoc]
  clear ho hg hop hd hfr
  obtain ⟨o23, ho, hg, hop, hd⟩ := isOpG_out q23
  have hfr := hall ([0, 1, 2, 3, 4, 5, 6, 7, 8, 9, 10, 11, 12, 13, 14, 15, 16, 17, 18, 19, 20, 21, 22], 23) (by simp)
  refine wpAnyH_take (listed := LR 37 [0, 1, 2, 3, 4, 5, 6, 7, 8, 9, 10, 11, 12, 13, 14, 15, 16, 17, 18, 19, 20, 21, 22]) (v := .int .i64 kk) ho hs hfr.1 hfr.2 (hQ _ _) (Or.inl ⟨((wantedB hog19 dog19 hg (by (repeat (first | rw [tmps_same _ _ (by (try simp only [put_size]); omega)] | rw [tmps_far _ _ (by decide)])))).trans (by decide)), fun w' hS => run_binV _ _ hop w' (by (repeat (first | rw [eval_same _ _ (by (try simp only [put_size]); omega)] | rw [eval_far _ _ (by decide)]))) (by (repeat (first | rw [eval_same _ _ (by (try simp only [put_size]); omega)] | rw [eval_far _ _ (by decide)]))) (by first | rfl | go_simp) (hsum w')⟩) hS6 ?_
  rw [hd, ← LR_snoc]
  clear ho hg hop hd hfr
  obtain ⟨o24, ho, hg, hop, hd⟩ := isOpG_out q24
  have hfr := hall ([0, 1, 2, 3, 4, 5, 6, 7, 8, 9, 10, 11, 12, 13, 14, 15, 16, 17, 18, 19, 20, 21, 22, 23], 24) (by simp)
  refine wpAnyH_take (listed := LR 37 [0, 1, 2, 3, 4, 5, 6, 7, 8, 9, 10, 11, 12, 13, 14, 15, 16, 17, 18, 19, 20, 21, 22, 23]) (v := .bool true) ho hs hfr.1 hfr.2 (hQ _ _) (Or.inl ⟨((wantedB hog19 dog19 hg (by (repeat (first | rw [tmps_same _ _ (by (try simp only [put_size]); omega)] | rw [tmps_far _ _ (by decide)])))).trans (by decide)), fun w' hS => run_binV _ _ hop w' (by (repeat (first | rw [eval_same _ _ (by (try simp only [put_size]); omega)] | rw [eval_far _ _ (by decide)]))) (by (repeat (first | rw [eval_same _ _ (by (try simp only [put_size]); omega)] | rw [eval_far _ _ (by decide)]))) (by first | rfl | go_simp) (hmb w')⟩) hS6 ?_
  rw [hd, ← LR_snoc]
  clear ho hg hop hd hfr
  obtain ⟨o25, ho, hg, hop, hd⟩ := isOpG_out q25
  have hfr := hall ([0, 1, 2, 3, 4, 5, 6, 7, 8, 9, 10, 11, 12, 13, 14, 15, 16, 17, 18, 19, 20, 21, 22, 23, 24], 25) (by simp)
  refine wpAnyH_take (listed := LR 37 [0, 1, 2, 3, 4, 5, 6, 7, 8, 9, 10, 11, 12, 13, 14, 15, 16, 17, 18, 19, 20, 21, 22, 23, 24]) (v := .bool true) ho hs hfr.1 hfr.2 (hQ _ _) (Or.inl ⟨((wantedB hog19 dog19 hg (by (repeat (first | rw [tmps_same _ _ (by (try simp only [put_size]); omega)] | rw [tmps_far _ _ (by decide)])))).trans (by decide)), fun w' hS => run_move _ _ hop w' (by (repeat (first | rw [eval_same _ _ (by (try simp only [put_size]); omega)] | rw [eval_far _ _ (by decide)])))⟩) hS6 ?_
  rw [hd, ← LR_snoc]
  clear ho hg hop hd hfr
  obtain ⟨o26, ho, hg, hop, hd⟩ := isOpG_out q26
  have hfr := hall ([0, 1, 2, 3, 4, 5, 6, 7, 8, 9, 10, 11, 12, 13, 14, 15, 16, 17, 18, 19, 20, 21, 22, 23, 24, 25], 26) (by simp)
  refine wpAnyH_take (listed := LR 37 [0, 1, 2, 3, 4, 5, 6, 7, 8, 9, 10, 11, 12, 13, 14, 15, 16, 17, 18, 19, 20, 21, 22, 23, 24, 25]) (v := undef) ho hs hfr.1 hfr.2 (hQ _ _) (Or.inr ⟨((wantedB hog25 dog25 hg (by (repeat (first | rw [tmps_same _ _ (by (try simp only [put_size]); omega)] | rw [tmps_far _ _ (by decide)])))).trans (by decide)), rfl⟩) hS6 ?_
  rw [hd, ← LR_snoc]
  clear ho hg hop hd hfr
  obtain ⟨o27, ho, hg, hop, hd⟩ := isOpG_out q27
  have hfr := hall ([0, 1, 2, 3, 4, 5, 6, 7, 8, 9, 10, 11, 12, 13, 14, 15, 16, 17, 18, 19, 20, 21, 22, 23, 24, 25, 26], 27) (by simp)
  refine wpAnyH_take (listed := LR 37 [0, 1, 2, 3, 4, 5, 6, 7, 8, 9, 10, 11, 12, 13, 14, 15, 16, 17, 18, 19, 20, 21, 22, 23, 24, 25, 26]) (v := undef) ho hs hfr.1 hfr.2 (hQ _ _) (Or.inr ⟨((wantedB hog25 dog25 hg (by (repeat (first | rw [tmps_same _ _ (by (try simp only [put_size]); omega)] | rw [tmps_far _ _ (by decide)])))).trans (by decide)), rfl⟩) hS6 ?_
  rw [hd, ← LR_snoc]
  clear ho hg hop hd hfr
  obtain ⟨o28, ho, hg, hop, hd⟩ := isOpG_out q28
  have hfr := hall ([0, 1, 2, 3, 4, 5, 6, 7, 8, 9, 10, 11, 12, 13, 14, 15, 16, 17, 18, 19, 20, 21, 22, 23, 24, 25, 26, 27], 28) (by simp)
  refine wpAnyH_take (listed := LR 37 [0, 1, 2, 3, 4, 5, 6, 7, 8, 9, 10, 11, 12, 13, 14, 15, 16, 17, 18, 19, 20, 21, 22, 23, 24, 25, 26, 27]) (v := undef) ho hs hfr.1 hfr.2 (hQ _ _) (Or.inr ⟨((wantedB hog25 dog25 hg (by (repeat (first | rw [tmps_same _ _ (by (try simp only [put_size]); omega)] | rw [tmps_far _ _ (by decide)])))).trans (by decide)), rfl⟩) hS6 ?_
  rw [hd, ← LR_snoc]
  clear ho hg hop hd hfr
  obtain ⟨o29, ho, hg, hop, hd⟩ := isOpG_out q29
  have hfr := hall ([0, 1, 2, 3, 4, 5, 6, 7, 8, 9, 10, 11, 12, 13, 14, 15, 16, 17, 18, 19, 20, 21, 22, 23, 24, 25, 26, 27, 28], 29) (by simp)
  refine wpAnyH_take (listed := LR 37 [0, 1, 2, 3, 4, 5, 6, 7, 8, 9, 10, 11, 12, 13, 14, 15, 16, 17, 18, 19, 20, 21, 22, 23, 24, 25, 26, 27, 28]) (v := .bool true) ho hs hfr.1 hfr.2 (hQ _ _) (Or.inl ⟨((wantedB hog19 dog19 hg (by (repeat (first | rw [tmps_same _ _ (by (try simp only [put_size]); omega)] | rw [tmps_far _ _ (by decide)])))).trans (by decide)), fun w' hS => run_pickT _ _ hop w' (by (repeat (first | rw [eval_same _ _ (by (try simp only [put_size]); omega)] | rw [eval_far _ _ (by decide)]))) rfl⟩) hS6 ?_
  rw [hd, ← LR_snoc]
  clear ho hg hop hd hfr
  obtain ⟨o30, ho, hg, hop, hd⟩ := isOpG_out q30
  have hfr := hall ([0, 1, 2, 3, 4, 5, 6, 7, 8, 9, 10, 11, 12, 13, 14, 15, 16, 17, 18, 19, 20, 21, 22, 23, 24, 25, 26, 27, 28, 29], 30) (by simp)
  refine wpAnyH_take (listed := LR 37 [0, 1, 2, 3, 4, 5, 6, 7, 8, 9, 10, 11, 12, 13, 14, 15, 16, 17, 18, 19, 20, 21, 22, 23, 24, 25, 26, 27, 28, 29]) (v := .bool true) ho hs hfr.1 hfr.2 (hQ _ _) (Or.inl ⟨((wantedB hog19 dog19 hg (by (repeat (first | rw [tmps_same _ _ (by (try simp only [put_size]); omega)] | rw [tmps_far _ _ (by decide)])))).trans (by decide)), fun w' hS => run_move _ _ hop w' (by (repeat (first | rw [eval_same _ _ (by (try simp only [put_size]); omega)] | rw [eval_far _ _ (by decide)])))⟩) hS6 ?_
  rw [hd, ← LR_snoc]
  clear ho hg hop hd hfr
  obtain ⟨o31, ho, hg, hop, hd⟩ := isOpG_out q31
  have hfr := hall ([0, 1, 2, 3, 4, 5, 6, 7, 8, 9, 10, 11, 12, 13, 14, 15, 16, 17, 18, 19, 20, 21, 22, 23, 24, 25, 26, 27, 28, 29, 30], 31) (by simp)
  refine wpAnyH_take (listed := LR 37 [0, 1, 2, 3, 4, 5, 6, 7, 8, 9, 10, 11, 12, 13, 14, 15, 16, 17, 18, 19, 20, 21, 22, 23, 24, 25, 26, 27, 28, 29, 30]) (v := undef) ho hs hfr.1 hfr.2 (hQ _ _) (Or.inr ⟨((wantedB hog30 dog30 hg (by (repeat (first | rw [tmps_same _ _ (by (try simp only [put_size]); omega)] | rw [tmps_far _ _ (by decide)])))).trans (by decide)), rfl⟩) hS6 ?_
  rw [hd, ← LR_snoc]
  clear ho hg hop hd hfr
  obtain ⟨o32, ho, hg, hop, hd⟩ := isOpG_out q32
  have hfr := hall ([0, 1, 2, 3, 4, 5, 6, 7, 8, 9, 10, 11, 12, 13, 14, 15, 16, 17, 18, 19, 20, 21, 22, 23, 24, 25, 26, 27, 28, 29, 30, 31], 32) (by simp)
  refine wpAnyH_take (listed := LR 37 [0, 1, 2, 3, 4, 5, 6, 7, 8, 9, 10, 11, 12, 13, 14, 15, 16, 17, 18, 19, 20, 21, 22, 23, 24, 25, 26, 27, 28, 29, 30, 31]) (v := undef) ho hs hfr.1 hfr.2 (hQ _ _) (Or.inr ⟨((wantedB hog30 dog30 hg (by (repeat (first | rw [tmps_same _ _ (by (try simp only [put_size]); omega)] | rw [tmps_far _ _ (by decide)])))).trans (by decide)), rfl⟩) hS6 ?_
  rw [hd, ← LR_snoc]
  clear ho hg hop hd hfr
  obtain ⟨o33, ho, hg, hop, hd⟩ := isOpG_out q33
  have hfr := hall ([0, 1, 2, 3, 4, 5, 6, 7, 8, 9, 10, 11, 12, 13, 14, 15, 16, 17, 18, 19, 20, 21, 22, 23, 24, 25, 26, 27, 28, 29, 30, 31, 32], 33) (by simp)
  refine wpAnyH_take (listed := LR 37 [0, 1, 2, 3, 4, 5, 6, 7, 8, 9, 10, 11, 12, 13, 14, 15, 16, 17, 18, 19, 20, 21, 22, 23, 24, 25, 26, 27, 28, 29, 30, 31, 32]) (v := undef) ho hs hfr.1 hfr.2 (hQ _ _) (Or.inr ⟨((wantedB hog30 dog30 hg (by (repeat (first | rw [tmps_same _ _ (by (try simp only [put_size]); omega)] | rw [tmps_far _ _ (by decide)])))).trans (by decide)), rfl⟩) hS6 ?_
  rw [hd, ← LR_snoc]
  clear ho hg hop hd hfr
  obtain ⟨o34, ho, hg, hop, hd⟩ := isOpG_out q34
  have hfr := hall ([0, 1, 2, 3, 4, 5, 6, 7, 8, 9, 10, 11, 12, 13, 14, 15, 16, 17, 18, 19, 20, 21, 22, 23, 24, 25, 26, 27, 28, 29, 30, 31, 32, 33], 34) (by simp)
  refine wpAnyH_take (listed := LR 37 [0, 1, 2, 3, 4, 5, 6, 7, 8, 9, 10, 11, 12, 13, 14, 15, 16, 17, 18, 19, 20, 21, 22, 23, 24, 25, 26, 27, 28, 29, 30, 31, 32, 33]) (v := .bool true) ho hs hfr.1 hfr.2 (hQ _ _) (Or.inl ⟨((wantedB hog19 dog19 hg (by (repeat (first | rw [tmps_same _ _ (by (try simp only [put_size]); omega)] | rw [tmps_far _ _ (by decide)])))).trans (by decide)), fun w' hS => run_pickT _ _ hop w' (by (repeat (first | rw [eval_same _ _ (by (try simp only [put_size]); omega)] | rw [eval_far _ _ (by decide)]))) rfl⟩) hS6 ?_
  rw [hd, ← LR_snoc]
  clear ho hg hop hd hfr
  obtain ⟨o35, ho, hg, hop, hd⟩ := isOpG_out q35
  have hfr := hall ([0, 1, 2, 3, 4, 5, 6, 7, 8, 9, 10, 11, 12, 13, 14, 15, 16, 17, 18, 19, 20, 21, 22, 23, 24, 25, 26, 27, 28, 29, 30, 31, 32, 33, 34], 35) (by simp)
  refine wpAnyH_take (listed := LR 37 [0, 1, 2, 3, 4, 5, 6, 7, 8, 9, 10, 11, 12, 13, 14, 15, 16, 17, 18, 19, 20, 21, 22, 23, 24, 25, 26, 27, 28, 29, 30, 31, 32, 33, 34]) (v := .bool true) ho hs hfr.1 hfr.2 (hQ _ _) (Or.inl ⟨(wantedN hg), fun w' hS => run_pickT _ _ hop w' (by (repeat (first | rw [eval_same _ _ (by (try simp only [put_size]); omega)] | rw [eval_far _ _ (by decide)]))) (by (repeat (first | rw [eval_same _ _ (by (try simp only [put_size]); omega)] | rw [eval_far _ _ (by decide)])))⟩) hS6 ?_
  rw [hd, ← LR_snoc]
  clear ho hg hop hd hfr
  obtain ⟨o36, ho, hg, hop, hd⟩ := isOpG_out q36
  have hfr := hall ([0, 1, 2, 3, 4, 5, 6, 7, 8, 9, 10, 11, 12, 13, 14, 15, 16, 17, 18, 19, 20, 21, 22, 23, 24, 25, 26, 27, 28, 29, 30, 31, 32, 33, 34, 35], 36) (by simp)
  refine wpAnyH_take (listed := LR 37 [0, 1, 2, 3, 4, 5, 6, 7, 8, 9, 10, 11, 12, 13, 14, 15, 16, 17, 18, 19, 20, 21, 22, 23, 24, 25, 26, 27, 28, 29, 30, 31, 32, 33, 34, 35]) (v := .bool true) ho hs hfr.1 hfr.2 (hQ _ _) (Or.inl ⟨(wantedN hg), fun w' hS => run_assignV _ _ hop w' (by (repeat (first | rw [eval_same _ _ (by (try simp only [put_size]); omega)] | rw [eval_far _ _ (by decide)])))⟩) hS6 ?_
  rw [hd, ← LR_snoc]
  clear ho hg hop hd hfr
  exact wpAnyH_done rend (F _ hS6) _
def reg29B_takes : List (List Nat × Nat) := [([], 0), ([0], 1), ([0, 1], 2), ([0, 1, 2], 3), ([0, 1, 2, 3], 4), ([0, 1, 2, 3, 4], 5), ([0, 1, 2, 3, 4, 5, 6], 7), ([0, 1, 2, 3, 4, 5, 6, 7], 8), ([0, 1, 2, 3, 4, 5, 6, 7, 8], 9), ([0, 1, 2, 3, 4, 5, 6, 7, 8, 9], 10), ([0, 1, 2, 3, 4, 5, 6, 7, 8, 9, 10], 11), ([0, 1, 2, 3, 4, 5, 6, 7, 8, 9, 10, 11], 12), ([0, 1, 2, 3, 4, 5, 6, 7, 8, 9, 10, 11, 12], 13), ([0, 1, 2, 3, 4, 5, 6, 7, 8, 9, 10, 11, 12, 13], 14), ([0, 1, 2, 3, 4, 5, 6, 7, 8, 9, 10, 11, 12, 13, 14], 15), ([0, 1, 2, 3, 4, 5, 6, 7, 8, 9, 10, 11, 12, 13, 14, 15], 16), ([0, 1, 2, 3, 4, 5, 6, 7, 8, 9, 10, 11, 12, 13, 14, 15, 16], 17), ([0, 1, 2, 3, 4, 5, 6, 7, 8, 9, 10, 11, 12, 13, 14, 15, 16, 17], 18), ([0, 1, 2, 3, 4, 5, 6, 7, 8, 9, 10, 11, 12, 13, 14, 15, 16, 17, 18], 19), ([0, 1, 2, 3, 4, 5, 6, 7, 8, 9, 10, 11, 12, 13, 14, 15, 16, 17, 18, 19], 20), ([0, 1, 2, 3, 4, 5, 6, 7, 8, 9, 10, 11, 12, 13, 14, 15, 16, 17, 18, 19, 20], 21), ([0, 1, 2, 3, 4, 5, 6, 7, 8, 9, 10, 11, 12, 13, 14, 15, 16, 17, 18, 19, 20, 21], 22), ([0, 1, 2, 3, 4, 5, 6, 7, 8, 9, 10, 11, 12, 13, 14, 15, 16, 17, 18, 19, 20, 21, 22], 23), ([0, 1, 2, 3, 4, 5, 6, 7, 8, 9, 10, 11, 12, 13, 14, 15, 16, 17, 18, 19, 20, 21, 22, 23], 24), ([0, 1, 2, 3, 4, 5, 6, 7, 8, 9, 10, 11, 12, 13, 14, 15, 16, 17, 18, 19, 20, 21, 22, 23, 24], 25), ([0, 1, 2, 3, 4, 5, 6, 7, 8, 9, 10, 11, 12, 13, 14, 15, 16, 17, 18, 19, 20, 21, 22, 23, 24, 25], 26), ([0, 1, 2, 3, 4, 5, 6, 7, 8, 9, 10, 11, 12, 13, 14, 15, 16, 17, 18, 19, 20, 21, 22, 23, 24, 25, 26, 27], 28), ([0, 1, 2, 3, 4, 5, 6, 7, 8, 9, 10, 11, 12, 13, 14, 15, 16, 17, 18, 19, 20, 21, 22, 23, 24, 25, 26, 27, 28], 29), ([0, 1, 2, 3, 4, 5, 6, 7, 8, 9, 10, 11, 12, 13, 14, 15, 16, 17, 18, 19, 20, 21, 22, 23, 24, 25, 26, 27, 28, 29], 30), ([0, 1, 2, 3, 4, 5, 6, 7, 8, 9, 10, 11, 12, 13, 14, 15, 16, 17, 18, 19, 20, 21, 22, 23, 24, 25, 26, 27, 28, 29, 30], 31), ([0, 1, 2, 3, 4, 5, 6, 7, 8, 9, 10, 11, 12, 13, 14, 15, 16, 17, 18, 19, 20, 21, 22, 23, 24, 25, 26, 27, 28, 29, 30, 31], 32), ([0, 1, 2, 3, 4, 5, 6, 7, 8, 9, 10, 11, 12, 13, 14, 15, 16, 17, 18, 19, 20, 21, 22, 23, 24, 25, 26, 27, 28, 29, 30, 31, 32], 33), ([0, 1, 2, 3, 4, 5, 6, 7, 8, 9, 10, 11, 12, 13, 14, 15, 16, 17, 18, 19, 20, 21, 22, 23, 24, 25, 26, 27, 28, 29, 30, 31, 32, 33], 34), ([0, 1, 2, 3, 4, 5, 6, 7, 8, 9, 10, 11, 12, 13, 14, 15, 16, 17, 18, 19, 20, 21, 22, 23, 24, 25, 26, 27, 28, 29, 30, 31, 32, 33, 34], 35), ([0, 1, 2, 3, 4, 5, 6, 7, 8, 9, 10, 11, 12, 13, 14, 15, 16, 17, 18, 19, 20, 21, 22, 23, 24, 25, 26, 27, 28, 29, 30, 31, 32, 33, 34, 35], 36)]
set_option maxHeartbeats 3200000 in
theorem reg29B {ops : Array Oper} {Q : Exit → Act → World → Prop} {S : World → Prop} {a0 : Act} {w5 : World} {s t st : ByteArray} {k k2 kk m : Int} {bx : Nat} {ty1 : Array TypeId}
    (q0 : isOpG ops 0 none (.move (.tmp 22)) (some 198))
    (q1 : isOpG ops 1 none (.move (.tmp 198)) (some 199))
    (q2 : isOpG ops 2 (some (1, true)) (.load 27 (.tmp 21)) (some 200))
    (q3 : isOpG ops 3 (some (1, true)) (.move (.tmp 0)) (some 201))
    (q4 : isOpG ops 4 (some (1, true)) (.move (.tmp 1)) (some 202))
    (q5 : isOpG ops 5 (some (1, true)) (.binOp .add 9 (.tmp 201) (.tmp 202) 9) (some 203))
    (q6 : isOpG ops 6 (some (1, true)) (.call { callee := .value (.func 10), args := #[.tmp 203], argTypes := ty1 }) (some 204))
    (q7 : isOpG ops 7 (some (1, true)) (.binOp .eql 27 (.tmp 200) (.tmp 204) 27) (some 205))
    (q8 : isOpG ops 8 none (.pick (.tmp 199) (.tmp 205) (.const (.bool false))) (some 206))
    (q9 : isOpG ops 9 none (.move (.tmp 206)) (some 207))
    (q10 : isOpG ops 10 (some (9, true)) (.move (.tmp 24)) (some 208))
    (q11 : isOpG ops 11 none (.pick (.tmp 207) (.tmp 208) (.const (.bool false))) (some 209))
    (q12 : isOpG ops 12 none (.move (.tmp 209)) (some 210))
    (q13 : isOpG ops 13 (some (12, true)) (.move (.tmp 23)) (some 211))
    (q14 : isOpG ops 14 (some (12, true)) (.move (.tmp 9)) (some 212))
    (q15 : isOpG ops 15 (some (12, true)) (.move (.tmp 11)) (some 213))
    (q16 : isOpG ops 16 (some (12, true)) (.binOp .add 2 (.tmp 212) (.tmp 213) 2) (some 214))
    (q17 : isOpG ops 17 (some (12, true)) (.binOp .leq 2 (.tmp 211) (.tmp 214) 2) (some 215))
    (q18 : isOpG ops 18 none (.pick (.tmp 210) (.tmp 215) (.const (.bool false))) (some 216))
    (q19 : isOpG ops 19 none (.move (.tmp 216)) (some 217))
    (q20 : isOpG ops 20 (some (19, true)) (.move (.tmp 23)) (some 218))
    (q21 : isOpG ops 21 (some (19, true)) (.move (.tmp 9)) (some 219))
    (q22 : isOpG ops 22 (some (19, true)) (.move (.tmp 11)) (some 220))
    (q23 : isOpG ops 23 (some (19, true)) (.binOp .add 2 (.tmp 219) (.tmp 220) 2) (some 221))
    (q24 : isOpG ops 24 (some (19, true)) (.binOp .eql 2 (.tmp 218) (.tmp 221) 2) (some 222))
    (q25 : isOpG ops 25 (some (19, true)) (.move (.tmp 222)) (some 223))
    (q26 : isOpG ops 26 (some (25, false)) (.move (.tmp 0)) (some 224))
    (q27 : isOpG ops 27 (some (25, false)) (.call { callee := .value (.func 12), args := #[.tmp 224], argTypes := ty1 }) (some 225))
    (q28 : isOpG ops 28 (some (25, false)) (.unOp .not 4 (.tmp 225)) (some 226))
    (q29 : isOpG ops 29 (some (19, true)) (.pick (.tmp 223) (.const (.bool true)) (.tmp 226)) (some 227))
    (q30 : isOpG ops 30 (some (19, true)) (.move (.tmp 227)) (some 228))
    (q31 : isOpG ops 31 (some (30, false)) (.move (.tmp 1)) (some 229))
    (q32 : isOpG ops 32 (some (30, false)) (.call { callee := .value (.func 12), args := #[.tmp 229], argTypes := ty1 }) (some 230))
    (q33 : isOpG ops 33 (some (30, false)) (.unOp .not 4 (.tmp 230)) (some 231))
    (q34 : isOpG ops 34 (some (19, true)) (.pick (.tmp 228) (.const (.bool true)) (.tmp 231)) (some 232))
    (q35 : isOpG ops 35 none (.pick (.tmp 217) (.tmp 232) (.const (.bool false))) (some 233))
    (q36 : isOpG ops 36 none (.assign (.tmp 233)) (some 4))
    (hs : Region.noSelect ops = true) (hq : (reg29B_takes.all fun p => Region.free .any ops (LR 37 p.1) p.2 && (Region.ready .any ops (LR 37 p.1)).contains p.2) = true)
    (r6 : Region.ready .any ops (LR 37 [0, 1, 2, 3, 4, 5]) = [6])
    (r27 : Region.ready .any ops (LR 37 [0, 1, 2, 3, 4, 5, 6, 7, 8, 9, 10, 11, 12, 13, 14, 15, 16, 17, 18, 19, 20, 21, 22, 23, 24, 25, 26]) = [27])
    (rend : Region.ready .any ops (LR 37 [0, 1, 2, 3, 4, 5, 6, 7, 8, 9, 10, 11, 12, 13, 14, 15, 16, 17, 18, 19, 20, 21, 22, 23, 24, 25, 26, 27, 28, 29, 30, 31, 32, 33, 34, 35, 36]) = [])
    (hQ : ∀ (d : Option Tmp) (v : Value) c a w, Q (.panic c) (a.put d v) w → Q (.panic c) a w)
    (hsz : 233 < a0.tmps.size) (e0 : a0.eval (.tmp 0) = .string s) (e1 : a0.eval (.tmp 1) = .string t) (e9 : a0.eval (.tmp 9) = .int .i64 k) (e11 : a0.eval (.tmp 11) = .int .i64 k2) (e21 : a0.eval (.tmp 21) = .pointer (some ⟨bx, 0, none⟩)) (e22 : a0.eval (.tmp 22) = .bool true) (e23 : a0.eval (.tmp 23) = .int .i64 m) (e24 : a0.eval (.tmp 24) = .bool true)
    (hS0 : S w5.drew)
    (keep : ∀ u u', S u → Below u.heap.size u u' → S u') (lc : ∀ u, S u → u.cell? ⟨bx, 0, none⟩ = some (.int .i8 2) ∧ u.cell? ⟨bx, 1, none⟩ = some (.int .i64 0) ∧ u.cell? ⟨bx, 2, none⟩ = some (.string st))
    (hadd : ∀ u, (binOp .add 9 (.string s) (.string t)).run Tryd.prog u = .ok (.string st) u) (heq : ∀ u, (binOp .eql 27 (.agg #[.int .i8 2, .int .i64 0, .string st]) (.agg #[.int .i8 2, .int .i64 0, .string st])).run Tryd.prog u = .ok (.bool true) u)
    (hsum : ∀ u, (binOp .add 2 (.int .i64 k) (.int .i64 k2)).run Tryd.prog u = .ok (.int .i64 kk) u) (hle : ∀ u, (binOp .leq 2 (.int .i64 m) (.int .i64 kk)).run Tryd.prog u = .ok (.bool true) u) (hmb : ∀ u, (binOp .eql 2 (.int .i64 m) (.int .i64 kk)).run Tryd.prog u = .ok (.bool false) u)
    (K1 : ∀ u, Calls Tryd.prog 10 #[.string st] u fun e w' => e = .returned (.agg #[.int .i8 2, .int .i64 0, .string st]) ∧ Below u.heap.size u w')
    (KP : ∀ u, Calls Tryd.prog 12 #[.string s] u fun e w' => e = .returned (.bool false) ∧ w' = u)
    (F : ∀ (wc : World), S wc → Q .normal (((((((((((((((((((((((((((((((((((((a0.put (some 198) (.bool true)).put (some 199) (.bool true)).put (some 200) (.agg #[.int .i8 2, .int .i64 0, .string st])).put (some 201) (.string s)).put (some 202) (.string t)).put (some 203) (.string st)).put (some 204) (.agg #[.int .i8 2, .int .i64 0, .string st])).put (some 205) (.bool true)).put (some 206) (.bool true)).put (some 207) (.bool true)).put (some 208) (.bool true)).put (some 209) (.bool true)).put (some 210) (.bool true)).put (some 211) (.int .i64 m)).put (some 212) (.int .i64 k)).put (some 213) (.int .i64 k2)).put (some 214) (.int .i64 kk)).put (some 215) (.bool true)).put (some 216) (.bool true)).put (some 217) (.bool true)).put (some 218) (.int .i64 m)).put (some 219) (.int .i64 k)).put (some 220) (.int .i64 k2)).put (some 221) (.int .i64 kk)).put (some 222) (.bool false)).put (some 223) (.bool false)).put (some 224) (.string s)).put (some 225) (.bool false)).put (some 226) (.bool true)).put (some 227) (.bool true)).put (some 228) (.bool true)).put (some 229) (undef)).put (some 230) (undef)).put (some 231) (undef)).put (some 232) (.bool true)).put (some 233) (.bool true)).put (some 4) (.bool true)) wc) :
    wpAnyH Tryd.prog .any ops Q S 37 (LR 37 []) a0 w5.drew := by
  have hall : ∀ p ∈ reg29B_takes, Region.free .any ops (LR 37 p.1) p.2 = true ∧ (Region.ready .any ops (LR 37 p.1)).contains p.2 = true := by
    intro p hp
    have := List.all_eq_true.1 hq p hp
    simpa using this
  unfold reg29B_takes at hall
  obtain ⟨og1, hog1, _, _, dog1⟩ := isOpG_out q1
  obtain ⟨og9, hog9, _, _, dog9⟩ := isOpG_out q9
  obtain ⟨og12, hog12, _, _, dog12⟩ := isOpG_out q12
  obtain ⟨og19, hog19, _, _, dog19⟩ := isOpG_out q19
  obtain ⟨og25, hog25, _, _, dog25⟩ := isOpG_out q25
  obtain ⟨og30, hog30, _, _, dog30⟩ := isOpG_out q30
  obtain ⟨o0, ho, hg, hop, hd⟩ := isOpG_out q0
  have hfr := hall ([], 0) (by simp)
  refine wpAnyH_take (listed := LR 37 []) (v := .bool true) ho hs hfr.1 hfr.2 (hQ _ _) (Or.inl ⟨(wantedN hg), fun w' hS => run_move _ _ hop w' (by (repeat rw [eval_far _ _ (by decide)]); exact e22)⟩) hS0 ?_
  rw [hd, ← LR_snoc]
  clear ho hg hop hd hfr
  obtain ⟨o1, ho, hg, hop, hd⟩ := isOpG_out q1
  have hfr := hall ([0], 1) (by simp)
  refine wpAnyH_take (listed := LR 37 [0]) (v := .bool true) ho hs hfr.1 hfr.2 (hQ _ _) (Or.inl ⟨(wantedN hg), fun w' hS => run_move _ _ hop w' (by (repeat (first | rw [eval_same _ _ (by (try simp only [put_size]); omega)] | rw [eval_far _ _ (by decide)])))⟩) hS0 ?_
  rw [hd, ← LR_snoc]
  clear ho hg hop hd hfr
  obtain ⟨o2, ho, hg, hop, hd⟩ := isOpG_out q2
  have hfr := hall ([0, 1], 2) (by simp)
  refine wpAnyH_take (listed := LR 37 [0, 1]) (v := .agg #[.int .i8 2, .int .i64 0, .string st]) ho hs hfr.1 hfr.2 (hQ _ _) (Or.inl ⟨((wantedB hog1 dog1 hg (by (repeat (first | rw [tmps_same _ _ (by (try simp only [put_size]); omega)] | rw [tmps_far _ _ (by decide)])))).trans (by decide)), fun w' hS => run_load3 _ _ hop w' (by (repeat rw [eval_far _ _ (by decide)]); exact e21) (lc w' hS).1 (lc w' hS).2.1 (lc w' hS).2.2⟩) hS0 ?_
  rw [hd, ← LR_snoc]
  clear ho hg hop hd hfr
  obtain ⟨o3, ho, hg, hop, hd⟩ := isOpG_out q3
  have hfr := hall ([0, 1, 2], 3) (by simp)
  refine wpAnyH_take (listed := LR 37 [0, 1, 2]) (v := .string s) ho hs hfr.1 hfr.2 (hQ _ _) (Or.inl ⟨((wantedB hog1 dog1 hg (by (repeat (first | rw [tmps_same _ _ (by (try simp only [put_size]); omega)] | rw [tmps_far _ _ (by decide)])))).trans (by decide)), fun w' hS => run_move _ _ hop w' (by (repeat rw [eval_far _ _ (by decide)]); exact e0)⟩) hS0 ?_
  rw [hd, ← LR_snoc]
  clear ho hg hop hd hfr
  obtain ⟨o4, ho, hg, hop, hd⟩ := isOpG_out q4
  have hfr := hall ([0, 1, 2, 3], 4) (by simp)
  refine wpAnyH_take (listed := LR 37 [0, 1, 2, 3]) (v := .string t) ho hs hfr.1 hfr.2 (hQ _ _) (Or.inl ⟨((wantedB hog1 dog1 hg (by (repeat (first | rw [tmps_same _ _ (by (try simp only [put_size]); omega)] | rw [tmps_far _ _ (by decide)])))).trans (by decide)), fun w' hS => run_move _ _ hop w' (by (repeat rw [eval_far _ _ (by decide)]); exact e1)⟩) hS0 ?_
  rw [hd, ← LR_snoc]
  clear ho hg hop hd hfr
  obtain ⟨o5, ho, hg, hop, hd⟩ := isOpG_out q5
  have hfr := hall ([0, 1, 2, 3, 4], 5) (by simp)
  refine wpAnyH_take (listed := LR 37 [0, 1, 2, 3, 4]) (v := .string st) ho hs hfr.1 hfr.2 (hQ _ _) (Or.inl ⟨((wantedB hog1 dog1 hg (by (repeat (first | rw [tmps_same _ _ (by (try simp only [put_size]); omega)] | rw [tmps_far _ _ (by decide)])))).trans (by decide)), fun w' hS => run_binV _ _ hop w' (by (repeat (first | rw [eval_same _ _ (by (try simp only [put_size]); omega)] | rw [eval_far _ _ (by decide)]))) (by (repeat (first | rw [eval_same _ _ (by (try simp only [put_size]); omega)] | rw [eval_far _ _ (by decide)]))) (by first | rfl | go_simp) (hadd w')⟩) hS0 ?_
  rw [hd, ← LR_snoc]
  clear ho hg hop hd hfr
  refine wpAnyH_all r6 (by simp) ?_
  intro i hi
  obtain rfl := List.mem_singleton.1 hi
  obtain ⟨o6, ho, hg, hop, hd⟩ := isOpG_out q6
  have x6_0 : (((((((a0.put (some 198) (.bool true)).put (some 199) (.bool true)).put (some 200) (.agg #[.int .i8 2, .int .i64 0, .string st])).put (some 201) (.string s)).put (some 202) (.string t)).put (some 203) (.string st))).eval (.tmp 203) = .string st := (by (repeat (first | rw [eval_same _ _ (by (try simp only [put_size]); omega)] | rw [eval_far _ _ (by decide)])))
  refine wpOp_callG ho ((wantedB hog1 dog1 hg (by (repeat (first | rw [tmps_same _ _ (by (try simp only [put_size]); omega)] | rw [tmps_far _ _ (by decide)])))).trans (by decide)) (run_callV 10 Tryd.func10 (by kernel_rfl) (by kernel_rfl) #[.tmp 203] _ hop #[.string st] (by simp only [List.map_toArray, List.map_cons, List.map_nil, x6_0])) ?_
  refine (K1 _).mono ?_
  rintro e u1 ⟨rfl, b1⟩
  have hS6 := keep _ _ hS0 b1
  refine ⟨_, rfl, hS6, ?_⟩
  rw [hd]
  clear ho hg hop hd
  rw [← LR_snoc]
  obtain ⟨o7, ho, hg, hop, hd⟩ := isOpG_out q7
  have hfr := hall ([0, 1, 2, 3, 4, 5, 6], 7) (by simp)
  refine wpAnyH_take (listed := LR 37 [0, 1, 2, 3, 4, 5, 6]) (v := .bool true) ho hs hfr.1 hfr.2 (hQ _ _) (Or.inl ⟨((wantedB hog1 dog1 hg (by (repeat (first | rw [tmps_same _ _ (by (try simp only [put_size]); omega)] | rw [tmps_far _ _ (by decide)])))).trans (by decide)), fun w' hS => run_binV _ _ hop w' (by (repeat (first | rw [eval_same _ _ (by (try simp only [put_size]); omega)] | rw [eval_far _ _ (by decide)]))) (by (repeat (first | rw [eval_same _ _ (by (try simp only [put_size]); omega)] | rw [eval_far _ _ (by decide)]))) (by first | rfl | go_simp) (heq w')⟩) hS6 ?_
  rw [hd, ← LR_snoc]
  clear ho hg hop hd hfr
  obtain ⟨o8, ho, hg, hop, hd⟩ := isOpG_out q8
  have hfr := hall ([0, 1, 2, 3, 4, 5, 6, 7], 8) (by simp)
  refine wpAnyH_take (listed := LR 37 [0, 1, 2, 3, 4, 5, 6, 7]) (v := .bool true) ho hs hfr.1 hfr.2 (hQ _ _) (Or.inl ⟨(wantedN hg), fun w' hS => run_pickT _ _ hop w' (by (repeat (first | rw [eval_same _ _ (by (try simp only [put_size]); omega)] | rw [eval_far _ _ (by decide)]))) (by (repeat (first | rw [eval_same _ _ (by (try simp only [put_size]); omega)] | rw [eval_far _ _ (by decide)])))⟩) hS6 ?_
  rw [hd, ← LR_snoc]
  clear ho hg hop hd hfr
  obtain ⟨o9, ho, hg, hop, hd⟩ := isOpG_out q9
  have hfr := hall ([0, 1, 2, 3, 4, 5, 6, 7, 8], 9) (by simp)
  refine wpAnyH_take (listed := LR 37 [0, 1, 2, 3, 4, 5, 6, 7, 8]) (v := .bool true) ho hs hfr.1 hfr.2 (hQ _ _) (Or.inl ⟨(wantedN hg), fun w' hS => run_move _ _ hop w' (by (repeat (first | rw [eval_same _ _ (by (try simp only [put_size]); omega)] | rw [eval_far _ _ (by decide)])))⟩) hS6 ?_
  rw [hd, ← LR_snoc]
  clear ho hg hop hd hfr
  obtain ⟨o10, ho, hg, hop, hd⟩ := isOpG_out q10
  have hfr := hall ([0, 1, 2, 3, 4, 5, 6, 7, 8, 9], 10) (by simp)
  refine wpAnyH_take (listed := LR 37 [0, 1, 2, 3, 4, 5, 6, 7, 8, 9]) (v := .bool true) ho hs hfr.1 hfr.2 (hQ _ _) (Or.inl ⟨((wantedB hog9 dog9 hg (by (repeat (first | rw [tmps_same _ _ (by (try simp only [put_size]); omega)] | rw [tmps_far _ _ (by decide)])))).trans (by decide)), fun w' hS => run_move _ _ hop w' (by (repeat rw [eval_far _ _ (by decide)]); exact e24)⟩) hS6 ?_
  rw [hd, ← LR_snoc]
  clear ho hg hop hd hfr
  obtain ⟨o11, ho, hg, hop, hd⟩ := isOpG_out q11
  have hfr := hall ([0, 1, 2, 3, 4, 5, 6, 7, 8, 9, 10], 11) (by simp)
  refine wpAnyH_take (listed := LR 37 [0, 1, 2, 3, 4, 5, 6, 7, 8, 9, 10]) (v := .bool true) ho hs hfr.1 hfr.2 (hQ _ _) (Or.inl ⟨(wantedN hg), fun w' hS => run_pickT _ _ hop w' (by (repeat (first | rw [eval_same _ _ (by (try simp only [put_size]); omega)] | rw [eval_far _ _ (by decide)]))) (by (repeat (first | rw [eval_same _ _ (by (try simp only [put_size]); omega)] | rw [eval_far _ _ (by decide)])))⟩) hS6 ?_
  rw [hd, ← LR_snoc]
  clear ho hg hop hd hfr
  obtain ⟨o12, ho, hg, hop, hd⟩ := isOpG_out q12
  have hfr := hall ([0, 1, 2, 3, 4, 5, 6, 7, 8, 9, 10, 11], 12) (by simp)
  refine wpAnyH_take (listed := LR 37 [0, 1, 2, 3, 4, 5, 6, 7, 8, 9, 10, 11]) (v := .bool true) ho hs hfr.1 hfr.2 (hQ _ _) (Or.inl ⟨(wantedN hg), fun w' hS => run_move _ _ hop w' (by (repeat (first | rw [eval_same _ _ (by (try simp only [put_size]); omega)] | rw [eval_far _ _ (by decide)])))⟩) hS6 ?_
  rw [hd, ← LR_snoc]
  clear ho hg hop hd hfr
  obtain ⟨o13, ho, hg, hop, hd⟩ := isOpG_out q13
  have hfr := hall ([0, 1, 2, 3, 4, 5, 6, 7, 8, 9, 10, 11, 12], 13) (by simp)
  refine wpAnyH_take (listed := LR 37 [0, 1, 2, 3, 4, 5, 6, 7, 8, 9, 10, 11, 12]) (v := .int .i64 m) ho hs hfr.1 hfr.2 (hQ _ _) (Or.inl ⟨((wantedB hog12 dog12 hg (by (repeat (first | rw [tmps_same _ _ (by (try simp only [put_size]); omega)] | rw [tmps_far _ _ (by decide)])))).trans (by decide)), fun w' hS => run_move _ _ hop w' (by (repeat rw [eval_far _ _ (by decide)]); exact e23)⟩) hS6 ?_
  rw [hd, ← LR_snoc]
  clear ho hg hop hd hfr
  obtain ⟨o14, ho, hg, hop, hd⟩ := isOpG_out q14
  have hfr := hall ([0, 1, 2, 3, 4, 5, 6, 7, 8, 9, 10, 11, 12, 13], 14) (by simp)
  refine wpAnyH_take (listed := LR 37 [0, 1, 2, 3, 4, 5, 6, 7, 8, 9, 10, 11, 12, 13]) (v := .int .i64 k) ho hs hfr.1 hfr.2 (hQ _ _) (Or.inl ⟨((wantedB hog12 dog12 hg (by (repeat (first | rw [tmps_same _ _ (by (try simp only [put_size]); omega)] | rw [tmps_far _ _ (by decide)])))).trans (by decide)), fun w' hS => run_move _ _ hop w' (by (repeat rw [eval_far _ _ (by decide)]); exact e9)⟩) hS6 ?_
  rw [hd, ← LR_snoc]
  clear ho hg hop hd hfr
  obtain ⟨o15, ho, hg, hop, hd⟩ := isOpG_out q15
  have hfr := hall ([0, 1, 2, 3, 4, 5, 6, 7, 8, 9, 10, 11, 12, 13, 14], 15) (by simp)
  refine wpAnyH_take (listed := LR 37 [0, 1, 2, 3, 4, 5, 6, 7, 8, 9, 10, 11, 12, 13, 14]) (v := .int .i64 k2) ho hs hfr.1 hfr.2 (hQ _ _) (Or.inl ⟨((wantedB hog12 dog12 hg (by (repeat (first | rw [tmps_same _ _ (by (try simp only [put_size]); omega)] | rw [tmps_far _ _ (by decide)])))).trans (by decide)), fun w' hS => run_move _ _ hop w' (by (repeat rw [eval_far _ _ (by decide)]); exact e11)⟩) hS6 ?_
  rw [hd, ← LR_snoc]
  clear ho hg hop hd hfr
  obtain ⟨o16, ho, hg, hop, hd⟩ := isOpG_out q16
  have hfr := hall ([0, 1, 2, 3, 4, 5, 6, 7, 8, 9, 10, 11, 12, 13, 14, 15], 16) (by simp)
  refine wpAnyH_take (listed := LR 37 [0, 1, 2, 3, 4, 5, 6, 7, 8, 9, 10, 11, 12, 13, 14, 15]) (v := .int .i64 kk) ho hs hfr.1 hfr.2 (hQ _ _) (Or.inl ⟨((wantedB hog12 dog12 hg (by (repeat (first | rw [tmps_same _ _ (by (try simp only [put_size]); omega)] | rw [tmps_far _ _ (by decide)])))).trans (by decide)), fun w' hS => run_binV _ _ hop w' (by (repeat (first | rw [eval_same _ _ (by (try simp only [put_size]); omega)] | rw [eval_far _ _ (by decide)]))) (by (repeat (first | rw [eval_same _ _ (by (try simp only [put_size]); omega)] | rw [eval_far _ _ (by decide)]))) (by first | rfl | go_simp) (hsum w')⟩) hS6 ?_
  rw [hd, ← LR_snoc]
  clear ho hg hop hd hfr
  obtain ⟨o17, ho, hg, hop, hd⟩ := isOpG_out q17
  have hfr := hall ([0, 1, 2, 3, 4, 5, 6, 7, 8, 9, 10, 11, 12, 13, 14, 15, 16], 17) (by simp)
  refine wpAnyH_take (listed := LR 37 [0, 1, 2, 3, 4, 5, 6, 7, 8, 9, 10, 11, 12, 13, 14, 15, 16]) (v := .bool true) ho hs hfr.1 hfr.2 (hQ _ _) (Or.inl ⟨((wantedB hog12 dog12 hg (by (repeat (first | rw [tmps_same _ _ (by (try simp only [put_size]); omega)] | rw [tmps_far _ _ (by decide)])))).trans (by decide)), fun w' hS => run_binV _ _ hop w' (by (repeat (first | rw [eval_same _ _ (by (try simp only [put_size]); omega)] | rw [eval_far _ _ (by decide)]))) (by (repeat (first | rw [eval_same _ _ (by (try simp only [put_size]); omega)] | rw [eval_far _ _ (by decide)]))) (by first | rfl | go_simp) (hle w')⟩) hS6 ?_
  rw [hd, ← LR_snoc]
  clear ho hg hop hd hfr
  obtain ⟨o18, ho, hg, hop, hd⟩ := isOpG_out q18
  have hfr := hall ([0, 1, 2, 3, 4, 5, 6, 7, 8, 9, 10, 11, 12, 13, 14, 15, 16, 17], 18) (by simp)
  refine wpAnyH_take (listed := LR 37 [0, 1, 2, 3, 4, 5, 6, 7, 8, 9, 10, 11, 12, 13, 14, 15, 16, 17]) (v := .bool true) ho hs hfr.1 hfr.2 (hQ _ _) (Or.inl ⟨(wantedN hg), fun w' hS => run_pickT _ _ hop w' (by (repeat (first | rw [eval_same _ _ (by (try simp only [put_size]); omega)] | rw [eval_far _ _ (by decide)]))) (by (repeat (first | rw [eval_same _ _ (by (try simp only [put_size]); omega)] | rw [eval_far _ _ (by decide)])))⟩) hS6 ?_
  rw [hd, ← LR_snoc]
  clear ho hg hop hd hfr
  obtain ⟨o19, ho, hg, hop, hd⟩ := isOpG_out q19
  have hfr := hall ([0, 1, 2, 3, 4, 5, 6, 7, 8, 9, 10, 11, 12, 13, 14, 15, 16, 17, 18], 19) (by simp)
  refine wpAnyH_take (listed := LR 37 [0, 1, 2, 3, 4, 5, 6, 7, 8, 9, 10, 11, 12, 13, 14, 15, 16, 17, 18]) (v := .bool true) ho hs hfr.1 hfr.2 (hQ _ _) (Or.inl ⟨(wantedN hg), fun w' hS => run_move _ _ hop w' (by (repeat (first | rw [eval_same _ _ (by (try simp only [put_size]); omega)] | rw [eval_far _ _ (by decide)])))⟩) hS6 ?_
  rw [hd, ← LR_snoc]
  clear ho hg hop hd hfr
  obtain ⟨o20, ho, hg, hop, hd⟩ := isOpG_out q20
  have hfr := hall ([0, 1, 2, 3, 4, 5, 6, 7, 8, 9, 10, 11, 12, 13, 14, 15, 16, 17, 18, 19], 20) (by simp)
  refine wpAnyH_take (listed := LR 37 [0, 1, 2, 3, 4, 5, 6, 7, 8, 9, 10, 11, 12, 13, 14, 15, 16, 17, 18, 19]) (v := .int .i64 m) ho hs hfr.1 hfr.2 (hQ _ _) (Or.inl ⟨((wantedB hog19 dog19 hg (by (repeat (first | rw [tmps_same _ _ (by (try simp only [put_size]); omega)] | rw [tmps_far _ _ (by decide)])))).trans (by decide)), fun w' hS => run_move _ _ hop w' (by (repeat rw [eval_far _ _ (by decide)]); exact e23)⟩) hS6 ?_
  rw [hd, ← LR_snoc]
  clear ho hg hop hd hfr
  obtain ⟨o21, ho, hg, hop, hd⟩ := isOpG_out q21
  have hfr := hall ([0, 1, 2, 3, 4, 5, 6, 7, 8, 9, 10, 11, 12, 13, 14, 15, 16, 17, 18, 19, 20], 21) (by simp)
  refine wpAnyH_take (listed := LR 37 [0, 1, 2, 3, 4, 5, 6, 7, 8, 9, 10, 11, 12, 13, 14, 15, 16, 17, 18, 19, 20]) (v := .int .i64 k) ho hs hfr.1 hfr.2 (hQ _ _) (Or.inl ⟨((wantedB hog19 dog19 hg (by (repeat (first | rw [tmps_same _ _ (by (try simp only [put_size]); omega)] | rw [tmps_far _ _ (by decide)])))).trans (by decide)), fun w' hS => run_move _ _ hop w' (by (repeat rw [eval_far _ _ (by decide)]); exact e9)⟩) hS6 ?_
  rw [hd, ← LR_snoc]
  clear ho hg hop hd hfr
  obtain ⟨o22, ho, hg, hop, hd⟩ := isOpG_out q22
  have hfr := hall ([0, 1, 2, 3, 4, 5, 6, 7, 8, 9, 10, 11, 12, 13, 14, 15, 16, 17, 18, 19, 20, 21], 22) (by simp)
  refine wpAnyH_take (listed := LR 37 [0, 1, 2, 3, 4, 5, 6, 7, 8, 9, 10, 11, 12, 13, 14, 15, 16, 17, 18, 19, 20, 21]) (v := .int .i64 k2) ho hs hfr.1 hfr.2 (hQ _ _) (Or.inl ⟨((wantedB hog19 dog19 hg (by (repeat (first | rw [tmps_same _ _ (by (try simp only [put_size]); omega)] | rw [tmps_far _ _ (by decide)])))).trans (by decide)), fun w' hS => run_move _ _ hop w' (by (repeat rw [eval_far _ _ (by decide)]); exact e11)⟩) hS6 ?_
  rw [hd, ← LR_snoc]
  clear ho hg hop hd hfr
  obtain ⟨o23, ho, hg, hop, hd⟩ := isOpG_out q23
  have hfr := hall ([0, 1, 2, 3, 4, 5, 6, 7, 8, 9, 10, 11, 12, 13, 14, 15, 16, 17, 18, 19, 20, 21, 22], 23) (by simp)
  refine wpAnyH_take (listed := LR 37 [0, 1, 2, 3, 4, 5, 6, 7, 8, 9, 10, 11, 12, 13, 14, 15, 16, 17, 18, 19, 20, 21, 22]) (v := .int .i64 kk) ho hs hfr.1 hfr.2 (hQ _ _) (Or.inl ⟨((wantedB hog19 dog19 hg (by (repeat (first | rw [tmps_same _ _ (by (try simp only [put_size]); omega)] | rw [tmps_far _ _ (by decide)])))).trans (by decide)), fun w' hS => run_binV _ _ hop w' (by (repeat (first | rw [eval_same _ _ (by (try simp only [put_size]); omega)] | rw [eval_far _ _ (by decide)]))) (by (repeat (first | rw [eval_same _ _ (by (try simp only [put_size]); omega)] | rw [eval_far _ _ (by decide)]))) (by first | rfl | go_simp) (hsum w')⟩) hS6 ?_
  rw [hd, ← LR_snoc]
  clear ho hg hop hd hfr
  obtain ⟨o24, ho, hg, hop, hd⟩ := isOpG_out q24
  have hfr := hall ([0, 1, 2, 3, 4, 5, 6, 7, 8, 9, 10, 11, 12, 13, 14, 15, 16, 17, 18, 19, 20, 21, 22, 23], 24) (by simp)
  refine wpAnyH_take (listed := LR 37 [0, 1, 2, 3, 4, 5, 6, 7, 8, 9, 10, 11, 12, 13, 14, 15, 16, 17, 18, 19, 20, 21, 22, 23]) (v := .bool false) ho hs hfr.1 hfr.2 (hQ _ _) (Or.inl ⟨((wantedB hog19 dog19 hg (by (repeat (first | rw [tmps_same _ _ (by (try simp only [put_size]); omega)] | rw [tmps_far _ _ (by decide)])))).trans (by decide)), fun w' hS => run_binV _ _ hop w' (by (repeat (first | rw [eval_same _ _ (by (try simp only [put_size]); omega)] | rw [eval_far _ _ (by decide)]))) (by (repeat (first | rw [eval_same _ _ (by (try simp only [put_size]); omega)] | rw [eval_far _ _ (by decide)]))) (by first | rfl | go_simp) (hmb w')⟩) hS6 ?_
  rw [hd, ← LR_snoc]
  clear ho hg hop hd hfr
  obtain ⟨o25, ho, hg, hop, hd⟩ := isOpG_out q25
  have hfr := hall ([0, 1, 2, 3, 4, 5, 6, 7, 8, 9, 10, 11, 12, 13, 14, 15, 16, 17, 18, 19, 20, 21, 22, 23, 24], 25) (by simp)
  refine wpAnyH_take (listed := LR 37 [0, 1, 2, 3, 4, 5, 6, 7, 8, 9, 10, 11, 12, 13, 14, 15, 16, 17, 18, 19, 20, 21, 22, 23, 24]) (v := .bool false) ho hs hfr.1 hfr.2 (hQ _ _) (Or.inl ⟨((wantedB hog19 dog19 hg (by (repeat (first | rw [tmps_same _ _ (by (try simp only [put_size]); omega)] | rw [tmps_far _ _ (by decide)])))).trans (by decide)), fun w' hS => run_move _ _ hop w' (by (repeat (first | rw [eval_same _ _ (by (try simp only [put_size]); omega)] | rw [eval_far _ _ (by decide)])))⟩) hS6 ?_
  rw [hd, ← LR_snoc]
  clear ho hg hop hd hfr
  obtain ⟨o26, ho, hg, hop, hd⟩ := isOpG_out q26
  have hfr := hall ([0, 1, 2, 3, 4, 5, 6, 7, 8, 9, 10, 11, 12, 13, 14, 15, 16, 17, 18, 19, 20, 21, 22, 23, 24, 25], 26) (by simp)
  refine wpAnyH_take (listed := LR 37 [0, 1, 2, 3, 4, 5, 6, 7, 8, 9, 10, 11, 12, 13, 14, 15, 16, 17, 18, 19, 20, 21, 22, 23, 24, 25]) (v := .string s) ho hs hfr.1 hfr.2 (hQ _ _) (Or.inl ⟨((wantedB hog25 dog25 hg (by (repeat (first | rw [tmps_same _ _ (by (try simp only [put_size]); omega)] | rw [tmps_far _ _ (by decide)])))).trans (by decide)), fun w' hS => run_move _ _ hop w' (by (repeat rw [eval_far _ _ (by decide)]); exact e0)⟩) hS6 ?_
  rw [hd, ← LR_snoc]
  clear ho hg hop hd hfr
  refine wpAnyH_all r27 (by simp) ?_
  intro i hi
  obtain rfl := List.mem_singleton.1 hi
  obtain ⟨o27, ho, hg, hop, hd⟩ := isOpG_out q27
  have x27_0 : ((((((((((((((((((((((((((((a0.put (some 198) (.bool true)).put (some 199) (.bool true)).put (some 200) (.agg #[.int .i8 2, .int .i64 0, .string st])).put (some 201) (.string s)).put (some 202) (.string t)).put (some 203) (.string st)).put (some 204) (.agg #[.int .i8 2, .int .i64 0, .string st])).put (some 205) (.bool true)).put (some 206) (.bool true)).put (some 207) (.bool true)).put (some 208) (.bool true)).put (some 209) (.bool true)).put (some 210) (.bool true)).put (some 211) (.int .i64 m)).put (some 212) (.int .i64 k)).put (some 213) (.int .i64 k2)).put (some 214) (.int .i64 kk)).put (some 215) (.bool true)).put (some 216) (.bool true)).put (some 217) (.bool true)).put (some 218) (.int .i64 m)).put (some 219) (.int .i64 k)).put (some 220) (.int .i64 k2)).put (some 221) (.int .i64 kk)).put (some 222) (.bool false)).put (some 223) (.bool false)).put (some 224) (.string s))).eval (.tmp 224) = .string s := (by (repeat (first | rw [eval_same _ _ (by (try simp only [put_size]); omega)] | rw [eval_far _ _ (by decide)])))
  refine wpOp_callG ho ((wantedB hog25 dog25 hg (by (repeat (first | rw [tmps_same _ _ (by (try simp only [put_size]); omega)] | rw [tmps_far _ _ (by decide)])))).trans (by decide)) (run_callV 12 Tryd.func12 (by kernel_rfl) (by kernel_rfl) #[.tmp 224] _ hop #[.string s] (by simp only [List.map_toArray, List.map_cons, List.map_nil, x27_0])) ?_
  refine (KP _).mono ?_
  rintro e u2 ⟨rfl, rfl⟩
  refine ⟨_, rfl, hS6, ?_⟩
  rw [hd]
  clear ho hg hop hd
  rw [← LR_snoc]
  obtain ⟨o28, ho, hg, hop, hd⟩ := isOpG_out q28
  have hfr := hall ([0, 1, 2, 3, 4, 5, 6, 7, 8, 9, 10, 11, 12, 13, 14, 15, 16, 17, 18, 19, 20, 21, 22, 23, 24, 25, 26, 27], 28) (by simp)
  refine wpAnyH_take (listed := LR 37 [0, 1, 2, 3, 4, 5, 6, 7, 8, 9, 10, 11, 12, 13, 14, 15, 16, 17, 18, 19, 20, 21, 22, 23, 24, 25, 26, 27]) (v := .bool true) ho hs hfr.1 hfr.2 (hQ _ _) (Or.inl ⟨((wantedB hog25 dog25 hg (by (repeat (first | rw [tmps_same _ _ (by (try simp only [put_size]); omega)] | rw [tmps_far _ _ (by decide)])))).trans (by decide)), fun w' hS => run_notV (b := false) _ _ hop w' (by (repeat (first | rw [eval_same _ _ (by (try simp only [put_size]); omega)] | rw [eval_far _ _ (by decide)])))⟩) hS6 ?_
  rw [hd, ← LR_snoc]
  clear ho hg hop hd hfr
  obtain ⟨o29, ho, hg, hop, hd⟩ := isOpG_out q29
  have hfr := hall ([0, 1, 2, 3, 4, 5, 6, 7, 8, 9, 10, 11, 12, 13, 14, 15, 16, 17, 18, 19, 20, 21, 22, 23, 24, 25, 26, 27, 28], 29) (by simp)
  refine wpAnyH_take (listed := LR 37 [0, 1, 2, 3, 4, 5, 6, 7, 8, 9, 10, 11, 12, 13, 14, 15, 16, 17, 18, 19, 20, 21, 22, 23, 24, 25, 26, 27, 28]) (v := .bool true) ho hs hfr.1 hfr.2 (hQ _ _) (Or.inl ⟨((wantedB hog19 dog19 hg (by (repeat (first | rw [tmps_same _ _ (by (try simp only [put_size]); omega)] | rw [tmps_far _ _ (by decide)])))).trans (by decide)), fun w' hS => run_pickF _ _ hop w' (by (repeat (first | rw [eval_same _ _ (by (try simp only [put_size]); omega)] | rw [eval_far _ _ (by decide)]))) (by (repeat (first | rw [eval_same _ _ (by (try simp only [put_size]); omega)] | rw [eval_far _ _ (by decide)])))⟩) hS6 ?_
  rw [hd, ← LR_snoc]
  clear ho hg hop hd hfr
  obtain ⟨o30, ho, hg, hop, hd⟩ := isOpG_out q30
  have hfr := hall ([0, 1, 2, 3, 4, 5, 6, 7, 8, 9, 10, 11, 12, 13, 14, 15, 16, 17, 18, 19, 20, 21, 22, 23, 24, 25, 26, 27, 28, 29], 30) (by simp)
  refine wpAnyH_take (listed := LR 37 [0, 1, 2, 3, 4, 5, 6, 7, 8, 9, 10, 11, 12, 13, 14, 15, 16, 17, 18, 19, 20, 21, 22, 23, 24, 25, 26, 27, 28, 29]) (v := .bool true) ho hs hfr.1 hfr.2 (hQ _ _) (Or.inl ⟨((wantedB hog19 dog19 hg (by (repeat (first | rw [tmps_same _ _ (by (try simp only [put_size]); omega)] | rw [tmps_far _ _ (by decide)])))).trans (by decide)), fun w' hS => run_move _ _ hop w' (by (repeat (first | rw [eval_same _ _ (by (try simp only [put_size]); omega)] | rw [eval_far _ _ (by decide)])))⟩) hS6 ?_
  rw [hd, ← LR_snoc]
  clear ho hg hop hd hfr
  obtain ⟨o31, ho, hg, hop, hd⟩ := isOpG_out q31
  have hfr := hall ([0, 1, 2, 3, 4, 5, 6, 7, 8, 9, 10, 11, 12, 13, 14, 15, 16, 17, 18, 19, 20, 21, 22, 23, 24, 25, 26, 27, 28, 29, 30], 31) (by simp)
  refine wpAnyH_take (listed := LR 37 [0, 1, 2, 3, 4, 5, 6, 7, 8, 9, 10, 11, 12, 13, 14, 15, 16, 17, 18, 19, 20, 21, 22, 23, 24, 25, 26, 27, 28, 29, 30]) (v := undef) ho hs hfr.1 hfr.2 (hQ _ _) (Or.inr ⟨((wantedB hog30 dog30 hg (by (repeat (first | rw [tmps_same _ _ (by (try simp only [put_size]); omega)] | rw [tmps_far _ _ (by decide)])))).trans (by decide)), rfl⟩) hS6 ?_
  rw [hd, ← LR_snoc]
  clear ho hg hop hd hfr
  obtain ⟨o32, ho, hg, hop, hd⟩ := isOpG_out q32
  have hfr := hall ([0, 1, 2, 3, 4, 5, 6, 7, 8, 9, 10, 11, 12, 13, 14, 15, 16, 17, 18, 19, 20, 21, 22, 23, 24, 25, 26, 27, 28, 29, 30, 31], 32) (by simp)
  refine wpAnyH_take (listed := LR 37 [0, 1, 2, 3, 4, 5, 6, 7, 8, 9, 10, 11, 12, 13, 14, 15, 16, 17, 18, 19, 20, 21, 22, 23, 24, 25, 26, 27, 28, 29, 30, 31]) (v := undef) ho hs hfr.1 hfr.2 (hQ _ _) (Or.inr ⟨((wantedB hog30 dog30 hg (by (repeat (first | rw [tmps_same _ _ (by (try simp only [put_size]); omega)] | rw [tmps_far _ _ (by decide)])))).trans (by decide)), rfl⟩) hS6 ?_
  rw [hd, ← LR_snoc]
  clear ho hg hop hd hfr
  obtain ⟨o33, ho, hg, hop, hd⟩ := isOpG_out q33
  have hfr := hall ([0, 1, 2, 3, 4, 5, 6, 7, 8, 9, 10, 11, 12, 13, 14, 15, 16, 17, 18, 19, 20, 21, 22, 23, 24, 25, 26, 27, 28, 29, 30, 31, 32], 33) (by simp)
  refine wpAnyH_take (listed := LR 37 [0, 1, 2, 3, 4, 5, 6, 7, 8, 9, 10, 11, 12, 13, 14, 15, 16, 17, 18, 19, 20, 21, 22, 23, 24, 25, 26, 27, 28, 29, 30, 31, 32]) (v := undef) ho hs hfr.1 hfr.2 (hQ _ _) (Or.inr ⟨((wantedB hog30 dog30 hg (by (repeat (first | rw [tmps_same _ _ (by (try simp only [put_size]); omega)] | rw [tmps_far _ _ (by decide)])))).trans (by decide)), rfl⟩) hS6 ?_
  rw [hd, ← LR_snoc]
  clear ho hg hop hd hfr
  obtain ⟨o34, ho, hg, hop, hd⟩ := isOpG_out q34
  have hfr := hall ([0, 1, 2, 3, 4, 5, 6, 7, 8, 9, 10, 11, 12, 13, 14, 15, 16, 17, 18, 19, 20, 21, 22, 23, 24, 25, 26, 27, 28, 29, 30, 31, 32, 33], 34) (by simp)
  refine wpAnyH_take (listed := LR 37 [0, 1, 2, 3, 4, 5, 6, 7, 8, 9, 10, 11, 12, 13, 14, 15, 16, 17, 18, 19, 20, 21, 22, 23, 24, 25, 26, 27, 28, 29, 30, 31, 32, 33]) (v := .bool true) ho hs hfr.1 hfr.2 (hQ _ _) (Or.inl ⟨((wantedB hog19 dog19 hg (by (repeat (first | rw [tmps_same _ _ (by (try simp only [put_size]); omega)] | rw [tmps_far _ _ (by decide)])))).trans (by decide)), fun w' hS => run_pickT _ _ hop w' (by (repeat (first | rw [eval_same _ _ (by (try simp only [put_size]); omega)] | rw [eval_far _ _ (by decide)]))) rfl⟩) hS6 ?_
  rw [hd, ← LR_snoc]
  clear ho hg hop hd hfr
  obtain ⟨o35, ho, hg, hop, hd⟩ := isOpG_out q35
  have hfr := hall ([0, 1, 2, 3, 4, 5, 6, 7, 8, 9, 10, 11, 12, 13, 14, 15, 16, 17, 18, 19, 20, 21, 22, 23, 24, 25, 26, 27, 28, 29, 30, 31, 32, 33, 34], 35) (by simp)
  refine wpAnyH_take (listed := LR 37 [0, 1, 2, 3, 4, 5, 6, 7, 8, 9, 10, 11, 12, 13, 14, 15, 16, 17, 18, 19, 20, 21, 22, 23, 24, 25, 26, 27, 28, 29, 30, 31, 32, 33, 34]) (v := .bool true) ho hs hfr.1 hfr.2 (hQ _ _) (Or.inl ⟨(wantedN hg), fun w' hS => run_pickT _ _ hop w' (by (repeat (first | rw [eval_same _ _ (by (try simp only [put_size]); omega)] | rw [eval_far _ _ (by decide)]))) (by (repeat (first | rw [eval_same _ _ (by (try simp only [put_size]); omega)] | rw [eval_far _ _ (by decide)])))⟩) hS6 ?_
  rw [hd, ← LR_snoc]
  clear ho hg hop hd hfr
  obtain ⟨o36, ho, hg, hop, hd⟩ := isOpG_out q36
  have hfr := hall ([0, 1, 2, 3, 4, 5, 6, 7, 8, 9, 10, 11, 12, 13, 14, 15, 16, 17, 18, 19, 20, 21, 22, 23, 24, 25, 26, 27, 28, 29, 30, 31, 32, 33, 34, 35], 36) (by simp)
  refine wpAnyH_take (listed := LR 37 [0, 1, 2, 3, 4, 5, 6, 7, 8, 9, 10, 11, 12, 13, 14, 15, 16, 17, 18, 19, 20, 21, 22, 23, 24, 25, 26, 27, 28, 29, 30, 31, 32, 33, 34, 35]) (v := .bool true) ho hs hfr.1 hfr.2 (hQ _ _) (Or.inl ⟨(wantedN hg), fun w' hS => run_assignV _ _ hop w' (by (repeat (first | rw [eval_same _ _ (by (try simp only [put_size]); omega)] | rw [eval_far _ _ (by decide)])))⟩) hS6 ?_
  rw [hd, ← LR_snoc]
  clear ho hg hop hd hfr
  exact wpAnyH_done rend (F _ hS6) _
def reg29C_takes : List (List Nat × Nat) := [([], 0), ([0], 1), ([0, 1], 2), ([0, 1, 2], 3), ([0, 1, 2, 3], 4), ([0, 1, 2, 3, 4], 5), ([0, 1, 2, 3, 4, 5, 6], 7), ([0, 1, 2, 3, 4, 5, 6, 7], 8), ([0, 1, 2, 3, 4, 5, 6, 7, 8], 9), ([0, 1, 2, 3, 4, 5, 6, 7, 8, 9], 10), ([0, 1, 2, 3, 4, 5, 6, 7, 8, 9, 10], 11), ([0, 1, 2, 3, 4, 5, 6, 7, 8, 9, 10, 11], 12), ([0, 1, 2, 3, 4, 5, 6, 7, 8, 9, 10, 11, 12], 13), ([0, 1, 2, 3, 4, 5, 6, 7, 8, 9, 10, 11, 12, 13], 14), ([0, 1, 2, 3, 4, 5, 6, 7, 8, 9, 10, 11, 12, 13, 14], 15), ([0, 1, 2, 3, 4, 5, 6, 7, 8, 9, 10, 11, 12, 13, 14, 15], 16), ([0, 1, 2, 3, 4, 5, 6, 7, 8, 9, 10, 11, 12, 13, 14, 15, 16], 17), ([0, 1, 2, 3, 4, 5, 6, 7, 8, 9, 10, 11, 12, 13, 14, 15, 16, 17], 18), ([0, 1, 2, 3, 4, 5, 6, 7, 8, 9, 10, 11, 12, 13, 14, 15, 16, 17, 18], 19), ([0, 1, 2, 3, 4, 5, 6, 7, 8, 9, 10, 11, 12, 13, 14, 15, 16, 17, 18, 19], 20), ([0, 1, 2, 3, 4, 5, 6, 7, 8, 9, 10, 11, 12, 13, 14, 15, 16, 17, 18, 19, 20], 21), ([0, 1, 2, 3, 4, 5, 6, 7, 8, 9, 10, 11, 12, 13, 14, 15, 16, 17, 18, 19, 20, 21], 22), ([0, 1, 2, 3, 4, 5, 6, 7, 8, 9, 10, 11, 12, 13, 14, 15, 16, 17, 18, 19, 20, 21, 22], 23), ([0, 1, 2, 3, 4, 5, 6, 7, 8, 9, 10, 11, 12, 13, 14, 15, 16, 17, 18, 19, 20, 21, 22, 23], 24), ([0, 1, 2, 3, 4, 5, 6, 7, 8, 9, 10, 11, 12, 13, 14, 15, 16, 17, 18, 19, 20, 21, 22, 23, 24], 25), ([0, 1, 2, 3, 4, 5, 6, 7, 8, 9, 10, 11, 12, 13, 14, 15, 16, 17, 18, 19, 20, 21, 22, 23, 24, 25], 26), ([0, 1, 2, 3, 4, 5, 6, 7, 8, 9, 10, 11, 12, 13, 14, 15, 16, 17, 18, 19, 20, 21, 22, 23, 24, 25, 26, 27], 28), ([0, 1, 2, 3, 4, 5, 6, 7, 8, 9, 10, 11, 12, 13, 14, 15, 16, 17, 18, 19, 20, 21, 22, 23, 24, 25, 26, 27, 28], 29), ([0, 1, 2, 3, 4, 5, 6, 7, 8, 9, 10, 11, 12, 13, 14, 15, 16, 17, 18, 19, 20, 21, 22, 23, 24, 25, 26, 27, 28, 29], 30), ([0, 1, 2, 3, 4, 5, 6, 7, 8, 9, 10, 11, 12, 13, 14, 15, 16, 17, 18, 19, 20, 21, 22, 23, 24, 25, 26, 27, 28, 29, 30], 31), ([0, 1, 2, 3, 4, 5, 6, 7, 8, 9, 10, 11, 12, 13, 14, 15, 16, 17, 18, 19, 20, 21, 22, 23, 24, 25, 26, 27, 28, 29, 30, 31, 32], 33), ([0, 1, 2, 3, 4, 5, 6, 7, 8, 9, 10, 11, 12, 13, 14, 15, 16, 17, 18, 19, 20, 21, 22, 23, 24, 25, 26, 27, 28, 29, 30, 31, 32, 33], 34), ([0, 1, 2, 3, 4, 5, 6, 7, 8, 9, 10, 11, 12, 13, 14, 15, 16, 17, 18, 19, 20, 21, 22, 23, 24, 25, 26, 27, 28, 29, 30, 31, 32, 33, 34], 35), ([0, 1, 2, 3, 4, 5, 6, 7, 8, 9, 10, 11, 12, 13, 14, 15, 16, 17, 18, 19, 20, 21, 22, 23, 24, 25, 26, 27, 28, 29, 30, 31, 32, 33, 34, 35], 36)]
set_option maxHeartbeats 3200000 in
theorem reg29C {ops : Array Oper} {Q : Exit → Act → World → Prop} {S : World → Prop} {a0 : Act} {w5 : World} {s t st : ByteArray} {k k2 kk m : Int} {bx : Nat} {ty1 : Array TypeId}
    (q0 : isOpG ops 0 none (.move (.tmp 22)) (some 198))
    (q1 : isOpG ops 1 none (.move (.tmp 198)) (some 199))
    (q2 : isOpG ops 2 (some (1, true)) (.load 27 (.tmp 21)) (some 200))
    (q3 : isOpG ops 3 (some (1, true)) (.move (.tmp 0)) (some 201))
    (q4 : isOpG ops 4 (some (1, true)) (.move (.tmp 1)) (some 202))
    (q5 : isOpG ops 5 (some (1, true)) (.binOp .add 9 (.tmp 201) (.tmp 202) 9) (some 203))
    (q6 : isOpG ops 6 (some (1, true)) (.call { callee := .value (.func 10), args := #[.tmp 203], argTypes := ty1 }) (some 204))
    (q7 : isOpG ops 7 (some (1, true)) (.binOp .eql 27 (.tmp 200) (.tmp 204) 27) (some 205))
    (q8 : isOpG ops 8 none (.pick (.tmp 199) (.tmp 205) (.const (.bool false))) (some 206))
    (q9 : isOpG ops 9 none (.move (.tmp 206)) (some 207))
    (q10 : isOpG ops 10 (some (9, true)) (.move (.tmp 24)) (some 208))
    (q11 : isOpG ops 11 none (.pick (.tmp 207) (.tmp 208) (.const (.bool false))) (some 209))
    (q12 : isOpG ops 12 none (.move (.tmp 209)) (some 210))
    (q13 : isOpG ops 13 (some (12, true)) (.move (.tmp 23)) (some 211))
    (q14 : isOpG ops 14 (some (12, true)) (.move (.tmp 9)) (some 212))
    (q15 : isOpG ops 15 (some (12, true)) (.move (.tmp 11)) (some 213))
    (q16 : isOpG ops 16 (some (12, true)) (.binOp .add 2 (.tmp 212) (.tmp 213) 2) (some 214))
    (q17 : isOpG ops 17 (some (12, true)) (.binOp .leq 2 (.tmp 211) (.tmp 214) 2) (some 215))
    (q18 : isOpG ops 18 none (.pick (.tmp 210) (.tmp 215) (.const (.bool false))) (some 216))
    (q19 : isOpG ops 19 none (.move (.tmp 216)) (some 217))
    (q20 : isOpG ops 20 (some (19, true)) (.move (.tmp 23)) (some 218))
    (q21 : isOpG ops 21 (some (19, true)) (.move (.tmp 9)) (some 219))
    (q22 : isOpG ops 22 (some (19, true)) (.move (.tmp 11)) (some 220))
    (q23 : isOpG ops 23 (some (19, true)) (.binOp .add 2 (.tmp 219) (.tmp 220) 2) (some 221))
    (q24 : isOpG ops 24 (some (19, true)) (.binOp .eql 2 (.tmp 218) (.tmp 221) 2) (some 222))
    (q25 : isOpG ops 25 (some (19, true)) (.move (.tmp 222)) (some 223))
    (q26 : isOpG ops 26 (some (25, false)) (.move (.tmp 0)) (some 224))
    (q27 : isOpG ops 27 (some (25, false)) (.call { callee := .value (.func 12), args := #[.tmp 224], argTypes := ty1 }) (some 225))
    (q28 : isOpG ops 28 (some (25, false)) (.unOp .not 4 (.tmp 225)) (some 226))
    (q29 : isOpG ops 29 (some (19, true)) (.pick (.tmp 223) (.const (.bool true)) (.tmp 226)) (some 227))
    (q30 : isOpG ops 30 (some (19, true)) (.move (.tmp 227)) (some 228))
    (q31 : isOpG ops 31 (some (30, false)) (.move (.tmp 1)) (some 229))
    (q32 : isOpG ops 32 (some (30, false)) (.call { callee := .value (.func 12), args := #[.tmp 229], argTypes := ty1 }) (some 230))
    (q33 : isOpG ops 33 (some (30, false)) (.unOp .not 4 (.tmp 230)) (some 231))
    (q34 : isOpG ops 34 (some (19, true)) (.pick (.tmp 228) (.const (.bool true)) (.tmp 231)) (some 232))
    (q35 : isOpG ops 35 none (.pick (.tmp 217) (.tmp 232) (.const (.bool false))) (some 233))
    (q36 : isOpG ops 36 none (.assign (.tmp 233)) (some 4))
    (hs : Region.noSelect ops = true) (hq : (reg29C_takes.all fun p => Region.free .any ops (LR 37 p.1) p.2 && (Region.ready .any ops (LR 37 p.1)).contains p.2) = true)
    (r6 : Region.ready .any ops (LR 37 [0, 1, 2, 3, 4, 5]) = [6])
    (r27 : Region.ready .any ops (LR 37 [0, 1, 2, 3, 4, 5, 6, 7, 8, 9, 10, 11, 12, 13, 14, 15, 16, 17, 18, 19, 20, 21, 22, 23, 24, 25, 26]) = [27])
    (r32 : Region.ready .any ops (LR 37 [0, 1, 2, 3, 4, 5, 6, 7, 8, 9, 10, 11, 12, 13, 14, 15, 16, 17, 18, 19, 20, 21, 22, 23, 24, 25, 26, 27, 28, 29, 30, 31]) = [32])
    (rend : Region.ready .any ops (LR 37 [0, 1, 2, 3, 4, 5, 6, 7, 8, 9, 10, 11, 12, 13, 14, 15, 16, 17, 18, 19, 20, 21, 22, 23, 24, 25, 26, 27, 28, 29, 30, 31, 32, 33, 34, 35, 36]) = [])
    (hQ : ∀ (d : Option Tmp) (v : Value) c a w, Q (.panic c) (a.put d v) w → Q (.panic c) a w)
    (hsz : 233 < a0.tmps.size) (e0 : a0.eval (.tmp 0) = .string s) (e1 : a0.eval (.tmp 1) = .string t) (e9 : a0.eval (.tmp 9) = .int .i64 k) (e11 : a0.eval (.tmp 11) = .int .i64 k2) (e21 : a0.eval (.tmp 21) = .pointer (some ⟨bx, 0, none⟩)) (e22 : a0.eval (.tmp 22) = .bool true) (e23 : a0.eval (.tmp 23) = .int .i64 m) (e24 : a0.eval (.tmp 24) = .bool true)
    (hS0 : S w5.drew)
    (keep : ∀ u u', S u → Below u.heap.size u u' → S u') (lc : ∀ u, S u → u.cell? ⟨bx, 0, none⟩ = some (.int .i8 2) ∧ u.cell? ⟨bx, 1, none⟩ = some (.int .i64 0) ∧ u.cell? ⟨bx, 2, none⟩ = some (.string st))
    (hadd : ∀ u, (binOp .add 9 (.string s) (.string t)).run Tryd.prog u = .ok (.string st) u) (heq : ∀ u, (binOp .eql 27 (.agg #[.int .i8 2, .int .i64 0, .string st]) (.agg #[.int .i8 2, .int .i64 0, .string st])).run Tryd.prog u = .ok (.bool true) u)
    (hsum : ∀ u, (binOp .add 2 (.int .i64 k) (.int .i64 k2)).run Tryd.prog u = .ok (.int .i64 kk) u) (hle : ∀ u, (binOp .leq 2 (.int .i64 m) (.int .i64 kk)).run Tryd.prog u = .ok (.bool true) u) (hmb : ∀ u, (binOp .eql 2 (.int .i64 m) (.int .i64 kk)).run Tryd.prog u = .ok (.bool false) u)
    (K1 : ∀ u, Calls Tryd.prog 10 #[.string st] u fun e w' => e = .returned (.agg #[.int .i8 2, .int .i64 0, .string st]) ∧ Below u.heap.size u w')
    (KP : ∀ u, Calls Tryd.prog 12 #[.string s] u fun e w' => e = .returned (.bool true) ∧ w' = u)
    (KT : ∀ u, Calls Tryd.prog 12 #[.string t] u fun e w' => e = .returned (.bool false) ∧ w' = u)
    (F : ∀ (wc : World), S wc → Q .normal (((((((((((((((((((((((((((((((((((((a0.put (some 198) (.bool true)).put (some 199) (.bool true)).put (some 200) (.agg #[.int .i8 2, .int .i64 0, .string st])).put (some 201) (.string s)).put (some 202) (.string t)).put (some 203) (.string st)).put (some 204) (.agg #[.int .i8 2, .int .i64 0, .string st])).put (some 205) (.bool true)).put (some 206) (.bool true)).put (some 207) (.bool true)).put (some 208) (.bool true)).put (some 209) (.bool true)).put (some 210) (.bool true)).put (some 211) (.int .i64 m)).put (some 212) (.int .i64 k)).put (some 213) (.int .i64 k2)).put (some 214) (.int .i64 kk)).put (some 215) (.bool true)).put (some 216) (.bool true)).put (some 217) (.bool true)).put (some 218) (.int .i64 m)).put (some 219) (.int .i64 k)).put (some 220) (.int .i64 k2)).put (some 221) (.int .i64 kk)).put (some 222) (.bool false)).put (some 223) (.bool false)).put (some 224) (.string s)).put (some 225) (.bool true)).put (some 226) (.bool false)).put (some 227) (.bool false)).put (some 228) (.bool false)).put (some 229) (.string t)).put (some 230) (.bool false)).put (some 231) (.bool true)).put (some 232) (.bool true)).put (some 233) (.bool true)).put (some 4) (.bool true)) wc) :
    wpAnyH Tryd.prog .any ops Q S 37 (LR 37 []) a0 w5.drew := by
  have hall : ∀ p ∈ reg29C_takes, Region.free .any ops (LR 37 p.1) p.2 = true ∧ (Region.ready .any ops (LR 37 p.1)).contains p.2 = true := by
    intro p hp
    have := List.all_eq_true.1 hq p hp
    simpa using this
  unfold reg29C_takes at hall
  obtain ⟨og1, hog1, _, _, dog1⟩ := isOpG_out q1
  obtain ⟨og9, hog9, _, _, dog9⟩ := isOpG_out q9
  obtain ⟨og12, hog12, _, _, dog12⟩ := isOpG_out q12
  obtain ⟨og19, hog19, _, _, dog19⟩ := isOpG_out q19
  obtain ⟨og25, hog25, _, _, dog25⟩ := isOpG_out q25
  obtain ⟨og30, hog30, _, _, dog30⟩ := isOpG_out q30
  obtain ⟨o0, ho, hg, hop, hd⟩ := isOpG_out q0
  have hfr := hall ([], 0) (by simp)
  refine wpAnyH_take (listed := LR 37 []) (v := .bool true) ho hs hfr.1 hfr.2 (hQ _ _) (Or.inl ⟨(wantedN hg), fun w' hS => run_move _ _ hop w' (by (repeat rw [eval_far _ _ (by decide)]); exact e22)⟩) hS0 ?_
  rw [hd, ← LR_snoc]
  clear ho hg hop hd hfr
  obtain ⟨o1, ho, hg, hop, hd⟩ := isOpG_out q1
  have hfr := hall ([0], 1) (by simp)
  refine wpAnyH_take (listed := LR 37 [0]) (v := .bool true) ho hs hfr.1 hfr.2 (hQ _ _) (Or.inl ⟨(wantedN hg), fun w' hS => run_move _ _ hop w' (by (repeat (first | rw [eval_same _ _ (by (try simp only [put_size]); omega)] | rw [eval_far _ _ (by decide)])))⟩) hS0 ?_
  rw [hd, ← LR_snoc]
  clear ho hg hop hd hfr
  obtain ⟨o2, ho, hg, hop, hd⟩ := isOpG_out q2
  have hfr := hall ([0, 1], 2) (by simp)
  refine wpAnyH_take (listed := LR 37 [0, 1]) (v := .agg #[.int .i8 2, .int .i64 0, .string st]) ho hs hfr.1 hfr.2 (hQ _ _) (Or.inl ⟨((wantedB hog1 dog1 hg (by (repeat (first | rw [tmps_same _ _ (by (try simp only [put_size]); omega)] | rw [tmps_far _ _ (by decide)])))).trans (by decide)), fun w' hS => run_load3 _ _ hop w' (by (repeat rw [eval_far _ _ (by decide)]); exact e21) (lc w' hS).1 (lc w' hS).2.1 (lc w' hS).2.2⟩) hS0 ?_
  rw [hd, ← LR_snoc]
  clear ho hg hop hd hfr
  obtain ⟨o3, ho, hg, hop, hd⟩ := isOpG_out q3
  have hfr := hall ([0, 1, 2], 3) (by simp)
  refine wpAnyH_take (listed := LR 37 [0, 1, 2]) (v := .string s) ho hs hfr.1 hfr.2 (hQ _ _) (Or.inl ⟨((wantedB hog1 dog1 hg (by (repeat (first | rw [tmps_same _ _ (by (try simp only [put_size]); omega)] | rw [tmps_far _ _ (by decide)])))).trans (by decide)), fun w' hS => run_move _ _ hop w' (by (repeat rw [eval_far _ _ (by decide)]); exact e0)⟩) hS0 ?_
  rw [hd, ← LR_snoc]
  clear ho hg hop hd hfr
  obtain ⟨o4, ho, hg, hop, hd⟩ := isOpG_out q4
  have hfr := hall ([0, 1, 2, 3], 4) (by simp)
  refine wpAnyH_take (listed := LR 37 [0, 1, 2, 3]) (v := .string t) ho hs hfr.1 hfr.2 (hQ _ _) (Or.inl ⟨((wantedB hog1 dog1 hg (by (repeat (first | rw [tmps_same _ _ (by (try simp only [put_size]); omega)] | rw [tmps_far _ _ (by decide)])))).trans (by decide)), fun w' hS => run_move _ _ hop w' (by (repeat rw [eval_far _ _ (by decide)]); exact e1)⟩) hS0 ?_
  rw [hd, ← LR_snoc]
  clear ho hg hop hd hfr
  obtain ⟨o5, ho, hg, hop, hd⟩ := isOpG_out q5
  have hfr := hall ([0, 1, 2, 3, 4], 5) (by simp)
  refine wpAnyH_take (listed := LR 37 [0, 1, 2, 3, 4]) (v := .string st) ho hs hfr.1 hfr.2 (hQ _ _) (Or.inl ⟨((wantedB hog1 dog1 hg (by (repeat (first | rw [tmps_same _ _ (by (try simp only [put_size]); omega)] | rw [tmps_far _ _ (by decide)])))).trans (by decide)), fun w' hS => run_binV _ _ hop w' (by (repeat (first | rw [eval_same _ _ (by (try simp only [put_size]); omega)] | rw [eval_far _ _ (by decide)]))) (by (repeat (first | rw [eval_same _ _ (by (try simp only [put_size]); omega)] | rw [eval_far _ _ (by decide)]))) (by first | rfl | go_simp) (hadd w')⟩) hS0 ?_
  rw [hd, ← LR_snoc]
  clear ho hg hop hd hfr
  refine wpAnyH_all r6 (by simp) ?_
  intro i hi
  obtain rfl := List.mem_singleton.1 hi
  obtain ⟨o6, ho, hg, hop, hd⟩ := isOpG_out q6
  have x6_0 : (((((((a0.put (some 198) (.bool true)).put (some 199) (.bool true)).put (some 200) (.agg #[.int .i8 2, .int .i64 0, .string st])).put (some 201) (.string s)).put (some 202) (.string t)).put (some 203) (.string st))).eval (.tmp 203) = .string st := (by (repeat (first | rw [eval_same _ _ (by (try simp only [put_size]); omega)] | rw [eval_far _ _ (by decide)])))
  refine wpOp_callG ho ((wantedB hog1 dog1 hg (by (repeat (first | rw [tmps_same _ _ (by (try simp only [put_size]); omega)] | rw [tmps_far _ _ (by decide)])))).trans (by decide)) (run_callV 10 Tryd.func10 (by kernel_rfl) (by kernel_rfl) #[.tmp 203] _ hop #[.string st] (by simp only [List.map_toArray, List.map_cons, List.map_nil, x6_0])) ?_
  refine (K1 _).mono ?_
  rintro e u1 ⟨rfl, b1⟩
  have hS6 := keep _ _ hS0 b1
  refine ⟨_, rfl, hS6, ?_⟩
  rw [hd]
  clear ho hg hop hd
  rw [← LR_snoc]
  obtain ⟨o7, ho, hg, hop, hd⟩ := isOpG_out q7
  have hfr := hall ([0, 1, 2, 3, 4, 5, 6], 7) (by simp)
  refine wpAnyH_take (listed := LR 37 [0, 1, 2, 3, 4, 5, 6]) (v := .bool true) ho hs hfr.1 hfr.2 (hQ _ _) (Or.inl ⟨((wantedB hog1 dog1 hg (by (repeat (first | rw [tmps_same _ _ (by (try simp only [put_size]); omega)] | rw [tmps_far _ _ (by decide)])))).trans (by decide)), fun w' hS => run_binV _ _ hop w' (by (repeat (first | rw [eval_same _ _ (by (try simp only [put_size]); omega)] | rw [eval_far _ _ (by decide)]))) (by (repeat (first | rw [eval_same _ _ (by (try simp only [put_size]); omega)] | rw [eval_far _ _ (by decide)]))) (by first | rfl | go_simp) (heq w')⟩) hS6 ?_
  rw [hd, ← LR_snoc]
  clear ho hg hop hd hfr
  obtain ⟨o8, ho, hg, hop, hd⟩ := isOpG_out q8
  have hfr := hall ([0, 1, 2, 3, 4, 5, 6, 7], 8) (by simp)
  refine wpAnyH_take (listed := LR 37 [0, 1, 2, 3, 4, 5, 6, 7]) (v := .bool true) ho hs hfr.1 hfr.2 (hQ _ _) (Or.inl ⟨(wantedN hg), fun w' hS => run_pickT _ _ hop w' (by (repeat (first | rw [eval_same _ _ (by (try simp only [put_size]); omega)] | rw [eval_far _ _ (by decide)]))) (by (repeat (first | rw [eval_same _ _ (by (try simp only [put_size]); omega)] | rw [eval_far _ _ (by decide)])))⟩) hS6 ?_
  rw [hd, ← LR_snoc]
  clear ho hg hop hd hfr
  obtain ⟨o9, ho, hg, hop, hd⟩ := isOpG_out q9
  have hfr := hall ([0, 1, 2, 3, 4, 5, 6, 7, 8], 9) (by simp)
  refine wpAnyH_take (listed := LR 37 [0, 1, 2, 3, 4, 5, 6, 7, 8]) (v := .bool true) ho hs hfr.1 hfr.2 (hQ _ _) (Or.inl ⟨(wantedN hg), fun w' hS => run_move _ _ hop w' (by (repeat (first | rw [eval_same _ _ (by (try simp only [put_size]); omega)] | rw [eval_far _ _ (by decide)])))⟩) hS6 ?_
  rw [hd, ← LR_snoc]
  clear ho hg hop hd hfr
  obtain ⟨o10, ho, hg, hop, hd⟩ := isOpG_out q10
  have hfr := hall ([0, 1, 2, 3, 4, 5, 6, 7, 8, 9], 10) (by simp)
  refine wpAnyH_take (listed := LR 37 [0, 1, 2, 3, 4, 5, 6, 7, 8, 9]) (v := .bool true) ho hs hfr.1 hfr.2 (hQ _ _) (Or.inl ⟨((wantedB hog9 dog9 hg (by (repeat (first | rw [tmps_same _ _ (by (try simp only [put_size]); omega)] | rw [tmps_far _ _ (by decide)])))).trans (by decide)), fun w' hS => run_move _ _ hop w' (by (repeat rw [eval_far _ _ (by decide)]); exact e24)⟩) hS6 ?_
  rw [hd, ← LR_snoc]
  clear ho hg hop hd hfr
  obtain ⟨o11, ho, hg, hop, hd⟩ := isOpG_out q11
  have hfr := hall ([0, 1, 2, 3, 4, 5, 6, 7, 8, 9, 10], 11) (by simp)
  refine wpAnyH_take (listed := LR 37 [0, 1, 2, 3, 4, 5, 6, 7, 8, 9, 10]) (v := .bool true) ho hs hfr.1 hfr.2 (hQ _ _) (Or.inl ⟨(wantedN hg), fun w' hS => run_pickT _ _ hop w' (by (repeat (first | rw [eval_same _ _ (by (try simp only [put_size]); omega)] | rw [eval_far _ _ (by decide)]))) (by (repeat (first | rw [eval_same _ _ (by (try simp only [put_size]); omega)] | rw [eval_far _ _ (by decide)])))⟩) hS6 ?_
  rw [hd, ← LR_snoc]
  clear ho hg hop hd hfr
  obtain ⟨o12, ho, hg, hop, hd⟩ := isOpG_out q12
  have hfr := hall ([0, 1, 2, 3, 4, 5, 6, 7, 8, 9, 10, 11], 12) (by simp)
  refine wpAnyH_take (listed := LR 37 [0, 1, 2, 3, 4, 5, 6, 7, 8, 9, 10, 11]) (v := .bool true) ho hs hfr.1 hfr.2 (hQ _ _) (Or.inl ⟨(wantedN hg), fun w' hS => run_move _ _ hop w' (by (repeat (first | rw [eval_same _ _ (by (try simp only [put_size]); omega)] | rw [eval_far _ _ (by decide)])))⟩) hS6 ?_
  rw [hd, ← LR_snoc]
  clear ho hg hop hd hfr
  obtain ⟨o13, ho, hg, hop, hd⟩ := isOpG_out q13
  have hfr := hall ([0, 1, 2, 3, 4, 5, 6, 7, 8, 9, 10, 11, 12], 13) (by simp)
  refine wpAnyH_take (listed := LR 37 [0, 1, 2, 3, 4, 5, 6, 7, 8, 9, 10, 11, 12]) (v := .int .i64 m) ho hs hfr.1 hfr.2 (hQ _ _) (Or.inl ⟨((wantedB hog12 dog12 hg (by (repeat (first | rw [tmps_same _ _ (by (try simp only [put_size]); omega)] | rw [tmps_far _ _ (by decide)])))).trans (by decide)), fun w' hS => run_move _ _ hop w' (by (repeat rw [eval_far _ _ (by decide)]); exact e23)⟩) hS6 ?_
  rw [hd, ← LR_snoc]
  clear ho hg hop hd hfr
  obtain ⟨o14, ho, hg, hop, hd⟩ := isOpG_out q14
  have hfr := hall ([0, 1, 2, 3, 4, 5, 6, 7, 8, 9, 10, 11, 12, 13], 14) (by simp)
  refine wpAnyH_take (listed := LR 37 [0, 1, 2, 3, 4, 5, 6, 7, 8, 9, 10, 11, 12, 13]) (v := .int .i64 k) ho hs hfr.1 hfr.2 (hQ _ _) (Or.inl ⟨((wantedB hog12 dog12 hg (by (repeat (first | rw [tmps_same _ _ (by (try simp only [put_size]); omega)] | rw [tmps_far _ _ (by decide)])))).trans (by decide)), fun w' hS => run_move _ _ hop w' (by (repeat rw [eval_far _ _ (by decide)]); exact e9)⟩) hS6 ?_
  rw [hd, ← LR_snoc]
  clear ho hg hop hd hfr
  obtain ⟨o15, ho, hg, hop, hd⟩ := isOpG_out q15
  have hfr := hall ([0, 1, 2, 3, 4, 5, 6, 7, 8, 9, 10, 11, 12, 13, 14], 15) (by simp)
  refine wpAnyH_take (listed := LR 37 [0, 1, 2, 3, 4, 5, 6, 7, 8, 9, 10, 11, 12, 13, 14]) (v := .int .i64 k2) ho hs hfr.1 hfr.2 (hQ _ _) (Or.inl ⟨((wantedB hog12 dog12 hg (by (repeat (first | rw [tmps_same _ _ (by (try simp only [put_size]); omega)] | rw [tmps_far _ _ (by decide)])))).trans (by decide)), fun w' hS => run_move _ _ hop w' (by (repeat rw [eval_far _ _ (by decide)]); exact e11)⟩) hS6 ?_
  rw [hd, ← LR_snoc]
  clear ho hg hop hd hfr
  obtain ⟨o16, ho, hg, hop, hd⟩ := isOpG_out q16
  have hfr := hall ([0, 1, 2, 3, 4, 5, 6, 7, 8, 9, 10, 11, 12, 13, 14, 15], 16) (by simp)
  refine wpAnyH_take (listed := LR 37 [0, 1, 2, 3, 4, 5, 6, 7, 8, 9, 10, 11, 12, 13, 14, 15]) (v := .int .i64 kk) ho hs hfr.1 hfr.2 (hQ _ _) (Or.inl ⟨((wantedB hog12 dog12 hg (by (repeat (first | rw [tmps_same _ _ (by (try simp only [put_size]); omega)] | rw [tmps_far _ _ (by decide)])))).trans (by decide)), fun w' hS => run_binV _ _ hop w' (by (repeat (first | rw [eval_same _ _ (by (try simp only [put_size]); omega)] | rw [eval_far _ _ (by decide)]))) (by (repeat (first | rw [eval_same _ _ (by (try simp only [put_size]); omega)] | rw [eval_far _ _ (by decide)]))) (by first | rfl | go_simp) (hsum w')⟩) hS6 ?_
  rw [hd, ← LR_snoc]
  clear ho hg hop hd hfr
  obtain ⟨o17, ho, hg, hop, hd⟩ := isOpG_out q17
  have hfr := hall ([0, 1, 2, 3, 4, 5, 6, 7, 8, 9, 10, 11, 12, 13, 14, 15, 16], 17) (by simp)
  refine wpAnyH_take (listed := LR 37 [0, 1, 2, 3, 4, 5, 6, 7, 8, 9, 10, 11, 12, 13, 14, 15, 16]) (v := .bool true) ho hs hfr.1 hfr.2 (hQ _ _) (Or.inl ⟨((wantedB hog12 dog12 hg (by (repeat (first | rw [tmps_same _ _ (by (try simp only [put_size]); omega)] | rw [tmps_far _ _ (by decide)])))).trans (by decide)), fun w' hS => run_binV _ _ hop w' (by (repeat (first | rw [eval_same _ _ (by (try simp only [put_size]); omega)] | rw [eval_far _ _ (by decide)]))) (by (repeat (first | rw [eval_same _ _ (by (try simp only [put_size]); omega)] | rw [eval_far _ _ (by decide)]))) (by first | rfl | go_simp) (hle w')⟩) hS6 ?_
  rw [hd, ← LR_snoc]
  clear ho hg hop hd hfr
  obtain ⟨o18, ho, hg, hop, hd⟩ := isOpG_out q18
  have hfr := hall ([0, 1, 2, 3, 4, 5, 6, 7, 8, 9, 10, 11, 12, 13, 14, 15, 16, 17], 18) (by simp)
  refine wpAnyH_take (listed := LR 37 [0, 1, 2, 3, 4, 5, 6, 7, 8, 9, 10, 11, 12, 13, 14, 15, 16, 17]) (v := .bool true) ho hs hfr.1 hfr.2 (hQ _ _) (Or.inl ⟨(wantedN hg), fun w' hS => run_pickT _ _ hop w' (by (repeat (first | rw [eval_same _ _ (by (try simp only [put_size]); omega)] | rw [eval_far _ _ (by decide)]))) (by (repeat (first | rw [eval_same _ _ (by (try simp only [put_size]); omega)] | rw [eval_far _ _ (by decide)])))⟩) hS6 ?_
  rw [hd, ← LR_snoc]
  clear ho hg hop hd hfr
  obtain ⟨o19, ho, hg, hop, hd⟩ := isOpG_out q19
  have hfr := hall ([0, 1, 2, 3, 4, 5, 6, 7, 8, 9, 10, 11, 12, 13, 14, 15, 16, 17, 18], 19) (by simp)
  refine wpAnyH_take (listed := LR 37 [0, 1, 2, 3, 4, 5, 6, 7, 8, 9, 10, 11, 12, 13, 14, 15, 16, 17, 18]) (v := .bool true) ho hs hfr.1 hfr.2 (hQ _ _) (Or.inl ⟨(wantedN hg), fun w' hS => run_move _ _ hop w' (by (repeat (first | rw [eval_same _ _ (by (try simp only [put_size]); omega)] | rw [eval_far _ _ (by decide)])))⟩) hS6 ?_
  rw [hd, ← LR_snoc]
  clear ho hg hop hd hfr
  obtain ⟨o20, ho, hg, hop, hd⟩ := isOpG_out q20
  have hfr := hall ([0, 1, 2, 3, 4, 5, 6, 7, 8, 9, 10, 11, 12, 13, 14, 15, 16, 17, 18, 19], 20) (by simp)
  refine wpAnyH_take (listed := LR 37 [0, 1, 2, 3, 4, 5, 6, 7, 8, 9, 10, 11, 12, 13, 14, 15, 16, 17, 18, 19]) (v := .int .i64 m) ho hs hfr.1 hfr.2 (hQ _ _) (Or.inl ⟨((wantedB hog19 dog19 hg (by (repeat (first | rw [tmps_same _ _ (by (try simp only [put_size]); omega)] | rw [tmps_far _ _ (by decide)])))).trans (by decide)), fun w' hS => run_move _ _ hop w' (by (repeat rw [eval_far _ _ (by decide)]); exact e23)⟩) hS6 ?_
  rw [hd, ← LR_snoc]
  clear ho hg hop hd hfr
  obtain ⟨o21, ho, hg, hop, hd⟩ := isOpG_out q21
  have hfr := hall ([0, 1, 2, 3, 4, 5, 6, 7, 8, 9, 10, 11, 12, 13, 14, 15, 16, 17, 18, 19, 20], 21) (by simp)
  refine wpAnyH_take (listed := LR 37 [0, 1, 2, 3, 4, 5, 6, 7, 8, 9, 10, 11, 12, 13, 14, 15, 16, 17, 18, 19, 20]) (v := .int .i64 k) ho hs hfr.1 hfr.2 (hQ _ _) (Or.inl ⟨((wantedB hog19 dog19 hg (by (repeat (first | rw [tmps_same _ _ (by (try simp only [put_size]); omega)] | rw [tmps_far _ _ (by decide)])))).trans (by decide)), fun w' hS => run_move _ _ hop w' (by (repeat rw [eval_far _ _ (by decide)]); exact e9)⟩) hS6 ?_
  rw [hd, ← LR_snoc]
  clear ho hg hop hd hfr
  obtain ⟨o22, ho, hg, hop, hd⟩ := isOpG_out q22
  have hfr := hall ([0, 1, 2, 3, 4, 5, 6, 7, 8, 9, 10, 11, 12, 13, 14, 15, 16, 17, 18, 19, 20, 21], 22) (by simp)
  refine wpAnyH_take (listed := LR 37 [0, 1, 2, 3, 4, 5, 6, 7, 8, 9, 10, 11, 12, 13, 14, 15, 16, 17, 18, 19, 20, 21]) (v := .int .i64 k2) ho hs hfr.1 hfr.2 (hQ _ _) (Or.inl ⟨((wantedB hog19 dog19 hg (by (repeat (first | rw [tmps_same _ _ (by (try simp only [put_size]); omega)] | rw [tmps_far _ _ (by decide)])))).trans (by decide)), fun w' hS => run_move _ _ hop w' (by (repeat rw [eval_far _ _ (by decide)]); exact e11)⟩) hS6 ?_
  rw [hd, ← LR_snoc]
  clear ho hg hop hd hfr
  obtain ⟨o23, ho, hg, hop, hd⟩ := isOpG_out q23
  have hfr := hall ([0, 1, 2, 3, 4, 5, 6, 7, 8, 9, 10, 11, 12, 13, 14, 15, 16, 17, 18, 19, 20, 21, 22], 23) (by simp)
  refine wpAnyH_take (listed := LR 37 [0, 1, 2, 3, 4, 5, 6, 7, 8, 9, 10, 11, 12, 13, 14, 15, 16, 17, 18, 19, 20, 21, 22]) (v := .int .i64 kk) ho hs hfr.1 hfr.2 (hQ _ _) (Or.inl ⟨((wantedB hog19 dog19 hg (by (repeat (first | rw [tmps_same _ _ (by (try simp only [put_size]); omega)] | rw [tmps_far _ _ (by decide)])))).trans (by decide)), fun w' hS => run_binV _ _ hop w' (by (repeat (first | rw [eval_same _ _ (by (try simp only [put_size]); omega)] | rw [eval_far _ _ (by decide)]))) (by (repeat (first | rw [eval_same _ _ (by (try simp only [put_size]); omega)] | rw [eval_far _ _ (by decide)]))) (by first | rfl | go_simp) (hsum w')⟩) hS6 ?_
  rw [hd, ← LR_snoc]
  clear ho hg hop hd hfr
  obtain ⟨o24, ho, hg, hop, hd⟩ := isOpG_out q24
  have hfr := hall ([0, 1, 2, 3, 4, 5, 6, 7, 8, 9, 10, 11, 12, 13, 14, 15, 16, 17, 18, 19, 20, 21, 22, 23], 24) (by simp)
  refine wpAnyH_take (listed := LR 37 [0, 1, 2, 3, 4, 5, 6, 7, 8, 9, 10, 11, 12, 13, 14, 15, 16, 17, 18, 19, 20, 21, 22, 23]) (v := .bool false) ho hs hfr.1 hfr.2 (hQ _ _) (Or.inl ⟨((wantedB hog19 dog19 hg (by (repeat (first | rw [tmps_same _ _ (by (try simp only [put_size]); omega)] | rw [tmps_far _ _ (by decide)])))).trans (by decide)), fun w' hS => run_binV _ _ hop w' (by (repeat (first | rw [eval_same _ _ (by (try simp only [put_size]); omega)] | rw [eval_far _ _ (by decide)]))) (by (repeat (first | rw [eval_same _ _ (by (try simp only [put_size]); omega)] | rw [eval_far _ _ (by decide)]))) (by first | rfl | go_simp) (hmb w')⟩) hS6 ?_
  rw [hd, ← LR_snoc]
  clear ho hg hop hd hfr
  obtain ⟨o25, ho, hg, hop, hd⟩ := isOpG_out q25
  have hfr := hall ([0, 1, 2, 3, 4, 5, 6, 7, 8, 9, 10, 11, 12, 13, 14, 15, 16, 17, 18, 19, 20, 21, 22, 23, 24], 25) (by simp)
  refine wpAnyH_take (listed := LR 37 [0, 1, 2, 3, 4, 5, 6, 7, 8, 9, 10, 11, 12, 13, 14, 15, 16, 17, 18, 19, 20, 21, 22, 23, 24]) (v := .bool false) ho hs hfr.1 hfr.2 (hQ _ _) (Or.inl ⟨((wantedB hog19 dog19 hg (by (repeat (first | rw [tmps_same _ _ (by (try simp only [put_size]); omega)] | rw [tmps_far _ _ (by decide)])))).trans (by decide)), fun w' hS => run_move _ _ hop w' (by (repeat (first | rw [eval_same _ _ (by (try simp only [put_size]); omega)] | rw [eval_far _ _ (by decide)])))⟩) hS6 ?_
  rw [hd, ← LR_snoc]
  clear ho hg hop hd hfr
  obtain ⟨o26, ho, hg, hop, hd⟩ := isOpG_out q26
  have hfr := hall ([0, 1, 2, 3, 4, 5, 6, 7, 8, 9, 10, 11, 12, 13, 14, 15, 16, 17, 18, 19, 20, 21, 22, 23, 24, 25], 26) (by simp)
  refine wpAnyH_take (listed := LR 37 [0, 1, 2, 3, 4, 5, 6, 7, 8, 9, 10, 11, 12, 13, 14, 15, 16, 17, 18, 19, 20, 21, 22, 23, 24, 25]) (v := .string s) ho hs hfr.1 hfr.2 (hQ _ _) (Or.inl ⟨((wantedB hog25 dog25 hg (by (repeat (first | rw [tmps_same _ _ (by (try simp only [put_size]); omega)] | rw [tmps_far _ _ (by decide)])))).trans (by decide)), fun w' hS => run_move _ _ hop w' (by (repeat rw [eval_far _ _ (by decide)]); exact e0)⟩) hS6 ?_
  rw [hd, ← LR_snoc]
  clear ho hg hop hd hfr
  refine wpAnyH_all r27 (by simp) ?_
  intro i hi
  obtain rfl := List.mem_singleton.1 hi
  obtain ⟨o27, ho, hg, hop, hd⟩ := isOpG_out q27
  have x27_0 : ((((((((((((((((((((((((((((a0.put (some 198) (.bool true)).put (some 199) (.bool true)).put (some 200) (.agg #[.int .i8 2, .int .i64 0, .string st])).put (some 201) (.string s)).put (some 202) (.string t)).put (some 203) (.string st)).put (some 204) (.agg #[.int .i8 2, .int .i64 0, .string st])).put (some 205) (.bool true)).put (some 206) (.bool true)).put (some 207) (.bool true)).put (some 208) (.bool true)).put (some 209) (.bool true)).put (some 210) (.bool true)).put (some 211) (.int .i64 m)).put (some 212) (.int .i64 k)).put (some 213) (.int .i64 k2)).put (some 214) (.int .i64 kk)).put (some 215) (.bool true)).put (some 216) (.bool true)).put (some 217) (.bool true)).put (some 218) (.int .i64 m)).put (some 219) (.int .i64 k)).put (some 220) (.int .i64 k2)).put (some 221) (.int .i64 kk)).put (some 222) (.bool false)).put (some 223) (.bool false)).put (some 224) (.string s))).eval (.tmp 224) = .string s := (by (repeat (first | rw [eval_same _ _ (by (try simp only [put_size]); omega)] | rw [eval_far _ _ (by decide)])))
  refine wpOp_callG ho ((wantedB hog25 dog25 hg (by (repeat (first | rw [tmps_same _ _ (by (try simp only [put_size]); omega)] | rw [tmps_far _ _ (by decide)])))).trans (by decide)) (run_callV 12 Tryd.func12 (by kernel_rfl) (by kernel_rfl) #[.tmp 224] _ hop #[.string s] (by simp only [List.map_toArray, List.map_cons, List.map_nil, x27_0])) ?_
  refine (KP _).mono ?_
  rintro e u2 ⟨rfl, rfl⟩
  refine ⟨_, rfl, hS6, ?_⟩
  rw [hd]
  clear ho hg hop hd
  rw [← LR_snoc]
  obtain ⟨o28, ho, hg, hop, hd⟩ := isOpG_out q28
  have hfr := hall ([0, 1, 2, 3, 4, 5, 6, 7, 8, 9, 10, 11, 12, 13, 14, 15, 16, 17, 18, 19, 20, 21, 22, 23, 24, 25, 26, 27], 28) (by simp)
  refine wpAnyH_take (listed := LR 37 [0, 1, 2, 3, 4, 5, 6, 7, 8, 9, 10, 11, 12, 13, 14, 15, 16, 17, 18, 19, 20, 21, 22, 23, 24, 25, 26, 27]) (v := .bool false) ho hs hfr.1 hfr.2 (hQ _ _) (Or.inl ⟨((wantedB hog25 dog25 hg (by (repeat (first | rw [tmps_same _ _ (by (try simp only [put_size]); omega)] | rw [tmps_far _ _ (by decide)])))).trans (by decide)), fun w' hS => run_notV (b := true) _ _ hop w' (by (repeat (first | rw [eval_same _ _ (by (try simp only [put_size]); omega)] | rw [eval_far _ _ (by decide)])))⟩) hS6 ?_
  rw [hd, ← LR_snoc]
  clear ho hg hop hd hfr
  obtain ⟨o29, ho, hg, hop, hd⟩ := isOpG_out q29
  have hfr := hall ([0, 1, 2, 3, 4, 5, 6, 7, 8, 9, 10, 11, 12, 13, 14, 15, 16, 17, 18, 19, 20, 21, 22, 23, 24, 25, 26, 27, 28], 29) (by simp)
  refine wpAnyH_take (listed := LR 37 [0, 1, 2, 3, 4, 5, 6, 7, 8, 9, 10, 11, 12, 13, 14, 15, 16, 17, 18, 19, 20, 21, 22, 23, 24, 25, 26, 27, 28]) (v := .bool false) ho hs hfr.1 hfr.2 (hQ _ _) (Or.inl ⟨((wantedB hog19 dog19 hg (by (repeat (first | rw [tmps_same _ _ (by (try simp only [put_size]); omega)] | rw [tmps_far _ _ (by decide)])))).trans (by decide)), fun w' hS => run_pickF _ _ hop w' (by (repeat (first | rw [eval_same _ _ (by (try simp only [put_size]); omega)] | rw [eval_far _ _ (by decide)]))) (by (repeat (first | rw [eval_same _ _ (by (try simp only [put_size]); omega)] | rw [eval_far _ _ (by decide)])))⟩) hS6 ?_
  rw [hd, ← LR_snoc]
  clear ho hg hop hd hfr
  obtain ⟨o30, ho, hg, hop, hd⟩ := isOpG_out q30
  have hfr := hall ([0, 1, 2, 3, 4, 5, 6, 7, 8, 9, 10, 11, 12, 13, 14, 15, 16, 17, 18, 19, 20, 21, 22, 23, 24, 25, 26, 27, 28, 29], 30) (by simp)
  refine wpAnyH_take (listed := LR 37 [0, 1, 2, 3, 4, 5, 6, 7, 8, 9, 10, 11, 12, 13, 14, 15, 16, 17, 18, 19, 20, 21, 22, 23, 24, 25, 26, 27, 28, 29]) (v := .bool false) ho hs hfr.1 hfr.2 (hQ _ _) (Or.inl ⟨((wantedB hog19 dog19 hg (by (repeat (first | rw [tmps_same _ _ (by (try simp only [put_size]); omega)] | rw [tmps_far _ _ (by decide)])))).trans (by decide)), fun w' hS => run_move _ _ hop w' (by (repeat (first | rw [eval_same _ _ (by (try simp only [put_size]); omega)] | rw [eval_far _ _ (by decide)])))⟩) hS6 ?_
  rw [hd, ← LR_snoc]
  clear ho hg hop hd hfr
  obtain ⟨o31, ho, hg, hop, hd⟩ := isOpG_out q31
  have hfr := hall ([0, 1, 2, 3, 4, 5, 6, 7, 8, 9, 10, 11, 12, 13, 14, 15, 16, 17, 18, 19, 20, 21, 22, 23, 24, 25, 26, 27, 28, 29, 30], 31) (by simp)
  refine wpAnyH_take (listed := LR 37 [0, 1, 2, 3, 4, 5, 6, 7, 8, 9, 10, 11, 12, 13, 14, 15, 16, 17, 18, 19, 20, 21, 22, 23, 24, 25, 26, 27, 28, 29, 30]) (v := .string t) ho hs hfr.1 hfr.2 (hQ _ _) (Or.inl ⟨((wantedB hog30 dog30 hg (by (repeat (first | rw [tmps_same _ _ (by (try simp only [put_size]); omega)] | rw [tmps_far _ _ (by decide)])))).trans (by decide)), fun w' hS => run_move _ _ hop w' (by (repeat rw [eval_far _ _ (by decide)]); exact e1)⟩) hS6 ?_
  rw [hd, ← LR_snoc]
  clear ho hg hop hd hfr
  refine wpAnyH_all r32 (by simp) ?_
  intro i hi
  obtain rfl := List.mem_singleton.1 hi
  obtain ⟨o32, ho, hg, hop, hd⟩ := isOpG_out q32
  have x32_0 : (((((((((((((((((((((((((((((((((a0.put (some 198) (.bool true)).put (some 199) (.bool true)).put (some 200) (.agg #[.int .i8 2, .int .i64 0, .string st])).put (some 201) (.string s)).put (some 202) (.string t)).put (some 203) (.string st)).put (some 204) (.agg #[.int .i8 2, .int .i64 0, .string st])).put (some 205) (.bool true)).put (some 206) (.bool true)).put (some 207) (.bool true)).put (some 208) (.bool true)).put (some 209) (.bool true)).put (some 210) (.bool true)).put (some 211) (.int .i64 m)).put (some 212) (.int .i64 k)).put (some 213) (.int .i64 k2)).put (some 214) (.int .i64 kk)).put (some 215) (.bool true)).put (some 216) (.bool true)).put (some 217) (.bool true)).put (some 218) (.int .i64 m)).put (some 219) (.int .i64 k)).put (some 220) (.int .i64 k2)).put (some 221) (.int .i64 kk)).put (some 222) (.bool false)).put (some 223) (.bool false)).put (some 224) (.string s)).put (some 225) (.bool true)).put (some 226) (.bool false)).put (some 227) (.bool false)).put (some 228) (.bool false)).put (some 229) (.string t))).eval (.tmp 229) = .string t := (by (repeat (first | rw [eval_same _ _ (by (try simp only [put_size]); omega)] | rw [eval_far _ _ (by decide)])))
  refine wpOp_callG ho ((wantedB hog30 dog30 hg (by (repeat (first | rw [tmps_same _ _ (by (try simp only [put_size]); omega)] | rw [tmps_far _ _ (by decide)])))).trans (by decide)) (run_callV 12 Tryd.func12 (by kernel_rfl) (by kernel_rfl) #[.tmp 229] _ hop #[.string t] (by simp only [List.map_toArray, List.map_cons, List.map_nil, x32_0])) ?_
  refine (KT _).mono ?_
  rintro e u3 ⟨rfl, rfl⟩
  refine ⟨_, rfl, hS6, ?_⟩
  rw [hd]
  clear ho hg hop hd
  rw [← LR_snoc]
  obtain ⟨o33, ho, hg, hop, hd⟩ := isOpG_out q33
  have hfr := hall ([0, 1, 2, 3, 4, 5, 6, 7, 8, 9, 10, 11, 12, 13, 14, 15, 16, 17, 18, 19, 20, 21, 22, 23, 24, 25, 26, 27, 28, 29, 30, 31, 32], 33) (by simp)
  refine wpAnyH_take (listed := LR 37 [0, 1, 2, 3, 4, 5, 6, 7, 8, 9, 10, 11, 12, 13, 14, 15, 16, 17, 18, 19, 20, 21, 22, 23, 24, 25, 26, 27, 28, 29, 30, 31, 32]) (v := .bool true) ho hs hfr.1 hfr.2 (hQ _ _) (Or.inl ⟨((wantedB hog30 dog30 hg (by (repeat (first | rw [tmps_same _ _ (by (try simp only [put_size]); omega)] | rw [tmps_far _ _ (by decide)])))).trans (by decide)), fun w' hS => run_notV (b := false) _ _ hop w' (by (repeat (first | rw [eval_same _ _ (by (try simp only [put_size]); omega)] | rw [eval_far _ _ (by decide)])))⟩) hS6 ?_
  rw [hd, ← LR_snoc]
  clear ho hg hop hd hfr
  obtain ⟨o34, ho, hg, hop, hd⟩ := isOpG_out q34
  have hfr := hall ([0, 1, 2, 3, 4, 5, 6, 7, 8, 9, 10, 11, 12, 13, 14, 15, 16, 17, 18, 19, 20, 21, 22, 23, 24, 25, 26, 27, 28, 29, 30, 31, 32, 33], 34) (by simp)
  refine wpAnyH_take (listed := LR 37 [0, 1, 2, 3, 4, 5, 6, 7, 8, 9, 10, 11, 12, 13, 14, 15, 16, 17, 18, 19, 20, 21, 22, 23, 24, 25, 26, 27, 28, 29, 30, 31, 32, 33]) (v := .bool true) ho hs hfr.1 hfr.2 (hQ _ _) (Or.inl ⟨((wantedB hog19 dog19 hg (by (repeat (first | rw [tmps_same _ _ (by (try simp only [put_size]); omega)] | rw [tmps_far _ _ (by decide)])))).trans (by decide)), fun w' hS => run_pickF _ _ hop w' (by (repeat (first | rw [eval_same _ _ (by (try simp only [put_size]); omega)] | rw [eval_far _ _ (by decide)]))) (by (repeat (first | rw [eval_same _ _ (by (try simp only [put_size]); omega)] | rw [eval_far _ _ (by decide)])))⟩) hS6 ?_
  rw [hd, ← LR_snoc]
  clear ho hg hop hd hfr
  obtain ⟨o35, ho, hg, hop, hd⟩ := isOpG_out q35
  have hfr := hall ([0, 1, 2, 3, 4, 5, 6, 7, 8, 9, 10, 11, 12, 13, 14, 15, 16, 17, 18, 19, 20, 21, 22, 23, 24, 25, 26, 27, 28, 29, 30, 31, 32, 33, 34], 35) (by simp)
  refine wpAnyH_take (listed := LR 37 [0, 1, 2, 3, 4, 5, 6, 7, 8, 9, 10, 11, 12, 13, 14, 15, 16, 17, 18, 19, 20, 21, 22, 23, 24, 25, 26, 27, 28, 29, 30, 31, 32, 33, 34]) (v := .bool true) ho hs hfr.1 hfr.2 (hQ _ _) (Or.inl ⟨(wantedN hg), fun w' hS => run_pickT _ _ hop w' (by (repeat (first | rw [eval_same _ _ (by (try simp only [put_size]); omega)] | rw [eval_far _ _ (by decide)]))) (by (repeat (first | rw [eval_same _ _ (by (try simp only [put_size]); omega)] | rw [eval_far _ _ (by decide)])))⟩) hS6 ?_
  rw [hd, ← LR_snoc]
  clear ho hg hop hd hfr
  obtain ⟨o36, ho, hg, hop, hd⟩ := isOpG_out q36
  have hfr := hall ([0, 1, 2, 3, 4, 5, 6, 7, 8, 9, 10, 11, 12, 13, 14, 15, 16, 17, 18, 19, 20, 21, 22, 23, 24, 25, 26, 27, 28, 29, 30, 31, 32, 33, 34, 35], 36) (by simp)
  refine wpAnyH_take (listed := LR 37 [0, 1, 2, 3, 4, 5, 6, 7, 8, 9, 10, 11, 12, 13, 14, 15, 16, 17, 18, 19, 20, 21, 22, 23, 24, 25, 26, 27, 28, 29, 30, 31, 32, 33, 34, 35]) (v := .bool true) ho hs hfr.1 hfr.2 (hQ _ _) (Or.inl ⟨(wantedN hg), fun w' hS => run_assignV _ _ hop w' (by (repeat (first | rw [eval_same _ _ (by (try simp only [put_size]); omega)] | rw [eval_far _ _ (by decide)])))⟩) hS6 ?_
  rw [hd, ← LR_snoc]
  clear ho hg hop hd hfr
  exact wpAnyH_done rend (F _ hS6) _
end Go.Proofs.YtbclaikfiofciaaDoor
