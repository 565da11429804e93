import Derived.Test.YtdchfmokicfmnaaDoorPgMa
import Derived.Test.YtdchfmokicfmnaaDoorPlLv
namespace Go.Proofs.YtdchfmokicfmnaaDoor
open Go.RowKit Go.Maps Go.Shelf
set_option linter.unusedVariables false
set_option linter.unusedSimpArgs false
attribute [local go_sem ↓] Go.wp_at_zero Go.wp_at_succ
attribute [local go_sem] Oper.semAt_some
attribute [-go_sem] loadVar

theorem run_idxP (ev : Operand → Value) (o : Oper) {x y : Operand} (hop : o.op = .indexAddr 29 x y) (w : World) {g off n c k : Nat} (hx : ev x = .slice (some ⟨g, off, none⟩) n c) (hy : ev y = .int .i64 (k : Int)) (hk : k < n) : (execOp ev o).run Tryd.prog w = .ok (.value (.pointer (some ⟨g, off + k, none⟩))) w := by
  have hk' : (k : Int) < (n : Int) := by omega
  have hk0 : (0 : Int) ≤ (k : Int) := by omega
  simp only [execOp, hop, hx, hy]
  go_simp
theorem run_slHiS {k : Nat} (ev : Operand → Value) (o : Oper) {x y : Operand} (hop : o.op = .slice 29 x none (some y) none) (w : World) {g off nn cc : Nat} (hx : ev x = .slice (some ⟨g, off, none⟩) nn cc) (hy : ev y = .int .i64 (k : Int)) (hk : k ≤ nn) (hc : nn ≤ cc) : (execOp ev o).run Tryd.prog w = .ok (.value (.slice (some ⟨g, off, none⟩) k cc)) w := by
  have h1 : (k : Int) ≤ (cc : Int) := by omega
  have h0 : (0 : Int) ≤ (k : Int) := by omega
  simp only [execOp, hop, hx, Option.map, hy]
  go_simp
def pgr17_takes : List (List Nat × Nat) := [([], 0), ([0], 1), ([0, 1], 2), ([0, 1, 2], 3), ([0, 1, 2, 3], 4), ([0, 1, 2, 3, 4], 5), ([0, 1, 2, 3, 4, 5, 6], 7), ([0, 1, 2, 3, 4, 5, 6, 7], 8), ([0, 1, 2, 3, 4, 5, 6, 7, 8], 9), ([0, 1, 2, 3, 4, 5, 6, 7, 8, 9], 10), ([0, 1, 2, 3, 4, 5, 6, 7, 8, 9, 10], 11), ([0, 1, 2, 3, 4, 5, 6, 7, 8, 9, 10, 11], 12), ([0, 1, 2, 3, 4, 5, 6, 7, 8, 9, 10, 11, 12], 13), ([0, 1, 2, 3, 4, 5, 6, 7, 8, 9, 10, 11, 12, 13], 14), ([0, 1, 2, 3, 4, 5, 6, 7, 8, 9, 10, 11, 12, 13, 14], 15), ([0, 1, 2, 3, 4, 5, 6, 7, 8, 9, 10, 11, 12, 13, 14, 15], 16), ([0, 1, 2, 3, 4, 5, 6, 7, 8, 9, 10, 11, 12, 13, 14, 15, 16, 17], 18), ([0, 1, 2, 3, 4, 5, 6, 7, 8, 9, 10, 11, 12, 13, 14, 15, 16, 17, 18], 19), ([0, 1, 2, 3, 4, 5, 6, 7, 8, 9, 10, 11, 12, 13, 14, 15, 16, 17, 18, 19], 20), ([0, 1, 2, 3, 4, 5, 6, 7, 8, 9, 10, 11, 12, 13, 14, 15, 16, 17, 18, 19, 20], 21), ([0, 1, 2, 3, 4, 5, 6, 7, 8, 9, 10, 11, 12, 13, 14, 15, 16, 17, 18, 19, 20, 21], 22), ([0, 1, 2, 3, 4, 5, 6, 7, 8, 9, 10, 11, 12, 13, 14, 15, 16, 17, 18, 19, 20, 21, 22], 23), ([0, 1, 2, 3, 4, 5, 6, 7, 8, 9, 10, 11, 12, 13, 14, 15, 16, 17, 18, 19, 20, 21, 22, 23], 24), ([0, 1, 2, 3, 4, 5, 6, 7, 8, 9, 10, 11, 12, 13, 14, 15, 16, 17, 18, 19, 20, 21, 22, 23, 24], 25), ([0, 1, 2, 3, 4, 5, 6, 7, 8, 9, 10, 11, 12, 13, 14, 15, 16, 17, 18, 19, 20, 21, 22, 23, 24, 25, 26], 27), ([0, 1, 2, 3, 4, 5, 6, 7, 8, 9, 10, 11, 12, 13, 14, 15, 16, 17, 18, 19, 20, 21, 22, 23, 24, 25, 26, 27], 28)]
set_option maxHeartbeats 3200000 in
theorem pgr17 {ops : Array Oper} {Q : Exit → Act → World → Prop} {S : World → Prop} {a0 : Act} {w5 : World} {b7 g off n c k : Nat} {hv vv : Value} {s : ByteArray} {ty1 : Array TypeId}
    (q0 : isOpG ops 0 none (.move (.tmp 5)) (some 65))
    (q1 : isOpG ops 1 none (.fieldAddr 38 (.tmp 7) 3) (some 66))
    (q2 : isOpG ops 2 none (.load 29 (.tmp 66)) (some 67))
    (q3 : isOpG ops 3 none (.move (.tmp 10)) (some 68))
    (q4 : isOpG ops 4 none (.indexAddr 29 (.tmp 67) (.tmp 68)) (some 69))
    (q5 : isOpG ops 5 none (.load 9 (.tmp 69)) (some 70))
    (q6 : isOpG ops 6 none (.call { callee := .value (.func 8), args := #[.tmp 65, .tmp 70], argTypes := ty1 }) (some 71))
    (q7 : isOpG ops 7 none (.move (.tmp 71)) (some 72))
    (q8 : isOpG ops 8 (some (7, false)) (.fieldAddr 38 (.tmp 7) 3) (some 73))
    (q9 : isOpG ops 9 (some (7, false)) (.load 29 (.tmp 73)) (some 74))
    (q10 : isOpG ops 10 (some (7, false)) (.move (.tmp 10)) (some 75))
    (q11 : isOpG ops 11 (some (7, false)) (.slice 29 (.tmp 74) none (some (.tmp 75)) none) (some 76))
    (q12 : isOpG ops 12 (some (7, false)) (.fieldAddr 38 (.tmp 7) 3) (some 77))
    (q13 : isOpG ops 13 (some (7, false)) (.load 29 (.tmp 77)) (some 78))
    (q14 : isOpG ops 14 (some (7, false)) (.move (.tmp 10)) (some 79))
    (q15 : isOpG ops 15 (some (7, false)) (.indexAddr 29 (.tmp 78) (.tmp 79)) (some 80))
    (q16 : isOpG ops 16 (some (7, false)) (.load 9 (.tmp 80)) (some 81))
    (q17 : isOpG ops 17 (some (7, false)) (.call { callee := .value (.func 8), args := #[.tmp 76, .tmp 81], argTypes := ty1 }) (some 82))
    (q18 : isOpG ops 18 none (.pick (.tmp 72) (.const (.bool true)) (.tmp 82)) (some 83))
    (q19 : isOpG ops 19 none (.move (.tmp 83)) (some 84))
    (q20 : isOpG ops 20 (some (19, false)) (.move (.tmp 9)) (some 85))
    (q21 : isOpG ops 21 (some (19, false)) (.fieldAddr 38 (.tmp 7) 3) (some 86))
    (q22 : isOpG ops 22 (some (19, false)) (.load 29 (.tmp 86)) (some 87))
    (q23 : isOpG ops 23 (some (19, false)) (.move (.tmp 10)) (some 88))
    (q24 : isOpG ops 24 (some (19, false)) (.indexAddr 29 (.tmp 87) (.tmp 88)) (some 89))
    (q25 : isOpG ops 25 (some (19, false)) (.load 9 (.tmp 89)) (some 90))
    (q26 : isOpG ops 26 (some (19, false)) (.call { callee := .value (.func 8), args := #[.tmp 85, .tmp 90], argTypes := ty1 }) (some 91))
    (q27 : isOpG ops 27 (some (19, false)) (.unOp .not 4 (.tmp 91)) (some 92))
    (q28 : isOpG ops 28 none (.pick (.tmp 84) (.const (.bool true)) (.tmp 92)) (some 93))
    (hs : Region.noSelect ops = true) (hq : (pgr17_takes.all fun p => Region.free .any ops (LR 29 p.1) p.2 && (Region.ready .any ops (LR 29 p.1)).contains p.2) = true)
    (r6 : Region.ready .any ops (LR 29 [0, 1, 2, 3, 4, 5]) = [6])
    (r17 : Region.ready .any ops (LR 29 [0, 1, 2, 3, 4, 5, 6, 7, 8, 9, 10, 11, 12, 13, 14, 15, 16]) = [17])
    (r26 : Region.ready .any ops (LR 29 [0, 1, 2, 3, 4, 5, 6, 7, 8, 9, 10, 11, 12, 13, 14, 15, 16, 17, 18, 19, 20, 21, 22, 23, 24, 25]) = [26])
    (rend : Region.ready .any ops (LR 29 [0, 1, 2, 3, 4, 5, 6, 7, 8, 9, 10, 11, 12, 13, 14, 15, 16, 17, 18, 19, 20, 21, 22, 23, 24, 25, 26, 27, 28]) = [])
    (hQ : ∀ (d : Option Tmp) (v : Value) c a w, Q (.panic c) (a.put d v) w → Q (.panic c) a w)
    (hsz : 93 < a0.tmps.size) (e5 : a0.eval (.tmp 5) = hv) (e7 : a0.eval (.tmp 7) = .pointer (some ⟨b7, 0, none⟩)) (e9 : a0.eval (.tmp 9) = vv) (e10 : a0.eval (.tmp 10) = .int .i64 (k : Int))
    (hS0 : S w5.drew)
    (hk : k < n) (hk1 : k ≤ n) (hnc : n ≤ c) (LG : ∀ u, S u → (loadVar 29 ⟨b7, 3, none⟩).run Tryd.prog u = .ok (.slice (some ⟨g, off, none⟩) n c) u) (LS : ∀ u, S u → (loadVar 9 ⟨g, off + k, none⟩).run Tryd.prog u = .ok (.string s) u)
    (H1 : ∀ u, S u → Calls Tryd.prog 8 #[hv, .string s] u fun e w' => e = .returned (.bool false) ∧ w' = u) (H2 : ∀ u, S u → Calls Tryd.prog 8 #[.slice (some ⟨g, off, none⟩) k c, .string s] u fun e w' => e = .returned (.bool false) ∧ w' = u) (H3 : ∀ u, S u → Calls Tryd.prog 8 #[vv, .string s] u fun e w' => e = .returned (.bool true) ∧ w' = u)
    (F : ∀ (wc : World), S wc → Q .normal (((((((((((((((((((((((((((((a0.put (some 65) (hv)).put (some 66) (.pointer (some ⟨b7, 3, none⟩))).put (some 67) (.slice (some ⟨g, off, none⟩) n c)).put (some 68) (.int .i64 (k : Int))).put (some 69) (.pointer (some ⟨g, off + k, none⟩))).put (some 70) (.string s)).put (some 71) (.bool false)).put (some 72) (.bool false)).put (some 73) (.pointer (some ⟨b7, 3, none⟩))).put (some 74) (.slice (some ⟨g, off, none⟩) n c)).put (some 75) (.int .i64 (k : Int))).put (some 76) (.slice (some ⟨g, off, none⟩) k c)).put (some 77) (.pointer (some ⟨b7, 3, none⟩))).put (some 78) (.slice (some ⟨g, off, none⟩) n c)).put (some 79) (.int .i64 (k : Int))).put (some 80) (.pointer (some ⟨g, off + k, none⟩))).put (some 81) (.string s)).put (some 82) (.bool false)).put (some 83) (.bool false)).put (some 84) (.bool false)).put (some 85) (vv)).put (some 86) (.pointer (some ⟨b7, 3, none⟩))).put (some 87) (.slice (some ⟨g, off, none⟩) n c)).put (some 88) (.int .i64 (k : Int))).put (some 89) (.pointer (some ⟨g, off + k, none⟩))).put (some 90) (.string s)).put (some 91) (.bool true)).put (some 92) (.bool false)).put (some 93) (.bool false)) wc) :
    wpAnyH Tryd.prog .any ops Q S 29 (LR 29 []) a0 w5.drew := by
  have hall : ∀ p ∈ pgr17_takes, Region.free .any ops (LR 29 p.1) p.2 = true ∧ (Region.ready .any ops (LR 29 p.1)).contains p.2 = true := by
    intro p hp
    have := List.all_eq_true.1 hq p hp
    simpa using this
  unfold pgr17_takes at hall
  obtain ⟨og7, hog7, _, _, dog7⟩ := isOpG_out q7
  obtain ⟨og19, hog19, _, _, dog19⟩ := isOpG_out q19
  obtain ⟨o0, ho, hg, hop, hd⟩ := isOpG_out q0
  have hfr := hall ([], 0) (by simp)
  refine wpAnyH_take (listed := LR 29 []) (v := hv) ho hs hfr.1 hfr.2 (hQ _ _) (Or.inl ⟨(wantedN hg), fun w' hS => run_move _ _ hop w' (by (repeat rw [eval_far _ _ (by decide)]); exact e5)⟩) hS0 ?_
  rw [hd, ← LR_snoc]
  clear ho hg hop hd hfr
  obtain ⟨o1, ho, hg, hop, hd⟩ := isOpG_out q1
  have hfr := hall ([0], 1) (by simp)
  refine wpAnyH_take (listed := LR 29 [0]) (v := .pointer (some ⟨b7, 3, none⟩)) ho hs hfr.1 hfr.2 (hQ _ _) (Or.inl ⟨(wantedN hg), fun w' hS => run_fldSt3 _ _ hop w' (by (repeat rw [eval_far _ _ (by decide)]); exact e7)⟩) hS0 ?_
  rw [hd, ← LR_snoc]
  clear ho hg hop hd hfr
  obtain ⟨o2, ho, hg, hop, hd⟩ := isOpG_out q2
  have hfr := hall ([0, 1], 2) (by simp)
  refine wpAnyH_take (listed := LR 29 [0, 1]) (v := .slice (some ⟨g, off, none⟩) n c) ho hs hfr.1 hfr.2 (hQ _ _) (Or.inl ⟨(wantedN hg), fun w' hS => run_loadG _ _ hop w' (by (repeat (first | rw [eval_same _ _ (by (try simp only [put_size]); omega)] | rw [eval_far _ _ (by decide)]))) (LG _ hS)⟩) hS0 ?_
  rw [hd, ← LR_snoc]
  clear ho hg hop hd hfr
  obtain ⟨o3, ho, hg, hop, hd⟩ := isOpG_out q3
  have hfr := hall ([0, 1, 2], 3) (by simp)
  refine wpAnyH_take (listed := LR 29 [0, 1, 2]) (v := .int .i64 (k : Int)) ho hs hfr.1 hfr.2 (hQ _ _) (Or.inl ⟨(wantedN hg), fun w' hS => run_move _ _ hop w' (by (repeat rw [eval_far _ _ (by decide)]); exact e10)⟩) hS0 ?_
  rw [hd, ← LR_snoc]
  clear ho hg hop hd hfr
  obtain ⟨o4, ho, hg, hop, hd⟩ := isOpG_out q4
  have hfr := hall ([0, 1, 2, 3], 4) (by simp)
  refine wpAnyH_take (listed := LR 29 [0, 1, 2, 3]) (v := .pointer (some ⟨g, off + k, none⟩)) ho hs hfr.1 hfr.2 (hQ _ _) (Or.inl ⟨(wantedN hg), fun w' hS => run_idxP _ _ hop w' (by (repeat (first | rw [eval_same _ _ (by (try simp only [put_size]); omega)] | rw [eval_far _ _ (by decide)]))) (by (repeat (first | rw [eval_same _ _ (by (try simp only [put_size]); omega)] | rw [eval_far _ _ (by decide)]))) hk⟩) hS0 ?_
  rw [hd, ← LR_snoc]
  clear ho hg hop hd hfr
  obtain ⟨o5, ho, hg, hop, hd⟩ := isOpG_out q5
  have hfr := hall ([0, 1, 2, 3, 4], 5) (by simp)
  refine wpAnyH_take (listed := LR 29 [0, 1, 2, 3, 4]) (v := .string s) ho hs hfr.1 hfr.2 (hQ _ _) (Or.inl ⟨(wantedN hg), fun w' hS => run_loadG _ _ hop w' (by (repeat (first | rw [eval_same _ _ (by (try simp only [put_size]); omega)] | rw [eval_far _ _ (by decide)]))) (LS _ hS)⟩) hS0 ?_
  rw [hd, ← LR_snoc]
  clear ho hg hop hd hfr
  refine wpAnyH_all r6 (by simp) ?_
  intro i hi
  obtain rfl := List.mem_singleton.1 hi
  obtain ⟨o6, ho, hg, hop, hd⟩ := isOpG_out q6
  have x6_0 : (((((((a0.put (some 65) (hv)).put (some 66) (.pointer (some ⟨b7, 3, none⟩))).put (some 67) (.slice (some ⟨g, off, none⟩) n c)).put (some 68) (.int .i64 (k : Int))).put (some 69) (.pointer (some ⟨g, off + k, none⟩))).put (some 70) (.string s))).eval (.tmp 65) = hv := (by (repeat (first | rw [eval_same _ _ (by (try simp only [put_size]); omega)] | rw [eval_far _ _ (by decide)])))
  have x6_1 : (((((((a0.put (some 65) (hv)).put (some 66) (.pointer (some ⟨b7, 3, none⟩))).put (some 67) (.slice (some ⟨g, off, none⟩) n c)).put (some 68) (.int .i64 (k : Int))).put (some 69) (.pointer (some ⟨g, off + k, none⟩))).put (some 70) (.string s))).eval (.tmp 70) = .string s := (by (repeat (first | rw [eval_same _ _ (by (try simp only [put_size]); omega)] | rw [eval_far _ _ (by decide)])))
  refine wpOp_callG ho (wantedN hg) (run_callV 8 Tryd.func8 (by kernel_rfl) (by kernel_rfl) #[.tmp 65, .tmp 70] _ hop #[hv, .string s] (by simp only [List.map_toArray, List.map_cons, List.map_nil, x6_0, x6_1])) ?_
  refine (H1 _ hS0).mono ?_
  rintro e u1 ⟨rfl, rfl⟩
  refine ⟨_, rfl, hS0, ?_⟩
  rw [hd]
  clear ho hg hop hd
  rw [← LR_snoc]
  obtain ⟨o7, ho, hg, hop, hd⟩ := isOpG_out q7
  have hfr := hall ([0, 1, 2, 3, 4, 5, 6], 7) (by simp)
  refine wpAnyH_take (listed := LR 29 [0, 1, 2, 3, 4, 5, 6]) (v := .bool false) ho hs hfr.1 hfr.2 (hQ _ _) (Or.inl ⟨(wantedN hg), fun w' hS => run_move _ _ hop w' (by (repeat (first | rw [eval_same _ _ (by (try simp only [put_size]); omega)] | rw [eval_far _ _ (by decide)])))⟩) hS0 ?_
  rw [hd, ← LR_snoc]
  clear ho hg hop hd hfr
  obtain ⟨o8, ho, hg, hop, hd⟩ := isOpG_out q8
  have hfr := hall ([0, 1, 2, 3, 4, 5, 6, 7], 8) (by simp)
  refine wpAnyH_take (listed := LR 29 [0, 1, 2, 3, 4, 5, 6, 7]) (v := .pointer (some ⟨b7, 3, none⟩)) ho hs hfr.1 hfr.2 (hQ _ _) (Or.inl ⟨((wantedB hog7 dog7 hg (by (repeat (first | rw [tmps_same _ _ (by (try simp only [put_size]); omega)] | rw [tmps_far _ _ (by decide)])))).trans (by decide)), fun w' hS => run_fldSt3 _ _ hop w' (by (repeat rw [eval_far _ _ (by decide)]); exact e7)⟩) hS0 ?_
  rw [hd, ← LR_snoc]
  clear ho hg hop hd hfr
  obtain ⟨o9, ho, hg, hop, hd⟩ := isOpG_out q9
  have hfr := hall ([0, 1, 2, 3, 4, 5, 6, 7, 8], 9) (by simp)
  refine wpAnyH_take (listed := LR 29 [0, 1, 2, 3, 4, 5, 6, 7, 8]) (v := .slice (some ⟨g, off, none⟩) n c) ho hs hfr.1 hfr.2 (hQ _ _) (Or.inl ⟨((wantedB hog7 dog7 hg (by (repeat (first | rw [tmps_same _ _ (by (try simp only [put_size]); omega)] | rw [tmps_far _ _ (by decide)])))).trans (by decide)), fun w' hS => run_loadG _ _ hop w' (by (repeat (first | rw [eval_same _ _ (by (try simp only [put_size]); omega)] | rw [eval_far _ _ (by decide)]))) (LG _ hS)⟩) hS0 ?_
  rw [hd, ← LR_snoc]
  clear ho hg hop hd hfr
  obtain ⟨o10, ho, hg, hop, hd⟩ := isOpG_out q10
  have hfr := hall ([0, 1, 2, 3, 4, 5, 6, 7, 8, 9], 10) (by simp)
  refine wpAnyH_take (listed := LR 29 [0, 1, 2, 3, 4, 5, 6, 7, 8, 9]) (v := .int .i64 (k : Int)) ho hs hfr.1 hfr.2 (hQ _ _) (Or.inl ⟨((wantedB hog7 dog7 hg (by (repeat (first | rw [tmps_same _ _ (by (try simp only [put_size]); omega)] | rw [tmps_far _ _ (by decide)])))).trans (by decide)), fun w' hS => run_move _ _ hop w' (by (repeat rw [eval_far _ _ (by decide)]); exact e10)⟩) hS0 ?_
  rw [hd, ← LR_snoc]
  clear ho hg hop hd hfr
  obtain ⟨o11, ho, hg, hop, hd⟩ := isOpG_out q11
  have hfr := hall ([0, 1, 2, 3, 4, 5, 6, 7, 8, 9, 10], 11) (by simp)
  refine wpAnyH_take (listed := LR 29 [0, 1, 2, 3, 4, 5, 6, 7, 8, 9, 10]) (v := .slice (some ⟨g, off, none⟩) k c) ho hs hfr.1 hfr.2 (hQ _ _) (Or.inl ⟨((wantedB hog7 dog7 hg (by (repeat (first | rw [tmps_same _ _ (by (try simp only [put_size]); omega)] | rw [tmps_far _ _ (by decide)])))).trans (by decide)), fun w' hS => run_slHiS _ _ hop w' (by (repeat (first | rw [eval_same _ _ (by (try simp only [put_size]); omega)] | rw [eval_far _ _ (by decide)]))) (by (repeat (first | rw [eval_same _ _ (by (try simp only [put_size]); omega)] | rw [eval_far _ _ (by decide)]))) hk1 hnc⟩) hS0 ?_
  rw [hd, ← LR_snoc]
  clear ho hg hop hd hfr
  obtain ⟨o12, ho, hg, hop, hd⟩ := isOpG_out q12
  have hfr := hall ([0, 1, 2, 3, 4, 5, 6, 7, 8, 9, 10, 11], 12) (by simp)
  refine wpAnyH_take (listed := LR 29 [0, 1, 2, 3, 4, 5, 6, 7, 8, 9, 10, 11]) (v := .pointer (some ⟨b7, 3, none⟩)) ho hs hfr.1 hfr.2 (hQ _ _) (Or.inl ⟨((wantedB hog7 dog7 hg (by (repeat (first | rw [tmps_same _ _ (by (try simp only [put_size]); omega)] | rw [tmps_far _ _ (by decide)])))).trans (by decide)), fun w' hS => run_fldSt3 _ _ hop w' (by (repeat rw [eval_far _ _ (by decide)]); exact e7)⟩) hS0 ?_
  rw [hd, ← LR_snoc]
  clear ho hg hop hd hfr
  obtain ⟨o13, ho, hg, hop, hd⟩ := isOpG_out q13
  have hfr := hall ([0, 1, 2, 3, 4, 5, 6, 7, 8, 9, 10, 11, 12], 13) (by simp)
  refine wpAnyH_take (listed := LR 29 [0, 1, 2, 3, 4, 5, 6, 7, 8, 9, 10, 11, 12]) (v := .slice (some ⟨g, off, none⟩) n c) ho hs hfr.1 hfr.2 (hQ _ _) (Or.inl ⟨((wantedB hog7 dog7 hg (by (repeat (first | rw [tmps_same _ _ (by (try simp only [put_size]); omega)] | rw [tmps_far _ _ (by decide)])))).trans (by decide)), fun w' hS => run_loadG _ _ hop w' (by (repeat (first | rw [eval_same _ _ (by (try simp only [put_size]); omega)] | rw [eval_far _ _ (by decide)]))) (LG _ hS)⟩) hS0 ?_
  rw [hd, ← LR_snoc]
  clear ho hg hop hd hfr
  obtain ⟨o14, ho, hg, hop, hd⟩ := isOpG_out q14
  have hfr := hall ([0, 1, 2, 3, 4, 5, 6, 7, 8, 9, 10, 11, 12, 13], 14) (by simp)
  refine wpAnyH_take (listed := LR 29 [0, 1, 2, 3, 4, 5, 6, 7, 8, 9, 10, 11, 12, 13]) (v := .int .i64 (k : Int)) ho hs hfr.1 hfr.2 (hQ _ _) (Or.inl ⟨((wantedB hog7 dog7 hg (by (repeat (first | rw [tmps_same _ _ (by (try simp only [put_size]); omega)] | rw [tmps_far _ _ (by decide)])))).trans (by decide)), fun w' hS => run_move _ _ hop w' (by (repeat rw [eval_far _ _ (by decide)]); exact e10)⟩) hS0 ?_
  rw [hd, ← LR_snoc]
  clear ho hg hop hd hfr
  obtain ⟨o15, ho, hg, hop, hd⟩ := isOpG_out q15
  have hfr := hall ([0, 1, 2, 3, 4, 5, 6, 7, 8, 9, 10, 11, 12, 13, 14], 15) (by simp)
  refine wpAnyH_take (listed := LR 29 [0, 1, 2, 3, 4, 5, 6, 7, 8, 9, 10, 11, 12, 13, 14]) (v := .pointer (some ⟨g, off + k, none⟩)) ho hs hfr.1 hfr.2 (hQ _ _) (Or.inl ⟨((wantedB hog7 dog7 hg (by (repeat (first | rw [tmps_same _ _ (by (try simp only [put_size]); omega)] | rw [tmps_far _ _ (by decide)])))).trans (by decide)), fun w' hS => run_idxP _ _ hop w' (by (repeat (first | rw [eval_same _ _ (by (try simp only [put_size]); omega)] | rw [eval_far _ _ (by decide)]))) (by (repeat (first | rw [eval_same _ _ (by (try simp only [put_size]); omega)] | rw [eval_far _ _ (by decide)]))) hk⟩) hS0 ?_
  rw [hd, ← LR_snoc]
  clear ho hg hop hd hfr
  obtain ⟨o16, ho, hg, hop, hd⟩ := isOpG_out q16
  have hfr := hall ([0, 1, 2, 3, 4, 5, 6, 7, 8, 9, 10, 11, 12, 13, 14, 15], 16) (by simp)
  refine wpAnyH_take (listed := LR 29 [0, 1, 2, 3, 4, 5, 6, 7, 8, 9, 10, 11, 12, 13, 14, 15]) (v := .string s) ho hs hfr.1 hfr.2 (hQ _ _) (Or.inl ⟨((wantedB hog7 dog7 hg (by (repeat (first | rw [tmps_same _ _ (by (try simp only [put_size]); omega)] | rw [tmps_far _ _ (by decide)])))).trans (by decide)), fun w' hS => run_loadG _ _ hop w' (by (repeat (first | rw [eval_same _ _ (by (try simp only [put_size]); omega)] | rw [eval_far _ _ (by decide)]))) (LS _ hS)⟩) hS0 ?_
  rw [hd, ← LR_snoc]
  clear ho hg hop hd hfr
  refine wpAnyH_all r17 (by simp) ?_
  intro i hi
  obtain rfl := List.mem_singleton.1 hi
  obtain ⟨o17, ho, hg, hop, hd⟩ := isOpG_out q17
  have x17_0 : ((((((((((((((((((a0.put (some 65) (hv)).put (some 66) (.pointer (some ⟨b7, 3, none⟩))).put (some 67) (.slice (some ⟨g, off, none⟩) n c)).put (some 68) (.int .i64 (k : Int))).put (some 69) (.pointer (some ⟨g, off + k, none⟩))).put (some 70) (.string s)).put (some 71) (.bool false)).put (some 72) (.bool false)).put (some 73) (.pointer (some ⟨b7, 3, none⟩))).put (some 74) (.slice (some ⟨g, off, none⟩) n c)).put (some 75) (.int .i64 (k : Int))).put (some 76) (.slice (some ⟨g, off, none⟩) k c)).put (some 77) (.pointer (some ⟨b7, 3, none⟩))).put (some 78) (.slice (some ⟨g, off, none⟩) n c)).put (some 79) (.int .i64 (k : Int))).put (some 80) (.pointer (some ⟨g, off + k, none⟩))).put (some 81) (.string s))).eval (.tmp 76) = .slice (some ⟨g, off, none⟩) k c := (by (repeat (first | rw [eval_same _ _ (by (try simp only [put_size]); omega)] | rw [eval_far _ _ (by decide)])))
  have x17_1 : ((((((((((((((((((a0.put (some 65) (hv)).put (some 66) (.pointer (some ⟨b7, 3, none⟩))).put (some 67) (.slice (some ⟨g, off, none⟩) n c)).put (some 68) (.int .i64 (k : Int))).put (some 69) (.pointer (some ⟨g, off + k, none⟩))).put (some 70) (.string s)).put (some 71) (.bool false)).put (some 72) (.bool false)).put (some 73) (.pointer (some ⟨b7, 3, none⟩))).put (some 74) (.slice (some ⟨g, off, none⟩) n c)).put (some 75) (.int .i64 (k : Int))).put (some 76) (.slice (some ⟨g, off, none⟩) k c)).put (some 77) (.pointer (some ⟨b7, 3, none⟩))).put (some 78) (.slice (some ⟨g, off, none⟩) n c)).put (some 79) (.int .i64 (k : Int))).put (some 80) (.pointer (some ⟨g, off + k, none⟩))).put (some 81) (.string s))).eval (.tmp 81) = .string s := (by (repeat (first | rw [eval_same _ _ (by (try simp only [put_size]); omega)] | rw [eval_far _ _ (by decide)])))
  refine wpOp_callG ho ((wantedB hog7 dog7 hg (by (repeat (first | rw [tmps_same _ _ (by (try simp only [put_size]); omega)] | rw [tmps_far _ _ (by decide)])))).trans (by decide)) (run_callV 8 Tryd.func8 (by kernel_rfl) (by kernel_rfl) #[.tmp 76, .tmp 81] _ hop #[.slice (some ⟨g, off, none⟩) k c, .string s] (by simp only [List.map_toArray, List.map_cons, List.map_nil, x17_0, x17_1])) ?_
  refine (H2 _ hS0).mono ?_
  rintro e u2 ⟨rfl, rfl⟩
  refine ⟨_, rfl, hS0, ?_⟩
  rw [hd]
  clear ho hg hop hd
  rw [← LR_snoc]
  obtain ⟨o18, ho, hg, hop, hd⟩ := isOpG_out q18
  have hfr := hall ([0, 1, 2, 3, 4, 5, 6, 7, 8, 9, 10, 11, 12, 13, 14, 15, 16, 17], 18) (by simp)
  refine wpAnyH_take (listed := LR 29 [0, 1, 2, 3, 4, 5, 6, 7, 8, 9, 10, 11, 12, 13, 14, 15, 16, 17]) (v := .bool false) ho hs hfr.1 hfr.2 (hQ _ _) (Or.inl ⟨(wantedN hg), fun w' hS => run_pickF _ _ hop w' (by (repeat (first | rw [eval_same _ _ (by (try simp only [put_size]); omega)] | rw [eval_far _ _ (by decide)]))) (by (repeat (first | rw [eval_same _ _ (by (try simp only [put_size]); omega)] | rw [eval_far _ _ (by decide)])))⟩) hS0 ?_
  rw [hd, ← LR_snoc]
  clear ho hg hop hd hfr
  obtain ⟨o19, ho, hg, hop, hd⟩ := isOpG_out q19
  have hfr := hall ([0, 1, 2, 3, 4, 5, 6, 7, 8, 9, 10, 11, 12, 13, 14, 15, 16, 17, 18], 19) (by simp)
  refine wpAnyH_take (listed := LR 29 [0, 1, 2, 3, 4, 5, 6, 7, 8, 9, 10, 11, 12, 13, 14, 15, 16, 17, 18]) (v := .bool false) ho hs hfr.1 hfr.2 (hQ _ _) (Or.inl ⟨(wantedN hg), fun w' hS => run_move _ _ hop w' (by (repeat (first | rw [eval_same _ _ (by (try simp only [put_size]); omega)] | rw [eval_far _ _ (by decide)])))⟩) hS0 ?_
  rw [hd, ← LR_snoc]
  clear ho hg hop hd hfr
  obtain ⟨o20, ho, hg, hop, hd⟩ := isOpG_out q20
  have hfr := hall ([0, 1, 2, 3, 4, 5, 6, 7, 8, 9, 10, 11, 12, 13, 14, 15, 16, 17, 18, 19], 20) (by simp)
  refine wpAnyH_take (listed := LR 29 [0, 1, 2, 3, 4, 5, 6, 7, 8, 9, 10, 11, 12, 13, 14, 15, 16, 17, 18, 19]) (v := vv) ho hs hfr.1 hfr.2 (hQ _ _) (Or.inl ⟨((wantedB hog19 dog19 hg (by (repeat (first | rw [tmps_same _ _ (by (try simp only [put_size]); omega)] | rw [tmps_far _ _ (by decide)])))).trans (by decide)), fun w' hS => run_move _ _ hop w' (by (repeat rw [eval_far _ _ (by decide)]); exact e9)⟩) hS0 ?_
  rw [hd, ← LR_snoc]
  clear ho hg hop hd hfr
  obtain ⟨o21, ho, hg, hop, hd⟩ := isOpG_out q21
  have hfr := hall ([0, 1, 2, 3, 4, 5, 6, 7, 8, 9, 10, 11, 12, 13, 14, 15, 16, 17, 18, 19, 20], 21) (by simp)
  refine wpAnyH_take (listed := LR 29 [0, 1, 2, 3, 4, 5, 6, 7, 8, 9, 10, 11, 12, 13, 14, 15, 16, 17, 18, 19, 20]) (v := .pointer (some ⟨b7, 3, none⟩)) ho hs hfr.1 hfr.2 (hQ _ _) (Or.inl ⟨((wantedB hog19 dog19 hg (by (repeat (first | rw [tmps_same _ _ (by (try simp only [put_size]); omega)] | rw [tmps_far _ _ (by decide)])))).trans (by decide)), fun w' hS => run_fldSt3 _ _ hop w' (by (repeat rw [eval_far _ _ (by decide)]); exact e7)⟩) hS0 ?_
  rw [hd, ← LR_snoc]
  clear ho hg hop hd hfr
  obtain ⟨o22, ho, hg, hop, hd⟩ := isOpG_out q22
  have hfr := hall ([0, 1, 2, 3, 4, 5, 6, 7, 8, 9, 10, 11, 12, 13, 14, 15, 16, 17, 18, 19, 20, 21], 22) (by simp)
  refine wpAnyH_take (listed := LR 29 [0, 1, 2, 3, 4, 5, 6, 7, 8, 9, 10, 11, 12, 13, 14, 15, 16, 17, 18, 19, 20, 21]) (v := .slice (some ⟨g, off, none⟩) n c) ho hs hfr.1 hfr.2 (hQ _ _) (Or.inl ⟨((wantedB hog19 dog19 hg (by (repeat (first | rw [tmps_same _ _ (by (try simp only [put_size]); omega)] | rw [tmps_far _ _ (by decide)])))).trans (by decide)), fun w' hS => run_loadG _ _ hop w' (by (repeat (first | rw [eval_same _ _ (by (try simp only [put_size]); omega)] | rw [eval_far _ _ (by decide)]))) (LG _ hS)⟩) hS0 ?_
  rw [hd, ← LR_snoc]
  clear ho hg hop hd hfr
  obtain ⟨o23, ho, hg, hop, hd⟩ := isOpG_out q23
  have hfr := hall ([0, 1, 2, 3, 4, 5, 6, 7, 8, 9, 10, 11, 12, 13, 14, 15, 16, 17, 18, 19, 20, 21, 22], 23) (by simp)
  refine wpAnyH_take (listed := LR 29 [0, 1, 2, 3, 4, 5, 6, 7, 8, 9, 10, 11, 12, 13, 14, 15, 16, 17, 18, 19, 20, 21, 22]) (v := .int .i64 (k : Int)) ho hs hfr.1 hfr.2 (hQ _ _) (Or.inl ⟨((wantedB hog19 dog19 hg (by (repeat (first | rw [tmps_same _ _ (by (try simp only [put_size]); omega)] | rw [tmps_far _ _ (by decide)])))).trans (by decide)), fun w' hS => run_move _ _ hop w' (by (repeat rw [eval_far _ _ (by decide)]); exact e10)⟩) hS0 ?_
  rw [hd, ← LR_snoc]
  clear ho hg hop hd hfr
  obtain ⟨o24, ho, hg, hop, hd⟩ := isOpG_out q24
  have hfr := hall ([0, 1, 2, 3, 4, 5, 6, 7, 8, 9, 10, 11, 12, 13, 14, 15, 16, 17, 18, 19, 20, 21, 22, 23], 24) (by simp)
  refine wpAnyH_take (listed := LR 29 [0, 1, 2, 3, 4, 5, 6, 7, 8, 9, 10, 11, 12, 13, 14, 15, 16, 17, 18, 19, 20, 21, 22, 23]) (v := .pointer (some ⟨g, off + k, none⟩)) ho hs hfr.1 hfr.2 (hQ _ _) (Or.inl ⟨((wantedB hog19 dog19 hg (by (repeat (first | rw [tmps_same _ _ (by (try simp only [put_size]); omega)] | rw [tmps_far _ _ (by decide)])))).trans (by decide)), fun w' hS => run_idxP _ _ hop w' (by (repeat (first | rw [eval_same _ _ (by (try simp only [put_size]); omega)] | rw [eval_far _ _ (by decide)]))) (by (repeat (first | rw [eval_same _ _ (by (try simp only [put_size]); omega)] | rw [eval_far _ _ (by decide)]))) hk⟩) hS0 ?_
  rw [hd, ← LR_snoc]
  clear ho hg hop hd hfr
  obtain ⟨o25, ho, hg, hop, hd⟩ := isOpG_out q25
  have hfr := hall ([0, 1, 2, 3, 4, 5, 6, 7, 8, 9, 10, 11, 12, 13, 14, 15, 16, 17, 18, 19, 20, 21, 22, 23, 24], 25) (by simp)
  refine wpAnyH_take (listed := LR 29 [0, 1, 2, 3, 4, 5, 6, 7, 8, 9, 10, 11, 12, 13, 14, 15, 16, 17, 18, 19, 20, 21, 22, 23, 24]) (v := .string s) ho hs hfr.1 hfr.2 (hQ _ _) (Or.inl ⟨((wantedB hog19 dog19 hg (by (repeat (first | rw [tmps_same _ _ (by (try simp only [put_size]); omega)] | rw [tmps_far _ _ (by decide)])))).trans (by decide)), fun w' hS => run_loadG _ _ hop w' (by (repeat (first | rw [eval_same _ _ (by (try simp only [put_size]); omega)] | rw [eval_far _ _ (by decide)]))) (LS _ hS)⟩) hS0 ?_
  rw [hd, ← LR_snoc]
  clear ho hg hop hd hfr
  refine wpAnyH_all r26 (by simp) ?_
  intro i hi
  obtain rfl := List.mem_singleton.1 hi
  obtain ⟨o26, ho, hg, hop, hd⟩ := isOpG_out q26
  have x26_0 : (((((((((((((((((((((((((((a0.put (some 65) (hv)).put (some 66) (.pointer (some ⟨b7, 3, none⟩))).put (some 67) (.slice (some ⟨g, off, none⟩) n c)).put (some 68) (.int .i64 (k : Int))).put (some 69) (.pointer (some ⟨g, off + k, none⟩))).put (some 70) (.string s)).put (some 71) (.bool false)).put (some 72) (.bool false)).put (some 73) (.pointer (some ⟨b7, 3, none⟩))).put (some 74) (.slice (some ⟨g, off, none⟩) n c)).put (some 75) (.int .i64 (k : Int))).put (some 76) (.slice (some ⟨g, off, none⟩) k c)).put (some 77) (.pointer (some ⟨b7, 3, none⟩))).put (some 78) (.slice (some ⟨g, off, none⟩) n c)).put (some 79) (.int .i64 (k : Int))).put (some 80) (.pointer (some ⟨g, off + k, none⟩))).put (some 81) (.string s)).put (some 82) (.bool false)).put (some 83) (.bool false)).put (some 84) (.bool false)).put (some 85) (vv)).put (some 86) (.pointer (some ⟨b7, 3, none⟩))).put (some 87) (.slice (some ⟨g, off, none⟩) n c)).put (some 88) (.int .i64 (k : Int))).put (some 89) (.pointer (some ⟨g, off + k, none⟩))).put (some 90) (.string s))).eval (.tmp 85) = vv := (by (repeat (first | rw [eval_same _ _ (by (try simp only [put_size]); omega)] | rw [eval_far _ _ (by decide)])))
  have x26_1 : (((((((((((((((((((((((((((a0.put (some 65) (hv)).put (some 66) (.pointer (some ⟨b7, 3, none⟩))).put (some 67) (.slice (some ⟨g, off, none⟩) n c)).put (some 68) (.int .i64 (k : Int))).put (some 69) (.pointer (some ⟨g, off + k, none⟩))).put (some 70) (.string s)).put (some 71) (.bool false)).put (some 72) (.bool false)).put (some 73) (.pointer (some ⟨b7, 3, none⟩))).put (some 74) (.slice (some ⟨g, off, none⟩) n c)).put (some 75) (.int .i64 (k : Int))).put (some 76) (.slice (some ⟨g, off, none⟩) k c)).put (some 77) (.pointer (some ⟨b7, 3, none⟩))).put (some 78) (.slice (some ⟨g, off, none⟩) n c)).put (some 79) (.int .i64 (k : Int))).put (some 80) (.pointer (some ⟨g, off + k, none⟩))).put (some 81) (.string s)).put (some 82) (.bool false)).put (some 83) (.bool false)).put (some 84) (.bool false)).put (some 85) (vv)).put (some 86) (.pointer (some ⟨b7, 3, none⟩))).put (some 87) (.slice (some ⟨g, off, none⟩) n c)).put (some 88) (.int .i64 (k : Int))).put (some 89) (.pointer (some ⟨g, off + k, none⟩))).put (some 90) (.string s))).eval (.tmp 90) = .string s := (by (repeat (first | rw [eval_same _ _ (by (try simp only [put_size]); omega)] | rw [eval_far _ _ (by decide)])))
  refine wpOp_callG ho ((wantedB hog19 dog19 hg (by (repeat (first | rw [tmps_same _ _ (by (try simp only [put_size]); omega)] | rw [tmps_far _ _ (by decide)])))).trans (by decide)) (run_callV 8 Tryd.func8 (by kernel_rfl) (by kernel_rfl) #[.tmp 85, .tmp 90] _ hop #[vv, .string s] (by simp only [List.map_toArray, List.map_cons, List.map_nil, x26_0, x26_1])) ?_
  refine (H3 _ hS0).mono ?_
  rintro e u3 ⟨rfl, rfl⟩
  refine ⟨_, rfl, hS0, ?_⟩
  rw [hd]
  clear ho hg hop hd
  rw [← LR_snoc]
  obtain ⟨o27, ho, hg, hop, hd⟩ := isOpG_out q27
  have hfr := hall ([0, 1, 2, 3, 4, 5, 6, 7, 8, 9, 10, 11, 12, 13, 14, 15, 16, 17, 18, 19, 20, 21, 22, 23, 24, 25, 26], 27) (by simp)
  refine wpAnyH_take (listed := LR 29 [0, 1, 2, 3, 4, 5, 6, 7, 8, 9, 10, 11, 12, 13, 14, 15, 16, 17, 18, 19, 20, 21, 22, 23, 24, 25, 26]) (v := .bool false) ho hs hfr.1 hfr.2 (hQ _ _) (Or.inl ⟨((wantedB hog19 dog19 hg (by (repeat (first | rw [tmps_same _ _ (by (try simp only [put_size]); omega)] | rw [tmps_far _ _ (by decide)])))).trans (by decide)), fun w' hS => run_notV (b := true) _ _ hop w' (by (repeat (first | rw [eval_same _ _ (by (try simp only [put_size]); omega)] | rw [eval_far _ _ (by decide)])))⟩) hS0 ?_
  rw [hd, ← LR_snoc]
  clear ho hg hop hd hfr
  obtain ⟨o28, ho, hg, hop, hd⟩ := isOpG_out q28
  have hfr := hall ([0, 1, 2, 3, 4, 5, 6, 7, 8, 9, 10, 11, 12, 13, 14, 15, 16, 17, 18, 19, 20, 21, 22, 23, 24, 25, 26, 27], 28) (by simp)
  refine wpAnyH_take (listed := LR 29 [0, 1, 2, 3, 4, 5, 6, 7, 8, 9, 10, 11, 12, 13, 14, 15, 16, 17, 18, 19, 20, 21, 22, 23, 24, 25, 26, 27]) (v := .bool false) ho hs hfr.1 hfr.2 (hQ _ _) (Or.inl ⟨(wantedN hg), fun w' hS => run_pickF _ _ hop w' (by (repeat (first | rw [eval_same _ _ (by (try simp only [put_size]); omega)] | rw [eval_far _ _ (by decide)]))) (by (repeat (first | rw [eval_same _ _ (by (try simp only [put_size]); omega)] | rw [eval_far _ _ (by decide)])))⟩) hS0 ?_
  rw [hd, ← LR_snoc]
  clear ho hg hop hd hfr
  exact wpAnyH_done rend (F _ hS0) _
end Go.Proofs.YtdchfmokicfmnaaDoor
