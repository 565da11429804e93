import Derived.Test.YteabclfhmapabaaDoorPwM
namespace Go.Proofs.YteabclfhmapabaaDoor
open Go.RowKit Go.Maps Go.Shelf
set_option linter.unusedVariables false
set_option linter.unusedSimpArgs false
attribute [local go_sem ↓] Go.wp_at_zero Go.wp_at_succ
attribute [local go_sem] Oper.semAt_some
attribute [-go_sem] loadVar
def pw13_takes : List (List Nat × Nat) := [([], 0), ([0], 1), ([0, 1], 2), ([0, 1, 2], 3), ([0, 1, 2, 3], 4), ([0, 1, 2, 3, 4], 5), ([0, 1, 2, 3, 4, 5], 6), ([0, 1, 2, 3, 4, 5, 6], 7), ([0, 1, 2, 3, 4, 5, 6, 7], 8), ([0, 1, 2, 3, 4, 5, 6, 7, 8], 9), ([0, 1, 2, 3, 4, 5, 6, 7, 8, 9], 10), ([0, 1, 2, 3, 4, 5, 6, 7, 8, 9, 10], 11), ([0, 1, 2, 3, 4, 5, 6, 7, 8, 9, 10, 11], 12)]
set_option maxHeartbeats 3200000 in
theorem pw13 {ops : Array Oper} {Q : Exit → Act → World → Prop} {S : World → Prop} {a0 : Act} {w5 : World} {b9 b12 g2 f2 c2 g3 f3 c3 n j : Nat} {x y : Int} {db : Bool}
    (q0 : isOpG ops 0 none (.fieldAddr 30 (.tmp 9) 1) (some 70))
    (q1 : isOpG ops 1 none (.load 28 (.tmp 70)) (some 71))
    (q2 : isOpG ops 2 none (.move (.tmp 14)) (some 72))
    (q3 : isOpG ops 3 none (.indexAddr 28 (.tmp 71) (.tmp 72)) (some 73))
    (q4 : isOpG ops 4 none (.fieldAddr 40 (.tmp 73) 1) (some 74))
    (q5 : isOpG ops 5 none (.load 3 (.tmp 74)) (some 75))
    (q6 : isOpG ops 6 none (.fieldAddr 30 (.tmp 12) 1) (some 76))
    (q7 : isOpG ops 7 none (.load 28 (.tmp 76)) (some 77))
    (q8 : isOpG ops 8 none (.move (.tmp 14)) (some 78))
    (q9 : isOpG ops 9 none (.indexAddr 28 (.tmp 77) (.tmp 78)) (some 79))
    (q10 : isOpG ops 10 none (.fieldAddr 40 (.tmp 79) 1) (some 80))
    (q11 : isOpG ops 11 none (.load 3 (.tmp 80)) (some 81))
    (q12 : isOpG ops 12 none (.binOp .neq 3 (.tmp 75) (.tmp 81) 3) (some 82))
    (hs : Region.noSelect ops = true) (hq : (pw13_takes.all fun p => Region.free .any ops (LR 13 p.1) p.2 && (Region.ready .any ops (LR 13 p.1)).contains p.2) = true)
    (rend : Region.ready .any ops (LR 13 [0, 1, 2, 3, 4, 5, 6, 7, 8, 9, 10, 11, 12]) = [])
    (hQ : ∀ (d : Option Tmp) (v : Value) c a w, Q (.panic c) (a.put d v) w → Q (.panic c) a w)
    (hsz : 82 < a0.tmps.size) (e9 : a0.eval (.tmp 9) = .pointer (some ⟨b9, 0, none⟩)) (e12 : a0.eval (.tmp 12) = .pointer (some ⟨b12, 0, none⟩)) (e14 : a0.eval (.tmp 14) = .int .i64 (j : Int))
    (hS0 : S w5.drew)
    (hj : j < n) (LB : ∀ u, S u → (loadVar 28 ⟨b9, 3, none⟩).run Tryd.prog u = .ok (.slice (some ⟨g2, f2, none⟩) n c2) u) (LC : ∀ u, S u → (loadVar 28 ⟨b12, 3, none⟩).run Tryd.prog u = .ok (.slice (some ⟨g3, f3, none⟩) n c3) u) (LX : ∀ u, S u → (loadVar 3 ⟨g2, f2 + j * 4 + 1, none⟩).run Tryd.prog u = .ok (.int .i64 x) u) (LY : ∀ u, S u → (loadVar 3 ⟨g3, f3 + j * 4 + 1, none⟩).run Tryd.prog u = .ok (.int .i64 y) u) (NQ : ∀ u : World, (binOp .neq 3 (.int .i64 x) (.int .i64 y)).run Tryd.prog u = .ok (.bool db) u)
    (F : ∀ (wc : World), S wc → Q .normal (((((((((((((a0.put (some 70) (.pointer (some ⟨b9, 3, none⟩))).put (some 71) (.slice (some ⟨g2, f2, none⟩) n c2)).put (some 72) (.int .i64 (j : Int))).put (some 73) (.pointer (some ⟨g2, f2 + j * 4, none⟩))).put (some 74) (.pointer (some ⟨g2, f2 + j * 4 + 1, none⟩))).put (some 75) (.int .i64 x)).put (some 76) (.pointer (some ⟨b12, 3, none⟩))).put (some 77) (.slice (some ⟨g3, f3, none⟩) n c3)).put (some 78) (.int .i64 (j : Int))).put (some 79) (.pointer (some ⟨g3, f3 + j * 4, none⟩))).put (some 80) (.pointer (some ⟨g3, f3 + j * 4 + 1, none⟩))).put (some 81) (.int .i64 y)).put (some 82) (.bool db)) wc) :
    wpAnyH Tryd.prog .any ops Q S 13 (LR 13 []) a0 w5.drew := by
  have hall : ∀ p ∈ pw13_takes, Region.free .any ops (LR 13 p.1) p.2 = true ∧ (Region.ready .any ops (LR 13 p.1)).contains p.2 = true := by
    intro p hp
    have := List.all_eq_true.1 hq p hp
    simpa using this
  unfold pw13_takes at hall
  obtain ⟨o0, ho, hg, hop, hd⟩ := isOpG_out q0
  have hfr := hall ([], 0) (by simp)
  refine wpAnyH_take (listed := LR 13 []) (v := .pointer (some ⟨b9, 3, none⟩)) ho hs hfr.1 hfr.2 (hQ _ _) (Or.inl ⟨(wantedN hg), fun w' hS => run_fldPn1 _ _ hop w' (by (repeat rw [eval_far _ _ (by decide)]); exact e9)⟩) hS0 ?_
  rw [hd, ← LR_snoc]
  clear ho hg hop hd hfr
  obtain ⟨o1, ho, hg, hop, hd⟩ := isOpG_out q1
  have hfr := hall ([0], 1) (by simp)
  refine wpAnyH_take (listed := LR 13 [0]) (v := .slice (some ⟨g2, f2, none⟩) n c2) ho hs hfr.1 hfr.2 (hQ _ _) (Or.inl ⟨(wantedN hg), fun w' hS => run_loadG _ _ hop w' (by (repeat (first | rw [eval_same _ _ (by (try simp only [put_size]); omega)] | rw [eval_far _ _ (by decide)]))) (LB _ hS)⟩) hS0 ?_
  rw [hd, ← LR_snoc]
  clear ho hg hop hd hfr
  obtain ⟨o2, ho, hg, hop, hd⟩ := isOpG_out q2
  have hfr := hall ([0, 1], 2) (by simp)
  refine wpAnyH_take (listed := LR 13 [0, 1]) (v := .int .i64 (j : Int)) ho hs hfr.1 hfr.2 (hQ _ _) (Or.inl ⟨(wantedN hg), fun w' hS => run_move _ _ hop w' (by (repeat rw [eval_far _ _ (by decide)]); exact e14)⟩) hS0 ?_
  rw [hd, ← LR_snoc]
  clear ho hg hop hd hfr
  obtain ⟨o3, ho, hg, hop, hd⟩ := isOpG_out q3
  have hfr := hall ([0, 1, 2], 3) (by simp)
  refine wpAnyH_take (listed := LR 13 [0, 1, 2]) (v := .pointer (some ⟨g2, f2 + j * 4, none⟩)) ho hs hfr.1 hfr.2 (hQ _ _) (Or.inl ⟨(wantedN hg), fun w' hS => run_idxZ _ _ hop w' (by (repeat (first | rw [eval_same _ _ (by (try simp only [put_size]); omega)] | rw [eval_far _ _ (by decide)]))) (by (repeat (first | rw [eval_same _ _ (by (try simp only [put_size]); omega)] | rw [eval_far _ _ (by decide)]))) hj⟩) hS0 ?_
  rw [hd, ← LR_snoc]
  clear ho hg hop hd hfr
  obtain ⟨o4, ho, hg, hop, hd⟩ := isOpG_out q4
  have hfr := hall ([0, 1, 2, 3], 4) (by simp)
  refine wpAnyH_take (listed := LR 13 [0, 1, 2, 3]) (v := .pointer (some ⟨g2, f2 + j * 4 + 1, none⟩)) ho hs hfr.1 hfr.2 (hQ _ _) (Or.inl ⟨(wantedN hg), fun w' hS => run_fldZ1 _ _ hop w' (by (repeat (first | rw [eval_same _ _ (by (try simp only [put_size]); omega)] | rw [eval_far _ _ (by decide)])))⟩) hS0 ?_
  rw [hd, ← LR_snoc]
  clear ho hg hop hd hfr
  obtain ⟨o5, ho, hg, hop, hd⟩ := isOpG_out q5
  have hfr := hall ([0, 1, 2, 3, 4], 5) (by simp)
  refine wpAnyH_take (listed := LR 13 [0, 1, 2, 3, 4]) (v := .int .i64 x) ho hs hfr.1 hfr.2 (hQ _ _) (Or.inl ⟨(wantedN hg), fun w' hS => run_loadG _ _ hop w' (by (repeat (first | rw [eval_same _ _ (by (try simp only [put_size]); omega)] | rw [eval_far _ _ (by decide)]))) (LX _ hS)⟩) hS0 ?_
  rw [hd, ← LR_snoc]
  clear ho hg hop hd hfr
  obtain ⟨o6, ho, hg, hop, hd⟩ := isOpG_out q6
  have hfr := hall ([0, 1, 2, 3, 4, 5], 6) (by simp)
  refine wpAnyH_take (listed := LR 13 [0, 1, 2, 3, 4, 5]) (v := .pointer (some ⟨b12, 3, none⟩)) ho hs hfr.1 hfr.2 (hQ _ _) (Or.inl ⟨(wantedN hg), fun w' hS => run_fldPn1 _ _ hop w' (by (repeat rw [eval_far _ _ (by decide)]); exact e12)⟩) hS0 ?_
  rw [hd, ← LR_snoc]
  clear ho hg hop hd hfr
  obtain ⟨o7, ho, hg, hop, hd⟩ := isOpG_out q7
  have hfr := hall ([0, 1, 2, 3, 4, 5, 6], 7) (by simp)
  refine wpAnyH_take (listed := LR 13 [0, 1, 2, 3, 4, 5, 6]) (v := .slice (some ⟨g3, f3, none⟩) n c3) ho hs hfr.1 hfr.2 (hQ _ _) (Or.inl ⟨(wantedN hg), fun w' hS => run_loadG _ _ hop w' (by (repeat (first | rw [eval_same _ _ (by (try simp only [put_size]); omega)] | rw [eval_far _ _ (by decide)]))) (LC _ hS)⟩) hS0 ?_
  rw [hd, ← LR_snoc]
  clear ho hg hop hd hfr
  obtain ⟨o8, ho, hg, hop, hd⟩ := isOpG_out q8
  have hfr := hall ([0, 1, 2, 3, 4, 5, 6, 7], 8) (by simp)
  refine wpAnyH_take (listed := LR 13 [0, 1, 2, 3, 4, 5, 6, 7]) (v := .int .i64 (j : Int)) ho hs hfr.1 hfr.2 (hQ _ _) (Or.inl ⟨(wantedN hg), fun w' hS => run_move _ _ hop w' (by (repeat rw [eval_far _ _ (by decide)]); exact e14)⟩) hS0 ?_
  rw [hd, ← LR_snoc]
  clear ho hg hop hd hfr
  obtain ⟨o9, ho, hg, hop, hd⟩ := isOpG_out q9
  have hfr := hall ([0, 1, 2, 3, 4, 5, 6, 7, 8], 9) (by simp)
  refine wpAnyH_take (listed := LR 13 [0, 1, 2, 3, 4, 5, 6, 7, 8]) (v := .pointer (some ⟨g3, f3 + j * 4, none⟩)) ho hs hfr.1 hfr.2 (hQ _ _) (Or.inl ⟨(wantedN hg), fun w' hS => run_idxZ _ _ hop w' (by (repeat (first | rw [eval_same _ _ (by (try simp only [put_size]); omega)] | rw [eval_far _ _ (by decide)]))) (by (repeat (first | rw [eval_same _ _ (by (try simp only [put_size]); omega)] | rw [eval_far _ _ (by decide)]))) hj⟩) hS0 ?_
  rw [hd, ← LR_snoc]
  clear ho hg hop hd hfr
  obtain ⟨o10, ho, hg, hop, hd⟩ := isOpG_out q10
  have hfr := hall ([0, 1, 2, 3, 4, 5, 6, 7, 8, 9], 10) (by simp)
  refine wpAnyH_take (listed := LR 13 [0, 1, 2, 3, 4, 5, 6, 7, 8, 9]) (v := .pointer (some ⟨g3, f3 + j * 4 + 1, none⟩)) ho hs hfr.1 hfr.2 (hQ _ _) (Or.inl ⟨(wantedN hg), fun w' hS => run_fldZ1 _ _ hop w' (by (repeat (first | rw [eval_same _ _ (by (try simp only [put_size]); omega)] | rw [eval_far _ _ (by decide)])))⟩) hS0 ?_
  rw [hd, ← LR_snoc]
  clear ho hg hop hd hfr
  obtain ⟨o11, ho, hg, hop, hd⟩ := isOpG_out q11
  have hfr := hall ([0, 1, 2, 3, 4, 5, 6, 7, 8, 9, 10], 11) (by simp)
  refine wpAnyH_take (listed := LR 13 [0, 1, 2, 3, 4, 5, 6, 7, 8, 9, 10]) (v := .int .i64 y) ho hs hfr.1 hfr.2 (hQ _ _) (Or.inl ⟨(wantedN hg), fun w' hS => run_loadG _ _ hop w' (by (repeat (first | rw [eval_same _ _ (by (try simp only [put_size]); omega)] | rw [eval_far _ _ (by decide)]))) (LY _ hS)⟩) hS0 ?_
  rw [hd, ← LR_snoc]
  clear ho hg hop hd hfr
  obtain ⟨o12, ho, hg, hop, hd⟩ := isOpG_out q12
  have hfr := hall ([0, 1, 2, 3, 4, 5, 6, 7, 8, 9, 10, 11], 12) (by simp)
  refine wpAnyH_take (listed := LR 13 [0, 1, 2, 3, 4, 5, 6, 7, 8, 9, 10, 11]) (v := .bool db) ho hs hfr.1 hfr.2 (hQ _ _) (Or.inl ⟨(wantedN hg), fun w' hS => run_binV _ _ hop w' (by (repeat (first | rw [eval_same _ _ (by (try simp only [put_size]); omega)] | rw [eval_far _ _ (by decide)]))) (by (repeat (first | rw [eval_same _ _ (by (try simp only [put_size]); omega)] | rw [eval_far _ _ (by decide)]))) (by first | rfl | go_simp) (NQ w')⟩) hS0 ?_
  rw [hd, ← LR_snoc]
  clear ho hg hop hd hfr
  exact wpAnyH_done rend (F _ hS0) _
def pw24_takes : List (List Nat × Nat) := [([], 0), ([0], 1), ([0, 1], 2), ([0, 1, 2], 3), ([0, 1, 2, 3], 4), ([0, 1, 2, 3, 4], 5), ([0, 1, 2, 3, 4, 5], 6), ([0, 1, 2, 3, 4, 5, 6, 7], 8), ([0, 1, 2, 3, 4, 5, 6, 7, 8], 9), ([0, 1, 2, 3, 4, 5, 6, 7, 8, 9], 10), ([0, 1, 2, 3, 4, 5, 6, 7, 8, 9, 10], 11), ([0, 1, 2, 3, 4, 5, 6, 7, 8, 9, 10, 11], 12), ([0, 1, 2, 3, 4, 5, 6, 7, 8, 9, 10, 11, 12], 13), ([0, 1, 2, 3, 4, 5, 6, 7, 8, 9, 10, 11, 12, 13], 14), ([0, 1, 2, 3, 4, 5, 6, 7, 8, 9, 10, 11, 12, 13, 14], 15), ([0, 1, 2, 3, 4, 5, 6, 7, 8, 9, 10, 11, 12, 13, 14, 15], 16), ([0, 1, 2, 3, 4, 5, 6, 7, 8, 9, 10, 11, 12, 13, 14, 15, 16], 17)]
set_option maxHeartbeats 3200000 in
theorem pw24 {ops : Array Oper} {Q : Exit → Act → World → Prop} {S : World → Prop} {a0 : Act} {w5 : World} {b16 b17 g f n cc k : Nat} {va : Value} {s mo : ByteArray} {ty1 : Array TypeId}
    (q0 : isOpG ops 0 none (.fieldAddr 40 (.tmp 16) 3) (some 116))
    (q1 : isOpG ops 1 none (.load 26 (.tmp 116)) (some 117))
    (q2 : isOpG ops 2 none (.fieldAddr 40 (.tmp 17) 3) (some 118))
    (q3 : isOpG ops 3 none (.load 26 (.tmp 118)) (some 119))
    (q4 : isOpG ops 4 none (.move (.tmp 18)) (some 120))
    (q5 : isOpG ops 5 none (.indexAddr 26 (.tmp 119) (.tmp 120)) (some 121))
    (q6 : isOpG ops 6 none (.load 9 (.tmp 121)) (some 122))
    (q7 : isOpG ops 7 none (.call { callee := .value (.func 21), args := #[.tmp 117, .tmp 122], argTypes := ty1 }) (some 123))
    (q8 : isOpG ops 8 none (.unOp .not 4 (.tmp 123)) (some 124))
    (q9 : isOpG ops 9 none (.move (.tmp 124)) (some 125))
    (q10 : isOpG ops 10 (some (9, false)) (.fieldAddr 40 (.tmp 17) 3) (some 126))
    (q11 : isOpG ops 11 (some (9, false)) (.load 26 (.tmp 126)) (some 127))
    (q12 : isOpG ops 12 (some (9, false)) (.move (.tmp 18)) (some 128))
    (q13 : isOpG ops 13 (some (9, false)) (.indexAddr 26 (.tmp 127) (.tmp 128)) (some 129))
    (q14 : isOpG ops 14 (some (9, false)) (.load 9 (.tmp 129)) (some 130))
    (q15 : isOpG ops 15 (some (9, false)) (.move (.tmp 2)) (some 131))
    (q16 : isOpG ops 16 (some (9, false)) (.binOp .eql 9 (.tmp 130) (.tmp 131) 9) (some 132))
    (q17 : isOpG ops 17 none (.pick (.tmp 125) (.const (.bool true)) (.tmp 132)) (some 133))
    (hs : Region.noSelect ops = true) (hq : (pw24_takes.all fun p => Region.free .any ops (LR 18 p.1) p.2 && (Region.ready .any ops (LR 18 p.1)).contains p.2) = true)
    (r7 : Region.ready .any ops (LR 18 [0, 1, 2, 3, 4, 5, 6]) = [7])
    (rend : Region.ready .any ops (LR 18 [0, 1, 2, 3, 4, 5, 6, 7, 8, 9, 10, 11, 12, 13, 14, 15, 16, 17]) = [])
    (hQ : ∀ (d : Option Tmp) (v : Value) c a w, Q (.panic c) (a.put d v) w → Q (.panic c) a w)
    (hsz : 133 < a0.tmps.size) (e2 : a0.eval (.tmp 2) = .string mo) (e16 : a0.eval (.tmp 16) = .pointer (some ⟨b16, 0, none⟩)) (e17 : a0.eval (.tmp 17) = .pointer (some ⟨b17, 0, none⟩)) (e18 : a0.eval (.tmp 18) = .int .i64 (k : Int))
    (hS0 : S w5.drew)
    (hk : k < n) (LA : ∀ u, S u → (loadVar 26 ⟨b16, 3, none⟩).run Tryd.prog u = .ok va u) (LB : ∀ u, S u → (loadVar 26 ⟨b17, 3, none⟩).run Tryd.prog u = .ok (.slice (some ⟨g, f, none⟩) n cc) u) (LS : ∀ u, S u → (loadVar 9 ⟨g, f + k, none⟩).run Tryd.prog u = .ok (.string s) u) (H1 : ∀ u, S u → Calls Tryd.prog 21 #[va, .string s] u fun e w' => e = .returned (.bool true) ∧ w' = u) (EQ : ∀ u : World, (binOp .eql 9 (.string s) (.string mo)).run Tryd.prog u = .ok (.bool false) u)
    (F : ∀ (wc : World), S wc → Q .normal ((((((((((((((((((a0.put (some 116) (.pointer (some ⟨b16, 3, none⟩))).put (some 117) (va)).put (some 118) (.pointer (some ⟨b17, 3, none⟩))).put (some 119) (.slice (some ⟨g, f, none⟩) n cc)).put (some 120) (.int .i64 (k : Int))).put (some 121) (.pointer (some ⟨g, f + k, none⟩))).put (some 122) (.string s)).put (some 123) (.bool true)).put (some 124) (.bool false)).put (some 125) (.bool false)).put (some 126) (.pointer (some ⟨b17, 3, none⟩))).put (some 127) (.slice (some ⟨g, f, none⟩) n cc)).put (some 128) (.int .i64 (k : Int))).put (some 129) (.pointer (some ⟨g, f + k, none⟩))).put (some 130) (.string s)).put (some 131) (.string mo)).put (some 132) (.bool false)).put (some 133) (.bool false)) wc) :
    wpAnyH Tryd.prog .any ops Q S 18 (LR 18 []) a0 w5.drew := by
  have hall : ∀ p ∈ pw24_takes, Region.free .any ops (LR 18 p.1) p.2 = true ∧ (Region.ready .any ops (LR 18 p.1)).contains p.2 = true := by
    intro p hp
    have := List.all_eq_true.1 hq p hp
    simpa using this
  unfold pw24_takes at hall
  obtain ⟨og9, hog9, _, _, dog9⟩ := isOpG_out q9
  obtain ⟨o0, ho, hg, hop, hd⟩ := isOpG_out q0
  have hfr := hall ([], 0) (by simp)
  refine wpAnyH_take (listed := LR 18 []) (v := .pointer (some ⟨b16, 3, none⟩)) ho hs hfr.1 hfr.2 (hQ _ _) (Or.inl ⟨(wantedN hg), fun w' hS => run_fldSt3 _ _ hop w' (by (repeat rw [eval_far _ _ (by decide)]); exact e16)⟩) hS0 ?_
  rw [hd, ← LR_snoc]
  clear ho hg hop hd hfr
  obtain ⟨o1, ho, hg, hop, hd⟩ := isOpG_out q1
  have hfr := hall ([0], 1) (by simp)
  refine wpAnyH_take (listed := LR 18 [0]) (v := va) ho hs hfr.1 hfr.2 (hQ _ _) (Or.inl ⟨(wantedN hg), fun w' hS => run_loadG _ _ hop w' (by (repeat (first | rw [eval_same _ _ (by (try simp only [put_size]); omega)] | rw [eval_far _ _ (by decide)]))) (LA _ hS)⟩) hS0 ?_
  rw [hd, ← LR_snoc]
  clear ho hg hop hd hfr
  obtain ⟨o2, ho, hg, hop, hd⟩ := isOpG_out q2
  have hfr := hall ([0, 1], 2) (by simp)
  refine wpAnyH_take (listed := LR 18 [0, 1]) (v := .pointer (some ⟨b17, 3, none⟩)) ho hs hfr.1 hfr.2 (hQ _ _) (Or.inl ⟨(wantedN hg), fun w' hS => run_fldSt3 _ _ hop w' (by (repeat rw [eval_far _ _ (by decide)]); exact e17)⟩) hS0 ?_
  rw [hd, ← LR_snoc]
  clear ho hg hop hd hfr
  obtain ⟨o3, ho, hg, hop, hd⟩ := isOpG_out q3
  have hfr := hall ([0, 1, 2], 3) (by simp)
  refine wpAnyH_take (listed := LR 18 [0, 1, 2]) (v := .slice (some ⟨g, f, none⟩) n cc) ho hs hfr.1 hfr.2 (hQ _ _) (Or.inl ⟨(wantedN hg), fun w' hS => run_loadG _ _ hop w' (by (repeat (first | rw [eval_same _ _ (by (try simp only [put_size]); omega)] | rw [eval_far _ _ (by decide)]))) (LB _ hS)⟩) hS0 ?_
  rw [hd, ← LR_snoc]
  clear ho hg hop hd hfr
  obtain ⟨o4, ho, hg, hop, hd⟩ := isOpG_out q4
  have hfr := hall ([0, 1, 2, 3], 4) (by simp)
  refine wpAnyH_take (listed := LR 18 [0, 1, 2, 3]) (v := .int .i64 (k : Int)) ho hs hfr.1 hfr.2 (hQ _ _) (Or.inl ⟨(wantedN hg), fun w' hS => run_move _ _ hop w' (by (repeat rw [eval_far _ _ (by decide)]); exact e18)⟩) hS0 ?_
  rw [hd, ← LR_snoc]
  clear ho hg hop hd hfr
  obtain ⟨o5, ho, hg, hop, hd⟩ := isOpG_out q5
  have hfr := hall ([0, 1, 2, 3, 4], 5) (by simp)
  refine wpAnyH_take (listed := LR 18 [0, 1, 2, 3, 4]) (v := .pointer (some ⟨g, f + k, none⟩)) ho hs hfr.1 hfr.2 (hQ _ _) (Or.inl ⟨(wantedN hg), fun w' hS => run_idxPs _ _ hop w' (by (repeat (first | rw [eval_same _ _ (by (try simp only [put_size]); omega)] | rw [eval_far _ _ (by decide)]))) (by (repeat (first | rw [eval_same _ _ (by (try simp only [put_size]); omega)] | rw [eval_far _ _ (by decide)]))) hk⟩) hS0 ?_
  rw [hd, ← LR_snoc]
  clear ho hg hop hd hfr
  obtain ⟨o6, ho, hg, hop, hd⟩ := isOpG_out q6
  have hfr := hall ([0, 1, 2, 3, 4, 5], 6) (by simp)
  refine wpAnyH_take (listed := LR 18 [0, 1, 2, 3, 4, 5]) (v := .string s) ho hs hfr.1 hfr.2 (hQ _ _) (Or.inl ⟨(wantedN hg), fun w' hS => run_loadG _ _ hop w' (by (repeat (first | rw [eval_same _ _ (by (try simp only [put_size]); omega)] | rw [eval_far _ _ (by decide)]))) (LS _ hS)⟩) hS0 ?_
  rw [hd, ← LR_snoc]
  clear ho hg hop hd hfr
  refine wpAnyH_all r7 (by simp) ?_
  intro i hi
  obtain rfl := List.mem_singleton.1 hi
  obtain ⟨o7, ho, hg, hop, hd⟩ := isOpG_out q7
  have x7_0 : ((((((((a0.put (some 116) (.pointer (some ⟨b16, 3, none⟩))).put (some 117) (va)).put (some 118) (.pointer (some ⟨b17, 3, none⟩))).put (some 119) (.slice (some ⟨g, f, none⟩) n cc)).put (some 120) (.int .i64 (k : Int))).put (some 121) (.pointer (some ⟨g, f + k, none⟩))).put (some 122) (.string s))).eval (.tmp 117) = va := (by (repeat (first | rw [eval_same _ _ (by (try simp only [put_size]); omega)] | rw [eval_far _ _ (by decide)])))
  have x7_1 : ((((((((a0.put (some 116) (.pointer (some ⟨b16, 3, none⟩))).put (some 117) (va)).put (some 118) (.pointer (some ⟨b17, 3, none⟩))).put (some 119) (.slice (some ⟨g, f, none⟩) n cc)).put (some 120) (.int .i64 (k : Int))).put (some 121) (.pointer (some ⟨g, f + k, none⟩))).put (some 122) (.string s))).eval (.tmp 122) = .string s := (by (repeat (first | rw [eval_same _ _ (by (try simp only [put_size]); omega)] | rw [eval_far _ _ (by decide)])))
  refine wpOp_callG ho (wantedN hg) (run_callV 21 Tryd.func21 (by kernel_rfl) (by kernel_rfl) #[.tmp 117, .tmp 122] _ hop #[va, .string s] (by simp only [List.map_toArray, List.map_cons, List.map_nil, x7_0, x7_1])) ?_
  refine (H1 _ hS0).mono ?_
  rintro e u1 ⟨rfl, rfl⟩
  refine ⟨_, rfl, hS0, ?_⟩
  rw [hd]
  clear ho hg hop hd
  rw [← LR_snoc]
  obtain ⟨o8, ho, hg, hop, hd⟩ := isOpG_out q8
  have hfr := hall ([0, 1, 2, 3, 4, 5, 6, 7], 8) (by simp)
  refine wpAnyH_take (listed := LR 18 [0, 1, 2, 3, 4, 5, 6, 7]) (v := .bool false) ho hs hfr.1 hfr.2 (hQ _ _) (Or.inl ⟨(wantedN hg), fun w' hS => run_notV (b := true) _ _ hop w' (by (repeat (first | rw [eval_same _ _ (by (try simp only [put_size]); omega)] | rw [eval_far _ _ (by decide)])))⟩) hS0 ?_
  rw [hd, ← LR_snoc]
  clear ho hg hop hd hfr
  obtain ⟨o9, ho, hg, hop, hd⟩ := isOpG_out q9
  have hfr := hall ([0, 1, 2, 3, 4, 5, 6, 7, 8], 9) (by simp)
  refine wpAnyH_take (listed := LR 18 [0, 1, 2, 3, 4, 5, 6, 7, 8]) (v := .bool false) ho hs hfr.1 hfr.2 (hQ _ _) (Or.inl ⟨(wantedN hg), fun w' hS => run_move _ _ hop w' (by (repeat (first | rw [eval_same _ _ (by (try simp only [put_size]); omega)] | rw [eval_far _ _ (by decide)])))⟩) hS0 ?_
  rw [hd, ← LR_snoc]
  clear ho hg hop hd hfr
  obtain ⟨o10, ho, hg, hop, hd⟩ := isOpG_out q10
  have hfr := hall ([0, 1, 2, 3, 4, 5, 6, 7, 8, 9], 10) (by simp)
  refine wpAnyH_take (listed := LR 18 [0, 1, 2, 3, 4, 5, 6, 7, 8, 9]) (v := .pointer (some ⟨b17, 3, none⟩)) ho hs hfr.1 hfr.2 (hQ _ _) (Or.inl ⟨((wantedB hog9 dog9 hg (by (repeat (first | rw [tmps_same _ _ (by (try simp only [put_size]); omega)] | rw [tmps_far _ _ (by decide)])))).trans (by decide)), fun w' hS => run_fldSt3 _ _ hop w' (by (repeat rw [eval_far _ _ (by decide)]); exact e17)⟩) hS0 ?_
  rw [hd, ← LR_snoc]
  clear ho hg hop hd hfr
  obtain ⟨o11, ho, hg, hop, hd⟩ := isOpG_out q11
  have hfr := hall ([0, 1, 2, 3, 4, 5, 6, 7, 8, 9, 10], 11) (by simp)
  refine wpAnyH_take (listed := LR 18 [0, 1, 2, 3, 4, 5, 6, 7, 8, 9, 10]) (v := .slice (some ⟨g, f, none⟩) n cc) ho hs hfr.1 hfr.2 (hQ _ _) (Or.inl ⟨((wantedB hog9 dog9 hg (by (repeat (first | rw [tmps_same _ _ (by (try simp only [put_size]); omega)] | rw [tmps_far _ _ (by decide)])))).trans (by decide)), fun w' hS => run_loadG _ _ hop w' (by (repeat (first | rw [eval_same _ _ (by (try simp only [put_size]); omega)] | rw [eval_far _ _ (by decide)]))) (LB _ hS)⟩) hS0 ?_
  rw [hd, ← LR_snoc]
  clear ho hg hop hd hfr
  obtain ⟨o12, ho, hg, hop, hd⟩ := isOpG_out q12
  have hfr := hall ([0, 1, 2, 3, 4, 5, 6, 7, 8, 9, 10, 11], 12) (by simp)
  refine wpAnyH_take (listed := LR 18 [0, 1, 2, 3, 4, 5, 6, 7, 8, 9, 10, 11]) (v := .int .i64 (k : Int)) ho hs hfr.1 hfr.2 (hQ _ _) (Or.inl ⟨((wantedB hog9 dog9 hg (by (repeat (first | rw [tmps_same _ _ (by (try simp only [put_size]); omega)] | rw [tmps_far _ _ (by decide)])))).trans (by decide)), fun w' hS => run_move _ _ hop w' (by (repeat rw [eval_far _ _ (by decide)]); exact e18)⟩) hS0 ?_
  rw [hd, ← LR_snoc]
  clear ho hg hop hd hfr
  obtain ⟨o13, ho, hg, hop, hd⟩ := isOpG_out q13
  have hfr := hall ([0, 1, 2, 3, 4, 5, 6, 7, 8, 9, 10, 11, 12], 13) (by simp)
  refine wpAnyH_take (listed := LR 18 [0, 1, 2, 3, 4, 5, 6, 7, 8, 9, 10, 11, 12]) (v := .pointer (some ⟨g, f + k, none⟩)) ho hs hfr.1 hfr.2 (hQ _ _) (Or.inl ⟨((wantedB hog9 dog9 hg (by (repeat (first | rw [tmps_same _ _ (by (try simp only [put_size]); omega)] | rw [tmps_far _ _ (by decide)])))).trans (by decide)), fun w' hS => run_idxPs _ _ hop w' (by (repeat (first | rw [eval_same _ _ (by (try simp only [put_size]); omega)] | rw [eval_far _ _ (by decide)]))) (by (repeat (first | rw [eval_same _ _ (by (try simp only [put_size]); omega)] | rw [eval_far _ _ (by decide)]))) hk⟩) hS0 ?_
  rw [hd, ← LR_snoc]
  clear ho hg hop hd hfr
  obtain ⟨o14, ho, hg, hop, hd⟩ := isOpG_out q14
  have hfr := hall ([0, 1, 2, 3, 4, 5, 6, 7, 8, 9, 10, 11, 12, 13], 14) (by simp)
  refine wpAnyH_take (listed := LR 18 [0, 1, 2, 3, 4, 5, 6, 7, 8, 9, 10, 11, 12, 13]) (v := .string s) ho hs hfr.1 hfr.2 (hQ _ _) (Or.inl ⟨((wantedB hog9 dog9 hg (by (repeat (first | rw [tmps_same _ _ (by (try simp only [put_size]); omega)] | rw [tmps_far _ _ (by decide)])))).trans (by decide)), fun w' hS => run_loadG _ _ hop w' (by (repeat (first | rw [eval_same _ _ (by (try simp only [put_size]); omega)] | rw [eval_far _ _ (by decide)]))) (LS _ hS)⟩) hS0 ?_
  rw [hd, ← LR_snoc]
  clear ho hg hop hd hfr
  obtain ⟨o15, ho, hg, hop, hd⟩ := isOpG_out q15
  have hfr := hall ([0, 1, 2, 3, 4, 5, 6, 7, 8, 9, 10, 11, 12, 13, 14], 15) (by simp)
  refine wpAnyH_take (listed := LR 18 [0, 1, 2, 3, 4, 5, 6, 7, 8, 9, 10, 11, 12, 13, 14]) (v := .string mo) ho hs hfr.1 hfr.2 (hQ _ _) (Or.inl ⟨((wantedB hog9 dog9 hg (by (repeat (first | rw [tmps_same _ _ (by (try simp only [put_size]); omega)] | rw [tmps_far _ _ (by decide)])))).trans (by decide)), fun w' hS => run_move _ _ hop w' (by (repeat rw [eval_far _ _ (by decide)]); exact e2)⟩) hS0 ?_
  rw [hd, ← LR_snoc]
  clear ho hg hop hd hfr
  obtain ⟨o16, ho, hg, hop, hd⟩ := isOpG_out q16
  have hfr := hall ([0, 1, 2, 3, 4, 5, 6, 7, 8, 9, 10, 11, 12, 13, 14, 15], 16) (by simp)
  refine wpAnyH_take (listed := LR 18 [0, 1, 2, 3, 4, 5, 6, 7, 8, 9, 10, 11, 12, 13, 14, 15]) (v := .bool false) ho hs hfr.1 hfr.2 (hQ _ _) (Or.inl ⟨((wantedB hog9 dog9 hg (by (repeat (first | rw [tmps_same _ _ (by (try simp only [put_size]); omega)] | rw [tmps_far _ _ (by decide)])))).trans (by decide)), fun w' hS => run_binV _ _ hop w' (by (repeat (first | rw [eval_same _ _ (by (try simp only [put_size]); omega)] | rw [eval_far _ _ (by decide)]))) (by (repeat (first | rw [eval_same _ _ (by (try simp only [put_size]); omega)] | rw [eval_far _ _ (by decide)]))) (by first | rfl | go_simp) (EQ w')⟩) hS0 ?_
  rw [hd, ← LR_snoc]
  clear ho hg hop hd hfr
  obtain ⟨o17, ho, hg, hop, hd⟩ := isOpG_out q17
  have hfr := hall ([0, 1, 2, 3, 4, 5, 6, 7, 8, 9, 10, 11, 12, 13, 14, 15, 16], 17) (by simp)
  refine wpAnyH_take (listed := LR 18 [0, 1, 2, 3, 4, 5, 6, 7, 8, 9, 10, 11, 12, 13, 14, 15, 16]) (v := .bool false) ho hs hfr.1 hfr.2 (hQ _ _) (Or.inl ⟨(wantedN hg), fun w' hS => run_pickF _ _ hop w' (by (repeat (first | rw [eval_same _ _ (by (try simp only [put_size]); omega)] | rw [eval_far _ _ (by decide)]))) (by (repeat (first | rw [eval_same _ _ (by (try simp only [put_size]); omega)] | rw [eval_far _ _ (by decide)])))⟩) hS0 ?_
  rw [hd, ← LR_snoc]
  clear ho hg hop hd hfr
  exact wpAnyH_done rend (F _ hS0) _
def js_pw18 : List Nat := [91, 92, 93, 94, 95, 96, 97, 98, 99, 100, 16, 17]
def takes_pw18 : List (List Nat × Nat) := [([], 0), ([0], 1), ([0, 1], 2), ([0, 1, 2], 3), ([0, 1, 2, 3], 4), ([0, 1, 2, 3, 4], 5), ([0, 1, 2, 3, 4, 5], 6), ([0, 1, 2, 3, 4, 5, 6], 7), ([0, 1, 2, 3, 4, 5, 6, 7], 8), ([0, 1, 2, 3, 4, 5, 6, 7, 8], 9)]
set_option maxHeartbeats 3200000 in
theorem pw18 {ops : Array Oper} {Q : Exit → Act → World → Prop} {a0 : Act} {w5 : World} {b9 b12 g2 f2 m2 g3 f3 m3 n j : Nat} {ka ia ma kb ib mb : Int} {aa ab : Option Addr} {na ca nb cb : Nat}
    (q0 : isOpG ops 0 none (.fieldAddr 30 (.tmp 9) 1) (some 91))
    (q1 : isOpG ops 1 none (.load 28 (.tmp 91)) (some 92))
    (q2 : isOpG ops 2 none (.move (.tmp 15)) (some 93))
    (q3 : isOpG ops 3 none (.indexAddr 28 (.tmp 92) (.tmp 93)) (some 94))
    (q4 : isOpG ops 4 none (.load 40 (.tmp 94)) (some 95))
    (q5 : isOpG ops 5 none (.fieldAddr 30 (.tmp 12) 1) (some 96))
    (q6 : isOpG ops 6 none (.load 28 (.tmp 96)) (some 97))
    (q7 : isOpG ops 7 none (.move (.tmp 15)) (some 98))
    (q8 : isOpG ops 8 none (.indexAddr 28 (.tmp 97) (.tmp 98)) (some 99))
    (q9 : isOpG ops 9 none (.load 40 (.tmp 99)) (some 100))
    (q10 : isOpG ops 10 none (.alloc 40) (some 16))
    (q11 : isOpG ops 11 none (.alloc 40) (some 17))
    (q12 : isOpG ops 12 none (.store 40 (.tmp 16) (.tmp 95)) none)
    (q13 : isOpG ops 13 none (.store 40 (.tmp 17) (.tmp 100)) none)
    (hs : Region.noSelect ops = true) (hq : (takes_pw18.all fun p => Region.free .any ops (LR 14 p.1) p.2 && (Region.ready .any ops (LR 14 p.1)).contains p.2) = true)
    (r0 : Region.ready .any ops (LR 14 [0, 1, 2, 3, 4, 5, 6, 7, 8, 9]) = [10, 11]) (r1 : Region.ready .any ops (LR 14 [0, 1, 2, 3, 4, 5, 6, 7, 8, 9, 10]) = [11]) (r2 : Region.ready .any ops (LR 14 [0, 1, 2, 3, 4, 5, 6, 7, 8, 9, 11]) = [10]) (r3 : Region.ready .any ops (LR 14 [0, 1, 2, 3, 4, 5, 6, 7, 8, 9, 10, 11]) = [12]) (r4 : Region.ready .any ops (LR 14 [0, 1, 2, 3, 4, 5, 6, 7, 8, 9, 10, 11, 12]) = [13]) (rend : Region.ready .any ops (LR 14 [0, 1, 2, 3, 4, 5, 6, 7, 8, 9, 10, 11, 12, 13]) = [])
    (hQ : ∀ (d : Option Tmp) (v : Value) c a w, Q (.panic c) (a.put d v) w → Q (.panic c) a w)
    (hsz : 100 < a0.tmps.size) (e9 : a0.eval (.tmp 9) = .pointer (some ⟨b9, 0, none⟩)) (e12 : a0.eval (.tmp 12) = .pointer (some ⟨b12, 0, none⟩)) (e15 : a0.eval (.tmp 15) = .int .i64 (j : Int))
    (hj : j < n) (LB : ∀ u, Below w5.heap.size w5 u → (loadVar 28 ⟨b9, 3, none⟩).run Tryd.prog u = .ok (.slice (some ⟨g2, f2, none⟩) n m2) u) (LC : ∀ u, Below w5.heap.size w5 u → (loadVar 28 ⟨b12, 3, none⟩).run Tryd.prog u = .ok (.slice (some ⟨g3, f3, none⟩) n m3) u) (LX : ∀ u, Below w5.heap.size w5 u → (loadVar 40 ⟨g2, f2 + j * 4, none⟩).run Tryd.prog u = .ok (.agg #[.int .i8 ka, .int .i64 ia, .int .u32 ma, .slice aa na ca]) u) (LY : ∀ u, Below w5.heap.size w5 u → (loadVar 40 ⟨g3, f3 + j * 4, none⟩).run Tryd.prog u = .ok (.agg #[.int .i8 kb, .int .i64 ib, .int .u32 mb, .slice ab nb cb]) u)
    (F : ∀ (a : Act) (wc : World) (b16 b17 : Nat), Ag js_pw18 a0 a → a.eval (.tmp 16) = .pointer (some ⟨b16, 0, none⟩) → a.eval (.tmp 17) = .pointer (some ⟨b17, 0, none⟩) → RL wc b16 40 [.int .i8 ka, .int .i64 ia, .int .u32 ma, .slice aa na ca] → RL wc b17 40 [.int .i8 kb, .int .i64 ib, .int .u32 mb, .slice ab nb cb] → Below w5.heap.size w5 wc → Q .normal a wc) :
    wpAnyH Tryd.prog .any ops Q (fun u => Below w5.heap.size w5 u) 14 (LR 14 []) a0 w5.drew := by
  have hall : ∀ p ∈ takes_pw18, Region.free .any ops (LR 14 p.1) p.2 = true ∧ (Region.ready .any ops (LR 14 p.1)).contains p.2 = true := by
    intro p hp
    have := List.all_eq_true.1 hq p hp
    simpa using this
  unfold takes_pw18 at hall
  have kS : ∀ {u u' : World}, Below w5.heap.size w5 u → Below u.heap.size u u' → Below w5.heap.size w5 u' := fun h b => h.trans (b.mono h.size)
  have kA : ∀ {u : World} (o : Obj), Below u.heap.size u (u.alloc o) := fun o => (Below.refl _ _).alloc (Nat.le_refl _) _
  have P4 : ∀ (a : Act) (u : World) (b16 b17 : Nat), Ag js_pw18 a0 a → a.eval (.tmp 16) = .pointer (some ⟨b16, 0, none⟩) → a.eval (.tmp 17) = .pointer (some ⟨b17, 0, none⟩) → a.eval (.tmp 100) = .agg #[.int .i8 kb, .int .i64 ib, .int .u32 mb, .slice ab nb cb] → RL u b16 40 [.int .i8 ka, .int .i64 ia, .int .u32 ma, .slice aa na ca] → RL u b17 40 [.int .i8 0, .int .i64 0, .int .u32 0, .slice none 0 0] → b16 ≠ b17 → w5.heap.size ≤ b17 → Below w5.heap.size w5 u → wpAnyH Tryd.prog .any ops Q (fun u => Below w5.heap.size w5 u) 1 (LR 14 [0, 1, 2, 3, 4, 5, 6, 7, 8, 9, 10, 11, 12]) a u := by
    intro a u b16 b17 hA h16 h17 h100 hR hZ hne hb hS
    refine wpAnyH_all r4 (by simp) ?_
    intro i hi
    obtain rfl := List.mem_singleton.1 hi
    obtain ⟨o9, ho, hg, hop, hd⟩ := isOpG_out q13
    refine wpOp_skipG ho (wantedN hg) (run_storeSt _ _ hop u h17 h100 hZ) ?_
    have hS' : Below w5.heap.size w5 (st4 u b17 kb ib mb (.slice ab nb cb)) := st4_below hS hb _ _ _ _
    refine ⟨hS', ?_⟩
    rw [hd]
    show wpAnyH _ _ _ _ _ 0 (LR 14 [0, 1, 2, 3, 4, 5, 6, 7, 8, 9, 10, 11, 12, 13]) a _
    refine wpAnyH_done rend (F _ _ b16 b17 hA h16 h17 ?_ (st4_rl hZ _ _ _ _) hS') _
    refine World.rowIs.of_block hR ?_
    unfold st4
    rw [Below.heap_setCell _ _ _ _ hne, Below.heap_setCell _ _ _ _ hne, Below.heap_setCell _ _ _ _ hne, Below.heap_setCell _ _ _ _ hne]
  have P3 : ∀ (a : Act) (u : World) (b16 b17 : Nat), Ag js_pw18 a0 a → a.eval (.tmp 16) = .pointer (some ⟨b16, 0, none⟩) → a.eval (.tmp 17) = .pointer (some ⟨b17, 0, none⟩) → a.eval (.tmp 95) = .agg #[.int .i8 ka, .int .i64 ia, .int .u32 ma, .slice aa na ca] → a.eval (.tmp 100) = .agg #[.int .i8 kb, .int .i64 ib, .int .u32 mb, .slice ab nb cb] → RL u b16 40 [.int .i8 0, .int .i64 0, .int .u32 0, .slice none 0 0] → RL u b17 40 [.int .i8 0, .int .i64 0, .int .u32 0, .slice none 0 0] → b16 ≠ b17 → w5.heap.size ≤ b16 → w5.heap.size ≤ b17 → Below w5.heap.size w5 u → wpAnyH Tryd.prog .any ops Q (fun u => Below w5.heap.size w5 u) 2 (LR 14 [0, 1, 2, 3, 4, 5, 6, 7, 8, 9, 10, 11]) a u := by
    intro a u b16 b17 hA h16 h17 h95 h100 hR hZ hne hb1 hb hS
    refine wpAnyH_all r3 (by simp) ?_
    intro i hi
    obtain rfl := List.mem_singleton.1 hi
    obtain ⟨o9, ho, hg, hop, hd⟩ := isOpG_out q12
    refine wpOp_skipG ho (wantedN hg) (run_storeSt _ _ hop u h16 h95 hR) ?_
    have hS' : Below w5.heap.size w5 (st4 u b16 ka ia ma (.slice aa na ca)) := st4_below hS hb1 _ _ _ _
    refine ⟨hS', ?_⟩
    rw [hd]
    show wpAnyH _ _ _ _ _ 1 (LR 14 [0, 1, 2, 3, 4, 5, 6, 7, 8, 9, 10, 11, 12]) a _
    refine P4 _ _ b16 b17 hA h16 h17 h100 (st4_rl hR _ _ _ _) ?_ hne hb hS'
    refine World.rowIs.of_block hZ ?_
    unfold st4
    rw [Below.heap_setCell _ _ _ _ hne.symm, Below.heap_setCell _ _ _ _ hne.symm, Below.heap_setCell _ _ _ _ hne.symm, Below.heap_setCell _ _ _ _ hne.symm]
  have P1 : ∀ (a : Act) (u : World) (b16 : Nat), Ag js_pw18 a0 a → a.eval (.tmp 16) = .pointer (some ⟨b16, 0, none⟩) → a.eval (.tmp 95) = .agg #[.int .i8 ka, .int .i64 ia, .int .u32 ma, .slice aa na ca] → a.eval (.tmp 100) = .agg #[.int .i8 kb, .int .i64 ib, .int .u32 mb, .slice ab nb cb] → RL u b16 40 [.int .i8 0, .int .i64 0, .int .u32 0, .slice none 0 0] → w5.heap.size ≤ b16 → b16 < u.heap.size → Below w5.heap.size w5 u → wpAnyH Tryd.prog .any ops Q (fun u => Below w5.heap.size w5 u) 3 (LR 14 [0, 1, 2, 3, 4, 5, 6, 7, 8, 9, 10]) a u := by
    intro a u b16 hA h16 h95 h100 hR hb1 hbl hS
    refine wpAnyH_all r1 (by simp) ?_
    intro i hi
    obtain rfl := List.mem_singleton.1 hi
    obtain ⟨o8, ho, hg, hop, hd⟩ := isOpG_out q11
    refine wpOp_valG ho (wantedN hg) (run_allocSt _ _ hop u) ⟨kS hS (kA _), ?_⟩
    rw [hd, ← LR_snoc]
    exact P3 _ _ b16 u.heap.size (hA.put (by decide) _) (by rw [eval_far _ _ (by decide)]; exact h16) (eval_sameA hA _ (by omega)) (by rw [eval_far _ _ (by decide)]; exact h95) (by rw [eval_far _ _ (by decide)]; exact h100) (hR.below (kA _)) (rl_new u _ _) (by omega) hb1 hS.size (kS hS (kA _))
  have P2 : ∀ (a : Act) (u : World) (b17 : Nat), Ag js_pw18 a0 a → a.eval (.tmp 17) = .pointer (some ⟨b17, 0, none⟩) → a.eval (.tmp 95) = .agg #[.int .i8 ka, .int .i64 ia, .int .u32 ma, .slice aa na ca] → a.eval (.tmp 100) = .agg #[.int .i8 kb, .int .i64 ib, .int .u32 mb, .slice ab nb cb] → RL u b17 40 [.int .i8 0, .int .i64 0, .int .u32 0, .slice none 0 0] → w5.heap.size ≤ b17 → b17 < u.heap.size → Below w5.heap.size w5 u → wpAnyH Tryd.prog .any ops Q (fun u => Below w5.heap.size w5 u) 3 (LR 14 [0, 1, 2, 3, 4, 5, 6, 7, 8, 9, 11]) a u := by
    intro a u b17 hA h17 h95 h100 hR hb1 hbl hS
    refine wpAnyH_all r2 (by simp) ?_
    intro i hi
    obtain rfl := List.mem_singleton.1 hi
    obtain ⟨o8, ho, hg, hop, hd⟩ := isOpG_out q10
    refine wpOp_valG ho (wantedN hg) (run_allocSt _ _ hop u) ⟨kS hS (kA _), ?_⟩
    rw [hd, ← LR_snoc]
    exact P3 _ _ u.heap.size b17 (hA.put (by decide) _) (eval_sameA hA _ (by omega)) (by rw [eval_far _ _ (by decide)]; exact h17) (by rw [eval_far _ _ (by decide)]; exact h95) (by rw [eval_far _ _ (by decide)]; exact h100) (rl_new u _ _) (hR.below (kA _)) (by omega) hS.size hb1 (kS hS (kA _))
  have P0 : ∀ (a : Act) (u : World), Ag js_pw18 a0 a → a.eval (.tmp 95) = .agg #[.int .i8 ka, .int .i64 ia, .int .u32 ma, .slice aa na ca] → a.eval (.tmp 100) = .agg #[.int .i8 kb, .int .i64 ib, .int .u32 mb, .slice ab nb cb] → Below w5.heap.size w5 u → wpAnyH Tryd.prog .any ops Q (fun u => Below w5.heap.size w5 u) 4 (LR 14 [0, 1, 2, 3, 4, 5, 6, 7, 8, 9]) a u := by
    intro a u hA h95 h100 hS
    refine wpAnyH_all r0 (by simp) ?_
    intro i hi
    rcases List.mem_cons.1 hi with rfl | hi
    · obtain ⟨o8, ho, hg, hop, hd⟩ := isOpG_out q10
      refine wpOp_valG ho (wantedN hg) (run_allocSt _ _ hop u) ⟨kS hS (kA _), ?_⟩
      rw [hd, ← LR_snoc]
      exact P1 _ _ u.heap.size (hA.put (by decide) _) (eval_sameA hA _ (by omega)) (by rw [eval_far _ _ (by decide)]; exact h95) (by rw [eval_far _ _ (by decide)]; exact h100) (rl_new u _ _) hS.size (by simp) (kS hS (kA _))
    · obtain rfl := List.mem_singleton.1 hi
      obtain ⟨o8, ho, hg, hop, hd⟩ := isOpG_out q11
      refine wpOp_valG ho (wantedN hg) (run_allocSt _ _ hop u) ⟨kS hS (kA _), ?_⟩
      rw [hd, ← LR_snoc]
      exact P2 _ _ u.heap.size (hA.put (by decide) _) (eval_sameA hA _ (by omega)) (by rw [eval_far _ _ (by decide)]; exact h95) (by rw [eval_far _ _ (by decide)]; exact h100) (rl_new u _ _) hS.size (by simp) (kS hS (kA _))
  have hS0 : Below w5.heap.size w5 w5.drew := (Below.refl _ _).drew
  have A0 := Ag.refl js_pw18 a0
  obtain ⟨o0, ho, hg, hop, hd⟩ := isOpG_out q0
  have hfr := hall ([], 0) (by simp)
  refine wpAnyH_take (listed := LR 14 []) (v := .pointer (some ⟨b9, 3, none⟩)) ho hs hfr.1 hfr.2 (hQ _ _) (Or.inl ⟨wantedN hg, fun w' hS => run_fldPn1 _ _ hop w' e9⟩) hS0 ?_
  rw [hd, ← LR_snoc]
  have A1 := A0.put (i := 91) (by decide) (.pointer (some ⟨b9, 3, none⟩))
  have g91 := eval_sameA A0 (.pointer (some ⟨b9, 3, none⟩)) (i := 91) (by omega)
  have e9 := (eval_far a0 (i := 91) (j := 9) (.pointer (some ⟨b9, 3, none⟩)) (by decide)).trans e9
  have e12 := (eval_far a0 (i := 91) (j := 12) (.pointer (some ⟨b9, 3, none⟩)) (by decide)).trans e12
  have e15 := (eval_far a0 (i := 91) (j := 15) (.pointer (some ⟨b9, 3, none⟩)) (by decide)).trans e15
  generalize a0.put (some 91) (.pointer (some ⟨b9, 3, none⟩)) = c1 at *
  clear ho hg hop hd hfr
  obtain ⟨o1, ho, hg, hop, hd⟩ := isOpG_out q1
  have hfr := hall ([0], 1) (by simp)
  refine wpAnyH_take (listed := LR 14 [0]) (v := .slice (some ⟨g2, f2, none⟩) n m2) ho hs hfr.1 hfr.2 (hQ _ _) (Or.inl ⟨wantedN hg, fun w' hS => run_loadG _ _ hop w' g91 (LB w' hS)⟩) hS0 ?_
  rw [hd, ← LR_snoc]
  have A2 := A1.put (i := 92) (by decide) (.slice (some ⟨g2, f2, none⟩) n m2)
  have g92 := eval_sameA A1 (.slice (some ⟨g2, f2, none⟩) n m2) (i := 92) (by omega)
  have e9 := (eval_far c1 (i := 92) (j := 9) (.slice (some ⟨g2, f2, none⟩) n m2) (by decide)).trans e9
  have e12 := (eval_far c1 (i := 92) (j := 12) (.slice (some ⟨g2, f2, none⟩) n m2) (by decide)).trans e12
  have e15 := (eval_far c1 (i := 92) (j := 15) (.slice (some ⟨g2, f2, none⟩) n m2) (by decide)).trans e15
  have g91 := (eval_far c1 (i := 92) (j := 91) (.slice (some ⟨g2, f2, none⟩) n m2) (by decide)).trans g91
  generalize c1.put (some 92) (.slice (some ⟨g2, f2, none⟩) n m2) = c2 at *
  clear ho hg hop hd hfr
  obtain ⟨o2, ho, hg, hop, hd⟩ := isOpG_out q2
  have hfr := hall ([0, 1], 2) (by simp)
  refine wpAnyH_take (listed := LR 14 [0, 1]) (v := .int .i64 (j : Int)) ho hs hfr.1 hfr.2 (hQ _ _) (Or.inl ⟨wantedN hg, fun w' hS => run_move _ _ hop w' e15⟩) hS0 ?_
  rw [hd, ← LR_snoc]
  have A3 := A2.put (i := 93) (by decide) (.int .i64 (j : Int))
  have g93 := eval_sameA A2 (.int .i64 (j : Int)) (i := 93) (by omega)
  have e9 := (eval_far c2 (i := 93) (j := 9) (.int .i64 (j : Int)) (by decide)).trans e9
  have e12 := (eval_far c2 (i := 93) (j := 12) (.int .i64 (j : Int)) (by decide)).trans e12
  have e15 := (eval_far c2 (i := 93) (j := 15) (.int .i64 (j : Int)) (by decide)).trans e15
  have g91 := (eval_far c2 (i := 93) (j := 91) (.int .i64 (j : Int)) (by decide)).trans g91
  have g92 := (eval_far c2 (i := 93) (j := 92) (.int .i64 (j : Int)) (by decide)).trans g92
  generalize c2.put (some 93) (.int .i64 (j : Int)) = c3 at *
  clear ho hg hop hd hfr
  obtain ⟨o3, ho, hg, hop, hd⟩ := isOpG_out q3
  have hfr := hall ([0, 1, 2], 3) (by simp)
  refine wpAnyH_take (listed := LR 14 [0, 1, 2]) (v := .pointer (some ⟨g2, f2 + j * 4, none⟩)) ho hs hfr.1 hfr.2 (hQ _ _) (Or.inl ⟨wantedN hg, fun w' hS => run_idxZ _ _ hop w' g92 g93 hj⟩) hS0 ?_
  rw [hd, ← LR_snoc]
  have A4 := A3.put (i := 94) (by decide) (.pointer (some ⟨g2, f2 + j * 4, none⟩))
  have g94 := eval_sameA A3 (.pointer (some ⟨g2, f2 + j * 4, none⟩)) (i := 94) (by omega)
  have e9 := (eval_far c3 (i := 94) (j := 9) (.pointer (some ⟨g2, f2 + j * 4, none⟩)) (by decide)).trans e9
  have e12 := (eval_far c3 (i := 94) (j := 12) (.pointer (some ⟨g2, f2 + j * 4, none⟩)) (by decide)).trans e12
  have e15 := (eval_far c3 (i := 94) (j := 15) (.pointer (some ⟨g2, f2 + j * 4, none⟩)) (by decide)).trans e15
  have g91 := (eval_far c3 (i := 94) (j := 91) (.pointer (some ⟨g2, f2 + j * 4, none⟩)) (by decide)).trans g91
  have g92 := (eval_far c3 (i := 94) (j := 92) (.pointer (some ⟨g2, f2 + j * 4, none⟩)) (by decide)).trans g92
  have g93 := (eval_far c3 (i := 94) (j := 93) (.pointer (some ⟨g2, f2 + j * 4, none⟩)) (by decide)).trans g93
  generalize c3.put (some 94) (.pointer (some ⟨g2, f2 + j * 4, none⟩)) = c4 at *
  clear ho hg hop hd hfr
  obtain ⟨o4, ho, hg, hop, hd⟩ := isOpG_out q4
  have hfr := hall ([0, 1, 2, 3], 4) (by simp)
  refine wpAnyH_take (listed := LR 14 [0, 1, 2, 3]) (v := .agg #[.int .i8 ka, .int .i64 ia, .int .u32 ma, .slice aa na ca]) ho hs hfr.1 hfr.2 (hQ _ _) (Or.inl ⟨wantedN hg, fun w' hS => run_loadG _ _ hop w' g94 (LX w' hS)⟩) hS0 ?_
  rw [hd, ← LR_snoc]
  have A5 := A4.put (i := 95) (by decide) (.agg #[.int .i8 ka, .int .i64 ia, .int .u32 ma, .slice aa na ca])
  have g95 := eval_sameA A4 (.agg #[.int .i8 ka, .int .i64 ia, .int .u32 ma, .slice aa na ca]) (i := 95) (by omega)
  have e9 := (eval_far c4 (i := 95) (j := 9) (.agg #[.int .i8 ka, .int .i64 ia, .int .u32 ma, .slice aa na ca]) (by decide)).trans e9
  have e12 := (eval_far c4 (i := 95) (j := 12) (.agg #[.int .i8 ka, .int .i64 ia, .int .u32 ma, .slice aa na ca]) (by decide)).trans e12
  have e15 := (eval_far c4 (i := 95) (j := 15) (.agg #[.int .i8 ka, .int .i64 ia, .int .u32 ma, .slice aa na ca]) (by decide)).trans e15
  have g91 := (eval_far c4 (i := 95) (j := 91) (.agg #[.int .i8 ka, .int .i64 ia, .int .u32 ma, .slice aa na ca]) (by decide)).trans g91
  have g92 := (eval_far c4 (i := 95) (j := 92) (.agg #[.int .i8 ka, .int .i64 ia, .int .u32 ma, .slice aa na ca]) (by decide)).trans g92
  have g93 := (eval_far c4 (i := 95) (j := 93) (.agg #[.int .i8 ka, .int .i64 ia, .int .u32 ma, .slice aa na ca]) (by decide)).trans g93
  have g94 := (eval_far c4 (i := 95) (j := 94) (.agg #[.int .i8 ka, .int .i64 ia, .int .u32 ma, .slice aa na ca]) (by decide)).trans g94
  generalize c4.put (some 95) (.agg #[.int .i8 ka, .int .i64 ia, .int .u32 ma, .slice aa na ca]) = c5 at *
  clear ho hg hop hd hfr
  obtain ⟨o5, ho, hg, hop, hd⟩ := isOpG_out q5
  have hfr := hall ([0, 1, 2, 3, 4], 5) (by simp)
  refine wpAnyH_take (listed := LR 14 [0, 1, 2, 3, 4]) (v := .pointer (some ⟨b12, 3, none⟩)) ho hs hfr.1 hfr.2 (hQ _ _) (Or.inl ⟨wantedN hg, fun w' hS => run_fldPn1 _ _ hop w' e12⟩) hS0 ?_
  rw [hd, ← LR_snoc]
  have A6 := A5.put (i := 96) (by decide) (.pointer (some ⟨b12, 3, none⟩))
  have g96 := eval_sameA A5 (.pointer (some ⟨b12, 3, none⟩)) (i := 96) (by omega)
  have e9 := (eval_far c5 (i := 96) (j := 9) (.pointer (some ⟨b12, 3, none⟩)) (by decide)).trans e9
  have e12 := (eval_far c5 (i := 96) (j := 12) (.pointer (some ⟨b12, 3, none⟩)) (by decide)).trans e12
  have e15 := (eval_far c5 (i := 96) (j := 15) (.pointer (some ⟨b12, 3, none⟩)) (by decide)).trans e15
  have g91 := (eval_far c5 (i := 96) (j := 91) (.pointer (some ⟨b12, 3, none⟩)) (by decide)).trans g91
  have g92 := (eval_far c5 (i := 96) (j := 92) (.pointer (some ⟨b12, 3, none⟩)) (by decide)).trans g92
  have g93 := (eval_far c5 (i := 96) (j := 93) (.pointer (some ⟨b12, 3, none⟩)) (by decide)).trans g93
  have g94 := (eval_far c5 (i := 96) (j := 94) (.pointer (some ⟨b12, 3, none⟩)) (by decide)).trans g94
  have g95 := (eval_far c5 (i := 96) (j := 95) (.pointer (some ⟨b12, 3, none⟩)) (by decide)).trans g95
  generalize c5.put (some 96) (.pointer (some ⟨b12, 3, none⟩)) = c6 at *
  clear ho hg hop hd hfr
  obtain ⟨o6, ho, hg, hop, hd⟩ := isOpG_out q6
  have hfr := hall ([0, 1, 2, 3, 4, 5], 6) (by simp)
  refine wpAnyH_take (listed := LR 14 [0, 1, 2, 3, 4, 5]) (v := .slice (some ⟨g3, f3, none⟩) n m3) ho hs hfr.1 hfr.2 (hQ _ _) (Or.inl ⟨wantedN hg, fun w' hS => run_loadG _ _ hop w' g96 (LC w' hS)⟩) hS0 ?_
  rw [hd, ← LR_snoc]
  have A7 := A6.put (i := 97) (by decide) (.slice (some ⟨g3, f3, none⟩) n m3)
  have g97 := eval_sameA A6 (.slice (some ⟨g3, f3, none⟩) n m3) (i := 97) (by omega)
  have e9 := (eval_far c6 (i := 97) (j := 9) (.slice (some ⟨g3, f3, none⟩) n m3) (by decide)).trans e9
  have e12 := (eval_far c6 (i := 97) (j := 12) (.slice (some ⟨g3, f3, none⟩) n m3) (by decide)).trans e12
  have e15 := (eval_far c6 (i := 97) (j := 15) (.slice (some ⟨g3, f3, none⟩) n m3) (by decide)).trans e15
  have g91 := (eval_far c6 (i := 97) (j := 91) (.slice (some ⟨g3, f3, none⟩) n m3) (by decide)).trans g91
  have g92 := (eval_far c6 (i := 97) (j := 92) (.slice (some ⟨g3, f3, none⟩) n m3) (by decide)).trans g92
  have g93 := (eval_far c6 (i := 97) (j := 93) (.slice (some ⟨g3, f3, none⟩) n m3) (by decide)).trans g93
  have g94 := (eval_far c6 (i := 97) (j := 94) (.slice (some ⟨g3, f3, none⟩) n m3) (by decide)).trans g94
  have g95 := (eval_far c6 (i := 97) (j := 95) (.slice (some ⟨g3, f3, none⟩) n m3) (by decide)).trans g95
  have g96 := (eval_far c6 (i := 97) (j := 96) (.slice (some ⟨g3, f3, none⟩) n m3) (by decide)).trans g96
  generalize c6.put (some 97) (.slice (some ⟨g3, f3, none⟩) n m3) = c7 at *
  clear ho hg hop hd hfr
  obtain ⟨o7, ho, hg, hop, hd⟩ := isOpG_out q7
  have hfr := hall ([0, 1, 2, 3, 4, 5, 6], 7) (by simp)
  refine wpAnyH_take (listed := LR 14 [0, 1, 2, 3, 4, 5, 6]) (v := .int .i64 (j : Int)) ho hs hfr.1 hfr.2 (hQ _ _) (Or.inl ⟨wantedN hg, fun w' hS => run_move _ _ hop w' e15⟩) hS0 ?_
  rw [hd, ← LR_snoc]
  have A8 := A7.put (i := 98) (by decide) (.int .i64 (j : Int))
  have g98 := eval_sameA A7 (.int .i64 (j : Int)) (i := 98) (by omega)
  have e9 := (eval_far c7 (i := 98) (j := 9) (.int .i64 (j : Int)) (by decide)).trans e9
  have e12 := (eval_far c7 (i := 98) (j := 12) (.int .i64 (j : Int)) (by decide)).trans e12
  have e15 := (eval_far c7 (i := 98) (j := 15) (.int .i64 (j : Int)) (by decide)).trans e15
  have g91 := (eval_far c7 (i := 98) (j := 91) (.int .i64 (j : Int)) (by decide)).trans g91
  have g92 := (eval_far c7 (i := 98) (j := 92) (.int .i64 (j : Int)) (by decide)).trans g92
  have g93 := (eval_far c7 (i := 98) (j := 93) (.int .i64 (j : Int)) (by decide)).trans g93
  have g94 := (eval_far c7 (i := 98) (j := 94) (.int .i64 (j : Int)) (by decide)).trans g94
  have g95 := (eval_far c7 (i := 98) (j := 95) (.int .i64 (j : Int)) (by decide)).trans g95
  have g96 := (eval_far c7 (i := 98) (j := 96) (.int .i64 (j : Int)) (by decide)).trans g96
  have g97 := (eval_far c7 (i := 98) (j := 97) (.int .i64 (j : Int)) (by decide)).trans g97
  generalize c7.put (some 98) (.int .i64 (j : Int)) = c8 at *
  clear ho hg hop hd hfr
  obtain ⟨o8, ho, hg, hop, hd⟩ := isOpG_out q8
  have hfr := hall ([0, 1, 2, 3, 4, 5, 6, 7], 8) (by simp)
  refine wpAnyH_take (listed := LR 14 [0, 1, 2, 3, 4, 5, 6, 7]) (v := .pointer (some ⟨g3, f3 + j * 4, none⟩)) ho hs hfr.1 hfr.2 (hQ _ _) (Or.inl ⟨wantedN hg, fun w' hS => run_idxZ _ _ hop w' g97 g98 hj⟩) hS0 ?_
  rw [hd, ← LR_snoc]
  have A9 := A8.put (i := 99) (by decide) (.pointer (some ⟨g3, f3 + j * 4, none⟩))
  have g99 := eval_sameA A8 (.pointer (some ⟨g3, f3 + j * 4, none⟩)) (i := 99) (by omega)
  have e9 := (eval_far c8 (i := 99) (j := 9) (.pointer (some ⟨g3, f3 + j * 4, none⟩)) (by decide)).trans e9
  have e12 := (eval_far c8 (i := 99) (j := 12) (.pointer (some ⟨g3, f3 + j * 4, none⟩)) (by decide)).trans e12
  have e15 := (eval_far c8 (i := 99) (j := 15) (.pointer (some ⟨g3, f3 + j * 4, none⟩)) (by decide)).trans e15
  have g91 := (eval_far c8 (i := 99) (j := 91) (.pointer (some ⟨g3, f3 + j * 4, none⟩)) (by decide)).trans g91
  have g92 := (eval_far c8 (i := 99) (j := 92) (.pointer (some ⟨g3, f3 + j * 4, none⟩)) (by decide)).trans g92
  have g93 := (eval_far c8 (i := 99) (j := 93) (.pointer (some ⟨g3, f3 + j * 4, none⟩)) (by decide)).trans g93
  have g94 := (eval_far c8 (i := 99) (j := 94) (.pointer (some ⟨g3, f3 + j * 4, none⟩)) (by decide)).trans g94
  have g95 := (eval_far c8 (i := 99) (j := 95) (.pointer (some ⟨g3, f3 + j * 4, none⟩)) (by decide)).trans g95
  have g96 := (eval_far c8 (i := 99) (j := 96) (.pointer (some ⟨g3, f3 + j * 4, none⟩)) (by decide)).trans g96
  have g97 := (eval_far c8 (i := 99) (j := 97) (.pointer (some ⟨g3, f3 + j * 4, none⟩)) (by decide)).trans g97
  have g98 := (eval_far c8 (i := 99) (j := 98) (.pointer (some ⟨g3, f3 + j * 4, none⟩)) (by decide)).trans g98
  generalize c8.put (some 99) (.pointer (some ⟨g3, f3 + j * 4, none⟩)) = c9 at *
  clear ho hg hop hd hfr
  obtain ⟨o9, ho, hg, hop, hd⟩ := isOpG_out q9
  have hfr := hall ([0, 1, 2, 3, 4, 5, 6, 7, 8], 9) (by simp)
  refine wpAnyH_take (listed := LR 14 [0, 1, 2, 3, 4, 5, 6, 7, 8]) (v := .agg #[.int .i8 kb, .int .i64 ib, .int .u32 mb, .slice ab nb cb]) ho hs hfr.1 hfr.2 (hQ _ _) (Or.inl ⟨wantedN hg, fun w' hS => run_loadG _ _ hop w' g99 (LY w' hS)⟩) hS0 ?_
  rw [hd, ← LR_snoc]
  have A10 := A9.put (i := 100) (by decide) (.agg #[.int .i8 kb, .int .i64 ib, .int .u32 mb, .slice ab nb cb])
  have g100 := eval_sameA A9 (.agg #[.int .i8 kb, .int .i64 ib, .int .u32 mb, .slice ab nb cb]) (i := 100) (by omega)
  have e9 := (eval_far c9 (i := 100) (j := 9) (.agg #[.int .i8 kb, .int .i64 ib, .int .u32 mb, .slice ab nb cb]) (by decide)).trans e9
  have e12 := (eval_far c9 (i := 100) (j := 12) (.agg #[.int .i8 kb, .int .i64 ib, .int .u32 mb, .slice ab nb cb]) (by decide)).trans e12
  have e15 := (eval_far c9 (i := 100) (j := 15) (.agg #[.int .i8 kb, .int .i64 ib, .int .u32 mb, .slice ab nb cb]) (by decide)).trans e15
  have g91 := (eval_far c9 (i := 100) (j := 91) (.agg #[.int .i8 kb, .int .i64 ib, .int .u32 mb, .slice ab nb cb]) (by decide)).trans g91
  have g92 := (eval_far c9 (i := 100) (j := 92) (.agg #[.int .i8 kb, .int .i64 ib, .int .u32 mb, .slice ab nb cb]) (by decide)).trans g92
  have g93 := (eval_far c9 (i := 100) (j := 93) (.agg #[.int .i8 kb, .int .i64 ib, .int .u32 mb, .slice ab nb cb]) (by decide)).trans g93
  have g94 := (eval_far c9 (i := 100) (j := 94) (.agg #[.int .i8 kb, .int .i64 ib, .int .u32 mb, .slice ab nb cb]) (by decide)).trans g94
  have g95 := (eval_far c9 (i := 100) (j := 95) (.agg #[.int .i8 kb, .int .i64 ib, .int .u32 mb, .slice ab nb cb]) (by decide)).trans g95
  have g96 := (eval_far c9 (i := 100) (j := 96) (.agg #[.int .i8 kb, .int .i64 ib, .int .u32 mb, .slice ab nb cb]) (by decide)).trans g96
  have g97 := (eval_far c9 (i := 100) (j := 97) (.agg #[.int .i8 kb, .int .i64 ib, .int .u32 mb, .slice ab nb cb]) (by decide)).trans g97
  have g98 := (eval_far c9 (i := 100) (j := 98) (.agg #[.int .i8 kb, .int .i64 ib, .int .u32 mb, .slice ab nb cb]) (by decide)).trans g98
  have g99 := (eval_far c9 (i := 100) (j := 99) (.agg #[.int .i8 kb, .int .i64 ib, .int .u32 mb, .slice ab nb cb]) (by decide)).trans g99
  generalize c9.put (some 100) (.agg #[.int .i8 kb, .int .i64 ib, .int .u32 mb, .slice ab nb cb]) = c10 at *
  clear ho hg hop hd hfr
  exact P0 _ _ A10 g95 g100 hS0
def js_pw5 : List Nat := [32, 33, 34, 35, 36, 37, 38, 31, 39, 40, 12, 13]
def takes_pw5 : List (List Nat × Nat) := [([], 0), ([0], 1), ([0, 1], 2), ([0, 1, 2], 5), ([0, 1, 2, 5, 3, 4, 6], 7), ([0, 1, 2, 5, 3, 4, 6, 7], 8), ([0, 1, 2, 5, 3, 4, 6, 7, 8], 9), ([0, 1, 2, 5, 3, 4, 6, 10], 7), ([0, 1, 2, 5, 3, 4, 6, 10, 7], 8), ([0, 1, 2, 5, 3, 4, 6, 10, 7, 8], 9), ([0, 1, 2, 5, 3, 4, 6, 7, 8, 9, 10, 11], 12)]
theorem run_allocPl (ev : Operand → Value) (o : Oper) (hop : o.op = .alloc 30) (w : World) : (execOp ev o).run Tryd.prog w = .ok (.value (.pointer (some ⟨w.heap.size, 0, none⟩))) (w.alloc (.cells #[.string ⟨#[]⟩, .slice none 0 0, .slice none 0 0, .slice none 0 0] 30)) := by
  simp only [execOp, hop]
  go_simp
theorem run_bsStr (ev : Operand → Value) (o : Oper) {x : Operand} (hop : o.op = .buildSlice 26 1 #[(0, x)]) (w : World) {s : ByteArray} (hx : ev x = .string s) : (execOp ev o).run Tryd.prog w = .ok (.value (.slice (some ⟨w.heap.size, 0, none⟩) 1 1)) (w.alloc (.cells #[.string s] 9)) := by
  simp only [execOp, hop, hx]
  go_simp
theorem typ_ofW {ops : Array Oper} {i : Nat} {o : Oper} {ty : TypeId} (h : ops[i]?.map Oper.type = some ty) (ho : ops[i]? = some o) : o.type = ty := by
  rw [ho] at h
  exact Option.some.inj h
theorem run_appW (ev : Operand → Value) (o : Oper) {x y : Operand} {t ty : TypeId} (hop : o.op = .call { callee := .builtin .append, args := #[x, y], argTypes := #[t, t] }) (hty : o.type = ty) (w : World) {a b v : Value} {w' : World} (hx : ev x = a) (hy : ev y = b) (hr : (Builtin.append_ #[t, t] ty #[a, b]).run Tryd.prog w = .ok v w') : (execOp ev o).run Tryd.prog w = .ok (.value v) w' := by
  simp only [execOp, hop]
  simp [resolve, invoke, builtin, hx, hy, hty, hr, Result.andThen]
set_option maxHeartbeats 6400000 in
theorem pw5 {ops : Array Oper} {Q : Exit → Act → World → Prop} {a0 : Act} {w5 W0 : World} {O : World → Prop} {N : World → Option Addr → Nat → Prop} {Pf : World → ByteArray → Option Addr → Nat → Nat → Option Addr → Nat → Nat → Option Addr → Nat → Nat → Int → Prop} {b4 nn : Nat} {rv av : Value} {s : ByteArray} {first : Int} {ty1 : Array TypeId}
    (q0 : isOpG ops 0 none (.load 25 (.tmp 4)) (some 32))
    (q1 : isOpG ops 1 none (.move (.tmp 11)) (some 33))
    (q2 : isOpG ops 2 none (.move (.tmp 2)) (some 34))
    (q3 : isOpG ops 3 none (.buildSlice 26 1 #[(0, .tmp 34)]) (some 35))
    (q4 : isOpG ops 4 none (.call { callee := .builtin .append, args := #[.tmp 33, .tmp 35], argTypes := #[26, 26] }) (some 36))
    (q5 : isOpG ops 5 none (.move (.tmp 3)) (some 37))
    (q6 : isOpG ops 6 none (.call { callee := .value (.func 6), args := #[.tmp 32, .tmp 36, .tmp 37], argTypes := ty1 }) (some 38))
    (q7 : isOpG ops 7 none (.move (.tmp 38)) (some 31))
    (q8 : isOpG ops 8 none (.extract (.tmp 31) 0) (some 39))
    (q9 : isOpG ops 9 none (.extract (.tmp 31) 1) (some 40))
    (q10 : isOpG ops 10 none (.alloc 30) (some 12))
    (q11 : isOpG ops 11 none (.store 30 (.tmp 12) (.tmp 39)) none)
    (q12 : isOpG ops 12 none (.assign (.tmp 40)) (some 13))
    (hs : Region.noSelect ops = true) (hq : (takes_pw5.all fun p => Region.free .any ops (LR 13 p.1) p.2 && (Region.ready .any ops (LR 13 p.1)).contains p.2) = true) (t4 : ops[4]?.map Oper.type = some 26)
    (r0F : Region.ready .any ops (LR 13 [0, 1, 2, 5]) = [3, 10]) (r0T : Region.ready .any ops (LR 13 [0, 1, 2, 5, 10]) = [3])
    (r1F : Region.ready .any ops (LR 13 [0, 1, 2, 5, 3]) = [4, 10]) (r1T : Region.ready .any ops (LR 13 [0, 1, 2, 5, 3, 10]) = [4])
    (r2F : Region.ready .any ops (LR 13 [0, 1, 2, 5, 3, 4]) = [6, 10]) (r2T : Region.ready .any ops (LR 13 [0, 1, 2, 5, 3, 4, 10]) = [6])
    (r3F : Region.ready .any ops (LR 13 [0, 1, 2, 5, 3, 4, 6, 7, 8, 9]) = [10]) (r3T : Region.ready .any ops (LR 13 [0, 1, 2, 5, 3, 4, 6, 7, 8, 9, 10]) = [11]) (rend : Region.ready .any ops (LR 13 [0, 1, 2, 5, 3, 4, 6, 7, 8, 9, 10, 11, 12]) = [])
    (hQ : ∀ (d : Option Tmp) (v : Value) c a w, Q (.panic c) (a.put d v) w → Q (.panic c) a w)
    (hsz : 40 < a0.tmps.size) (e4 : a0.eval (.tmp 4) = .pointer (some ⟨b4, 0, none⟩)) (e11 : a0.eval (.tmp 11) = av) (e2 : a0.eval (.tmp 2) = .string s) (e3 : a0.eval (.tmp 3) = .int .i64 first)
    (hS0 : Below W0.heap.size W0 w5.drew) (hz5 : W0.heap.size ≤ w5.heap.size) (kO0 : O w5.drew) (kO : ∀ u o, O u → O (u.alloc o)) (kN : ∀ u o a c, N u a c → N (u.alloc o) a c)
    (LRU : ∀ u, Below W0.heap.size W0 u → (loadVar 25 ⟨b4, 0, none⟩).run Tryd.prog u = .ok rv u)
    (HAP : ∀ u g, O u → Below W0.heap.size W0 u → w5.heap.size ≤ g → g < u.heap.size → RL u g 9 [.string s] → ∃ a6 c6 u2, (Builtin.append_ #[26, 26] 26 #[av, .slice (some ⟨g, 0, none⟩) 1 1]).run Tryd.prog u = .ok (.slice a6 nn c6) u2 ∧ Below W0.heap.size W0 u2 ∧ u.heap.size ≤ u2.heap.size ∧ (∀ b t cs, w5.heap.size ≤ b → b < u.heap.size → RL u b t cs → RL u2 b t cs) ∧ N u2 a6 c6)
    (CM : ∀ u a6 c6, Below W0.heap.size W0 u → N u a6 c6 → Calls Tryd.prog 6 #[rv, .slice a6 nn c6, .int .i64 first] u fun e u' => Below u.heap.size u u' ∧ ∃ (pr : ByteArray) (ra : Option Addr) (rn rc : Nat) (ba : Option Addr) (bn bc : Nat) (sa : Option Addr) (sn sc : Nat) (er : Int), e = .returned (.tuple #[.agg #[.string pr, .slice ra rn rc, .slice ba bn bc, .slice sa sn sc], .int .i64 er]) ∧ Pf u' pr ra rn rc ba bn bc sa sn sc er)
    (F : ∀ (a : Act) (u' wc : World) (b12 : Nat) (pr : ByteArray) (ra : Option Addr) (rn rc : Nat) (ba : Option Addr) (bn bc : Nat) (sa : Option Addr) (sn sc : Nat) (er : Int), Ag js_pw5 a0 a → a.eval (.tmp 12) = .pointer (some ⟨b12, 0, none⟩) → a.eval (.tmp 13) = .int .i64 er → Pf u' pr ra rn rc ba bn bc sa sn sc er → ((∃ u, u = u'.alloc (.cells #[.string ⟨#[]⟩, .slice none 0 0, .slice none 0 0, .slice none 0 0] 30) ∧ b12 = u'.heap.size ∧ wc = pl4 u b12 pr ra rn rc ba bn bc sa sn sc) ∨ (RL u' b12 30 [.string ⟨#[]⟩, .slice none 0 0, .slice none 0 0, .slice none 0 0] ∧ wc = pl4 u' b12 pr ra rn rc ba bn bc sa sn sc)) → w5.heap.size ≤ b12 → Below W0.heap.size W0 wc → RL wc b12 30 [.string pr, .slice ra rn rc, .slice ba bn bc, .slice sa sn sc] → Q .normal a wc) :
    wpAnyH Tryd.prog .any ops Q (fun u => Below W0.heap.size W0 u) 13 (LR 13 []) a0 w5.drew := by
  have hall : ∀ p ∈ takes_pw5, Region.free .any ops (LR 13 p.1) p.2 = true ∧ (Region.ready .any ops (LR 13 p.1)).contains p.2 = true := by
    intro p hp
    have := List.all_eq_true.1 hq p hp
    simpa using this
  unfold takes_pw5 at hall
  have kS : ∀ {u u' : World}, Below W0.heap.size W0 u → Below u.heap.size u u' → Below W0.heap.size W0 u' := fun h b => h.trans (b.mono h.size)
  have kA : ∀ {u : World} (o : Obj), Below u.heap.size u (u.alloc o) := fun o => (Below.refl _ _).alloc (Nat.le_refl _) _
  have PE : ∀ (a : Act) (u u' : World) (b12 : Nat) (pr : ByteArray) (ra : Option Addr) (rn rc : Nat) (ba : Option Addr) (bn bc : Nat) (sa : Option Addr) (sn sc : Nat) (er : Int), Ag js_pw5 a0 a → a.eval (.tmp 12) = .pointer (some ⟨b12, 0, none⟩) → a.eval (.tmp 39) = .agg #[.string pr, .slice ra rn rc, .slice ba bn bc, .slice sa sn sc] → a.eval (.tmp 40) = .int .i64 er → RL u b12 30 [.string ⟨#[]⟩, .slice none 0 0, .slice none 0 0, .slice none 0 0] → Pf u' pr ra rn rc ba bn bc sa sn sc er → ((u = u'.alloc (.cells #[.string ⟨#[]⟩, .slice none 0 0, .slice none 0 0, .slice none 0 0] 30) ∧ b12 = u'.heap.size) ∨ (u = u' ∧ RL u' b12 30 [.string ⟨#[]⟩, .slice none 0 0, .slice none 0 0, .slice none 0 0])) → w5.heap.size ≤ b12 → Below W0.heap.size W0 u → wpAnyH Tryd.prog .any ops Q (fun u => Below W0.heap.size W0 u) 2 (LR 13 [0, 1, 2, 5, 3, 4, 6, 7, 8, 9, 10]) a u := by
    intro a u u' b12 pr ra rn rc ba bn bc sa sn sc er hA h12 h39 h40 hR hP hU hb hS
    refine wpAnyH_all r3T (by simp) ?_
    intro i hi
    obtain rfl := List.mem_singleton.1 hi
    obtain ⟨o9, ho, hg, hop, hd⟩ := isOpG_out q11
    refine wpOp_skipG ho (wantedN hg) (run_storePl _ _ hop u h12 h39 hR) ?_
    have hS' : Below W0.heap.size W0 (pl4 u b12 pr ra rn rc ba bn bc sa sn sc) := pl4_below hS (Nat.le_trans hz5 hb) _ _ _ _ _ _ _ _ _ _
    refine ⟨hS', ?_⟩
    rw [hd]
    show wpAnyH _ _ _ _ _ 1 (LR 13 [0, 1, 2, 5, 3, 4, 6, 7, 8, 9, 10, 11]) a _
    clear ho hg hop hd
    obtain ⟨o12, ho, hg, hop, hd⟩ := isOpG_out q12
    have hfr := hall ([0, 1, 2, 5, 3, 4, 6, 7, 8, 9, 10, 11], 12) (by simp)
    refine wpAnyH_take (listed := LR 13 [0, 1, 2, 5, 3, 4, 6, 7, 8, 9, 10, 11]) (v := .int .i64 er) ho hs hfr.1 hfr.2 (hQ _ _) (Or.inl ⟨wantedN hg, fun w' hS => run_assignV _ _ hop w' h40⟩) hS' ?_
    rw [hd, ← LR_snoc]
    show wpAnyH _ _ _ _ _ 0 (LR 13 [0, 1, 2, 5, 3, 4, 6, 7, 8, 9, 10, 11, 12]) _ _
    refine wpAnyH_done rend (F _ u' _ b12 pr ra rn rc ba bn bc sa sn sc er (hA.put (by decide) _) (by rw [eval_far _ _ (by decide)]; exact h12) (eval_sameA hA _ (by omega)) hP ?_ hb hS' (pl4_rl hR _ _ _ _ _ _ _ _ _ _)) _
    rcases hU with ⟨h1, h2⟩ | ⟨rfl, h2⟩
    · exact .inl ⟨u, h1, h2, rfl⟩
    · exact .inr ⟨h2, rfl⟩
  have P3T : ∀ (a : Act) (u' : World) (b12 : Nat) (pr : ByteArray) (ra : Option Addr) (rn rc : Nat) (ba : Option Addr) (bn bc : Nat) (sa : Option Addr) (sn sc : Nat) (er : Int), Ag js_pw5 a0 a → a.eval (.tmp 38) = .tuple #[.agg #[.string pr, .slice ra rn rc, .slice ba bn bc, .slice sa sn sc], .int .i64 er] → a.eval (.tmp 12) = .pointer (some ⟨b12, 0, none⟩) → RL u' b12 30 [.string ⟨#[]⟩, .slice none 0 0, .slice none 0 0, .slice none 0 0] → Pf u' pr ra rn rc ba bn bc sa sn sc er → w5.heap.size ≤ b12 → Below W0.heap.size W0 u' → wpAnyH Tryd.prog .any ops Q (fun u => Below W0.heap.size W0 u) 5 (LR 13 [0, 1, 2, 5, 3, 4, 6, 10]) a u' := by
    intro a u' b12 pr ra rn rc ba bn bc sa sn sc er hA h38 h12 hR hP hb hS
    obtain ⟨o7, ho, hg, hop, hd⟩ := isOpG_out q7
    have hfr := hall ([0, 1, 2, 5, 3, 4, 6, 10], 7) (by simp)
    refine wpAnyH_take (listed := LR 13 [0, 1, 2, 5, 3, 4, 6, 10]) (v := .tuple #[.agg #[.string pr, .slice ra rn rc, .slice ba bn bc, .slice sa sn sc], .int .i64 er]) ho hs hfr.1 hfr.2 (hQ _ _) (Or.inl ⟨wantedN hg, fun w' hS => run_move _ _ hop w' h38⟩) hS ?_
    rw [hd, ← LR_snoc]
    have B0 := hA.put (i := 31) (by decide) (.tuple #[.agg #[.string pr, .slice ra rn rc, .slice ba bn bc, .slice sa sn sc], .int .i64 er])
    have k31 := eval_sameA hA (.tuple #[.agg #[.string pr, .slice ra rn rc, .slice ba bn bc, .slice sa sn sc], .int .i64 er]) (i := 31) (by omega)
    have h12 := (eval_far a (i := 31) (j := 12) (.tuple #[.agg #[.string pr, .slice ra rn rc, .slice ba bn bc, .slice sa sn sc], .int .i64 er]) (by decide)).trans h12
    generalize a.put (some 31) (.tuple #[.agg #[.string pr, .slice ra rn rc, .slice ba bn bc, .slice sa sn sc], .int .i64 er]) = d0 at *
    clear ho hg hop hd hfr
    obtain ⟨o8, ho, hg, hop, hd⟩ := isOpG_out q8
    have hfr := hall ([0, 1, 2, 5, 3, 4, 6, 10, 7], 8) (by simp)
    refine wpAnyH_take (listed := LR 13 [0, 1, 2, 5, 3, 4, 6, 10, 7]) (v := .agg #[.string pr, .slice ra rn rc, .slice ba bn bc, .slice sa sn sc]) ho hs hfr.1 hfr.2 (hQ _ _) (Or.inl ⟨wantedN hg, fun w' hS => run_extrV _ _ hop w' k31⟩) hS ?_
    rw [hd, ← LR_snoc]
    have B1 := B0.put (i := 39) (by decide) (.agg #[.string pr, .slice ra rn rc, .slice ba bn bc, .slice sa sn sc])
    have k39 := eval_sameA B0 (.agg #[.string pr, .slice ra rn rc, .slice ba bn bc, .slice sa sn sc]) (i := 39) (by omega)
    have h12 := (eval_far d0 (i := 39) (j := 12) (.agg #[.string pr, .slice ra rn rc, .slice ba bn bc, .slice sa sn sc]) (by decide)).trans h12
    have k31 := (eval_far d0 (i := 39) (j := 31) (.agg #[.string pr, .slice ra rn rc, .slice ba bn bc, .slice sa sn sc]) (by decide)).trans k31
    generalize d0.put (some 39) (.agg #[.string pr, .slice ra rn rc, .slice ba bn bc, .slice sa sn sc]) = d1 at *
    clear ho hg hop hd hfr
    obtain ⟨o9, ho, hg, hop, hd⟩ := isOpG_out q9
    have hfr := hall ([0, 1, 2, 5, 3, 4, 6, 10, 7, 8], 9) (by simp)
    refine wpAnyH_take (listed := LR 13 [0, 1, 2, 5, 3, 4, 6, 10, 7, 8]) (v := .int .i64 er) ho hs hfr.1 hfr.2 (hQ _ _) (Or.inl ⟨wantedN hg, fun w' hS => run_extrW _ _ hop w' k31⟩) hS ?_
    rw [hd, ← LR_snoc]
    have B2 := B1.put (i := 40) (by decide) (.int .i64 er)
    have k40 := eval_sameA B1 (.int .i64 er) (i := 40) (by omega)
    have h12 := (eval_far d1 (i := 40) (j := 12) (.int .i64 er) (by decide)).trans h12
    have k31 := (eval_far d1 (i := 40) (j := 31) (.int .i64 er) (by decide)).trans k31
    have k39 := (eval_far d1 (i := 40) (j := 39) (.int .i64 er) (by decide)).trans k39
    generalize d1.put (some 40) (.int .i64 er) = d2 at *
    clear ho hg hop hd hfr
    exact PE d2 u' u' b12 pr ra rn rc ba bn bc sa sn sc er B2 h12 k39 k40 hR hP (.inr ⟨rfl, hR⟩) hb hS
  have P3F : ∀ (a : Act) (u' : World) (pr : ByteArray) (ra : Option Addr) (rn rc : Nat) (ba : Option Addr) (bn bc : Nat) (sa : Option Addr) (sn sc : Nat) (er : Int), Ag js_pw5 a0 a → a.eval (.tmp 38) = .tuple #[.agg #[.string pr, .slice ra rn rc, .slice ba bn bc, .slice sa sn sc], .int .i64 er] → Pf u' pr ra rn rc ba bn bc sa sn sc er → w5.heap.size ≤ u'.heap.size → Below W0.heap.size W0 u' → wpAnyH Tryd.prog .any ops Q (fun u => Below W0.heap.size W0 u) 6 (LR 13 [0, 1, 2, 5, 3, 4, 6]) a u' := by
    intro a u' pr ra rn rc ba bn bc sa sn sc er hA h38 hP hz hS
    obtain ⟨o7, ho, hg, hop, hd⟩ := isOpG_out q7
    have hfr := hall ([0, 1, 2, 5, 3, 4, 6], 7) (by simp)
    refine wpAnyH_take (listed := LR 13 [0, 1, 2, 5, 3, 4, 6]) (v := .tuple #[.agg #[.string pr, .slice ra rn rc, .slice ba bn bc, .slice sa sn sc], .int .i64 er]) ho hs hfr.1 hfr.2 (hQ _ _) (Or.inl ⟨wantedN hg, fun w' hS => run_move _ _ hop w' h38⟩) hS ?_
    rw [hd, ← LR_snoc]
    have B0 := hA.put (i := 31) (by decide) (.tuple #[.agg #[.string pr, .slice ra rn rc, .slice ba bn bc, .slice sa sn sc], .int .i64 er])
    have k31 := eval_sameA hA (.tuple #[.agg #[.string pr, .slice ra rn rc, .slice ba bn bc, .slice sa sn sc], .int .i64 er]) (i := 31) (by omega)
    generalize a.put (some 31) (.tuple #[.agg #[.string pr, .slice ra rn rc, .slice ba bn bc, .slice sa sn sc], .int .i64 er]) = d0 at *
    clear ho hg hop hd hfr
    obtain ⟨o8, ho, hg, hop, hd⟩ := isOpG_out q8
    have hfr := hall ([0, 1, 2, 5, 3, 4, 6, 7], 8) (by simp)
    refine wpAnyH_take (listed := LR 13 [0, 1, 2, 5, 3, 4, 6, 7]) (v := .agg #[.string pr, .slice ra rn rc, .slice ba bn bc, .slice sa sn sc]) ho hs hfr.1 hfr.2 (hQ _ _) (Or.inl ⟨wantedN hg, fun w' hS => run_extrV _ _ hop w' k31⟩) hS ?_
    rw [hd, ← LR_snoc]
    have B1 := B0.put (i := 39) (by decide) (.agg #[.string pr, .slice ra rn rc, .slice ba bn bc, .slice sa sn sc])
    have k39 := eval_sameA B0 (.agg #[.string pr, .slice ra rn rc, .slice ba bn bc, .slice sa sn sc]) (i := 39) (by omega)
    have k31 := (eval_far d0 (i := 39) (j := 31) (.agg #[.string pr, .slice ra rn rc, .slice ba bn bc, .slice sa sn sc]) (by decide)).trans k31
    generalize d0.put (some 39) (.agg #[.string pr, .slice ra rn rc, .slice ba bn bc, .slice sa sn sc]) = d1 at *
    clear ho hg hop hd hfr
    obtain ⟨o9, ho, hg, hop, hd⟩ := isOpG_out q9
    have hfr := hall ([0, 1, 2, 5, 3, 4, 6, 7, 8], 9) (by simp)
    refine wpAnyH_take (listed := LR 13 [0, 1, 2, 5, 3, 4, 6, 7, 8]) (v := .int .i64 er) ho hs hfr.1 hfr.2 (hQ _ _) (Or.inl ⟨wantedN hg, fun w' hS => run_extrW _ _ hop w' k31⟩) hS ?_
    rw [hd, ← LR_snoc]
    have B2 := B1.put (i := 40) (by decide) (.int .i64 er)
    have k40 := eval_sameA B1 (.int .i64 er) (i := 40) (by omega)
    have k31 := (eval_far d1 (i := 40) (j := 31) (.int .i64 er) (by decide)).trans k31
    have k39 := (eval_far d1 (i := 40) (j := 39) (.int .i64 er) (by decide)).trans k39
    generalize d1.put (some 40) (.int .i64 er) = d2 at *
    clear ho hg hop hd hfr
    refine wpAnyH_all r3F (by simp) ?_
    intro i hi
    obtain rfl := List.mem_singleton.1 hi
    obtain ⟨o10, ho, hg, hop, hd⟩ := isOpG_out q10
    refine wpOp_valG ho (wantedN hg) (run_allocPl _ _ hop u') ⟨kS hS (kA _), ?_⟩
    rw [hd, ← LR_snoc]
    exact PE _ _ u' u'.heap.size pr ra rn rc ba bn bc sa sn sc er (B2.put (by decide) _) (eval_sameA B2 _ (by omega)) (by rw [eval_far _ _ (by decide)]; exact k39) (by rw [eval_far _ _ (by decide)]; exact k40) (rl_new u' _ _) hP (.inl ⟨rfl, rfl⟩) hz (kS hS (kA _))
  have P2T : ∀ (a : Act) (u : World) (b12 : Nat) (a6 : Option Addr) (c6 : Nat), Ag js_pw5 a0 a → a.eval (.tmp 32) = rv → a.eval (.tmp 37) = .int .i64 first → a.eval (.tmp 36) = .slice a6 nn c6 → a.eval (.tmp 12) = .pointer (some ⟨b12, 0, none⟩) → RL u b12 30 [.string ⟨#[]⟩, .slice none 0 0, .slice none 0 0, .slice none 0 0] → N u a6 c6 → w5.heap.size ≤ b12 → Below W0.heap.size W0 u → wpAnyH Tryd.prog .any ops Q (fun u => Below W0.heap.size W0 u) 6 (LR 13 [0, 1, 2, 5, 3, 4, 10]) a u := by
    intro a u b12 a6 c6 hA h32 h37 h36 h12 hR hN hb hS
    refine wpAnyH_all r2T (by simp) ?_
    intro i hi
    obtain rfl := List.mem_singleton.1 hi
    obtain ⟨o6, ho, hg, hop, hd⟩ := isOpG_out q6
    refine wpOp_callG ho (wantedN hg) (run_callV 6 Tryd.func6 (by kernel_rfl) (by kernel_rfl) #[.tmp 32, .tmp 36, .tmp 37] _ hop #[rv, .slice a6 nn c6, .int .i64 first] (by simp only [List.map_toArray, List.map_cons, List.map_nil, h32, h36, h37])) ?_
    refine (CM u a6 c6 hS hN).mono ?_
    rintro e u2 ⟨b1, pr, ra, rn, rc, ba, bn, bc, sa, sn, sc, er, rfl, hP⟩
    refine ⟨_, rfl, kS hS b1, ?_⟩
    rw [hd, ← LR_snoc]
    exact P3T _ u2 b12 pr ra rn rc ba bn bc sa sn sc er (hA.put (by decide) _) (eval_sameA hA _ (by omega)) (by rw [eval_far _ _ (by decide)]; exact h12) (hR.below b1) hP hb (kS hS b1)
  have P2F : ∀ (a : Act) (u : World) (a6 : Option Addr) (c6 : Nat), Ag js_pw5 a0 a → a.eval (.tmp 32) = rv → a.eval (.tmp 37) = .int .i64 first → a.eval (.tmp 36) = .slice a6 nn c6 → N u a6 c6 → w5.heap.size ≤ u.heap.size → Below W0.heap.size W0 u → wpAnyH Tryd.prog .any ops Q (fun u => Below W0.heap.size W0 u) 7 (LR 13 [0, 1, 2, 5, 3, 4]) a u := by
    intro a u a6 c6 hA h32 h37 h36 hN hz hS
    refine wpAnyH_all r2F (by simp) ?_
    intro i hi
    rcases List.mem_cons.1 hi with rfl | hi
    · skip
      obtain ⟨o6, ho, hg, hop, hd⟩ := isOpG_out q6
      refine wpOp_callG ho (wantedN hg) (run_callV 6 Tryd.func6 (by kernel_rfl) (by kernel_rfl) #[.tmp 32, .tmp 36, .tmp 37] _ hop #[rv, .slice a6 nn c6, .int .i64 first] (by simp only [List.map_toArray, List.map_cons, List.map_nil, h32, h36, h37])) ?_
      refine (CM u a6 c6 hS hN).mono ?_
      rintro e u2 ⟨b1, pr, ra, rn, rc, ba, bn, bc, sa, sn, sc, er, rfl, hP⟩
      refine ⟨_, rfl, kS hS b1, ?_⟩
      rw [hd, ← LR_snoc]
      exact P3F _ u2 pr ra rn rc ba bn bc sa sn sc er (hA.put (by decide) _) (eval_sameA hA _ (by omega)) hP (Nat.le_trans hz b1.size) (kS hS b1)
    · skip
      obtain rfl := List.mem_singleton.1 hi
      obtain ⟨o10, ho, hg, hop, hd⟩ := isOpG_out q10
      refine wpOp_valG ho (wantedN hg) (run_allocPl _ _ hop u) ⟨kS hS (kA _), ?_⟩
      rw [hd, ← LR_snoc]
      exact P2T _ _ u.heap.size a6 c6 (hA.put (by decide) _) (by rw [eval_far _ _ (by decide)]; exact h32) (by rw [eval_far _ _ (by decide)]; exact h37) (by rw [eval_far _ _ (by decide)]; exact h36) (eval_sameA hA _ (by omega)) (rl_new u _ _) (kN _ _ _ _ hN) hz (kS hS (kA _))
  have P1T : ∀ (a : Act) (u : World) (b12 g : Nat), Ag js_pw5 a0 a → a.eval (.tmp 32) = rv → a.eval (.tmp 37) = .int .i64 first → a.eval (.tmp 33) = av → a.eval (.tmp 35) = .slice (some ⟨g, 0, none⟩) 1 1 → a.eval (.tmp 12) = .pointer (some ⟨b12, 0, none⟩) → RL u b12 30 [.string ⟨#[]⟩, .slice none 0 0, .slice none 0 0, .slice none 0 0] → RL u g 9 [.string s] → O u → w5.heap.size ≤ g → g < u.heap.size → w5.heap.size ≤ b12 → b12 < u.heap.size → Below W0.heap.size W0 u → wpAnyH Tryd.prog .any ops Q (fun u => Below W0.heap.size W0 u) 7 (LR 13 [0, 1, 2, 5, 3, 10]) a u := by
    intro a u b12 g hA h32 h37 h33 h35 h12 hR hG hO hgg hgl hb hbl hS
    refine wpAnyH_all r1T (by simp) ?_
    intro i hi
    obtain rfl := List.mem_singleton.1 hi
    obtain ⟨o4, ho, hg, hop, hd⟩ := isOpG_out q4
    obtain ⟨a6, c6, u2, hap, hS2, hzz, hkp, hN⟩ := HAP u g hO hS hgg hgl hG
    refine wpOp_valG ho (wantedN hg) (run_appW _ _ hop (typ_ofW t4 ho) u h33 h35 hap) ⟨hS2, ?_⟩
    rw [hd, ← LR_snoc]
    exact P2T _ u2 b12 a6 c6 (hA.put (by decide) _) (by rw [eval_far _ _ (by decide)]; exact h32) (by rw [eval_far _ _ (by decide)]; exact h37) (eval_sameA hA _ (by omega)) (by rw [eval_far _ _ (by decide)]; exact h12) (hkp _ _ _ hb hbl hR) hN hb hS2
  have P1F : ∀ (a : Act) (u : World) (g : Nat), Ag js_pw5 a0 a → a.eval (.tmp 32) = rv → a.eval (.tmp 37) = .int .i64 first → a.eval (.tmp 33) = av → a.eval (.tmp 35) = .slice (some ⟨g, 0, none⟩) 1 1 → RL u g 9 [.string s] → O u → w5.heap.size ≤ g → g < u.heap.size → w5.heap.size ≤ u.heap.size → Below W0.heap.size W0 u → wpAnyH Tryd.prog .any ops Q (fun u => Below W0.heap.size W0 u) 8 (LR 13 [0, 1, 2, 5, 3]) a u := by
    intro a u g hA h32 h37 h33 h35 hG hO hgg hgl hz hS
    refine wpAnyH_all r1F (by simp) ?_
    intro i hi
    rcases List.mem_cons.1 hi with rfl | hi
    · skip
      obtain ⟨o4, ho, hg, hop, hd⟩ := isOpG_out q4
      obtain ⟨a6, c6, u2, hap, hS2, hzz, hkp, hN⟩ := HAP u g hO hS hgg hgl hG
      refine wpOp_valG ho (wantedN hg) (run_appW _ _ hop (typ_ofW t4 ho) u h33 h35 hap) ⟨hS2, ?_⟩
      rw [hd, ← LR_snoc]
      exact P2F _ u2 a6 c6 (hA.put (by decide) _) (by rw [eval_far _ _ (by decide)]; exact h32) (by rw [eval_far _ _ (by decide)]; exact h37) (eval_sameA hA _ (by omega)) hN (Nat.le_trans hz hzz) hS2
    · skip
      obtain rfl := List.mem_singleton.1 hi
      obtain ⟨o10, ho, hg, hop, hd⟩ := isOpG_out q10
      refine wpOp_valG ho (wantedN hg) (run_allocPl _ _ hop u) ⟨kS hS (kA _), ?_⟩
      rw [hd, ← LR_snoc]
      exact P1T _ _ u.heap.size g (hA.put (by decide) _) (by rw [eval_far _ _ (by decide)]; exact h32) (by rw [eval_far _ _ (by decide)]; exact h37) (by rw [eval_far _ _ (by decide)]; exact h33) (by rw [eval_far _ _ (by decide)]; exact h35) (eval_sameA hA _ (by omega)) (rl_new u _ _) (hG.below (kA _)) (kO _ _ hO) hgg (by simp; omega) hz (by simp) (kS hS (kA _))
  have P0T : ∀ (a : Act) (u : World) (b12 : Nat), Ag js_pw5 a0 a → a.eval (.tmp 32) = rv → a.eval (.tmp 37) = .int .i64 first → a.eval (.tmp 33) = av → a.eval (.tmp 34) = .string s → a.eval (.tmp 12) = .pointer (some ⟨b12, 0, none⟩) → RL u b12 30 [.string ⟨#[]⟩, .slice none 0 0, .slice none 0 0, .slice none 0 0] → O u → w5.heap.size ≤ b12 → b12 < u.heap.size → w5.heap.size ≤ u.heap.size → Below W0.heap.size W0 u → wpAnyH Tryd.prog .any ops Q (fun u => Below W0.heap.size W0 u) 8 (LR 13 [0, 1, 2, 5, 10]) a u := by
    intro a u b12 hA h32 h37 h33 h34 h12 hR hO hb hbl hz hS
    refine wpAnyH_all r0T (by simp) ?_
    intro i hi
    obtain rfl := List.mem_singleton.1 hi
    obtain ⟨o3, ho, hg, hop, hd⟩ := isOpG_out q3
    refine wpOp_valG ho (wantedN hg) (run_bsStr _ _ hop u h34) ⟨kS hS (kA _), ?_⟩
    rw [hd, ← LR_snoc]
    exact P1T _ _ b12 u.heap.size (hA.put (by decide) _) (by rw [eval_far _ _ (by decide)]; exact h32) (by rw [eval_far _ _ (by decide)]; exact h37) (by rw [eval_far _ _ (by decide)]; exact h33) (eval_sameA hA _ (by omega)) (by rw [eval_far _ _ (by decide)]; exact h12) (hR.below (kA _)) (rl_new u _ _) (kO _ _ hO) hz (by simp) hb (by simp; omega) (kS hS (kA _))
  have P0F : ∀ (a : Act) (u : World), Ag js_pw5 a0 a → a.eval (.tmp 32) = rv → a.eval (.tmp 37) = .int .i64 first → a.eval (.tmp 33) = av → a.eval (.tmp 34) = .string s → O u → w5.heap.size ≤ u.heap.size → Below W0.heap.size W0 u → wpAnyH Tryd.prog .any ops Q (fun u => Below W0.heap.size W0 u) 9 (LR 13 [0, 1, 2, 5]) a u := by
    intro a u hA h32 h37 h33 h34 hO hz hS
    refine wpAnyH_all r0F (by simp) ?_
    intro i hi
    rcases List.mem_cons.1 hi with rfl | hi
    · obtain ⟨o3, ho, hg, hop, hd⟩ := isOpG_out q3
      refine wpOp_valG ho (wantedN hg) (run_bsStr _ _ hop u h34) ⟨kS hS (kA _), ?_⟩
      rw [hd, ← LR_snoc]
      exact P1F _ _ u.heap.size (hA.put (by decide) _) (by rw [eval_far _ _ (by decide)]; exact h32) (by rw [eval_far _ _ (by decide)]; exact h37) (by rw [eval_far _ _ (by decide)]; exact h33) (eval_sameA hA _ (by omega)) (rl_new u _ _) (kO _ _ hO) hz (by simp) (by simp; omega) (kS hS (kA _))
    · skip
      obtain rfl := List.mem_singleton.1 hi
      obtain ⟨o10, ho, hg, hop, hd⟩ := isOpG_out q10
      refine wpOp_valG ho (wantedN hg) (run_allocPl _ _ hop u) ⟨kS hS (kA _), ?_⟩
      rw [hd, ← LR_snoc]
      exact P0T _ _ u.heap.size (hA.put (by decide) _) (by rw [eval_far _ _ (by decide)]; exact h32) (by rw [eval_far _ _ (by decide)]; exact h37) (by rw [eval_far _ _ (by decide)]; exact h33) (by rw [eval_far _ _ (by decide)]; exact h34) (eval_sameA hA _ (by omega)) (rl_new u _ _) (kO _ _ hO) hz (by simp) (by simp; omega) (kS hS (kA _))
  have A0 := Ag.refl js_pw5 a0
  obtain ⟨o0, ho, hg, hop, hd⟩ := isOpG_out q0
  have hfr := hall ([], 0) (by simp)
  refine wpAnyH_take (listed := LR 13 []) (v := rv) ho hs hfr.1 hfr.2 (hQ _ _) (Or.inl ⟨wantedN hg, fun w' hS => run_loadG _ _ hop w' e4 (LRU w' hS)⟩) hS0 ?_
  rw [hd, ← LR_snoc]
  have A1 := A0.put (i := 32) (by decide) (rv)
  have g32 := eval_sameA A0 (rv) (i := 32) (by omega)
  have e4 := (eval_far a0 (i := 32) (j := 4) (rv) (by decide)).trans e4
  have e11 := (eval_far a0 (i := 32) (j := 11) (rv) (by decide)).trans e11
  have e2 := (eval_far a0 (i := 32) (j := 2) (rv) (by decide)).trans e2
  have e3 := (eval_far a0 (i := 32) (j := 3) (rv) (by decide)).trans e3
  generalize a0.put (some 32) (rv) = c1 at *
  clear ho hg hop hd hfr
  obtain ⟨o1, ho, hg, hop, hd⟩ := isOpG_out q1
  have hfr := hall ([0], 1) (by simp)
  refine wpAnyH_take (listed := LR 13 [0]) (v := av) ho hs hfr.1 hfr.2 (hQ _ _) (Or.inl ⟨wantedN hg, fun w' hS => run_move _ _ hop w' e11⟩) hS0 ?_
  rw [hd, ← LR_snoc]
  have A2 := A1.put (i := 33) (by decide) (av)
  have g33 := eval_sameA A1 (av) (i := 33) (by omega)
  have e4 := (eval_far c1 (i := 33) (j := 4) (av) (by decide)).trans e4
  have e11 := (eval_far c1 (i := 33) (j := 11) (av) (by decide)).trans e11
  have e2 := (eval_far c1 (i := 33) (j := 2) (av) (by decide)).trans e2
  have e3 := (eval_far c1 (i := 33) (j := 3) (av) (by decide)).trans e3
  have g32 := (eval_far c1 (i := 33) (j := 32) (av) (by decide)).trans g32
  generalize c1.put (some 33) (av) = c2 at *
  clear ho hg hop hd hfr
  obtain ⟨o2, ho, hg, hop, hd⟩ := isOpG_out q2
  have hfr := hall ([0, 1], 2) (by simp)
  refine wpAnyH_take (listed := LR 13 [0, 1]) (v := .string s) ho hs hfr.1 hfr.2 (hQ _ _) (Or.inl ⟨wantedN hg, fun w' hS => run_move _ _ hop w' e2⟩) hS0 ?_
  rw [hd, ← LR_snoc]
  have A3 := A2.put (i := 34) (by decide) (.string s)
  have g34 := eval_sameA A2 (.string s) (i := 34) (by omega)
  have e4 := (eval_far c2 (i := 34) (j := 4) (.string s) (by decide)).trans e4
  have e11 := (eval_far c2 (i := 34) (j := 11) (.string s) (by decide)).trans e11
  have e2 := (eval_far c2 (i := 34) (j := 2) (.string s) (by decide)).trans e2
  have e3 := (eval_far c2 (i := 34) (j := 3) (.string s) (by decide)).trans e3
  have g32 := (eval_far c2 (i := 34) (j := 32) (.string s) (by decide)).trans g32
  have g33 := (eval_far c2 (i := 34) (j := 33) (.string s) (by decide)).trans g33
  generalize c2.put (some 34) (.string s) = c3 at *
  clear ho hg hop hd hfr
  obtain ⟨o5, ho, hg, hop, hd⟩ := isOpG_out q5
  have hfr := hall ([0, 1, 2], 5) (by simp)
  refine wpAnyH_take (listed := LR 13 [0, 1, 2]) (v := .int .i64 first) ho hs hfr.1 hfr.2 (hQ _ _) (Or.inl ⟨wantedN hg, fun w' hS => run_move _ _ hop w' e3⟩) hS0 ?_
  rw [hd, ← LR_snoc]
  have A4 := A3.put (i := 37) (by decide) (.int .i64 first)
  have g37 := eval_sameA A3 (.int .i64 first) (i := 37) (by omega)
  have e4 := (eval_far c3 (i := 37) (j := 4) (.int .i64 first) (by decide)).trans e4
  have e11 := (eval_far c3 (i := 37) (j := 11) (.int .i64 first) (by decide)).trans e11
  have e2 := (eval_far c3 (i := 37) (j := 2) (.int .i64 first) (by decide)).trans e2
  have e3 := (eval_far c3 (i := 37) (j := 3) (.int .i64 first) (by decide)).trans e3
  have g32 := (eval_far c3 (i := 37) (j := 32) (.int .i64 first) (by decide)).trans g32
  have g33 := (eval_far c3 (i := 37) (j := 33) (.int .i64 first) (by decide)).trans g33
  have g34 := (eval_far c3 (i := 37) (j := 34) (.int .i64 first) (by decide)).trans g34
  generalize c3.put (some 37) (.int .i64 first) = c4 at *
  clear ho hg hop hd hfr
  exact P0F _ _ A4 g32 g37 g33 g34 kO0 (Nat.le_refl _) hS0
end Go.Proofs.YteabclfhmapabaaDoor
