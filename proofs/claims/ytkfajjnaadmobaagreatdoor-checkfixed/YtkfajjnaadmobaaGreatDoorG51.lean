import Derived.Test.YtkfajjnaadmobaaGreatDoorG33
import Derived.Test.YtkfajjnaadmobaaGreatDoorG50
import Derived.Test.YtkfajjnaadmobaaGreatDoorCfLQ
section
namespace Go.Proofs.YtkfajjnaadmobaaGreatDoor
open Go.RowKit Go.Maps
set_option linter.unusedVariables false
set_option linter.unusedSimpArgs false

theorem run_idxS (ev : Operand → Value) (o : Oper) {x y : Operand} (hop : o.op = .indexAddr 25 x y) (w : World) {g off n c k : Nat} (hx : ev x = .slice (some ⟨g, off, none⟩) n c) (hy : ev y = .int .i64 (k : Int)) (hk : k < n) : (execOp ev o).run Tryz.prog w = .ok (.value (.pointer (some ⟨g, off + k, none⟩))) w := by
  have hk' : (k : Int) < (n : Int) := by omega
  have hk0 : (0 : Int) ≤ (k : Int) := by omega
  simp only [execOp, hop, hx, hy]
  go_simp
theorem run_cutS (ev : Operand → Value) (o : Oper) {x y : Operand} (hop : o.op = .slice 25 x none (some y) none) (w : World) {g off n c k : Nat} (hx : ev x = .slice (some ⟨g, off, none⟩) n c) (hy : ev y = .int .i64 (k : Int)) (hk : k < n) (hc : n ≤ c) : (execOp ev o).run Tryz.prog w = .ok (.value (.slice (some ⟨g, off, none⟩) k c)) w := by
  have hk' : (k : Int) ≤ (c : Int) := by omega
  have hk0 : (0 : Int) ≤ (k : Int) := by omega
  simp only [execOp, hop, hx, hy]
  go_simp
def cffixA_takes : List (List Nat × Nat) := [([], 0), ([0], 1), ([0, 1], 2), ([0, 1, 2], 3), ([0, 1, 2, 3], 4), ([0, 1, 2, 3, 4], 5), ([0, 1, 2, 3, 4, 5], 6), ([0, 1, 2, 3, 4, 5, 6, 7], 8), ([0, 1, 2, 3, 4, 5, 6, 7, 8], 9), ([0, 1, 2, 3, 4, 5, 6, 7, 8, 9], 10), ([0, 1, 2, 3, 4, 5, 6, 7, 8, 9, 10], 11), ([0, 1, 2, 3, 4, 5, 6, 7, 8, 9, 10, 11], 12), ([0, 1, 2, 3, 4, 5, 6, 7, 8, 9, 10, 11, 12], 13), ([0, 1, 2, 3, 4, 5, 6, 7, 8, 9, 10, 11, 12, 13, 14], 15), ([0, 1, 2, 3, 4, 5, 6, 7, 8, 9, 10, 11, 12, 13, 14, 15], 16), ([0, 1, 2, 3, 4, 5, 6, 7, 8, 9, 10, 11, 12, 13, 14, 15, 16], 17), ([0, 1, 2, 3, 4, 5, 6, 7, 8, 9, 10, 11, 12, 13, 14, 15, 16, 17], 18), ([0, 1, 2, 3, 4, 5, 6, 7, 8, 9, 10, 11, 12, 13, 14, 15, 16, 17, 18], 19), ([0, 1, 2, 3, 4, 5, 6, 7, 8, 9, 10, 11, 12, 13, 14, 15, 16, 17, 18, 19], 20), ([0, 1, 2, 3, 4, 5, 6, 7, 8, 9, 10, 11, 12, 13, 14, 15, 16, 17, 18, 19, 20], 21), ([0, 1, 2, 3, 4, 5, 6, 7, 8, 9, 10, 11, 12, 13, 14, 15, 16, 17, 18, 19, 20, 21], 22), ([0, 1, 2, 3, 4, 5, 6, 7, 8, 9, 10, 11, 12, 13, 14, 15, 16, 17, 18, 19, 20, 21, 22], 23), ([0, 1, 2, 3, 4, 5, 6, 7, 8, 9, 10, 11, 12, 13, 14, 15, 16, 17, 18, 19, 20, 21, 22, 23], 24), ([0, 1, 2, 3, 4, 5, 6, 7, 8, 9, 10, 11, 12, 13, 14, 15, 16, 17, 18, 19, 20, 21, 22, 23, 24], 25), ([0, 1, 2, 3, 4, 5, 6, 7, 8, 9, 10, 11, 12, 13, 14, 15, 16, 17, 18, 19, 20, 21, 22, 23, 24, 25], 26), ([0, 1, 2, 3, 4, 5, 6, 7, 8, 9, 10, 11, 12, 13, 14, 15, 16, 17, 18, 19, 20, 21, 22, 23, 24, 25, 26], 27), ([0, 1, 2, 3, 4, 5, 6, 7, 8, 9, 10, 11, 12, 13, 14, 15, 16, 17, 18, 19, 20, 21, 22, 23, 24, 25, 26, 27], 28)]
set_option maxHeartbeats 3200000 in
theorem cffixA {ops : Array Oper} {Q : Exit → Act → World → Prop} {S : World → Prop} {a0 : Act} {w5 : World} {g off nn cc k : Nat} {s : ByteArray} {av bv : Value} {ty1 ty2 ty3 : Array TypeId}
    (q0 : isOpG ops 0 none (.move (.tmp 3)) (some 28))
    (q1 : isOpG ops 1 none (.move (.tmp 5)) (some 29))
    (q2 : isOpG ops 2 none (.indexAddr 25 (.tmp 28) (.tmp 29)) (some 30))
    (q3 : isOpG ops 3 none (.load 9 (.tmp 30)) (some 31))
    (q4 : isOpG ops 4 none (.move (.tmp 3)) (some 32))
    (q5 : isOpG ops 5 none (.move (.tmp 5)) (some 33))
    (q6 : isOpG ops 6 none (.slice 25 (.tmp 32) none (some (.tmp 33)) none) (some 34))
    (q7 : isOpG ops 7 none (.call { callee := .value (.func 11), args := #[.tmp 31, .tmp 34], argTypes := ty1 }) (some 35))
    (q8 : isOpG ops 8 none (.move (.tmp 35)) (some 36))
    (q9 : isOpG ops 9 (some (8, false)) (.move (.tmp 3)) (some 37))
    (q10 : isOpG ops 10 (some (8, false)) (.move (.tmp 5)) (some 38))
    (q11 : isOpG ops 11 (some (8, false)) (.indexAddr 25 (.tmp 37) (.tmp 38)) (some 39))
    (q12 : isOpG ops 12 (some (8, false)) (.load 9 (.tmp 39)) (some 40))
    (q13 : isOpG ops 13 (some (8, false)) (.move (.tmp 4)) (some 41))
    (q14 : isOpG ops 14 (some (8, false)) (.call { callee := .value (.func 11), args := #[.tmp 40, .tmp 41], argTypes := ty2 }) (some 42))
    (q15 : isOpG ops 15 (some (8, false)) (.unOp .not 4 (.tmp 42)) (some 43))
    (q16 : isOpG ops 16 (some (8, false)) (.move (.tmp 43)) (some 44))
    (q17 : isOpG ops 17 (some (16, true)) (.move (.tmp 0)) (some 45))
    (q18 : isOpG ops 18 (some (16, true)) (.move (.tmp 3)) (some 46))
    (q19 : isOpG ops 19 (some (16, true)) (.move (.tmp 5)) (some 47))
    (q20 : isOpG ops 20 (some (16, true)) (.indexAddr 25 (.tmp 46) (.tmp 47)) (some 48))
    (q21 : isOpG ops 21 (some (16, true)) (.load 9 (.tmp 48)) (some 49))
    (q22 : isOpG ops 22 (some (16, true)) (.move (.tmp 3)) (some 50))
    (q23 : isOpG ops 23 (some (16, true)) (.move (.tmp 5)) (some 51))
    (q24 : isOpG ops 24 (some (16, true)) (.slice 25 (.tmp 50) none (some (.tmp 51)) none) (some 52))
    (q25 : isOpG ops 25 (some (16, true)) (.call { callee := .value (.func 12), args := #[.tmp 45, .tmp 49, .tmp 52], argTypes := ty3 }) (some 53))
    (q26 : isOpG ops 26 (some (16, true)) (.unOp .not 4 (.tmp 53)) (some 54))
    (q27 : isOpG ops 27 (some (8, false)) (.pick (.tmp 44) (.tmp 54) (.const (.bool false))) (some 55))
    (q28 : isOpG ops 28 none (.pick (.tmp 36) (.const (.bool true)) (.tmp 55)) (some 56))
    (hs : Region.noSelect ops = true) (hq : (cffixA_takes.all fun p => Region.free .any ops (LR 29 p.1) p.2 && (Region.ready .any ops (LR 29 p.1)).contains p.2) = true)
    (r7 : Region.ready .any ops (LR 29 [0, 1, 2, 3, 4, 5, 6]) = [7])
    (r14 : Region.ready .any ops (LR 29 [0, 1, 2, 3, 4, 5, 6, 7, 8, 9, 10, 11, 12, 13]) = [14])
    (rend : Region.ready .any ops (LR 29 [0, 1, 2, 3, 4, 5, 6, 7, 8, 9, 10, 11, 12, 13, 14, 15, 16, 17, 18, 19, 20, 21, 22, 23, 24, 25, 26, 27, 28]) = [])
    (hQ : ∀ (d : Option Tmp) (v : Value) c a w, Q (.panic c) (a.put d v) w → Q (.panic c) a w)
    (hsz : 56 < a0.tmps.size) (e0 : a0.eval (.tmp 0) = bv) (e3 : a0.eval (.tmp 3) = .slice (some ⟨g, off, none⟩) nn cc) (e4 : a0.eval (.tmp 4) = av) (e5 : a0.eval (.tmp 5) = .int .i64 (k : Int))
    (hS0 : S w5.drew)
    (keep : ∀ u u', S u → S u' → S u') (hk : k < nn) (hc : nn ≤ cc) (LST : ∀ u, S u → (loadVar 9 ⟨g, off + k, none⟩).run Tryz.prog u = .ok (.string s) u)
    (C1 : Calls Tryz.prog 11 #[.string s, .slice (some ⟨g, off, none⟩) k cc] w5.drew fun e u1 => e = .returned (.bool false) ∧ S u1 ∧ Calls Tryz.prog 11 #[.string s, av] u1 fun e u2 => e = .returned (.bool true) ∧ S u2)
    (F : ∀ (wc : World), S wc → Q .normal (((((((((((((((((((((((((((((a0.put (some 28) (.slice (some ⟨g, off, none⟩) nn cc)).put (some 29) (.int .i64 (k : Int))).put (some 30) (.pointer (some ⟨g, off + k, none⟩))).put (some 31) (.string s)).put (some 32) (.slice (some ⟨g, off, none⟩) nn cc)).put (some 33) (.int .i64 (k : Int))).put (some 34) (.slice (some ⟨g, off, none⟩) k cc)).put (some 35) (.bool false)).put (some 36) (.bool false)).put (some 37) (.slice (some ⟨g, off, none⟩) nn cc)).put (some 38) (.int .i64 (k : Int))).put (some 39) (.pointer (some ⟨g, off + k, none⟩))).put (some 40) (.string s)).put (some 41) (av)).put (some 42) (.bool true)).put (some 43) (.bool false)).put (some 44) (.bool false)).put (some 45) (undef)).put (some 46) (undef)).put (some 47) (undef)).put (some 48) (undef)).put (some 49) (undef)).put (some 50) (undef)).put (some 51) (undef)).put (some 52) (undef)).put (some 53) (undef)).put (some 54) (undef)).put (some 55) (.bool false)).put (some 56) (.bool false)) wc) :
    wpAnyH Tryz.prog .any ops Q S 29 (LR 29 []) a0 w5.drew := by
  have hall : ∀ p ∈ cffixA_takes, Region.free .any ops (LR 29 p.1) p.2 = true ∧ (Region.ready .any ops (LR 29 p.1)).contains p.2 = true := by
    intro p hp
    have := List.all_eq_true.1 hq p hp
    simpa using this
  unfold cffixA_takes at hall
  obtain ⟨og8, hog8, _, _, dog8⟩ := isOpG_out q8
  obtain ⟨og16, hog16, _, _, dog16⟩ := isOpG_out q16
  obtain ⟨o0, ho, hg, hop, hd⟩ := isOpG_out q0
  have hfr := hall ([], 0) (by simp)
  refine wpAnyH_take (listed := LR 29 []) (v := .slice (some ⟨g, off, none⟩) nn cc) ho hs hfr.1 hfr.2 (hQ _ _) (Or.inl ⟨(wantedN hg), fun w' hS => run_move _ _ hop w' (by (repeat rw [eval_far _ _ (by decide)]); exact e3)⟩) hS0 ?_
  rw [hd, ← LR_snoc]
  clear ho hg hop hd hfr
  obtain ⟨o1, ho, hg, hop, hd⟩ := isOpG_out q1
  have hfr := hall ([0], 1) (by simp)
  refine wpAnyH_take (listed := LR 29 [0]) (v := .int .i64 (k : Int)) ho hs hfr.1 hfr.2 (hQ _ _) (Or.inl ⟨(wantedN hg), fun w' hS => run_move _ _ hop w' (by (repeat rw [eval_far _ _ (by decide)]); exact e5)⟩) hS0 ?_
  rw [hd, ← LR_snoc]
  clear ho hg hop hd hfr
  obtain ⟨o2, ho, hg, hop, hd⟩ := isOpG_out q2
  have hfr := hall ([0, 1], 2) (by simp)
  refine wpAnyH_take (listed := LR 29 [0, 1]) (v := .pointer (some ⟨g, off + k, none⟩)) ho hs hfr.1 hfr.2 (hQ _ _) (Or.inl ⟨(wantedN hg), fun w' hS => run_idxS _ _ hop w' (by (repeat (first | rw [eval_same _ _ (by (try simp only [put_size]); omega)] | rw [eval_far _ _ (by decide)]))) (by (repeat (first | rw [eval_same _ _ (by (try simp only [put_size]); omega)] | rw [eval_far _ _ (by decide)]))) hk⟩) hS0 ?_
  rw [hd, ← LR_snoc]
  clear ho hg hop hd hfr
  obtain ⟨o3, ho, hg, hop, hd⟩ := isOpG_out q3
  have hfr := hall ([0, 1, 2], 3) (by simp)
  refine wpAnyH_take (listed := LR 29 [0, 1, 2]) (v := .string s) ho hs hfr.1 hfr.2 (hQ _ _) (Or.inl ⟨(wantedN hg), fun w' hS => run_loadS _ _ hop w' (by (repeat (first | rw [eval_same _ _ (by (try simp only [put_size]); omega)] | rw [eval_far _ _ (by decide)]))) (LST _ hS)⟩) hS0 ?_
  rw [hd, ← LR_snoc]
  clear ho hg hop hd hfr
  obtain ⟨o4, ho, hg, hop, hd⟩ := isOpG_out q4
  have hfr := hall ([0, 1, 2, 3], 4) (by simp)
  refine wpAnyH_take (listed := LR 29 [0, 1, 2, 3]) (v := .slice (some ⟨g, off, none⟩) nn cc) ho hs hfr.1 hfr.2 (hQ _ _) (Or.inl ⟨(wantedN hg), fun w' hS => run_move _ _ hop w' (by (repeat rw [eval_far _ _ (by decide)]); exact e3)⟩) hS0 ?_
  rw [hd, ← LR_snoc]
  clear ho hg hop hd hfr
  obtain ⟨o5, ho, hg, hop, hd⟩ := isOpG_out q5
  have hfr := hall ([0, 1, 2, 3, 4], 5) (by simp)
  refine wpAnyH_take (listed := LR 29 [0, 1, 2, 3, 4]) (v := .int .i64 (k : Int)) ho hs hfr.1 hfr.2 (hQ _ _) (Or.inl ⟨(wantedN hg), fun w' hS => run_move _ _ hop w' (by (repeat rw [eval_far _ _ (by decide)]); exact e5)⟩) hS0 ?_
  rw [hd, ← LR_snoc]
  clear ho hg hop hd hfr
  obtain ⟨o6, ho, hg, hop, hd⟩ := isOpG_out q6
  have hfr := hall ([0, 1, 2, 3, 4, 5], 6) (by simp)
  refine wpAnyH_take (listed := LR 29 [0, 1, 2, 3, 4, 5]) (v := .slice (some ⟨g, off, none⟩) k cc) ho hs hfr.1 hfr.2 (hQ _ _) (Or.inl ⟨(wantedN hg), fun w' hS => run_cutS _ _ hop w' (by (repeat (first | rw [eval_same _ _ (by (try simp only [put_size]); omega)] | rw [eval_far _ _ (by decide)]))) (by (repeat (first | rw [eval_same _ _ (by (try simp only [put_size]); omega)] | rw [eval_far _ _ (by decide)]))) hk hc⟩) hS0 ?_
  rw [hd, ← LR_snoc]
  clear ho hg hop hd hfr
  refine wpAnyH_all r7 (by simp) ?_
  intro i hi
  obtain rfl := List.mem_singleton.1 hi
  obtain ⟨o7, ho, hg, hop, hd⟩ := isOpG_out q7
  have x7_0 : ((((((((a0.put (some 28) (.slice (some ⟨g, off, none⟩) nn cc)).put (some 29) (.int .i64 (k : Int))).put (some 30) (.pointer (some ⟨g, off + k, none⟩))).put (some 31) (.string s)).put (some 32) (.slice (some ⟨g, off, none⟩) nn cc)).put (some 33) (.int .i64 (k : Int))).put (some 34) (.slice (some ⟨g, off, none⟩) k cc))).eval (.tmp 31) = .string s := (by (repeat (first | rw [eval_same _ _ (by (try simp only [put_size]); omega)] | rw [eval_far _ _ (by decide)])))
  have x7_1 : ((((((((a0.put (some 28) (.slice (some ⟨g, off, none⟩) nn cc)).put (some 29) (.int .i64 (k : Int))).put (some 30) (.pointer (some ⟨g, off + k, none⟩))).put (some 31) (.string s)).put (some 32) (.slice (some ⟨g, off, none⟩) nn cc)).put (some 33) (.int .i64 (k : Int))).put (some 34) (.slice (some ⟨g, off, none⟩) k cc))).eval (.tmp 34) = .slice (some ⟨g, off, none⟩) k cc := (by (repeat (first | rw [eval_same _ _ (by (try simp only [put_size]); omega)] | rw [eval_far _ _ (by decide)])))
  refine wpOp_callG ho (wantedN hg) (run_callV 11 Tryz.func11 (by kernel_rfl) (by kernel_rfl) #[.tmp 31, .tmp 34] _ hop #[.string s, .slice (some ⟨g, off, none⟩) k cc] (by simp only [List.map_toArray, List.map_cons, List.map_nil, x7_0, x7_1])) ?_
  refine (C1).mono ?_
  rintro e u1 ⟨rfl, hS1, C2⟩
  have hS7 := keep _ _ hS0 hS1
  refine ⟨_, rfl, hS7, ?_⟩
  rw [hd]
  clear ho hg hop hd
  rw [← LR_snoc]
  obtain ⟨o8, ho, hg, hop, hd⟩ := isOpG_out q8
  have hfr := hall ([0, 1, 2, 3, 4, 5, 6, 7], 8) (by simp)
  refine wpAnyH_take (listed := LR 29 [0, 1, 2, 3, 4, 5, 6, 7]) (v := .bool false) ho hs hfr.1 hfr.2 (hQ _ _) (Or.inl ⟨(wantedN hg), fun w' hS => run_move _ _ hop w' (by (repeat (first | rw [eval_same _ _ (by (try simp only [put_size]); omega)] | rw [eval_far _ _ (by decide)])))⟩) hS7 ?_
  rw [hd, ← LR_snoc]
  clear ho hg hop hd hfr
  obtain ⟨o9, ho, hg, hop, hd⟩ := isOpG_out q9
  have hfr := hall ([0, 1, 2, 3, 4, 5, 6, 7, 8], 9) (by simp)
  refine wpAnyH_take (listed := LR 29 [0, 1, 2, 3, 4, 5, 6, 7, 8]) (v := .slice (some ⟨g, off, none⟩) nn cc) ho hs hfr.1 hfr.2 (hQ _ _) (Or.inl ⟨((wantedB hog8 dog8 hg (by (repeat (first | rw [tmps_same _ _ (by (try simp only [put_size]); omega)] | rw [tmps_far _ _ (by decide)])))).trans (by decide)), fun w' hS => run_move _ _ hop w' (by (repeat rw [eval_far _ _ (by decide)]); exact e3)⟩) hS7 ?_
  rw [hd, ← LR_snoc]
  clear ho hg hop hd hfr
  obtain ⟨o10, ho, hg, hop, hd⟩ := isOpG_out q10
  have hfr := hall ([0, 1, 2, 3, 4, 5, 6, 7, 8, 9], 10) (by simp)
  refine wpAnyH_take (listed := LR 29 [0, 1, 2, 3, 4, 5, 6, 7, 8, 9]) (v := .int .i64 (k : Int)) ho hs hfr.1 hfr.2 (hQ _ _) (Or.inl ⟨((wantedB hog8 dog8 hg (by (repeat (first | rw [tmps_same _ _ (by (try simp only [put_size]); omega)] | rw [tmps_far _ _ (by decide)])))).trans (by decide)), fun w' hS => run_move _ _ hop w' (by (repeat rw [eval_far _ _ (by decide)]); exact e5)⟩) hS7 ?_
  rw [hd, ← LR_snoc]
  clear ho hg hop hd hfr
  obtain ⟨o11, ho, hg, hop, hd⟩ := isOpG_out q11
  have hfr := hall ([0, 1, 2, 3, 4, 5, 6, 7, 8, 9, 10], 11) (by simp)
  refine wpAnyH_take (listed := LR 29 [0, 1, 2, 3, 4, 5, 6, 7, 8, 9, 10]) (v := .pointer (some ⟨g, off + k, none⟩)) ho hs hfr.1 hfr.2 (hQ _ _) (Or.inl ⟨((wantedB hog8 dog8 hg (by (repeat (first | rw [tmps_same _ _ (by (try simp only [put_size]); omega)] | rw [tmps_far _ _ (by decide)])))).trans (by decide)), fun w' hS => run_idxS _ _ hop w' (by (repeat (first | rw [eval_same _ _ (by (try simp only [put_size]); omega)] | rw [eval_far _ _ (by decide)]))) (by (repeat (first | rw [eval_same _ _ (by (try simp only [put_size]); omega)] | rw [eval_far _ _ (by decide)]))) hk⟩) hS7 ?_
  rw [hd, ← LR_snoc]
  clear ho hg hop hd hfr
  obtain ⟨o12, ho, hg, hop, hd⟩ := isOpG_out q12
  have hfr := hall ([0, 1, 2, 3, 4, 5, 6, 7, 8, 9, 10, 11], 12) (by simp)
  refine wpAnyH_take (listed := LR 29 [0, 1, 2, 3, 4, 5, 6, 7, 8, 9, 10, 11]) (v := .string s) ho hs hfr.1 hfr.2 (hQ _ _) (Or.inl ⟨((wantedB hog8 dog8 hg (by (repeat (first | rw [tmps_same _ _ (by (try simp only [put_size]); omega)] | rw [tmps_far _ _ (by decide)])))).trans (by decide)), fun w' hS => run_loadS _ _ hop w' (by (repeat (first | rw [eval_same _ _ (by (try simp only [put_size]); omega)] | rw [eval_far _ _ (by decide)]))) (LST _ hS)⟩) hS7 ?_
  rw [hd, ← LR_snoc]
  clear ho hg hop hd hfr
  obtain ⟨o13, ho, hg, hop, hd⟩ := isOpG_out q13
  have hfr := hall ([0, 1, 2, 3, 4, 5, 6, 7, 8, 9, 10, 11, 12], 13) (by simp)
  refine wpAnyH_take (listed := LR 29 [0, 1, 2, 3, 4, 5, 6, 7, 8, 9, 10, 11, 12]) (v := av) ho hs hfr.1 hfr.2 (hQ _ _) (Or.inl ⟨((wantedB hog8 dog8 hg (by (repeat (first | rw [tmps_same _ _ (by (try simp only [put_size]); omega)] | rw [tmps_far _ _ (by decide)])))).trans (by decide)), fun w' hS => run_move _ _ hop w' (by (repeat rw [eval_far _ _ (by decide)]); exact e4)⟩) hS7 ?_
  rw [hd, ← LR_snoc]
  clear ho hg hop hd hfr
  refine wpAnyH_all r14 (by simp) ?_
  intro i hi
  obtain rfl := List.mem_singleton.1 hi
  obtain ⟨o14, ho, hg, hop, hd⟩ := isOpG_out q14
  have x14_0 : (((((((((((((((a0.put (some 28) (.slice (some ⟨g, off, none⟩) nn cc)).put (some 29) (.int .i64 (k : Int))).put (some 30) (.pointer (some ⟨g, off + k, none⟩))).put (some 31) (.string s)).put (some 32) (.slice (some ⟨g, off, none⟩) nn cc)).put (some 33) (.int .i64 (k : Int))).put (some 34) (.slice (some ⟨g, off, none⟩) k cc)).put (some 35) (.bool false)).put (some 36) (.bool false)).put (some 37) (.slice (some ⟨g, off, none⟩) nn cc)).put (some 38) (.int .i64 (k : Int))).put (some 39) (.pointer (some ⟨g, off + k, none⟩))).put (some 40) (.string s)).put (some 41) (av))).eval (.tmp 40) = .string s := (by (repeat (first | rw [eval_same _ _ (by (try simp only [put_size]); omega)] | rw [eval_far _ _ (by decide)])))
  have x14_1 : (((((((((((((((a0.put (some 28) (.slice (some ⟨g, off, none⟩) nn cc)).put (some 29) (.int .i64 (k : Int))).put (some 30) (.pointer (some ⟨g, off + k, none⟩))).put (some 31) (.string s)).put (some 32) (.slice (some ⟨g, off, none⟩) nn cc)).put (some 33) (.int .i64 (k : Int))).put (some 34) (.slice (some ⟨g, off, none⟩) k cc)).put (some 35) (.bool false)).put (some 36) (.bool false)).put (some 37) (.slice (some ⟨g, off, none⟩) nn cc)).put (some 38) (.int .i64 (k : Int))).put (some 39) (.pointer (some ⟨g, off + k, none⟩))).put (some 40) (.string s)).put (some 41) (av))).eval (.tmp 41) = av := (by (repeat (first | rw [eval_same _ _ (by (try simp only [put_size]); omega)] | rw [eval_far _ _ (by decide)])))
  refine wpOp_callG ho ((wantedB hog8 dog8 hg (by (repeat (first | rw [tmps_same _ _ (by (try simp only [put_size]); omega)] | rw [tmps_far _ _ (by decide)])))).trans (by decide)) (run_callV 11 Tryz.func11 (by kernel_rfl) (by kernel_rfl) #[.tmp 40, .tmp 41] _ hop #[.string s, av] (by simp only [List.map_toArray, List.map_cons, List.map_nil, x14_0, x14_1])) ?_
  refine (C2).mono ?_
  rintro e u2 ⟨rfl, hS2⟩
  have hS14 := keep _ _ hS7 hS2
  refine ⟨_, rfl, hS14, ?_⟩
  rw [hd]
  clear ho hg hop hd
  rw [← LR_snoc]
  obtain ⟨o15, ho, hg, hop, hd⟩ := isOpG_out q15
  have hfr := hall ([0, 1, 2, 3, 4, 5, 6, 7, 8, 9, 10, 11, 12, 13, 14], 15) (by simp)
  refine wpAnyH_take (listed := LR 29 [0, 1, 2, 3, 4, 5, 6, 7, 8, 9, 10, 11, 12, 13, 14]) (v := .bool false) ho hs hfr.1 hfr.2 (hQ _ _) (Or.inl ⟨((wantedB hog8 dog8 hg (by (repeat (first | rw [tmps_same _ _ (by (try simp only [put_size]); omega)] | rw [tmps_far _ _ (by decide)])))).trans (by decide)), fun w' hS => run_notV (b := true) _ _ hop w' (by (repeat (first | rw [eval_same _ _ (by (try simp only [put_size]); omega)] | rw [eval_far _ _ (by decide)])))⟩) hS14 ?_
  rw [hd, ← LR_snoc]
  clear ho hg hop hd hfr
  obtain ⟨o16, ho, hg, hop, hd⟩ := isOpG_out q16
  have hfr := hall ([0, 1, 2, 3, 4, 5, 6, 7, 8, 9, 10, 11, 12, 13, 14, 15], 16) (by simp)
  refine wpAnyH_take (listed := LR 29 [0, 1, 2, 3, 4, 5, 6, 7, 8, 9, 10, 11, 12, 13, 14, 15]) (v := .bool false) ho hs hfr.1 hfr.2 (hQ _ _) (Or.inl ⟨((wantedB hog8 dog8 hg (by (repeat (first | rw [tmps_same _ _ (by (try simp only [put_size]); omega)] | rw [tmps_far _ _ (by decide)])))).trans (by decide)), fun w' hS => run_move _ _ hop w' (by (repeat (first | rw [eval_same _ _ (by (try simp only [put_size]); omega)] | rw [eval_far _ _ (by decide)])))⟩) hS14 ?_
  rw [hd, ← LR_snoc]
  clear ho hg hop hd hfr
  obtain ⟨o17, ho, hg, hop, hd⟩ := isOpG_out q17
  have hfr := hall ([0, 1, 2, 3, 4, 5, 6, 7, 8, 9, 10, 11, 12, 13, 14, 15, 16], 17) (by simp)
  refine wpAnyH_take (listed := LR 29 [0, 1, 2, 3, 4, 5, 6, 7, 8, 9, 10, 11, 12, 13, 14, 15, 16]) (v := undef) ho hs hfr.1 hfr.2 (hQ _ _) (Or.inr ⟨((wantedB hog16 dog16 hg (by (repeat (first | rw [tmps_same _ _ (by (try simp only [put_size]); omega)] | rw [tmps_far _ _ (by decide)])))).trans (by decide)), rfl⟩) hS14 ?_
  rw [hd, ← LR_snoc]
  clear ho hg hop hd hfr
  obtain ⟨o18, ho, hg, hop, hd⟩ := isOpG_out q18
  have hfr := hall ([0, 1, 2, 3, 4, 5, 6, 7, 8, 9, 10, 11, 12, 13, 14, 15, 16, 17], 18) (by simp)
  refine wpAnyH_take (listed := LR 29 [0, 1, 2, 3, 4, 5, 6, 7, 8, 9, 10, 11, 12, 13, 14, 15, 16, 17]) (v := undef) ho hs hfr.1 hfr.2 (hQ _ _) (Or.inr ⟨((wantedB hog16 dog16 hg (by (repeat (first | rw [tmps_same _ _ (by (try simp only [put_size]); omega)] | rw [tmps_far _ _ (by decide)])))).trans (by decide)), rfl⟩) hS14 ?_
  rw [hd, ← LR_snoc]
  clear ho hg hop hd hfr
  obtain ⟨o19, ho, hg, hop, hd⟩ := isOpG_out q19
  have hfr := hall ([0, 1, 2, 3, 4, 5, 6, 7, 8, 9, 10, 11, 12, 13, 14, 15, 16, 17, 18], 19) (by simp)
  refine wpAnyH_take (listed := LR 29 [0, 1, 2, 3, 4, 5, 6, 7, 8, 9, 10, 11, 12, 13, 14, 15, 16, 17, 18]) (v := undef) ho hs hfr.1 hfr.2 (hQ _ _) (Or.inr ⟨((wantedB hog16 dog16 hg (by (repeat (first | rw [tmps_same _ _ (by (try simp only [put_size]); omega)] | rw [tmps_far _ _ (by decide)])))).trans (by decide)), rfl⟩) hS14 ?_
  rw [hd, ← LR_snoc]
  clear ho hg hop hd hfr
  obtain ⟨o20, ho, hg, hop, hd⟩ := isOpG_out q20
  have hfr := hall ([0, 1, 2, 3, 4, 5, 6, 7, 8, 9, 10, 11, 12, 13, 14, 15, 16, 17, 18, 19], 20) (by simp)
  refine wpAnyH_take (listed := LR 29 [0, 1, 2, 3, 4, 5, 6, 7, 8, 9, 10, 11, 12, 13, 14, 15, 16, 17, 18, 19]) (v := undef) ho hs hfr.1 hfr.2 (hQ _ _) (Or.inr ⟨((wantedB hog16 dog16 hg (by (repeat (first | rw [tmps_same _ _ (by (try simp only [put_size]); omega)] | rw [tmps_far _ _ (by decide)])))).trans (by decide)), rfl⟩) hS14 ?_
  rw [hd, ← LR_snoc]
  clear ho hg hop hd hfr
  obtain ⟨o21, ho, hg, hop, hd⟩ := isOpG_out q21
  have hfr := hall ([0, 1, 2, 3, 4, 5, 6, 7, 8, 9, 10, 11, 12, 13, 14, 15, 16, 17, 18, 19, 20], 21) (by simp)
  refine wpAnyH_take (listed := LR 29 [0, 1, 2, 3, 4, 5, 6, 7, 8, 9, 10, 11, 12, 13, 14, 15, 16, 17, 18, 19, 20]) (v := undef) ho hs hfr.1 hfr.2 (hQ _ _) (Or.inr ⟨((wantedB hog16 dog16 hg (by (repeat (first | rw [tmps_same _ _ (by (try simp only [put_size]); omega)] | rw [tmps_far _ _ (by decide)])))).trans (by decide)), rfl⟩) hS14 ?_
  rw [hd, ← LR_snoc]
  clear ho hg hop hd hfr
  obtain ⟨o22, ho, hg, hop, hd⟩ := isOpG_out q22
  have hfr := hall ([0, 1, 2, 3, 4, 5, 6, 7, 8, 9, 10, 11, 12, 13, 14, 15, 16, 17, 18, 19, 20, 21], 22) (by simp)
  refine wpAnyH_take (listed := LR 29 [0, 1, 2, 3, 4, 5, 6, 7, 8, 9, 10, 11, 12, 13, 14, 15, 16, 17, 18, 19, 20, 21]) (v := undef) ho hs hfr.1 hfr.2 (hQ _ _) (Or.inr ⟨((wantedB hog16 dog16 hg (by (repeat (first | rw [tmps_same _ _ (by (try simp only [put_size]); omega)] | rw [tmps_far _ _ (by decide)])))).trans (by decide)), rfl⟩) hS14 ?_
  rw [hd, ← LR_snoc]
  clear ho hg hop hd hfr
  obtain ⟨o23, ho, hg, hop, hd⟩ := isOpG_out q23
  have hfr := hall ([0, 1, 2, 3, 4, 5, 6, 7, 8, 9, 10, 11, 12, 13, 14, 15, 16, 17, 18, 19, 20, 21, 22], 23) (by simp)
  refine wpAnyH_take (listed := LR 29 [0, 1, 2, 3, 4, 5, 6, 7, 8, 9, 10, 11, 12, 13, 14, 15, 16, 17, 18, 19, 20, 21, 22]) (v := undef) ho hs hfr.1 hfr.2 (hQ _ _) (Or.inr ⟨((wantedB hog16 dog16 hg (by (repeat (first | rw [tmps_same _ _ (by (try simp only [put_size]); omega)] | rw [tmps_far _ _ (by decide)])))).trans (by decide)), rfl⟩) hS14 ?_
  rw [hd, ← LR_snoc]
  clear ho hg hop hd hfr
  obtain ⟨o24, ho, hg, hop, hd⟩ := isOpG_out q24
  have hfr := hall ([0, 1, 2, 3, 4, 5, 6, 7, 8, 9, 10, 11, 12, 13, 14, 15, 16, 17, 18, 19, 20, 21, 22, 23], 24) (by simp)
  refine wpAnyH_take (listed := LR 29 [0, 1, 2, 3, 4, 5, 6, 7, 8, 9, 10, 11, 12, 13, 14, 15, 16, 17, 18, 19, 20, 21, 22, 23]) (v := undef) ho hs hfr.1 hfr.2 (hQ _ _) (Or.inr ⟨((wantedB hog16 dog16 hg (by (repeat (first | rw [tmps_same _ _ (by (try simp only [put_size]); omega)] | rw [tmps_far _ _ (by decide)])))).trans (by decide)), rfl⟩) hS14 ?_
  rw [hd, ← LR_snoc]
  clear ho hg hop hd hfr
  obtain ⟨o25, ho, hg, hop, hd⟩ := isOpG_out q25
  have hfr := hall ([0, 1, 2, 3, 4, 5, 6, 7, 8, 9, 10, 11, 12, 13, 14, 15, 16, 17, 18, 19, 20, 21, 22, 23, 24], 25) (by simp)
  refine wpAnyH_take (listed := LR 29 [0, 1, 2, 3, 4, 5, 6, 7, 8, 9, 10, 11, 12, 13, 14, 15, 16, 17, 18, 19, 20, 21, 22, 23, 24]) (v := undef) ho hs hfr.1 hfr.2 (hQ _ _) (Or.inr ⟨((wantedB hog16 dog16 hg (by (repeat (first | rw [tmps_same _ _ (by (try simp only [put_size]); omega)] | rw [tmps_far _ _ (by decide)])))).trans (by decide)), rfl⟩) hS14 ?_
  rw [hd, ← LR_snoc]
  clear ho hg hop hd hfr
  obtain ⟨o26, ho, hg, hop, hd⟩ := isOpG_out q26
  have hfr := hall ([0, 1, 2, 3, 4, 5, 6, 7, 8, 9, 10, 11, 12, 13, 14, 15, 16, 17, 18, 19, 20, 21, 22, 23, 24, 25], 26) (by simp)
  refine wpAnyH_take (listed := LR 29 [0, 1, 2, 3, 4, 5, 6, 7, 8, 9, 10, 11, 12, 13, 14, 15, 16, 17, 18, 19, 20, 21, 22, 23, 24, 25]) (v := undef) ho hs hfr.1 hfr.2 (hQ _ _) (Or.inr ⟨((wantedB hog16 dog16 hg (by (repeat (first | rw [tmps_same _ _ (by (try simp only [put_size]); omega)] | rw [tmps_far _ _ (by decide)])))).trans (by decide)), rfl⟩) hS14 ?_
  rw [hd, ← LR_snoc]
  clear ho hg hop hd hfr
  obtain ⟨o27, ho, hg, hop, hd⟩ := isOpG_out q27
  have hfr := hall ([0, 1, 2, 3, 4, 5, 6, 7, 8, 9, 10, 11, 12, 13, 14, 15, 16, 17, 18, 19, 20, 21, 22, 23, 24, 25, 26], 27) (by simp)
  refine wpAnyH_take (listed := LR 29 [0, 1, 2, 3, 4, 5, 6, 7, 8, 9, 10, 11, 12, 13, 14, 15, 16, 17, 18, 19, 20, 21, 22, 23, 24, 25, 26]) (v := .bool false) ho hs hfr.1 hfr.2 (hQ _ _) (Or.inl ⟨((wantedB hog8 dog8 hg (by (repeat (first | rw [tmps_same _ _ (by (try simp only [put_size]); omega)] | rw [tmps_far _ _ (by decide)])))).trans (by decide)), fun w' hS => run_pickF _ _ hop w' (by (repeat (first | rw [eval_same _ _ (by (try simp only [put_size]); omega)] | rw [eval_far _ _ (by decide)]))) rfl⟩) hS14 ?_
  rw [hd, ← LR_snoc]
  clear ho hg hop hd hfr
  obtain ⟨o28, ho, hg, hop, hd⟩ := isOpG_out q28
  have hfr := hall ([0, 1, 2, 3, 4, 5, 6, 7, 8, 9, 10, 11, 12, 13, 14, 15, 16, 17, 18, 19, 20, 21, 22, 23, 24, 25, 26, 27], 28) (by simp)
  refine wpAnyH_take (listed := LR 29 [0, 1, 2, 3, 4, 5, 6, 7, 8, 9, 10, 11, 12, 13, 14, 15, 16, 17, 18, 19, 20, 21, 22, 23, 24, 25, 26, 27]) (v := .bool false) ho hs hfr.1 hfr.2 (hQ _ _) (Or.inl ⟨(wantedN hg), fun w' hS => run_pickF _ _ hop w' (by (repeat (first | rw [eval_same _ _ (by (try simp only [put_size]); omega)] | rw [eval_far _ _ (by decide)]))) (by (repeat (first | rw [eval_same _ _ (by (try simp only [put_size]); omega)] | rw [eval_far _ _ (by decide)])))⟩) hS14 ?_
  rw [hd, ← LR_snoc]
  clear ho hg hop hd hfr
  exact wpAnyH_done rend (F _ hS14) _
def cffixB_takes : List (List Nat × Nat) := [([], 0), ([0], 1), ([0, 1], 2), ([0, 1, 2], 3), ([0, 1, 2, 3], 4), ([0, 1, 2, 3, 4], 5), ([0, 1, 2, 3, 4, 5], 6), ([0, 1, 2, 3, 4, 5, 6, 7], 8), ([0, 1, 2, 3, 4, 5, 6, 7, 8], 9), ([0, 1, 2, 3, 4, 5, 6, 7, 8, 9], 10), ([0, 1, 2, 3, 4, 5, 6, 7, 8, 9, 10], 11), ([0, 1, 2, 3, 4, 5, 6, 7, 8, 9, 10, 11], 12), ([0, 1, 2, 3, 4, 5, 6, 7, 8, 9, 10, 11, 12], 13), ([0, 1, 2, 3, 4, 5, 6, 7, 8, 9, 10, 11, 12, 13, 14], 15), ([0, 1, 2, 3, 4, 5, 6, 7, 8, 9, 10, 11, 12, 13, 14, 15], 16), ([0, 1, 2, 3, 4, 5, 6, 7, 8, 9, 10, 11, 12, 13, 14, 15, 16], 17), ([0, 1, 2, 3, 4, 5, 6, 7, 8, 9, 10, 11, 12, 13, 14, 15, 16, 17], 18), ([0, 1, 2, 3, 4, 5, 6, 7, 8, 9, 10, 11, 12, 13, 14, 15, 16, 17, 18], 19), ([0, 1, 2, 3, 4, 5, 6, 7, 8, 9, 10, 11, 12, 13, 14, 15, 16, 17, 18, 19], 20), ([0, 1, 2, 3, 4, 5, 6, 7, 8, 9, 10, 11, 12, 13, 14, 15, 16, 17, 18, 19, 20], 21), ([0, 1, 2, 3, 4, 5, 6, 7, 8, 9, 10, 11, 12, 13, 14, 15, 16, 17, 18, 19, 20, 21], 22), ([0, 1, 2, 3, 4, 5, 6, 7, 8, 9, 10, 11, 12, 13, 14, 15, 16, 17, 18, 19, 20, 21, 22], 23), ([0, 1, 2, 3, 4, 5, 6, 7, 8, 9, 10, 11, 12, 13, 14, 15, 16, 17, 18, 19, 20, 21, 22, 23], 24), ([0, 1, 2, 3, 4, 5, 6, 7, 8, 9, 10, 11, 12, 13, 14, 15, 16, 17, 18, 19, 20, 21, 22, 23, 24, 25], 26), ([0, 1, 2, 3, 4, 5, 6, 7, 8, 9, 10, 11, 12, 13, 14, 15, 16, 17, 18, 19, 20, 21, 22, 23, 24, 25, 26], 27), ([0, 1, 2, 3, 4, 5, 6, 7, 8, 9, 10, 11, 12, 13, 14, 15, 16, 17, 18, 19, 20, 21, 22, 23, 24, 25, 26, 27], 28)]
set_option maxHeartbeats 3200000 in
theorem cffixB {ops : Array Oper} {Q : Exit → Act → World → Prop} {S : World → Prop} {a0 : Act} {w5 : World} {g off nn cc k : Nat} {s : ByteArray} {av bv : Value} {ty1 ty2 ty3 : Array TypeId}
    (q0 : isOpG ops 0 none (.move (.tmp 3)) (some 28))
    (q1 : isOpG ops 1 none (.move (.tmp 5)) (some 29))
    (q2 : isOpG ops 2 none (.indexAddr 25 (.tmp 28) (.tmp 29)) (some 30))
    (q3 : isOpG ops 3 none (.load 9 (.tmp 30)) (some 31))
    (q4 : isOpG ops 4 none (.move (.tmp 3)) (some 32))
    (q5 : isOpG ops 5 none (.move (.tmp 5)) (some 33))
    (q6 : isOpG ops 6 none (.slice 25 (.tmp 32) none (some (.tmp 33)) none) (some 34))
    (q7 : isOpG ops 7 none (.call { callee := .value (.func 11), args := #[.tmp 31, .tmp 34], argTypes := ty1 }) (some 35))
    (q8 : isOpG ops 8 none (.move (.tmp 35)) (some 36))
    (q9 : isOpG ops 9 (some (8, false)) (.move (.tmp 3)) (some 37))
    (q10 : isOpG ops 10 (some (8, false)) (.move (.tmp 5)) (some 38))
    (q11 : isOpG ops 11 (some (8, false)) (.indexAddr 25 (.tmp 37) (.tmp 38)) (some 39))
    (q12 : isOpG ops 12 (some (8, false)) (.load 9 (.tmp 39)) (some 40))
    (q13 : isOpG ops 13 (some (8, false)) (.move (.tmp 4)) (some 41))
    (q14 : isOpG ops 14 (some (8, false)) (.call { callee := .value (.func 11), args := #[.tmp 40, .tmp 41], argTypes := ty2 }) (some 42))
    (q15 : isOpG ops 15 (some (8, false)) (.unOp .not 4 (.tmp 42)) (some 43))
    (q16 : isOpG ops 16 (some (8, false)) (.move (.tmp 43)) (some 44))
    (q17 : isOpG ops 17 (some (16, true)) (.move (.tmp 0)) (some 45))
    (q18 : isOpG ops 18 (some (16, true)) (.move (.tmp 3)) (some 46))
    (q19 : isOpG ops 19 (some (16, true)) (.move (.tmp 5)) (some 47))
    (q20 : isOpG ops 20 (some (16, true)) (.indexAddr 25 (.tmp 46) (.tmp 47)) (some 48))
    (q21 : isOpG ops 21 (some (16, true)) (.load 9 (.tmp 48)) (some 49))
    (q22 : isOpG ops 22 (some (16, true)) (.move (.tmp 3)) (some 50))
    (q23 : isOpG ops 23 (some (16, true)) (.move (.tmp 5)) (some 51))
    (q24 : isOpG ops 24 (some (16, true)) (.slice 25 (.tmp 50) none (some (.tmp 51)) none) (some 52))
    (q25 : isOpG ops 25 (some (16, true)) (.call { callee := .value (.func 12), args := #[.tmp 45, .tmp 49, .tmp 52], argTypes := ty3 }) (some 53))
    (q26 : isOpG ops 26 (some (16, true)) (.unOp .not 4 (.tmp 53)) (some 54))
    (q27 : isOpG ops 27 (some (8, false)) (.pick (.tmp 44) (.tmp 54) (.const (.bool false))) (some 55))
    (q28 : isOpG ops 28 none (.pick (.tmp 36) (.const (.bool true)) (.tmp 55)) (some 56))
    (hs : Region.noSelect ops = true) (hq : (cffixB_takes.all fun p => Region.free .any ops (LR 29 p.1) p.2 && (Region.ready .any ops (LR 29 p.1)).contains p.2) = true)
    (r7 : Region.ready .any ops (LR 29 [0, 1, 2, 3, 4, 5, 6]) = [7])
    (r14 : Region.ready .any ops (LR 29 [0, 1, 2, 3, 4, 5, 6, 7, 8, 9, 10, 11, 12, 13]) = [14])
    (r25 : Region.ready .any ops (LR 29 [0, 1, 2, 3, 4, 5, 6, 7, 8, 9, 10, 11, 12, 13, 14, 15, 16, 17, 18, 19, 20, 21, 22, 23, 24]) = [25])
    (rend : Region.ready .any ops (LR 29 [0, 1, 2, 3, 4, 5, 6, 7, 8, 9, 10, 11, 12, 13, 14, 15, 16, 17, 18, 19, 20, 21, 22, 23, 24, 25, 26, 27, 28]) = [])
    (hQ : ∀ (d : Option Tmp) (v : Value) c a w, Q (.panic c) (a.put d v) w → Q (.panic c) a w)
    (hsz : 56 < a0.tmps.size) (e0 : a0.eval (.tmp 0) = bv) (e3 : a0.eval (.tmp 3) = .slice (some ⟨g, off, none⟩) nn cc) (e4 : a0.eval (.tmp 4) = av) (e5 : a0.eval (.tmp 5) = .int .i64 (k : Int))
    (hS0 : S w5.drew)
    (keep : ∀ u u', S u → S u' → S u') (hk : k < nn) (hc : nn ≤ cc) (LST : ∀ u, S u → (loadVar 9 ⟨g, off + k, none⟩).run Tryz.prog u = .ok (.string s) u)
    (C1 : Calls Tryz.prog 11 #[.string s, .slice (some ⟨g, off, none⟩) k cc] w5.drew fun e u1 => e = .returned (.bool false) ∧ S u1 ∧ Calls Tryz.prog 11 #[.string s, av] u1 fun e u2 => e = .returned (.bool false) ∧ S u2 ∧ Calls Tryz.prog 12 #[bv, .string s, .slice (some ⟨g, off, none⟩) k cc] u2 fun e u3 => e = .returned (.bool true) ∧ S u3)
    (F : ∀ (wc : World), S wc → Q .normal (((((((((((((((((((((((((((((a0.put (some 28) (.slice (some ⟨g, off, none⟩) nn cc)).put (some 29) (.int .i64 (k : Int))).put (some 30) (.pointer (some ⟨g, off + k, none⟩))).put (some 31) (.string s)).put (some 32) (.slice (some ⟨g, off, none⟩) nn cc)).put (some 33) (.int .i64 (k : Int))).put (some 34) (.slice (some ⟨g, off, none⟩) k cc)).put (some 35) (.bool false)).put (some 36) (.bool false)).put (some 37) (.slice (some ⟨g, off, none⟩) nn cc)).put (some 38) (.int .i64 (k : Int))).put (some 39) (.pointer (some ⟨g, off + k, none⟩))).put (some 40) (.string s)).put (some 41) (av)).put (some 42) (.bool false)).put (some 43) (.bool true)).put (some 44) (.bool true)).put (some 45) (bv)).put (some 46) (.slice (some ⟨g, off, none⟩) nn cc)).put (some 47) (.int .i64 (k : Int))).put (some 48) (.pointer (some ⟨g, off + k, none⟩))).put (some 49) (.string s)).put (some 50) (.slice (some ⟨g, off, none⟩) nn cc)).put (some 51) (.int .i64 (k : Int))).put (some 52) (.slice (some ⟨g, off, none⟩) k cc)).put (some 53) (.bool true)).put (some 54) (.bool false)).put (some 55) (.bool false)).put (some 56) (.bool false)) wc) :
    wpAnyH Tryz.prog .any ops Q S 29 (LR 29 []) a0 w5.drew := by
  have hall : ∀ p ∈ cffixB_takes, Region.free .any ops (LR 29 p.1) p.2 = true ∧ (Region.ready .any ops (LR 29 p.1)).contains p.2 = true := by
    intro p hp
    have := List.all_eq_true.1 hq p hp
    simpa using this
  unfold cffixB_takes at hall
  obtain ⟨og8, hog8, _, _, dog8⟩ := isOpG_out q8
  obtain ⟨og16, hog16, _, _, dog16⟩ := isOpG_out q16
  obtain ⟨o0, ho, hg, hop, hd⟩ := isOpG_out q0
  have hfr := hall ([], 0) (by simp)
  refine wpAnyH_take (listed := LR 29 []) (v := .slice (some ⟨g, off, none⟩) nn cc) ho hs hfr.1 hfr.2 (hQ _ _) (Or.inl ⟨(wantedN hg), fun w' hS => run_move _ _ hop w' (by (repeat rw [eval_far _ _ (by decide)]); exact e3)⟩) hS0 ?_
  rw [hd, ← LR_snoc]
  clear ho hg hop hd hfr
  obtain ⟨o1, ho, hg, hop, hd⟩ := isOpG_out q1
  have hfr := hall ([0], 1) (by simp)
  refine wpAnyH_take (listed := LR 29 [0]) (v := .int .i64 (k : Int)) ho hs hfr.1 hfr.2 (hQ _ _) (Or.inl ⟨(wantedN hg), fun w' hS => run_move _ _ hop w' (by (repeat rw [eval_far _ _ (by decide)]); exact e5)⟩) hS0 ?_
  rw [hd, ← LR_snoc]
  clear ho hg hop hd hfr
  obtain ⟨o2, ho, hg, hop, hd⟩ := isOpG_out q2
  have hfr := hall ([0, 1], 2) (by simp)
  refine wpAnyH_take (listed := LR 29 [0, 1]) (v := .pointer (some ⟨g, off + k, none⟩)) ho hs hfr.1 hfr.2 (hQ _ _) (Or.inl ⟨(wantedN hg), fun w' hS => run_idxS _ _ hop w' (by (repeat (first | rw [eval_same _ _ (by (try simp only [put_size]); omega)] | rw [eval_far _ _ (by decide)]))) (by (repeat (first | rw [eval_same _ _ (by (try simp only [put_size]); omega)] | rw [eval_far _ _ (by decide)]))) hk⟩) hS0 ?_
  rw [hd, ← LR_snoc]
  clear ho hg hop hd hfr
  obtain ⟨o3, ho, hg, hop, hd⟩ := isOpG_out q3
  have hfr := hall ([0, 1, 2], 3) (by simp)
  refine wpAnyH_take (listed := LR 29 [0, 1, 2]) (v := .string s) ho hs hfr.1 hfr.2 (hQ _ _) (Or.inl ⟨(wantedN hg), fun w' hS => run_loadS _ _ hop w' (by (repeat (first | rw [eval_same _ _ (by (try simp only [put_size]); omega)] | rw [eval_far _ _ (by decide)]))) (LST _ hS)⟩) hS0 ?_
  rw [hd, ← LR_snoc]
  clear ho hg hop hd hfr
  obtain ⟨o4, ho, hg, hop, hd⟩ := isOpG_out q4
  have hfr := hall ([0, 1, 2, 3], 4) (by simp)
  refine wpAnyH_take (listed := LR 29 [0, 1, 2, 3]) (v := .slice (some ⟨g, off, none⟩) nn cc) ho hs hfr.1 hfr.2 (hQ _ _) (Or.inl ⟨(wantedN hg), fun w' hS => run_move _ _ hop w' (by (repeat rw [eval_far _ _ (by decide)]); exact e3)⟩) hS0 ?_
  rw [hd, ← LR_snoc]
  clear ho hg hop hd hfr
  obtain ⟨o5, ho, hg, hop, hd⟩ := isOpG_out q5
  have hfr := hall ([0, 1, 2, 3, 4], 5) (by simp)
  refine wpAnyH_take (listed := LR 29 [0, 1, 2, 3, 4]) (v := .int .i64 (k : Int)) ho hs hfr.1 hfr.2 (hQ _ _) (Or.inl ⟨(wantedN hg), fun w' hS => run_move _ _ hop w' (by (repeat rw [eval_far _ _ (by decide)]); exact e5)⟩) hS0 ?_
  rw [hd, ← LR_snoc]
  clear ho hg hop hd hfr
  obtain ⟨o6, ho, hg, hop, hd⟩ := isOpG_out q6
  have hfr := hall ([0, 1, 2, 3, 4, 5], 6) (by simp)
  refine wpAnyH_take (listed := LR 29 [0, 1, 2, 3, 4, 5]) (v := .slice (some ⟨g, off, none⟩) k cc) ho hs hfr.1 hfr.2 (hQ _ _) (Or.inl ⟨(wantedN hg), fun w' hS => run_cutS _ _ hop w' (by (repeat (first | rw [eval_same _ _ (by (try simp only [put_size]); omega)] | rw [eval_far _ _ (by decide)]))) (by (repeat (first | rw [eval_same _ _ (by (try simp only [put_size]); omega)] | rw [eval_far _ _ (by decide)]))) hk hc⟩) hS0 ?_
  rw [hd, ← LR_snoc]
  clear ho hg hop hd hfr
  refine wpAnyH_all r7 (by simp) ?_
  intro i hi
  obtain rfl := List.mem_singleton.1 hi
  obtain ⟨o7, ho, hg, hop, hd⟩ := isOpG_out q7
  have x7_0 : ((((((((a0.put (some 28) (.slice (some ⟨g, off, none⟩) nn cc)).put (some 29) (.int .i64 (k : Int))).put (some 30) (.pointer (some ⟨g, off + k, none⟩))).put (some 31) (.string s)).put (some 32) (.slice (some ⟨g, off, none⟩) nn cc)).put (some 33) (.int .i64 (k : Int))).put (some 34) (.slice (some ⟨g, off, none⟩) k cc))).eval (.tmp 31) = .string s := (by (repeat (first | rw [eval_same _ _ (by (try simp only [put_size]); omega)] | rw [eval_far _ _ (by decide)])))
  have x7_1 : ((((((((a0.put (some 28) (.slice (some ⟨g, off, none⟩) nn cc)).put (some 29) (.int .i64 (k : Int))).put (some 30) (.pointer (some ⟨g, off + k, none⟩))).put (some 31) (.string s)).put (some 32) (.slice (some ⟨g, off, none⟩) nn cc)).put (some 33) (.int .i64 (k : Int))).put (some 34) (.slice (some ⟨g, off, none⟩) k cc))).eval (.tmp 34) = .slice (some ⟨g, off, none⟩) k cc := (by (repeat (first | rw [eval_same _ _ (by (try simp only [put_size]); omega)] | rw [eval_far _ _ (by decide)])))
  refine wpOp_callG ho (wantedN hg) (run_callV 11 Tryz.func11 (by kernel_rfl) (by kernel_rfl) #[.tmp 31, .tmp 34] _ hop #[.string s, .slice (some ⟨g, off, none⟩) k cc] (by simp only [List.map_toArray, List.map_cons, List.map_nil, x7_0, x7_1])) ?_
  refine (C1).mono ?_
  rintro e u1 ⟨rfl, hS1, C2⟩
  have hS7 := keep _ _ hS0 hS1
  refine ⟨_, rfl, hS7, ?_⟩
  rw [hd]
  clear ho hg hop hd
  rw [← LR_snoc]
  obtain ⟨o8, ho, hg, hop, hd⟩ := isOpG_out q8
  have hfr := hall ([0, 1, 2, 3, 4, 5, 6, 7], 8) (by simp)
  refine wpAnyH_take (listed := LR 29 [0, 1, 2, 3, 4, 5, 6, 7]) (v := .bool false) ho hs hfr.1 hfr.2 (hQ _ _) (Or.inl ⟨(wantedN hg), fun w' hS => run_move _ _ hop w' (by (repeat (first | rw [eval_same _ _ (by (try simp only [put_size]); omega)] | rw [eval_far _ _ (by decide)])))⟩) hS7 ?_
  rw [hd, ← LR_snoc]
  clear ho hg hop hd hfr
  obtain ⟨o9, ho, hg, hop, hd⟩ := isOpG_out q9
  have hfr := hall ([0, 1, 2, 3, 4, 5, 6, 7, 8], 9) (by simp)
  refine wpAnyH_take (listed := LR 29 [0, 1, 2, 3, 4, 5, 6, 7, 8]) (v := .slice (some ⟨g, off, none⟩) nn cc) ho hs hfr.1 hfr.2 (hQ _ _) (Or.inl ⟨((wantedB hog8 dog8 hg (by (repeat (first | rw [tmps_same _ _ (by (try simp only [put_size]); omega)] | rw [tmps_far _ _ (by decide)])))).trans (by decide)), fun w' hS => run_move _ _ hop w' (by (repeat rw [eval_far _ _ (by decide)]); exact e3)⟩) hS7 ?_
  rw [hd, ← LR_snoc]
  clear ho hg hop hd hfr
  obtain ⟨o10, ho, hg, hop, hd⟩ := isOpG_out q10
  have hfr := hall ([0, 1, 2, 3, 4, 5, 6, 7, 8, 9], 10) (by simp)
  refine wpAnyH_take (listed := LR 29 [0, 1, 2, 3, 4, 5, 6, 7, 8, 9]) (v := .int .i64 (k : Int)) ho hs hfr.1 hfr.2 (hQ _ _) (Or.inl ⟨((wantedB hog8 dog8 hg (by (repeat (first | rw [tmps_same _ _ (by (try simp only [put_size]); omega)] | rw [tmps_far _ _ (by decide)])))).trans (by decide)), fun w' hS => run_move _ _ hop w' (by (repeat rw [eval_far _ _ (by decide)]); exact e5)⟩) hS7 ?_
  rw [hd, ← LR_snoc]
  clear ho hg hop hd hfr
  obtain ⟨o11, ho, hg, hop, hd⟩ := isOpG_out q11
  have hfr := hall ([0, 1, 2, 3, 4, 5, 6, 7, 8, 9, 10], 11) (by simp)
  refine wpAnyH_take (listed := LR 29 [0, 1, 2, 3, 4, 5, 6, 7, 8, 9, 10]) (v := .pointer (some ⟨g, off + k, none⟩)) ho hs hfr.1 hfr.2 (hQ _ _) (Or.inl ⟨((wantedB hog8 dog8 hg (by (repeat (first | rw [tmps_same _ _ (by (try simp only [put_size]); omega)] | rw [tmps_far _ _ (by decide)])))).trans (by decide)), fun w' hS => run_idxS _ _ hop w' (by (repeat (first | rw [eval_same _ _ (by (try simp only [put_size]); omega)] | rw [eval_far _ _ (by decide)]))) (by (repeat (first | rw [eval_same _ _ (by (try simp only [put_size]); omega)] | rw [eval_far _ _ (by decide)]))) hk⟩) hS7 ?_
  rw [hd, ← LR_snoc]
  clear ho hg hop hd hfr
  obtain ⟨o12, ho, hg, hop, hd⟩ := isOpG_out q12
  have hfr := hall ([0, 1, 2, 3, 4, 5, 6, 7, 8, 9, 10, 11], 12) (by simp)
  refine wpAnyH_take (listed := LR 29 [0, 1, 2, 3, 4, 5, 6, 7, 8, 9, 10, 11]) (v := .string s) ho hs hfr.1 hfr.2 (hQ _ _) (Or.inl ⟨((wantedB hog8 dog8 hg (by (repeat (first | rw [tmps_same _ _ (by (try simp only [put_size]); omega)] | rw [tmps_far _ _ (by decide)])))).trans (by decide)), fun w' hS => run_loadS _ _ hop w' (by (repeat (first | rw [eval_same _ _ (by (try simp only [put_size]); omega)] | rw [eval_far _ _ (by decide)]))) (LST _ hS)⟩) hS7 ?_
  rw [hd, ← LR_snoc]
  clear ho hg hop hd hfr
  obtain ⟨o13, ho, hg, hop, hd⟩ := isOpG_out q13
  have hfr := hall ([0, 1, 2, 3, 4, 5, 6, 7, 8, 9, 10, 11, 12], 13) (by simp)
  refine wpAnyH_take (listed := LR 29 [0, 1, 2, 3, 4, 5, 6, 7, 8, 9, 10, 11, 12]) (v := av) ho hs hfr.1 hfr.2 (hQ _ _) (Or.inl ⟨((wantedB hog8 dog8 hg (by (repeat (first | rw [tmps_same _ _ (by (try simp only [put_size]); omega)] | rw [tmps_far _ _ (by decide)])))).trans (by decide)), fun w' hS => run_move _ _ hop w' (by (repeat rw [eval_far _ _ (by decide)]); exact e4)⟩) hS7 ?_
  rw [hd, ← LR_snoc]
  clear ho hg hop hd hfr
  refine wpAnyH_all r14 (by simp) ?_
  intro i hi
  obtain rfl := List.mem_singleton.1 hi
  obtain ⟨o14, ho, hg, hop, hd⟩ := isOpG_out q14
  have x14_0 : (((((((((((((((a0.put (some 28) (.slice (some ⟨g, off, none⟩) nn cc)).put (some 29) (.int .i64 (k : Int))).put (some 30) (.pointer (some ⟨g, off + k, none⟩))).put (some 31) (.string s)).put (some 32) (.slice (some ⟨g, off, none⟩) nn cc)).put (some 33) (.int .i64 (k : Int))).put (some 34) (.slice (some ⟨g, off, none⟩) k cc)).put (some 35) (.bool false)).put (some 36) (.bool false)).put (some 37) (.slice (some ⟨g, off, none⟩) nn cc)).put (some 38) (.int .i64 (k : Int))).put (some 39) (.pointer (some ⟨g, off + k, none⟩))).put (some 40) (.string s)).put (some 41) (av))).eval (.tmp 40) = .string s := (by (repeat (first | rw [eval_same _ _ (by (try simp only [put_size]); omega)] | rw [eval_far _ _ (by decide)])))
  have x14_1 : (((((((((((((((a0.put (some 28) (.slice (some ⟨g, off, none⟩) nn cc)).put (some 29) (.int .i64 (k : Int))).put (some 30) (.pointer (some ⟨g, off + k, none⟩))).put (some 31) (.string s)).put (some 32) (.slice (some ⟨g, off, none⟩) nn cc)).put (some 33) (.int .i64 (k : Int))).put (some 34) (.slice (some ⟨g, off, none⟩) k cc)).put (some 35) (.bool false)).put (some 36) (.bool false)).put (some 37) (.slice (some ⟨g, off, none⟩) nn cc)).put (some 38) (.int .i64 (k : Int))).put (some 39) (.pointer (some ⟨g, off + k, none⟩))).put (some 40) (.string s)).put (some 41) (av))).eval (.tmp 41) = av := (by (repeat (first | rw [eval_same _ _ (by (try simp only [put_size]); omega)] | rw [eval_far _ _ (by decide)])))
  refine wpOp_callG ho ((wantedB hog8 dog8 hg (by (repeat (first | rw [tmps_same _ _ (by (try simp only [put_size]); omega)] | rw [tmps_far _ _ (by decide)])))).trans (by decide)) (run_callV 11 Tryz.func11 (by kernel_rfl) (by kernel_rfl) #[.tmp 40, .tmp 41] _ hop #[.string s, av] (by simp only [List.map_toArray, List.map_cons, List.map_nil, x14_0, x14_1])) ?_
  refine (C2).mono ?_
  rintro e u2 ⟨rfl, hS2, C3⟩
  have hS14 := keep _ _ hS7 hS2
  refine ⟨_, rfl, hS14, ?_⟩
  rw [hd]
  clear ho hg hop hd
  rw [← LR_snoc]
  obtain ⟨o15, ho, hg, hop, hd⟩ := isOpG_out q15
  have hfr := hall ([0, 1, 2, 3, 4, 5, 6, 7, 8, 9, 10, 11, 12, 13, 14], 15) (by simp)
  refine wpAnyH_take (listed := LR 29 [0, 1, 2, 3, 4, 5, 6, 7, 8, 9, 10, 11, 12, 13, 14]) (v := .bool true) ho hs hfr.1 hfr.2 (hQ _ _) (Or.inl ⟨((wantedB hog8 dog8 hg (by (repeat (first | rw [tmps_same _ _ (by (try simp only [put_size]); omega)] | rw [tmps_far _ _ (by decide)])))).trans (by decide)), fun w' hS => run_notV (b := false) _ _ hop w' (by (repeat (first | rw [eval_same _ _ (by (try simp only [put_size]); omega)] | rw [eval_far _ _ (by decide)])))⟩) hS14 ?_
  rw [hd, ← LR_snoc]
  clear ho hg hop hd hfr
  obtain ⟨o16, ho, hg, hop, hd⟩ := isOpG_out q16
  have hfr := hall ([0, 1, 2, 3, 4, 5, 6, 7, 8, 9, 10, 11, 12, 13, 14, 15], 16) (by simp)
  refine wpAnyH_take (listed := LR 29 [0, 1, 2, 3, 4, 5, 6, 7, 8, 9, 10, 11, 12, 13, 14, 15]) (v := .bool true) ho hs hfr.1 hfr.2 (hQ _ _) (Or.inl ⟨((wantedB hog8 dog8 hg (by (repeat (first | rw [tmps_same _ _ (by (try simp only [put_size]); omega)] | rw [tmps_far _ _ (by decide)])))).trans (by decide)), fun w' hS => run_move _ _ hop w' (by (repeat (first | rw [eval_same _ _ (by (try simp only [put_size]); omega)] | rw [eval_far _ _ (by decide)])))⟩) hS14 ?_
  rw [hd, ← LR_snoc]
  clear ho hg hop hd hfr
  obtain ⟨o17, ho, hg, hop, hd⟩ := isOpG_out q17
  have hfr := hall ([0, 1, 2, 3, 4, 5, 6, 7, 8, 9, 10, 11, 12, 13, 14, 15, 16], 17) (by simp)
  refine wpAnyH_take (listed := LR 29 [0, 1, 2, 3, 4, 5, 6, 7, 8, 9, 10, 11, 12, 13, 14, 15, 16]) (v := bv) ho hs hfr.1 hfr.2 (hQ _ _) (Or.inl ⟨((wantedB hog16 dog16 hg (by (repeat (first | rw [tmps_same _ _ (by (try simp only [put_size]); omega)] | rw [tmps_far _ _ (by decide)])))).trans (by decide)), fun w' hS => run_move _ _ hop w' (by (repeat rw [eval_far _ _ (by decide)]); exact e0)⟩) hS14 ?_
  rw [hd, ← LR_snoc]
  clear ho hg hop hd hfr
  obtain ⟨o18, ho, hg, hop, hd⟩ := isOpG_out q18
  have hfr := hall ([0, 1, 2, 3, 4, 5, 6, 7, 8, 9, 10, 11, 12, 13, 14, 15, 16, 17], 18) (by simp)
  refine wpAnyH_take (listed := LR 29 [0, 1, 2, 3, 4, 5, 6, 7, 8, 9, 10, 11, 12, 13, 14, 15, 16, 17]) (v := .slice (some ⟨g, off, none⟩) nn cc) ho hs hfr.1 hfr.2 (hQ _ _) (Or.inl ⟨((wantedB hog16 dog16 hg (by (repeat (first | rw [tmps_same _ _ (by (try simp only [put_size]); omega)] | rw [tmps_far _ _ (by decide)])))).trans (by decide)), fun w' hS => run_move _ _ hop w' (by (repeat rw [eval_far _ _ (by decide)]); exact e3)⟩) hS14 ?_
  rw [hd, ← LR_snoc]
  clear ho hg hop hd hfr
  obtain ⟨o19, ho, hg, hop, hd⟩ := isOpG_out q19
  have hfr := hall ([0, 1, 2, 3, 4, 5, 6, 7, 8, 9, 10, 11, 12, 13, 14, 15, 16, 17, 18], 19) (by simp)
  refine wpAnyH_take (listed := LR 29 [0, 1, 2, 3, 4, 5, 6, 7, 8, 9, 10, 11, 12, 13, 14, 15, 16, 17, 18]) (v := .int .i64 (k : Int)) ho hs hfr.1 hfr.2 (hQ _ _) (Or.inl ⟨((wantedB hog16 dog16 hg (by (repeat (first | rw [tmps_same _ _ (by (try simp only [put_size]); omega)] | rw [tmps_far _ _ (by decide)])))).trans (by decide)), fun w' hS => run_move _ _ hop w' (by (repeat rw [eval_far _ _ (by decide)]); exact e5)⟩) hS14 ?_
  rw [hd, ← LR_snoc]
  clear ho hg hop hd hfr
  obtain ⟨o20, ho, hg, hop, hd⟩ := isOpG_out q20
  have hfr := hall ([0, 1, 2, 3, 4, 5, 6, 7, 8, 9, 10, 11, 12, 13, 14, 15, 16, 17, 18, 19], 20) (by simp)
  refine wpAnyH_take (listed := LR 29 [0, 1, 2, 3, 4, 5, 6, 7, 8, 9, 10, 11, 12, 13, 14, 15, 16, 17, 18, 19]) (v := .pointer (some ⟨g, off + k, none⟩)) ho hs hfr.1 hfr.2 (hQ _ _) (Or.inl ⟨((wantedB hog16 dog16 hg (by (repeat (first | rw [tmps_same _ _ (by (try simp only [put_size]); omega)] | rw [tmps_far _ _ (by decide)])))).trans (by decide)), fun w' hS => run_idxS _ _ hop w' (by (repeat (first | rw [eval_same _ _ (by (try simp only [put_size]); omega)] | rw [eval_far _ _ (by decide)]))) (by (repeat (first | rw [eval_same _ _ (by (try simp only [put_size]); omega)] | rw [eval_far _ _ (by decide)]))) hk⟩) hS14 ?_
  rw [hd, ← LR_snoc]
  clear ho hg hop hd hfr
  obtain ⟨o21, ho, hg, hop, hd⟩ := isOpG_out q21
  have hfr := hall ([0, 1, 2, 3, 4, 5, 6, 7, 8, 9, 10, 11, 12, 13, 14, 15, 16, 17, 18, 19, 20], 21) (by simp)
  refine wpAnyH_take (listed := LR 29 [0, 1, 2, 3, 4, 5, 6, 7, 8, 9, 10, 11, 12, 13, 14, 15, 16, 17, 18, 19, 20]) (v := .string s) ho hs hfr.1 hfr.2 (hQ _ _) (Or.inl ⟨((wantedB hog16 dog16 hg (by (repeat (first | rw [tmps_same _ _ (by (try simp only [put_size]); omega)] | rw [tmps_far _ _ (by decide)])))).trans (by decide)), fun w' hS => run_loadS _ _ hop w' (by (repeat (first | rw [eval_same _ _ (by (try simp only [put_size]); omega)] | rw [eval_far _ _ (by decide)]))) (LST _ hS)⟩) hS14 ?_
  rw [hd, ← LR_snoc]
  clear ho hg hop hd hfr
  obtain ⟨o22, ho, hg, hop, hd⟩ := isOpG_out q22
  have hfr := hall ([0, 1, 2, 3, 4, 5, 6, 7, 8, 9, 10, 11, 12, 13, 14, 15, 16, 17, 18, 19, 20, 21], 22) (by simp)
  refine wpAnyH_take (listed := LR 29 [0, 1, 2, 3, 4, 5, 6, 7, 8, 9, 10, 11, 12, 13, 14, 15, 16, 17, 18, 19, 20, 21]) (v := .slice (some ⟨g, off, none⟩) nn cc) ho hs hfr.1 hfr.2 (hQ _ _) (Or.inl ⟨((wantedB hog16 dog16 hg (by (repeat (first | rw [tmps_same _ _ (by (try simp only [put_size]); omega)] | rw [tmps_far _ _ (by decide)])))).trans (by decide)), fun w' hS => run_move _ _ hop w' (by (repeat rw [eval_far _ _ (by decide)]); exact e3)⟩) hS14 ?_
  rw [hd, ← LR_snoc]
  clear ho hg hop hd hfr
  obtain ⟨o23, ho, hg, hop, hd⟩ := isOpG_out q23
  have hfr := hall ([0, 1, 2, 3, 4, 5, 6, 7, 8, 9, 10, 11, 12, 13, 14, 15, 16, 17, 18, 19, 20, 21, 22], 23) (by simp)
  refine wpAnyH_take (listed := LR 29 [0, 1, 2, 3, 4, 5, 6, 7, 8, 9, 10, 11, 12, 13, 14, 15, 16, 17, 18, 19, 20, 21, 22]) (v := .int .i64 (k : Int)) ho hs hfr.1 hfr.2 (hQ _ _) (Or.inl ⟨((wantedB hog16 dog16 hg (by (repeat (first | rw [tmps_same _ _ (by (try simp only [put_size]); omega)] | rw [tmps_far _ _ (by decide)])))).trans (by decide)), fun w' hS => run_move _ _ hop w' (by (repeat rw [eval_far _ _ (by decide)]); exact e5)⟩) hS14 ?_
  rw [hd, ← LR_snoc]
  clear ho hg hop hd hfr
  obtain ⟨o24, ho, hg, hop, hd⟩ := isOpG_out q24
  have hfr := hall ([0, 1, 2, 3, 4, 5, 6, 7, 8, 9, 10, 11, 12, 13, 14, 15, 16, 17, 18, 19, 20, 21, 22, 23], 24) (by simp)
  refine wpAnyH_take (listed := LR 29 [0, 1, 2, 3, 4, 5, 6, 7, 8, 9, 10, 11, 12, 13, 14, 15, 16, 17, 18, 19, 20, 21, 22, 23]) (v := .slice (some ⟨g, off, none⟩) k cc) ho hs hfr.1 hfr.2 (hQ _ _) (Or.inl ⟨((wantedB hog16 dog16 hg (by (repeat (first | rw [tmps_same _ _ (by (try simp only [put_size]); omega)] | rw [tmps_far _ _ (by decide)])))).trans (by decide)), fun w' hS => run_cutS _ _ hop w' (by (repeat (first | rw [eval_same _ _ (by (try simp only [put_size]); omega)] | rw [eval_far _ _ (by decide)]))) (by (repeat (first | rw [eval_same _ _ (by (try simp only [put_size]); omega)] | rw [eval_far _ _ (by decide)]))) hk hc⟩) hS14 ?_
  rw [hd, ← LR_snoc]
  clear ho hg hop hd hfr
  refine wpAnyH_all r25 (by simp) ?_
  intro i hi
  obtain rfl := List.mem_singleton.1 hi
  obtain ⟨o25, ho, hg, hop, hd⟩ := isOpG_out q25
  have x25_0 : ((((((((((((((((((((((((((a0.put (some 28) (.slice (some ⟨g, off, none⟩) nn cc)).put (some 29) (.int .i64 (k : Int))).put (some 30) (.pointer (some ⟨g, off + k, none⟩))).put (some 31) (.string s)).put (some 32) (.slice (some ⟨g, off, none⟩) nn cc)).put (some 33) (.int .i64 (k : Int))).put (some 34) (.slice (some ⟨g, off, none⟩) k cc)).put (some 35) (.bool false)).put (some 36) (.bool false)).put (some 37) (.slice (some ⟨g, off, none⟩) nn cc)).put (some 38) (.int .i64 (k : Int))).put (some 39) (.pointer (some ⟨g, off + k, none⟩))).put (some 40) (.string s)).put (some 41) (av)).put (some 42) (.bool false)).put (some 43) (.bool true)).put (some 44) (.bool true)).put (some 45) (bv)).put (some 46) (.slice (some ⟨g, off, none⟩) nn cc)).put (some 47) (.int .i64 (k : Int))).put (some 48) (.pointer (some ⟨g, off + k, none⟩))).put (some 49) (.string s)).put (some 50) (.slice (some ⟨g, off, none⟩) nn cc)).put (some 51) (.int .i64 (k : Int))).put (some 52) (.slice (some ⟨g, off, none⟩) k cc))).eval (.tmp 45) = bv := (by (repeat (first | rw [eval_same _ _ (by (try simp only [put_size]); omega)] | rw [eval_far _ _ (by decide)])))
  have x25_1 : ((((((((((((((((((((((((((a0.put (some 28) (.slice (some ⟨g, off, none⟩) nn cc)).put (some 29) (.int .i64 (k : Int))).put (some 30) (.pointer (some ⟨g, off + k, none⟩))).put (some 31) (.string s)).put (some 32) (.slice (some ⟨g, off, none⟩) nn cc)).put (some 33) (.int .i64 (k : Int))).put (some 34) (.slice (some ⟨g, off, none⟩) k cc)).put (some 35) (.bool false)).put (some 36) (.bool false)).put (some 37) (.slice (some ⟨g, off, none⟩) nn cc)).put (some 38) (.int .i64 (k : Int))).put (some 39) (.pointer (some ⟨g, off + k, none⟩))).put (some 40) (.string s)).put (some 41) (av)).put (some 42) (.bool false)).put (some 43) (.bool true)).put (some 44) (.bool true)).put (some 45) (bv)).put (some 46) (.slice (some ⟨g, off, none⟩) nn cc)).put (some 47) (.int .i64 (k : Int))).put (some 48) (.pointer (some ⟨g, off + k, none⟩))).put (some 49) (.string s)).put (some 50) (.slice (some ⟨g, off, none⟩) nn cc)).put (some 51) (.int .i64 (k : Int))).put (some 52) (.slice (some ⟨g, off, none⟩) k cc))).eval (.tmp 49) = .string s := (by (repeat (first | rw [eval_same _ _ (by (try simp only [put_size]); omega)] | rw [eval_far _ _ (by decide)])))
  have x25_2 : ((((((((((((((((((((((((((a0.put (some 28) (.slice (some ⟨g, off, none⟩) nn cc)).put (some 29) (.int .i64 (k : Int))).put (some 30) (.pointer (some ⟨g, off + k, none⟩))).put (some 31) (.string s)).put (some 32) (.slice (some ⟨g, off, none⟩) nn cc)).put (some 33) (.int .i64 (k : Int))).put (some 34) (.slice (some ⟨g, off, none⟩) k cc)).put (some 35) (.bool false)).put (some 36) (.bool false)).put (some 37) (.slice (some ⟨g, off, none⟩) nn cc)).put (some 38) (.int .i64 (k : Int))).put (some 39) (.pointer (some ⟨g, off + k, none⟩))).put (some 40) (.string s)).put (some 41) (av)).put (some 42) (.bool false)).put (some 43) (.bool true)).put (some 44) (.bool true)).put (some 45) (bv)).put (some 46) (.slice (some ⟨g, off, none⟩) nn cc)).put (some 47) (.int .i64 (k : Int))).put (some 48) (.pointer (some ⟨g, off + k, none⟩))).put (some 49) (.string s)).put (some 50) (.slice (some ⟨g, off, none⟩) nn cc)).put (some 51) (.int .i64 (k : Int))).put (some 52) (.slice (some ⟨g, off, none⟩) k cc))).eval (.tmp 52) = .slice (some ⟨g, off, none⟩) k cc := (by (repeat (first | rw [eval_same _ _ (by (try simp only [put_size]); omega)] | rw [eval_far _ _ (by decide)])))
  refine wpOp_callG ho ((wantedB hog16 dog16 hg (by (repeat (first | rw [tmps_same _ _ (by (try simp only [put_size]); omega)] | rw [tmps_far _ _ (by decide)])))).trans (by decide)) (run_callV 12 Tryz.func12 (by kernel_rfl) (by kernel_rfl) #[.tmp 45, .tmp 49, .tmp 52] _ hop #[bv, .string s, .slice (some ⟨g, off, none⟩) k cc] (by simp only [List.map_toArray, List.map_cons, List.map_nil, x25_0, x25_1, x25_2])) ?_
  refine (C3).mono ?_
  rintro e u3 ⟨rfl, hS3⟩
  have hS25 := keep _ _ hS14 hS3
  refine ⟨_, rfl, hS25, ?_⟩
  rw [hd]
  clear ho hg hop hd
  rw [← LR_snoc]
  obtain ⟨o26, ho, hg, hop, hd⟩ := isOpG_out q26
  have hfr := hall ([0, 1, 2, 3, 4, 5, 6, 7, 8, 9, 10, 11, 12, 13, 14, 15, 16, 17, 18, 19, 20, 21, 22, 23, 24, 25], 26) (by simp)
  refine wpAnyH_take (listed := LR 29 [0, 1, 2, 3, 4, 5, 6, 7, 8, 9, 10, 11, 12, 13, 14, 15, 16, 17, 18, 19, 20, 21, 22, 23, 24, 25]) (v := .bool false) ho hs hfr.1 hfr.2 (hQ _ _) (Or.inl ⟨((wantedB hog16 dog16 hg (by (repeat (first | rw [tmps_same _ _ (by (try simp only [put_size]); omega)] | rw [tmps_far _ _ (by decide)])))).trans (by decide)), fun w' hS => run_notV (b := true) _ _ hop w' (by (repeat (first | rw [eval_same _ _ (by (try simp only [put_size]); omega)] | rw [eval_far _ _ (by decide)])))⟩) hS25 ?_
  rw [hd, ← LR_snoc]
  clear ho hg hop hd hfr
  obtain ⟨o27, ho, hg, hop, hd⟩ := isOpG_out q27
  have hfr := hall ([0, 1, 2, 3, 4, 5, 6, 7, 8, 9, 10, 11, 12, 13, 14, 15, 16, 17, 18, 19, 20, 21, 22, 23, 24, 25, 26], 27) (by simp)
  refine wpAnyH_take (listed := LR 29 [0, 1, 2, 3, 4, 5, 6, 7, 8, 9, 10, 11, 12, 13, 14, 15, 16, 17, 18, 19, 20, 21, 22, 23, 24, 25, 26]) (v := .bool false) ho hs hfr.1 hfr.2 (hQ _ _) (Or.inl ⟨((wantedB hog8 dog8 hg (by (repeat (first | rw [tmps_same _ _ (by (try simp only [put_size]); omega)] | rw [tmps_far _ _ (by decide)])))).trans (by decide)), fun w' hS => run_pickT _ _ hop w' (by (repeat (first | rw [eval_same _ _ (by (try simp only [put_size]); omega)] | rw [eval_far _ _ (by decide)]))) (by (repeat (first | rw [eval_same _ _ (by (try simp only [put_size]); omega)] | rw [eval_far _ _ (by decide)])))⟩) hS25 ?_
  rw [hd, ← LR_snoc]
  clear ho hg hop hd hfr
  obtain ⟨o28, ho, hg, hop, hd⟩ := isOpG_out q28
  have hfr := hall ([0, 1, 2, 3, 4, 5, 6, 7, 8, 9, 10, 11, 12, 13, 14, 15, 16, 17, 18, 19, 20, 21, 22, 23, 24, 25, 26, 27], 28) (by simp)
  refine wpAnyH_take (listed := LR 29 [0, 1, 2, 3, 4, 5, 6, 7, 8, 9, 10, 11, 12, 13, 14, 15, 16, 17, 18, 19, 20, 21, 22, 23, 24, 25, 26, 27]) (v := .bool false) ho hs hfr.1 hfr.2 (hQ _ _) (Or.inl ⟨(wantedN hg), fun w' hS => run_pickF _ _ hop w' (by (repeat (first | rw [eval_same _ _ (by (try simp only [put_size]); omega)] | rw [eval_far _ _ (by decide)]))) (by (repeat (first | rw [eval_same _ _ (by (try simp only [put_size]); omega)] | rw [eval_far _ _ (by decide)])))⟩) hS25 ?_
  rw [hd, ← LR_snoc]
  clear ho hg hop hd hfr
  exact wpAnyH_done rend (F _ hS25) _
end Go.Proofs.YtkfajjnaadmobaaGreatDoor
end
section
namespace Go.Proofs.YtkfajjnaadmobaaGreatDoor
open Go.RowKit Go.Maps
set_option linter.unusedVariables false
set_option linter.unusedSimpArgs false
attribute [local go_sem ↓] Go.wp_at_zero Go.wp_at_succ
attribute [-go_sem] loadVar storeVar

theorem load_str {u : World} {a : Addr} {s : ByteArray} (h : u.cell? a = some (.string s)) : (loadVar 9 a).run Tryz.prog u = .ok (.string s) u := by rw [loadVar.eq_1]; go_simp
theorem strB_map : ∀ m : List ByteArray, m.flatMap strB = m.map Value.string
  | [] => rfl
  | x :: m => by rw [List.flatMap_cons, strB_map m]; rfl
theorem ls_cut {w : World} {g off c : Nat} {l : List ByteArray} (h : Ls w (.slice (some ⟨g, off, none⟩) l.length c) l.length (l.flatMap strB)) {k : Nat} (hk : k < l.length) : Ls w (.slice (some ⟨g, off, none⟩) k c) (l.take k).length ((l.take k).flatMap strB) := by
  obtain ⟨h0, a', c', hv, h1, h2, hat⟩ := h
  injection hv with hv1 _ hv2
  subst hv1 hv2
  obtain ⟨g', off', ha, hg, hc⟩ := hat (by omega)
  injection ha with ha
  injection ha with ha1 ha2 _
  subst ha1 ha2
  have hl : (l.take k).length = k := by rw [List.length_take]; omega
  have e : (l.take k).flatMap strB = (l.flatMap strB).take k := by rw [strB_map, strB_map, List.map_take]
  refine ⟨by rw [hl]; omega, _, c, by rw [hl], by rw [hl]; omega, h2, fun _ => ⟨g, off, rfl, hg, fun i hi => ?_⟩⟩
  have hi2 : i < (l.flatMap strB).length := by rw [e, List.length_take] at hi; omega
  have := hc i hi2
  rw [this]
  simp only [e, List.getElem_take]
theorem all_sub {l m : List ByteArray} (h : ∀ x ∈ l, x ∈ m) : l.all (inB m) = true := List.all_eq_true.2 fun x hx => inB_iff.2 (h x hx)
set_option maxHeartbeats 6400000 in
set_option maxRecDepth 100000 in
theorem checkFixed_walk (d : Nat) (l : List XL) (a : Option Addr) (c : Nat) (w : World) (hG : PWt w ∧ KT w ∧ LX.Gl w) (hl : l.length ≤ 281474976710656) (hL : Lb w (.slice a l.length c) (d + 1) l) :
    Calls Tryz.prog 3 #[.slice a l.length c] w fun r w' => r = .returned (.bool true) ∧ Below w.heap.size w w' := by
  have HB := Lib.hid (beyondLits_any (d + 1) l a c w hl hL)
  have HL : Hid (∀ u, Below w.heap.size w u → Lb u (.slice a l.length c) (d + 1) l) := fun u hu => hL.below hu
  have HG : Hid (∀ u, Below w.heap.size w u → PWt u ∧ KT u ∧ LX.Gl u) := fun u hu => ⟨tab_below hG.1 hu, hG.2.1.below hu, hG.2.2.below hu⟩
  obtain ⟨a', c', hv, hc1, hc2, hat⟩ := hL.form
  injection hv with hv1 _ hv2
  subst hv1 hv2
  have HAT := Lib.hid hat
  have hmax : l.length ≤ maxLen := Nat.le_trans hc1 hc2
  unfold maxLen at hmax
  clear hG hL hat
  go_enter Tryz.func3, Tryz.ntmps3
  go_wp2_with fail
  refine HB.out.mono ?_
  rintro e w1 ⟨b, rfl, b1, hs⟩
  have HS := Lib.hid hs
  have B1 := Lib.hid b1
  clear hs HB b1
  cases b
  · obtain ⟨hl1, hsm, hav⟩ := HS.out (by first | rfl | trivial)
    have HSM := Lib.hid hsm
    have HAV := Lib.hid hav
    have HLV := Lib.hid (lives_any w1 (HG.out w1 B1.out).2)
    clear HS hsm hav
    go_wp2_with fail
    refine HLV.out.mono ?_
    rintro e w1' ⟨rfl, b1'⟩
    have B1' : Hid (Below w.heap.size w w1') := B1.out.trans (b1'.mono B1.out.size)
    have HT := Lib.hid (twinLiterals_any (d + 1) (.slice a l.length c) l w1' (HG.out w1' B1'.out).1 hl1 HSM.out (HL.out w1' B1'.out))
    clear HLV b1' B1
    go_wp2_with fail
    refine HT.out.mono ?_
    rintro e w2 ⟨a', l', rfl, b2, hl2, hx2, hw2⟩
    have B2 : Hid (Below w.heap.size w w2) := B1'.out.trans (b2.mono B1'.out.size)
    have HMP : Hid (l'.map XL.x = l.map XL.x) := same_map hl2 hx2
    have hLb : Lb w2 (.slice a' l.length (l.length + 1)) (d + 1) l' := by
      have := hw2.lb (HL.out w (Below.refl _ _)) hl2 hx2 hl1 HSM.out
      rw [hl2] at this
      exact this
    have hts : ∀ i, i < l'.length → (atL l' i).x.ts.length ≤ 1048576 := fun i hi => by
      rw [hx2 i (by omega), atL_eq (by omega)]
      exact (HSM.out _ (List.getElem_mem _)).1
    have hsz' : ∀ i, i < l'.length → szD (d + 1) (atL l' i).x.l ≤ 1048576 ∧ szD (d + 1) (atL l' i).x.r ≤ 1048576 := fun i hi => by
      rw [hx2 i (by omega), atL_eq (by omega)]
      have := HSM.out _ (List.getElem_mem (l := l) (n := i) (by omega))
      exact ⟨this.2.1.2, this.2.2.2⟩
    have HC := Lib.hid (limited_any d _ l' w2 hLb hts (by rw [avL_same HMP.out]; exact HAV.out) (by omega) hsz')
    rw [show atN l' = atN l from by unfold atN; rw [avL_same HMP.out], eqL_same _ HMP.out] at HC
    clear b2 hl2 hx2 hw2 hLb hts hsz' HT B1'
    go_wp2_with fail
    refine HC.out.mono ?_
    rintro e w3 ⟨sv3, fs, rfl, hown3, b3, hk3, hs3⟩
    have B3 : Hid (Below w.heap.size w w3) := B2.out.trans (b3.mono B2.out.size)
    have HLM : Hid (Lim (eqL (d + 1) l) (atN l) fs) := ⟨hk3, hs3⟩
    have HF3 : Hid (∀ u, Below w3.heap.size w3 u → Ls u sv3 fs.length (fs.flatMap strB)) := fun u hu => (ls_own hown3).below hu
    obtain ⟨fa, fc, rfl, hfc1, hfc2, hfat⟩ := ls_str (ls_own hown3)
    have HFA := Lib.hid hfat
    have hfm : fs.length ≤ maxLen := Nat.le_trans hfc1 hfc2
    unfold maxLen at hfm
    have hsz : ∀ i, i < l.length → szD (d + 1) (atL l i).x.l ≤ 1048576 ∧ szD (d + 1) (atL l i).x.r ≤ 1048576 := fun i hi => by
      rw [atL_eq hi]
      have := HSM.out _ (List.getElem_mem hi)
      exact ⟨this.2.1.2, this.2.2.2⟩
    have HSZ := Lib.hid hsz
    have hts : ∀ i, i < l.length → (atL l i).x.ts.length ≤ 1048576 := fun i hi => by rw [atL_eq hi]; exact (HSM.out _ (List.getElem_mem hi)).1
    have HTS := Lib.hid hts
    have HAT2 := Lib.hid (ratoms_any (d + 1) _ l w3 (HL.out w3 B3.out) hts HAV.out hl1)
    clear hown3 hk3 hs3 HC b3 hfat hsz hts HSM HAV B2
    go_wp2_with fail
    refine HAT2.out.mono ?_
    rintro e w4 ⟨sv4, rfl, hown4, b4⟩
    have B4 : Hid (Below w.heap.size w w4) := B3.out.trans (b4.mono B3.out.size)
    have HF4 : Hid (∀ u, Below w4.heap.size w4 u → Ls u (.slice fa fs.length fc) fs.length (fs.flatMap strB)) := fun u hu => (HF3.out w4 b4).below hu
    have HA4 : Hid (∀ u, Below w4.heap.size w4 u → Ls u sv4 (atN l).length ((atN l).flatMap strB)) := fun u hu => (ls_own hown4).below hu
    obtain ⟨aa, ac, rfl, _, _, _⟩ := ls_str (ls_own hown4)
    have HCE : Hid (0 < fs.length → ∃ g off, fa = some ⟨g, off, none⟩ ∧ ∀ u, Below w4.heap.size w4 u → ∀ i, i < fs.length → u.cell? ⟨g, off + i, none⟩ = some (.string (atS fs i))) := fun h => by
      obtain ⟨g, off, ha, hg, hc⟩ := HFA.out h
      refine ⟨g, off, ha, fun u hu i hi => ?_⟩
      have hu3 : Below w3.heap.size w3 u := b4.trans (hu.mono b4.size)
      rw [hu3.cell (p := ⟨g, off + i, none⟩) hg]
      exact hc i hi
    have HALL := Lib.hid (rall_any (.slice aa (atN l).length ac) (.slice fa fs.length fc) (atN l) fs w4 (HA4.out w4 (Below.refl _ _)) (HF4.out w4 (Below.refl _ _)))
    rw [all_sub HLM.out.sub] at HALL
    have HB4 : Hid (∀ u, Below w4.heap.size w4 u → Below w.heap.size w u) := fun u hu => B4.out.trans (hu.mono B4.out.size)
    clear hown4 b4 HAT2 HF3 HFA
    go_wp2_with fail
    refine HALL.out.mono ?_
    rintro e w4' ⟨rfl, rfl⟩
    clear HALL
    go_wp2
    go_loopw [5] (fun i wr => ∃ k : Nat, k ≤ fs.length ∧ i = .int .i64 k ∧ Hid (Below w4'.heap.size w4' wr)) (fun i _ => fs.length - (intOf i).toNat)
    case atStart => exact ⟨0, Nat.zero_le _, rfl, Below.refl _ _⟩
    case round =>
      obtain ⟨k, hk, rfl, HBU⟩ := hrel
      obtain ⟨U, rfl⟩ : ∃ U, U = wr := ⟨_, rfl⟩
      by_cases hlt : k < fs.length
      · have hlt' : (k : Int) < (fs.length : Int) := by omega
        have hk0 : (0 : Int) ≤ (k : Int) := by omega
        obtain ⟨g, off, rfl, hcell⟩ := HCE.out (by omega)
        have hD : Below U.heap.size U U.drew := (Below.refl _ _).drew
        have HUP : Hid (∀ u, Below U.heap.size U u → Below w4'.heap.size w4' u) := fun u hu => HBU.out.trans (hu.mono HBU.out.size)
        have HLS : Hid (∀ u, Below U.heap.size U u → (loadVar 9 ⟨g, off + k, none⟩).run Tryz.prog u = .ok (.string (atS fs k)) u) := fun u hu => load_str (hcell u (HUP.out u hu) k hlt)
        have HI1 : Hid (∀ u, Below U.heap.size U u → Calls Tryz.prog 11 #[.string (atS fs k), .slice (some ⟨g, off, none⟩) k fc] u fun e w' => e = .returned (.bool false) ∧ w' = u) := fun u hu => by
          have := in_any (atS fs k) _ (fs.take k) u (ls_cut (HF4.out u (HUP.out u hu)) hlt)
          rw [HLM.out.ahead (atN_nodup l) hlt] at this
          exact this
        have HI2 : Hid (∀ u, Below U.heap.size U u → Calls Tryz.prog 11 #[.string (atS fs k), .slice aa (atN l).length ac] u fun e w' => e = .returned (.bool (inB (atN l) (atS fs k))) ∧ w' = u) := fun u hu => in_any (atS fs k) _ (atN l) u (HA4.out u (HUP.out u hu))
        have HEQ : Hid (∀ u, Below U.heap.size U u → Calls Tryz.prog 12 #[.slice a l.length c, .string (atS fs k), .slice (some ⟨g, off, none⟩) k fc] u fun e w' => e = .returned (.bool (eqdB (eqL (d + 1) l) (atS fs k) (fs.take k))) ∧ Below u.heap.size u w') := fun u hu => equated_any d l a c (atS fs k) _ (fs.take k) u (HL.out u (HB4.out u (HUP.out u hu))) HSZ.out (ls_cut (HF4.out u (HUP.out u hu)) hlt)
        have hfirst := HLM.out.first hlt
        have HDD := Lib.hid hD
        cases hin : inB (atN l) (atS fs k)
        · have heq : eqdB (eqL (d + 1) l) (atS fs k) (fs.take k) = true := by
            rcases hfirst with h | h
            · rw [inB_iff.2 h] at hin; cases hin
            · exact h
          have HC1 : Hid (Calls Tryz.prog 11 #[.string (atS fs k), .slice (some ⟨g, off, none⟩) k fc] U.drew fun e u1 => e = .returned (.bool false) ∧ Below U.heap.size U u1 ∧ Calls Tryz.prog 11 #[.string (atS fs k), .slice aa (atN l).length ac] u1 fun e u2 => e = .returned (.bool false) ∧ Below U.heap.size U u2 ∧ Calls Tryz.prog 12 #[.slice a l.length c, .string (atS fs k), .slice (some ⟨g, off, none⟩) k fc] u2 fun e u3 => e = .returned (.bool true) ∧ Below U.heap.size U u3) := by
            refine (HI1.out _ hD).mono ?_
            rintro e u1 ⟨rfl, rfl⟩
            refine ⟨rfl, hD, ?_⟩
            refine (HI2.out _ hD).mono ?_
            rintro e u2 ⟨rfl, rfl⟩
            refine ⟨by rw [hin], hD, ?_⟩
            refine (HEQ.out _ hD).mono ?_
            rintro e u3 ⟨rfl, q3⟩
            exact ⟨by rw [heq], hD.trans (q3.mono hD.size)⟩
          clear hD HI1 HI2 HEQ hfirst hin heq hcell
          generalize atS fs k = s at HLS HC1
          go_upto_region 12 with fail
          refine wp_region_noPanic ?_
          refine wp_region_held (S := fun u => Below U.heap.size U u) (by kernel_rfl) ?_
          refine cffixB (w5 := U) (S := fun u => Below U.heap.size U u) (g := g) (off := off) (nn := fs.length) (cc := fc) (k := k) (s := s) (av := .slice aa (atN l).length ac) (bv := .slice a l.length c) rfl rfl rfl rfl rfl rfl rfl rfl rfl rfl rfl rfl rfl rfl rfl rfl rfl rfl rfl rfl rfl rfl rfl rfl rfl rfl rfl rfl rfl (by kernel_rfl) (by kernel_rfl) (by kernel_rfl) (by kernel_rfl) (by kernel_rfl) (by kernel_rfl) (fun _ _ _ _ _ h => h) (by simp) rfl rfl rfl rfl HDD.out (fun _ _ _ h => h) hlt hfc1 HLS.out HC1.out ?_
          intro wc hwc
          have HBC := Lib.hid (HUP.out wc hwc)
          clear hwc HC1 HLS HDD HUP HBU
          refine NoPanic.normal ?_
          rename_i hJ hQ hK
          first | refine hJ _ _ ?_ | refine hK _ _ ?_
          simp (config := { maxSteps := 8000000 }) only [Act.put, List.getElem_toArray, List.getElem_cons_zero, List.getElem_cons_succ, List.setIfInBounds_toArray, List.set_cons_succ, List.set_cons_zero]
          go_wp2
          go_roundw
          case rel => exact ⟨k + 1, by omega, by go_num, HBC⟩
          case measure => simp [intOf]; omega
        · have HC1 : Hid (Calls Tryz.prog 11 #[.string (atS fs k), .slice (some ⟨g, off, none⟩) k fc] U.drew fun e u1 => e = .returned (.bool false) ∧ Below U.heap.size U u1 ∧ Calls Tryz.prog 11 #[.string (atS fs k), .slice aa (atN l).length ac] u1 fun e u2 => e = .returned (.bool true) ∧ Below U.heap.size U u2) := by
            refine (HI1.out _ hD).mono ?_
            rintro e u1 ⟨rfl, rfl⟩
            refine ⟨rfl, hD, ?_⟩
            refine (HI2.out _ hD).mono ?_
            rintro e u2 ⟨rfl, rfl⟩
            exact ⟨by rw [hin], hD⟩
          clear hD HI1 HI2 HEQ hfirst hin hcell
          generalize atS fs k = s at HLS HC1
          go_upto_region 12 with fail
          refine wp_region_noPanic ?_
          refine wp_region_held (S := fun u => Below U.heap.size U u) (by kernel_rfl) ?_
          refine cffixA (w5 := U) (S := fun u => Below U.heap.size U u) (g := g) (off := off) (nn := fs.length) (cc := fc) (k := k) (s := s) (av := .slice aa (atN l).length ac) (bv := .slice a l.length c) rfl rfl rfl rfl rfl rfl rfl rfl rfl rfl rfl rfl rfl rfl rfl rfl rfl rfl rfl rfl rfl rfl rfl rfl rfl rfl rfl rfl rfl (by kernel_rfl) (by kernel_rfl) (by kernel_rfl) (by kernel_rfl) (by kernel_rfl) (fun _ _ _ _ _ h => h) (by simp) rfl rfl rfl rfl HDD.out (fun _ _ _ h => h) hlt hfc1 HLS.out HC1.out ?_
          intro wc hwc
          have HBC := Lib.hid (HUP.out wc hwc)
          clear hwc HC1 HLS HDD HUP HBU
          refine NoPanic.normal ?_
          rename_i hJ hQ hK
          first | refine hJ _ _ ?_ | refine hK _ _ ?_
          simp (config := { maxSteps := 8000000 }) only [Act.put, List.getElem_toArray, List.getElem_cons_zero, List.getElem_cons_succ, List.setIfInBounds_toArray, List.set_cons_succ, List.set_cons_zero]
          go_wp2
          go_roundw
          case rel => exact ⟨k + 1, by omega, by go_num, HBC⟩
          case measure => simp [intOf]; omega
      · obtain rfl : k = fs.length := by omega
        clear hlt hk HCE HA4
        go_wp2
        go_loopw [6] (fun i wr => ∃ k : Nat, k ≤ l.length ∧ i = .int .i64 k ∧ Hid (Below w4'.heap.size w4' wr)) (fun i _ => l.length - (intOf i).toNat)
        case atStart => exact ⟨0, Nat.zero_le _, rfl, HBU⟩
        case round =>
          clear HBU
          obtain ⟨k, hk, rfl, HBV⟩ := hrel
          obtain ⟨V, rfl⟩ : ∃ V, V = wr := ⟨_, rfl⟩
          by_cases hlt : k < l.length
          · have hlt' : (k : Int) < (l.length : Int) := by omega
            have hk0 : (0 : Int) ≤ (k : Int) := by omega
            obtain ⟨g, off, ha, hg, hT⟩ := HAT.out (by omega)
            have r1 := range_below (hT k hlt) (HB4.out V HBV.out) hg
            have hld := load_Lit r1 rfl
            have HVL := Lib.hid (rliteralVars_any (d + 1) (atL l k).x (atL l k).p V ((HL.out V (HB4.out V HBV.out)).at_is hlt) (HTS.out k hlt) (HSZ.out k hlt).1 (HSZ.out k hlt).2)
            rw [← XL.val_eq] at HVL
            generalize vsT [] (termsL (d + 1) (atL l k).x) = vs at HVL
            generalize Value.agg (atL l k).cells.toArray = QV at hld HVL
            have HHA := Lib.hid ha
            clear hT r1
            cases ha
            go_wp2_with fail
            clear hld
            refine HVL.out.mono ?_
            rintro e V2 ⟨sv5, rfl, hs5, b5⟩
            have HBV2 : Hid (Below w4'.heap.size w4' V2) := HBV.out.trans (b5.mono HBV.out.size)
            obtain ⟨va, vc, rfl, hvc1, hvc2, hvat⟩ := ls_str hs5
            have hvm : vs.length ≤ maxLen := Nat.le_trans hvc1 hvc2
            unfold maxLen at hvm
            have HVA := Lib.hid hvat
            clear hs5 b5 HVL hvat HBV
            go_wp2
            go_loopw [8] (fun i wr => ∃ m : Nat, m ≤ vs.length ∧ i = .int .i64 m ∧ Hid (Below V2.heap.size V2 wr)) (fun i _ => vs.length - (intOf i).toNat)
            case atStart => exact ⟨0, Nat.zero_le _, rfl, Below.refl _ _⟩
            case round =>
              obtain ⟨m, hm, rfl, HBX⟩ := hrel
              obtain ⟨X, rfl⟩ : ∃ X, X = wr := ⟨_, rfl⟩
              have HX4 : Hid (Below w4'.heap.size w4' X) := HBV2.out.trans (HBX.out.mono HBV2.out.size)
              by_cases hml : m < vs.length
              · have hml' : (m : Int) < (vs.length : Int) := by omega
                have hm0 : (0 : Int) ≤ (m : Int) := by omega
                obtain ⟨g2, off2, rfl, hg2, hc2⟩ := HVA.out (by omega)
                have x0 : X.cell? ⟨g2, off2 + m, none⟩ = some (.string (atS vs m)) := by rw [HBX.out.cell (p := ⟨g2, off2 + m, none⟩) hg2]; exact hc2 m hml
                replace x0 := load_str x0
                have HI := Lib.hid (in_any (atS vs m) _ fs X (HF4.out X HX4.out))
                have HE := Lib.hid (equated_any d l (some ⟨g, off, none⟩) c (atS vs m) _ fs X (HL.out X (HB4.out X HX4.out)) HSZ.out (HF4.out X HX4.out))
                have HNO : Hid (inB fs (atS vs m) = false → eqdB (eqL (d + 1) l) (atS vs m) fs = false) := fun h => HLM.out.no (fun hx => by rw [inB_iff.2 hx] at h; cases h)
                generalize atS vs m = s at x0 HI HE HNO
                clear hc2
                cases hq : inB fs s
                · rw [hq] at HI
                  rw [HNO.out hq] at HE
                  clear hq HNO
                  go_wp2_with fail
                  refine HI.out.mono ?_
                  rintro e X2 ⟨rfl, rfl⟩
                  clear HI
                  go_wp2_with fail
                  refine HE.out.mono ?_
                  rintro e X3 ⟨rfl, q3⟩
                  have HBX3 : Hid (Below V2.heap.size V2 X3) := HBX.out.trans (q3.mono HBX.out.size)
                  clear HE q3 x0
                  go_wp2
                  go_roundw
                  case rel => exact ⟨m + 1, by omega, by go_num, HBX3⟩
                  case measure => simp [intOf]; omega
                · rw [hq] at HI
                  clear hq HNO HE
                  go_wp2_with fail
                  refine HI.out.mono ?_
                  rintro e X2 ⟨rfl, rfl⟩
                  clear HI x0
                  go_wp2
                  go_roundw
                  case rel => exact ⟨m + 1, by omega, by go_num, HBX⟩
                  case measure => simp [intOf]; omega
              · clear HVA
                go_wp2
                go_roundw
                case rel => exact ⟨k + 1, by omega, by go_num, HX4⟩
                case measure => simp [intOf]; omega
          · have HEN := Lib.hid (HB4.out V HBV.out)
            clear HBV
            go_wp2
            go_ret
            exact ⟨by first | rfl | simp, HEN.out⟩
  · clear HS
    go_wp2
    go_ret
    exact ⟨by first | rfl | simp, B1.out⟩
end Go.Proofs.YtkfajjnaadmobaaGreatDoor
end
