import Derived.Test.YtkcipmbgapdkjaaGreatDoorSdT
import Derived.Test.YtkcipmbgapdkjaaGreatDoorRgGen
namespace Go.Proofs.YtkcipmbgapdkjaaGreatDoor
open Go.RowKit Go.Maps
set_option linter.unusedVariables false
set_option linter.unusedSimpArgs false

theorem run_idxF (ev : Operand → Value) (o : Oper) {x y : Operand} (hop : o.op = .indexAddr 22 x y) (w : World) {g off n c k : Nat} (hx : ev x = .slice (some ⟨g, off, none⟩) n c) (hy : ev y = .int .i64 k) (hk : k < n) : (execOp ev o).run Tryz.prog w = .ok (.value (.pointer (some ⟨g, off + k * 2, none⟩))) w := by
  have h1 : (k : Int) < (n : Int) := by omega
  have h0 : (0 : Int) ≤ (k : Int) := by omega
  simp only [execOp, hop, hx, hy]
  go_simp
theorem run_idxT (ev : Operand → Value) (o : Oper) {x y : Operand} (hop : o.op = .indexAddr 31 x y) (w : World) {g off n c k : Nat} (hx : ev x = .slice (some ⟨g, off, none⟩) n c) (hy : ev y = .int .i64 k) (hk : k < n) : (execOp ev o).run Tryz.prog w = .ok (.value (.pointer (some ⟨g, off + k, none⟩))) w := by
  have h1 : (k : Int) < (n : Int) := by omega
  have h0 : (0 : Int) ≤ (k : Int) := by omega
  simp only [execOp, hop, hx, hy]
  go_simp
theorem run_fld0 (ev : Operand → Value) (o : Oper) {x : Operand} (hop : o.op = .fieldAddr 29 x 0) (w : World) {g off : Nat} (hx : ev x = .pointer (some ⟨g, off, none⟩)) : (execOp ev o).run Tryz.prog w = .ok (.value (.pointer (some ⟨g, off, none⟩))) w := by
  simp only [execOp, hop, hx]
  go_simp
theorem run_fld1 (ev : Operand → Value) (o : Oper) {x : Operand} (hop : o.op = .fieldAddr 29 x 1) (w : World) {g off : Nat} (hx : ev x = .pointer (some ⟨g, off, none⟩)) : (execOp ev o).run Tryz.prog w = .ok (.value (.pointer (some ⟨g, off + 1, none⟩))) w := by
  simp only [execOp, hop, hx]
  go_simp
theorem run_loadK (ev : Operand → Value) (o : Oper) {ty : TypeId} {x : Operand} (hop : o.op = .load ty x) (w : World) {a : Addr} {v : Value} (hx : ev x = .pointer (some a)) (hl : (loadVar ty a).run Tryz.prog w = .ok v w) : (execOp ev o).run Tryz.prog w = .ok (.value v) w := by
  simp only [execOp, hop, hx]
  simp [Instr.loadAt, Instr.sureAddr, hl, Result.andThen]
theorem gtr0 (u : World) : (binOp .gtr 3 (.int .i64 ((0 : Nat) : Int)) (.int .i64 0)).run Tryz.prog u = .ok (.bool false) u := by go_simp
theorem gtr1 (j : Nat) (u : World) : (binOp .gtr 3 (.int .i64 ((j + 1 : Nat) : Int)) (.int .i64 0)).run Tryz.prog u = .ok (.bool true) u := by
  have h : (0 : Int) < ((j + 1 : Nat) : Int) := by omega
  generalize ((j + 1 : Nat) : Int) = k at h ⊢
  go_simp
theorem sub1 (j : Nat) (hj : j < 9223372036854775807) (u : World) : (binOp .sub 3 (.int .i64 ((j + 1 : Nat) : Int)) (.int .i64 1)).run Tryz.prog u = .ok (.int .i64 (j : Int)) u := by
  have h : IntKind.i64.wrap (((j + 1 : Nat) : Int) - 1) = (j : Int) := by rw [IntKind.wrap_i64]; omega
  generalize ((j + 1 : Nat) : Int) = k at h ⊢
  go_simp
theorem ne_m1 (u : World) : (binOp .neq 3 (.int .i64 (-1)) (.int .i64 (-1))).run Tryz.prog u = .ok (.bool false) u := by go_simp
theorem ne_p (u : World) : (binOp .neq 9 (.string ⟨#[112]⟩) (.string ⟨#[112]⟩)).run Tryz.prog u = .ok (.bool false) u := by go_simp
def sreg9A_takes : List (List Nat × Nat) := [([], 0), ([0], 1), ([0, 1], 2), ([0, 1, 2], 3), ([0, 1, 2, 3], 4), ([0, 1, 2, 3, 4], 5), ([0, 1, 2, 3, 4, 5], 6), ([0, 1, 2, 3, 4, 5, 6], 7), ([0, 1, 2, 3, 4, 5, 6, 7], 8), ([0, 1, 2, 3, 4, 5, 6, 7, 8], 9), ([0, 1, 2, 3, 4, 5, 6, 7, 8, 9], 10), ([0, 1, 2, 3, 4, 5, 6, 7, 8, 9, 10], 11), ([0, 1, 2, 3, 4, 5, 6, 7, 8, 9, 10, 11], 12), ([0, 1, 2, 3, 4, 5, 6, 7, 8, 9, 10, 11, 12], 13), ([0, 1, 2, 3, 4, 5, 6, 7, 8, 9, 10, 11, 12, 13], 14), ([0, 1, 2, 3, 4, 5, 6, 7, 8, 9, 10, 11, 12, 13, 14], 15), ([0, 1, 2, 3, 4, 5, 6, 7, 8, 9, 10, 11, 12, 13, 14, 15], 16), ([0, 1, 2, 3, 4, 5, 6, 7, 8, 9, 10, 11, 12, 13, 14, 15, 16], 17), ([0, 1, 2, 3, 4, 5, 6, 7, 8, 9, 10, 11, 12, 13, 14, 15, 16, 17], 18), ([0, 1, 2, 3, 4, 5, 6, 7, 8, 9, 10, 11, 12, 13, 14, 15, 16, 17, 18], 19), ([0, 1, 2, 3, 4, 5, 6, 7, 8, 9, 10, 11, 12, 13, 14, 15, 16, 17, 18, 19], 20), ([0, 1, 2, 3, 4, 5, 6, 7, 8, 9, 10, 11, 12, 13, 14, 15, 16, 17, 18, 19, 20, 21], 22), ([0, 1, 2, 3, 4, 5, 6, 7, 8, 9, 10, 11, 12, 13, 14, 15, 16, 17, 18, 19, 20, 21, 22], 23)]
set_option maxHeartbeats 3200000 in
theorem sreg9A {ops : Array Oper} {Q : Exit → Act → World → Prop} {S : World → Prop} {a0 : Act} {w5 : World} {al : Option Addr} {nl cl g off n cc i j : Nat} {X Y : Value} {ty1 ty2 : Array TypeId}
    (q0 : isOpG ops 0 none (.move (.tmp 4)) (some 30))
    (q1 : isOpG ops 1 none (.binOp .gtr 3 (.tmp 30) (.const (.int .i64 0)) 3) (some 31))
    (q2 : isOpG ops 2 none (.move (.tmp 31)) (some 32))
    (q3 : isOpG ops 3 (some (2, true)) (.move (.tmp 3)) (some 33))
    (q4 : isOpG ops 4 (some (2, true)) (.move (.tmp 4)) (some 34))
    (q5 : isOpG ops 5 (some (2, true)) (.binOp .sub 3 (.tmp 34) (.const (.int .i64 1)) 3) (some 35))
    (q6 : isOpG ops 6 (some (2, true)) (.indexAddr 22 (.tmp 33) (.tmp 35)) (some 36))
    (q7 : isOpG ops 7 (some (2, true)) (.load 29 (.tmp 36)) (some 37))
    (q8 : isOpG ops 8 (some (2, true)) (.move (.tmp 3)) (some 38))
    (q9 : isOpG ops 9 (some (2, true)) (.move (.tmp 4)) (some 39))
    (q10 : isOpG ops 10 (some (2, true)) (.indexAddr 22 (.tmp 38) (.tmp 39)) (some 40))
    (q11 : isOpG ops 11 (some (2, true)) (.load 29 (.tmp 40)) (some 41))
    (q12 : isOpG ops 12 (some (2, true)) (.call { callee := .value (.func 8), args := #[.tmp 37, .tmp 41], argTypes := ty1 }) (some 42))
    (q13 : isOpG ops 13 (some (2, true)) (.binOp .neq 3 (.tmp 42) (.const (.int .i64 (-1))) 3) (some 43))
    (q14 : isOpG ops 14 none (.pick (.tmp 32) (.tmp 43) (.const (.bool false))) (some 44))
    (q15 : isOpG ops 15 none (.move (.tmp 44)) (some 45))
    (q16 : isOpG ops 16 (some (15, false)) (.move (.tmp 3)) (some 46))
    (q17 : isOpG ops 17 (some (15, false)) (.move (.tmp 4)) (some 47))
    (q18 : isOpG ops 18 (some (15, false)) (.indexAddr 22 (.tmp 46) (.tmp 47)) (some 48))
    (q19 : isOpG ops 19 (some (15, false)) (.load 29 (.tmp 48)) (some 49))
    (q20 : isOpG ops 20 (some (15, false)) (.move (.tmp 0)) (some 50))
    (q21 : isOpG ops 21 (some (15, false)) (.call { callee := .value (.func 9), args := #[.tmp 49, .tmp 50], argTypes := ty2 }) (some 51))
    (q22 : isOpG ops 22 (some (15, false)) (.unOp .not 4 (.tmp 51)) (some 52))
    (q23 : isOpG ops 23 none (.pick (.tmp 45) (.const (.bool true)) (.tmp 52)) (some 53))
    (hs : Region.noSelect ops = true) (hq : (sreg9A_takes.all fun p => Region.free .any ops (LR 24 p.1) p.2 && (Region.ready .any ops (LR 24 p.1)).contains p.2) = true)
    (r21 : Region.ready .any ops (LR 24 [0, 1, 2, 3, 4, 5, 6, 7, 8, 9, 10, 11, 12, 13, 14, 15, 16, 17, 18, 19, 20]) = [21])
    (rend : Region.ready .any ops (LR 24 [0, 1, 2, 3, 4, 5, 6, 7, 8, 9, 10, 11, 12, 13, 14, 15, 16, 17, 18, 19, 20, 21, 22, 23]) = [])
    (hQ : ∀ (d : Option Tmp) (v : Value) c a w, Q (.panic c) (a.put d v) w → Q (.panic c) a w)
    (hsz : 53 < a0.tmps.size) (e0 : a0.eval (.tmp 0) = .slice al nl cl) (e3 : a0.eval (.tmp 3) = .slice (some ⟨g, off, none⟩) n cc) (e4 : a0.eval (.tmp 4) = .int .i64 i)
    (hS0 : S w5.drew)
    (keep : ∀ u u', S u → Below u.heap.size u u' → S u') (hin : i < n) (LY : ∀ u, S u → (loadVar 29 ⟨g, off + i * 2, none⟩).run Tryz.prog u = .ok Y u)
    (hgt : ∀ u, (binOp .gtr 3 (.int .i64 i) (.int .i64 0)).run Tryz.prog u = .ok (.bool false) u)
    (KI : ∀ u, S u → Calls Tryz.prog 9 #[Y, .slice al nl cl] u fun e w' => e = .returned (.bool true) ∧ Below u.heap.size u w')
    (F : ∀ (wc : World), S wc → Q .normal ((((((((((((((((((((((((a0.put (some 30) (.int .i64 i)).put (some 31) (.bool false)).put (some 32) (.bool false)).put (some 33) (undef)).put (some 34) (undef)).put (some 35) (undef)).put (some 36) (undef)).put (some 37) (undef)).put (some 38) (undef)).put (some 39) (undef)).put (some 40) (undef)).put (some 41) (undef)).put (some 42) (undef)).put (some 43) (undef)).put (some 44) (.bool false)).put (some 45) (.bool false)).put (some 46) (.slice (some ⟨g, off, none⟩) n cc)).put (some 47) (.int .i64 i)).put (some 48) (.pointer (some ⟨g, off + i * 2, none⟩))).put (some 49) (Y)).put (some 50) (.slice al nl cl)).put (some 51) (.bool true)).put (some 52) (.bool false)).put (some 53) (.bool false)) wc) :
    wpAnyH Tryz.prog .any ops Q S 24 (LR 24 []) a0 w5.drew := by
  have hall : ∀ p ∈ sreg9A_takes, Region.free .any ops (LR 24 p.1) p.2 = true ∧ (Region.ready .any ops (LR 24 p.1)).contains p.2 = true := by
    intro p hp
    have := List.all_eq_true.1 hq p hp
    simpa using this
  unfold sreg9A_takes at hall
  obtain ⟨og2, hog2, _, _, dog2⟩ := isOpG_out q2
  obtain ⟨og15, hog15, _, _, dog15⟩ := isOpG_out q15
  obtain ⟨o0, ho, hg, hop, hd⟩ := isOpG_out q0
  have hfr := hall ([], 0) (by simp)
  refine wpAnyH_take (listed := LR 24 []) (v := .int .i64 i) ho hs hfr.1 hfr.2 (hQ _ _) (Or.inl ⟨(wantedN hg), fun w' hS => run_move _ _ hop w' (by (repeat rw [eval_far _ _ (by decide)]); exact e4)⟩) hS0 ?_
  rw [hd, ← LR_snoc]
  clear ho hg hop hd hfr
  obtain ⟨o1, ho, hg, hop, hd⟩ := isOpG_out q1
  have hfr := hall ([0], 1) (by simp)
  refine wpAnyH_take (listed := LR 24 [0]) (v := .bool false) ho hs hfr.1 hfr.2 (hQ _ _) (Or.inl ⟨(wantedN hg), fun w' hS => run_binV _ _ hop w' (by (repeat (first | rw [eval_same _ _ (by (try simp only [put_size]); omega)] | rw [eval_far _ _ (by decide)]))) rfl (by first | rfl | go_simp) (hgt w')⟩) hS0 ?_
  rw [hd, ← LR_snoc]
  clear ho hg hop hd hfr
  obtain ⟨o2, ho, hg, hop, hd⟩ := isOpG_out q2
  have hfr := hall ([0, 1], 2) (by simp)
  refine wpAnyH_take (listed := LR 24 [0, 1]) (v := .bool false) ho hs hfr.1 hfr.2 (hQ _ _) (Or.inl ⟨(wantedN hg), fun w' hS => run_move _ _ hop w' (by (repeat (first | rw [eval_same _ _ (by (try simp only [put_size]); omega)] | rw [eval_far _ _ (by decide)])))⟩) hS0 ?_
  rw [hd, ← LR_snoc]
  clear ho hg hop hd hfr
  obtain ⟨o3, ho, hg, hop, hd⟩ := isOpG_out q3
  have hfr := hall ([0, 1, 2], 3) (by simp)
  refine wpAnyH_take (listed := LR 24 [0, 1, 2]) (v := undef) ho hs hfr.1 hfr.2 (hQ _ _) (Or.inr ⟨((wantedB hog2 dog2 hg (by (repeat (first | rw [tmps_same _ _ (by (try simp only [put_size]); omega)] | rw [tmps_far _ _ (by decide)])))).trans (by decide)), rfl⟩) hS0 ?_
  rw [hd, ← LR_snoc]
  clear ho hg hop hd hfr
  obtain ⟨o4, ho, hg, hop, hd⟩ := isOpG_out q4
  have hfr := hall ([0, 1, 2, 3], 4) (by simp)
  refine wpAnyH_take (listed := LR 24 [0, 1, 2, 3]) (v := undef) ho hs hfr.1 hfr.2 (hQ _ _) (Or.inr ⟨((wantedB hog2 dog2 hg (by (repeat (first | rw [tmps_same _ _ (by (try simp only [put_size]); omega)] | rw [tmps_far _ _ (by decide)])))).trans (by decide)), rfl⟩) hS0 ?_
  rw [hd, ← LR_snoc]
  clear ho hg hop hd hfr
  obtain ⟨o5, ho, hg, hop, hd⟩ := isOpG_out q5
  have hfr := hall ([0, 1, 2, 3, 4], 5) (by simp)
  refine wpAnyH_take (listed := LR 24 [0, 1, 2, 3, 4]) (v := undef) ho hs hfr.1 hfr.2 (hQ _ _) (Or.inr ⟨((wantedB hog2 dog2 hg (by (repeat (first | rw [tmps_same _ _ (by (try simp only [put_size]); omega)] | rw [tmps_far _ _ (by decide)])))).trans (by decide)), rfl⟩) hS0 ?_
  rw [hd, ← LR_snoc]
  clear ho hg hop hd hfr
  obtain ⟨o6, ho, hg, hop, hd⟩ := isOpG_out q6
  have hfr := hall ([0, 1, 2, 3, 4, 5], 6) (by simp)
  refine wpAnyH_take (listed := LR 24 [0, 1, 2, 3, 4, 5]) (v := undef) ho hs hfr.1 hfr.2 (hQ _ _) (Or.inr ⟨((wantedB hog2 dog2 hg (by (repeat (first | rw [tmps_same _ _ (by (try simp only [put_size]); omega)] | rw [tmps_far _ _ (by decide)])))).trans (by decide)), rfl⟩) hS0 ?_
  rw [hd, ← LR_snoc]
  clear ho hg hop hd hfr
  obtain ⟨o7, ho, hg, hop, hd⟩ := isOpG_out q7
  have hfr := hall ([0, 1, 2, 3, 4, 5, 6], 7) (by simp)
  refine wpAnyH_take (listed := LR 24 [0, 1, 2, 3, 4, 5, 6]) (v := undef) ho hs hfr.1 hfr.2 (hQ _ _) (Or.inr ⟨((wantedB hog2 dog2 hg (by (repeat (first | rw [tmps_same _ _ (by (try simp only [put_size]); omega)] | rw [tmps_far _ _ (by decide)])))).trans (by decide)), rfl⟩) hS0 ?_
  rw [hd, ← LR_snoc]
  clear ho hg hop hd hfr
  obtain ⟨o8, ho, hg, hop, hd⟩ := isOpG_out q8
  have hfr := hall ([0, 1, 2, 3, 4, 5, 6, 7], 8) (by simp)
  refine wpAnyH_take (listed := LR 24 [0, 1, 2, 3, 4, 5, 6, 7]) (v := undef) ho hs hfr.1 hfr.2 (hQ _ _) (Or.inr ⟨((wantedB hog2 dog2 hg (by (repeat (first | rw [tmps_same _ _ (by (try simp only [put_size]); omega)] | rw [tmps_far _ _ (by decide)])))).trans (by decide)), rfl⟩) hS0 ?_
  rw [hd, ← LR_snoc]
  clear ho hg hop hd hfr
  obtain ⟨o9, ho, hg, hop, hd⟩ := isOpG_out q9
  have hfr := hall ([0, 1, 2, 3, 4, 5, 6, 7, 8], 9) (by simp)
  refine wpAnyH_take (listed := LR 24 [0, 1, 2, 3, 4, 5, 6, 7, 8]) (v := undef) ho hs hfr.1 hfr.2 (hQ _ _) (Or.inr ⟨((wantedB hog2 dog2 hg (by (repeat (first | rw [tmps_same _ _ (by (try simp only [put_size]); omega)] | rw [tmps_far _ _ (by decide)])))).trans (by decide)), rfl⟩) hS0 ?_
  rw [hd, ← LR_snoc]
  clear ho hg hop hd hfr
  obtain ⟨o10, ho, hg, hop, hd⟩ := isOpG_out q10
  have hfr := hall ([0, 1, 2, 3, 4, 5, 6, 7, 8, 9], 10) (by simp)
  refine wpAnyH_take (listed := LR 24 [0, 1, 2, 3, 4, 5, 6, 7, 8, 9]) (v := undef) ho hs hfr.1 hfr.2 (hQ _ _) (Or.inr ⟨((wantedB hog2 dog2 hg (by (repeat (first | rw [tmps_same _ _ (by (try simp only [put_size]); omega)] | rw [tmps_far _ _ (by decide)])))).trans (by decide)), rfl⟩) hS0 ?_
  rw [hd, ← LR_snoc]
  clear ho hg hop hd hfr
  obtain ⟨o11, ho, hg, hop, hd⟩ := isOpG_out q11
  have hfr := hall ([0, 1, 2, 3, 4, 5, 6, 7, 8, 9, 10], 11) (by simp)
  refine wpAnyH_take (listed := LR 24 [0, 1, 2, 3, 4, 5, 6, 7, 8, 9, 10]) (v := undef) ho hs hfr.1 hfr.2 (hQ _ _) (Or.inr ⟨((wantedB hog2 dog2 hg (by (repeat (first | rw [tmps_same _ _ (by (try simp only [put_size]); omega)] | rw [tmps_far _ _ (by decide)])))).trans (by decide)), rfl⟩) hS0 ?_
  rw [hd, ← LR_snoc]
  clear ho hg hop hd hfr
  obtain ⟨o12, ho, hg, hop, hd⟩ := isOpG_out q12
  have hfr := hall ([0, 1, 2, 3, 4, 5, 6, 7, 8, 9, 10, 11], 12) (by simp)
  refine wpAnyH_take (listed := LR 24 [0, 1, 2, 3, 4, 5, 6, 7, 8, 9, 10, 11]) (v := undef) ho hs hfr.1 hfr.2 (hQ _ _) (Or.inr ⟨((wantedB hog2 dog2 hg (by (repeat (first | rw [tmps_same _ _ (by (try simp only [put_size]); omega)] | rw [tmps_far _ _ (by decide)])))).trans (by decide)), rfl⟩) hS0 ?_
  rw [hd, ← LR_snoc]
  clear ho hg hop hd hfr
  obtain ⟨o13, ho, hg, hop, hd⟩ := isOpG_out q13
  have hfr := hall ([0, 1, 2, 3, 4, 5, 6, 7, 8, 9, 10, 11, 12], 13) (by simp)
  refine wpAnyH_take (listed := LR 24 [0, 1, 2, 3, 4, 5, 6, 7, 8, 9, 10, 11, 12]) (v := undef) ho hs hfr.1 hfr.2 (hQ _ _) (Or.inr ⟨((wantedB hog2 dog2 hg (by (repeat (first | rw [tmps_same _ _ (by (try simp only [put_size]); omega)] | rw [tmps_far _ _ (by decide)])))).trans (by decide)), rfl⟩) hS0 ?_
  rw [hd, ← LR_snoc]
  clear ho hg hop hd hfr
  obtain ⟨o14, ho, hg, hop, hd⟩ := isOpG_out q14
  have hfr := hall ([0, 1, 2, 3, 4, 5, 6, 7, 8, 9, 10, 11, 12, 13], 14) (by simp)
  refine wpAnyH_take (listed := LR 24 [0, 1, 2, 3, 4, 5, 6, 7, 8, 9, 10, 11, 12, 13]) (v := .bool false) ho hs hfr.1 hfr.2 (hQ _ _) (Or.inl ⟨(wantedN hg), fun w' hS => run_pickF _ _ hop w' (by (repeat (first | rw [eval_same _ _ (by (try simp only [put_size]); omega)] | rw [eval_far _ _ (by decide)]))) rfl⟩) hS0 ?_
  rw [hd, ← LR_snoc]
  clear ho hg hop hd hfr
  obtain ⟨o15, ho, hg, hop, hd⟩ := isOpG_out q15
  have hfr := hall ([0, 1, 2, 3, 4, 5, 6, 7, 8, 9, 10, 11, 12, 13, 14], 15) (by simp)
  refine wpAnyH_take (listed := LR 24 [0, 1, 2, 3, 4, 5, 6, 7, 8, 9, 10, 11, 12, 13, 14]) (v := .bool false) ho hs hfr.1 hfr.2 (hQ _ _) (Or.inl ⟨(wantedN hg), fun w' hS => run_move _ _ hop w' (by (repeat (first | rw [eval_same _ _ (by (try simp only [put_size]); omega)] | rw [eval_far _ _ (by decide)])))⟩) hS0 ?_
  rw [hd, ← LR_snoc]
  clear ho hg hop hd hfr
  obtain ⟨o16, ho, hg, hop, hd⟩ := isOpG_out q16
  have hfr := hall ([0, 1, 2, 3, 4, 5, 6, 7, 8, 9, 10, 11, 12, 13, 14, 15], 16) (by simp)
  refine wpAnyH_take (listed := LR 24 [0, 1, 2, 3, 4, 5, 6, 7, 8, 9, 10, 11, 12, 13, 14, 15]) (v := .slice (some ⟨g, off, none⟩) n cc) ho hs hfr.1 hfr.2 (hQ _ _) (Or.inl ⟨((wantedB hog15 dog15 hg (by (repeat (first | rw [tmps_same _ _ (by (try simp only [put_size]); omega)] | rw [tmps_far _ _ (by decide)])))).trans (by decide)), fun w' hS => run_move _ _ hop w' (by (repeat rw [eval_far _ _ (by decide)]); exact e3)⟩) hS0 ?_
  rw [hd, ← LR_snoc]
  clear ho hg hop hd hfr
  obtain ⟨o17, ho, hg, hop, hd⟩ := isOpG_out q17
  have hfr := hall ([0, 1, 2, 3, 4, 5, 6, 7, 8, 9, 10, 11, 12, 13, 14, 15, 16], 17) (by simp)
  refine wpAnyH_take (listed := LR 24 [0, 1, 2, 3, 4, 5, 6, 7, 8, 9, 10, 11, 12, 13, 14, 15, 16]) (v := .int .i64 i) ho hs hfr.1 hfr.2 (hQ _ _) (Or.inl ⟨((wantedB hog15 dog15 hg (by (repeat (first | rw [tmps_same _ _ (by (try simp only [put_size]); omega)] | rw [tmps_far _ _ (by decide)])))).trans (by decide)), fun w' hS => run_move _ _ hop w' (by (repeat rw [eval_far _ _ (by decide)]); exact e4)⟩) hS0 ?_
  rw [hd, ← LR_snoc]
  clear ho hg hop hd hfr
  obtain ⟨o18, ho, hg, hop, hd⟩ := isOpG_out q18
  have hfr := hall ([0, 1, 2, 3, 4, 5, 6, 7, 8, 9, 10, 11, 12, 13, 14, 15, 16, 17], 18) (by simp)
  refine wpAnyH_take (listed := LR 24 [0, 1, 2, 3, 4, 5, 6, 7, 8, 9, 10, 11, 12, 13, 14, 15, 16, 17]) (v := .pointer (some ⟨g, off + i * 2, none⟩)) ho hs hfr.1 hfr.2 (hQ _ _) (Or.inl ⟨((wantedB hog15 dog15 hg (by (repeat (first | rw [tmps_same _ _ (by (try simp only [put_size]); omega)] | rw [tmps_far _ _ (by decide)])))).trans (by decide)), fun w' hS => run_idxF _ _ hop w' (by (repeat (first | rw [eval_same _ _ (by (try simp only [put_size]); omega)] | rw [eval_far _ _ (by decide)]))) (by (repeat (first | rw [eval_same _ _ (by (try simp only [put_size]); omega)] | rw [eval_far _ _ (by decide)]))) hin⟩) hS0 ?_
  rw [hd, ← LR_snoc]
  clear ho hg hop hd hfr
  obtain ⟨o19, ho, hg, hop, hd⟩ := isOpG_out q19
  have hfr := hall ([0, 1, 2, 3, 4, 5, 6, 7, 8, 9, 10, 11, 12, 13, 14, 15, 16, 17, 18], 19) (by simp)
  refine wpAnyH_take (listed := LR 24 [0, 1, 2, 3, 4, 5, 6, 7, 8, 9, 10, 11, 12, 13, 14, 15, 16, 17, 18]) (v := Y) ho hs hfr.1 hfr.2 (hQ _ _) (Or.inl ⟨((wantedB hog15 dog15 hg (by (repeat (first | rw [tmps_same _ _ (by (try simp only [put_size]); omega)] | rw [tmps_far _ _ (by decide)])))).trans (by decide)), fun w' hS => run_loadK _ _ hop w' (by (repeat (first | rw [eval_same _ _ (by (try simp only [put_size]); omega)] | rw [eval_far _ _ (by decide)]))) (LY _ hS)⟩) hS0 ?_
  rw [hd, ← LR_snoc]
  clear ho hg hop hd hfr
  obtain ⟨o20, ho, hg, hop, hd⟩ := isOpG_out q20
  have hfr := hall ([0, 1, 2, 3, 4, 5, 6, 7, 8, 9, 10, 11, 12, 13, 14, 15, 16, 17, 18, 19], 20) (by simp)
  refine wpAnyH_take (listed := LR 24 [0, 1, 2, 3, 4, 5, 6, 7, 8, 9, 10, 11, 12, 13, 14, 15, 16, 17, 18, 19]) (v := .slice al nl cl) ho hs hfr.1 hfr.2 (hQ _ _) (Or.inl ⟨((wantedB hog15 dog15 hg (by (repeat (first | rw [tmps_same _ _ (by (try simp only [put_size]); omega)] | rw [tmps_far _ _ (by decide)])))).trans (by decide)), fun w' hS => run_move _ _ hop w' (by (repeat rw [eval_far _ _ (by decide)]); exact e0)⟩) hS0 ?_
  rw [hd, ← LR_snoc]
  clear ho hg hop hd hfr
  refine wpAnyH_all r21 (by simp) ?_
  intro i hi
  obtain rfl := List.mem_singleton.1 hi
  obtain ⟨o21, ho, hg, hop, hd⟩ := isOpG_out q21
  have x21_0 : ((((((((((((((((((((((a0.put (some 30) (.int .i64 i)).put (some 31) (.bool false)).put (some 32) (.bool false)).put (some 33) (undef)).put (some 34) (undef)).put (some 35) (undef)).put (some 36) (undef)).put (some 37) (undef)).put (some 38) (undef)).put (some 39) (undef)).put (some 40) (undef)).put (some 41) (undef)).put (some 42) (undef)).put (some 43) (undef)).put (some 44) (.bool false)).put (some 45) (.bool false)).put (some 46) (.slice (some ⟨g, off, none⟩) n cc)).put (some 47) (.int .i64 i)).put (some 48) (.pointer (some ⟨g, off + i * 2, none⟩))).put (some 49) (Y)).put (some 50) (.slice al nl cl))).eval (.tmp 49) = Y := (by (repeat (first | rw [eval_same _ _ (by (try simp only [put_size]); omega)] | rw [eval_far _ _ (by decide)])))
  have x21_1 : ((((((((((((((((((((((a0.put (some 30) (.int .i64 i)).put (some 31) (.bool false)).put (some 32) (.bool false)).put (some 33) (undef)).put (some 34) (undef)).put (some 35) (undef)).put (some 36) (undef)).put (some 37) (undef)).put (some 38) (undef)).put (some 39) (undef)).put (some 40) (undef)).put (some 41) (undef)).put (some 42) (undef)).put (some 43) (undef)).put (some 44) (.bool false)).put (some 45) (.bool false)).put (some 46) (.slice (some ⟨g, off, none⟩) n cc)).put (some 47) (.int .i64 i)).put (some 48) (.pointer (some ⟨g, off + i * 2, none⟩))).put (some 49) (Y)).put (some 50) (.slice al nl cl))).eval (.tmp 50) = .slice al nl cl := (by (repeat (first | rw [eval_same _ _ (by (try simp only [put_size]); omega)] | rw [eval_far _ _ (by decide)])))
  refine wpOp_callG ho ((wantedB hog15 dog15 hg (by (repeat (first | rw [tmps_same _ _ (by (try simp only [put_size]); omega)] | rw [tmps_far _ _ (by decide)])))).trans (by decide)) (run_callV 9 Tryz.func9 (by kernel_rfl) (by kernel_rfl) #[.tmp 49, .tmp 50] _ hop #[Y, .slice al nl cl] (by simp only [List.map_toArray, List.map_cons, List.map_nil, x21_0, x21_1])) ?_
  refine (KI _ hS0).mono ?_
  rintro e u1 ⟨rfl, b1⟩
  have hS21 := keep _ _ hS0 b1
  refine ⟨_, rfl, hS21, ?_⟩
  rw [hd]
  clear ho hg hop hd
  rw [← LR_snoc]
  obtain ⟨o22, ho, hg, hop, hd⟩ := isOpG_out q22
  have hfr := hall ([0, 1, 2, 3, 4, 5, 6, 7, 8, 9, 10, 11, 12, 13, 14, 15, 16, 17, 18, 19, 20, 21], 22) (by simp)
  refine wpAnyH_take (listed := LR 24 [0, 1, 2, 3, 4, 5, 6, 7, 8, 9, 10, 11, 12, 13, 14, 15, 16, 17, 18, 19, 20, 21]) (v := .bool false) ho hs hfr.1 hfr.2 (hQ _ _) (Or.inl ⟨((wantedB hog15 dog15 hg (by (repeat (first | rw [tmps_same _ _ (by (try simp only [put_size]); omega)] | rw [tmps_far _ _ (by decide)])))).trans (by decide)), fun w' hS => run_notV (b := true) _ _ hop w' (by (repeat (first | rw [eval_same _ _ (by (try simp only [put_size]); omega)] | rw [eval_far _ _ (by decide)])))⟩) hS21 ?_
  rw [hd, ← LR_snoc]
  clear ho hg hop hd hfr
  obtain ⟨o23, ho, hg, hop, hd⟩ := isOpG_out q23
  have hfr := hall ([0, 1, 2, 3, 4, 5, 6, 7, 8, 9, 10, 11, 12, 13, 14, 15, 16, 17, 18, 19, 20, 21, 22], 23) (by simp)
  refine wpAnyH_take (listed := LR 24 [0, 1, 2, 3, 4, 5, 6, 7, 8, 9, 10, 11, 12, 13, 14, 15, 16, 17, 18, 19, 20, 21, 22]) (v := .bool false) ho hs hfr.1 hfr.2 (hQ _ _) (Or.inl ⟨(wantedN hg), fun w' hS => run_pickF _ _ hop w' (by (repeat (first | rw [eval_same _ _ (by (try simp only [put_size]); omega)] | rw [eval_far _ _ (by decide)]))) (by (repeat (first | rw [eval_same _ _ (by (try simp only [put_size]); omega)] | rw [eval_far _ _ (by decide)])))⟩) hS21 ?_
  rw [hd, ← LR_snoc]
  clear ho hg hop hd hfr
  exact wpAnyH_done rend (F _ hS21) _
def sreg9B_takes : List (List Nat × Nat) := [([], 0), ([0], 1), ([0, 1], 2), ([0, 1, 2], 3), ([0, 1, 2, 3], 4), ([0, 1, 2, 3, 4], 5), ([0, 1, 2, 3, 4, 5], 6), ([0, 1, 2, 3, 4, 5, 6], 7), ([0, 1, 2, 3, 4, 5, 6, 7], 8), ([0, 1, 2, 3, 4, 5, 6, 7, 8], 9), ([0, 1, 2, 3, 4, 5, 6, 7, 8, 9], 10), ([0, 1, 2, 3, 4, 5, 6, 7, 8, 9, 10], 11), ([0, 1, 2, 3, 4, 5, 6, 7, 8, 9, 10, 11, 12], 13), ([0, 1, 2, 3, 4, 5, 6, 7, 8, 9, 10, 11, 12, 13], 14), ([0, 1, 2, 3, 4, 5, 6, 7, 8, 9, 10, 11, 12, 13, 14], 15), ([0, 1, 2, 3, 4, 5, 6, 7, 8, 9, 10, 11, 12, 13, 14, 15], 16), ([0, 1, 2, 3, 4, 5, 6, 7, 8, 9, 10, 11, 12, 13, 14, 15, 16], 17), ([0, 1, 2, 3, 4, 5, 6, 7, 8, 9, 10, 11, 12, 13, 14, 15, 16, 17], 18), ([0, 1, 2, 3, 4, 5, 6, 7, 8, 9, 10, 11, 12, 13, 14, 15, 16, 17, 18], 19), ([0, 1, 2, 3, 4, 5, 6, 7, 8, 9, 10, 11, 12, 13, 14, 15, 16, 17, 18, 19], 20), ([0, 1, 2, 3, 4, 5, 6, 7, 8, 9, 10, 11, 12, 13, 14, 15, 16, 17, 18, 19, 20, 21], 22), ([0, 1, 2, 3, 4, 5, 6, 7, 8, 9, 10, 11, 12, 13, 14, 15, 16, 17, 18, 19, 20, 21, 22], 23)]
set_option maxHeartbeats 3200000 in
theorem sreg9B {ops : Array Oper} {Q : Exit → Act → World → Prop} {S : World → Prop} {a0 : Act} {w5 : World} {al : Option Addr} {nl cl g off n cc i j : Nat} {X Y : Value} {ty1 ty2 : Array TypeId}
    (q0 : isOpG ops 0 none (.move (.tmp 4)) (some 30))
    (q1 : isOpG ops 1 none (.binOp .gtr 3 (.tmp 30) (.const (.int .i64 0)) 3) (some 31))
    (q2 : isOpG ops 2 none (.move (.tmp 31)) (some 32))
    (q3 : isOpG ops 3 (some (2, true)) (.move (.tmp 3)) (some 33))
    (q4 : isOpG ops 4 (some (2, true)) (.move (.tmp 4)) (some 34))
    (q5 : isOpG ops 5 (some (2, true)) (.binOp .sub 3 (.tmp 34) (.const (.int .i64 1)) 3) (some 35))
    (q6 : isOpG ops 6 (some (2, true)) (.indexAddr 22 (.tmp 33) (.tmp 35)) (some 36))
    (q7 : isOpG ops 7 (some (2, true)) (.load 29 (.tmp 36)) (some 37))
    (q8 : isOpG ops 8 (some (2, true)) (.move (.tmp 3)) (some 38))
    (q9 : isOpG ops 9 (some (2, true)) (.move (.tmp 4)) (some 39))
    (q10 : isOpG ops 10 (some (2, true)) (.indexAddr 22 (.tmp 38) (.tmp 39)) (some 40))
    (q11 : isOpG ops 11 (some (2, true)) (.load 29 (.tmp 40)) (some 41))
    (q12 : isOpG ops 12 (some (2, true)) (.call { callee := .value (.func 8), args := #[.tmp 37, .tmp 41], argTypes := ty1 }) (some 42))
    (q13 : isOpG ops 13 (some (2, true)) (.binOp .neq 3 (.tmp 42) (.const (.int .i64 (-1))) 3) (some 43))
    (q14 : isOpG ops 14 none (.pick (.tmp 32) (.tmp 43) (.const (.bool false))) (some 44))
    (q15 : isOpG ops 15 none (.move (.tmp 44)) (some 45))
    (q16 : isOpG ops 16 (some (15, false)) (.move (.tmp 3)) (some 46))
    (q17 : isOpG ops 17 (some (15, false)) (.move (.tmp 4)) (some 47))
    (q18 : isOpG ops 18 (some (15, false)) (.indexAddr 22 (.tmp 46) (.tmp 47)) (some 48))
    (q19 : isOpG ops 19 (some (15, false)) (.load 29 (.tmp 48)) (some 49))
    (q20 : isOpG ops 20 (some (15, false)) (.move (.tmp 0)) (some 50))
    (q21 : isOpG ops 21 (some (15, false)) (.call { callee := .value (.func 9), args := #[.tmp 49, .tmp 50], argTypes := ty2 }) (some 51))
    (q22 : isOpG ops 22 (some (15, false)) (.unOp .not 4 (.tmp 51)) (some 52))
    (q23 : isOpG ops 23 none (.pick (.tmp 45) (.const (.bool true)) (.tmp 52)) (some 53))
    (hs : Region.noSelect ops = true) (hq : (sreg9B_takes.all fun p => Region.free .any ops (LR 24 p.1) p.2 && (Region.ready .any ops (LR 24 p.1)).contains p.2) = true)
    (r12 : Region.ready .any ops (LR 24 [0, 1, 2, 3, 4, 5, 6, 7, 8, 9, 10, 11]) = [12])
    (r21 : Region.ready .any ops (LR 24 [0, 1, 2, 3, 4, 5, 6, 7, 8, 9, 10, 11, 12, 13, 14, 15, 16, 17, 18, 19, 20]) = [21])
    (rend : Region.ready .any ops (LR 24 [0, 1, 2, 3, 4, 5, 6, 7, 8, 9, 10, 11, 12, 13, 14, 15, 16, 17, 18, 19, 20, 21, 22, 23]) = [])
    (hQ : ∀ (d : Option Tmp) (v : Value) c a w, Q (.panic c) (a.put d v) w → Q (.panic c) a w)
    (hsz : 53 < a0.tmps.size) (e0 : a0.eval (.tmp 0) = .slice al nl cl) (e3 : a0.eval (.tmp 3) = .slice (some ⟨g, off, none⟩) n cc) (e4 : a0.eval (.tmp 4) = .int .i64 i)
    (hS0 : S w5.drew)
    (keep : ∀ u u', S u → Below u.heap.size u u' → S u') (hin : i < n) (LY : ∀ u, S u → (loadVar 29 ⟨g, off + i * 2, none⟩).run Tryz.prog u = .ok Y u)
    (hgt : ∀ u, (binOp .gtr 3 (.int .i64 i) (.int .i64 0)).run Tryz.prog u = .ok (.bool true) u)
    (KI : ∀ u, S u → Calls Tryz.prog 9 #[Y, .slice al nl cl] u fun e w' => e = .returned (.bool true) ∧ Below u.heap.size u w')
    (hjn : j < n) (LX : ∀ u, S u → (loadVar 29 ⟨g, off + j * 2, none⟩).run Tryz.prog u = .ok X u)
    (hsub : ∀ u, (binOp .sub 3 (.int .i64 i) (.int .i64 1)).run Tryz.prog u = .ok (.int .i64 j) u)
    (KC : ∀ u, S u → Calls Tryz.prog 8 #[X, Y] u fun e w' => e = .returned (.int .i64 (-1)) ∧ Below u.heap.size u w')
    (F : ∀ (wc : World), S wc → Q .normal ((((((((((((((((((((((((a0.put (some 30) (.int .i64 i)).put (some 31) (.bool true)).put (some 32) (.bool true)).put (some 33) (.slice (some ⟨g, off, none⟩) n cc)).put (some 34) (.int .i64 i)).put (some 35) (.int .i64 j)).put (some 36) (.pointer (some ⟨g, off + j * 2, none⟩))).put (some 37) (X)).put (some 38) (.slice (some ⟨g, off, none⟩) n cc)).put (some 39) (.int .i64 i)).put (some 40) (.pointer (some ⟨g, off + i * 2, none⟩))).put (some 41) (Y)).put (some 42) (.int .i64 (-1))).put (some 43) (.bool false)).put (some 44) (.bool false)).put (some 45) (.bool false)).put (some 46) (.slice (some ⟨g, off, none⟩) n cc)).put (some 47) (.int .i64 i)).put (some 48) (.pointer (some ⟨g, off + i * 2, none⟩))).put (some 49) (Y)).put (some 50) (.slice al nl cl)).put (some 51) (.bool true)).put (some 52) (.bool false)).put (some 53) (.bool false)) wc) :
    wpAnyH Tryz.prog .any ops Q S 24 (LR 24 []) a0 w5.drew := by
  have hall : ∀ p ∈ sreg9B_takes, Region.free .any ops (LR 24 p.1) p.2 = true ∧ (Region.ready .any ops (LR 24 p.1)).contains p.2 = true := by
    intro p hp
    have := List.all_eq_true.1 hq p hp
    simpa using this
  unfold sreg9B_takes at hall
  obtain ⟨og2, hog2, _, _, dog2⟩ := isOpG_out q2
  obtain ⟨og15, hog15, _, _, dog15⟩ := isOpG_out q15
  obtain ⟨o0, ho, hg, hop, hd⟩ := isOpG_out q0
  have hfr := hall ([], 0) (by simp)
  refine wpAnyH_take (listed := LR 24 []) (v := .int .i64 i) ho hs hfr.1 hfr.2 (hQ _ _) (Or.inl ⟨(wantedN hg), fun w' hS => run_move _ _ hop w' (by (repeat rw [eval_far _ _ (by decide)]); exact e4)⟩) hS0 ?_
  rw [hd, ← LR_snoc]
  clear ho hg hop hd hfr
  obtain ⟨o1, ho, hg, hop, hd⟩ := isOpG_out q1
  have hfr := hall ([0], 1) (by simp)
  refine wpAnyH_take (listed := LR 24 [0]) (v := .bool true) ho hs hfr.1 hfr.2 (hQ _ _) (Or.inl ⟨(wantedN hg), fun w' hS => run_binV _ _ hop w' (by (repeat (first | rw [eval_same _ _ (by (try simp only [put_size]); omega)] | rw [eval_far _ _ (by decide)]))) rfl (by first | rfl | go_simp) (hgt w')⟩) hS0 ?_
  rw [hd, ← LR_snoc]
  clear ho hg hop hd hfr
  obtain ⟨o2, ho, hg, hop, hd⟩ := isOpG_out q2
  have hfr := hall ([0, 1], 2) (by simp)
  refine wpAnyH_take (listed := LR 24 [0, 1]) (v := .bool true) ho hs hfr.1 hfr.2 (hQ _ _) (Or.inl ⟨(wantedN hg), fun w' hS => run_move _ _ hop w' (by (repeat (first | rw [eval_same _ _ (by (try simp only [put_size]); omega)] | rw [eval_far _ _ (by decide)])))⟩) hS0 ?_
  rw [hd, ← LR_snoc]
  clear ho hg hop hd hfr
  obtain ⟨o3, ho, hg, hop, hd⟩ := isOpG_out q3
  have hfr := hall ([0, 1, 2], 3) (by simp)
  refine wpAnyH_take (listed := LR 24 [0, 1, 2]) (v := .slice (some ⟨g, off, none⟩) n cc) ho hs hfr.1 hfr.2 (hQ _ _) (Or.inl ⟨((wantedB hog2 dog2 hg (by (repeat (first | rw [tmps_same _ _ (by (try simp only [put_size]); omega)] | rw [tmps_far _ _ (by decide)])))).trans (by decide)), fun w' hS => run_move _ _ hop w' (by (repeat rw [eval_far _ _ (by decide)]); exact e3)⟩) hS0 ?_
  rw [hd, ← LR_snoc]
  clear ho hg hop hd hfr
  obtain ⟨o4, ho, hg, hop, hd⟩ := isOpG_out q4
  have hfr := hall ([0, 1, 2, 3], 4) (by simp)
  refine wpAnyH_take (listed := LR 24 [0, 1, 2, 3]) (v := .int .i64 i) ho hs hfr.1 hfr.2 (hQ _ _) (Or.inl ⟨((wantedB hog2 dog2 hg (by (repeat (first | rw [tmps_same _ _ (by (try simp only [put_size]); omega)] | rw [tmps_far _ _ (by decide)])))).trans (by decide)), fun w' hS => run_move _ _ hop w' (by (repeat rw [eval_far _ _ (by decide)]); exact e4)⟩) hS0 ?_
  rw [hd, ← LR_snoc]
  clear ho hg hop hd hfr
  obtain ⟨o5, ho, hg, hop, hd⟩ := isOpG_out q5
  have hfr := hall ([0, 1, 2, 3, 4], 5) (by simp)
  refine wpAnyH_take (listed := LR 24 [0, 1, 2, 3, 4]) (v := .int .i64 j) ho hs hfr.1 hfr.2 (hQ _ _) (Or.inl ⟨((wantedB hog2 dog2 hg (by (repeat (first | rw [tmps_same _ _ (by (try simp only [put_size]); omega)] | rw [tmps_far _ _ (by decide)])))).trans (by decide)), fun w' hS => run_binV _ _ hop w' (by (repeat (first | rw [eval_same _ _ (by (try simp only [put_size]); omega)] | rw [eval_far _ _ (by decide)]))) rfl (by first | rfl | go_simp) (hsub w')⟩) hS0 ?_
  rw [hd, ← LR_snoc]
  clear ho hg hop hd hfr
  obtain ⟨o6, ho, hg, hop, hd⟩ := isOpG_out q6
  have hfr := hall ([0, 1, 2, 3, 4, 5], 6) (by simp)
  refine wpAnyH_take (listed := LR 24 [0, 1, 2, 3, 4, 5]) (v := .pointer (some ⟨g, off + j * 2, none⟩)) ho hs hfr.1 hfr.2 (hQ _ _) (Or.inl ⟨((wantedB hog2 dog2 hg (by (repeat (first | rw [tmps_same _ _ (by (try simp only [put_size]); omega)] | rw [tmps_far _ _ (by decide)])))).trans (by decide)), fun w' hS => run_idxF _ _ hop w' (by (repeat (first | rw [eval_same _ _ (by (try simp only [put_size]); omega)] | rw [eval_far _ _ (by decide)]))) (by (repeat (first | rw [eval_same _ _ (by (try simp only [put_size]); omega)] | rw [eval_far _ _ (by decide)]))) hjn⟩) hS0 ?_
  rw [hd, ← LR_snoc]
  clear ho hg hop hd hfr
  obtain ⟨o7, ho, hg, hop, hd⟩ := isOpG_out q7
  have hfr := hall ([0, 1, 2, 3, 4, 5, 6], 7) (by simp)
  refine wpAnyH_take (listed := LR 24 [0, 1, 2, 3, 4, 5, 6]) (v := X) ho hs hfr.1 hfr.2 (hQ _ _) (Or.inl ⟨((wantedB hog2 dog2 hg (by (repeat (first | rw [tmps_same _ _ (by (try simp only [put_size]); omega)] | rw [tmps_far _ _ (by decide)])))).trans (by decide)), fun w' hS => run_loadK _ _ hop w' (by (repeat (first | rw [eval_same _ _ (by (try simp only [put_size]); omega)] | rw [eval_far _ _ (by decide)]))) (LX _ hS)⟩) hS0 ?_
  rw [hd, ← LR_snoc]
  clear ho hg hop hd hfr
  obtain ⟨o8, ho, hg, hop, hd⟩ := isOpG_out q8
  have hfr := hall ([0, 1, 2, 3, 4, 5, 6, 7], 8) (by simp)
  refine wpAnyH_take (listed := LR 24 [0, 1, 2, 3, 4, 5, 6, 7]) (v := .slice (some ⟨g, off, none⟩) n cc) ho hs hfr.1 hfr.2 (hQ _ _) (Or.inl ⟨((wantedB hog2 dog2 hg (by (repeat (first | rw [tmps_same _ _ (by (try simp only [put_size]); omega)] | rw [tmps_far _ _ (by decide)])))).trans (by decide)), fun w' hS => run_move _ _ hop w' (by (repeat rw [eval_far _ _ (by decide)]); exact e3)⟩) hS0 ?_
  rw [hd, ← LR_snoc]
  clear ho hg hop hd hfr
  obtain ⟨o9, ho, hg, hop, hd⟩ := isOpG_out q9
  have hfr := hall ([0, 1, 2, 3, 4, 5, 6, 7, 8], 9) (by simp)
  refine wpAnyH_take (listed := LR 24 [0, 1, 2, 3, 4, 5, 6, 7, 8]) (v := .int .i64 i) ho hs hfr.1 hfr.2 (hQ _ _) (Or.inl ⟨((wantedB hog2 dog2 hg (by (repeat (first | rw [tmps_same _ _ (by (try simp only [put_size]); omega)] | rw [tmps_far _ _ (by decide)])))).trans (by decide)), fun w' hS => run_move _ _ hop w' (by (repeat rw [eval_far _ _ (by decide)]); exact e4)⟩) hS0 ?_
  rw [hd, ← LR_snoc]
  clear ho hg hop hd hfr
  obtain ⟨o10, ho, hg, hop, hd⟩ := isOpG_out q10
  have hfr := hall ([0, 1, 2, 3, 4, 5, 6, 7, 8, 9], 10) (by simp)
  refine wpAnyH_take (listed := LR 24 [0, 1, 2, 3, 4, 5, 6, 7, 8, 9]) (v := .pointer (some ⟨g, off + i * 2, none⟩)) ho hs hfr.1 hfr.2 (hQ _ _) (Or.inl ⟨((wantedB hog2 dog2 hg (by (repeat (first | rw [tmps_same _ _ (by (try simp only [put_size]); omega)] | rw [tmps_far _ _ (by decide)])))).trans (by decide)), fun w' hS => run_idxF _ _ hop w' (by (repeat (first | rw [eval_same _ _ (by (try simp only [put_size]); omega)] | rw [eval_far _ _ (by decide)]))) (by (repeat (first | rw [eval_same _ _ (by (try simp only [put_size]); omega)] | rw [eval_far _ _ (by decide)]))) hin⟩) hS0 ?_
  rw [hd, ← LR_snoc]
  clear ho hg hop hd hfr
  obtain ⟨o11, ho, hg, hop, hd⟩ := isOpG_out q11
  have hfr := hall ([0, 1, 2, 3, 4, 5, 6, 7, 8, 9, 10], 11) (by simp)
  refine wpAnyH_take (listed := LR 24 [0, 1, 2, 3, 4, 5, 6, 7, 8, 9, 10]) (v := Y) ho hs hfr.1 hfr.2 (hQ _ _) (Or.inl ⟨((wantedB hog2 dog2 hg (by (repeat (first | rw [tmps_same _ _ (by (try simp only [put_size]); omega)] | rw [tmps_far _ _ (by decide)])))).trans (by decide)), fun w' hS => run_loadK _ _ hop w' (by (repeat (first | rw [eval_same _ _ (by (try simp only [put_size]); omega)] | rw [eval_far _ _ (by decide)]))) (LY _ hS)⟩) hS0 ?_
  rw [hd, ← LR_snoc]
  clear ho hg hop hd hfr
  refine wpAnyH_all r12 (by simp) ?_
  intro i hi
  obtain rfl := List.mem_singleton.1 hi
  obtain ⟨o12, ho, hg, hop, hd⟩ := isOpG_out q12
  have x12_0 : (((((((((((((a0.put (some 30) (.int .i64 i)).put (some 31) (.bool true)).put (some 32) (.bool true)).put (some 33) (.slice (some ⟨g, off, none⟩) n cc)).put (some 34) (.int .i64 i)).put (some 35) (.int .i64 j)).put (some 36) (.pointer (some ⟨g, off + j * 2, none⟩))).put (some 37) (X)).put (some 38) (.slice (some ⟨g, off, none⟩) n cc)).put (some 39) (.int .i64 i)).put (some 40) (.pointer (some ⟨g, off + i * 2, none⟩))).put (some 41) (Y))).eval (.tmp 37) = X := (by (repeat (first | rw [eval_same _ _ (by (try simp only [put_size]); omega)] | rw [eval_far _ _ (by decide)])))
  have x12_1 : (((((((((((((a0.put (some 30) (.int .i64 i)).put (some 31) (.bool true)).put (some 32) (.bool true)).put (some 33) (.slice (some ⟨g, off, none⟩) n cc)).put (some 34) (.int .i64 i)).put (some 35) (.int .i64 j)).put (some 36) (.pointer (some ⟨g, off + j * 2, none⟩))).put (some 37) (X)).put (some 38) (.slice (some ⟨g, off, none⟩) n cc)).put (some 39) (.int .i64 i)).put (some 40) (.pointer (some ⟨g, off + i * 2, none⟩))).put (some 41) (Y))).eval (.tmp 41) = Y := (by (repeat (first | rw [eval_same _ _ (by (try simp only [put_size]); omega)] | rw [eval_far _ _ (by decide)])))
  refine wpOp_callG ho ((wantedB hog2 dog2 hg (by (repeat (first | rw [tmps_same _ _ (by (try simp only [put_size]); omega)] | rw [tmps_far _ _ (by decide)])))).trans (by decide)) (run_callV 8 Tryz.func8 (by kernel_rfl) (by kernel_rfl) #[.tmp 37, .tmp 41] _ hop #[X, Y] (by simp only [List.map_toArray, List.map_cons, List.map_nil, x12_0, x12_1])) ?_
  refine (KC _ hS0).mono ?_
  rintro e u1 ⟨rfl, b2⟩
  have hS12 := keep _ _ hS0 b2
  refine ⟨_, rfl, hS12, ?_⟩
  rw [hd]
  clear ho hg hop hd
  rw [← LR_snoc]
  obtain ⟨o13, ho, hg, hop, hd⟩ := isOpG_out q13
  have hfr := hall ([0, 1, 2, 3, 4, 5, 6, 7, 8, 9, 10, 11, 12], 13) (by simp)
  refine wpAnyH_take (listed := LR 24 [0, 1, 2, 3, 4, 5, 6, 7, 8, 9, 10, 11, 12]) (v := .bool false) ho hs hfr.1 hfr.2 (hQ _ _) (Or.inl ⟨((wantedB hog2 dog2 hg (by (repeat (first | rw [tmps_same _ _ (by (try simp only [put_size]); omega)] | rw [tmps_far _ _ (by decide)])))).trans (by decide)), fun w' hS => run_binV _ _ hop w' (by (repeat (first | rw [eval_same _ _ (by (try simp only [put_size]); omega)] | rw [eval_far _ _ (by decide)]))) rfl (by first | rfl | go_simp) (ne_m1 w')⟩) hS12 ?_
  rw [hd, ← LR_snoc]
  clear ho hg hop hd hfr
  obtain ⟨o14, ho, hg, hop, hd⟩ := isOpG_out q14
  have hfr := hall ([0, 1, 2, 3, 4, 5, 6, 7, 8, 9, 10, 11, 12, 13], 14) (by simp)
  refine wpAnyH_take (listed := LR 24 [0, 1, 2, 3, 4, 5, 6, 7, 8, 9, 10, 11, 12, 13]) (v := .bool false) ho hs hfr.1 hfr.2 (hQ _ _) (Or.inl ⟨(wantedN hg), fun w' hS => run_pickT _ _ hop w' (by (repeat (first | rw [eval_same _ _ (by (try simp only [put_size]); omega)] | rw [eval_far _ _ (by decide)]))) (by (repeat (first | rw [eval_same _ _ (by (try simp only [put_size]); omega)] | rw [eval_far _ _ (by decide)])))⟩) hS12 ?_
  rw [hd, ← LR_snoc]
  clear ho hg hop hd hfr
  obtain ⟨o15, ho, hg, hop, hd⟩ := isOpG_out q15
  have hfr := hall ([0, 1, 2, 3, 4, 5, 6, 7, 8, 9, 10, 11, 12, 13, 14], 15) (by simp)
  refine wpAnyH_take (listed := LR 24 [0, 1, 2, 3, 4, 5, 6, 7, 8, 9, 10, 11, 12, 13, 14]) (v := .bool false) ho hs hfr.1 hfr.2 (hQ _ _) (Or.inl ⟨(wantedN hg), fun w' hS => run_move _ _ hop w' (by (repeat (first | rw [eval_same _ _ (by (try simp only [put_size]); omega)] | rw [eval_far _ _ (by decide)])))⟩) hS12 ?_
  rw [hd, ← LR_snoc]
  clear ho hg hop hd hfr
  obtain ⟨o16, ho, hg, hop, hd⟩ := isOpG_out q16
  have hfr := hall ([0, 1, 2, 3, 4, 5, 6, 7, 8, 9, 10, 11, 12, 13, 14, 15], 16) (by simp)
  refine wpAnyH_take (listed := LR 24 [0, 1, 2, 3, 4, 5, 6, 7, 8, 9, 10, 11, 12, 13, 14, 15]) (v := .slice (some ⟨g, off, none⟩) n cc) ho hs hfr.1 hfr.2 (hQ _ _) (Or.inl ⟨((wantedB hog15 dog15 hg (by (repeat (first | rw [tmps_same _ _ (by (try simp only [put_size]); omega)] | rw [tmps_far _ _ (by decide)])))).trans (by decide)), fun w' hS => run_move _ _ hop w' (by (repeat rw [eval_far _ _ (by decide)]); exact e3)⟩) hS12 ?_
  rw [hd, ← LR_snoc]
  clear ho hg hop hd hfr
  obtain ⟨o17, ho, hg, hop, hd⟩ := isOpG_out q17
  have hfr := hall ([0, 1, 2, 3, 4, 5, 6, 7, 8, 9, 10, 11, 12, 13, 14, 15, 16], 17) (by simp)
  refine wpAnyH_take (listed := LR 24 [0, 1, 2, 3, 4, 5, 6, 7, 8, 9, 10, 11, 12, 13, 14, 15, 16]) (v := .int .i64 i) ho hs hfr.1 hfr.2 (hQ _ _) (Or.inl ⟨((wantedB hog15 dog15 hg (by (repeat (first | rw [tmps_same _ _ (by (try simp only [put_size]); omega)] | rw [tmps_far _ _ (by decide)])))).trans (by decide)), fun w' hS => run_move _ _ hop w' (by (repeat rw [eval_far _ _ (by decide)]); exact e4)⟩) hS12 ?_
  rw [hd, ← LR_snoc]
  clear ho hg hop hd hfr
  obtain ⟨o18, ho, hg, hop, hd⟩ := isOpG_out q18
  have hfr := hall ([0, 1, 2, 3, 4, 5, 6, 7, 8, 9, 10, 11, 12, 13, 14, 15, 16, 17], 18) (by simp)
  refine wpAnyH_take (listed := LR 24 [0, 1, 2, 3, 4, 5, 6, 7, 8, 9, 10, 11, 12, 13, 14, 15, 16, 17]) (v := .pointer (some ⟨g, off + i * 2, none⟩)) ho hs hfr.1 hfr.2 (hQ _ _) (Or.inl ⟨((wantedB hog15 dog15 hg (by (repeat (first | rw [tmps_same _ _ (by (try simp only [put_size]); omega)] | rw [tmps_far _ _ (by decide)])))).trans (by decide)), fun w' hS => run_idxF _ _ hop w' (by (repeat (first | rw [eval_same _ _ (by (try simp only [put_size]); omega)] | rw [eval_far _ _ (by decide)]))) (by (repeat (first | rw [eval_same _ _ (by (try simp only [put_size]); omega)] | rw [eval_far _ _ (by decide)]))) hin⟩) hS12 ?_
  rw [hd, ← LR_snoc]
  clear ho hg hop hd hfr
  obtain ⟨o19, ho, hg, hop, hd⟩ := isOpG_out q19
  have hfr := hall ([0, 1, 2, 3, 4, 5, 6, 7, 8, 9, 10, 11, 12, 13, 14, 15, 16, 17, 18], 19) (by simp)
  refine wpAnyH_take (listed := LR 24 [0, 1, 2, 3, 4, 5, 6, 7, 8, 9, 10, 11, 12, 13, 14, 15, 16, 17, 18]) (v := Y) ho hs hfr.1 hfr.2 (hQ _ _) (Or.inl ⟨((wantedB hog15 dog15 hg (by (repeat (first | rw [tmps_same _ _ (by (try simp only [put_size]); omega)] | rw [tmps_far _ _ (by decide)])))).trans (by decide)), fun w' hS => run_loadK _ _ hop w' (by (repeat (first | rw [eval_same _ _ (by (try simp only [put_size]); omega)] | rw [eval_far _ _ (by decide)]))) (LY _ hS)⟩) hS12 ?_
  rw [hd, ← LR_snoc]
  clear ho hg hop hd hfr
  obtain ⟨o20, ho, hg, hop, hd⟩ := isOpG_out q20
  have hfr := hall ([0, 1, 2, 3, 4, 5, 6, 7, 8, 9, 10, 11, 12, 13, 14, 15, 16, 17, 18, 19], 20) (by simp)
  refine wpAnyH_take (listed := LR 24 [0, 1, 2, 3, 4, 5, 6, 7, 8, 9, 10, 11, 12, 13, 14, 15, 16, 17, 18, 19]) (v := .slice al nl cl) ho hs hfr.1 hfr.2 (hQ _ _) (Or.inl ⟨((wantedB hog15 dog15 hg (by (repeat (first | rw [tmps_same _ _ (by (try simp only [put_size]); omega)] | rw [tmps_far _ _ (by decide)])))).trans (by decide)), fun w' hS => run_move _ _ hop w' (by (repeat rw [eval_far _ _ (by decide)]); exact e0)⟩) hS12 ?_
  rw [hd, ← LR_snoc]
  clear ho hg hop hd hfr
  refine wpAnyH_all r21 (by simp) ?_
  intro i hi
  obtain rfl := List.mem_singleton.1 hi
  obtain ⟨o21, ho, hg, hop, hd⟩ := isOpG_out q21
  have x21_0 : ((((((((((((((((((((((a0.put (some 30) (.int .i64 i)).put (some 31) (.bool true)).put (some 32) (.bool true)).put (some 33) (.slice (some ⟨g, off, none⟩) n cc)).put (some 34) (.int .i64 i)).put (some 35) (.int .i64 j)).put (some 36) (.pointer (some ⟨g, off + j * 2, none⟩))).put (some 37) (X)).put (some 38) (.slice (some ⟨g, off, none⟩) n cc)).put (some 39) (.int .i64 i)).put (some 40) (.pointer (some ⟨g, off + i * 2, none⟩))).put (some 41) (Y)).put (some 42) (.int .i64 (-1))).put (some 43) (.bool false)).put (some 44) (.bool false)).put (some 45) (.bool false)).put (some 46) (.slice (some ⟨g, off, none⟩) n cc)).put (some 47) (.int .i64 i)).put (some 48) (.pointer (some ⟨g, off + i * 2, none⟩))).put (some 49) (Y)).put (some 50) (.slice al nl cl))).eval (.tmp 49) = Y := (by (repeat (first | rw [eval_same _ _ (by (try simp only [put_size]); omega)] | rw [eval_far _ _ (by decide)])))
  have x21_1 : ((((((((((((((((((((((a0.put (some 30) (.int .i64 i)).put (some 31) (.bool true)).put (some 32) (.bool true)).put (some 33) (.slice (some ⟨g, off, none⟩) n cc)).put (some 34) (.int .i64 i)).put (some 35) (.int .i64 j)).put (some 36) (.pointer (some ⟨g, off + j * 2, none⟩))).put (some 37) (X)).put (some 38) (.slice (some ⟨g, off, none⟩) n cc)).put (some 39) (.int .i64 i)).put (some 40) (.pointer (some ⟨g, off + i * 2, none⟩))).put (some 41) (Y)).put (some 42) (.int .i64 (-1))).put (some 43) (.bool false)).put (some 44) (.bool false)).put (some 45) (.bool false)).put (some 46) (.slice (some ⟨g, off, none⟩) n cc)).put (some 47) (.int .i64 i)).put (some 48) (.pointer (some ⟨g, off + i * 2, none⟩))).put (some 49) (Y)).put (some 50) (.slice al nl cl))).eval (.tmp 50) = .slice al nl cl := (by (repeat (first | rw [eval_same _ _ (by (try simp only [put_size]); omega)] | rw [eval_far _ _ (by decide)])))
  refine wpOp_callG ho ((wantedB hog15 dog15 hg (by (repeat (first | rw [tmps_same _ _ (by (try simp only [put_size]); omega)] | rw [tmps_far _ _ (by decide)])))).trans (by decide)) (run_callV 9 Tryz.func9 (by kernel_rfl) (by kernel_rfl) #[.tmp 49, .tmp 50] _ hop #[Y, .slice al nl cl] (by simp only [List.map_toArray, List.map_cons, List.map_nil, x21_0, x21_1])) ?_
  refine (KI _ hS12).mono ?_
  rintro e u2 ⟨rfl, b1⟩
  have hS21 := keep _ _ hS12 b1
  refine ⟨_, rfl, hS21, ?_⟩
  rw [hd]
  clear ho hg hop hd
  rw [← LR_snoc]
  obtain ⟨o22, ho, hg, hop, hd⟩ := isOpG_out q22
  have hfr := hall ([0, 1, 2, 3, 4, 5, 6, 7, 8, 9, 10, 11, 12, 13, 14, 15, 16, 17, 18, 19, 20, 21], 22) (by simp)
  refine wpAnyH_take (listed := LR 24 [0, 1, 2, 3, 4, 5, 6, 7, 8, 9, 10, 11, 12, 13, 14, 15, 16, 17, 18, 19, 20, 21]) (v := .bool false) ho hs hfr.1 hfr.2 (hQ _ _) (Or.inl ⟨((wantedB hog15 dog15 hg (by (repeat (first | rw [tmps_same _ _ (by (try simp only [put_size]); omega)] | rw [tmps_far _ _ (by decide)])))).trans (by decide)), fun w' hS => run_notV (b := true) _ _ hop w' (by (repeat (first | rw [eval_same _ _ (by (try simp only [put_size]); omega)] | rw [eval_far _ _ (by decide)])))⟩) hS21 ?_
  rw [hd, ← LR_snoc]
  clear ho hg hop hd hfr
  obtain ⟨o23, ho, hg, hop, hd⟩ := isOpG_out q23
  have hfr := hall ([0, 1, 2, 3, 4, 5, 6, 7, 8, 9, 10, 11, 12, 13, 14, 15, 16, 17, 18, 19, 20, 21, 22], 23) (by simp)
  refine wpAnyH_take (listed := LR 24 [0, 1, 2, 3, 4, 5, 6, 7, 8, 9, 10, 11, 12, 13, 14, 15, 16, 17, 18, 19, 20, 21, 22]) (v := .bool false) ho hs hfr.1 hfr.2 (hQ _ _) (Or.inl ⟨(wantedN hg), fun w' hS => run_pickF _ _ hop w' (by (repeat (first | rw [eval_same _ _ (by (try simp only [put_size]); omega)] | rw [eval_far _ _ (by decide)]))) (by (repeat (first | rw [eval_same _ _ (by (try simp only [put_size]); omega)] | rw [eval_far _ _ (by decide)])))⟩) hS21 ?_
  rw [hd, ← LR_snoc]
  clear ho hg hop hd hfr
  exact wpAnyH_done rend (F _ hS21) _
def sreg30_takes : List (List Nat × Nat) := [([], 0), ([0], 1), ([0, 1], 2), ([0, 1, 2], 3), ([0, 1, 2, 3], 4), ([0, 1, 2, 3, 4], 5), ([0, 1, 2, 3, 4, 5], 6), ([0, 1, 2, 3, 4, 5, 6], 7), ([0, 1, 2, 3, 4, 5, 6, 7], 8), ([0, 1, 2, 3, 4, 5, 6, 7, 8], 9), ([0, 1, 2, 3, 4, 5, 6, 7, 8, 9], 10), ([0, 1, 2, 3, 4, 5, 6, 7, 8, 9, 10], 11), ([0, 1, 2, 3, 4, 5, 6, 7, 8, 9, 10, 11], 12), ([0, 1, 2, 3, 4, 5, 6, 7, 8, 9, 10, 11, 12], 13), ([0, 1, 2, 3, 4, 5, 6, 7, 8, 9, 10, 11, 12, 13], 14), ([0, 1, 2, 3, 4, 5, 6, 7, 8, 9, 10, 11, 12, 13, 14], 15), ([0, 1, 2, 3, 4, 5, 6, 7, 8, 9, 10, 11, 12, 13, 14, 15, 16], 17), ([0, 1, 2, 3, 4, 5, 6, 7, 8, 9, 10, 11, 12, 13, 14, 15, 16, 17], 18)]
set_option maxHeartbeats 3200000 in
theorem sreg30 {ops : Array Oper} {Q : Exit → Act → World → Prop} {S : World → Prop} {a0 : Act} {w5 : World} {g off n cc h off2 m cm i : Nat} {X Y : Value} {ty1 : Array TypeId}
    (q0 : isOpG ops 0 none (.move (.tmp 9)) (some 125))
    (q1 : isOpG ops 1 none (.move (.tmp 11)) (some 126))
    (q2 : isOpG ops 2 none (.indexAddr 22 (.tmp 125) (.tmp 126)) (some 127))
    (q3 : isOpG ops 3 none (.fieldAddr 29 (.tmp 127) 0) (some 128))
    (q4 : isOpG ops 4 none (.load 9 (.tmp 128)) (some 129))
    (q5 : isOpG ops 5 none (.binOp .neq 9 (.tmp 129) (.const (.string ⟨#[112]⟩)) 9) (some 130))
    (q6 : isOpG ops 6 none (.move (.tmp 130)) (some 131))
    (q7 : isOpG ops 7 (some (6, false)) (.move (.tmp 9)) (some 132))
    (q8 : isOpG ops 8 (some (6, false)) (.move (.tmp 11)) (some 133))
    (q9 : isOpG ops 9 (some (6, false)) (.indexAddr 22 (.tmp 132) (.tmp 133)) (some 134))
    (q10 : isOpG ops 10 (some (6, false)) (.fieldAddr 29 (.tmp 134) 1) (some 135))
    (q11 : isOpG ops 11 (some (6, false)) (.load 27 (.tmp 135)) (some 136))
    (q12 : isOpG ops 12 (some (6, false)) (.move (.tmp 10)) (some 137))
    (q13 : isOpG ops 13 (some (6, false)) (.move (.tmp 11)) (some 138))
    (q14 : isOpG ops 14 (some (6, false)) (.indexAddr 31 (.tmp 137) (.tmp 138)) (some 139))
    (q15 : isOpG ops 15 (some (6, false)) (.load 27 (.tmp 139)) (some 140))
    (q16 : isOpG ops 16 (some (6, false)) (.call { callee := .value (.func 13), args := #[.tmp 136, .tmp 140], argTypes := ty1 }) (some 141))
    (q17 : isOpG ops 17 (some (6, false)) (.unOp .not 4 (.tmp 141)) (some 142))
    (q18 : isOpG ops 18 none (.pick (.tmp 131) (.const (.bool true)) (.tmp 142)) (some 143))
    (hs : Region.noSelect ops = true) (hq : (sreg30_takes.all fun p => Region.free .any ops (LR 19 p.1) p.2 && (Region.ready .any ops (LR 19 p.1)).contains p.2) = true)
    (r16 : Region.ready .any ops (LR 19 [0, 1, 2, 3, 4, 5, 6, 7, 8, 9, 10, 11, 12, 13, 14, 15]) = [16])
    (rend : Region.ready .any ops (LR 19 [0, 1, 2, 3, 4, 5, 6, 7, 8, 9, 10, 11, 12, 13, 14, 15, 16, 17, 18]) = [])
    (hQ : ∀ (d : Option Tmp) (v : Value) c a w, Q (.panic c) (a.put d v) w → Q (.panic c) a w)
    (hsz : 143 < a0.tmps.size) (e9 : a0.eval (.tmp 9) = .slice (some ⟨g, off, none⟩) n cc) (e10 : a0.eval (.tmp 10) = .slice (some ⟨h, off2, none⟩) m cm) (e11 : a0.eval (.tmp 11) = .int .i64 i)
    (hS0 : S w5.drew)
    (keep : ∀ u u', S u → Below u.heap.size u u' → S u') (hin : i < n) (him : i < m) (LP : ∀ u, S u → (loadVar 9 ⟨g, off + i * 2, none⟩).run Tryz.prog u = .ok (.string ⟨#[112]⟩) u)
    (LX : ∀ u, S u → (loadVar 27 ⟨g, off + i * 2 + 1, none⟩).run Tryz.prog u = .ok X u) (LY : ∀ u, S u → (loadVar 27 ⟨h, off2 + i, none⟩).run Tryz.prog u = .ok Y u)
    (KS : ∀ u, S u → Calls Tryz.prog 13 #[X, Y] u fun e w' => e = .returned (.bool true) ∧ Below u.heap.size u w')
    (F : ∀ (wc : World), S wc → Q .normal (((((((((((((((((((a0.put (some 125) (.slice (some ⟨g, off, none⟩) n cc)).put (some 126) (.int .i64 i)).put (some 127) (.pointer (some ⟨g, off + i * 2, none⟩))).put (some 128) (.pointer (some ⟨g, off + i * 2, none⟩))).put (some 129) (.string ⟨#[112]⟩)).put (some 130) (.bool false)).put (some 131) (.bool false)).put (some 132) (.slice (some ⟨g, off, none⟩) n cc)).put (some 133) (.int .i64 i)).put (some 134) (.pointer (some ⟨g, off + i * 2, none⟩))).put (some 135) (.pointer (some ⟨g, off + i * 2 + 1, none⟩))).put (some 136) (X)).put (some 137) (.slice (some ⟨h, off2, none⟩) m cm)).put (some 138) (.int .i64 i)).put (some 139) (.pointer (some ⟨h, off2 + i, none⟩))).put (some 140) (Y)).put (some 141) (.bool true)).put (some 142) (.bool false)).put (some 143) (.bool false)) wc) :
    wpAnyH Tryz.prog .any ops Q S 19 (LR 19 []) a0 w5.drew := by
  have hall : ∀ p ∈ sreg30_takes, Region.free .any ops (LR 19 p.1) p.2 = true ∧ (Region.ready .any ops (LR 19 p.1)).contains p.2 = true := by
    intro p hp
    have := List.all_eq_true.1 hq p hp
    simpa using this
  unfold sreg30_takes at hall
  obtain ⟨og6, hog6, _, _, dog6⟩ := isOpG_out q6
  obtain ⟨o0, ho, hg, hop, hd⟩ := isOpG_out q0
  have hfr := hall ([], 0) (by simp)
  refine wpAnyH_take (listed := LR 19 []) (v := .slice (some ⟨g, off, none⟩) n cc) ho hs hfr.1 hfr.2 (hQ _ _) (Or.inl ⟨(wantedN hg), fun w' hS => run_move _ _ hop w' (by (repeat rw [eval_far _ _ (by decide)]); exact e9)⟩) hS0 ?_
  rw [hd, ← LR_snoc]
  clear ho hg hop hd hfr
  obtain ⟨o1, ho, hg, hop, hd⟩ := isOpG_out q1
  have hfr := hall ([0], 1) (by simp)
  refine wpAnyH_take (listed := LR 19 [0]) (v := .int .i64 i) ho hs hfr.1 hfr.2 (hQ _ _) (Or.inl ⟨(wantedN hg), fun w' hS => run_move _ _ hop w' (by (repeat rw [eval_far _ _ (by decide)]); exact e11)⟩) hS0 ?_
  rw [hd, ← LR_snoc]
  clear ho hg hop hd hfr
  obtain ⟨o2, ho, hg, hop, hd⟩ := isOpG_out q2
  have hfr := hall ([0, 1], 2) (by simp)
  refine wpAnyH_take (listed := LR 19 [0, 1]) (v := .pointer (some ⟨g, off + i * 2, none⟩)) ho hs hfr.1 hfr.2 (hQ _ _) (Or.inl ⟨(wantedN hg), fun w' hS => run_idxF _ _ hop w' (by (repeat (first | rw [eval_same _ _ (by (try simp only [put_size]); omega)] | rw [eval_far _ _ (by decide)]))) (by (repeat (first | rw [eval_same _ _ (by (try simp only [put_size]); omega)] | rw [eval_far _ _ (by decide)]))) hin⟩) hS0 ?_
  rw [hd, ← LR_snoc]
  clear ho hg hop hd hfr
  obtain ⟨o3, ho, hg, hop, hd⟩ := isOpG_out q3
  have hfr := hall ([0, 1, 2], 3) (by simp)
  refine wpAnyH_take (listed := LR 19 [0, 1, 2]) (v := .pointer (some ⟨g, off + i * 2, none⟩)) ho hs hfr.1 hfr.2 (hQ _ _) (Or.inl ⟨(wantedN hg), fun w' hS => run_fld0 _ _ hop w' (by (repeat (first | rw [eval_same _ _ (by (try simp only [put_size]); omega)] | rw [eval_far _ _ (by decide)])))⟩) hS0 ?_
  rw [hd, ← LR_snoc]
  clear ho hg hop hd hfr
  obtain ⟨o4, ho, hg, hop, hd⟩ := isOpG_out q4
  have hfr := hall ([0, 1, 2, 3], 4) (by simp)
  refine wpAnyH_take (listed := LR 19 [0, 1, 2, 3]) (v := .string ⟨#[112]⟩) ho hs hfr.1 hfr.2 (hQ _ _) (Or.inl ⟨(wantedN hg), fun w' hS => run_loadK _ _ hop w' (by (repeat (first | rw [eval_same _ _ (by (try simp only [put_size]); omega)] | rw [eval_far _ _ (by decide)]))) (LP _ hS)⟩) hS0 ?_
  rw [hd, ← LR_snoc]
  clear ho hg hop hd hfr
  obtain ⟨o5, ho, hg, hop, hd⟩ := isOpG_out q5
  have hfr := hall ([0, 1, 2, 3, 4], 5) (by simp)
  refine wpAnyH_take (listed := LR 19 [0, 1, 2, 3, 4]) (v := .bool false) ho hs hfr.1 hfr.2 (hQ _ _) (Or.inl ⟨(wantedN hg), fun w' hS => run_binV _ _ hop w' (by (repeat (first | rw [eval_same _ _ (by (try simp only [put_size]); omega)] | rw [eval_far _ _ (by decide)]))) rfl (by first | rfl | go_simp) (ne_p w')⟩) hS0 ?_
  rw [hd, ← LR_snoc]
  clear ho hg hop hd hfr
  obtain ⟨o6, ho, hg, hop, hd⟩ := isOpG_out q6
  have hfr := hall ([0, 1, 2, 3, 4, 5], 6) (by simp)
  refine wpAnyH_take (listed := LR 19 [0, 1, 2, 3, 4, 5]) (v := .bool false) ho hs hfr.1 hfr.2 (hQ _ _) (Or.inl ⟨(wantedN hg), fun w' hS => run_move _ _ hop w' (by (repeat (first | rw [eval_same _ _ (by (try simp only [put_size]); omega)] | rw [eval_far _ _ (by decide)])))⟩) hS0 ?_
  rw [hd, ← LR_snoc]
  clear ho hg hop hd hfr
  obtain ⟨o7, ho, hg, hop, hd⟩ := isOpG_out q7
  have hfr := hall ([0, 1, 2, 3, 4, 5, 6], 7) (by simp)
  refine wpAnyH_take (listed := LR 19 [0, 1, 2, 3, 4, 5, 6]) (v := .slice (some ⟨g, off, none⟩) n cc) ho hs hfr.1 hfr.2 (hQ _ _) (Or.inl ⟨((wantedB hog6 dog6 hg (by (repeat (first | rw [tmps_same _ _ (by (try simp only [put_size]); omega)] | rw [tmps_far _ _ (by decide)])))).trans (by decide)), fun w' hS => run_move _ _ hop w' (by (repeat rw [eval_far _ _ (by decide)]); exact e9)⟩) hS0 ?_
  rw [hd, ← LR_snoc]
  clear ho hg hop hd hfr
  obtain ⟨o8, ho, hg, hop, hd⟩ := isOpG_out q8
  have hfr := hall ([0, 1, 2, 3, 4, 5, 6, 7], 8) (by simp)
  refine wpAnyH_take (listed := LR 19 [0, 1, 2, 3, 4, 5, 6, 7]) (v := .int .i64 i) ho hs hfr.1 hfr.2 (hQ _ _) (Or.inl ⟨((wantedB hog6 dog6 hg (by (repeat (first | rw [tmps_same _ _ (by (try simp only [put_size]); omega)] | rw [tmps_far _ _ (by decide)])))).trans (by decide)), fun w' hS => run_move _ _ hop w' (by (repeat rw [eval_far _ _ (by decide)]); exact e11)⟩) hS0 ?_
  rw [hd, ← LR_snoc]
  clear ho hg hop hd hfr
  obtain ⟨o9, ho, hg, hop, hd⟩ := isOpG_out q9
  have hfr := hall ([0, 1, 2, 3, 4, 5, 6, 7, 8], 9) (by simp)
  refine wpAnyH_take (listed := LR 19 [0, 1, 2, 3, 4, 5, 6, 7, 8]) (v := .pointer (some ⟨g, off + i * 2, none⟩)) ho hs hfr.1 hfr.2 (hQ _ _) (Or.inl ⟨((wantedB hog6 dog6 hg (by (repeat (first | rw [tmps_same _ _ (by (try simp only [put_size]); omega)] | rw [tmps_far _ _ (by decide)])))).trans (by decide)), fun w' hS => run_idxF _ _ hop w' (by (repeat (first | rw [eval_same _ _ (by (try simp only [put_size]); omega)] | rw [eval_far _ _ (by decide)]))) (by (repeat (first | rw [eval_same _ _ (by (try simp only [put_size]); omega)] | rw [eval_far _ _ (by decide)]))) hin⟩) hS0 ?_
  rw [hd, ← LR_snoc]
  clear ho hg hop hd hfr
  obtain ⟨o10, ho, hg, hop, hd⟩ := isOpG_out q10
  have hfr := hall ([0, 1, 2, 3, 4, 5, 6, 7, 8, 9], 10) (by simp)
  refine wpAnyH_take (listed := LR 19 [0, 1, 2, 3, 4, 5, 6, 7, 8, 9]) (v := .pointer (some ⟨g, off + i * 2 + 1, none⟩)) ho hs hfr.1 hfr.2 (hQ _ _) (Or.inl ⟨((wantedB hog6 dog6 hg (by (repeat (first | rw [tmps_same _ _ (by (try simp only [put_size]); omega)] | rw [tmps_far _ _ (by decide)])))).trans (by decide)), fun w' hS => run_fld1 _ _ hop w' (by (repeat (first | rw [eval_same _ _ (by (try simp only [put_size]); omega)] | rw [eval_far _ _ (by decide)])))⟩) hS0 ?_
  rw [hd, ← LR_snoc]
  clear ho hg hop hd hfr
  obtain ⟨o11, ho, hg, hop, hd⟩ := isOpG_out q11
  have hfr := hall ([0, 1, 2, 3, 4, 5, 6, 7, 8, 9, 10], 11) (by simp)
  refine wpAnyH_take (listed := LR 19 [0, 1, 2, 3, 4, 5, 6, 7, 8, 9, 10]) (v := X) ho hs hfr.1 hfr.2 (hQ _ _) (Or.inl ⟨((wantedB hog6 dog6 hg (by (repeat (first | rw [tmps_same _ _ (by (try simp only [put_size]); omega)] | rw [tmps_far _ _ (by decide)])))).trans (by decide)), fun w' hS => run_loadK _ _ hop w' (by (repeat (first | rw [eval_same _ _ (by (try simp only [put_size]); omega)] | rw [eval_far _ _ (by decide)]))) (LX _ hS)⟩) hS0 ?_
  rw [hd, ← LR_snoc]
  clear ho hg hop hd hfr
  obtain ⟨o12, ho, hg, hop, hd⟩ := isOpG_out q12
  have hfr := hall ([0, 1, 2, 3, 4, 5, 6, 7, 8, 9, 10, 11], 12) (by simp)
  refine wpAnyH_take (listed := LR 19 [0, 1, 2, 3, 4, 5, 6, 7, 8, 9, 10, 11]) (v := .slice (some ⟨h, off2, none⟩) m cm) ho hs hfr.1 hfr.2 (hQ _ _) (Or.inl ⟨((wantedB hog6 dog6 hg (by (repeat (first | rw [tmps_same _ _ (by (try simp only [put_size]); omega)] | rw [tmps_far _ _ (by decide)])))).trans (by decide)), fun w' hS => run_move _ _ hop w' (by (repeat rw [eval_far _ _ (by decide)]); exact e10)⟩) hS0 ?_
  rw [hd, ← LR_snoc]
  clear ho hg hop hd hfr
  obtain ⟨o13, ho, hg, hop, hd⟩ := isOpG_out q13
  have hfr := hall ([0, 1, 2, 3, 4, 5, 6, 7, 8, 9, 10, 11, 12], 13) (by simp)
  refine wpAnyH_take (listed := LR 19 [0, 1, 2, 3, 4, 5, 6, 7, 8, 9, 10, 11, 12]) (v := .int .i64 i) ho hs hfr.1 hfr.2 (hQ _ _) (Or.inl ⟨((wantedB hog6 dog6 hg (by (repeat (first | rw [tmps_same _ _ (by (try simp only [put_size]); omega)] | rw [tmps_far _ _ (by decide)])))).trans (by decide)), fun w' hS => run_move _ _ hop w' (by (repeat rw [eval_far _ _ (by decide)]); exact e11)⟩) hS0 ?_
  rw [hd, ← LR_snoc]
  clear ho hg hop hd hfr
  obtain ⟨o14, ho, hg, hop, hd⟩ := isOpG_out q14
  have hfr := hall ([0, 1, 2, 3, 4, 5, 6, 7, 8, 9, 10, 11, 12, 13], 14) (by simp)
  refine wpAnyH_take (listed := LR 19 [0, 1, 2, 3, 4, 5, 6, 7, 8, 9, 10, 11, 12, 13]) (v := .pointer (some ⟨h, off2 + i, none⟩)) ho hs hfr.1 hfr.2 (hQ _ _) (Or.inl ⟨((wantedB hog6 dog6 hg (by (repeat (first | rw [tmps_same _ _ (by (try simp only [put_size]); omega)] | rw [tmps_far _ _ (by decide)])))).trans (by decide)), fun w' hS => run_idxT _ _ hop w' (by (repeat (first | rw [eval_same _ _ (by (try simp only [put_size]); omega)] | rw [eval_far _ _ (by decide)]))) (by (repeat (first | rw [eval_same _ _ (by (try simp only [put_size]); omega)] | rw [eval_far _ _ (by decide)]))) him⟩) hS0 ?_
  rw [hd, ← LR_snoc]
  clear ho hg hop hd hfr
  obtain ⟨o15, ho, hg, hop, hd⟩ := isOpG_out q15
  have hfr := hall ([0, 1, 2, 3, 4, 5, 6, 7, 8, 9, 10, 11, 12, 13, 14], 15) (by simp)
  refine wpAnyH_take (listed := LR 19 [0, 1, 2, 3, 4, 5, 6, 7, 8, 9, 10, 11, 12, 13, 14]) (v := Y) ho hs hfr.1 hfr.2 (hQ _ _) (Or.inl ⟨((wantedB hog6 dog6 hg (by (repeat (first | rw [tmps_same _ _ (by (try simp only [put_size]); omega)] | rw [tmps_far _ _ (by decide)])))).trans (by decide)), fun w' hS => run_loadK _ _ hop w' (by (repeat (first | rw [eval_same _ _ (by (try simp only [put_size]); omega)] | rw [eval_far _ _ (by decide)]))) (LY _ hS)⟩) hS0 ?_
  rw [hd, ← LR_snoc]
  clear ho hg hop hd hfr
  refine wpAnyH_all r16 (by simp) ?_
  intro i hi
  obtain rfl := List.mem_singleton.1 hi
  obtain ⟨o16, ho, hg, hop, hd⟩ := isOpG_out q16
  have x16_0 : (((((((((((((((((a0.put (some 125) (.slice (some ⟨g, off, none⟩) n cc)).put (some 126) (.int .i64 i)).put (some 127) (.pointer (some ⟨g, off + i * 2, none⟩))).put (some 128) (.pointer (some ⟨g, off + i * 2, none⟩))).put (some 129) (.string ⟨#[112]⟩)).put (some 130) (.bool false)).put (some 131) (.bool false)).put (some 132) (.slice (some ⟨g, off, none⟩) n cc)).put (some 133) (.int .i64 i)).put (some 134) (.pointer (some ⟨g, off + i * 2, none⟩))).put (some 135) (.pointer (some ⟨g, off + i * 2 + 1, none⟩))).put (some 136) (X)).put (some 137) (.slice (some ⟨h, off2, none⟩) m cm)).put (some 138) (.int .i64 i)).put (some 139) (.pointer (some ⟨h, off2 + i, none⟩))).put (some 140) (Y))).eval (.tmp 136) = X := (by (repeat (first | rw [eval_same _ _ (by (try simp only [put_size]); omega)] | rw [eval_far _ _ (by decide)])))
  have x16_1 : (((((((((((((((((a0.put (some 125) (.slice (some ⟨g, off, none⟩) n cc)).put (some 126) (.int .i64 i)).put (some 127) (.pointer (some ⟨g, off + i * 2, none⟩))).put (some 128) (.pointer (some ⟨g, off + i * 2, none⟩))).put (some 129) (.string ⟨#[112]⟩)).put (some 130) (.bool false)).put (some 131) (.bool false)).put (some 132) (.slice (some ⟨g, off, none⟩) n cc)).put (some 133) (.int .i64 i)).put (some 134) (.pointer (some ⟨g, off + i * 2, none⟩))).put (some 135) (.pointer (some ⟨g, off + i * 2 + 1, none⟩))).put (some 136) (X)).put (some 137) (.slice (some ⟨h, off2, none⟩) m cm)).put (some 138) (.int .i64 i)).put (some 139) (.pointer (some ⟨h, off2 + i, none⟩))).put (some 140) (Y))).eval (.tmp 140) = Y := (by (repeat (first | rw [eval_same _ _ (by (try simp only [put_size]); omega)] | rw [eval_far _ _ (by decide)])))
  refine wpOp_callG ho ((wantedB hog6 dog6 hg (by (repeat (first | rw [tmps_same _ _ (by (try simp only [put_size]); omega)] | rw [tmps_far _ _ (by decide)])))).trans (by decide)) (run_callV 13 Tryz.func13 (by kernel_rfl) (by kernel_rfl) #[.tmp 136, .tmp 140] _ hop #[X, Y] (by simp only [List.map_toArray, List.map_cons, List.map_nil, x16_0, x16_1])) ?_
  refine (KS _ hS0).mono ?_
  rintro e u1 ⟨rfl, b1⟩
  have hS16 := keep _ _ hS0 b1
  refine ⟨_, rfl, hS16, ?_⟩
  rw [hd]
  clear ho hg hop hd
  rw [← LR_snoc]
  obtain ⟨o17, ho, hg, hop, hd⟩ := isOpG_out q17
  have hfr := hall ([0, 1, 2, 3, 4, 5, 6, 7, 8, 9, 10, 11, 12, 13, 14, 15, 16], 17) (by simp)
  refine wpAnyH_take (listed := LR 19 [0, 1, 2, 3, 4, 5, 6, 7, 8, 9, 10, 11, 12, 13, 14, 15, 16]) (v := .bool false) ho hs hfr.1 hfr.2 (hQ _ _) (Or.inl ⟨((wantedB hog6 dog6 hg (by (repeat (first | rw [tmps_same _ _ (by (try simp only [put_size]); omega)] | rw [tmps_far _ _ (by decide)])))).trans (by decide)), fun w' hS => run_notV (b := true) _ _ hop w' (by (repeat (first | rw [eval_same _ _ (by (try simp only [put_size]); omega)] | rw [eval_far _ _ (by decide)])))⟩) hS16 ?_
  rw [hd, ← LR_snoc]
  clear ho hg hop hd hfr
  obtain ⟨o18, ho, hg, hop, hd⟩ := isOpG_out q18
  have hfr := hall ([0, 1, 2, 3, 4, 5, 6, 7, 8, 9, 10, 11, 12, 13, 14, 15, 16, 17], 18) (by simp)
  refine wpAnyH_take (listed := LR 19 [0, 1, 2, 3, 4, 5, 6, 7, 8, 9, 10, 11, 12, 13, 14, 15, 16, 17]) (v := .bool false) ho hs hfr.1 hfr.2 (hQ _ _) (Or.inl ⟨(wantedN hg), fun w' hS => run_pickF _ _ hop w' (by (repeat (first | rw [eval_same _ _ (by (try simp only [put_size]); omega)] | rw [eval_far _ _ (by decide)]))) (by (repeat (first | rw [eval_same _ _ (by (try simp only [put_size]); omega)] | rw [eval_far _ _ (by decide)])))⟩) hS16 ?_
  rw [hd, ← LR_snoc]
  clear ho hg hop hd hfr
  exact wpAnyH_done rend (F _ hS16) _
end Go.Proofs.YtkcipmbgapdkjaaGreatDoor
