import Derived.Test.YtjcfhhcohmcehaaGreatDoorRkG
import Derived.Test.YtjcfhhcohmcehaaGreatDoorRgGen
namespace Go.Proofs.YtjcfhhcohmcehaaGreatDoor.BK
open Go.RowKit Go.Maps
set_option linter.unusedVariables false
set_option linter.unusedSimpArgs false

theorem run_loadB (ev : Operand → Value) (o : Oper) {ty : TypeId} {x : Operand} (hop : o.op = .load ty x) (w : World) {a : Addr} {v : Value} (hx : ev x = .pointer (some a)) (hl : (loadVar ty a).run Tryz.prog w = .ok v w) : (execOp ev o).run Tryz.prog w = .ok (.value v) w := by
  simp only [execOp, hop, hx]
  simp [Instr.loadAt, Instr.sureAddr, hl, Result.andThen]
theorem lssB (k n : Nat) (b : Bool) (h : decide (k < n) = b) (u : World) : (binOp .lss 3 (.int .i64 k) (.int .i64 n)).run Tryz.prog u = .ok (.bool b) u := by
  have h' : decide ((k : Int) < (n : Int)) = b := by rw [← h]; simp
  generalize (k : Int) = K at h' ⊢
  generalize (n : Int) = N at h' ⊢
  subst h'
  go_simp
theorem fldI0 (ev : Operand → Value) (o : Oper) {x : Operand} (hop : o.op = .fieldAddr 108 x 0) (w : World) {g off : Nat} (hx : ev x = .pointer (some ⟨g, off, none⟩)) : (execOp ev o).run Tryz.prog w = .ok (.value (.pointer (some ⟨g, off, none⟩))) w := by
  simp only [execOp, hop, hx]
  go_simp
theorem fldI1 (ev : Operand → Value) (o : Oper) {x : Operand} (hop : o.op = .fieldAddr 108 x 1) (w : World) {g off : Nat} (hx : ev x = .pointer (some ⟨g, off, none⟩)) : (execOp ev o).run Tryz.prog w = .ok (.value (.pointer (some ⟨g, off + 1, none⟩))) w := by
  simp only [execOp, hop, hx]
  go_simp
theorem fldI2 (ev : Operand → Value) (o : Oper) {x : Operand} (hop : o.op = .fieldAddr 108 x 2) (w : World) {g off : Nat} (hx : ev x = .pointer (some ⟨g, off, none⟩)) : (execOp ev o).run Tryz.prog w = .ok (.value (.pointer (some ⟨g, off + 2, none⟩))) w := by
  simp only [execOp, hop, hx]
  go_simp
theorem idxI (ev : Operand → Value) (o : Oper) {x y : Operand} (hop : o.op = .indexAddr 33 x y) (w : World) {g off n c k : Nat} (hx : ev x = .slice (some ⟨g, off, none⟩) n c) (hy : ev y = .int .i64 k) (hk : k < n) : (execOp ev o).run Tryz.prog w = .ok (.value (.pointer (some ⟨g, off + k, none⟩))) w := by
  have h1 : (k : Int) < (n : Int) := by omega
  have h0 : (0 : Int) ≤ (k : Int) := by omega
  simp only [execOp, hop, hx, hy]
  go_simp
theorem lenI (ev : Operand → Value) (o : Oper) {x : Operand} (hop : o.op = .call { callee := .builtin .len, args := #[x], argTypes := #[33] }) (w : World) {a : Option Addr} {n c : Nat} (hx : ev x = .slice a n c) : (execOp ev o).run Tryz.prog w = .ok (.value (.int .i64 n)) w := by
  simp only [execOp, hop]
  simp [resolve, invoke, builtin, hx, Builtin.lenOf, Result.andThen, go_sem]
theorem fldR0 (ev : Operand → Value) (o : Oper) {x : Operand} (hop : o.op = .fieldAddr 110 x 0) (w : World) {g off : Nat} (hx : ev x = .pointer (some ⟨g, off, none⟩)) : (execOp ev o).run Tryz.prog w = .ok (.value (.pointer (some ⟨g, off, none⟩))) w := by
  simp only [execOp, hop, hx]
  go_simp
theorem fldR1 (ev : Operand → Value) (o : Oper) {x : Operand} (hop : o.op = .fieldAddr 110 x 1) (w : World) {g off : Nat} (hx : ev x = .pointer (some ⟨g, off, none⟩)) : (execOp ev o).run Tryz.prog w = .ok (.value (.pointer (some ⟨g, off + 1, none⟩))) w := by
  simp only [execOp, hop, hx]
  go_simp
theorem fldR2 (ev : Operand → Value) (o : Oper) {x : Operand} (hop : o.op = .fieldAddr 110 x 2) (w : World) {g off : Nat} (hx : ev x = .pointer (some ⟨g, off, none⟩)) : (execOp ev o).run Tryz.prog w = .ok (.value (.pointer (some ⟨g, off + 2, none⟩))) w := by
  simp only [execOp, hop, hx]
  go_simp
theorem idxR (ev : Operand → Value) (o : Oper) {x y : Operand} (hop : o.op = .indexAddr 30 x y) (w : World) {g off n c k : Nat} (hx : ev x = .slice (some ⟨g, off, none⟩) n c) (hy : ev y = .int .i64 k) (hk : k < n) : (execOp ev o).run Tryz.prog w = .ok (.value (.pointer (some ⟨g, off + k * 24, none⟩))) w := by
  have h1 : (k : Int) < (n : Int) := by omega
  have h0 : (0 : Int) ≤ (k : Int) := by omega
  simp only [execOp, hop, hx, hy]
  go_simp
theorem lenR (ev : Operand → Value) (o : Oper) {x : Operand} (hop : o.op = .call { callee := .builtin .len, args := #[x], argTypes := #[30] }) (w : World) {a : Option Addr} {n c : Nat} (hx : ev x = .slice a n c) : (execOp ev o).run Tryz.prog w = .ok (.value (.int .i64 n)) w := by
  simp only [execOp, hop]
  simp [resolve, invoke, builtin, hx, Builtin.lenOf, Result.andThen, go_sem]
def lregIA_takes : List (List Nat × Nat) := [([], 0), ([0], 1), ([0, 1], 2), ([0, 1, 2], 3), ([0, 1, 2, 3], 4), ([0, 1, 2, 3, 4], 5), ([0, 1, 2, 3, 4, 5], 6), ([0, 1, 2, 3, 4, 5, 6, 7], 8), ([0, 1, 2, 3, 4, 5, 6, 7, 8], 9), ([0, 1, 2, 3, 4, 5, 6, 7, 8, 9], 10), ([0, 1, 2, 3, 4, 5, 6, 7, 8, 9, 10], 11), ([0, 1, 2, 3, 4, 5, 6, 7, 8, 9, 10, 11], 12), ([0, 1, 2, 3, 4, 5, 6, 7, 8, 9, 10, 11, 12], 13), ([0, 1, 2, 3, 4, 5, 6, 7, 8, 9, 10, 11, 12, 13], 14), ([0, 1, 2, 3, 4, 5, 6, 7, 8, 9, 10, 11, 12, 13, 14], 15), ([0, 1, 2, 3, 4, 5, 6, 7, 8, 9, 10, 11, 12, 13, 14, 15], 16), ([0, 1, 2, 3, 4, 5, 6, 7, 8, 9, 10, 11, 12, 13, 14, 15, 16], 17), ([0, 1, 2, 3, 4, 5, 6, 7, 8, 9, 10, 11, 12, 13, 14, 15, 16, 17], 18), ([0, 1, 2, 3, 4, 5, 6, 7, 8, 9, 10, 11, 12, 13, 14, 15, 16, 17, 18], 19), ([0, 1, 2, 3, 4, 5, 6, 7, 8, 9, 10, 11, 12, 13, 14, 15, 16, 17, 18, 19], 20), ([0, 1, 2, 3, 4, 5, 6, 7, 8, 9, 10, 11, 12, 13, 14, 15, 16, 17, 18, 19, 20], 21), ([0, 1, 2, 3, 4, 5, 6, 7, 8, 9, 10, 11, 12, 13, 14, 15, 16, 17, 18, 19, 20, 21], 22), ([0, 1, 2, 3, 4, 5, 6, 7, 8, 9, 10, 11, 12, 13, 14, 15, 16, 17, 18, 19, 20, 21, 22, 23], 24), ([0, 1, 2, 3, 4, 5, 6, 7, 8, 9, 10, 11, 12, 13, 14, 15, 16, 17, 18, 19, 20, 21, 22, 23, 24], 25), ([0, 1, 2, 3, 4, 5, 6, 7, 8, 9, 10, 11, 12, 13, 14, 15, 16, 17, 18, 19, 20, 21, 22, 23, 24, 25], 26)]
set_option maxHeartbeats 3200000 in
theorem lregIA {ops : Array Oper} {Q : Exit → Act → World → Prop} {S : World → Prop} {a0 : Act} {w5 : World} {bx g off nl cl nn cc k m g2 off2 : Nat} {X Y : Value} {ty1 ty2 : Array TypeId}
    (q0 : isOpG ops 0 none (.fieldAddr 108 (.tmp 4) 1) (some 37))
    (q1 : isOpG ops 1 none (.load 33 (.tmp 37)) (some 38))
    (q2 : isOpG ops 2 none (.move (.tmp 5)) (some 39))
    (q3 : isOpG ops 3 none (.indexAddr 33 (.tmp 38) (.tmp 39)) (some 40))
    (q4 : isOpG ops 4 none (.load 3 (.tmp 40)) (some 41))
    (q5 : isOpG ops 5 none (.fieldAddr 108 (.tmp 4) 2) (some 42))
    (q6 : isOpG ops 6 none (.load 3 (.tmp 42)) (some 43))
    (q7 : isOpG ops 7 none (.call { callee := .value (.func 194), args := #[.tmp 41, .tmp 43], argTypes := ty1 }) (some 44))
    (q8 : isOpG ops 8 none (.unOp .not 4 (.tmp 44)) (some 45))
    (q9 : isOpG ops 9 none (.move (.tmp 45)) (some 46))
    (q10 : isOpG ops 10 (some (9, false)) (.move (.tmp 5)) (some 47))
    (q11 : isOpG ops 11 (some (9, false)) (.fieldAddr 108 (.tmp 4) 0) (some 48))
    (q12 : isOpG ops 12 (some (9, false)) (.load 33 (.tmp 48)) (some 49))
    (q13 : isOpG ops 13 (some (9, false)) (.call { callee := .builtin .len, args := #[.tmp 49], argTypes := #[33] }) (some 50))
    (q14 : isOpG ops 14 (some (9, false)) (.binOp .lss 3 (.tmp 47) (.tmp 50) 3) (some 51))
    (q15 : isOpG ops 15 (some (9, false)) (.move (.tmp 51)) (some 52))
    (q16 : isOpG ops 16 (some (15, true)) (.fieldAddr 108 (.tmp 4) 0) (some 53))
    (q17 : isOpG ops 17 (some (15, true)) (.load 33 (.tmp 53)) (some 54))
    (q18 : isOpG ops 18 (some (15, true)) (.move (.tmp 5)) (some 55))
    (q19 : isOpG ops 19 (some (15, true)) (.indexAddr 33 (.tmp 54) (.tmp 55)) (some 56))
    (q20 : isOpG ops 20 (some (15, true)) (.load 3 (.tmp 56)) (some 57))
    (q21 : isOpG ops 21 (some (15, true)) (.fieldAddr 108 (.tmp 4) 2) (some 58))
    (q22 : isOpG ops 22 (some (15, true)) (.load 3 (.tmp 58)) (some 59))
    (q23 : isOpG ops 23 (some (15, true)) (.call { callee := .value (.func 194), args := #[.tmp 57, .tmp 59], argTypes := ty2 }) (some 60))
    (q24 : isOpG ops 24 (some (15, true)) (.unOp .not 4 (.tmp 60)) (some 61))
    (q25 : isOpG ops 25 (some (9, false)) (.pick (.tmp 52) (.tmp 61) (.const (.bool false))) (some 62))
    (q26 : isOpG ops 26 none (.pick (.tmp 46) (.const (.bool true)) (.tmp 62)) (some 63))
    (hs : Region.noSelect ops = true) (hq : (lregIA_takes.all fun p => Region.free .any ops (LR 27 p.1) p.2 && (Region.ready .any ops (LR 27 p.1)).contains p.2) = true)
    (r7 : Region.ready .any ops (LR 27 [0, 1, 2, 3, 4, 5, 6]) = [7])
    (r23 : Region.ready .any ops (LR 27 [0, 1, 2, 3, 4, 5, 6, 7, 8, 9, 10, 11, 12, 13, 14, 15, 16, 17, 18, 19, 20, 21, 22]) = [23])
    (rend : Region.ready .any ops (LR 27 [0, 1, 2, 3, 4, 5, 6, 7, 8, 9, 10, 11, 12, 13, 14, 15, 16, 17, 18, 19, 20, 21, 22, 23, 24, 25, 26]) = [])
    (hQ : ∀ (d : Option Tmp) (v : Value) c a w, Q (.panic c) (a.put d v) w → Q (.panic c) a w)
    (hsz : 63 < a0.tmps.size) (e4 : a0.eval (.tmp 4) = .pointer (some ⟨bx, 0, none⟩)) (e5 : a0.eval (.tmp 5) = .int .i64 k)
    (hS0 : S w5.drew)
    (keep : ∀ u u', S u → Below u.heap.size u u' → S u') (hkl : k < nl) (hlt : decide (k < nn) = true)
    (L0 : ∀ u, S u → (loadVar 33 ⟨bx, 0, none⟩).run Tryz.prog u = .ok (.slice (some ⟨g2, off2, none⟩) nn cc) u) (L1 : ∀ u, S u → (loadVar 33 ⟨bx, 1, none⟩).run Tryz.prog u = .ok (.slice (some ⟨g, off, none⟩) nl cl) u) (L2 : ∀ u, S u → (loadVar 3 ⟨bx, 2, none⟩).run Tryz.prog u = .ok (.int .i64 m) u)
    (LX : ∀ u, S u → (loadVar 3 ⟨g, off + k, none⟩).run Tryz.prog u = .ok X u) (K1 : ∀ u, S u → Calls Tryz.prog 194 #[X, .int .i64 m] u fun e w' => e = .returned (.bool true) ∧ Below u.heap.size u w')
    (hkn : k < nn) (LY : ∀ u, S u → (loadVar 3 ⟨g2, off2 + k, none⟩).run Tryz.prog u = .ok Y u) (K2 : ∀ u, S u → Calls Tryz.prog 194 #[Y, .int .i64 m] u fun e w' => e = .returned (.bool true) ∧ Below u.heap.size u w')
    (F : ∀ (wc : World), S wc → Q .normal (((((((((((((((((((((((((((a0.put (some 37) (.pointer (some ⟨bx, 1, none⟩))).put (some 38) (.slice (some ⟨g, off, none⟩) nl cl)).put (some 39) (.int .i64 k)).put (some 40) (.pointer (some ⟨g, off + k, none⟩))).put (some 41) (X)).put (some 42) (.pointer (some ⟨bx, 2, none⟩))).put (some 43) (.int .i64 m)).put (some 44) (.bool true)).put (some 45) (.bool false)).put (some 46) (.bool false)).put (some 47) (.int .i64 k)).put (some 48) (.pointer (some ⟨bx, 0, none⟩))).put (some 49) (.slice (some ⟨g2, off2, none⟩) nn cc)).put (some 50) (.int .i64 nn)).put (some 51) (.bool true)).put (some 52) (.bool true)).put (some 53) (.pointer (some ⟨bx, 0, none⟩))).put (some 54) (.slice (some ⟨g2, off2, none⟩) nn cc)).put (some 55) (.int .i64 k)).put (some 56) (.pointer (some ⟨g2, off2 + k, none⟩))).put (some 57) (Y)).put (some 58) (.pointer (some ⟨bx, 2, none⟩))).put (some 59) (.int .i64 m)).put (some 60) (.bool true)).put (some 61) (.bool false)).put (some 62) (.bool false)).put (some 63) (.bool false)) wc) :
    wpAnyH Tryz.prog .any ops Q S 27 (LR 27 []) a0 w5.drew := by
  have hall : ∀ p ∈ lregIA_takes, Region.free .any ops (LR 27 p.1) p.2 = true ∧ (Region.ready .any ops (LR 27 p.1)).contains p.2 = true := by
    intro p hp
    have := List.all_eq_true.1 hq p hp
    simpa using this
  unfold lregIA_takes at hall
  obtain ⟨og9, hog9, _, _, dog9⟩ := isOpG_out q9
  obtain ⟨og15, hog15, _, _, dog15⟩ := isOpG_out q15
  obtain ⟨o0, ho, hg, hop, hd⟩ := isOpG_out q0
  have hfr := hall ([], 0) (by simp)
  refine wpAnyH_take (listed := LR 27 []) (v := .pointer (some ⟨bx, 1, none⟩)) ho hs hfr.1 hfr.2 (hQ _ _) (Or.inl ⟨(wantedN hg), fun w' hS => fldI1 _ _ hop w' (by (repeat rw [eval_far _ _ (by decide)]); exact e4)⟩) hS0 ?_
  rw [hd, ← LR_snoc]
  clear ho hg hop hd hfr
  obtain ⟨o1, ho, hg, hop, hd⟩ := isOpG_out q1
  have hfr := hall ([0], 1) (by simp)
  refine wpAnyH_take (listed := LR 27 [0]) (v := .slice (some ⟨g, off, none⟩) nl cl) ho hs hfr.1 hfr.2 (hQ _ _) (Or.inl ⟨(wantedN hg), fun w' hS => run_loadB _ _ hop w' (by (repeat (first | rw [eval_same _ _ (by (try simp only [put_size]); omega)] | rw [eval_far _ _ (by decide)]))) (L1 _ hS)⟩) hS0 ?_
  rw [hd, ← LR_snoc]
  clear ho hg hop hd hfr
  obtain ⟨o2, ho, hg, hop, hd⟩ := isOpG_out q2
  have hfr := hall ([0, 1], 2) (by simp)
  refine wpAnyH_take (listed := LR 27 [0, 1]) (v := .int .i64 k) ho hs hfr.1 hfr.2 (hQ _ _) (Or.inl ⟨(wantedN hg), fun w' hS => run_move _ _ hop w' (by (repeat rw [eval_far _ _ (by decide)]); exact e5)⟩) hS0 ?_
  rw [hd, ← LR_snoc]
  clear ho hg hop hd hfr
  obtain ⟨o3, ho, hg, hop, hd⟩ := isOpG_out q3
  have hfr := hall ([0, 1, 2], 3) (by simp)
  refine wpAnyH_take (listed := LR 27 [0, 1, 2]) (v := .pointer (some ⟨g, off + k, none⟩)) ho hs hfr.1 hfr.2 (hQ _ _) (Or.inl ⟨(wantedN hg), fun w' hS => idxI _ _ hop w' (by (repeat (first | rw [eval_same _ _ (by (try simp only [put_size]); omega)] | rw [eval_far _ _ (by decide)]))) (by (repeat (first | rw [eval_same _ _ (by (try simp only [put_size]); omega)] | rw [eval_far _ _ (by decide)]))) hkl⟩) hS0 ?_
  rw [hd, ← LR_snoc]
  clear ho hg hop hd hfr
  obtain ⟨o4, ho, hg, hop, hd⟩ := isOpG_out q4
  have hfr := hall ([0, 1, 2, 3], 4) (by simp)
  refine wpAnyH_take (listed := LR 27 [0, 1, 2, 3]) (v := X) ho hs hfr.1 hfr.2 (hQ _ _) (Or.inl ⟨(wantedN hg), fun w' hS => run_loadB _ _ hop w' (by (repeat (first | rw [eval_same _ _ (by (try simp only [put_size]); omega)] | rw [eval_far _ _ (by decide)]))) (LX _ hS)⟩) hS0 ?_
  rw [hd, ← LR_snoc]
  clear ho hg hop hd hfr
  obtain ⟨o5, ho, hg, hop, hd⟩ := isOpG_out q5
  have hfr := hall ([0, 1, 2, 3, 4], 5) (by simp)
  refine wpAnyH_take (listed := LR 27 [0, 1, 2, 3, 4]) (v := .pointer (some ⟨bx, 2, none⟩)) ho hs hfr.1 hfr.2 (hQ _ _) (Or.inl ⟨(wantedN hg), fun w' hS => fldI2 _ _ hop w' (by (repeat rw [eval_far _ _ (by decide)]); exact e4)⟩) hS0 ?_
  rw [hd, ← LR_snoc]
  clear ho hg hop hd hfr
  obtain ⟨o6, ho, hg, hop, hd⟩ := isOpG_out q6
  have hfr := hall ([0, 1, 2, 3, 4, 5], 6) (by simp)
  refine wpAnyH_take (listed := LR 27 [0, 1, 2, 3, 4, 5]) (v := .int .i64 m) ho hs hfr.1 hfr.2 (hQ _ _) (Or.inl ⟨(wantedN hg), fun w' hS => run_loadB _ _ hop w' (by (repeat (first | rw [eval_same _ _ (by (try simp only [put_size]); omega)] | rw [eval_far _ _ (by decide)]))) (L2 _ hS)⟩) hS0 ?_
  rw [hd, ← LR_snoc]
  clear ho hg hop hd hfr
  refine wpAnyH_all r7 (by simp) ?_
  intro i hi
  obtain rfl := List.mem_singleton.1 hi
  obtain ⟨o7, ho, hg, hop, hd⟩ := isOpG_out q7
  have x7_0 : ((((((((a0.put (some 37) (.pointer (some ⟨bx, 1, none⟩))).put (some 38) (.slice (some ⟨g, off, none⟩) nl cl)).put (some 39) (.int .i64 k)).put (some 40) (.pointer (some ⟨g, off + k, none⟩))).put (some 41) (X)).put (some 42) (.pointer (some ⟨bx, 2, none⟩))).put (some 43) (.int .i64 m))).eval (.tmp 41) = X := (by (repeat (first | rw [eval_same _ _ (by (try simp only [put_size]); omega)] | rw [eval_far _ _ (by decide)])))
  have x7_1 : ((((((((a0.put (some 37) (.pointer (some ⟨bx, 1, none⟩))).put (some 38) (.slice (some ⟨g, off, none⟩) nl cl)).put (some 39) (.int .i64 k)).put (some 40) (.pointer (some ⟨g, off + k, none⟩))).put (some 41) (X)).put (some 42) (.pointer (some ⟨bx, 2, none⟩))).put (some 43) (.int .i64 m))).eval (.tmp 43) = .int .i64 m := (by (repeat (first | rw [eval_same _ _ (by (try simp only [put_size]); omega)] | rw [eval_far _ _ (by decide)])))
  refine wpOp_callG ho (wantedN hg) (run_callV 194 Tryz.func194 (by kernel_rfl) (by kernel_rfl) #[.tmp 41, .tmp 43] _ hop #[X, .int .i64 m] (by simp only [List.map_toArray, List.map_cons, List.map_nil, x7_0, x7_1])) ?_
  refine (K1 _ hS0).mono ?_
  rintro e u1 ⟨rfl, b1⟩
  have hS7 := keep _ _ hS0 b1
  refine ⟨_, rfl, hS7, ?_⟩
  rw [hd]
  clear ho hg hop hd
  rw [← LR_snoc]
  obtain ⟨o8, ho, hg, hop, hd⟩ := isOpG_out q8
  have hfr := hall ([0, 1, 2, 3, 4, 5, 6, 7], 8) (by simp)
  refine wpAnyH_take (listed := LR 27 [0, 1, 2, 3, 4, 5, 6, 7]) (v := .bool false) ho hs hfr.1 hfr.2 (hQ _ _) (Or.inl ⟨(wantedN hg), fun w' hS => run_notV (b := true) _ _ hop w' (by (repeat (first | rw [eval_same _ _ (by (try simp only [put_size]); omega)] | rw [eval_far _ _ (by decide)])))⟩) hS7 ?_
  rw [hd, ← LR_snoc]
  clear ho hg hop hd hfr
  obtain ⟨o9, ho, hg, hop, hd⟩ := isOpG_out q9
  have hfr := hall ([0, 1, 2, 3, 4, 5, 6, 7, 8], 9) (by simp)
  refine wpAnyH_take (listed := LR 27 [0, 1, 2, 3, 4, 5, 6, 7, 8]) (v := .bool false) ho hs hfr.1 hfr.2 (hQ _ _) (Or.inl ⟨(wantedN hg), fun w' hS => run_move _ _ hop w' (by (repeat (first | rw [eval_same _ _ (by (try simp only [put_size]); omega)] | rw [eval_far _ _ (by decide)])))⟩) hS7 ?_
  rw [hd, ← LR_snoc]
  clear ho hg hop hd hfr
  obtain ⟨o10, ho, hg, hop, hd⟩ := isOpG_out q10
  have hfr := hall ([0, 1, 2, 3, 4, 5, 6, 7, 8, 9], 10) (by simp)
  refine wpAnyH_take (listed := LR 27 [0, 1, 2, 3, 4, 5, 6, 7, 8, 9]) (v := .int .i64 k) ho hs hfr.1 hfr.2 (hQ _ _) (Or.inl ⟨((wantedB hog9 dog9 hg (by (repeat (first | rw [tmps_same _ _ (by (try simp only [put_size]); omega)] | rw [tmps_far _ _ (by decide)])))).trans (by decide)), fun w' hS => run_move _ _ hop w' (by (repeat rw [eval_far _ _ (by decide)]); exact e5)⟩) hS7 ?_
  rw [hd, ← LR_snoc]
  clear ho hg hop hd hfr
  obtain ⟨o11, ho, hg, hop, hd⟩ := isOpG_out q11
  have hfr := hall ([0, 1, 2, 3, 4, 5, 6, 7, 8, 9, 10], 11) (by simp)
  refine wpAnyH_take (listed := LR 27 [0, 1, 2, 3, 4, 5, 6, 7, 8, 9, 10]) (v := .pointer (some ⟨bx, 0, none⟩)) ho hs hfr.1 hfr.2 (hQ _ _) (Or.inl ⟨((wantedB hog9 dog9 hg (by (repeat (first | rw [tmps_same _ _ (by (try simp only [put_size]); omega)] | rw [tmps_far _ _ (by decide)])))).trans (by decide)), fun w' hS => fldI0 _ _ hop w' (by (repeat rw [eval_far _ _ (by decide)]); exact e4)⟩) hS7 ?_
  rw [hd, ← LR_snoc]
  clear ho hg hop hd hfr
  obtain ⟨o12, ho, hg, hop, hd⟩ := isOpG_out q12
  have hfr := hall ([0, 1, 2, 3, 4, 5, 6, 7, 8, 9, 10, 11], 12) (by simp)
  refine wpAnyH_take (listed := LR 27 [0, 1, 2, 3, 4, 5, 6, 7, 8, 9, 10, 11]) (v := .slice (some ⟨g2, off2, none⟩) nn cc) ho hs hfr.1 hfr.2 (hQ _ _) (Or.inl ⟨((wantedB hog9 dog9 hg (by (repeat (first | rw [tmps_same _ _ (by (try simp only [put_size]); omega)] | rw [tmps_far _ _ (by decide)])))).trans (by decide)), fun w' hS => run_loadB _ _ hop w' (by (repeat (first | rw [eval_same _ _ (by (try simp only [put_size]); omega)] | rw [eval_far _ _ (by decide)]))) (L0 _ hS)⟩) hS7 ?_
  rw [hd, ← LR_snoc]
  clear ho hg hop hd hfr
  obtain ⟨o13, ho, hg, hop, hd⟩ := isOpG_out q13
  have hfr := hall ([0, 1, 2, 3, 4, 5, 6, 7, 8, 9, 10, 11, 12], 13) (by simp)
  refine wpAnyH_take (listed := LR 27 [0, 1, 2, 3, 4, 5, 6, 7, 8, 9, 10, 11, 12]) (v := .int .i64 nn) ho hs hfr.1 hfr.2 (hQ _ _) (Or.inl ⟨((wantedB hog9 dog9 hg (by (repeat (first | rw [tmps_same _ _ (by (try simp only [put_size]); omega)] | rw [tmps_far _ _ (by decide)])))).trans (by decide)), fun w' hS => lenI _ _ hop w' (by (repeat (first | rw [eval_same _ _ (by (try simp only [put_size]); omega)] | rw [eval_far _ _ (by decide)])))⟩) hS7 ?_
  rw [hd, ← LR_snoc]
  clear ho hg hop hd hfr
  obtain ⟨o14, ho, hg, hop, hd⟩ := isOpG_out q14
  have hfr := hall ([0, 1, 2, 3, 4, 5, 6, 7, 8, 9, 10, 11, 12, 13], 14) (by simp)
  refine wpAnyH_take (listed := LR 27 [0, 1, 2, 3, 4, 5, 6, 7, 8, 9, 10, 11, 12, 13]) (v := .bool true) ho hs hfr.1 hfr.2 (hQ _ _) (Or.inl ⟨((wantedB hog9 dog9 hg (by (repeat (first | rw [tmps_same _ _ (by (try simp only [put_size]); omega)] | rw [tmps_far _ _ (by decide)])))).trans (by decide)), fun w' hS => run_binV _ _ hop w' (by (repeat (first | rw [eval_same _ _ (by (try simp only [put_size]); omega)] | rw [eval_far _ _ (by decide)]))) (by (repeat (first | rw [eval_same _ _ (by (try simp only [put_size]); omega)] | rw [eval_far _ _ (by decide)]))) (by first | rfl | go_simp) ((fun u => lssB k nn true hlt u) w')⟩) hS7 ?_
  rw [hd, ← LR_snoc]
  clear ho hg hop hd hfr
  obtain ⟨o15, ho, hg, hop, hd⟩ := isOpG_out q15
  have hfr := hall ([0, 1, 2, 3, 4, 5, 6, 7, 8, 9, 10, 11, 12, 13, 14], 15) (by simp)
  refine wpAnyH_take (listed := LR 27 [0, 1, 2, 3, 4, 5, 6, 7, 8, 9, 10, 11, 12, 13, 14]) (v := .bool true) ho hs hfr.1 hfr.2 (hQ _ _) (Or.inl ⟨((wantedB hog9 dog9 hg (by (repeat (first | rw [tmps_same _ _ (by (try simp only [put_size]); omega)] | rw [tmps_far _ _ (by decide)])))).trans (by decide)), fun w' hS => run_move _ _ hop w' (by (repeat (first | rw [eval_same _ _ (by (try simp only [put_size]); omega)] | rw [eval_far _ _ (by decide)])))⟩) hS7 ?_
  rw [hd, ← LR_snoc]
  clear ho hg hop hd hfr
  obtain ⟨o16, ho, hg, hop, hd⟩ := isOpG_out q16
  have hfr := hall ([0, 1, 2, 3, 4, 5, 6, 7, 8, 9, 10, 11, 12, 13, 14, 15], 16) (by simp)
  refine wpAnyH_take (listed := LR 27 [0, 1, 2, 3, 4, 5, 6, 7, 8, 9, 10, 11, 12, 13, 14, 15]) (v := .pointer (some ⟨bx, 0, none⟩)) ho hs hfr.1 hfr.2 (hQ _ _) (Or.inl ⟨((wantedB hog15 dog15 hg (by (repeat (first | rw [tmps_same _ _ (by (try simp only [put_size]); omega)] | rw [tmps_far _ _ (by decide)])))).trans (by decide)), fun w' hS => fldI0 _ _ hop w' (by (repeat rw [eval_far _ _ (by decide)]); exact e4)⟩) hS7 ?_
  rw [hd, ← LR_snoc]
  clear ho hg hop hd hfr
  obtain ⟨o17, ho, hg, hop, hd⟩ := isOpG_out q17
  have hfr := hall ([0, 1, 2, 3, 4, 5, 6, 7, 8, 9, 10, 11, 12, 13, 14, 15, 16], 17) (by simp)
  refine wpAnyH_take (listed := LR 27 [0, 1, 2, 3, 4, 5, 6, 7, 8, 9, 10, 11, 12, 13, 14, 15, 16]) (v := .slice (some ⟨g2, off2, none⟩) nn cc) ho hs hfr.1 hfr.2 (hQ _ _) (Or.inl ⟨((wantedB hog15 dog15 hg (by (repeat (first | rw [tmps_same _ _ (by (try simp only [put_size]); omega)] | rw [tmps_far _ _ (by decide)])))).trans (by decide)), fun w' hS => run_loadB _ _ hop w' (by (repeat (first | rw [eval_same _ _ (by (try simp only [put_size]); omega)] | rw [eval_far _ _ (by decide)]))) (L0 _ hS)⟩) hS7 ?_
  rw [hd, ← LR_snoc]
  clear ho hg hop hd hfr
  obtain ⟨o18, ho, hg, hop, hd⟩ := isOpG_out q18
  have hfr := hall ([0, 1, 2, 3, 4, 5, 6, 7, 8, 9, 10, 11, 12, 13, 14, 15, 16, 17], 18) (by simp)
  refine wpAnyH_take (listed := LR 27 [0, 1, 2, 3, 4, 5, 6, 7, 8, 9, 10, 11, 12, 13, 14, 15, 16, 17]) (v := .int .i64 k) ho hs hfr.1 hfr.2 (hQ _ _) (Or.inl ⟨((wantedB hog15 dog15 hg (by (repeat (first | rw [tmps_same _ _ (by (try simp only [put_size]); omega)] | rw [tmps_far _ _ (by decide)])))).trans (by decide)), fun w' hS => run_move _ _ hop w' (by (repeat rw [eval_far _ _ (by decide)]); exact e5)⟩) hS7 ?_
  rw [hd, ← LR_snoc]
  clear ho hg hop hd hfr
  obtain ⟨o19, ho, hg, hop, hd⟩ := isOpG_out q19
  have hfr := hall ([0, 1, 2, 3, 4, 5, 6, 7, 8, 9, 10, 11, 12, 13, 14, 15, 16, 17, 18], 19) (by simp)
  refine wpAnyH_take (listed := LR 27 [0, 1, 2, 3, 4, 5, 6, 7, 8, 9, 10, 11, 12, 13, 14, 15, 16, 17, 18]) (v := .pointer (some ⟨g2, off2 + k, none⟩)) ho hs hfr.1 hfr.2 (hQ _ _) (Or.inl ⟨((wantedB hog15 dog15 hg (by (repeat (first | rw [tmps_same _ _ (by (try simp only [put_size]); omega)] | rw [tmps_far _ _ (by decide)])))).trans (by decide)), fun w' hS => idxI _ _ hop w' (by (repeat (first | rw [eval_same _ _ (by (try simp only [put_size]); omega)] | rw [eval_far _ _ (by decide)]))) (by (repeat (first | rw [eval_same _ _ (by (try simp only [put_size]); omega)] | rw [eval_far _ _ (by decide)]))) hkn⟩) hS7 ?_
  rw [hd, ← LR_snoc]
  clear ho hg hop hd hfr
  obtain ⟨o20, ho, hg, hop, hd⟩ := isOpG_out q20
  have hfr := hall ([0, 1, 2, 3, 4, 5, 6, 7, 8, 9, 10, 11, 12, 13, 14, 15, 16, 17, 18, 19], 20) (by simp)
  refine wpAnyH_take (listed := LR 27 [0, 1, 2, 3, 4, 5, 6, 7, 8, 9, 10, 11, 12, 13, 14, 15, 16, 17, 18, 19]) (v := Y) ho hs hfr.1 hfr.2 (hQ _ _) (Or.inl ⟨((wantedB hog15 dog15 hg (by (repeat (first | rw [tmps_same _ _ (by (try simp only [put_size]); omega)] | rw [tmps_far _ _ (by decide)])))).trans (by decide)), fun w' hS => run_loadB _ _ hop w' (by (repeat (first | rw [eval_same _ _ (by (try simp only [put_size]); omega)] | rw [eval_far _ _ (by decide)]))) (LY _ hS)⟩) hS7 ?_
  rw [hd, ← LR_snoc]
  clear ho hg hop hd hfr
  obtain ⟨o21, ho, hg, hop, hd⟩ := isOpG_out q21
  have hfr := hall ([0, 1, 2, 3, 4, 5, 6, 7, 8, 9, 10, 11, 12, 13, 14, 15, 16, 17, 18, 19, 20], 21) (by simp)
  refine wpAnyH_take (listed := LR 27 [0, 1, 2, 3, 4, 5, 6, 7, 8, 9, 10, 11, 12, 13, 14, 15, 16, 17, 18, 19, 20]) (v := .pointer (some ⟨bx, 2, none⟩)) ho hs hfr.1 hfr.2 (hQ _ _) (Or.inl ⟨((wantedB hog15 dog15 hg (by (repeat (first | rw [tmps_same _ _ (by (try simp only [put_size]); omega)] | rw [tmps_far _ _ (by decide)])))).trans (by decide)), fun w' hS => fldI2 _ _ hop w' (by (repeat rw [eval_far _ _ (by decide)]); exact e4)⟩) hS7 ?_
  rw [hd, ← LR_snoc]
  clear ho hg hop hd hfr
  obtain ⟨o22, ho, hg, hop, hd⟩ := isOpG_out q22
  have hfr := hall ([0, 1, 2, 3, 4, 5, 6, 7, 8, 9, 10, 11, 12, 13, 14, 15, 16, 17, 18, 19, 20, 21], 22) (by simp)
  refine wpAnyH_take (listed := LR 27 [0, 1, 2, 3, 4, 5, 6, 7, 8, 9, 10, 11, 12, 13, 14, 15, 16, 17, 18, 19, 20, 21]) (v := .int .i64 m) ho hs hfr.1 hfr.2 (hQ _ _) (Or.inl ⟨((wantedB hog15 dog15 hg (by (repeat (first | rw [tmps_same _ _ (by (try simp only [put_size]); omega)] | rw [tmps_far _ _ (by decide)])))).trans (by decide)), fun w' hS => run_loadB _ _ hop w' (by (repeat (first | rw [eval_same _ _ (by (try simp only [put_size]); omega)] | rw [eval_far _ _ (by decide)]))) (L2 _ hS)⟩) hS7 ?_
  rw [hd, ← LR_snoc]
  clear ho hg hop hd hfr
  refine wpAnyH_all r23 (by simp) ?_
  intro i hi
  obtain rfl := List.mem_singleton.1 hi
  obtain ⟨o23, ho, hg, hop, hd⟩ := isOpG_out q23
  have x23_0 : ((((((((((((((((((((((((a0.put (some 37) (.pointer (some ⟨bx, 1, none⟩))).put (some 38) (.slice (some ⟨g, off, none⟩) nl cl)).put (some 39) (.int .i64 k)).put (some 40) (.pointer (some ⟨g, off + k, none⟩))).put (some 41) (X)).put (some 42) (.pointer (some ⟨bx, 2, none⟩))).put (some 43) (.int .i64 m)).put (some 44) (.bool true)).put (some 45) (.bool false)).put (some 46) (.bool false)).put (some 47) (.int .i64 k)).put (some 48) (.pointer (some ⟨bx, 0, none⟩))).put (some 49) (.slice (some ⟨g2, off2, none⟩) nn cc)).put (some 50) (.int .i64 nn)).put (some 51) (.bool true)).put (some 52) (.bool true)).put (some 53) (.pointer (some ⟨bx, 0, none⟩))).put (some 54) (.slice (some ⟨g2, off2, none⟩) nn cc)).put (some 55) (.int .i64 k)).put (some 56) (.pointer (some ⟨g2, off2 + k, none⟩))).put (some 57) (Y)).put (some 58) (.pointer (some ⟨bx, 2, none⟩))).put (some 59) (.int .i64 m))).eval (.tmp 57) = Y := (by (repeat (first | rw [eval_same _ _ (by (try simp only [put_size]); omega)] | rw [eval_far _ _ (by decide)])))
  have x23_1 : ((((((((((((((((((((((((a0.put (some 37) (.pointer (some ⟨bx, 1, none⟩))).put (some 38) (.slice (some ⟨g, off, none⟩) nl cl)).put (some 39) (.int .i64 k)).put (some 40) (.pointer (some ⟨g, off + k, none⟩))).put (some 41) (X)).put (some 42) (.pointer (some ⟨bx, 2, none⟩))).put (some 43) (.int .i64 m)).put (some 44) (.bool true)).put (some 45) (.bool false)).put (some 46) (.bool false)).put (some 47) (.int .i64 k)).put (some 48) (.pointer (some ⟨bx, 0, none⟩))).put (some 49) (.slice (some ⟨g2, off2, none⟩) nn cc)).put (some 50) (.int .i64 nn)).put (some 51) (.bool true)).put (some 52) (.bool true)).put (some 53) (.pointer (some ⟨bx, 0, none⟩))).put (some 54) (.slice (some ⟨g2, off2, none⟩) nn cc)).put (some 55) (.int .i64 k)).put (some 56) (.pointer (some ⟨g2, off2 + k, none⟩))).put (some 57) (Y)).put (some 58) (.pointer (some ⟨bx, 2, none⟩))).put (some 59) (.int .i64 m))).eval (.tmp 59) = .int .i64 m := (by (repeat (first | rw [eval_same _ _ (by (try simp only [put_size]); omega)] | rw [eval_far _ _ (by decide)])))
  refine wpOp_callG ho ((wantedB hog15 dog15 hg (by (repeat (first | rw [tmps_same _ _ (by (try simp only [put_size]); omega)] | rw [tmps_far _ _ (by decide)])))).trans (by decide)) (run_callV 194 Tryz.func194 (by kernel_rfl) (by kernel_rfl) #[.tmp 57, .tmp 59] _ hop #[Y, .int .i64 m] (by simp only [List.map_toArray, List.map_cons, List.map_nil, x23_0, x23_1])) ?_
  refine (K2 _ hS7).mono ?_
  rintro e u2 ⟨rfl, b2⟩
  have hS23 := keep _ _ hS7 b2
  refine ⟨_, rfl, hS23, ?_⟩
  rw [hd]
  clear ho hg hop hd
  rw [← LR_snoc]
  obtain ⟨o24, ho, hg, hop, hd⟩ := isOpG_out q24
  have hfr := hall ([0, 1, 2, 3, 4, 5, 6, 7, 8, 9, 10, 11, 12, 13, 14, 15, 16, 17, 18, 19, 20, 21, 22, 23], 24) (by simp)
  refine wpAnyH_take (listed := LR 27 [0, 1, 2, 3, 4, 5, 6, 7, 8, 9, 10, 11, 12, 13, 14, 15, 16, 17, 18, 19, 20, 21, 22, 23]) (v := .bool false) ho hs hfr.1 hfr.2 (hQ _ _) (Or.inl ⟨((wantedB hog15 dog15 hg (by (repeat (first | rw [tmps_same _ _ (by (try simp only [put_size]); omega)] | rw [tmps_far _ _ (by decide)])))).trans (by decide)), fun w' hS => run_notV (b := true) _ _ hop w' (by (repeat (first | rw [eval_same _ _ (by (try simp only [put_size]); omega)] | rw [eval_far _ _ (by decide)])))⟩) hS23 ?_
  rw [hd, ← LR_snoc]
  clear ho hg hop hd hfr
  obtain ⟨o25, ho, hg, hop, hd⟩ := isOpG_out q25
  have hfr := hall ([0, 1, 2, 3, 4, 5, 6, 7, 8, 9, 10, 11, 12, 13, 14, 15, 16, 17, 18, 19, 20, 21, 22, 23, 24], 25) (by simp)
  refine wpAnyH_take (listed := LR 27 [0, 1, 2, 3, 4, 5, 6, 7, 8, 9, 10, 11, 12, 13, 14, 15, 16, 17, 18, 19, 20, 21, 22, 23, 24]) (v := .bool false) ho hs hfr.1 hfr.2 (hQ _ _) (Or.inl ⟨((wantedB hog9 dog9 hg (by (repeat (first | rw [tmps_same _ _ (by (try simp only [put_size]); omega)] | rw [tmps_far _ _ (by decide)])))).trans (by decide)), fun w' hS => run_pickT _ _ hop w' (by (repeat (first | rw [eval_same _ _ (by (try simp only [put_size]); omega)] | rw [eval_far _ _ (by decide)]))) (by (repeat (first | rw [eval_same _ _ (by (try simp only [put_size]); omega)] | rw [eval_far _ _ (by decide)])))⟩) hS23 ?_
  rw [hd, ← LR_snoc]
  clear ho hg hop hd hfr
  obtain ⟨o26, ho, hg, hop, hd⟩ := isOpG_out q26
  have hfr := hall ([0, 1, 2, 3, 4, 5, 6, 7, 8, 9, 10, 11, 12, 13, 14, 15, 16, 17, 18, 19, 20, 21, 22, 23, 24, 25], 26) (by simp)
  refine wpAnyH_take (listed := LR 27 [0, 1, 2, 3, 4, 5, 6, 7, 8, 9, 10, 11, 12, 13, 14, 15, 16, 17, 18, 19, 20, 21, 22, 23, 24, 25]) (v := .bool false) ho hs hfr.1 hfr.2 (hQ _ _) (Or.inl ⟨(wantedN hg), fun w' hS => run_pickF _ _ hop w' (by (repeat (first | rw [eval_same _ _ (by (try simp only [put_size]); omega)] | rw [eval_far _ _ (by decide)]))) (by (repeat (first | rw [eval_same _ _ (by (try simp only [put_size]); omega)] | rw [eval_far _ _ (by decide)])))⟩) hS23 ?_
  rw [hd, ← LR_snoc]
  clear ho hg hop hd hfr
  exact wpAnyH_done rend (F _ hS23) _
def lregIB_takes : List (List Nat × Nat) := [([], 0), ([0], 1), ([0, 1], 2), ([0, 1, 2], 3), ([0, 1, 2, 3], 4), ([0, 1, 2, 3, 4], 5), ([0, 1, 2, 3, 4, 5], 6), ([0, 1, 2, 3, 4, 5, 6, 7], 8), ([0, 1, 2, 3, 4, 5, 6, 7, 8], 9), ([0, 1, 2, 3, 4, 5, 6, 7, 8, 9], 10), ([0, 1, 2, 3, 4, 5, 6, 7, 8, 9, 10], 11), ([0, 1, 2, 3, 4, 5, 6, 7, 8, 9, 10, 11], 12), ([0, 1, 2, 3, 4, 5, 6, 7, 8, 9, 10, 11, 12], 13), ([0, 1, 2, 3, 4, 5, 6, 7, 8, 9, 10, 11, 12, 13], 14), ([0, 1, 2, 3, 4, 5, 6, 7, 8, 9, 10, 11, 12, 13, 14], 15), ([0, 1, 2, 3, 4, 5, 6, 7, 8, 9, 10, 11, 12, 13, 14, 15], 16), ([0, 1, 2, 3, 4, 5, 6, 7, 8, 9, 10, 11, 12, 13, 14, 15, 16], 17), ([0, 1, 2, 3, 4, 5, 6, 7, 8, 9, 10, 11, 12, 13, 14, 15, 16, 17], 18), ([0, 1, 2, 3, 4, 5, 6, 7, 8, 9, 10, 11, 12, 13, 14, 15, 16, 17, 18], 19), ([0, 1, 2, 3, 4, 5, 6, 7, 8, 9, 10, 11, 12, 13, 14, 15, 16, 17, 18, 19], 20), ([0, 1, 2, 3, 4, 5, 6, 7, 8, 9, 10, 11, 12, 13, 14, 15, 16, 17, 18, 19, 20], 21), ([0, 1, 2, 3, 4, 5, 6, 7, 8, 9, 10, 11, 12, 13, 14, 15, 16, 17, 18, 19, 20, 21], 22), ([0, 1, 2, 3, 4, 5, 6, 7, 8, 9, 10, 11, 12, 13, 14, 15, 16, 17, 18, 19, 20, 21, 22], 23), ([0, 1, 2, 3, 4, 5, 6, 7, 8, 9, 10, 11, 12, 13, 14, 15, 16, 17, 18, 19, 20, 21, 22, 23], 24), ([0, 1, 2, 3, 4, 5, 6, 7, 8, 9, 10, 11, 12, 13, 14, 15, 16, 17, 18, 19, 20, 21, 22, 23, 24], 25), ([0, 1, 2, 3, 4, 5, 6, 7, 8, 9, 10, 11, 12, 13, 14, 15, 16, 17, 18, 19, 20, 21, 22, 23, 24, 25], 26)]
set_option maxHeartbeats 3200000 in
theorem lregIB {ops : Array Oper} {Q : Exit → Act → World → Prop} {S : World → Prop} {a0 : Act} {w5 : World} {bx g off nl cl nn cc k m : Nat} {sa : Option Addr} {X : Value} {ty1 ty2 : Array TypeId}
    (q0 : isOpG ops 0 none (.fieldAddr 108 (.tmp 4) 1) (some 37))
    (q1 : isOpG ops 1 none (.load 33 (.tmp 37)) (some 38))
    (q2 : isOpG ops 2 none (.move (.tmp 5)) (some 39))
    (q3 : isOpG ops 3 none (.indexAddr 33 (.tmp 38) (.tmp 39)) (some 40))
    (q4 : isOpG ops 4 none (.load 3 (.tmp 40)) (some 41))
    (q5 : isOpG ops 5 none (.fieldAddr 108 (.tmp 4) 2) (some 42))
    (q6 : isOpG ops 6 none (.load 3 (.tmp 42)) (some 43))
    (q7 : isOpG ops 7 none (.call { callee := .value (.func 194), args := #[.tmp 41, .tmp 43], argTypes := ty1 }) (some 44))
    (q8 : isOpG ops 8 none (.unOp .not 4 (.tmp 44)) (some 45))
    (q9 : isOpG ops 9 none (.move (.tmp 45)) (some 46))
    (q10 : isOpG ops 10 (some (9, false)) (.move (.tmp 5)) (some 47))
    (q11 : isOpG ops 11 (some (9, false)) (.fieldAddr 108 (.tmp 4) 0) (some 48))
    (q12 : isOpG ops 12 (some (9, false)) (.load 33 (.tmp 48)) (some 49))
    (q13 : isOpG ops 13 (some (9, false)) (.call { callee := .builtin .len, args := #[.tmp 49], argTypes := #[33] }) (some 50))
    (q14 : isOpG ops 14 (some (9, false)) (.binOp .lss 3 (.tmp 47) (.tmp 50) 3) (some 51))
    (q15 : isOpG ops 15 (some (9, false)) (.move (.tmp 51)) (some 52))
    (q16 : isOpG ops 16 (some (15, true)) (.fieldAddr 108 (.tmp 4) 0) (some 53))
    (q17 : isOpG ops 17 (some (15, true)) (.load 33 (.tmp 53)) (some 54))
    (q18 : isOpG ops 18 (some (15, true)) (.move (.tmp 5)) (some 55))
    (q19 : isOpG ops 19 (some (15, true)) (.indexAddr 33 (.tmp 54) (.tmp 55)) (some 56))
    (q20 : isOpG ops 20 (some (15, true)) (.load 3 (.tmp 56)) (some 57))
    (q21 : isOpG ops 21 (some (15, true)) (.fieldAddr 108 (.tmp 4) 2) (some 58))
    (q22 : isOpG ops 22 (some (15, true)) (.load 3 (.tmp 58)) (some 59))
    (q23 : isOpG ops 23 (some (15, true)) (.call { callee := .value (.func 194), args := #[.tmp 57, .tmp 59], argTypes := ty2 }) (some 60))
    (q24 : isOpG ops 24 (some (15, true)) (.unOp .not 4 (.tmp 60)) (some 61))
    (q25 : isOpG ops 25 (some (9, false)) (.pick (.tmp 52) (.tmp 61) (.const (.bool false))) (some 62))
    (q26 : isOpG ops 26 none (.pick (.tmp 46) (.const (.bool true)) (.tmp 62)) (some 63))
    (hs : Region.noSelect ops = true) (hq : (lregIB_takes.all fun p => Region.free .any ops (LR 27 p.1) p.2 && (Region.ready .any ops (LR 27 p.1)).contains p.2) = true)
    (r7 : Region.ready .any ops (LR 27 [0, 1, 2, 3, 4, 5, 6]) = [7])
    (rend : Region.ready .any ops (LR 27 [0, 1, 2, 3, 4, 5, 6, 7, 8, 9, 10, 11, 12, 13, 14, 15, 16, 17, 18, 19, 20, 21, 22, 23, 24, 25, 26]) = [])
    (hQ : ∀ (d : Option Tmp) (v : Value) c a w, Q (.panic c) (a.put d v) w → Q (.panic c) a w)
    (hsz : 63 < a0.tmps.size) (e4 : a0.eval (.tmp 4) = .pointer (some ⟨bx, 0, none⟩)) (e5 : a0.eval (.tmp 5) = .int .i64 k)
    (hS0 : S w5.drew)
    (keep : ∀ u u', S u → Below u.heap.size u u' → S u') (hkl : k < nl) (hlt : decide (k < nn) = false)
    (L0 : ∀ u, S u → (loadVar 33 ⟨bx, 0, none⟩).run Tryz.prog u = .ok (.slice sa nn cc) u) (L1 : ∀ u, S u → (loadVar 33 ⟨bx, 1, none⟩).run Tryz.prog u = .ok (.slice (some ⟨g, off, none⟩) nl cl) u) (L2 : ∀ u, S u → (loadVar 3 ⟨bx, 2, none⟩).run Tryz.prog u = .ok (.int .i64 m) u)
    (LX : ∀ u, S u → (loadVar 3 ⟨g, off + k, none⟩).run Tryz.prog u = .ok X u) (K1 : ∀ u, S u → Calls Tryz.prog 194 #[X, .int .i64 m] u fun e w' => e = .returned (.bool true) ∧ Below u.heap.size u w')
    (F : ∀ (wc : World), S wc → Q .normal (((((((((((((((((((((((((((a0.put (some 37) (.pointer (some ⟨bx, 1, none⟩))).put (some 38) (.slice (some ⟨g, off, none⟩) nl cl)).put (some 39) (.int .i64 k)).put (some 40) (.pointer (some ⟨g, off + k, none⟩))).put (some 41) (X)).put (some 42) (.pointer (some ⟨bx, 2, none⟩))).put (some 43) (.int .i64 m)).put (some 44) (.bool true)).put (some 45) (.bool false)).put (some 46) (.bool false)).put (some 47) (.int .i64 k)).put (some 48) (.pointer (some ⟨bx, 0, none⟩))).put (some 49) (.slice sa nn cc)).put (some 50) (.int .i64 nn)).put (some 51) (.bool false)).put (some 52) (.bool false)).put (some 53) (undef)).put (some 54) (undef)).put (some 55) (undef)).put (some 56) (undef)).put (some 57) (undef)).put (some 58) (undef)).put (some 59) (undef)).put (some 60) (undef)).put (some 61) (undef)).put (some 62) (.bool false)).put (some 63) (.bool false)) wc) :
    wpAnyH Tryz.prog .any ops Q S 27 (LR 27 []) a0 w5.drew := by
  have hall : ∀ p ∈ lregIB_takes, Region.free .any ops (LR 27 p.1) p.2 = true ∧ (Region.ready .any ops (LR 27 p.1)).contains p.2 = true := by
    intro p hp
    have := List.all_eq_true.1 hq p hp
    simpa using this
  unfold lregIB_takes at hall
  obtain ⟨og9, hog9, _, _, dog9⟩ := isOpG_out q9
  obtain ⟨og15, hog15, _, _, dog15⟩ := isOpG_out q15
  obtain ⟨o0, ho, hg, hop, hd⟩ := isOpG_out q0
  have hfr := hall ([], 0) (by simp)
  refine wpAnyH_take (listed := LR 27 []) (v := .pointer (some ⟨bx, 1, none⟩)) ho hs hfr.1 hfr.2 (hQ _ _) (Or.inl ⟨(wantedN hg), fun w' hS => fldI1 _ _ hop w' (by (repeat rw [eval_far _ _ (by decide)]); exact e4)⟩) hS0 ?_
  rw [hd, ← LR_snoc]
  clear ho hg hop hd hfr
  obtain ⟨o1, ho, hg, hop, hd⟩ := isOpG_out q1
  have hfr := hall ([0], 1) (by simp)
  refine wpAnyH_take (listed := LR 27 [0]) (v := .slice (some ⟨g, off, none⟩) nl cl) ho hs hfr.1 hfr.2 (hQ _ _) (Or.inl ⟨(wantedN hg), fun w' hS => run_loadB _ _ hop w' (by (repeat (first | rw [eval_same _ _ (by (try simp only [put_size]); omega)] | rw [eval_far _ _ (by decide)]))) (L1 _ hS)⟩) hS0 ?_
  rw [hd, ← LR_snoc]
  clear ho hg hop hd hfr
  obtain ⟨o2, ho, hg, hop, hd⟩ := isOpG_out q2
  have hfr := hall ([0, 1], 2) (by simp)
  refine wpAnyH_take (listed := LR 27 [0, 1]) (v := .int .i64 k) ho hs hfr.1 hfr.2 (hQ _ _) (Or.inl ⟨(wantedN hg), fun w' hS => run_move _ _ hop w' (by (repeat rw [eval_far _ _ (by decide)]); exact e5)⟩) hS0 ?_
  rw [hd, ← LR_snoc]
  clear ho hg hop hd hfr
  obtain ⟨o3, ho, hg, hop, hd⟩ := isOpG_out q3
  have hfr := hall ([0, 1, 2], 3) (by simp)
  refine wpAnyH_take (listed := LR 27 [0, 1, 2]) (v := .pointer (some ⟨g, off + k, none⟩)) ho hs hfr.1 hfr.2 (hQ _ _) (Or.inl ⟨(wantedN hg), fun w' hS => idxI _ _ hop w' (by (repeat (first | rw [eval_same _ _ (by (try simp only [put_size]); omega)] | rw [eval_far _ _ (by decide)]))) (by (repeat (first | rw [eval_same _ _ (by (try simp only [put_size]); omega)] | rw [eval_far _ _ (by decide)]))) hkl⟩) hS0 ?_
  rw [hd, ← LR_snoc]
  clear ho hg hop hd hfr
  obtain ⟨o4, ho, hg, hop, hd⟩ := isOpG_out q4
  have hfr := hall ([0, 1, 2, 3], 4) (by simp)
  refine wpAnyH_take (listed := LR 27 [0, 1, 2, 3]) (v := X) ho hs hfr.1 hfr.2 (hQ _ _) (Or.inl ⟨(wantedN hg), fun w' hS => run_loadB _ _ hop w' (by (repeat (first | rw [eval_same _ _ (by (try simp only [put_size]); omega)] | rw [eval_far _ _ (by decide)]))) (LX _ hS)⟩) hS0 ?_
  rw [hd, ← LR_snoc]
  clear ho hg hop hd hfr
  obtain ⟨o5, ho, hg, hop, hd⟩ := isOpG_out q5
  have hfr := hall ([0, 1, 2, 3, 4], 5) (by simp)
  refine wpAnyH_take (listed := LR 27 [0, 1, 2, 3, 4]) (v := .pointer (some ⟨bx, 2, none⟩)) ho hs hfr.1 hfr.2 (hQ _ _) (Or.inl ⟨(wantedN hg), fun w' hS => fldI2 _ _ hop w' (by (repeat rw [eval_far _ _ (by decide)]); exact e4)⟩) hS0 ?_
  rw [hd, ← LR_snoc]
  clear ho hg hop hd hfr
  obtain ⟨o6, ho, hg, hop, hd⟩ := isOpG_out q6
  have hfr := hall ([0, 1, 2, 3, 4, 5], 6) (by simp)
  refine wpAnyH_take (listed := LR 27 [0, 1, 2, 3, 4, 5]) (v := .int .i64 m) ho hs hfr.1 hfr.2 (hQ _ _) (Or.inl ⟨(wantedN hg), fun w' hS => run_loadB _ _ hop w' (by (repeat (first | rw [eval_same _ _ (by (try simp only [put_size]); omega)] | rw [eval_far _ _ (by decide)]))) (L2 _ hS)⟩) hS0 ?_
  rw [hd, ← LR_snoc]
  clear ho hg hop hd hfr
  refine wpAnyH_all r7 (by simp) ?_
  intro i hi
  obtain rfl := List.mem_singleton.1 hi
  obtain ⟨o7, ho, hg, hop, hd⟩ := isOpG_out q7
  have x7_0 : ((((((((a0.put (some 37) (.pointer (some ⟨bx, 1, none⟩))).put (some 38) (.slice (some ⟨g, off, none⟩) nl cl)).put (some 39) (.int .i64 k)).put (some 40) (.pointer (some ⟨g, off + k, none⟩))).put (some 41) (X)).put (some 42) (.pointer (some ⟨bx, 2, none⟩))).put (some 43) (.int .i64 m))).eval (.tmp 41) = X := (by (repeat (first | rw [eval_same _ _ (by (try simp only [put_size]); omega)] | rw [eval_far _ _ (by decide)])))
  have x7_1 : ((((((((a0.put (some 37) (.pointer (some ⟨bx, 1, none⟩))).put (some 38) (.slice (some ⟨g, off, none⟩) nl cl)).put (some 39) (.int .i64 k)).put (some 40) (.pointer (some ⟨g, off + k, none⟩))).put (some 41) (X)).put (some 42) (.pointer (some ⟨bx, 2, none⟩))).put (some 43) (.int .i64 m))).eval (.tmp 43) = .int .i64 m := (by (repeat (first | rw [eval_same _ _ (by (try simp only [put_size]); omega)] | rw [eval_far _ _ (by decide)])))
  refine wpOp_callG ho (wantedN hg) (run_callV 194 Tryz.func194 (by kernel_rfl) (by kernel_rfl) #[.tmp 41, .tmp 43] _ hop #[X, .int .i64 m] (by simp only [List.map_toArray, List.map_cons, List.map_nil, x7_0, x7_1])) ?_
  refine (K1 _ hS0).mono ?_
  rintro e u1 ⟨rfl, b1⟩
  have hS7 := keep _ _ hS0 b1
  refine ⟨_, rfl, hS7, ?_⟩
  rw [hd]
  clear ho hg hop hd
  rw [← LR_snoc]
  obtain ⟨o8, ho, hg, hop, hd⟩ := isOpG_out q8
  have hfr := hall ([0, 1, 2, 3, 4, 5, 6, 7], 8) (by simp)
  refine wpAnyH_take (listed := LR 27 [0, 1, 2, 3, 4, 5, 6, 7]) (v := .bool false) ho hs hfr.1 hfr.2 (hQ _ _) (Or.inl ⟨(wantedN hg), fun w' hS => run_notV (b := true) _ _ hop w' (by (repeat (first | rw [eval_same _ _ (by (try simp only [put_size]); omega)] | rw [eval_far _ _ (by decide)])))⟩) hS7 ?_
  rw [hd, ← LR_snoc]
  clear ho hg hop hd hfr
  obtain ⟨o9, ho, hg, hop, hd⟩ := isOpG_out q9
  have hfr := hall ([0, 1, 2, 3, 4, 5, 6, 7, 8], 9) (by simp)
  refine wpAnyH_take (listed := LR 27 [0, 1, 2, 3, 4, 5, 6, 7, 8]) (v := .bool false) ho hs hfr.1 hfr.2 (hQ _ _) (Or.inl ⟨(wantedN hg), fun w' hS => run_move _ _ hop w' (by (repeat (first | rw [eval_same _ _ (by (try simp only [put_size]); omega)] | rw [eval_far _ _ (by decide)])))⟩) hS7 ?_
  rw [hd, ← LR_snoc]
  clear ho hg hop hd hfr
  obtain ⟨o10, ho, hg, hop, hd⟩ := isOpG_out q10
  have hfr := hall ([0, 1, 2, 3, 4, 5, 6, 7, 8, 9], 10) (by simp)
  refine wpAnyH_take (listed := LR 27 [0, 1, 2, 3, 4, 5, 6, 7, 8, 9]) (v := .int .i64 k) ho hs hfr.1 hfr.2 (hQ _ _) (Or.inl ⟨((wantedB hog9 dog9 hg (by (repeat (first | rw [tmps_same _ _ (by (try simp only [put_size]); omega)] | rw [tmps_far _ _ (by decide)])))).trans (by decide)), fun w' hS => run_move _ _ hop w' (by (repeat rw [eval_far _ _ (by decide)]); exact e5)⟩) hS7 ?_
  rw [hd, ← LR_snoc]
  clear ho hg hop hd hfr
  obtain ⟨o11, ho, hg, hop, hd⟩ := isOpG_out q11
  have hfr := hall ([0, 1, 2, 3, 4, 5, 6, 7, 8, 9, 10], 11) (by simp)
  refine wpAnyH_take (listed := LR 27 [0, 1, 2, 3, 4, 5, 6, 7, 8, 9, 10]) (v := .pointer (some ⟨bx, 0, none⟩)) ho hs hfr.1 hfr.2 (hQ _ _) (Or.inl ⟨((wantedB hog9 dog9 hg (by (repeat (first | rw [tmps_same _ _ (by (try simp only [put_size]); omega)] | rw [tmps_far _ _ (by decide)])))).trans (by decide)), fun w' hS => fldI0 _ _ hop w' (by (repeat rw [eval_far _ _ (by decide)]); exact e4)⟩) hS7 ?_
  rw [hd, ← LR_snoc]
  clear ho hg hop hd hfr
  obtain ⟨o12, ho, hg, hop, hd⟩ := isOpG_out q12
  have hfr := hall ([0, 1, 2, 3, 4, 5, 6, 7, 8, 9, 10, 11], 12) (by simp)
  refine wpAnyH_take (listed := LR 27 [0, 1, 2, 3, 4, 5, 6, 7, 8, 9, 10, 11]) (v := .slice sa nn cc) ho hs hfr.1 hfr.2 (hQ _ _) (Or.inl ⟨((wantedB hog9 dog9 hg (by (repeat (first | rw [tmps_same _ _ (by (try simp only [put_size]); omega)] | rw [tmps_far _ _ (by decide)])))).trans (by decide)), fun w' hS => run_loadB _ _ hop w' (by (repeat (first | rw [eval_same _ _ (by (try simp only [put_size]); omega)] | rw [eval_far _ _ (by decide)]))) (L0 _ hS)⟩) hS7 ?_
  rw [hd, ← LR_snoc]
  clear ho hg hop hd hfr
  obtain ⟨o13, ho, hg, hop, hd⟩ := isOpG_out q13
  have hfr := hall ([0, 1, 2, 3, 4, 5, 6, 7, 8, 9, 10, 11, 12], 13) (by simp)
  refine wpAnyH_take (listed := LR 27 [0, 1, 2, 3, 4, 5, 6, 7, 8, 9, 10, 11, 12]) (v := .int .i64 nn) ho hs hfr.1 hfr.2 (hQ _ _) (Or.inl ⟨((wantedB hog9 dog9 hg (by (repeat (first | rw [tmps_same _ _ (by (try simp only [put_size]); omega)] | rw [tmps_far _ _ (by decide)])))).trans (by decide)), fun w' hS => lenI _ _ hop w' (by (repeat (first | rw [eval_same _ _ (by (try simp only [put_size]); omega)] | rw [eval_far _ _ (by decide)])))⟩) hS7 ?_
  rw [hd, ← LR_snoc]
  clear ho hg hop hd hfr
  obtain ⟨o14, ho, hg, hop, hd⟩ := isOpG_out q14
  have hfr := hall ([0, 1, 2, 3, 4, 5, 6, 7, 8, 9, 10, 11, 12, 13], 14) (by simp)
  refine wpAnyH_take (listed := LR 27 [0, 1, 2, 3, 4, 5, 6, 7, 8, 9, 10, 11, 12, 13]) (v := .bool false) ho hs hfr.1 hfr.2 (hQ _ _) (Or.inl ⟨((wantedB hog9 dog9 hg (by (repeat (first | rw [tmps_same _ _ (by (try simp only [put_size]); omega)] | rw [tmps_far _ _ (by decide)])))).trans (by decide)), fun w' hS => run_binV _ _ hop w' (by (repeat (first | rw [eval_same _ _ (by (try simp only [put_size]); omega)] | rw [eval_far _ _ (by decide)]))) (by (repeat (first | rw [eval_same _ _ (by (try simp only [put_size]); omega)] | rw [eval_far _ _ (by decide)]))) (by first | rfl | go_simp) ((fun u => lssB k nn false hlt u) w')⟩) hS7 ?_
  rw [hd, ← LR_snoc]
  clear ho hg hop hd hfr
  obtain ⟨o15, ho, hg, hop, hd⟩ := isOpG_out q15
  have hfr := hall ([0, 1, 2, 3, 4, 5, 6, 7, 8, 9, 10, 11, 12, 13, 14], 15) (by simp)
  refine wpAnyH_take (listed := LR 27 [0, 1, 2, 3, 4, 5, 6, 7, 8, 9, 10, 11, 12, 13, 14]) (v := .bool false) ho hs hfr.1 hfr.2 (hQ _ _) (Or.inl ⟨((wantedB hog9 dog9 hg (by (repeat (first | rw [tmps_same _ _ (by (try simp only [put_size]); omega)] | rw [tmps_far _ _ (by decide)])))).trans (by decide)), fun w' hS => run_move _ _ hop w' (by (repeat (first | rw [eval_same _ _ (by (try simp only [put_size]); omega)] | rw [eval_far _ _ (by decide)])))⟩) hS7 ?_
  rw [hd, ← LR_snoc]
  clear ho hg hop hd hfr
  obtain ⟨o16, ho, hg, hop, hd⟩ := isOpG_out q16
  have hfr := hall ([0, 1, 2, 3, 4, 5, 6, 7, 8, 9, 10, 11, 12, 13, 14, 15], 16) (by simp)
  refine wpAnyH_take (listed := LR 27 [0, 1, 2, 3, 4, 5, 6, 7, 8, 9, 10, 11, 12, 13, 14, 15]) (v := undef) ho hs hfr.1 hfr.2 (hQ _ _) (Or.inr ⟨((wantedB hog15 dog15 hg (by (repeat (first | rw [tmps_same _ _ (by (try simp only [put_size]); omega)] | rw [tmps_far _ _ (by decide)])))).trans (by decide)), rfl⟩) hS7 ?_
  rw [hd, ← LR_snoc]
  clear ho hg hop hd hfr
  obtain ⟨o17, ho, hg, hop, hd⟩ := isOpG_out q17
  have hfr := hall ([0, 1, 2, 3, 4, 5, 6, 7, 8, 9, 10, 11, 12, 13, 14, 15, 16], 17) (by simp)
  refine wpAnyH_take (listed := LR 27 [0, 1, 2, 3, 4, 5, 6, 7, 8, 9, 10, 11, 12, 13, 14, 15, 16]) (v := undef) ho hs hfr.1 hfr.2 (hQ _ _) (Or.inr ⟨((wantedB hog15 dog15 hg (by (repeat (first | rw [tmps_same _ _ (by (try simp only [put_size]); omega)] | rw [tmps_far _ _ (by decide)])))).trans (by decide)), rfl⟩) hS7 ?_
  rw [hd, ← LR_snoc]
  clear ho hg hop hd hfr
  obtain ⟨o18, ho, hg, hop, hd⟩ := isOpG_out q18
  have hfr := hall ([0, 1, 2, 3, 4, 5, 6, 7, 8, 9, 10, 11, 12, 13, 14, 15, 16, 17], 18) (by simp)
  refine wpAnyH_take (listed := LR 27 [0, 1, 2, 3, 4, 5, 6, 7, 8, 9, 10, 11, 12, 13, 14, 15, 16, 17]) (v := undef) ho hs hfr.1 hfr.2 (hQ _ _) (Or.inr ⟨((wantedB hog15 dog15 hg (by (repeat (first | rw [tmps_same _ _ (by (try simp only [put_size]); omega)] | rw [tmps_far _ _ (by decide)])))).trans (by decide)), rfl⟩) hS7 ?_
  rw [hd, ← LR_snoc]
  clear ho hg hop hd hfr
  obtain ⟨o19, ho, hg, hop, hd⟩ := isOpG_out q19
  have hfr := hall ([0, 1, 2, 3, 4, 5, 6, 7, 8, 9, 10, 11, 12, 13, 14, 15, 16, 17, 18], 19) (by simp)
  refine wpAnyH_take (listed := LR 27 [0, 1, 2, 3, 4, 5, 6, 7, 8, 9, 10, 11, 12, 13, 14, 15, 16, 17, 18]) (v := undef) ho hs hfr.1 hfr.2 (hQ _ _) (Or.inr ⟨((wantedB hog15 dog15 hg (by (repeat (first | rw [tmps_same _ _ (by (try simp only [put_size]); omega)] | rw [tmps_far _ _ (by decide)])))).trans (by decide)), rfl⟩) hS7 ?_
  rw [hd, ← LR_snoc]
  clear ho hg hop hd hfr
  obtain ⟨o20, ho, hg, hop, hd⟩ := isOpG_out q20
  have hfr := hall ([0, 1, 2, 3, 4, 5, 6, 7, 8, 9, 10, 11, 12, 13, 14, 15, 16, 17, 18, 19], 20) (by simp)
  refine wpAnyH_take (listed := LR 27 [0, 1, 2, 3, 4, 5, 6, 7, 8, 9, 10, 11, 12, 13, 14, 15, 16, 17, 18, 19]) (v := undef) ho hs hfr.1 hfr.2 (hQ _ _) (Or.inr ⟨((wantedB hog15 dog15 hg (by (repeat (first | rw [tmps_same _ _ (by (try simp only [put_size]); omega)] | rw [tmps_far _ _ (by decide)])))).trans (by decide)), rfl⟩) hS7 ?_
  rw [hd, ← LR_snoc]
  clear ho hg hop hd hfr
  obtain ⟨o21, ho, hg, hop, hd⟩ := isOpG_out q21
  have hfr := hall ([0, 1, 2, 3, 4, 5, 6, 7, 8, 9, 10, 11, 12, 13, 14, 15, 16, 17, 18, 19, 20], 21) (by simp)
  refine wpAnyH_take (listed := LR 27 [0, 1, 2, 3, 4, 5, 6, 7, 8, 9, 10, 11, 12, 13, 14, 15, 16, 17, 18, 19, 20]) (v := undef) ho hs hfr.1 hfr.2 (hQ _ _) (Or.inr ⟨((wantedB hog15 dog15 hg (by (repeat (first | rw [tmps_same _ _ (by (try simp only [put_size]); omega)] | rw [tmps_far _ _ (by decide)])))).trans (by decide)), rfl⟩) hS7 ?_
  rw [hd, ← LR_snoc]
  clear ho hg hop hd hfr
  obtain ⟨o22, ho, hg, hop, hd⟩ := isOpG_out q22
  have hfr := hall ([0, 1, 2, 3, 4, 5, 6, 7, 8, 9, 10, 11, 12, 13, 14, 15, 16, 17, 18, 19, 20, 21], 22) (by simp)
  refine wpAnyH_take (listed := LR 27 [0, 1, 2, 3, 4, 5, 6, 7, 8, 9, 10, 11, 12, 13, 14, 15, 16, 17, 18, 19, 20, 21]) (v := undef) ho hs hfr.1 hfr.2 (hQ _ _) (Or.inr ⟨((wantedB hog15 dog15 hg (by (repeat (first | rw [tmps_same _ _ (by (try simp only [put_size]); omega)] | rw [tmps_far _ _ (by decide)])))).trans (by decide)), rfl⟩) hS7 ?_
  rw [hd, ← LR_snoc]
  clear ho hg hop hd hfr
  obtain ⟨o23, ho, hg, hop, hd⟩ := isOpG_out q23
  have hfr := hall ([0, 1, 2, 3, 4, 5, 6, 7, 8, 9, 10, 11, 12, 13, 14, 15, 16, 17, 18, 19, 20, 21, 22], 23) (by simp)
  refine wpAnyH_take (listed := LR 27 [0, 1, 2, 3, 4, 5, 6, 7, 8, 9, 10, 11, 12, 13, 14, 15, 16, 17, 18, 19, 20, 21, 22]) (v := undef) ho hs hfr.1 hfr.2 (hQ _ _) (Or.inr ⟨((wantedB hog15 dog15 hg (by (repeat (first | rw [tmps_same _ _ (by (try simp only [put_size]); omega)] | rw [tmps_far _ _ (by decide)])))).trans (by decide)), rfl⟩) hS7 ?_
  rw [hd, ← LR_snoc]
  clear ho hg hop hd hfr
  obtain ⟨o24, ho, hg, hop, hd⟩ := isOpG_out q24
  have hfr := hall ([0, 1, 2, 3, 4, 5, 6, 7, 8, 9, 10, 11, 12, 13, 14, 15, 16, 17, 18, 19, 20, 21, 22, 23], 24) (by simp)
  refine wpAnyH_take (listed := LR 27 [0, 1, 2, 3, 4, 5, 6, 7, 8, 9, 10, 11, 12, 13, 14, 15, 16, 17, 18, 19, 20, 21, 22, 23]) (v := undef) ho hs hfr.1 hfr.2 (hQ _ _) (Or.inr ⟨((wantedB hog15 dog15 hg (by (repeat (first | rw [tmps_same _ _ (by (try simp only [put_size]); omega)] | rw [tmps_far _ _ (by decide)])))).trans (by decide)), rfl⟩) hS7 ?_
  rw [hd, ← LR_snoc]
  clear ho hg hop hd hfr
  obtain ⟨o25, ho, hg, hop, hd⟩ := isOpG_out q25
  have hfr := hall ([0, 1, 2, 3, 4, 5, 6, 7, 8, 9, 10, 11, 12, 13, 14, 15, 16, 17, 18, 19, 20, 21, 22, 23, 24], 25) (by simp)
  refine wpAnyH_take (listed := LR 27 [0, 1, 2, 3, 4, 5, 6, 7, 8, 9, 10, 11, 12, 13, 14, 15, 16, 17, 18, 19, 20, 21, 22, 23, 24]) (v := .bool false) ho hs hfr.1 hfr.2 (hQ _ _) (Or.inl ⟨((wantedB hog9 dog9 hg (by (repeat (first | rw [tmps_same _ _ (by (try simp only [put_size]); omega)] | rw [tmps_far _ _ (by decide)])))).trans (by decide)), fun w' hS => run_pickF _ _ hop w' (by (repeat (first | rw [eval_same _ _ (by (try simp only [put_size]); omega)] | rw [eval_far _ _ (by decide)]))) rfl⟩) hS7 ?_
  rw [hd, ← LR_snoc]
  clear ho hg hop hd hfr
  obtain ⟨o26, ho, hg, hop, hd⟩ := isOpG_out q26
  have hfr := hall ([0, 1, 2, 3, 4, 5, 6, 7, 8, 9, 10, 11, 12, 13, 14, 15, 16, 17, 18, 19, 20, 21, 22, 23, 24, 25], 26) (by simp)
  refine wpAnyH_take (listed := LR 27 [0, 1, 2, 3, 4, 5, 6, 7, 8, 9, 10, 11, 12, 13, 14, 15, 16, 17, 18, 19, 20, 21, 22, 23, 24, 25]) (v := .bool false) ho hs hfr.1 hfr.2 (hQ _ _) (Or.inl ⟨(wantedN hg), fun w' hS => run_pickF _ _ hop w' (by (repeat (first | rw [eval_same _ _ (by (try simp only [put_size]); omega)] | rw [eval_far _ _ (by decide)]))) (by (repeat (first | rw [eval_same _ _ (by (try simp only [put_size]); omega)] | rw [eval_far _ _ (by decide)])))⟩) hS7 ?_
  rw [hd, ← LR_snoc]
  clear ho hg hop hd hfr
  exact wpAnyH_done rend (F _ hS7) _
def lregRA_takes : List (List Nat × Nat) := [([], 0), ([0], 1), ([0, 1], 2), ([0, 1, 2], 3), ([0, 1, 2, 3], 4), ([0, 1, 2, 3, 4], 5), ([0, 1, 2, 3, 4, 5], 6), ([0, 1, 2, 3, 4, 5, 6, 7], 8), ([0, 1, 2, 3, 4, 5, 6, 7, 8], 9), ([0, 1, 2, 3, 4, 5, 6, 7, 8, 9], 10), ([0, 1, 2, 3, 4, 5, 6, 7, 8, 9, 10], 11), ([0, 1, 2, 3, 4, 5, 6, 7, 8, 9, 10, 11], 12), ([0, 1, 2, 3, 4, 5, 6, 7, 8, 9, 10, 11, 12], 13), ([0, 1, 2, 3, 4, 5, 6, 7, 8, 9, 10, 11, 12, 13], 14), ([0, 1, 2, 3, 4, 5, 6, 7, 8, 9, 10, 11, 12, 13, 14], 15), ([0, 1, 2, 3, 4, 5, 6, 7, 8, 9, 10, 11, 12, 13, 14, 15], 16), ([0, 1, 2, 3, 4, 5, 6, 7, 8, 9, 10, 11, 12, 13, 14, 15, 16], 17), ([0, 1, 2, 3, 4, 5, 6, 7, 8, 9, 10, 11, 12, 13, 14, 15, 16, 17], 18), ([0, 1, 2, 3, 4, 5, 6, 7, 8, 9, 10, 11, 12, 13, 14, 15, 16, 17, 18], 19), ([0, 1, 2, 3, 4, 5, 6, 7, 8, 9, 10, 11, 12, 13, 14, 15, 16, 17, 18, 19], 20), ([0, 1, 2, 3, 4, 5, 6, 7, 8, 9, 10, 11, 12, 13, 14, 15, 16, 17, 18, 19, 20], 21), ([0, 1, 2, 3, 4, 5, 6, 7, 8, 9, 10, 11, 12, 13, 14, 15, 16, 17, 18, 19, 20, 21], 22), ([0, 1, 2, 3, 4, 5, 6, 7, 8, 9, 10, 11, 12, 13, 14, 15, 16, 17, 18, 19, 20, 21, 22, 23], 24), ([0, 1, 2, 3, 4, 5, 6, 7, 8, 9, 10, 11, 12, 13, 14, 15, 16, 17, 18, 19, 20, 21, 22, 23, 24], 25), ([0, 1, 2, 3, 4, 5, 6, 7, 8, 9, 10, 11, 12, 13, 14, 15, 16, 17, 18, 19, 20, 21, 22, 23, 24, 25], 26)]
set_option maxHeartbeats 3200000 in
theorem lregRA {ops : Array Oper} {Q : Exit → Act → World → Prop} {S : World → Prop} {a0 : Act} {w5 : World} {bx g off nl cl nn cc k m g2 off2 : Nat} {X Y : Value} {ty1 ty2 : Array TypeId}
    (q0 : isOpG ops 0 none (.fieldAddr 110 (.tmp 4) 1) (some 37))
    (q1 : isOpG ops 1 none (.load 30 (.tmp 37)) (some 38))
    (q2 : isOpG ops 2 none (.move (.tmp 5)) (some 39))
    (q3 : isOpG ops 3 none (.indexAddr 30 (.tmp 38) (.tmp 39)) (some 40))
    (q4 : isOpG ops 4 none (.load 27 (.tmp 40)) (some 41))
    (q5 : isOpG ops 5 none (.fieldAddr 110 (.tmp 4) 2) (some 42))
    (q6 : isOpG ops 6 none (.load 3 (.tmp 42)) (some 43))
    (q7 : isOpG ops 7 none (.call { callee := .value (.func 195), args := #[.tmp 41, .tmp 43], argTypes := ty1 }) (some 44))
    (q8 : isOpG ops 8 none (.unOp .not 4 (.tmp 44)) (some 45))
    (q9 : isOpG ops 9 none (.move (.tmp 45)) (some 46))
    (q10 : isOpG ops 10 (some (9, false)) (.move (.tmp 5)) (some 47))
    (q11 : isOpG ops 11 (some (9, false)) (.fieldAddr 110 (.tmp 4) 0) (some 48))
    (q12 : isOpG ops 12 (some (9, false)) (.load 30 (.tmp 48)) (some 49))
    (q13 : isOpG ops 13 (some (9, false)) (.call { callee := .builtin .len, args := #[.tmp 49], argTypes := #[30] }) (some 50))
    (q14 : isOpG ops 14 (some (9, false)) (.binOp .lss 3 (.tmp 47) (.tmp 50) 3) (some 51))
    (q15 : isOpG ops 15 (some (9, false)) (.move (.tmp 51)) (some 52))
    (q16 : isOpG ops 16 (some (15, true)) (.fieldAddr 110 (.tmp 4) 0) (some 53))
    (q17 : isOpG ops 17 (some (15, true)) (.load 30 (.tmp 53)) (some 54))
    (q18 : isOpG ops 18 (some (15, true)) (.move (.tmp 5)) (some 55))
    (q19 : isOpG ops 19 (some (15, true)) (.indexAddr 30 (.tmp 54) (.tmp 55)) (some 56))
    (q20 : isOpG ops 20 (some (15, true)) (.load 27 (.tmp 56)) (some 57))
    (q21 : isOpG ops 21 (some (15, true)) (.fieldAddr 110 (.tmp 4) 2) (some 58))
    (q22 : isOpG ops 22 (some (15, true)) (.load 3 (.tmp 58)) (some 59))
    (q23 : isOpG ops 23 (some (15, true)) (.call { callee := .value (.func 195), args := #[.tmp 57, .tmp 59], argTypes := ty2 }) (some 60))
    (q24 : isOpG ops 24 (some (15, true)) (.unOp .not 4 (.tmp 60)) (some 61))
    (q25 : isOpG ops 25 (some (9, false)) (.pick (.tmp 52) (.tmp 61) (.const (.bool false))) (some 62))
    (q26 : isOpG ops 26 none (.pick (.tmp 46) (.const (.bool true)) (.tmp 62)) (some 63))
    (hs : Region.noSelect ops = true) (hq : (lregRA_takes.all fun p => Region.free .any ops (LR 27 p.1) p.2 && (Region.ready .any ops (LR 27 p.1)).contains p.2) = true)
    (r7 : Region.ready .any ops (LR 27 [0, 1, 2, 3, 4, 5, 6]) = [7])
    (r23 : Region.ready .any ops (LR 27 [0, 1, 2, 3, 4, 5, 6, 7, 8, 9, 10, 11, 12, 13, 14, 15, 16, 17, 18, 19, 20, 21, 22]) = [23])
    (rend : Region.ready .any ops (LR 27 [0, 1, 2, 3, 4, 5, 6, 7, 8, 9, 10, 11, 12, 13, 14, 15, 16, 17, 18, 19, 20, 21, 22, 23, 24, 25, 26]) = [])
    (hQ : ∀ (d : Option Tmp) (v : Value) c a w, Q (.panic c) (a.put d v) w → Q (.panic c) a w)
    (hsz : 63 < a0.tmps.size) (e4 : a0.eval (.tmp 4) = .pointer (some ⟨bx, 0, none⟩)) (e5 : a0.eval (.tmp 5) = .int .i64 k)
    (hS0 : S w5.drew)
    (keep : ∀ u u', S u → Below u.heap.size u u' → S u') (hkl : k < nl) (hlt : decide (k < nn) = true)
    (L0 : ∀ u, S u → (loadVar 30 ⟨bx, 0, none⟩).run Tryz.prog u = .ok (.slice (some ⟨g2, off2, none⟩) nn cc) u) (L1 : ∀ u, S u → (loadVar 30 ⟨bx, 1, none⟩).run Tryz.prog u = .ok (.slice (some ⟨g, off, none⟩) nl cl) u) (L2 : ∀ u, S u → (loadVar 3 ⟨bx, 2, none⟩).run Tryz.prog u = .ok (.int .i64 m) u)
    (LX : ∀ u, S u → (loadVar 27 ⟨g, off + k * 24, none⟩).run Tryz.prog u = .ok X u) (K1 : ∀ u, S u → Calls Tryz.prog 195 #[X, .int .i64 m] u fun e w' => e = .returned (.bool true) ∧ Below u.heap.size u w')
    (hkn : k < nn) (LY : ∀ u, S u → (loadVar 27 ⟨g2, off2 + k * 24, none⟩).run Tryz.prog u = .ok Y u) (K2 : ∀ u, S u → Calls Tryz.prog 195 #[Y, .int .i64 m] u fun e w' => e = .returned (.bool true) ∧ Below u.heap.size u w')
    (F : ∀ (wc : World), S wc → Q .normal (((((((((((((((((((((((((((a0.put (some 37) (.pointer (some ⟨bx, 1, none⟩))).put (some 38) (.slice (some ⟨g, off, none⟩) nl cl)).put (some 39) (.int .i64 k)).put (some 40) (.pointer (some ⟨g, off + k * 24, none⟩))).put (some 41) (X)).put (some 42) (.pointer (some ⟨bx, 2, none⟩))).put (some 43) (.int .i64 m)).put (some 44) (.bool true)).put (some 45) (.bool false)).put (some 46) (.bool false)).put (some 47) (.int .i64 k)).put (some 48) (.pointer (some ⟨bx, 0, none⟩))).put (some 49) (.slice (some ⟨g2, off2, none⟩) nn cc)).put (some 50) (.int .i64 nn)).put (some 51) (.bool true)).put (some 52) (.bool true)).put (some 53) (.pointer (some ⟨bx, 0, none⟩))).put (some 54) (.slice (some ⟨g2, off2, none⟩) nn cc)).put (some 55) (.int .i64 k)).put (some 56) (.pointer (some ⟨g2, off2 + k * 24, none⟩))).put (some 57) (Y)).put (some 58) (.pointer (some ⟨bx, 2, none⟩))).put (some 59) (.int .i64 m)).put (some 60) (.bool true)).put (some 61) (.bool false)).put (some 62) (.bool false)).put (some 63) (.bool false)) wc) :
    wpAnyH Tryz.prog .any ops Q S 27 (LR 27 []) a0 w5.drew := by
  have hall : ∀ p ∈ lregRA_takes, Region.free .any ops (LR 27 p.1) p.2 = true ∧ (Region.ready .any ops (LR 27 p.1)).contains p.2 = true := by
    intro p hp
    have := List.all_eq_true.1 hq p hp
    simpa using this
  unfold lregRA_takes at hall
  obtain ⟨og9, hog9, _, _, dog9⟩ := isOpG_out q9
  obtain ⟨og15, hog15, _, _, dog15⟩ := isOpG_out q15
  obtain ⟨o0, ho, hg, hop, hd⟩ := isOpG_out q0
  have hfr := hall ([], 0) (by simp)
  refine wpAnyH_take (listed := LR 27 []) (v := .pointer (some ⟨bx, 1, none⟩)) ho hs hfr.1 hfr.2 (hQ _ _) (Or.inl ⟨(wantedN hg), fun w' hS => fldR1 _ _ hop w' (by (repeat rw [eval_far _ _ (by decide)]); exact e4)⟩) hS0 ?_
  rw [hd, ← LR_snoc]
  clear ho hg hop hd hfr
  obtain ⟨o1, ho, hg, hop, hd⟩ := isOpG_out q1
  have hfr := hall ([0], 1) (by simp)
  refine wpAnyH_take (listed := LR 27 [0]) (v := .slice (some ⟨g, off, none⟩) nl cl) ho hs hfr.1 hfr.2 (hQ _ _) (Or.inl ⟨(wantedN hg), fun w' hS => run_loadB _ _ hop w' (by (repeat (first | rw [eval_same _ _ (by (try simp only [put_size]); omega)] | rw [eval_far _ _ (by decide)]))) (L1 _ hS)⟩) hS0 ?_
  rw [hd, ← LR_snoc]
  clear ho hg hop hd hfr
  obtain ⟨o2, ho, hg, hop, hd⟩ := isOpG_out q2
  have hfr := hall ([0, 1], 2) (by simp)
  refine wpAnyH_take (listed := LR 27 [0, 1]) (v := .int .i64 k) ho hs hfr.1 hfr.2 (hQ _ _) (Or.inl ⟨(wantedN hg), fun w' hS => run_move _ _ hop w' (by (repeat rw [eval_far _ _ (by decide)]); exact e5)⟩) hS0 ?_
  rw [hd, ← LR_snoc]
  clear ho hg hop hd hfr
  obtain ⟨o3, ho, hg, hop, hd⟩ := isOpG_out q3
  have hfr := hall ([0, 1, 2], 3) (by simp)
  refine wpAnyH_take (listed := LR 27 [0, 1, 2]) (v := .pointer (some ⟨g, off + k * 24, none⟩)) ho hs hfr.1 hfr.2 (hQ _ _) (Or.inl ⟨(wantedN hg), fun w' hS => idxR _ _ hop w' (by (repeat (first | rw [eval_same _ _ (by (try simp only [put_size]); omega)] | rw [eval_far _ _ (by decide)]))) (by (repeat (first | rw [eval_same _ _ (by (try simp only [put_size]); omega)] | rw [eval_far _ _ (by decide)]))) hkl⟩) hS0 ?_
  rw [hd, ← LR_snoc]
  clear ho hg hop hd hfr
  obtain ⟨o4, ho, hg, hop, hd⟩ := isOpG_out q4
  have hfr := hall ([0, 1, 2, 3], 4) (by simp)
  refine wpAnyH_take (listed := LR 27 [0, 1, 2, 3]) (v := X) ho hs hfr.1 hfr.2 (hQ _ _) (Or.inl ⟨(wantedN hg), fun w' hS => run_loadB _ _ hop w' (by (repeat (first | rw [eval_same _ _ (by (try simp only [put_size]); omega)] | rw [eval_far _ _ (by decide)]))) (LX _ hS)⟩) hS0 ?_
  rw [hd, ← LR_snoc]
  clear ho hg hop hd hfr
  obtain ⟨o5, ho, hg, hop, hd⟩ := isOpG_out q5
  have hfr := hall ([0, 1, 2, 3, 4], 5) (by simp)
  refine wpAnyH_take (listed := LR 27 [0, 1, 2, 3, 4]) (v := .pointer (some ⟨bx, 2, none⟩)) ho hs hfr.1 hfr.2 (hQ _ _) (Or.inl ⟨(wantedN hg), fun w' hS => fldR2 _ _ hop w' (by (repeat rw [eval_far _ _ (by decide)]); exact e4)⟩) hS0 ?_
  rw [hd, ← LR_snoc]
  clear ho hg hop hd hfr
  obtain ⟨o6, ho, hg, hop, hd⟩ := isOpG_out q6
  have hfr := hall ([0, 1, 2, 3, 4, 5], 6) (by simp)
  refine wpAnyH_take (listed := LR 27 [0, 1, 2, 3, 4, 5]) (v := .int .i64 m) ho hs hfr.1 hfr.2 (hQ _ _) (Or.inl ⟨(wantedN hg), fun w' hS => run_loadB _ _ hop w' (by (repeat (first | rw [eval_same _ _ (by (try simp only [put_size]); omega)] | rw [eval_far _ _ (by decide)]))) (L2 _ hS)⟩) hS0 ?_
  rw [hd, ← LR_snoc]
  clear ho hg hop hd hfr
  refine wpAnyH_all r7 (by simp) ?_
  intro i hi
  obtain rfl := List.mem_singleton.1 hi
  obtain ⟨o7, ho, hg, hop, hd⟩ := isOpG_out q7
  have x7_0 : ((((((((a0.put (some 37) (.pointer (some ⟨bx, 1, none⟩))).put (some 38) (.slice (some ⟨g, off, none⟩) nl cl)).put (some 39) (.int .i64 k)).put (some 40) (.pointer (some ⟨g, off + k * 24, none⟩))).put (some 41) (X)).put (some 42) (.pointer (some ⟨bx, 2, none⟩))).put (some 43) (.int .i64 m))).eval (.tmp 41) = X := (by (repeat (first | rw [eval_same _ _ (by (try simp only [put_size]); omega)] | rw [eval_far _ _ (by decide)])))
  have x7_1 : ((((((((a0.put (some 37) (.pointer (some ⟨bx, 1, none⟩))).put (some 38) (.slice (some ⟨g, off, none⟩) nl cl)).put (some 39) (.int .i64 k)).put (some 40) (.pointer (some ⟨g, off + k * 24, none⟩))).put (some 41) (X)).put (some 42) (.pointer (some ⟨bx, 2, none⟩))).put (some 43) (.int .i64 m))).eval (.tmp 43) = .int .i64 m := (by (repeat (first | rw [eval_same _ _ (by (try simp only [put_size]); omega)] | rw [eval_far _ _ (by decide)])))
  refine wpOp_callG ho (wantedN hg) (run_callV 195 Tryz.func195 (by kernel_rfl) (by kernel_rfl) #[.tmp 41, .tmp 43] _ hop #[X, .int .i64 m] (by simp only [List.map_toArray, List.map_cons, List.map_nil, x7_0, x7_1])) ?_
  refine (K1 _ hS0).mono ?_
  rintro e u1 ⟨rfl, b1⟩
  have hS7 := keep _ _ hS0 b1
  refine ⟨_, rfl, hS7, ?_⟩
  rw [hd]
  clear ho hg hop hd
  rw [← LR_snoc]
  obtain ⟨o8, ho, hg, hop, hd⟩ := isOpG_out q8
  have hfr := hall ([0, 1, 2, 3, 4, 5, 6, 7], 8) (by simp)
  refine wpAnyH_take (listed := LR 27 [0, 1, 2, 3, 4, 5, 6, 7]) (v := .bool false) ho hs hfr.1 hfr.2 (hQ _ _) (Or.inl ⟨(wantedN hg), fun w' hS => run_notV (b := true) _ _ hop w' (by (repeat (first | rw [eval_same _ _ (by (try simp only [put_size]); omega)] | rw [eval_far _ _ (by decide)])))⟩) hS7 ?_
  rw [hd, ← LR_snoc]
  clear ho hg hop hd hfr
  obtain ⟨o9, ho, hg, hop, hd⟩ := isOpG_out q9
  have hfr := hall ([0, 1, 2, 3, 4, 5, 6, 7, 8], 9) (by simp)
  refine wpAnyH_take (listed := LR 27 [0, 1, 2, 3, 4, 5, 6, 7, 8]) (v := .bool false) ho hs hfr.1 hfr.2 (hQ _ _) (Or.inl ⟨(wantedN hg), fun w' hS => run_move _ _ hop w' (by (repeat (first | rw [eval_same _ _ (by (try simp only [put_size]); omega)] | rw [eval_far _ _ (by decide)])))⟩) hS7 ?_
  rw [hd, ← LR_snoc]
  clear ho hg hop hd hfr
  obtain ⟨o10, ho, hg, hop, hd⟩ := isOpG_out q10
  have hfr := hall ([0, 1, 2, 3, 4, 5, 6, 7, 8, 9], 10) (by simp)
  refine wpAnyH_take (listed := LR 27 [0, 1, 2, 3, 4, 5, 6, 7, 8, 9]) (v := .int .i64 k) ho hs hfr.1 hfr.2 (hQ _ _) (Or.inl ⟨((wantedB hog9 dog9 hg (by (repeat (first | rw [tmps_same _ _ (by (try simp only [put_size]); omega)] | rw [tmps_far _ _ (by decide)])))).trans (by decide)), fun w' hS => run_move _ _ hop w' (by (repeat rw [eval_far _ _ (by decide)]); exact e5)⟩) hS7 ?_
  rw [hd, ← LR_snoc]
  clear ho hg hop hd hfr
  obtain ⟨o11, ho, hg, hop, hd⟩ := isOpG_out q11
  have hfr := hall ([0, 1, 2, 3, 4, 5, 6, 7, 8, 9, 10], 11) (by simp)
  refine wpAnyH_take (listed := LR 27 [0, 1, 2, 3, 4, 5, 6, 7, 8, 9, 10]) (v := .pointer (some ⟨bx, 0, none⟩)) ho hs hfr.1 hfr.2 (hQ _ _) (Or.inl ⟨((wantedB hog9 dog9 hg (by (repeat (first | rw [tmps_same _ _ (by (try simp only [put_size]); omega)] | rw [tmps_far _ _ (by decide)])))).trans (by decide)), fun w' hS => fldR0 _ _ hop w' (by (repeat rw [eval_far _ _ (by decide)]); exact e4)⟩) hS7 ?_
  rw [hd, ← LR_snoc]
  clear ho hg hop hd hfr
  obtain ⟨o12, ho, hg, hop, hd⟩ := isOpG_out q12
  have hfr := hall ([0, 1, 2, 3, 4, 5, 6, 7, 8, 9, 10, 11], 12) (by simp)
  refine wpAnyH_take (listed := LR 27 [0, 1, 2, 3, 4, 5, 6, 7, 8, 9, 10, 11]) (v := .slice (some ⟨g2, off2, none⟩) nn cc) ho hs hfr.1 hfr.2 (hQ _ _) (Or.inl ⟨((wantedB hog9 dog9 hg (by (repeat (first | rw [tmps_same _ _ (by (try simp only [put_size]); omega)] | rw [tmps_far _ _ (by decide)])))).trans (by decide)), fun w' hS => run_loadB _ _ hop w' (by (repeat (first | rw [eval_same _ _ (by (try simp only [put_size]); omega)] | rw [eval_far _ _ (by decide)]))) (L0 _ hS)⟩) hS7 ?_
  rw [hd, ← LR_snoc]
  clear ho hg hop hd hfr
  obtain ⟨o13, ho, hg, hop, hd⟩ := isOpG_out q13
  have hfr := hall ([0, 1, 2, 3, 4, 5, 6, 7, 8, 9, 10, 11, 12], 13) (by simp)
  refine wpAnyH_take (listed := LR 27 [0, 1, 2, 3, 4, 5, 6, 7, 8, 9, 10, 11, 12]) (v := .int .i64 nn) ho hs hfr.1 hfr.2 (hQ _ _) (Or.inl ⟨((wantedB hog9 dog9 hg (by (repeat (first | rw [tmps_same _ _ (by (try simp only [put_size]); omega)] | rw [tmps_far _ _ (by decide)])))).trans (by decide)), fun w' hS => lenR _ _ hop w' (by (repeat (first | rw [eval_same _ _ (by (try simp only [put_size]); omega)] | rw [eval_far _ _ (by decide)])))⟩) hS7 ?_
  rw [hd, ← LR_snoc]
  clear ho hg hop hd hfr
  obtain ⟨o14, ho, hg, hop, hd⟩ := isOpG_out q14
  have hfr := hall ([0, 1, 2, 3, 4, 5, 6, 7, 8, 9, 10, 11, 12, 13], 14) (by simp)
  refine wpAnyH_take (listed := LR 27 [0, 1, 2, 3, 4, 5, 6, 7, 8, 9, 10, 11, 12, 13]) (v := .bool true) ho hs hfr.1 hfr.2 (hQ _ _) (Or.inl ⟨((wantedB hog9 dog9 hg (by (repeat (first | rw [tmps_same _ _ (by (try simp only [put_size]); omega)] | rw [tmps_far _ _ (by decide)])))).trans (by decide)), fun w' hS => run_binV _ _ hop w' (by (repeat (first | rw [eval_same _ _ (by (try simp only [put_size]); omega)] | rw [eval_far _ _ (by decide)]))) (by (repeat (first | rw [eval_same _ _ (by (try simp only [put_size]); omega)] | rw [eval_far _ _ (by decide)]))) (by first | rfl | go_simp) ((fun u => lssB k nn true hlt u) w')⟩) hS7 ?_
  rw [hd, ← LR_snoc]
  clear ho hg hop hd hfr
  obtain ⟨o15, ho, hg, hop, hd⟩ := isOpG_out q15
  have hfr := hall ([0, 1, 2, 3, 4, 5, 6, 7, 8, 9, 10, 11, 12, 13, 14], 15) (by simp)
  refine wpAnyH_take (listed := LR 27 [0, 1, 2, 3, 4, 5, 6, 7, 8, 9, 10, 11, 12, 13, 14]) (v := .bool true) ho hs hfr.1 hfr.2 (hQ _ _) (Or.inl ⟨((wantedB hog9 dog9 hg (by (repeat (first | rw [tmps_same _ _ (by (try simp only [put_size]); omega)] | rw [tmps_far _ _ (by decide)])))).trans (by decide)), fun w' hS => run_move _ _ hop w' (by (repeat (first | rw [eval_same _ _ (by (try simp only [put_size]); omega)] | rw [eval_far _ _ (by decide)])))⟩) hS7 ?_
  rw [hd, ← LR_snoc]
  clear ho hg hop hd hfr
  obtain ⟨o16, ho, hg, hop, hd⟩ := isOpG_out q16
  have hfr := hall ([0, 1, 2, 3, 4, 5, 6, 7, 8, 9, 10, 11, 12, 13, 14, 15], 16) (by simp)
  refine wpAnyH_take (listed := LR 27 [0, 1, 2, 3, 4, 5, 6, 7, 8, 9, 10, 11, 12, 13, 14, 15]) (v := .pointer (some ⟨bx, 0, none⟩)) ho hs hfr.1 hfr.2 (hQ _ _) (Or.inl ⟨((wantedB hog15 dog15 hg (by (repeat (first | rw [tmps_same _ _ (by (try simp only [put_size]); omega)] | rw [tmps_far _ _ (by decide)])))).trans (by decide)), fun w' hS => fldR0 _ _ hop w' (by (repeat rw [eval_far _ _ (by decide)]); exact e4)⟩) hS7 ?_
  rw [hd, ← LR_snoc]
  clear ho hg hop hd hfr
  obtain ⟨o17, ho, hg, hop, hd⟩ := isOpG_out q17
  have hfr := hall ([0, 1, 2, 3, 4, 5, 6, 7, 8, 9, 10, 11, 12, 13, 14, 15, 16], 17) (by simp)
  refine wpAnyH_take (listed := LR 27 [0, 1, 2, 3, 4, 5, 6, 7, 8, 9, 10, 11, 12, 13, 14, 15, 16]) (v := .slice (some ⟨g2, off2, none⟩) nn cc) ho hs hfr.1 hfr.2 (hQ _ _) (Or.inl ⟨((wantedB hog15 dog15 hg (by (repeat (first | rw [tmps_same _ _ (by (try simp only [put_size]); omega)] | rw [tmps_far _ _ (by decide)])))).trans (by decide)), fun w' hS => run_loadB _ _ hop w' (by (repeat (first | rw [eval_same _ _ (by (try simp only [put_size]); omega)] | rw [eval_far _ _ (by decide)]))) (L0 _ hS)⟩) hS7 ?_
  rw [hd, ← LR_snoc]
  clear ho hg hop hd hfr
  obtain ⟨o18, ho, hg, hop, hd⟩ := isOpG_out q18
  have hfr := hall ([0, 1, 2, 3, 4, 5, 6, 7, 8, 9, 10, 11, 12, 13, 14, 15, 16, 17], 18) (by simp)
  refine wpAnyH_take (listed := LR 27 [0, 1, 2, 3, 4, 5, 6, 7, 8, 9, 10, 11, 12, 13, 14, 15, 16, 17]) (v := .int .i64 k) ho hs hfr.1 hfr.2 (hQ _ _) (Or.inl ⟨((wantedB hog15 dog15 hg (by (repeat (first | rw [tmps_same _ _ (by (try simp only [put_size]); omega)] | rw [tmps_far _ _ (by decide)])))).trans (by decide)), fun w' hS => run_move _ _ hop w' (by (repeat rw [eval_far _ _ (by decide)]); exact e5)⟩) hS7 ?_
  rw [hd, ← LR_snoc]
  clear ho hg hop hd hfr
  obtain ⟨o19, ho, hg, hop, hd⟩ := isOpG_out q19
  have hfr := hall ([0, 1, 2, 3, 4, 5, 6, 7, 8, 9, 10, 11, 12, 13, 14, 15, 16, 17, 18], 19) (by simp)
  refine wpAnyH_take (listed := LR 27 [0, 1, 2, 3, 4, 5, 6, 7, 8, 9, 10, 11, 12, 13, 14, 15, 16, 17, 18]) (v := .pointer (some ⟨g2, off2 + k * 24, none⟩)) ho hs hfr.1 hfr.2 (hQ _ _) (Or.inl ⟨((wantedB hog15 dog15 hg (by (repeat (first | rw [tmps_same _ _ (by (try simp only [put_size]); omega)] | rw [tmps_far _ _ (by decide)])))).trans (by decide)), fun w' hS => idxR _ _ hop w' (by (repeat (first | rw [eval_same _ _ (by (try simp only [put_size]); omega)] | rw [eval_far _ _ (by decide)]))) (by (repeat (first | rw [eval_same _ _ (by (try simp only [put_size]); omega)] | rw [eval_far _ _ (by decide)]))) hkn⟩) hS7 ?_
  rw [hd, ← LR_snoc]
  clear ho hg hop hd hfr
  obtain ⟨o20, ho, hg, hop, hd⟩ := isOpG_out q20
  have hfr := hall ([0, 1, 2, 3, 4, 5, 6, 7, 8, 9, 10, 11, 12, 13, 14, 15, 16, 17, 18, 19], 20) (by simp)
  refine wpAnyH_take (listed := LR 27 [0, 1, 2, 3, 4, 5, 6, 7, 8, 9, 10, 11, 12, 13, 14, 15, 16, 17, 18, 19]) (v := Y) ho hs hfr.1 hfr.2 (hQ _ _) (Or.inl ⟨((wantedB hog15 dog15 hg (by (repeat (first | rw [tmps_same _ _ (by (try simp only [put_size]); omega)] | rw [tmps_far _ _ (by decide)])))).trans (by decide)), fun w' hS => run_loadB _ _ hop w' (by (repeat (first | rw [eval_same _ _ (by (try simp only [put_size]); omega)] | rw [eval_far _ _ (by decide)]))) (LY _ hS)⟩) hS7 ?_
  rw [hd, ← LR_snoc]
  clear ho hg hop hd hfr
  obtain ⟨o21, ho, hg, hop, hd⟩ := isOpG_out q21
  have hfr := hall ([0, 1, 2, 3, 4, 5, 6, 7, 8, 9, 10, 11, 12, 13, 14, 15, 16, 17, 18, 19, 20], 21) (by simp)
  refine wpAnyH_take (listed := LR 27 [0, 1, 2, 3, 4, 5, 6, 7, 8, 9, 10, 11, 12, 13, 14, 15, 16, 17, 18, 19, 20]) (v := .pointer (some ⟨bx, 2, none⟩)) ho hs hfr.1 hfr.2 (hQ _ _) (Or.inl ⟨((wantedB hog15 dog15 hg (by (repeat (first | rw [tmps_same _ _ (by (try simp only [put_size]); omega)] | rw [tmps_far _ _ (by decide)])))).trans (by decide)), fun w' hS => fldR2 _ _ hop w' (by (repeat rw [eval_far _ _ (by decide)]); exact e4)⟩) hS7 ?_
  rw [hd, ← LR_snoc]
  clear ho hg hop hd hfr
  obtain ⟨o22, ho, hg, hop, hd⟩ := isOpG_out q22
  have hfr := hall ([0, 1, 2, 3, 4, 5, 6, 7, 8, 9, 10, 11, 12, 13, 14, 15, 16, 17, 18, 19, 20, 21], 22) (by simp)
  refine wpAnyH_take (listed := LR 27 [0, 1, 2, 3, 4, 5, 6, 7, 8, 9, 10, 11, 12, 13, 14, 15, 16, 17, 18, 19, 20, 21]) (v := .int .i64 m) ho hs hfr.1 hfr.2 (hQ _ _) (Or.inl ⟨((wantedB hog15 dog15 hg (by (repeat (first | rw [tmps_same _ _ (by (try simp only [put_size]); omega)] | rw [tmps_far _ _ (by decide)])))).trans (by decide)), fun w' hS => run_loadB _ _ hop w' (by (repeat (first | rw [eval_same _ _ (by (try simp only [put_size]); omega)] | rw [eval_far _ _ (by decide)]))) (L2 _ hS)⟩) hS7 ?_
  rw [hd, ← LR_snoc]
  clear ho hg hop hd hfr
  refine wpAnyH_all r23 (by simp) ?_
  intro i hi
  obtain rfl := List.mem_singleton.1 hi
  obtain ⟨o23, ho, hg, hop, hd⟩ := isOpG_out q23
  have x23_0 : ((((((((((((((((((((((((a0.put (some 37) (.pointer (some ⟨bx, 1, none⟩))).put (some 38) (.slice (some ⟨g, off, none⟩) nl cl)).put (some 39) (.int .i64 k)).put (some 40) (.pointer (some ⟨g, off + k * 24, none⟩))).put (some 41) (X)).put (some 42) (.pointer (some ⟨bx, 2, none⟩))).put (some 43) (.int .i64 m)).put (some 44) (.bool true)).put (some 45) (.bool false)).put (some 46) (.bool false)).put (some 47) (.int .i64 k)).put (some 48) (.pointer (some ⟨bx, 0, none⟩))).put (some 49) (.slice (some ⟨g2, off2, none⟩) nn cc)).put (some 50) (.int .i64 nn)).put (some 51) (.bool true)).put (some 52) (.bool true)).put (some 53) (.pointer (some ⟨bx, 0, none⟩))).put (some 54) (.slice (some ⟨g2, off2, none⟩) nn cc)).put (some 55) (.int .i64 k)).put (some 56) (.pointer (some ⟨g2, off2 + k * 24, none⟩))).put (some 57) (Y)).put (some 58) (.pointer (some ⟨bx, 2, none⟩))).put (some 59) (.int .i64 m))).eval (.tmp 57) = Y := (by (repeat (first | rw [eval_same _ _ (by (try simp only [put_size]); omega)] | rw [eval_far _ _ (by decide)])))
  have x23_1 : ((((((((((((((((((((((((a0.put (some 37) (.pointer (some ⟨bx, 1, none⟩))).put (some 38) (.slice (some ⟨g, off, none⟩) nl cl)).put (some 39) (.int .i64 k)).put (some 40) (.pointer (some ⟨g, off + k * 24, none⟩))).put (some 41) (X)).put (some 42) (.pointer (some ⟨bx, 2, none⟩))).put (some 43) (.int .i64 m)).put (some 44) (.bool true)).put (some 45) (.bool false)).put (some 46) (.bool false)).put (some 47) (.int .i64 k)).put (some 48) (.pointer (some ⟨bx, 0, none⟩))).put (some 49) (.slice (some ⟨g2, off2, none⟩) nn cc)).put (some 50) (.int .i64 nn)).put (some 51) (.bool true)).put (some 52) (.bool true)).put (some 53) (.pointer (some ⟨bx, 0, none⟩))).put (some 54) (.slice (some ⟨g2, off2, none⟩) nn cc)).put (some 55) (.int .i64 k)).put (some 56) (.pointer (some ⟨g2, off2 + k * 24, none⟩))).put (some 57) (Y)).put (some 58) (.pointer (some ⟨bx, 2, none⟩))).put (some 59) (.int .i64 m))).eval (.tmp 59) = .int .i64 m := (by (repeat (first | rw [eval_same _ _ (by (try simp only [put_size]); omega)] | rw [eval_far _ _ (by decide)])))
  refine wpOp_callG ho ((wantedB hog15 dog15 hg (by (repeat (first | rw [tmps_same _ _ (by (try simp only [put_size]); omega)] | rw [tmps_far _ _ (by decide)])))).trans (by decide)) (run_callV 195 Tryz.func195 (by kernel_rfl) (by kernel_rfl) #[.tmp 57, .tmp 59] _ hop #[Y, .int .i64 m] (by simp only [List.map_toArray, List.map_cons, List.map_nil, x23_0, x23_1])) ?_
  refine (K2 _ hS7).mono ?_
  rintro e u2 ⟨rfl, b2⟩
  have hS23 := keep _ _ hS7 b2
  refine ⟨_, rfl, hS23, ?_⟩
  rw [hd]
  clear ho hg hop hd
  rw [← LR_snoc]
  obtain ⟨o24, ho, hg, hop, hd⟩ := isOpG_out q24
  have hfr := hall ([0, 1, 2, 3, 4, 5, 6, 7, 8, 9, 10, 11, 12, 13, 14, 15, 16, 17, 18, 19, 20, 21, 22, 23], 24) (by simp)
  refine wpAnyH_take (listed := LR 27 [0, 1, 2, 3, 4, 5, 6, 7, 8, 9, 10, 11, 12, 13, 14, 15, 16, 17, 18, 19, 20, 21, 22, 23]) (v := .bool false) ho hs hfr.1 hfr.2 (hQ _ _) (Or.inl ⟨((wantedB hog15 dog15 hg (by (repeat (first | rw [tmps_same _ _ (by (try simp only [put_size]); omega)] | rw [tmps_far _ _ (by decide)])))).trans (by decide)), fun w' hS => run_notV (b := true) _ _ hop w' (by (repeat (first | rw [eval_same _ _ (by (try simp only [put_size]); omega)] | rw [eval_far _ _ (by decide)])))⟩) hS23 ?_
  rw [hd, ← LR_snoc]
  clear ho hg hop hd hfr
  obtain ⟨o25, ho, hg, hop, hd⟩ := isOpG_out q25
  have hfr := hall ([0, 1, 2, 3, 4, 5, 6, 7, 8, 9, 10, 11, 12, 13, 14, 15, 16, 17, 18, 19, 20, 21, 22, 23, 24], 25) (by simp)
  refine wpAnyH_take (listed := LR 27 [0, 1, 2, 3, 4, 5, 6, 7, 8, 9, 10, 11, 12, 13, 14, 15, 16, 17, 18, 19, 20, 21, 22, 23, 24]) (v := .bool false) ho hs hfr.1 hfr.2 (hQ _ _) (Or.inl ⟨((wantedB hog9 dog9 hg (by (repeat (first | rw [tmps_same _ _ (by (try simp only [put_size]); omega)] | rw [tmps_far _ _ (by decide)])))).trans (by decide)), fun w' hS => run_pickT _ _ hop w' (by (repeat (first | rw [eval_same _ _ (by (try simp only [put_size]); omega)] | rw [eval_far _ _ (by decide)]))) (by (repeat (first | rw [eval_same _ _ (by (try simp only [put_size]); omega)] | rw [eval_far _ _ (by decide)])))⟩) hS23 ?_
  rw [hd, ← LR_snoc]
  clear ho hg hop hd hfr
  obtain ⟨o26, ho, hg, hop, hd⟩ := isOpG_out q26
  have hfr := hall ([0, 1, 2, 3, 4, 5, 6, 7, 8, 9, 10, 11, 12, 13, 14, 15, 16, 17, 18, 19, 20, 21, 22, 23, 24, 25], 26) (by simp)
  refine wpAnyH_take (listed := LR 27 [0, 1, 2, 3, 4, 5, 6, 7, 8, 9, 10, 11, 12, 13, 14, 15, 16, 17, 18, 19, 20, 21, 22, 23, 24, 25]) (v := .bool false) ho hs hfr.1 hfr.2 (hQ _ _) (Or.inl ⟨(wantedN hg), fun w' hS => run_pickF _ _ hop w' (by (repeat (first | rw [eval_same _ _ (by (try simp only [put_size]); omega)] | rw [eval_far _ _ (by decide)]))) (by (repeat (first | rw [eval_same _ _ (by (try simp only [put_size]); omega)] | rw [eval_far _ _ (by decide)])))⟩) hS23 ?_
  rw [hd, ← LR_snoc]
  clear ho hg hop hd hfr
  exact wpAnyH_done rend (F _ hS23) _
def lregRB_takes : List (List Nat × Nat) := [([], 0), ([0], 1), ([0, 1], 2), ([0, 1, 2], 3), ([0, 1, 2, 3], 4), ([0, 1, 2, 3, 4], 5), ([0, 1, 2, 3, 4, 5], 6), ([0, 1, 2, 3, 4, 5, 6, 7], 8), ([0, 1, 2, 3, 4, 5, 6, 7, 8], 9), ([0, 1, 2, 3, 4, 5, 6, 7, 8, 9], 10), ([0, 1, 2, 3, 4, 5, 6, 7, 8, 9, 10], 11), ([0, 1, 2, 3, 4, 5, 6, 7, 8, 9, 10, 11], 12), ([0, 1, 2, 3, 4, 5, 6, 7, 8, 9, 10, 11, 12], 13), ([0, 1, 2, 3, 4, 5, 6, 7, 8, 9, 10, 11, 12, 13], 14), ([0, 1, 2, 3, 4, 5, 6, 7, 8, 9, 10, 11, 12, 13, 14], 15), ([0, 1, 2, 3, 4, 5, 6, 7, 8, 9, 10, 11, 12, 13, 14, 15], 16), ([0, 1, 2, 3, 4, 5, 6, 7, 8, 9, 10, 11, 12, 13, 14, 15, 16], 17), ([0, 1, 2, 3, 4, 5, 6, 7, 8, 9, 10, 11, 12, 13, 14, 15, 16, 17], 18), ([0, 1, 2, 3, 4, 5, 6, 7, 8, 9, 10, 11, 12, 13, 14, 15, 16, 17, 18], 19), ([0, 1, 2, 3, 4, 5, 6, 7, 8, 9, 10, 11, 12, 13, 14, 15, 16, 17, 18, 19], 20), ([0, 1, 2, 3, 4, 5, 6, 7, 8, 9, 10, 11, 12, 13, 14, 15, 16, 17, 18, 19, 20], 21), ([0, 1, 2, 3, 4, 5, 6, 7, 8, 9, 10, 11, 12, 13, 14, 15, 16, 17, 18, 19, 20, 21], 22), ([0, 1, 2, 3, 4, 5, 6, 7, 8, 9, 10, 11, 12, 13, 14, 15, 16, 17, 18, 19, 20, 21, 22], 23), ([0, 1, 2, 3, 4, 5, 6, 7, 8, 9, 10, 11, 12, 13, 14, 15, 16, 17, 18, 19, 20, 21, 22, 23], 24), ([0, 1, 2, 3, 4, 5, 6, 7, 8, 9, 10, 11, 12, 13, 14, 15, 16, 17, 18, 19, 20, 21, 22, 23, 24], 25), ([0, 1, 2, 3, 4, 5, 6, 7, 8, 9, 10, 11, 12, 13, 14, 15, 16, 17, 18, 19, 20, 21, 22, 23, 24, 25], 26)]
set_option maxHeartbeats 3200000 in
theorem lregRB {ops : Array Oper} {Q : Exit → Act → World → Prop} {S : World → Prop} {a0 : Act} {w5 : World} {bx g off nl cl nn cc k m : Nat} {sa : Option Addr} {X : Value} {ty1 ty2 : Array TypeId}
    (q0 : isOpG ops 0 none (.fieldAddr 110 (.tmp 4) 1) (some 37))
    (q1 : isOpG ops 1 none (.load 30 (.tmp 37)) (some 38))
    (q2 : isOpG ops 2 none (.move (.tmp 5)) (some 39))
    (q3 : isOpG ops 3 none (.indexAddr 30 (.tmp 38) (.tmp 39)) (some 40))
    (q4 : isOpG ops 4 none (.load 27 (.tmp 40)) (some 41))
    (q5 : isOpG ops 5 none (.fieldAddr 110 (.tmp 4) 2) (some 42))
    (q6 : isOpG ops 6 none (.load 3 (.tmp 42)) (some 43))
    (q7 : isOpG ops 7 none (.call { callee := .value (.func 195), args := #[.tmp 41, .tmp 43], argTypes := ty1 }) (some 44))
    (q8 : isOpG ops 8 none (.unOp .not 4 (.tmp 44)) (some 45))
    (q9 : isOpG ops 9 none (.move (.tmp 45)) (some 46))
    (q10 : isOpG ops 10 (some (9, false)) (.move (.tmp 5)) (some 47))
    (q11 : isOpG ops 11 (some (9, false)) (.fieldAddr 110 (.tmp 4) 0) (some 48))
    (q12 : isOpG ops 12 (some (9, false)) (.load 30 (.tmp 48)) (some 49))
    (q13 : isOpG ops 13 (some (9, false)) (.call { callee := .builtin .len, args := #[.tmp 49], argTypes := #[30] }) (some 50))
    (q14 : isOpG ops 14 (some (9, false)) (.binOp .lss 3 (.tmp 47) (.tmp 50) 3) (some 51))
    (q15 : isOpG ops 15 (some (9, false)) (.move (.tmp 51)) (some 52))
    (q16 : isOpG ops 16 (some (15, true)) (.fieldAddr 110 (.tmp 4) 0) (some 53))
    (q17 : isOpG ops 17 (some (15, true)) (.load 30 (.tmp 53)) (some 54))
    (q18 : isOpG ops 18 (some (15, true)) (.move (.tmp 5)) (some 55))
    (q19 : isOpG ops 19 (some (15, true)) (.indexAddr 30 (.tmp 54) (.tmp 55)) (some 56))
    (q20 : isOpG ops 20 (some (15, true)) (.load 27 (.tmp 56)) (some 57))
    (q21 : isOpG ops 21 (some (15, true)) (.fieldAddr 110 (.tmp 4) 2) (some 58))
    (q22 : isOpG ops 22 (some (15, true)) (.load 3 (.tmp 58)) (some 59))
    (q23 : isOpG ops 23 (some (15, true)) (.call { callee := .value (.func 195), args := #[.tmp 57, .tmp 59], argTypes := ty2 }) (some 60))
    (q24 : isOpG ops 24 (some (15, true)) (.unOp .not 4 (.tmp 60)) (some 61))
    (q25 : isOpG ops 25 (some (9, false)) (.pick (.tmp 52) (.tmp 61) (.const (.bool false))) (some 62))
    (q26 : isOpG ops 26 none (.pick (.tmp 46) (.const (.bool true)) (.tmp 62)) (some 63))
    (hs : Region.noSelect ops = true) (hq : (lregRB_takes.all fun p => Region.free .any ops (LR 27 p.1) p.2 && (Region.ready .any ops (LR 27 p.1)).contains p.2) = true)
    (r7 : Region.ready .any ops (LR 27 [0, 1, 2, 3, 4, 5, 6]) = [7])
    (rend : Region.ready .any ops (LR 27 [0, 1, 2, 3, 4, 5, 6, 7, 8, 9, 10, 11, 12, 13, 14, 15, 16, 17, 18, 19, 20, 21, 22, 23, 24, 25, 26]) = [])
    (hQ : ∀ (d : Option Tmp) (v : Value) c a w, Q (.panic c) (a.put d v) w → Q (.panic c) a w)
    (hsz : 63 < a0.tmps.size) (e4 : a0.eval (.tmp 4) = .pointer (some ⟨bx, 0, none⟩)) (e5 : a0.eval (.tmp 5) = .int .i64 k)
    (hS0 : S w5.drew)
    (keep : ∀ u u', S u → Below u.heap.size u u' → S u') (hkl : k < nl) (hlt : decide (k < nn) = false)
    (L0 : ∀ u, S u → (loadVar 30 ⟨bx, 0, none⟩).run Tryz.prog u = .ok (.slice sa nn cc) u) (L1 : ∀ u, S u → (loadVar 30 ⟨bx, 1, none⟩).run Tryz.prog u = .ok (.slice (some ⟨g, off, none⟩) nl cl) u) (L2 : ∀ u, S u → (loadVar 3 ⟨bx, 2, none⟩).run Tryz.prog u = .ok (.int .i64 m) u)
    (LX : ∀ u, S u → (loadVar 27 ⟨g, off + k * 24, none⟩).run Tryz.prog u = .ok X u) (K1 : ∀ u, S u → Calls Tryz.prog 195 #[X, .int .i64 m] u fun e w' => e = .returned (.bool true) ∧ Below u.heap.size u w')
    (F : ∀ (wc : World), S wc → Q .normal (((((((((((((((((((((((((((a0.put (some 37) (.pointer (some ⟨bx, 1, none⟩))).put (some 38) (.slice (some ⟨g, off, none⟩) nl cl)).put (some 39) (.int .i64 k)).put (some 40) (.pointer (some ⟨g, off + k * 24, none⟩))).put (some 41) (X)).put (some 42) (.pointer (some ⟨bx, 2, none⟩))).put (some 43) (.int .i64 m)).put (some 44) (.bool true)).put (some 45) (.bool false)).put (some 46) (.bool false)).put (some 47) (.int .i64 k)).put (some 48) (.pointer (some ⟨bx, 0, none⟩))).put (some 49) (.slice sa nn cc)).put (some 50) (.int .i64 nn)).put (some 51) (.bool false)).put (some 52) (.bool false)).put (some 53) (undef)).put (some 54) (undef)).put (some 55) (undef)).put (some 56) (undef)).put (some 57) (undef)).put (some 58) (undef)).put (some 59) (undef)).put (some 60) (undef)).put (some 61) (undef)).put (some 62) (.bool false)).put (some 63) (.bool false)) wc) :
    wpAnyH Tryz.prog .any ops Q S 27 (LR 27 []) a0 w5.drew := by
  have hall : ∀ p ∈ lregRB_takes, Region.free .any ops (LR 27 p.1) p.2 = true ∧ (Region.ready .any ops (LR 27 p.1)).contains p.2 = true := by
    intro p hp
    have := List.all_eq_true.1 hq p hp
    simpa using this
  unfold lregRB_takes at hall
  obtain ⟨og9, hog9, _, _, dog9⟩ := isOpG_out q9
  obtain ⟨og15, hog15, _, _, dog15⟩ := isOpG_out q15
  obtain ⟨o0, ho, hg, hop, hd⟩ := isOpG_out q0
  have hfr := hall ([], 0) (by simp)
  refine wpAnyH_take (listed := LR 27 []) (v := .pointer (some ⟨bx, 1, none⟩)) ho hs hfr.1 hfr.2 (hQ _ _) (Or.inl ⟨(wantedN hg), fun w' hS => fldR1 _ _ hop w' (by (repeat rw [eval_far _ _ (by decide)]); exact e4)⟩) hS0 ?_
  rw [hd, ← LR_snoc]
  clear ho hg hop hd hfr
  obtain ⟨o1, ho, hg, hop, hd⟩ := isOpG_out q1
  have hfr := hall ([0], 1) (by simp)
  refine wpAnyH_take (listed := LR 27 [0]) (v := .slice (some ⟨g, off, none⟩) nl cl) ho hs hfr.1 hfr.2 (hQ _ _) (Or.inl ⟨(wantedN hg), fun w' hS => run_loadB _ _ hop w' (by (repeat (first | rw [eval_same _ _ (by (try simp only [put_size]); omega)] | rw [eval_far _ _ (by decide)]))) (L1 _ hS)⟩) hS0 ?_
  rw [hd, ← LR_snoc]
  clear ho hg hop hd hfr
  obtain ⟨o2, ho, hg, hop, hd⟩ := isOpG_out q2
  have hfr := hall ([0, 1], 2) (by simp)
  refine wpAnyH_take (listed := LR 27 [0, 1]) (v := .int .i64 k) ho hs hfr.1 hfr.2 (hQ _ _) (Or.inl ⟨(wantedN hg), fun w' hS => run_move _ _ hop w' (by (repeat rw [eval_far _ _ (by decide)]); exact e5)⟩) hS0 ?_
  rw [hd, ← LR_snoc]
  clear ho hg hop hd hfr
  obtain ⟨o3, ho, hg, hop, hd⟩ := isOpG_out q3
  have hfr := hall ([0, 1, 2], 3) (by simp)
  refine wpAnyH_take (listed := LR 27 [0, 1, 2]) (v := .pointer (some ⟨g, off + k * 24, none⟩)) ho hs hfr.1 hfr.2 (hQ _ _) (Or.inl ⟨(wantedN hg), fun w' hS => idxR _ _ hop w' (by (repeat (first | rw [eval_same _ _ (by (try simp only [put_size]); omega)] | rw [eval_far _ _ (by decide)]))) (by (repeat (first | rw [eval_same _ _ (by (try simp only [put_size]); omega)] | rw [eval_far _ _ (by decide)]))) hkl⟩) hS0 ?_
  rw [hd, ← LR_snoc]
  clear ho hg hop hd hfr
  obtain ⟨o4, ho, hg, hop, hd⟩ := isOpG_out q4
  have hfr := hall ([0, 1, 2, 3], 4) (by simp)
  refine wpAnyH_take (listed := LR 27 [0, 1, 2, 3]) (v := X) ho hs hfr.1 hfr.2 (hQ _ _) (Or.inl ⟨(wantedN hg), fun w' hS => run_loadB _ _ hop w' (by (repeat (first | rw [eval_same _ _ (by (try simp only [put_size]); omega)] | rw [eval_far _ _ (by decide)]))) (LX _ hS)⟩) hS0 ?_
  rw [hd, ← LR_snoc]
  clear ho hg hop hd hfr
  obtain ⟨o5, ho, hg, hop, hd⟩ := isOpG_out q5
  have hfr := hall ([0, 1, 2, 3, 4], 5) (by simp)
  refine wpAnyH_take (listed := LR 27 [0, 1, 2, 3, 4]) (v := .pointer (some ⟨bx, 2, none⟩)) ho hs hfr.1 hfr.2 (hQ _ _) (Or.inl ⟨(wantedN hg), fun w' hS => fldR2 _ _ hop w' (by (repeat rw [eval_far _ _ (by decide)]); exact e4)⟩) hS0 ?_
  rw [hd, ← LR_snoc]
  clear ho hg hop hd hfr
  obtain ⟨o6, ho, hg, hop, hd⟩ := isOpG_out q6
  have hfr := hall ([0, 1, 2, 3, 4, 5], 6) (by simp)
  refine wpAnyH_take (listed := LR 27 [0, 1, 2, 3, 4, 5]) (v := .int .i64 m) ho hs hfr.1 hfr.2 (hQ _ _) (Or.inl ⟨(wantedN hg), fun w' hS => run_loadB _ _ hop w' (by (repeat (first | rw [eval_same _ _ (by (try simp only [put_size]); omega)] | rw [eval_far _ _ (by decide)]))) (L2 _ hS)⟩) hS0 ?_
  rw [hd, ← LR_snoc]
  clear ho hg hop hd hfr
  refine wpAnyH_all r7 (by simp) ?_
  intro i hi
  obtain rfl := List.mem_singleton.1 hi
  obtain ⟨o7, ho, hg, hop, hd⟩ := isOpG_out q7
  have x7_0 : ((((((((a0.put (some 37) (.pointer (some ⟨bx, 1, none⟩))).put (some 38) (.slice (some ⟨g, off, none⟩) nl cl)).put (some 39) (.int .i64 k)).put (some 40) (.pointer (some ⟨g, off + k * 24, none⟩))).put (some 41) (X)).put (some 42) (.pointer (some ⟨bx, 2, none⟩))).put (some 43) (.int .i64 m))).eval (.tmp 41) = X := (by (repeat (first | rw [eval_same _ _ (by (try simp only [put_size]); omega)] | rw [eval_far _ _ (by decide)])))
  have x7_1 : ((((((((a0.put (some 37) (.pointer (some ⟨bx, 1, none⟩))).put (some 38) (.slice (some ⟨g, off, none⟩) nl cl)).put (some 39) (.int .i64 k)).put (some 40) (.pointer (some ⟨g, off + k * 24, none⟩))).put (some 41) (X)).put (some 42) (.pointer (some ⟨bx, 2, none⟩))).put (some 43) (.int .i64 m))).eval (.tmp 43) = .int .i64 m := (by (repeat (first | rw [eval_same _ _ (by (try simp only [put_size]); omega)] | rw [eval_far _ _ (by decide)])))
  refine wpOp_callG ho (wantedN hg) (run_callV 195 Tryz.func195 (by kernel_rfl) (by kernel_rfl) #[.tmp 41, .tmp 43] _ hop #[X, .int .i64 m] (by simp only [List.map_toArray, List.map_cons, List.map_nil, x7_0, x7_1])) ?_
  refine (K1 _ hS0).mono ?_
  rintro e u1 ⟨rfl, b1⟩
  have hS7 := keep _ _ hS0 b1
  refine ⟨_, rfl, hS7, ?_⟩
  rw [hd]
  clear ho hg hop hd
  rw [← LR_snoc]
  obtain ⟨o8, ho, hg, hop, hd⟩ := isOpG_out q8
  have hfr := hall ([0, 1, 2, 3, 4, 5, 6, 7], 8) (by simp)
  refine wpAnyH_take (listed := LR 27 [0, 1, 2, 3, 4, 5, 6, 7]) (v := .bool false) ho hs hfr.1 hfr.2 (hQ _ _) (Or.inl ⟨(wantedN hg), fun w' hS => run_notV (b := true) _ _ hop w' (by (repeat (first | rw [eval_same _ _ (by (try simp only [put_size]); omega)] | rw [eval_far _ _ (by decide)])))⟩) hS7 ?_
  rw [hd, ← LR_snoc]
  clear ho hg hop hd hfr
  obtain ⟨o9, ho, hg, hop, hd⟩ := isOpG_out q9
  have hfr := hall ([0, 1, 2, 3, 4, 5, 6, 7, 8], 9) (by simp)
  refine wpAnyH_take (listed := LR 27 [0, 1, 2, 3, 4, 5, 6, 7, 8]) (v := .bool false) ho hs hfr.1 hfr.2 (hQ _ _) (Or.inl ⟨(wantedN hg), fun w' hS => run_move _ _ hop w' (by (repeat (first | rw [eval_same _ _ (by (try simp only [put_size]); omega)] | rw [eval_far _ _ (by decide)])))⟩) hS7 ?_
  rw [hd, ← LR_snoc]
  clear ho hg hop hd hfr
  obtain ⟨o10, ho, hg, hop, hd⟩ := isOpG_out q10
  have hfr := hall ([0, 1, 2, 3, 4, 5, 6, 7, 8, 9], 10) (by simp)
  refine wpAnyH_take (listed := LR 27 [0, 1, 2, 3, 4, 5, 6, 7, 8, 9]) (v := .int .i64 k) ho hs hfr.1 hfr.2 (hQ _ _) (Or.inl ⟨((wantedB hog9 dog9 hg (by (repeat (first | rw [tmps_same _ _ (by (try simp only [put_size]); omega)] | rw [tmps_far _ _ (by decide)])))).trans (by decide)), fun w' hS => run_move _ _ hop w' (by (repeat rw [eval_far _ _ (by decide)]); exact e5)⟩) hS7 ?_
  rw [hd, ← LR_snoc]
  clear ho hg hop hd hfr
  obtain ⟨o11, ho, hg, hop, hd⟩ := isOpG_out q11
  have hfr := hall ([0, 1, 2, 3, 4, 5, 6, 7, 8, 9, 10], 11) (by simp)
  refine wpAnyH_take (listed := LR 27 [0, 1, 2, 3, 4, 5, 6, 7, 8, 9, 10]) (v := .pointer (some ⟨bx, 0, none⟩)) ho hs hfr.1 hfr.2 (hQ _ _) (Or.inl ⟨((wantedB hog9 dog9 hg (by (repeat (first | rw [tmps_same _ _ (by (try simp only [put_size]); omega)] | rw [tmps_far _ _ (by decide)])))).trans (by decide)), fun w' hS => fldR0 _ _ hop w' (by (repeat rw [eval_far _ _ (by decide)]); exact e4)⟩) hS7 ?_
  rw [hd, ← LR_snoc]
  clear ho hg hop hd hfr
  obtain ⟨o12, ho, hg, hop, hd⟩ := isOpG_out q12
  have hfr := hall ([0, 1, 2, 3, 4, 5, 6, 7, 8, 9, 10, 11], 12) (by simp)
  refine wpAnyH_take (listed := LR 27 [0, 1, 2, 3, 4, 5, 6, 7, 8, 9, 10, 11]) (v := .slice sa nn cc) ho hs hfr.1 hfr.2 (hQ _ _) (Or.inl ⟨((wantedB hog9 dog9 hg (by (repeat (first | rw [tmps_same _ _ (by (try simp only [put_size]); omega)] | rw [tmps_far _ _ (by decide)])))).trans (by decide)), fun w' hS => run_loadB _ _ hop w' (by (repeat (first | rw [eval_same _ _ (by (try simp only [put_size]); omega)] | rw [eval_far _ _ (by decide)]))) (L0 _ hS)⟩) hS7 ?_
  rw [hd, ← LR_snoc]
  clear ho hg hop hd hfr
  obtain ⟨o13, ho, hg, hop, hd⟩ := isOpG_out q13
  have hfr := hall ([0, 1, 2, 3, 4, 5, 6, 7, 8, 9, 10, 11, 12], 13) (by simp)
  refine wpAnyH_take (listed := LR 27 [0, 1, 2, 3, 4, 5, 6, 7, 8, 9, 10, 11, 12]) (v := .int .i64 nn) ho hs hfr.1 hfr.2 (hQ _ _) (Or.inl ⟨((wantedB hog9 dog9 hg (by (repeat (first | rw [tmps_same _ _ (by (try simp only [put_size]); omega)] | rw [tmps_far _ _ (by decide)])))).trans (by decide)), fun w' hS => lenR _ _ hop w' (by (repeat (first | rw [eval_same _ _ (by (try simp only [put_size]); omega)] | rw [eval_far _ _ (by decide)])))⟩) hS7 ?_
  rw [hd, ← LR_snoc]
  clear ho hg hop hd hfr
  obtain ⟨o14, ho, hg, hop, hd⟩ := isOpG_out q14
  have hfr := hall ([0, 1, 2, 3, 4, 5, 6, 7, 8, 9, 10, 11, 12, 13], 14) (by simp)
  refine wpAnyH_take (listed := LR 27 [0, 1, 2, 3, 4, 5, 6, 7, 8, 9, 10, 11, 12, 13]) (v := .bool false) ho hs hfr.1 hfr.2 (hQ _ _) (Or.inl ⟨((wantedB hog9 dog9 hg (by (repeat (first | rw [tmps_same _ _ (by (try simp only [put_size]); omega)] | rw [tmps_far _ _ (by decide)])))).trans (by decide)), fun w' hS => run_binV _ _ hop w' (by (repeat (first | rw [eval_same _ _ (by (try simp only [put_size]); omega)] | rw [eval_far _ _ (by decide)]))) (by (repeat (first | rw [eval_same _ _ (by (try simp only [put_size]); omega)] | rw [eval_far _ _ (by decide)]))) (by first | rfl | go_simp) ((fun u => lssB k nn false hlt u) w')⟩) hS7 ?_
  rw [hd, ← LR_snoc]
  clear ho hg hop hd hfr
  obtain ⟨o15, ho, hg, hop, hd⟩ := isOpG_out q15
  have hfr := hall ([0, 1, 2, 3, 4, 5, 6, 7, 8, 9, 10, 11, 12, 13, 14], 15) (by simp)
  refine wpAnyH_take (listed := LR 27 [0, 1, 2, 3, 4, 5, 6, 7, 8, 9, 10, 11, 12, 13, 14]) (v := .bool false) ho hs hfr.1 hfr.2 (hQ _ _) (Or.inl ⟨((wantedB hog9 dog9 hg (by (repeat (first | rw [tmps_same _ _ (by (try simp only [put_size]); omega)] | rw [tmps_far _ _ (by decide)])))).trans (by decide)), fun w' hS => run_move _ _ hop w' (by (repeat (first | rw [eval_same _ _ (by (try simp only [put_size]); omega)] | rw [eval_far _ _ (by decide)])))⟩) hS7 ?_
  rw [hd, ← LR_snoc]
  clear ho hg hop hd hfr
  obtain ⟨o16, ho, hg, hop, hd⟩ := isOpG_out q16
  have hfr := hall ([0, 1, 2, 3, 4, 5, 6, 7, 8, 9, 10, 11, 12, 13, 14, 15], 16) (by simp)
  refine wpAnyH_take (listed := LR 27 [0, 1, 2, 3, 4, 5, 6, 7, 8, 9, 10, 11, 12, 13, 14, 15]) (v := undef) ho hs hfr.1 hfr.2 (hQ _ _) (Or.inr ⟨((wantedB hog15 dog15 hg (by (repeat (first | rw [tmps_same _ _ (by (try simp only [put_size]); omega)] | rw [tmps_far _ _ (by decide)])))).trans (by decide)), rfl⟩) hS7 ?_
  rw [hd, ← LR_snoc]
  clear ho hg hop hd hfr
  obtain ⟨o17, ho, hg, hop, hd⟩ := isOpG_out q17
  have hfr := hall ([0, 1, 2, 3, 4, 5, 6, 7, 8, 9, 10, 11, 12, 13, 14, 15, 16], 17) (by simp)
  refine wpAnyH_take (listed := LR 27 [0, 1, 2, 3, 4, 5, 6, 7, 8, 9, 10, 11, 12, 13, 14, 15, 16]) (v := undef) ho hs hfr.1 hfr.2 (hQ _ _) (Or.inr ⟨((wantedB hog15 dog15 hg (by (repeat (first | rw [tmps_same _ _ (by (try simp only [put_size]); omega)] | rw [tmps_far _ _ (by decide)])))).trans (by decide)), rfl⟩) hS7 ?_
  rw [hd, ← LR_snoc]
  clear ho hg hop hd hfr
  obtain ⟨o18, ho, hg, hop, hd⟩ := isOpG_out q18
  have hfr := hall ([0, 1, 2, 3, 4, 5, 6, 7, 8, 9, 10, 11, 12, 13, 14, 15, 16, 17], 18) (by simp)
  refine wpAnyH_take (listed := LR 27 [0, 1, 2, 3, 4, 5, 6, 7, 8, 9, 10, 11, 12, 13, 14, 15, 16, 17]) (v := undef) ho hs hfr.1 hfr.2 (hQ _ _) (Or.inr ⟨((wantedB hog15 dog15 hg (by (repeat (first | rw [tmps_same _ _ (by (try simp only [put_size]); omega)] | rw [tmps_far _ _ (by decide)])))).trans (by decide)), rfl⟩) hS7 ?_
  rw [hd, ← LR_snoc]
  clear ho hg hop hd hfr
  obtain ⟨o19, ho, hg, hop, hd⟩ := isOpG_out q19
  have hfr := hall ([0, 1, 2, 3, 4, 5, 6, 7, 8, 9, 10, 11, 12, 13, 14, 15, 16, 17, 18], 19) (by simp)
  refine wpAnyH_take (listed := LR 27 [0, 1, 2, 3, 4, 5, 6, 7, 8, 9, 10, 11, 12, 13, 14, 15, 16, 17, 18]) (v := undef) ho hs hfr.1 hfr.2 (hQ _ _) (Or.inr ⟨((wantedB hog15 dog15 hg (by (repeat (first | rw [tmps_same _ _ (by (try simp only [put_size]); omega)] | rw [tmps_far _ _ (by decide)])))).trans (by decide)), rfl⟩) hS7 ?_
  rw [hd, ← LR_snoc]
  clear ho hg hop hd hfr
  obtain ⟨o20, ho, hg, hop, hd⟩ := isOpG_out q20
  have hfr := hall ([0, 1, 2, 3, 4, 5, 6, 7, 8, 9, 10, 11, 12, 13, 14, 15, 16, 17, 18, 19], 20) (by simp)
  refine wpAnyH_take (listed := LR 27 [0, 1, 2, 3, 4, 5, 6, 7, 8, 9, 10, 11, 12, 13, 14, 15, 16, 17, 18, 19]) (v := undef) ho hs hfr.1 hfr.2 (hQ _ _) (Or.inr ⟨((wantedB hog15 dog15 hg (by (repeat (first | rw [tmps_same _ _ (by (try simp only [put_size]); omega)] | rw [tmps_far _ _ (by decide)])))).trans (by decide)), rfl⟩) hS7 ?_
  rw [hd, ← LR_snoc]
  clear ho hg hop hd hfr
  obtain ⟨o21, ho, hg, hop, hd⟩ := isOpG_out q21
  have hfr := hall ([0, 1, 2, 3, 4, 5, 6, 7, 8, 9, 10, 11, 12, 13, 14, 15, 16, 17, 18, 19, 20], 21) (by simp)
  refine wpAnyH_take (listed := LR 27 [0, 1, 2, 3, 4, 5, 6, 7, 8, 9, 10, 11, 12, 13, 14, 15, 16, 17, 18, 19, 20]) (v := undef) ho hs hfr.1 hfr.2 (hQ _ _) (Or.inr ⟨((wantedB hog15 dog15 hg (by (repeat (first | rw [tmps_same _ _ (by (try simp only [put_size]); omega)] | rw [tmps_far _ _ (by decide)])))).trans (by decide)), rfl⟩) hS7 ?_
  rw [hd, ← LR_snoc]
  clear ho hg hop hd hfr
  obtain ⟨o22, ho, hg, hop, hd⟩ := isOpG_out q22
  have hfr := hall ([0, 1, 2, 3, 4, 5, 6, 7, 8, 9, 10, 11, 12, 13, 14, 15, 16, 17, 18, 19, 20, 21], 22) (by simp)
  refine wpAnyH_take (listed := LR 27 [0, 1, 2, 3, 4, 5, 6, 7, 8, 9, 10, 11, 12, 13, 14, 15, 16, 17, 18, 19, 20, 21]) (v := undef) ho hs hfr.1 hfr.2 (hQ _ _) (Or.inr ⟨((wantedB hog15 dog15 hg (by (repeat (first | rw [tmps_same _ _ (by (try simp only [put_size]); omega)] | rw [tmps_far _ _ (by decide)])))).trans (by decide)), rfl⟩) hS7 ?_
  rw [hd, ← LR_snoc]
  clear ho hg hop hd hfr
  obtain ⟨o23, ho, hg, hop, hd⟩ := isOpG_out q23
  have hfr := hall ([0, 1, 2, 3, 4, 5, 6, 7, 8, 9, 10, 11, 12, 13, 14, 15, 16, 17, 18, 19, 20, 21, 22], 23) (by simp)
  refine wpAnyH_take (listed := LR 27 [0, 1, 2, 3, 4, 5, 6, 7, 8, 9, 10, 11, 12, 13, 14, 15, 16, 17, 18, 19, 20, 21, 22]) (v := undef) ho hs hfr.1 hfr.2 (hQ _ _) (Or.inr ⟨((wantedB hog15 dog15 hg (by (repeat (first | rw [tmps_same _ _ (by (try simp only [put_size]); omega)] | rw [tmps_far _ _ (by decide)])))).trans (by decide)), rfl⟩) hS7 ?_
  rw [hd, ← LR_snoc]
  clear ho hg hop hd hfr
  obtain ⟨o24, ho, hg, hop, hd⟩ := isOpG_out q24
  have hfr := hall ([0, 1, 2, 3, 4, 5, 6, 7, 8, 9, 10, 11, 12, 13, 14, 15, 16, 17, 18, 19, 20, 21, 22, 23], 24) (by simp)
  refine wpAnyH_take (listed := LR 27 [0, 1, 2, 3, 4, 5, 6, 7, 8, 9, 10, 11, 12, 13, 14, 15, 16, 17, 18, 19, 20, 21, 22, 23]) (v := undef) ho hs hfr.1 hfr.2 (hQ _ _) (Or.inr ⟨((wantedB hog15 dog15 hg (by (repeat (first | rw [tmps_same _ _ (by (try simp only [put_size]); omega)] | rw [tmps_far _ _ (by decide)])))).trans (by decide)), rfl⟩) hS7 ?_
  rw [hd, ← LR_snoc]
  clear ho hg hop hd hfr
  obtain ⟨o25, ho, hg, hop, hd⟩ := isOpG_out q25
  have hfr := hall ([0, 1, 2, 3, 4, 5, 6, 7, 8, 9, 10, 11, 12, 13, 14, 15, 16, 17, 18, 19, 20, 21, 22, 23, 24], 25) (by simp)
  refine wpAnyH_take (listed := LR 27 [0, 1, 2, 3, 4, 5, 6, 7, 8, 9, 10, 11, 12, 13, 14, 15, 16, 17, 18, 19, 20, 21, 22, 23, 24]) (v := .bool false) ho hs hfr.1 hfr.2 (hQ _ _) (Or.inl ⟨((wantedB hog9 dog9 hg (by (repeat (first | rw [tmps_same _ _ (by (try simp only [put_size]); omega)] | rw [tmps_far _ _ (by decide)])))).trans (by decide)), fun w' hS => run_pickF _ _ hop w' (by (repeat (first | rw [eval_same _ _ (by (try simp only [put_size]); omega)] | rw [eval_far _ _ (by decide)]))) rfl⟩) hS7 ?_
  rw [hd, ← LR_snoc]
  clear ho hg hop hd hfr
  obtain ⟨o26, ho, hg, hop, hd⟩ := isOpG_out q26
  have hfr := hall ([0, 1, 2, 3, 4, 5, 6, 7, 8, 9, 10, 11, 12, 13, 14, 15, 16, 17, 18, 19, 20, 21, 22, 23, 24, 25], 26) (by simp)
  refine wpAnyH_take (listed := LR 27 [0, 1, 2, 3, 4, 5, 6, 7, 8, 9, 10, 11, 12, 13, 14, 15, 16, 17, 18, 19, 20, 21, 22, 23, 24, 25]) (v := .bool false) ho hs hfr.1 hfr.2 (hQ _ _) (Or.inl ⟨(wantedN hg), fun w' hS => run_pickF _ _ hop w' (by (repeat (first | rw [eval_same _ _ (by (try simp only [put_size]); omega)] | rw [eval_far _ _ (by decide)]))) (by (repeat (first | rw [eval_same _ _ (by (try simp only [put_size]); omega)] | rw [eval_far _ _ (by decide)])))⟩) hS7 ?_
  rw [hd, ← LR_snoc]
  clear ho hg hop hd hfr
  exact wpAnyH_done rend (F _ hS7) _
end Go.Proofs.YtjcfhhcohmcehaaGreatDoor.BK
