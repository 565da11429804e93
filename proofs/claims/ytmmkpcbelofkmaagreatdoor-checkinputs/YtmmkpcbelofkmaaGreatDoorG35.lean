import Derived.Test.YtmmkpcbelofkmaaGreatDoorG33
import Derived.Test.YtmmkpcbelofkmaaGreatDoorG15
import Derived.Test.YtmmkpcbelofkmaaGreatDoorG34
section
namespace Go.Proofs.YtmmkpcbelofkmaaGreatDoor
open Go.RowKit Go.Maps
set_option linter.unusedVariables false
set_option linter.unusedSimpArgs false

theorem typ_of {ops : Array Oper} {i : Nat} {o : Oper} {ty : TypeId} (h : ops[i]?.map Oper.type = some ty) (ho : ops[i]? = some o) : o.type = ty := by
  rw [ho] at h
  exact Option.some.inj h
theorem run_appV (ev : Operand → Value) (o : Oper) {x y : Operand} {t ty : TypeId} (hop : o.op = .call { callee := .builtin .append, args := #[x, y], argTypes := #[t, t] }) (hty : o.type = ty) (w : World) {a b v : Value} {w' : World} (hx : ev x = a) (hy : ev y = b) (hr : (Builtin.append_ #[t, t] ty #[a, b]).run Tryz.prog w = .ok v w') : (execOp ev o).run Tryz.prog w = .ok (.value v) w' := by
  simp only [execOp, hop]
  simp [resolve, invoke, builtin, hx, hy, hty, hr, Result.andThen]
theorem run_ext0 (ev : Operand → Value) (o : Oper) {x : Operand} (hop : o.op = .extract x 0) (w : World) {a b : Value} (hx : ev x = .tuple #[a, b]) : (execOp ev o).run Tryz.prog w = .ok (.value a) w := by
  simp only [execOp, hop, hx]
  go_simp
theorem run_ext1 (ev : Operand → Value) (o : Oper) {x : Operand} (hop : o.op = .extract x 1) (w : World) {a b : Value} (hx : ev x = .tuple #[a, b]) : (execOp ev o).run Tryz.prog w = .ok (.value b) w := by
  simp only [execOp, hop, hx]
  go_simp
theorem run_fldLA (ev : Operand → Value) (o : Oper) {x : Operand} (hop : o.op = .fieldAddr 109 x 1) (w : World) {g o1 : Nat} (hx : ev x = .pointer (some ⟨g, o1, none⟩)) : (execOp ev o).run Tryz.prog w = .ok (.value (.pointer (some ⟨g, o1 + 1, none⟩))) w := by
  simp only [execOp, hop, hx]
  go_simp
theorem run_fldA0 (ev : Operand → Value) (o : Oper) {x : Operand} (hop : o.op = .fieldAddr 28 x 0) (w : World) {g o1 : Nat} (hx : ev x = .pointer (some ⟨g, o1, none⟩)) : (execOp ev o).run Tryz.prog w = .ok (.value (.pointer (some ⟨g, o1, none⟩))) w := by
  simp only [execOp, hop, hx]
  go_simp
theorem run_fldA1 (ev : Operand → Value) (o : Oper) {x : Operand} (hop : o.op = .fieldAddr 28 x 1) (w : World) {g o1 : Nat} (hx : ev x = .pointer (some ⟨g, o1, none⟩)) : (execOp ev o).run Tryz.prog w = .ok (.value (.pointer (some ⟨g, o1 + 1, none⟩))) w := by
  simp only [execOp, hop, hx]
  go_simp
theorem run_fldF0 (ev : Operand → Value) (o : Oper) {x : Operand} (hop : o.op = .fieldAddr 48 x 0) (w : World) {g o1 : Nat} (hx : ev x = .pointer (some ⟨g, o1, none⟩)) : (execOp ev o).run Tryz.prog w = .ok (.value (.pointer (some ⟨g, o1, none⟩))) w := by
  simp only [execOp, hop, hx]
  go_simp
theorem run_fldF1 (ev : Operand → Value) (o : Oper) {x : Operand} (hop : o.op = .fieldAddr 48 x 1) (w : World) {g o1 : Nat} (hx : ev x = .pointer (some ⟨g, o1, none⟩)) : (execOp ev o).run Tryz.prog w = .ok (.value (.pointer (some ⟨g, o1 + 1, none⟩))) w := by
  simp only [execOp, hop, hx]
  go_simp
theorem run_idxL (ev : Operand → Value) (o : Oper) {x y : Operand} (hop : o.op = .indexAddr 72 x y) (w : World) {g off n c k : Nat} (hx : ev x = .slice (some ⟨g, off, none⟩) n c) (hy : ev y = .int .i64 (k : Int)) (hk : k < n) : (execOp ev o).run Tryz.prog w = .ok (.value (.pointer (some ⟨g, off + k * 16, none⟩))) w := by
  have hk' : (k : Int) < (n : Int) := by omega
  have hk0 : (0 : Int) ≤ (k : Int) := by omega
  simp only [execOp, hop, hx, hy]
  go_simp
theorem run_idxF (ev : Operand → Value) (o : Oper) {x y : Operand} (hop : o.op = .indexAddr 25 x y) (w : World) {g off n c k : Nat} (hx : ev x = .slice (some ⟨g, off, none⟩) n c) (hy : ev y = .int .i64 (k : Int)) (hk : k < n) : (execOp ev o).run Tryz.prog w = .ok (.value (.pointer (some ⟨g, off + k * 2, none⟩))) w := by
  have hk' : (k : Int) < (n : Int) := by omega
  have hk0 : (0 : Int) ≤ (k : Int) := by omega
  simp only [execOp, hop, hx, hy]
  go_simp
theorem run_lenV (ev : Operand → Value) (o : Oper) {x : Operand} (hop : o.op = .call { callee := .builtin .len, args := #[x], argTypes := #[26] }) (w : World) {a : Option Addr} {n c : Nat} (hx : ev x = .slice a n c) : (execOp ev o).run Tryz.prog w = .ok (.value (.int .i64 (n : Int))) w := by
  simp only [execOp, hop]
  simp [resolve, invoke, builtin, hx, Builtin.lenOf, Result.andThen, go_sem]
theorem run_lenW (ev : Operand → Value) (o : Oper) {x : Operand} (hop : o.op = .call { callee := .builtin .len, args := #[x], argTypes := #[46] }) (w : World) {a : Option Addr} {n c : Nat} (hx : ev x = .slice a n c) : (execOp ev o).run Tryz.prog w = .ok (.value (.int .i64 (n : Int))) w := by
  simp only [execOp, hop]
  simp [resolve, invoke, builtin, hx, Builtin.lenOf, Result.andThen, go_sem]
theorem run_buildPd (ev : Operand → Value) (o : Oper) {x y : Operand} (hop : o.op = .build 65 #[(0, x), (1, y)]) (w : World) {pr : ByteArray} {n : Int} (hx : ev x = .string pr) (hy : ev y = .int .i64 n) : (execOp ev o).run Tryz.prog w = .ok (.value (.agg #[.string pr, .int .i64 n])) w := by
  simp only [execOp, hop]
  simp only [List.map_toArray, List.map_cons, List.map_nil, Array.map, hx, hy]
  go_simp
theorem run_bsPd {b : Nat} (ev : Operand → Value) (o : Oper) {x : Operand} (hop : o.op = .buildSlice 58 1 #[(0, x)]) (w : World) {pr : ByteArray} {n : Int} (hx : ev x = .agg #[.string pr, .int .i64 n]) (hb : w.heap.size = b) : (execOp ev o).run Tryz.prog w = .ok (.value (.slice (some ⟨b, 0, none⟩) 1 1)) (w.alloc (.cells #[.string pr, .int .i64 n] 65)) := by
  subst hb
  simp only [execOp, hop, hx]
  go_simp
def rfstand_takes : List (List Nat × Nat) := [([], 0), ([0], 1), ([0, 1], 2), ([0, 1, 2], 3), ([0, 1, 2, 3], 4), ([0, 1, 2, 3, 4], 5), ([0, 1, 2, 3, 4, 5], 6), ([0, 1, 2, 3, 4, 5, 6], 7), ([0, 1, 2, 3, 4, 5, 6, 7], 8), ([0, 1, 2, 3, 4, 5, 6, 7, 8], 9), ([0, 1, 2, 3, 4, 5, 6, 7, 8, 9], 10), ([0, 1, 2, 3, 4, 5, 6, 7, 8, 9, 10], 11), ([0, 1, 2, 3, 4, 5, 6, 7, 8, 9, 10, 11], 12), ([0, 1, 2, 3, 4, 5, 6, 7, 8, 9, 10, 11, 12], 13), ([0, 1, 2, 3, 4, 5, 6, 7, 8, 9, 10, 11, 12, 13], 14), ([0, 1, 2, 3, 4, 5, 6, 7, 8, 9, 10, 11, 12, 13, 14], 15), ([0, 1, 2, 3, 4, 5, 6, 7, 8, 9, 10, 11, 12, 13, 14, 15], 16), ([0, 1, 2, 3, 4, 5, 6, 7, 8, 9, 10, 11, 12, 13, 14, 15, 16, 17, 18], 19)]
set_option maxHeartbeats 3200000 in
theorem rfstand {ops : Array Oper} {Q : Exit → Act → World → Prop} {S : World → Prop} {a0 : Act} {w5 : World} {b g off nn cc k tn tc : Nat} {ta : Option Addr} {pr : ByteArray} {ov nv : Value} {w3 : World}
    (q0 : isOpG ops 0 none (.move (.tmp 3)) (some 35))
    (q1 : isOpG ops 1 none (.fieldAddr 74 (.tmp 1) 2) (some 36))
    (q2 : isOpG ops 2 none (.load 72 (.tmp 36)) (some 37))
    (q3 : isOpG ops 3 none (.move (.tmp 4)) (some 38))
    (q4 : isOpG ops 4 none (.indexAddr 72 (.tmp 37) (.tmp 38)) (some 39))
    (q5 : isOpG ops 5 none (.fieldAddr 109 (.tmp 39) 1) (some 40))
    (q6 : isOpG ops 6 none (.fieldAddr 28 (.tmp 40) 0) (some 41))
    (q7 : isOpG ops 7 none (.load 9 (.tmp 41)) (some 42))
    (q8 : isOpG ops 8 none (.fieldAddr 74 (.tmp 1) 2) (some 43))
    (q9 : isOpG ops 9 none (.load 72 (.tmp 43)) (some 44))
    (q10 : isOpG ops 10 none (.move (.tmp 4)) (some 45))
    (q11 : isOpG ops 11 none (.indexAddr 72 (.tmp 44) (.tmp 45)) (some 46))
    (q12 : isOpG ops 12 none (.fieldAddr 109 (.tmp 46) 1) (some 47))
    (q13 : isOpG ops 13 none (.fieldAddr 28 (.tmp 47) 1) (some 48))
    (q14 : isOpG ops 14 none (.load 26 (.tmp 48)) (some 49))
    (q15 : isOpG ops 15 none (.call { callee := .builtin .len, args := #[.tmp 49], argTypes := #[26] }) (some 50))
    (q16 : isOpG ops 16 none (.build 65 #[(0, .tmp 42), (1, .tmp 50)]) (some 51))
    (q17 : isOpG ops 17 none (.buildSlice 58 1 #[(0, .tmp 51)]) (some 52))
    (q18 : isOpG ops 18 none (.call { callee := .builtin .append, args := #[.tmp 35, .tmp 52], argTypes := #[58, 58] }) (some 53))
    (q19 : isOpG ops 19 none (.assign (.tmp 53)) (some 3))
    (hs : Region.noSelect ops = true) (hq : (rfstand_takes.all fun p => Region.free .any ops (LR 20 p.1) p.2 && (Region.ready .any ops (LR 20 p.1)).contains p.2) = true)
    (r17 : Region.ready .any ops (LR 20 [0, 1, 2, 3, 4, 5, 6, 7, 8, 9, 10, 11, 12, 13, 14, 15, 16]) = [17])
    (r18 : Region.ready .any ops (LR 20 [0, 1, 2, 3, 4, 5, 6, 7, 8, 9, 10, 11, 12, 13, 14, 15, 16, 17]) = [18])
    (rend : Region.ready .any ops (LR 20 [0, 1, 2, 3, 4, 5, 6, 7, 8, 9, 10, 11, 12, 13, 14, 15, 16, 17, 18, 19]) = [])
    (hQ : ∀ (d : Option Tmp) (v : Value) c a w, Q (.panic c) (a.put d v) w → Q (.panic c) a w)
    (hsz : 53 < a0.tmps.size) (e1 : a0.eval (.tmp 1) = .pointer (some ⟨b, 0, none⟩)) (e3 : a0.eval (.tmp 3) = ov) (e4 : a0.eval (.tmp 4) = .int .i64 (k : Int))
    (hS0 : S w5.drew)
    (t18 : ops[18]?.map Oper.type = some 58) (hk : k < nn) (LBO : ∀ u, S u → (loadVar 72 ⟨b, 2, none⟩).run Tryz.prog u = .ok (.slice (some ⟨g, off, none⟩) nn cc) u) (LPR : ∀ u, S u → (loadVar 9 ⟨g, off + k * 16 + 1, none⟩).run Tryz.prog u = .ok (.string pr) u) (LTS : ∀ u, S u → (loadVar 26 ⟨g, off + k * 16 + 2, none⟩).run Tryz.prog u = .ok (.slice ta tn tc) u)
    (HSB : S (w5.drew.alloc (.cells #[.string pr, .int .i64 (tn : Int)] 65))) (HAP : (Builtin.append_ #[58, 58] 58 #[ov, .slice (some ⟨w5.heap.size, 0, none⟩) 1 1]).run Tryz.prog (w5.drew.alloc (.cells #[.string pr, .int .i64 (tn : Int)] 65)) = .ok nv w3) (HSA : S w3)
    (F : ∀ (wc : World), wc = w3 → Q .normal ((((((((((((((((((((a0.put (some 35) (ov)).put (some 36) (.pointer (some ⟨b, 2, none⟩))).put (some 37) (.slice (some ⟨g, off, none⟩) nn cc)).put (some 38) (.int .i64 (k : Int))).put (some 39) (.pointer (some ⟨g, off + k * 16, none⟩))).put (some 40) (.pointer (some ⟨g, off + k * 16 + 1, none⟩))).put (some 41) (.pointer (some ⟨g, off + k * 16 + 1, none⟩))).put (some 42) (.string pr)).put (some 43) (.pointer (some ⟨b, 2, none⟩))).put (some 44) (.slice (some ⟨g, off, none⟩) nn cc)).put (some 45) (.int .i64 (k : Int))).put (some 46) (.pointer (some ⟨g, off + k * 16, none⟩))).put (some 47) (.pointer (some ⟨g, off + k * 16 + 1, none⟩))).put (some 48) (.pointer (some ⟨g, off + k * 16 + 2, none⟩))).put (some 49) (.slice ta tn tc)).put (some 50) (.int .i64 (tn : Int))).put (some 51) (.agg #[.string pr, .int .i64 (tn : Int)])).put (some 52) (.slice (some ⟨w5.heap.size, 0, none⟩) 1 1)).put (some 53) (nv)).put (some 3) (nv)) wc) :
    wpAnyH Tryz.prog .any ops Q S 20 (LR 20 []) a0 w5.drew := by
  have hall : ∀ p ∈ rfstand_takes, Region.free .any ops (LR 20 p.1) p.2 = true ∧ (Region.ready .any ops (LR 20 p.1)).contains p.2 = true := by
    intro p hp
    have := List.all_eq_true.1 hq p hp
    simpa using this
  unfold rfstand_takes at hall
  obtain ⟨o0, ho, hg, hop, hd⟩ := isOpG_out q0
  have hfr := hall ([], 0) (by simp)
  refine wpAnyH_take (listed := LR 20 []) (v := ov) ho hs hfr.1 hfr.2 (hQ _ _) (Or.inl ⟨(wantedN hg), fun w' hS => run_move _ _ hop w' (by (repeat rw [eval_far _ _ (by decide)]); exact e3)⟩) hS0 ?_
  rw [hd, ← LR_snoc]
  clear ho hg hop hd hfr
  obtain ⟨o1, ho, hg, hop, hd⟩ := isOpG_out q1
  have hfr := hall ([0], 1) (by simp)
  refine wpAnyH_take (listed := LR 20 [0]) (v := .pointer (some ⟨b, 2, none⟩)) ho hs hfr.1 hfr.2 (hQ _ _) (Or.inl ⟨(wantedN hg), fun w' hS => run_fldR2 _ _ hop w' (by (repeat rw [eval_far _ _ (by decide)]); exact e1)⟩) hS0 ?_
  rw [hd, ← LR_snoc]
  clear ho hg hop hd hfr
  obtain ⟨o2, ho, hg, hop, hd⟩ := isOpG_out q2
  have hfr := hall ([0, 1], 2) (by simp)
  refine wpAnyH_take (listed := LR 20 [0, 1]) (v := .slice (some ⟨g, off, none⟩) nn cc) ho hs hfr.1 hfr.2 (hQ _ _) (Or.inl ⟨(wantedN hg), fun w' hS => run_loadS _ _ hop w' (by (repeat (first | rw [eval_same _ _ (by (try simp only [put_size]); omega)] | rw [eval_far _ _ (by decide)]))) (LBO _ hS)⟩) hS0 ?_
  rw [hd, ← LR_snoc]
  clear ho hg hop hd hfr
  obtain ⟨o3, ho, hg, hop, hd⟩ := isOpG_out q3
  have hfr := hall ([0, 1, 2], 3) (by simp)
  refine wpAnyH_take (listed := LR 20 [0, 1, 2]) (v := .int .i64 (k : Int)) ho hs hfr.1 hfr.2 (hQ _ _) (Or.inl ⟨(wantedN hg), fun w' hS => run_move _ _ hop w' (by (repeat rw [eval_far _ _ (by decide)]); exact e4)⟩) hS0 ?_
  rw [hd, ← LR_snoc]
  clear ho hg hop hd hfr
  obtain ⟨o4, ho, hg, hop, hd⟩ := isOpG_out q4
  have hfr := hall ([0, 1, 2, 3], 4) (by simp)
  refine wpAnyH_take (listed := LR 20 [0, 1, 2, 3]) (v := .pointer (some ⟨g, off + k * 16, none⟩)) ho hs hfr.1 hfr.2 (hQ _ _) (Or.inl ⟨(wantedN hg), fun w' hS => run_idxL _ _ hop w' (by (repeat (first | rw [eval_same _ _ (by (try simp only [put_size]); omega)] | rw [eval_far _ _ (by decide)]))) (by (repeat (first | rw [eval_same _ _ (by (try simp only [put_size]); omega)] | rw [eval_far _ _ (by decide)]))) hk⟩) hS0 ?_
  rw [hd, ← LR_snoc]
  clear ho hg hop hd hfr
  obtain ⟨o5, ho, hg, hop, hd⟩ := isOpG_out q5
  have hfr := hall ([0, 1, 2, 3, 4], 5) (by simp)
  refine wpAnyH_take (listed := LR 20 [0, 1, 2, 3, 4]) (v := .pointer (some ⟨g, off + k * 16 + 1, none⟩)) ho hs hfr.1 hfr.2 (hQ _ _) (Or.inl ⟨(wantedN hg), fun w' hS => run_fldLA _ _ hop w' (by (repeat (first | rw [eval_same _ _ (by (try simp only [put_size]); omega)] | rw [eval_far _ _ (by decide)])))⟩) hS0 ?_
  rw [hd, ← LR_snoc]
  clear ho hg hop hd hfr
  obtain ⟨o6, ho, hg, hop, hd⟩ := isOpG_out q6
  have hfr := hall ([0, 1, 2, 3, 4, 5], 6) (by simp)
  refine wpAnyH_take (listed := LR 20 [0, 1, 2, 3, 4, 5]) (v := .pointer (some ⟨g, off + k * 16 + 1, none⟩)) ho hs hfr.1 hfr.2 (hQ _ _) (Or.inl ⟨(wantedN hg), fun w' hS => run_fldA0 _ _ hop w' (by (repeat (first | rw [eval_same _ _ (by (try simp only [put_size]); omega)] | rw [eval_far _ _ (by decide)])))⟩) hS0 ?_
  rw [hd, ← LR_snoc]
  clear ho hg hop hd hfr
  obtain ⟨o7, ho, hg, hop, hd⟩ := isOpG_out q7
  have hfr := hall ([0, 1, 2, 3, 4, 5, 6], 7) (by simp)
  refine wpAnyH_take (listed := LR 20 [0, 1, 2, 3, 4, 5, 6]) (v := .string pr) ho hs hfr.1 hfr.2 (hQ _ _) (Or.inl ⟨(wantedN hg), fun w' hS => run_loadS _ _ hop w' (by (repeat (first | rw [eval_same _ _ (by (try simp only [put_size]); omega)] | rw [eval_far _ _ (by decide)]))) (LPR _ hS)⟩) hS0 ?_
  rw [hd, ← LR_snoc]
  clear ho hg hop hd hfr
  obtain ⟨o8, ho, hg, hop, hd⟩ := isOpG_out q8
  have hfr := hall ([0, 1, 2, 3, 4, 5, 6, 7], 8) (by simp)
  refine wpAnyH_take (listed := LR 20 [0, 1, 2, 3, 4, 5, 6, 7]) (v := .pointer (some ⟨b, 2, none⟩)) ho hs hfr.1 hfr.2 (hQ _ _) (Or.inl ⟨(wantedN hg), fun w' hS => run_fldR2 _ _ hop w' (by (repeat rw [eval_far _ _ (by decide)]); exact e1)⟩) hS0 ?_
  rw [hd, ← LR_snoc]
  clear ho hg hop hd hfr
  obtain ⟨o9, ho, hg, hop, hd⟩ := isOpG_out q9
  have hfr := hall ([0, 1, 2, 3, 4, 5, 6, 7, 8], 9) (by simp)
  refine wpAnyH_take (listed := LR 20 [0, 1, 2, 3, 4, 5, 6, 7, 8]) (v := .slice (some ⟨g, off, none⟩) nn cc) ho hs hfr.1 hfr.2 (hQ _ _) (Or.inl ⟨(wantedN hg), fun w' hS => run_loadS _ _ hop w' (by (repeat (first | rw [eval_same _ _ (by (try simp only [put_size]); omega)] | rw [eval_far _ _ (by decide)]))) (LBO _ hS)⟩) hS0 ?_
  rw [hd, ← LR_snoc]
  clear ho hg hop hd hfr
  obtain ⟨o10, ho, hg, hop, hd⟩ := isOpG_out q10
  have hfr := hall ([0, 1, 2, 3, 4, 5, 6, 7, 8, 9], 10) (by simp)
  refine wpAnyH_take (listed := LR 20 [0, 1, 2, 3, 4, 5, 6, 7, 8, 9]) (v := .int .i64 (k : Int)) ho hs hfr.1 hfr.2 (hQ _ _) (Or.inl ⟨(wantedN hg), fun w' hS => run_move _ _ hop w' (by (repeat rw [eval_far _ _ (by decide)]); exact e4)⟩) hS0 ?_
  rw [hd, ← LR_snoc]
  clear ho hg hop hd hfr
  obtain ⟨o11, ho, hg, hop, hd⟩ := isOpG_out q11
  have hfr := hall ([0, 1, 2, 3, 4, 5, 6, 7, 8, 9, 10], 11) (by simp)
  refine wpAnyH_take (listed := LR 20 [0, 1, 2, 3, 4, 5, 6, 7, 8, 9, 10]) (v := .pointer (some ⟨g, off + k * 16, none⟩)) ho hs hfr.1 hfr.2 (hQ _ _) (Or.inl ⟨(wantedN hg), fun w' hS => run_idxL _ _ hop w' (by (repeat (first | rw [eval_same _ _ (by (try simp only [put_size]); omega)] | rw [eval_far _ _ (by decide)]))) (by (repeat (first | rw [eval_same _ _ (by (try simp only [put_size]); omega)] | rw [eval_far _ _ (by decide)]))) hk⟩) hS0 ?_
  rw [hd, ← LR_snoc]
  clear ho hg hop hd hfr
  obtain ⟨o12, ho, hg, hop, hd⟩ := isOpG_out q12
  have hfr := hall ([0, 1, 2, 3, 4, 5, 6, 7, 8, 9, 10, 11], 12) (by simp)
  refine wpAnyH_take (listed := LR 20 [0, 1, 2, 3, 4, 5, 6, 7, 8, 9, 10, 11]) (v := .pointer (some ⟨g, off + k * 16 + 1, none⟩)) ho hs hfr.1 hfr.2 (hQ _ _) (Or.inl ⟨(wantedN hg), fun w' hS => run_fldLA _ _ hop w' (by (repeat (first | rw [eval_same _ _ (by (try simp only [put_size]); omega)] | rw [eval_far _ _ (by decide)])))⟩) hS0 ?_
  rw [hd, ← LR_snoc]
  clear ho hg hop hd hfr
  obtain ⟨o13, ho, hg, hop, hd⟩ := isOpG_out q13
  have hfr := hall ([0, 1, 2, 3, 4, 5, 6, 7, 8, 9, 10, 11, 12], 13) (by simp)
  refine wpAnyH_take (listed := LR 20 [0, 1, 2, 3, 4, 5, 6, 7, 8, 9, 10, 11, 12]) (v := .pointer (some ⟨g, off + k * 16 + 2, none⟩)) ho hs hfr.1 hfr.2 (hQ _ _) (Or.inl ⟨(wantedN hg), fun w' hS => run_fldA1 _ _ hop w' (by (repeat (first | rw [eval_same _ _ (by (try simp only [put_size]); omega)] | rw [eval_far _ _ (by decide)])))⟩) hS0 ?_
  rw [hd, ← LR_snoc]
  clear ho hg hop hd hfr
  obtain ⟨o14, ho, hg, hop, hd⟩ := isOpG_out q14
  have hfr := hall ([0, 1, 2, 3, 4, 5, 6, 7, 8, 9, 10, 11, 12, 13], 14) (by simp)
  refine wpAnyH_take (listed := LR 20 [0, 1, 2, 3, 4, 5, 6, 7, 8, 9, 10, 11, 12, 13]) (v := .slice ta tn tc) ho hs hfr.1 hfr.2 (hQ _ _) (Or.inl ⟨(wantedN hg), fun w' hS => run_loadS _ _ hop w' (by (repeat (first | rw [eval_same _ _ (by (try simp only [put_size]); omega)] | rw [eval_far _ _ (by decide)]))) (LTS _ hS)⟩) hS0 ?_
  rw [hd, ← LR_snoc]
  clear ho hg hop hd hfr
  obtain ⟨o15, ho, hg, hop, hd⟩ := isOpG_out q15
  have hfr := hall ([0, 1, 2, 3, 4, 5, 6, 7, 8, 9, 10, 11, 12, 13, 14], 15) (by simp)
  refine wpAnyH_take (listed := LR 20 [0, 1, 2, 3, 4, 5, 6, 7, 8, 9, 10, 11, 12, 13, 14]) (v := .int .i64 (tn : Int)) ho hs hfr.1 hfr.2 (hQ _ _) (Or.inl ⟨(wantedN hg), fun w' hS => run_lenV _ _ hop w' (by (repeat (first | rw [eval_same _ _ (by (try simp only [put_size]); omega)] | rw [eval_far _ _ (by decide)])))⟩) hS0 ?_
  rw [hd, ← LR_snoc]
  clear ho hg hop hd hfr
  obtain ⟨o16, ho, hg, hop, hd⟩ := isOpG_out q16
  have hfr := hall ([0, 1, 2, 3, 4, 5, 6, 7, 8, 9, 10, 11, 12, 13, 14, 15], 16) (by simp)
  refine wpAnyH_take (listed := LR 20 [0, 1, 2, 3, 4, 5, 6, 7, 8, 9, 10, 11, 12, 13, 14, 15]) (v := .agg #[.string pr, .int .i64 (tn : Int)]) ho hs hfr.1 hfr.2 (hQ _ _) (Or.inl ⟨(wantedN hg), fun w' hS => run_buildPd _ _ hop w' (by (repeat (first | rw [eval_same _ _ (by (try simp only [put_size]); omega)] | rw [eval_far _ _ (by decide)]))) (by (repeat (first | rw [eval_same _ _ (by (try simp only [put_size]); omega)] | rw [eval_far _ _ (by decide)])))⟩) hS0 ?_
  rw [hd, ← LR_snoc]
  clear ho hg hop hd hfr
  refine wpAnyH_all r17 (by simp) ?_
  intro i hi
  obtain rfl := List.mem_singleton.1 hi
  obtain ⟨o17, ho, hg, hop, hd⟩ := isOpG_out q17
  refine wpOp_valG ho (wantedN hg) (run_bsPd (b := w5.heap.size) _ _ hop _ (by (repeat (first | rw [eval_same _ _ (by (try simp only [put_size]); omega)] | rw [eval_far _ _ (by decide)]))) rfl) ?_
  have hS17 := HSB
  refine ⟨hS17, ?_⟩
  rw [hd]
  clear ho hg hop hd
  rw [← LR_snoc]
  refine wpAnyH_all r18 (by simp) ?_
  intro i hi
  obtain rfl := List.mem_singleton.1 hi
  obtain ⟨o18, ho, hg, hop, hd⟩ := isOpG_out q18
  refine wpOp_valG ho (wantedN hg) (run_appV _ _ hop (typ_of t18 ho) _ (by (repeat (first | rw [eval_same _ _ (by (try simp only [put_size]); omega)] | rw [eval_far _ _ (by decide)]))) (by (repeat (first | rw [eval_same _ _ (by (try simp only [put_size]); omega)] | rw [eval_far _ _ (by decide)]))) HAP) ?_
  have hS18 := HSA
  refine ⟨hS18, ?_⟩
  rw [hd]
  clear ho hg hop hd
  rw [← LR_snoc]
  obtain ⟨o19, ho, hg, hop, hd⟩ := isOpG_out q19
  have hfr := hall ([0, 1, 2, 3, 4, 5, 6, 7, 8, 9, 10, 11, 12, 13, 14, 15, 16, 17, 18], 19) (by simp)
  refine wpAnyH_take (listed := LR 20 [0, 1, 2, 3, 4, 5, 6, 7, 8, 9, 10, 11, 12, 13, 14, 15, 16, 17, 18]) (v := nv) ho hs hfr.1 hfr.2 (hQ _ _) (Or.inl ⟨(wantedN hg), fun w' hS => run_assignV _ _ hop w' (by (repeat (first | rw [eval_same _ _ (by (try simp only [put_size]); omega)] | rw [eval_far _ _ (by decide)])))⟩) hS18 ?_
  rw [hd, ← LR_snoc]
  clear ho hg hop hd hfr
  exact wpAnyH_done rend (F _ rfl) _
end Go.Proofs.YtmmkpcbelofkmaaGreatDoor
end
section
namespace Go.Proofs.YtmmkpcbelofkmaaGreatDoor
open Go.RowKit Go.Maps
set_option linter.unusedVariables false
set_option linter.unusedSimpArgs false
attribute [local go_sem ↓] Go.wp_at_zero Go.wp_at_succ

theorem rl_resP {fn : Func} {sl s2 : Nat} {ty : TypeId} (hr : fn.results = #[.cell sl ty, .tmp s2]) {W : World} {tmps : Array Value} {b : Nat} {v u : Value} (h2 : tmps.getD sl undef = .pointer (some ⟨b, 0, none⟩)) (hl : (loadVar ty ⟨b, 0, none⟩).run Tryz.prog W = .ok v W) (h3 : tmps.getD s2 undef = u) :
    (results fn tmps).run Tryz.prog W = .ok (.tuple #[v, u]) W := by
  have e0 : results fn tmps = (do
      let x ← asAddr (tmps.getD sl undef)
      let y ← loadVar ty x
      pure (.tuple #[y, tmps.getD s2 undef])) := by
    simp [results, hr]
  rw [e0, h2, h3]
  simp [asAddr, hl, Result.andThen]
theorem pd_form {w : World} {v : Value} {l : List Pd} (h : Ls w v l.length (l.flatMap Pd.cells)) : ∃ a c, v = .slice a l.length c ∧ l.length ≤ c ∧ c ≤ maxLen ∧ (0 < l.length → ∃ g off, a = some ⟨g, off, none⟩ ∧ g < w.heap.size ∧ ∀ i, i < l.length → w.cell? ⟨g, off + i * 2, none⟩ = some (.string (atPd l i).n) ∧ w.cell? ⟨g, off + i * 2 + 1, none⟩ = some (.int .i64 ((atPd l i).a : Int))) := by
  obtain ⟨a, c, e, h1, h2, h3⟩ := ls_range (f := Pd.cells) (k := 2) (fun _ => rfl) Pd0 h
  refine ⟨a, c, e, h1, h2, fun h0 => ?_⟩
  obtain ⟨g, off, ha, hg, hc⟩ := h3 h0
  exact ⟨g, off, ha, hg, fun i hi => ⟨hc i hi 0 _ rfl, hc i hi 1 _ rfl⟩⟩
theorem seekP_at {l : List Pd} {n : ByteArray} {k : Nat} (hk : k < l.length) (h1 : ∀ j, j < k → (atPd l j).n ≠ n) (h2 : (atPd l k).n = n) : seekP l n = some (atPd l k) := by
  induction l generalizing k with
  | nil => simp at hk
  | cons x l ih =>
    unfold seekP
    rw [List.find?_cons]
    cases k with
    | zero =>
      have : x.n = n := h2
      simp only [this, decide_true]
      rfl
    | succ k =>
      have : x.n ≠ n := h1 0 (by omega)
      simp only [decide_eq_false this]
      simp only [List.length_cons] at hk
      exact ih (k := k) (by omega) (fun j hj => h1 (j + 1) (by omega)) h2
theorem seekP_no {l : List Pd} {n : ByteArray} (h : ∀ j, j < l.length → (atPd l j).n ≠ n) : seekP l n = none := by
  unfold seekP
  refine List.find?_eq_none.2 fun x hx => ?_
  obtain ⟨i, hi, rfl⟩ := List.getElem_of_mem hx
  have := h i hi
  rw [atPd_eq hi] at this
  simpa using this
/-- what among answers -/
def amgV (o : Option Pd) : Value := match o with
  | some p => .tuple #[.agg #[.string p.n, .int .i64 (p.a : Int)], .bool true]
  | none => .tuple #[.agg #[.string ⟨#[]⟩, .int .i64 0], .bool false]
set_option maxHeartbeats 1600000 in
theorem among_any (n : ByteArray) (v : Value) (l : List Pd) (w : World) (hl : Ls w v l.length (l.flatMap Pd.cells)) :
    Calls Tryz.prog 48 #[.string n, v] w fun e w' => e = .returned (amgV (seekP l n)) ∧ Below w.heap.size w w' := by
  obtain ⟨a, c, rfl, hc1, hc2, hat⟩ := pd_form hl
  have hmax : l.length ≤ maxLen := Nat.le_trans hc1 hc2
  unfold maxLen at hmax
  have HAT := Lib.hid hat
  obtain ⟨o, ho⟩ : ∃ o, seekP l n = o := ⟨_, rfl⟩
  rw [ho]
  have HO := Lib.hid ho
  have HB := Lib.hid (belowA (w := w) (.cells #[.string ⟨#[]⟩, .int .i64 0] 65))
  have HR := Lib.hid (rl_new w #[.string ⟨#[]⟩, .int .i64 0] 65)
  clear hat hl ho
  go_enter Tryz.func48, Tryz.ntmps48
  go_wp2
  have d0 := HR.out.at (j := 0) rfl
  have d1 := HR.out.at (j := 1) rfl
  have f0 := World.rowIs.frozen HR.out 0
  have f1 := World.rowIs.frozen HR.out 1
  generalize w.alloc (.cells #[.string ⟨#[]⟩, .int .i64 0] 65) = W at HB HR d0 d1 f0 f1 ⊢
  go_loopw [6] (fun i wr => wr = W ∧ ∃ k : Nat, k ≤ l.length ∧ i = .int .i64 k ∧ Hid (∀ j, j < k → (atPd l j).n ≠ n)) (fun i _ => l.length - (intOf i).toNat)
  case atStart => exact ⟨rfl, 0, Nat.zero_le _, rfl, fun j hj => absurd hj (by omega)⟩
  case round =>
    obtain ⟨rfl, k, hk, rfl, HN⟩ := hrel
    by_cases hlt : k < l.length
    · have hlt' : (k : Int) < (l.length : Int) := by omega
      have hk0 : (0 : Int) ≤ (k : Int) := by omega
      obtain ⟨g, off, rfl, hg, hT⟩ := HAT.out (by omega)
      obtain ⟨x0, x1⟩ := hT k hlt
      have hne : g ≠ w.heap.size := by omega
      have y0 : wr.cell? ⟨g, off + k * 2, none⟩ = some (.string (atPd l k).n) := by rw [HB.out.cell (p := ⟨g, off + k * 2, none⟩) hg]; exact x0
      have y1 : wr.cell? ⟨g, off + k * 2 + 1, none⟩ = some (.int .i64 ((atPd l k).a : Int)) := by rw [HB.out.cell (p := ⟨g, off + k * 2 + 1, none⟩) hg]; exact x1
      clear hT x0 x1
      by_cases e : (atPd l k).n = n
      · have hB : ((atPd l k).n.toList == n.toList) = true := by rw [e]; simp
        have HV : Hid (o = some (atPd l k)) := by show _ = _; rw [← HO.out]; exact seekP_at hlt HN.out e
        clear e
        generalize atPd l k = q at y0 y1 hB HV
        go_wp2
        have hd : RL ((wr.setCell ⟨w.heap.size, 0, none⟩ (.string q.n)).setCell ⟨w.heap.size, 1, none⟩ (.int .i64 (q.a : Int))) w.heap.size 65 [.string q.n, .int .i64 (q.a : Int)] := (HR.out.set 0 _).set 1 _
        refine bodyPost_ret (rl_resP Tryz.results48 (v := .agg #[.string q.n, .int .i64 (q.a : Int)]) (u := .bool true) rfl (run_loadVar_mid _ _ 0 65 [.string q.n, .int .i64 (q.a : Int)] _ (RL.range hd) Tryz.underlying65 rfl (by kernel_rfl)) rfl) rfl ?_
        refine ⟨by rw [HV.out]; rfl, HB.out.os, HB.out.tape, HB.out.output, by simpa using HB.out.size, fun j hj => ?_⟩
        rw [heap_setTwo (b5 := j + 1) (by omega) (by omega)]
        exact HB.out.block j hj
      · have hB : ((atPd l k).n.toList == n.toList) = false := by
          rw [beq_eq_false_iff_ne]
          exact fun h => e (toList_inj h)
        have HNX : Hid (∀ j, j < k + 1 → (atPd l j).n ≠ n) := fun j hj => by
          by_cases h : j < k
          · exact HN.out j h
          · obtain rfl : j = k := by omega
            exact e
        clear e HN
        generalize atPd l k = q at y0 y1 hB
        go_wp2
        go_roundw
        case rel => exact ⟨by first | rfl | trivial, k + 1, by omega, by go_num, HNX⟩
        case measure => simp [intOf]; omega
    · obtain rfl : k = l.length := by omega
      have HV : Hid (o = none) := by show _ = _; rw [← HO.out]; exact seekP_no HN.out
      clear HN
      go_wp2
      have hd : RL ((wr.setCell ⟨w.heap.size, 0, none⟩ (.string ⟨#[]⟩)).setCell ⟨w.heap.size, 1, none⟩ (.int .i64 0)) w.heap.size 65 [.string ⟨#[]⟩, .int .i64 0] := (HR.out.set 0 _).set 1 _
      refine bodyPost_ret (rl_resP Tryz.results48 (v := .agg #[.string ⟨#[]⟩, .int .i64 0]) (u := .bool false) rfl (run_loadVar_mid _ _ 0 65 [.string ⟨#[]⟩, .int .i64 0] _ (RL.range hd) Tryz.underlying65 rfl (by kernel_rfl)) rfl) rfl ?_
      refine ⟨by rw [HV.out]; rfl, HB.out.os, HB.out.tape, HB.out.output, by simpa using HB.out.size, fun j hj => ?_⟩
      rw [heap_setTwo (b5 := j + 1) (by omega) (by omega)]
      exact HB.out.block j hj
attribute [-go_sem] Builtin.append_
set_option maxHeartbeats 3200000 in
set_option maxRecDepth 100000 in
theorem stand_any (d : Nat) (r : R3) (p : RP) (w : World) (hR : RIs w d r p) (hbl : r.bd.length ≤ 1048576) :
    Calls Tryz.prog 45 #[r.val p] w fun e w' => ∃ a c, e = .returned (.slice a (stR r).length c) ∧ w'.ownsRow w.heap.size 65 2 (.slice a (stR r).length c) (stR r).length ((stR r).flatMap Pd.cells) ∧ Below w.heap.size w w' := by
  obtain ⟨i0, hi0, hz0, hz1, hz2⟩ := info_parts infoPd
  obtain ⟨pa, pc, ba, bc⟩ := p
  have hB := belowA (w := w) (.cells (r.cells ⟨pa, pc, ba, bc⟩).toArray 74)
  have HR0 := Lib.hid (rl_new w (r.cells ⟨pa, pc, ba, bc⟩).toArray 74)
  have HB := Lib.hid hB
  obtain ⟨ba', bc', hv, hc1, hc2, hat⟩ := hR.bd.form
  injection hv with hv1 _ hv2
  subst hv1 hv2
  have HAT := Lib.hid hat
  have HST : Hid (∀ k, k ≤ r.bd.length → (⟨r.pr, r.hd.length⟩ :: (r.bd.take k).flatMap stX : List Pd).length ≤ 1048577) := fun k hk => by
    have := stL_len (r.bd.take k)
    rw [List.length_take] at this
    rw [List.length_cons]
    omega
  have hbox : (R3.val r ⟨pa, pc, ba, bc⟩) = .agg #[.string r.pr, .slice pa r.hd.length pc, .slice ba r.bd.length bc] := rfl
  have hcl : (r.cells ⟨pa, pc, ba, bc⟩).toArray = #[.string r.pr, .slice pa r.hd.length pc, .slice ba r.bd.length bc] := rfl
  rw [hbox]
  rw [hcl] at HB HR0
  clear hB hR hat hbox hcl
  go_enter Tryz.func45, Tryz.ntmps45
  go_upto_region 1 with fail
  have HR1 : Hid (RL (w.alloc (.cells #[.string r.pr, .slice pa r.hd.length pc, .slice ba r.bd.length bc] 74)) w.heap.size 74 (r.cells ⟨pa, pc, ba, bc⟩)) := HR0.out
  have HZ : Hid ((w.alloc (.cells #[.string r.pr, .slice pa r.hd.length pc, .slice ba r.bd.length bc] 74)).heap.size = w.heap.size + 1) := by show _ = _; simp
  clear HR0
  generalize w.alloc (.cells #[.string r.pr, .slice pa r.hd.length pc, .slice ba r.bd.length bc] 74) = W at HB HR1 HZ ⊢
  have c0 := HR1.out.at (j := 0) rfl
  have c1 := HR1.out.at (j := 1) rfl
  have HO : Hid ((W.alloc (.cells #[.string r.pr, .int .i64 (r.hd.length : Int)] 65)).ownsRow W.heap.size 65 2 (.slice (some ⟨W.heap.size, 0, none⟩) 1 1) 1 [.string r.pr, .int .i64 (r.hd.length : Int)]) := World.ownsRow_lit W #[.string r.pr, .int .i64 (r.hd.length : Int)] 1 (Nat.le_refl _) (by decide) rfl
  have HBB := Lib.hid (belowA (w := W) (.cells #[.string r.pr, .int .i64 (r.hd.length : Int)] 65))
  go_wp2
  clear c0 c1
  generalize W.alloc (.cells #[.string r.pr, .int .i64 (r.hd.length : Int)] 65) = W1 at HO HBB ⊢
  go_loopw [3, 4] (fun v i wr => ∃ (k : Nat) (a' : Option Addr) (c' : Nat) (st : List Pd), k ≤ r.bd.length ∧ i = .int .i64 k ∧ v = .slice a' st.length c' ∧ Hid (st = ⟨r.pr, r.hd.length⟩ :: (r.bd.take k).flatMap stX) ∧ Hid (wr.ownsRow W.heap.size 65 2 (.slice a' st.length c') st.length (st.flatMap Pd.cells)) ∧ Hid (Below W.heap.size W wr)) (fun _ i _ => r.bd.length - (intOf i).toNat)
  case atStart => exact ⟨0, some ⟨W.heap.size, 0, none⟩, 1, [⟨r.pr, r.hd.length⟩], Nat.zero_le _, rfl, rfl, rfl, HO, HBB⟩
  case round =>
    clear HO HBB
    obtain ⟨k, a', c', st, hk, rfl, rfl, HS, HO, HBW⟩ := hrel
    obtain ⟨U, rfl⟩ : ∃ U, U = wr := ⟨_, rfl⟩
    have q2 := (RL.below HR1.out HBW.out).at (j := 2) rfl
    by_cases hlt : k < r.bd.length
    · have hlt' : (k : Int) < (r.bd.length : Int) := by omega
      have hk0 : (0 : Int) ≤ (k : Int) := by omega
      obtain ⟨g, off, hba, hg, hT⟩ := HAT.out (by omega)
      subst hba
      have HRG : Hid (∀ u, Below W.heap.size W u → u.rangeAt g (off + k * 16) (atL r.bd k).cells) := fun u hu => range_below (hT k hlt) (HB.out.trans (hu.mono HB.out.size)) hg
      have HNX : Hid (∀ x, stX (atL r.bd k) = x → ⟨r.pr, r.hd.length⟩ :: (r.bd.take (k + 1)).flatMap stX = st ++ x) := fun x hx => by rw [stR_take hlt, HS.out, hx]; rfl
      have hstl : st.length ≤ 1048577 := by rw [HS.out]; exact HST.out k (by omega)
      obtain ⟨y, hy⟩ : ∃ y, atL r.bd k = y := ⟨_, rfl⟩
      rw [hy] at HRG HNX
      have z0 : U.cell? ⟨g, off + k * 16, none⟩ = some (.int .i8 y.x.k) := HRG.out U HBW.out 0 _ rfl
      clear hT hy HS
      by_cases hq : y.x.k = 1 ∨ y.x.k = 2
      · have HX := Lib.hid (HNX.out [Pd.mk y.x.pr y.x.ts.length] (by unfold stX; rw [if_pos hq]))
        have hD : Below U.heap.size U U.drew := (Below.refl _ _).drew
        have hA := belowA (w := U.drew) (.cells #[.string y.x.pr, .int .i64 (y.x.ts.length : Int)] 65)
        have hbD : Below W.heap.size W U.drew := HBW.out.trans (hD.mono HBW.out.size)
        have hb5 : Below W.heap.size W (U.drew.alloc (.cells #[.string y.x.pr, .int .i64 (y.x.ts.length : Int)] 65)) := hbD.trans (hA.mono hbD.size)
        have ho := own_below (own_below HO.out hD) hA
        obtain ⟨v', w5, hrun, hown', hgrow, hnil, hloc⟩ := run_append_own_at (P := Tryz.prog) (U.drew.alloc (.cells #[.string y.x.pr, .int .i64 (y.x.ts.length : Int)] 65)) W.heap.size 58 58 65 i0 _ 2 24 Tryz.underlying58 hi0 hz0 hz1 hz2 rfl (by decide) _ _ _ ho ⟨_, 0, none⟩ 1 1 [.string y.x.pr, .int .i64 (y.x.ts.length : Int)] rfl (lit_news _ #[.string y.x.pr, .int .i64 (y.x.ts.length : Int)] _) (by simp [Value.oneCell']) (by unfold maxLen; omega) (by omega) hb5.size
        have HB5 : Hid (Below W.heap.size W w5) := hb5.grown hgrow hb5.size (fun j hj => (ho.lt j hj).1)
        have HBA := Lib.hid hb5
        have HRUN := Lib.hid hrun
        obtain ⟨a6, c6, rfl, _⟩ := own_form hown'
        have HO5 : Hid (w5.ownsRow W.heap.size 65 2 (.slice a6 (st ++ [Pd.mk y.x.pr y.x.ts.length]).length c6) (st ++ [Pd.mk y.x.pr y.x.ts.length]).length ((st ++ [Pd.mk y.x.pr y.x.ts.length]).flatMap Pd.cells)) := by
          show World.ownsRow _ _ _ _ _ _ _
          rw [List.length_append, List.flatMap_append]
          exact hown'
        have HBD := Lib.hid hbD
        have HL2 : Hid (∀ u, Below W.heap.size W u → (loadVar 72 ⟨w.heap.size, 2, none⟩).run Tryz.prog u = .ok (.slice (some ⟨g, off, none⟩) r.bd.length bc) u) := fun u hu => by
          have := (rule_loads (RL.below HR1.out hu)).2.1
          exact this
        have HLP : Hid (∀ u, Below W.heap.size W u → (loadVar 9 ⟨g, off + k * 16 + 1, none⟩).run Tryz.prog u = .ok (.string y.x.pr) u) := fun u hu => load_s (HRG.out u hu 1 _ rfl)
        have HLT : Hid (∀ u, Below W.heap.size W u → (loadVar 26 ⟨g, off + k * 16 + 2, none⟩).run Tryz.prog u = .ok (.slice y.p.a y.x.ts.length y.p.c) u) := fun u hu => by
          have := HRG.out u hu 2 _ rfl
          rw [loadVar.eq_1]
          go_simp
        clear hD hA hbD hb5 ho hrun hown' hgrow hnil hloc HRG HNX
        have e3 : (y.x.k == 1) = true ∨ ((y.x.k == 1) = false ∧ (y.x.k == 2) = true) := by
          by_cases h1 : y.x.k = 1
          · exact .inl (by rw [h1]; rfl)
          · have h2 := hq.resolve_left h1
            exact .inr ⟨by rw [h2]; rfl, by rw [h2]; rfl⟩
        clear hq
        rcases e3 with e1 | ⟨e1, e2⟩
        all_goals
          go_upto_region 6 with fail
          clear q2 z0 e1
          refine wp_region_noPanic ?_
          refine wp_region_held (S := fun u => Below W.heap.size W u) (by kernel_rfl) ?_
          refine rfstand (w5 := U) (S := fun u => Below W.heap.size W u) (b := w.heap.size) (g := g) (off := off) (nn := r.bd.length) (cc := bc) (k := k) (tn := y.x.ts.length) (tc := y.p.c) (ta := y.p.a) (pr := y.x.pr) (ov := .slice a' st.length c') (nv := .slice a6 (st.length + 1) c6) (w3 := w5) rfl rfl rfl rfl rfl rfl rfl rfl rfl rfl rfl rfl rfl rfl rfl rfl rfl rfl rfl rfl (by kernel_rfl) (by kernel_rfl) (by kernel_rfl) (by kernel_rfl) (by kernel_rfl) (fun _ _ _ _ _ h => h) (by simp) rfl rfl rfl HBD.out rfl hlt HL2.out HLP.out HLT.out HBA.out HRUN.out HB5.out ?_
          intro wc hwc
          subst hwc
          refine NoPanic.normal ?_
          rename_i hJ hQ hK
          first | refine hJ _ _ ?_ | refine hK _ _ ?_
          simp (config := { maxSteps := 8000000 }) only [Act.put, List.getElem_toArray, List.getElem_cons_zero, List.getElem_cons_succ, List.setIfInBounds_toArray, List.set_cons_succ, List.set_cons_zero]
          clear HL2 HLP HLT HBA HRUN HBD HO HBW
          go_wp2
          go_roundw
          case rel => exact ⟨k + 1, a6, c6, st ++ [Pd.mk y.x.pr y.x.ts.length], by omega, by go_num, by simp, HX.out.symm, HO5, HB5⟩
          case measure => simp [intOf]; omega
      · have HX := Lib.hid (HNX.out [] (by unfold stX; rw [if_neg hq]))
        rw [List.append_nil] at HX
        have e1 : (y.x.k == 1) = false := by rw [beq_eq_false_iff_ne]; exact fun h => hq (.inl h)
        have e2 : (y.x.k == 2) = false := by rw [beq_eq_false_iff_ne]; exact fun h => hq (.inr h)
        clear HRG HNX hq
        go_wp2
        go_roundw
        case rel => exact ⟨k + 1, a', c', st, by omega, by go_num, rfl, HX.out.symm, HO, HBW⟩
        case measure => simp [intOf]; omega
    · obtain rfl : k = r.bd.length := by omega
      rw [List.take_length] at HS
      have hst : st = stR r := HS.out
      subst hst
      have HBF : Hid (Below w.heap.size w U) := HB.out.trans (HBW.out.mono HB.out.size)
      go_wp2
      go_ret
      exact ⟨a', c', rfl, own_lower HO.out HB.out.size, HBF.out⟩
end Go.Proofs.YtmmkpcbelofkmaaGreatDoor
end
section
namespace Go.Proofs.YtmmkpcbelofkmaaGreatDoor
open Go.RowKit Go.Maps
set_option linter.unusedVariables false
set_option linter.unusedSimpArgs false
attribute [local go_sem ↓] Go.wp_at_zero Go.wp_at_succ
attribute [-go_sem] Builtin.append_

theorem while_at {l : List Pd} {P : Pd → Bool} {j : Nat} (hj : j ≤ l.length) (h1 : ∀ i, i < j → P (atPd l i) = true) (h2 : j < l.length → P (atPd l j) = false) : l.takeWhile P = l.take j ∧ l.dropWhile P = l.drop j := by
  induction l generalizing j with
  | nil => simp
  | cons x l ih =>
    cases j with
    | zero =>
      have : P x = false := h2 (by simp)
      simp [List.takeWhile_cons, List.dropWhile_cons, this]
    | succ j =>
      have hx : P x = true := h1 0 (by omega)
      simp only [List.length_cons] at hj
      obtain ⟨e1, e2⟩ := ih (j := j) (by omega) (fun i hi => h1 (i + 1) (by omega)) (fun h => h2 (by simp; omega))
      rw [List.takeWhile_cons_of_pos hx, List.dropWhile_cons_of_pos hx, e1, e2]
      exact ⟨rfl, rfl⟩
theorem ins_at {kn : List Pd} {q : Pd} {j : Nat} (hj : j ≤ kn.length) (h1 : ∀ i, i < j → ltS (atPd kn i).n q.n = true) (h2 : j < kn.length → ltS (atPd kn j).n q.n = false) : insP kn q = kn.take j ++ q :: kn.drop j := by
  obtain ⟨e1, e2⟩ := while_at (P := fun x => ltS x.n q.n) hj h1 h2
  unfold insP
  rw [e1, e2]
theorem rest_at {kn : List Pd} {j m : Nat} (h : m < kn.length) (hj : j ≤ m) : (kn.drop j).take (m + 1 - j) = (kn.drop j).take (m - j) ++ [atPd kn m] := by
  rw [show m + 1 - j = (m - j) + 1 by omega, List.take_add_one, List.getElem?_drop, show j + (m - j) = m by omega, List.getElem?_eq_getElem h, atPd_eq h]
  rfl
/-- what is put together, amid the third loop -/
def insM (kn : List Pd) (q : Pd) (j m : Nat) : List Pd := kn.take j ++ q :: (kn.drop j).take (m - j)
theorem insM_start (kn : List Pd) (q : Pd) (j : Nat) : insM kn q j j = kn.take j ++ [q] := by unfold insM; rw [Nat.sub_self, List.take_zero]
theorem insM_next {kn : List Pd} {q : Pd} {j m : Nat} (h : m < kn.length) (hj : j ≤ m) : insM kn q j (m + 1) = insM kn q j m ++ [atPd kn m] := by
  unfold insM
  rw [rest_at h hj, List.append_assoc]
  rfl
theorem insM_end (kn : List Pd) (q : Pd) (j : Nat) : insM kn q j kn.length = kn.take j ++ q :: kn.drop j := by
  have : (kn.drop j).take (kn.length - j) = kn.drop j := List.take_of_length_le (by rw [List.length_drop]; omega)
  unfold insM
  rw [this]
theorem insM_len {kn : List Pd} {q : Pd} {j m : Nat} (hj : j ≤ m) (hm : m ≤ kn.length) : (insM kn q j m).length = m + 1 := by
  unfold insM
  rw [List.length_append, List.length_cons, List.length_take, List.length_take, List.length_drop]
  omega
/-- a row of predicates that grows by one -/
theorem pd_push {w0 u : World} {B : Nat} {a : Option Addr} {c : Nat} {out : List Pd} (x : Pd) (own : u.ownsRow B 65 2 (.slice a out.length c) out.length (out.flatMap Pd.cells)) (hb : Below B w0 u) (hB : B ≤ w0.heap.size) (hl : out.length ≤ 1000000000) :
    ∃ a6 c6 w5, (Builtin.append_ #[58, 58] 58 #[.slice a out.length c, .slice (some ⟨u.heap.size, 0, none⟩) 1 1]).run Tryz.prog (u.alloc (.cells #[.string x.n, .int .i64 (x.a : Int)] 65)) = .ok (.slice a6 (out.length + 1) c6) w5 ∧ w5.ownsRow B 65 2 (.slice a6 (out ++ [x]).length c6) (out ++ [x]).length ((out ++ [x]).flatMap Pd.cells) ∧ Below B w0 w5 := by
  obtain ⟨i0, hi0, hz0, hz1, hz2⟩ := info_parts infoPd
  have hA := belowA (w := u) (.cells #[.string x.n, .int .i64 (x.a : Int)] 65)
  have hzu : B ≤ u.heap.size := Nat.le_trans hB hb.size
  have hb5 : Below B w0 (u.alloc (.cells #[.string x.n, .int .i64 (x.a : Int)] 65)) := hb.trans (hA.mono hzu)
  have hz5 : B ≤ (u.alloc (.cells #[.string x.n, .int .i64 (x.a : Int)] 65)).heap.size := Nat.le_trans hzu hA.size
  have ho := own_below own hA
  obtain ⟨v', w5, hrun, hown', hgrow, hnil, hloc⟩ := run_append_own_at (P := Tryz.prog) (u.alloc (.cells #[.string x.n, .int .i64 (x.a : Int)] 65)) B 58 58 65 i0 _ 2 24 Tryz.underlying58 hi0 hz0 hz1 hz2 rfl (by decide) _ _ _ ho ⟨_, 0, none⟩ 1 1 [.string x.n, .int .i64 (x.a : Int)] rfl (lit_news _ #[.string x.n, .int .i64 (x.a : Int)] _) (by simp [Value.oneCell']) (by unfold maxLen; omega) (by omega) hz5
  obtain ⟨a6, c6, rfl, _⟩ := own_form hown'
  refine ⟨a6, c6, w5, hrun, ?_, hb5.grown hgrow hz5 (fun j hj => (ho.lt j hj).1)⟩
  rw [List.length_append, List.flatMap_append]
  exact hown'
/-- cells of a list of predicates, in a world behind -/
theorem pd_cell {w u : World} {g off : Nat} {l : List Pd} (hg : g < w.heap.size) (hc : ∀ i, i < l.length → w.cell? ⟨g, off + i * 2, none⟩ = some (.string (atPd l i).n) ∧ w.cell? ⟨g, off + i * 2 + 1, none⟩ = some (.int .i64 ((atPd l i).a : Int))) (hb : Below w.heap.size w u) {i : Nat} (hi : i < l.length) :
    u.cell? ⟨g, off + i * 2, none⟩ = some (.string (atPd l i).n) ∧ u.cell? ⟨g, off + i * 2 + 1, none⟩ = some (.int .i64 ((atPd l i).a : Int)) :=
  ⟨by rw [hb.cell (p := ⟨g, off + i * 2, none⟩) hg]; exact (hc i hi).1, by rw [hb.cell (p := ⟨g, off + i * 2 + 1, none⟩) hg]; exact (hc i hi).2⟩
/-- what Meet answers -/
def MeP (B : Nat) (w : World) (o : Option (List Pd)) (e : Ending) (w' : World) : Prop :=
  Below B w w' ∧ ((∃ r sv, o = some r ∧ e = .returned (.tuple #[sv, .bool true]) ∧ Ls w' sv r.length (r.flatMap Pd.cells)) ∨ (o = none ∧ e = .returned (.tuple #[.slice none 0 0, .bool false])))
theorem meetL_step {s : List Pd} {l : List Pd} {k : Nat} (h : k < l.length) : meetL s (l.drop k) = match seekP s (atPd l k).n with
    | some q => if q.a = (atPd l k).a then meetL s (l.drop (k + 1)) else none
    | none => meetL (insP s (atPd l k)) (l.drop (k + 1)) := by
  rw [List.drop_eq_getElem_cons h, ← atPd_eq h, meetL]
  rfl
set_option maxHeartbeats 6400000 in
set_option maxRecDepth 100000 in
theorem meet_any (vk vl : Value) (kn0 l : List Pd) (w : World) (hk0 : Ls w vk kn0.length (kn0.flatMap Pd.cells)) (hl0 : Ls w vl l.length (l.flatMap Pd.cells)) (hlen : kn0.length + l.length ≤ 900000000) :
    Calls Tryz.prog 24 #[vk, vl] w fun e w' => MeP w.heap.size w (meetL kn0 l) e w' := by
  obtain ⟨al, cl, rfl, hl1, hl2, hlat⟩ := pd_form hl0
  have HLA := Lib.hid hlat
  have HK0 := Lib.hid hk0
  obtain ⟨ak, ck, rfl, _, _, _⟩ := pd_form hk0
  clear hk0 hl0 hlat
  go_enter Tryz.func24, Tryz.ntmps24
  go_wp2
  go_loopw [0, 6] (fun v i wr => ∃ (k : Nat) (a' : Option Addr) (c' : Nat) (kn : List Pd), k ≤ l.length ∧ i = .int .i64 k ∧ v = .slice a' kn.length c' ∧ Hid (meetL kn0 l = meetL kn (l.drop k)) ∧ Hid (Ls wr (.slice a' kn.length c') kn.length (kn.flatMap Pd.cells)) ∧ Hid (Below w.heap.size w wr) ∧ Hid (kn.length ≤ kn0.length + k)) (fun _ i _ => l.length - (intOf i).toNat)
  case atStart => exact ⟨0, ak, ck, kn0, Nat.zero_le _, rfl, rfl, rfl, HK0, Below.refl _ _, Nat.le_refl _⟩
  case round =>
    clear HK0
    obtain ⟨k, a', c', kn, hk, rfl, rfl, HM, HK, HB, HL⟩ := hrel
    obtain ⟨U, rfl⟩ : ∃ U, U = wr := ⟨_, rfl⟩
    have hknl : kn.length ≤ 900000000 := by have := HL.out; omega
    by_cases hlt : k < l.length
    · have hlt' : (k : Int) < (l.length : Int) := by omega
      have hk0 : (0 : Int) ≤ (k : Int) := by omega
      obtain ⟨g, off, rfl, hg, hT⟩ := HLA.out (by omega)
      obtain ⟨x0, x1⟩ := pd_cell hg hT HB.out hlt
      have HCL : Hid (∀ u, Below w.heap.size w u → u.cell? ⟨g, off + k * 2, none⟩ = some (.string (atPd l k).n) ∧ u.cell? ⟨g, off + k * 2 + 1, none⟩ = some (.int .i64 ((atPd l k).a : Int))) := fun u hu => pd_cell hg hT hu hlt
      have HMS := Lib.hid (meetL_step (s := kn) hlt)
      rw [← HM.out] at HMS
      have HA := Lib.hid (among_any (atPd l k).n _ kn U HK.out)
      generalize atPd l k = q at x0 x1 HCL HMS HA
      clear hT HM
      cases hs : seekP kn q.n with
      | some qq =>
        rw [hs] at HMS HA
        unfold amgV at HA
        simp only at HA HMS
        clear hs
        go_wp2_with fail
        refine HA.out.mono ?_
        rintro e w1 ⟨rfl, b1⟩
        have HB1 : Hid (Below w.heap.size w w1) := HB.out.trans (b1.mono HB.out.size)
        have HBX := Lib.hid (belowA (w := w1) (.cells #[.string qq.n, .int .i64 (qq.a : Int)] 65))
        have HB2 : Hid (Below w.heap.size w (w1.alloc (.cells #[.string qq.n, .int .i64 (qq.a : Int)] 65))) := HB1.out.trans (HBX.out.mono HB1.out.size)
        have HK2 : Hid (Ls (w1.alloc (.cells #[.string qq.n, .int .i64 (qq.a : Int)] 65)) (.slice a' kn.length c') kn.length (kn.flatMap Pd.cells)) := (HK.out.below b1).below HBX.out
        have HRX := Lib.hid (rl_new w1 #[.string qq.n, .int .i64 (qq.a : Int)] 65)
        clear b1 HA x0 x1 HK HBX HB
        go_upto_region 5 with fail
        generalize w1.alloc (.cells #[.string qq.n, .int .i64 (qq.a : Int)] 65) = W at HB2 HK2 HRX ⊢
        have y1 := (HCL.out W HB2.out).2
        have z1 := HRX.out.at (j := 1) rfl
        by_cases he : qq.a = q.a
        · have e1 : ((qq.a : Int) != (q.a : Int)) = false := by rw [he]; simp
          rw [if_pos he] at HMS
          clear he HRX
          go_wp2_with fail
          go_quiet (fail)
          go_wp2
          go_roundw
          case rel => exact ⟨k + 1, a', c', kn, by omega, by go_num, rfl, HMS, HK2, ⟨HB2.out.os, HB2.out.tape, HB2.out.output, HB2.out.size, HB2.out.block⟩, by have := HL.out; show _ ≤ _; omega⟩
          case measure => simp [intOf]; omega
        · have e1 : ((qq.a : Int) != (q.a : Int)) = true := by rw [bne_iff_ne]; omega
          rw [if_neg he] at HMS
          clear he HRX
          go_wp2_with fail
          go_quiet (fail)
          go_wp2
          go_ret2
          exact ⟨⟨HB2.out.os, HB2.out.tape, HB2.out.output, HB2.out.size, HB2.out.block⟩, .inr ⟨HMS.out, rfl⟩⟩
      | none =>
        rw [hs] at HMS HA
        unfold amgV at HA
        simp only at HA HMS
        clear hs
        go_wp2_with fail
        refine HA.out.mono ?_
        rintro e w1 ⟨rfl, b1⟩
        have HB1 : Hid (Below w.heap.size w w1) := HB.out.trans (b1.mono HB.out.size)
        have HBX := Lib.hid (belowA (w := w1) (.cells #[.string ⟨#[]⟩, .int .i64 0] 65))
        have HB2 : Hid (Below w.heap.size w (w1.alloc (.cells #[.string ⟨#[]⟩, .int .i64 0] 65))) := HB1.out.trans (HBX.out.mono HB1.out.size)
        have hK2 : Ls (w1.alloc (.cells #[.string ⟨#[]⟩, .int .i64 0] 65)) (.slice a' kn.length c') kn.length (kn.flatMap Pd.cells) := (HK.out.below b1).below HBX.out
        clear b1 HA x0 x1 HK HBX HB HB1
        go_upto_region 5 with fail
        generalize w1.alloc (.cells #[.string ⟨#[]⟩, .int .i64 0] 65) = W at HB2 hK2 ⊢
        obtain ⟨ak2, ck2, hvk, hkc1, hkc2, hkat⟩ := pd_form hK2
        injection hvk with hvk1 _ hvk2
        subst hvk1 hvk2
        have HKA := Lib.hid hkat
        clear hkat hK2
        go_wp2_with fail
        go_quiet (fail)
        go_wp2
        have HB3 : Hid (Below w.heap.size w (W.drewN nq)) := ⟨HB2.out.os, HB2.out.tape, HB2.out.output, HB2.out.size, HB2.out.block⟩
        have HKA3 : Hid (0 < kn.length → ∃ g off, a' = some ⟨g, off, none⟩ ∧ g < (W.drewN nq).heap.size ∧ ∀ i, i < kn.length → (W.drewN nq).cell? ⟨g, off + i * 2, none⟩ = some (.string (atPd kn i).n) ∧ (W.drewN nq).cell? ⟨g, off + i * 2 + 1, none⟩ = some (.int .i64 ((atPd kn i).a : Int))) := HKA.out
        clear HB2 HKA
        generalize W.drewN nq = X at HB3 HKA3 ⊢
        have hzX : w.heap.size ≤ X.heap.size := HB3.out.size
        go_loopw [9, 10] (fun v i wr => ∃ (j : Nat) (a6 : Option Addr) (c6 : Nat), j ≤ kn.length ∧ i = .int .i64 j ∧ v = .slice a6 (kn.take j).length c6 ∧ Hid (∀ i, i < j → ltS (atPd kn i).n q.n = true) ∧ Hid (wr.ownsRow X.heap.size 65 2 (.slice a6 (kn.take j).length c6) (kn.take j).length ((kn.take j).flatMap Pd.cells)) ∧ Hid (Below X.heap.size X wr)) (fun _ i _ => kn.length - (intOf i).toNat)
        case atStart => exact ⟨0, none, 0, Nat.zero_le _, rfl, by simp, fun i hi => absurd hi (by omega), (by rw [List.take_zero]; exact World.ownsRow_nil _ _ _ _), Below.refl _ _⟩
        case round =>
          obtain ⟨j, a6, c6, hj, rfl, rfl, HLT, HO, HBX⟩ := hrel
          obtain ⟨Y, rfl⟩ : ∃ Y, Y = wr := ⟨_, rfl⟩
          have htl : (kn.take j).length = j := by rw [List.length_take]; omega
          have hbw : Below w.heap.size w Y := HB3.out.trans (HBX.out.mono hzX)
          have qn := (HCL.out Y hbw).1
          by_cases hcon : j < kn.length ∧ ltS (atPd kn j).n q.n = true
          · obtain ⟨hj2, hb⟩ := hcon
            have hj2' : (j : Int) < (kn.length : Int) := by omega
            have hj0 : (0 : Int) ≤ (j : Int) := by omega
            obtain ⟨g2, off2, rfl, hg2, hc2⟩ := HKA3.out (by omega)
            obtain ⟨y0, y1⟩ := pd_cell hg2 hc2 HBX.out hj2
            have HLN : Hid (∀ i, i < j + 1 → ltS (atPd kn i).n q.n = true) := fun i hi => by
              by_cases h : i < j
              · exact HLT.out i h
              · obtain rfl : i = j := by omega
                exact hb
            have HTK : Hid (kn.take (j + 1) = kn.take j ++ [atPd kn j]) := takePd hj2
            have hb' : Op.bytesLess (atPd kn j).n.toList q.n.toList = true := hb
            have HCY : Hid (∀ u, Below X.heap.size X u → u.cell? ⟨g2, off2 + j * 2, none⟩ = some (.string (atPd kn j).n) ∧ u.cell? ⟨g2, off2 + j * 2 + 1, none⟩ = some (.int .i64 ((atPd kn j).a : Int))) := fun u hu => pd_cell hg2 hc2 hu hj2
            generalize atPd kn j = x at y0 y1 HTK hb' HCY
            clear hb hc2 HLT
            go_wp2_with fail
            go_quiet (fail)
            go_upto_region 11 with fail
            have HBD : Hid (Below X.heap.size X (Y.drewN nq)) := ⟨HBX.out.os, HBX.out.tape, HBX.out.output, HBX.out.size, HBX.out.block⟩
            have HOD : Hid ((Y.drewN nq).ownsRow X.heap.size 65 2 (.slice a6 (kn.take j).length c6) (kn.take j).length ((kn.take j).flatMap Pd.cells)) := HO.out
            clear qn y0 y1 hb'
            generalize Y.drewN nq = Z at HBD HOD ⊢
            obtain ⟨y0, y1⟩ := HCY.out Z HBD.out
            obtain ⟨a7, c7, w5, hrun, ho5, hb5⟩ := pd_push x HOD.out HBD.out (Nat.le_refl _) (by omega)
            have HO5 := Lib.hid ho5
            rw [← HTK.out] at HO5
            have HB5 := Lib.hid hb5
            rw [htl] at hrun
            clear ho5 hb5 HCY HBD HOD HO HBX hbw HTK
            go_wp2
            go_roundw
            case rel => exact ⟨j + 1, a7, c7, by omega, by go_num, (by rw [show (kn.take (j + 1)).length = j + 1 from by rw [List.length_take]; omega]), HLN, HO5, HB5⟩
            case measure => simp [intOf]; omega
          · have HIN : Hid (insP kn q = kn.take j ++ q :: kn.drop j) := ins_at hj HLT.out (fun h => by
              cases hq : ltS (atPd kn j).n q.n with
              | false => rfl
              | true => exact absurd ⟨h, hq⟩ hcon)
            have HFIN : Hid (∀ (Z : World) (a8 : Option Addr) (c8 : Nat), Z.ownsRow X.heap.size 65 2 (.slice a8 (insM kn q j kn.length).length c8) (insM kn q j kn.length).length ((insM kn q j kn.length).flatMap Pd.cells) → Below X.heap.size X Z → Ls Z (.slice a8 (insP kn q).length c8) (insP kn q).length ((insP kn q).flatMap Pd.cells) ∧ Below w.heap.size w Z ∧ (insP kn q).length = kn.length + 1) := fun Z a8 c8 ho hb => by
              rw [insM_end, ← HIN.out] at ho
              refine ⟨ls_own ho, HB3.out.trans (hb.mono hzX), ?_⟩
              have := (insP_perm kn q).length_eq
              rw [List.length_append, List.length_singleton] at this
              exact this
            have hreg : (j < kn.length ∧ ltS (atPd kn j).n q.n = false) ∨ j = kn.length := by
              by_cases h : j < kn.length
              · refine .inl ⟨h, ?_⟩
                cases hq : ltS (atPd kn j).n q.n with
                | false => rfl
                | true => exact absurd ⟨h, hq⟩ hcon
              · exact .inr (by omega)
            clear hcon HIN HLT
            rcases hreg with ⟨hj2, hb⟩ | hj2
            case' inl =>
              have hj2' : (j : Int) < (kn.length : Int) := by omega
              have hj0 : (0 : Int) ≤ (j : Int) := by omega
              obtain ⟨g2, off2, ha2, hg2, hc2⟩ := HKA3.out (by omega)
              have HHA := Lib.hid ha2
              subst ha2
              obtain ⟨y0, y1⟩ := pd_cell hg2 hc2 HBX.out hj2
              have hb' : Op.bytesLess (atPd kn j).n.toList q.n.toList = false := hb
              generalize atPd kn j = x at y0 y1 hb'
              clear hb hc2 hg2
              go_wp2_with fail
              go_quiet (fail)
              go_upto_region 13 with fail
              clear y0 y1 hb' hj2' hj0 hj2
            case' inr =>
              have hj2' : ¬ j < kn.length := by omega
              clear hj2
              go_wp2_with fail
              go_quiet (fail)
              go_upto_region 13 with fail
              clear hj2'
            all_goals
              have HBD : Hid (Below X.heap.size X (Y.drewN nq)) := ⟨HBX.out.os, HBX.out.tape, HBX.out.output, HBX.out.size, HBX.out.block⟩
              have HOD : Hid ((Y.drewN nq).ownsRow X.heap.size 65 2 (.slice a6 (kn.take j).length c6) (kn.take j).length ((kn.take j).flatMap Pd.cells)) := HO.out
              clear qn hbw
              generalize Y.drewN nq = Z at HBD HOD ⊢
              obtain ⟨x0, x1⟩ := HCL.out Z (HB3.out.trans (HBD.out.mono hzX))
              obtain ⟨a7, c7, w5, hrun, ho5, hb5⟩ := pd_push q HOD.out HBD.out (Nat.le_refl _) (by omega)
              have HO5 := Lib.hid ho5
              rw [← insM_start] at HO5
              have HB5 := Lib.hid hb5
              rw [htl] at hrun
              clear ho5 hb5 HBD HOD HO HBX
              go_wp2
              clear x0 x1 hrun
              have hl1 : (insM kn q j j).length = j + 1 := insM_len (Nat.le_refl _) hj
              go_loopw [9, 10] (fun v i wr => ∃ (m : Nat) (a8 : Option Addr) (c8 : Nat), j ≤ m ∧ m ≤ kn.length ∧ i = .int .i64 m ∧ v = .slice a8 (m + 1) c8 ∧ Hid (wr.ownsRow X.heap.size 65 2 (.slice a8 (insM kn q j m).length c8) (insM kn q j m).length ((insM kn q j m).flatMap Pd.cells)) ∧ Hid (Below X.heap.size X wr)) (fun _ i _ => kn.length - (intOf i).toNat)
              case atStart => exact ⟨j, a7, c7, Nat.le_refl _, hj, rfl, rfl, HO5, HB5⟩
              case round =>
                clear HO5 HB5
                obtain ⟨m, a8, c8, hjm, hm, rfl, rfl, HO6, HB6⟩ := hrel
                obtain ⟨V, rfl⟩ : ∃ V, V = wr := ⟨_, rfl⟩
                by_cases hm2 : m < kn.length
                · have hm2' : (m : Int) < (kn.length : Int) := by omega
                  have hm0 : (0 : Int) ≤ (m : Int) := by omega
                  obtain ⟨g3, off3, ha3, hg3, hc3⟩ := HKA3.out (by omega)
                  obtain ⟨y0, y1⟩ := pd_cell hg3 hc3 HB6.out hm2
                  have hml : (insM kn q j m).length = m + 1 := insM_len hjm hm
                  obtain ⟨a9, c9, w6, hrun, ho6, hb6⟩ := pd_push (atPd kn m) HO6.out HB6.out (Nat.le_refl _) (by omega)
                  have HO7 := Lib.hid ho6
                  rw [← insM_next hm2 hjm] at HO7
                  have HB7 := Lib.hid hb6
                  rw [hml] at hrun
                  generalize atPd kn m = x at y0 y1 hrun
                  clear ho6 hb6 HO6 HB6 hc3 hml
                  cases ha3
                  go_wp2
                  go_roundw
                  case rel => exact ⟨m + 1, a9, c9, by omega, by omega, by go_num, by first | rfl | simp, HO7, HB7⟩
                  case measure => simp [intOf]; omega
                · obtain rfl : m = kn.length := by omega
                  obtain ⟨hls, hbz, hln⟩ := HFIN.out V a8 c8 HO6.out HB6.out
                  have HLS := Lib.hid hls
                  have HBZ := Lib.hid hbz
                  have HLN := Lib.hid hln
                  clear hls hbz hln HFIN HO6 HB6
                  go_wp2
                  go_roundw
                  case rel => exact ⟨k + 1, a8, c8, insP kn q, by omega, by go_num, (by rw [HLN.out]), HMS, HLS, HBZ, (by show _ ≤ _; have := HL.out; have := HLN.out; omega)⟩
                  case measure => simp [intOf]; omega
    · obtain rfl : k = l.length := by omega
      rw [List.drop_length] at HM
      go_wp2
      go_ret2
      exact ⟨HB.out, .inl ⟨kn, _, by rw [HM.out]; rfl, rfl, HK.out⟩⟩
end Go.Proofs.YtmmkpcbelofkmaaGreatDoor
end
