import Derived.Test.YtgfnijhhhgjabaaGreatDoorG35
import Derived.Test.YtgfnijhhhgjabaaGreatDoorW2
section
namespace Go.Proofs.YtgfnijhhhgjabaaGreatDoor
open Go.RowKit Go.Maps
set_option linter.unusedVariables false
set_option linter.unusedSimpArgs false

theorem run_idxW (ev : Operand → Value) (o : Oper) {x y : Operand} (hop : o.op = .indexAddr 33 x y) (w : World) {g off n c k : Nat} (hx : ev x = .slice (some ⟨g, off, none⟩) n c) (hy : ev y = .int .i64 (k : Int)) (hk : k < n) : (execOp ev o).run Tryz.prog w = .ok (.value (.pointer (some ⟨g, off + k, none⟩))) w := by
  have hk' : (k : Int) < (n : Int) := by omega
  have hk0 : (0 : Int) ≤ (k : Int) := by omega
  simp only [execOp, hop, hx, hy]
  go_simp
theorem run_fldW2 (ev : Operand → Value) (o : Oper) {x : Operand} (hop : o.op = .fieldAddr 25 x 2) (w : World) {b : Nat} (hx : ev x = .pointer (some ⟨b, 0, none⟩)) : (execOp ev o).run Tryz.prog w = .ok (.value (.pointer (some ⟨b, 2, none⟩))) w := by
  simp only [execOp, hop, hx]
  go_simp
theorem run_buildBd (ev : Operand → Value) (o : Oper) {x y : Operand} (hop : o.op = .build 66 #[(0, x), (1, y)]) (w : World) {n xs : ByteArray} {xk xn : Int} (hx : ev x = .string n) (hy : ev y = .agg #[.int .i8 xk, .int .i64 xn, .string xs]) : (execOp ev o).run Tryz.prog w = .ok (.value (.agg #[.string n, .int .i8 xk, .int .i64 xn, .string xs])) w := by
  simp only [execOp, hop]
  simp only [List.map_toArray, List.map_cons, List.map_nil, Array.map, hx, hy]
  go_simp
theorem run_bsBd {b : Nat} (ev : Operand → Value) (o : Oper) {x : Operand} (hop : o.op = .buildSlice 26 1 #[(0, x)]) (w : World) {n xs : ByteArray} {xk xn : Int} (hx : ev x = .agg #[.string n, .int .i8 xk, .int .i64 xn, .string xs]) (hb : w.heap.size = b) : (execOp ev o).run Tryz.prog w = .ok (.value (.slice (some ⟨b, 0, none⟩) 1 1)) (w.alloc (.cells #[.string n, .int .i8 xk, .int .i64 xn, .string xs] 66)) := by
  subst hb
  simp only [execOp, hop, hx]
  go_simp
def cw6_takes : List (List Nat × Nat) := [([], 0), ([0], 1), ([0, 1], 2), ([0, 1, 2], 3), ([0, 1, 2, 3], 4), ([0, 1, 2, 3, 4], 5)]
set_option maxHeartbeats 3200000 in
theorem cw6 {ops : Array Oper} {Q : Exit → Act → World → Prop} {S : World → Prop} {a0 : Act} {w5 : World} {b g off nn cc k : Nat} {n : ByteArray} {bv : Value} {r : Bool} {ty1 ty2 : Array TypeId}
    (q0 : isOpG ops 0 none (.move (.tmp 6)) (some 28))
    (q1 : isOpG ops 1 none (.move (.tmp 7)) (some 29))
    (q2 : isOpG ops 2 none (.indexAddr 33 (.tmp 28) (.tmp 29)) (some 30))
    (q3 : isOpG ops 3 none (.load 9 (.tmp 30)) (some 31))
    (q4 : isOpG ops 4 none (.fieldAddr 25 (.tmp 2) 2) (some 32))
    (q5 : isOpG ops 5 none (.load 23 (.tmp 32)) (some 33))
    (q6 : isOpG ops 6 none (.call { callee := .value (.func 21), args := #[.tmp 33], argTypes := ty1 }) (some 34))
    (q7 : isOpG ops 7 none (.call { callee := .value (.func 20), args := #[.tmp 31, .tmp 34], argTypes := ty2 }) (some 35))
    (hs : Region.noSelect ops = true) (hq : (cw6_takes.all fun p => Region.free .any ops (LR 8 p.1) p.2 && (Region.ready .any ops (LR 8 p.1)).contains p.2) = true)
    (r6 : Region.ready .any ops (LR 8 [0, 1, 2, 3, 4, 5]) = [6])
    (r7 : Region.ready .any ops (LR 8 [0, 1, 2, 3, 4, 5, 6]) = [7])
    (rend : Region.ready .any ops (LR 8 [0, 1, 2, 3, 4, 5, 6, 7]) = [])
    (hQ : ∀ (d : Option Tmp) (v : Value) c a w, Q (.panic c) (a.put d v) w → Q (.panic c) a w)
    (hsz : 35 < a0.tmps.size) (e2 : a0.eval (.tmp 2) = .pointer (some ⟨b, 0, none⟩)) (e6 : a0.eval (.tmp 6) = .slice (some ⟨g, off, none⟩) nn cc) (e7 : a0.eval (.tmp 7) = .int .i64 (k : Int))
    (hS0 : S w5.drew)
    (keep : ∀ u u', S u → S u' → S u') (hk : k < nn) (LN : ∀ u, S u → (loadVar 9 ⟨g, off + k, none⟩).run Tryz.prog u = .ok (.string n) u) (LB : ∀ u, S u → (loadVar 23 ⟨b, 2, none⟩).run Tryz.prog u = .ok bv u)
    (C1 : Calls Tryz.prog 21 #[bv] w5.drew fun e u1 => ∃ sv, e = .returned sv ∧ S u1 ∧ Calls Tryz.prog 20 #[.string n, sv] u1 fun e u2 => e = .returned (.bool r) ∧ S u2)
    (F : ∀ (wc : World) (sv : Value), S wc → Q .normal ((((((((a0.put (some 28) (.slice (some ⟨g, off, none⟩) nn cc)).put (some 29) (.int .i64 (k : Int))).put (some 30) (.pointer (some ⟨g, off + k, none⟩))).put (some 31) (.string n)).put (some 32) (.pointer (some ⟨b, 2, none⟩))).put (some 33) (bv)).put (some 34) (sv)).put (some 35) (.bool r)) wc) :
    wpAnyH Tryz.prog .any ops Q S 8 (LR 8 []) a0 w5.drew := by
  have hall : ∀ p ∈ cw6_takes, Region.free .any ops (LR 8 p.1) p.2 = true ∧ (Region.ready .any ops (LR 8 p.1)).contains p.2 = true := by
    intro p hp
    have := List.all_eq_true.1 hq p hp
    simpa using this
  unfold cw6_takes at hall
  obtain ⟨o0, ho, hg, hop, hd⟩ := isOpG_out q0
  have hfr := hall ([], 0) (by simp)
  refine wpAnyH_take (listed := LR 8 []) (v := .slice (some ⟨g, off, none⟩) nn cc) ho hs hfr.1 hfr.2 (hQ _ _) (Or.inl ⟨(wantedN hg), fun w' hS => run_move _ _ hop w' (by (repeat rw [eval_far _ _ (by decide)]); exact e6)⟩) hS0 ?_
  rw [hd, ← LR_snoc]
  clear ho hg hop hd hfr
  obtain ⟨o1, ho, hg, hop, hd⟩ := isOpG_out q1
  have hfr := hall ([0], 1) (by simp)
  refine wpAnyH_take (listed := LR 8 [0]) (v := .int .i64 (k : Int)) ho hs hfr.1 hfr.2 (hQ _ _) (Or.inl ⟨(wantedN hg), fun w' hS => run_move _ _ hop w' (by (repeat rw [eval_far _ _ (by decide)]); exact e7)⟩) hS0 ?_
  rw [hd, ← LR_snoc]
  clear ho hg hop hd hfr
  obtain ⟨o2, ho, hg, hop, hd⟩ := isOpG_out q2
  have hfr := hall ([0, 1], 2) (by simp)
  refine wpAnyH_take (listed := LR 8 [0, 1]) (v := .pointer (some ⟨g, off + k, none⟩)) ho hs hfr.1 hfr.2 (hQ _ _) (Or.inl ⟨(wantedN hg), fun w' hS => run_idxW _ _ hop w' (by (repeat (first | rw [eval_same _ _ (by (try simp only [put_size]); omega)] | rw [eval_far _ _ (by decide)]))) (by (repeat (first | rw [eval_same _ _ (by (try simp only [put_size]); omega)] | rw [eval_far _ _ (by decide)]))) hk⟩) hS0 ?_
  rw [hd, ← LR_snoc]
  clear ho hg hop hd hfr
  obtain ⟨o3, ho, hg, hop, hd⟩ := isOpG_out q3
  have hfr := hall ([0, 1, 2], 3) (by simp)
  refine wpAnyH_take (listed := LR 8 [0, 1, 2]) (v := .string n) ho hs hfr.1 hfr.2 (hQ _ _) (Or.inl ⟨(wantedN hg), fun w' hS => run_loadS _ _ hop w' (by (repeat (first | rw [eval_same _ _ (by (try simp only [put_size]); omega)] | rw [eval_far _ _ (by decide)]))) (LN _ hS)⟩) hS0 ?_
  rw [hd, ← LR_snoc]
  clear ho hg hop hd hfr
  obtain ⟨o4, ho, hg, hop, hd⟩ := isOpG_out q4
  have hfr := hall ([0, 1, 2, 3], 4) (by simp)
  refine wpAnyH_take (listed := LR 8 [0, 1, 2, 3]) (v := .pointer (some ⟨b, 2, none⟩)) ho hs hfr.1 hfr.2 (hQ _ _) (Or.inl ⟨(wantedN hg), fun w' hS => run_fldW2 _ _ hop w' (by (repeat rw [eval_far _ _ (by decide)]); exact e2)⟩) hS0 ?_
  rw [hd, ← LR_snoc]
  clear ho hg hop hd hfr
  obtain ⟨o5, ho, hg, hop, hd⟩ := isOpG_out q5
  have hfr := hall ([0, 1, 2, 3, 4], 5) (by simp)
  refine wpAnyH_take (listed := LR 8 [0, 1, 2, 3, 4]) (v := bv) ho hs hfr.1 hfr.2 (hQ _ _) (Or.inl ⟨(wantedN hg), fun w' hS => run_loadS _ _ hop w' (by (repeat (first | rw [eval_same _ _ (by (try simp only [put_size]); omega)] | rw [eval_far _ _ (by decide)]))) (LB _ hS)⟩) hS0 ?_
  rw [hd, ← LR_snoc]
  clear ho hg hop hd hfr
  refine wpAnyH_all r6 (by simp) ?_
  intro i hi
  obtain rfl := List.mem_singleton.1 hi
  obtain ⟨o6, ho, hg, hop, hd⟩ := isOpG_out q6
  have x6_0 : (((((((a0.put (some 28) (.slice (some ⟨g, off, none⟩) nn cc)).put (some 29) (.int .i64 (k : Int))).put (some 30) (.pointer (some ⟨g, off + k, none⟩))).put (some 31) (.string n)).put (some 32) (.pointer (some ⟨b, 2, none⟩))).put (some 33) (bv))).eval (.tmp 33) = bv := (by (repeat (first | rw [eval_same _ _ (by (try simp only [put_size]); omega)] | rw [eval_far _ _ (by decide)])))
  refine wpOp_callG ho (wantedN hg) (run_callV 21 Tryz.func21 (by kernel_rfl) (by kernel_rfl) #[.tmp 33] _ hop #[bv] (by simp only [List.map_toArray, List.map_cons, List.map_nil, x6_0])) ?_
  refine (C1).mono ?_
  rintro e u1 ⟨sv, rfl, hS1, C2⟩
  have hS6 := keep _ _ hS0 hS1
  refine ⟨_, rfl, hS6, ?_⟩
  rw [hd]
  clear ho hg hop hd
  rw [← LR_snoc]
  refine wpAnyH_all r7 (by simp) ?_
  intro i hi
  obtain rfl := List.mem_singleton.1 hi
  obtain ⟨o7, ho, hg, hop, hd⟩ := isOpG_out q7
  have x7_0 : ((((((((a0.put (some 28) (.slice (some ⟨g, off, none⟩) nn cc)).put (some 29) (.int .i64 (k : Int))).put (some 30) (.pointer (some ⟨g, off + k, none⟩))).put (some 31) (.string n)).put (some 32) (.pointer (some ⟨b, 2, none⟩))).put (some 33) (bv)).put (some 34) (sv))).eval (.tmp 31) = .string n := (by (repeat (first | rw [eval_same _ _ (by (try simp only [put_size]); omega)] | rw [eval_far _ _ (by decide)])))
  have x7_1 : ((((((((a0.put (some 28) (.slice (some ⟨g, off, none⟩) nn cc)).put (some 29) (.int .i64 (k : Int))).put (some 30) (.pointer (some ⟨g, off + k, none⟩))).put (some 31) (.string n)).put (some 32) (.pointer (some ⟨b, 2, none⟩))).put (some 33) (bv)).put (some 34) (sv))).eval (.tmp 34) = sv := (by (repeat (first | rw [eval_same _ _ (by (try simp only [put_size]); omega)] | rw [eval_far _ _ (by decide)])))
  refine wpOp_callG ho (wantedN hg) (run_callV 20 Tryz.func20 (by kernel_rfl) (by kernel_rfl) #[.tmp 31, .tmp 34] _ hop #[.string n, sv] (by simp only [List.map_toArray, List.map_cons, List.map_nil, x7_0, x7_1])) ?_
  refine (C2).mono ?_
  rintro e u2 ⟨rfl, hS2⟩
  have hS7 := keep _ _ hS6 hS2
  refine ⟨_, rfl, hS7, ?_⟩
  rw [hd]
  clear ho hg hop hd
  rw [← LR_snoc]
  exact wpAnyH_done rend (F _ sv hS7) _
def cw10_takes : List (List Nat × Nat) := [([], 0), ([0], 1), ([0, 1], 2), ([0, 1, 2], 3), ([0, 1, 2, 3], 4), ([0, 1, 2, 3, 4], 5), ([0, 1, 2, 3, 4, 5], 6), ([0, 1, 2, 3, 4, 5, 6, 7, 8], 9)]
set_option maxHeartbeats 3200000 in
theorem cw10 {ops : Array Oper} {Q : Exit → Act → World → Prop} {S : World → Prop} {a0 : Act} {w5 : World} {b g off nn cc k : Nat} {n xs : ByteArray} {xk xn : Int} {ov nv : Value} {w3 : World}
    (q0 : isOpG ops 0 none (.move (.tmp 5)) (some 48))
    (q1 : isOpG ops 1 none (.move (.tmp 6)) (some 49))
    (q2 : isOpG ops 2 none (.move (.tmp 7)) (some 50))
    (q3 : isOpG ops 3 none (.indexAddr 33 (.tmp 49) (.tmp 50)) (some 51))
    (q4 : isOpG ops 4 none (.load 9 (.tmp 51)) (some 52))
    (q5 : isOpG ops 5 none (.load 38 (.tmp 8)) (some 53))
    (q6 : isOpG ops 6 none (.build 66 #[(0, .tmp 52), (1, .tmp 53)]) (some 54))
    (q7 : isOpG ops 7 none (.buildSlice 26 1 #[(0, .tmp 54)]) (some 55))
    (q8 : isOpG ops 8 none (.call { callee := .builtin .append, args := #[.tmp 48, .tmp 55], argTypes := #[26, 26] }) (some 56))
    (q9 : isOpG ops 9 none (.assign (.tmp 56)) (some 5))
    (hs : Region.noSelect ops = true) (hq : (cw10_takes.all fun p => Region.free .any ops (LR 10 p.1) p.2 && (Region.ready .any ops (LR 10 p.1)).contains p.2) = true)
    (r7 : Region.ready .any ops (LR 10 [0, 1, 2, 3, 4, 5, 6]) = [7])
    (r8 : Region.ready .any ops (LR 10 [0, 1, 2, 3, 4, 5, 6, 7]) = [8])
    (rend : Region.ready .any ops (LR 10 [0, 1, 2, 3, 4, 5, 6, 7, 8, 9]) = [])
    (hQ : ∀ (d : Option Tmp) (v : Value) c a w, Q (.panic c) (a.put d v) w → Q (.panic c) a w)
    (hsz : 56 < a0.tmps.size) (e5 : a0.eval (.tmp 5) = ov) (e6 : a0.eval (.tmp 6) = .slice (some ⟨g, off, none⟩) nn cc) (e7 : a0.eval (.tmp 7) = .int .i64 (k : Int)) (eb : a0.eval (.tmp 8) = .pointer (some ⟨b, 0, none⟩))
    (hS0 : S w5.drew)
    (t8 : ops[8]?.map Oper.type = some 26) (hk : k < nn) (LN : ∀ u, S u → (loadVar 9 ⟨g, off + k, none⟩).run Tryz.prog u = .ok (.string n) u) (LV : ∀ u, S u → (loadVar 38 ⟨b, 0, none⟩).run Tryz.prog u = .ok (.agg #[.int .i8 xk, .int .i64 xn, .string xs]) u)
    (HSB : S (w5.drew.alloc (.cells #[.string n, .int .i8 xk, .int .i64 xn, .string xs] 66))) (HAP : (Builtin.append_ #[26, 26] 26 #[ov, .slice (some ⟨w5.heap.size, 0, none⟩) 1 1]).run Tryz.prog (w5.drew.alloc (.cells #[.string n, .int .i8 xk, .int .i64 xn, .string xs] 66)) = .ok nv w3) (HSA : S w3)
    (F : ∀ (wc : World), wc = w3 → Q .normal ((((((((((a0.put (some 48) (ov)).put (some 49) (.slice (some ⟨g, off, none⟩) nn cc)).put (some 50) (.int .i64 (k : Int))).put (some 51) (.pointer (some ⟨g, off + k, none⟩))).put (some 52) (.string n)).put (some 53) (.agg #[.int .i8 xk, .int .i64 xn, .string xs])).put (some 54) (.agg #[.string n, .int .i8 xk, .int .i64 xn, .string xs])).put (some 55) (.slice (some ⟨w5.heap.size, 0, none⟩) 1 1)).put (some 56) (nv)).put (some 5) (nv)) wc) :
    wpAnyH Tryz.prog .any ops Q S 10 (LR 10 []) a0 w5.drew := by
  have hall : ∀ p ∈ cw10_takes, Region.free .any ops (LR 10 p.1) p.2 = true ∧ (Region.ready .any ops (LR 10 p.1)).contains p.2 = true := by
    intro p hp
    have := List.all_eq_true.1 hq p hp
    simpa using this
  unfold cw10_takes at hall
  obtain ⟨o0, ho, hg, hop, hd⟩ := isOpG_out q0
  have hfr := hall ([], 0) (by simp)
  refine wpAnyH_take (listed := LR 10 []) (v := ov) ho hs hfr.1 hfr.2 (hQ _ _) (Or.inl ⟨(wantedN hg), fun w' hS => run_move _ _ hop w' (by (repeat rw [eval_far _ _ (by decide)]); exact e5)⟩) hS0 ?_
  rw [hd, ← LR_snoc]
  clear ho hg hop hd hfr
  obtain ⟨o1, ho, hg, hop, hd⟩ := isOpG_out q1
  have hfr := hall ([0], 1) (by simp)
  refine wpAnyH_take (listed := LR 10 [0]) (v := .slice (some ⟨g, off, none⟩) nn cc) ho hs hfr.1 hfr.2 (hQ _ _) (Or.inl ⟨(wantedN hg), fun w' hS => run_move _ _ hop w' (by (repeat rw [eval_far _ _ (by decide)]); exact e6)⟩) hS0 ?_
  rw [hd, ← LR_snoc]
  clear ho hg hop hd hfr
  obtain ⟨o2, ho, hg, hop, hd⟩ := isOpG_out q2
  have hfr := hall ([0, 1], 2) (by simp)
  refine wpAnyH_take (listed := LR 10 [0, 1]) (v := .int .i64 (k : Int)) ho hs hfr.1 hfr.2 (hQ _ _) (Or.inl ⟨(wantedN hg), fun w' hS => run_move _ _ hop w' (by (repeat rw [eval_far _ _ (by decide)]); exact e7)⟩) hS0 ?_
  rw [hd, ← LR_snoc]
  clear ho hg hop hd hfr
  obtain ⟨o3, ho, hg, hop, hd⟩ := isOpG_out q3
  have hfr := hall ([0, 1, 2], 3) (by simp)
  refine wpAnyH_take (listed := LR 10 [0, 1, 2]) (v := .pointer (some ⟨g, off + k, none⟩)) ho hs hfr.1 hfr.2 (hQ _ _) (Or.inl ⟨(wantedN hg), fun w' hS => run_idxW _ _ hop w' (by (repeat (first | rw [eval_same _ _ (by (try simp only [put_size]); omega)] | rw [eval_far _ _ (by decide)]))) (by (repeat (first | rw [eval_same _ _ (by (try simp only [put_size]); omega)] | rw [eval_far _ _ (by decide)]))) hk⟩) hS0 ?_
  rw [hd, ← LR_snoc]
  clear ho hg hop hd hfr
  obtain ⟨o4, ho, hg, hop, hd⟩ := isOpG_out q4
  have hfr := hall ([0, 1, 2, 3], 4) (by simp)
  refine wpAnyH_take (listed := LR 10 [0, 1, 2, 3]) (v := .string n) ho hs hfr.1 hfr.2 (hQ _ _) (Or.inl ⟨(wantedN hg), fun w' hS => run_loadS _ _ hop w' (by (repeat (first | rw [eval_same _ _ (by (try simp only [put_size]); omega)] | rw [eval_far _ _ (by decide)]))) (LN _ hS)⟩) hS0 ?_
  rw [hd, ← LR_snoc]
  clear ho hg hop hd hfr
  obtain ⟨o5, ho, hg, hop, hd⟩ := isOpG_out q5
  have hfr := hall ([0, 1, 2, 3, 4], 5) (by simp)
  refine wpAnyH_take (listed := LR 10 [0, 1, 2, 3, 4]) (v := .agg #[.int .i8 xk, .int .i64 xn, .string xs]) ho hs hfr.1 hfr.2 (hQ _ _) (Or.inl ⟨(wantedN hg), fun w' hS => run_loadS _ _ hop w' (by (repeat rw [eval_far _ _ (by decide)]); exact eb) (LV _ hS)⟩) hS0 ?_
  rw [hd, ← LR_snoc]
  clear ho hg hop hd hfr
  obtain ⟨o6, ho, hg, hop, hd⟩ := isOpG_out q6
  have hfr := hall ([0, 1, 2, 3, 4, 5], 6) (by simp)
  refine wpAnyH_take (listed := LR 10 [0, 1, 2, 3, 4, 5]) (v := .agg #[.string n, .int .i8 xk, .int .i64 xn, .string xs]) ho hs hfr.1 hfr.2 (hQ _ _) (Or.inl ⟨(wantedN hg), fun w' hS => run_buildBd _ _ hop w' (by (repeat (first | rw [eval_same _ _ (by (try simp only [put_size]); omega)] | rw [eval_far _ _ (by decide)]))) (by (repeat (first | rw [eval_same _ _ (by (try simp only [put_size]); omega)] | rw [eval_far _ _ (by decide)])))⟩) hS0 ?_
  rw [hd, ← LR_snoc]
  clear ho hg hop hd hfr
  refine wpAnyH_all r7 (by simp) ?_
  intro i hi
  obtain rfl := List.mem_singleton.1 hi
  obtain ⟨o7, ho, hg, hop, hd⟩ := isOpG_out q7
  refine wpOp_valG ho (wantedN hg) (run_bsBd (b := w5.heap.size) _ _ hop _ (by (repeat (first | rw [eval_same _ _ (by (try simp only [put_size]); omega)] | rw [eval_far _ _ (by decide)]))) rfl) ?_
  have hS7 := HSB
  refine ⟨hS7, ?_⟩
  rw [hd]
  clear ho hg hop hd
  rw [← LR_snoc]
  refine wpAnyH_all r8 (by simp) ?_
  intro i hi
  obtain rfl := List.mem_singleton.1 hi
  obtain ⟨o8, ho, hg, hop, hd⟩ := isOpG_out q8
  refine wpOp_valG ho (wantedN hg) (run_appV _ _ hop (typ_of t8 ho) _ (by (repeat (first | rw [eval_same _ _ (by (try simp only [put_size]); omega)] | rw [eval_far _ _ (by decide)]))) (by (repeat (first | rw [eval_same _ _ (by (try simp only [put_size]); omega)] | rw [eval_far _ _ (by decide)]))) HAP) ?_
  have hS8 := HSA
  refine ⟨hS8, ?_⟩
  rw [hd]
  clear ho hg hop hd
  rw [← LR_snoc]
  obtain ⟨o9, ho, hg, hop, hd⟩ := isOpG_out q9
  have hfr := hall ([0, 1, 2, 3, 4, 5, 6, 7, 8], 9) (by simp)
  refine wpAnyH_take (listed := LR 10 [0, 1, 2, 3, 4, 5, 6, 7, 8]) (v := nv) ho hs hfr.1 hfr.2 (hQ _ _) (Or.inl ⟨(wantedN hg), fun w' hS => run_assignV _ _ hop w' (by (repeat (first | rw [eval_same _ _ (by (try simp only [put_size]); omega)] | rw [eval_far _ _ (by decide)])))⟩) hS8 ?_
  rw [hd, ← LR_snoc]
  clear ho hg hop hd hfr
  exact wpAnyH_done rend (F _ rfl) _
def cw19_takes : List (List Nat × Nat) := [([], 0), ([0], 1), ([0, 1], 2), ([0, 1, 2], 3), ([0, 1, 2, 3], 4), ([0, 1, 2, 3, 4], 5), ([0, 1, 2, 3, 4, 5], 6), ([0, 1, 2, 3, 4, 5, 6, 7, 8], 9)]
set_option maxHeartbeats 3200000 in
theorem cw19 {ops : Array Oper} {Q : Exit → Act → World → Prop} {S : World → Prop} {a0 : Act} {w5 : World} {b g off nn cc k : Nat} {n xs : ByteArray} {xk xn : Int} {ov nv : Value} {w3 : World}
    (q0 : isOpG ops 0 none (.move (.tmp 5)) (some 111))
    (q1 : isOpG ops 1 none (.move (.tmp 6)) (some 112))
    (q2 : isOpG ops 2 none (.move (.tmp 7)) (some 113))
    (q3 : isOpG ops 3 none (.indexAddr 33 (.tmp 112) (.tmp 113)) (some 114))
    (q4 : isOpG ops 4 none (.load 9 (.tmp 114)) (some 115))
    (q5 : isOpG ops 5 none (.load 38 (.tmp 13)) (some 116))
    (q6 : isOpG ops 6 none (.build 66 #[(0, .tmp 115), (1, .tmp 116)]) (some 117))
    (q7 : isOpG ops 7 none (.buildSlice 26 1 #[(0, .tmp 117)]) (some 118))
    (q8 : isOpG ops 8 none (.call { callee := .builtin .append, args := #[.tmp 111, .tmp 118], argTypes := #[26, 26] }) (some 119))
    (q9 : isOpG ops 9 none (.assign (.tmp 119)) (some 5))
    (hs : Region.noSelect ops = true) (hq : (cw19_takes.all fun p => Region.free .any ops (LR 10 p.1) p.2 && (Region.ready .any ops (LR 10 p.1)).contains p.2) = true)
    (r7 : Region.ready .any ops (LR 10 [0, 1, 2, 3, 4, 5, 6]) = [7])
    (r8 : Region.ready .any ops (LR 10 [0, 1, 2, 3, 4, 5, 6, 7]) = [8])
    (rend : Region.ready .any ops (LR 10 [0, 1, 2, 3, 4, 5, 6, 7, 8, 9]) = [])
    (hQ : ∀ (d : Option Tmp) (v : Value) c a w, Q (.panic c) (a.put d v) w → Q (.panic c) a w)
    (hsz : 119 < a0.tmps.size) (e5 : a0.eval (.tmp 5) = ov) (e6 : a0.eval (.tmp 6) = .slice (some ⟨g, off, none⟩) nn cc) (e7 : a0.eval (.tmp 7) = .int .i64 (k : Int)) (eb : a0.eval (.tmp 13) = .pointer (some ⟨b, 0, none⟩))
    (hS0 : S w5.drew)
    (t8 : ops[8]?.map Oper.type = some 26) (hk : k < nn) (LN : ∀ u, S u → (loadVar 9 ⟨g, off + k, none⟩).run Tryz.prog u = .ok (.string n) u) (LV : ∀ u, S u → (loadVar 38 ⟨b, 0, none⟩).run Tryz.prog u = .ok (.agg #[.int .i8 xk, .int .i64 xn, .string xs]) u)
    (HSB : S (w5.drew.alloc (.cells #[.string n, .int .i8 xk, .int .i64 xn, .string xs] 66))) (HAP : (Builtin.append_ #[26, 26] 26 #[ov, .slice (some ⟨w5.heap.size, 0, none⟩) 1 1]).run Tryz.prog (w5.drew.alloc (.cells #[.string n, .int .i8 xk, .int .i64 xn, .string xs] 66)) = .ok nv w3) (HSA : S w3)
    (F : ∀ (wc : World), wc = w3 → Q .normal ((((((((((a0.put (some 111) (ov)).put (some 112) (.slice (some ⟨g, off, none⟩) nn cc)).put (some 113) (.int .i64 (k : Int))).put (some 114) (.pointer (some ⟨g, off + k, none⟩))).put (some 115) (.string n)).put (some 116) (.agg #[.int .i8 xk, .int .i64 xn, .string xs])).put (some 117) (.agg #[.string n, .int .i8 xk, .int .i64 xn, .string xs])).put (some 118) (.slice (some ⟨w5.heap.size, 0, none⟩) 1 1)).put (some 119) (nv)).put (some 5) (nv)) wc) :
    wpAnyH Tryz.prog .any ops Q S 10 (LR 10 []) a0 w5.drew := by
  have hall : ∀ p ∈ cw19_takes, Region.free .any ops (LR 10 p.1) p.2 = true ∧ (Region.ready .any ops (LR 10 p.1)).contains p.2 = true := by
    intro p hp
    have := List.all_eq_true.1 hq p hp
    simpa using this
  unfold cw19_takes at hall
  obtain ⟨o0, ho, hg, hop, hd⟩ := isOpG_out q0
  have hfr := hall ([], 0) (by simp)
  refine wpAnyH_take (listed := LR 10 []) (v := ov) ho hs hfr.1 hfr.2 (hQ _ _) (Or.inl ⟨(wantedN hg), fun w' hS => run_move _ _ hop w' (by (repeat rw [eval_far _ _ (by decide)]); exact e5)⟩) hS0 ?_
  rw [hd, ← LR_snoc]
  clear ho hg hop hd hfr
  obtain ⟨o1, ho, hg, hop, hd⟩ := isOpG_out q1
  have hfr := hall ([0], 1) (by simp)
  refine wpAnyH_take (listed := LR 10 [0]) (v := .slice (some ⟨g, off, none⟩) nn cc) ho hs hfr.1 hfr.2 (hQ _ _) (Or.inl ⟨(wantedN hg), fun w' hS => run_move _ _ hop w' (by (repeat rw [eval_far _ _ (by decide)]); exact e6)⟩) hS0 ?_
  rw [hd, ← LR_snoc]
  clear ho hg hop hd hfr
  obtain ⟨o2, ho, hg, hop, hd⟩ := isOpG_out q2
  have hfr := hall ([0, 1], 2) (by simp)
  refine wpAnyH_take (listed := LR 10 [0, 1]) (v := .int .i64 (k : Int)) ho hs hfr.1 hfr.2 (hQ _ _) (Or.inl ⟨(wantedN hg), fun w' hS => run_move _ _ hop w' (by (repeat rw [eval_far _ _ (by decide)]); exact e7)⟩) hS0 ?_
  rw [hd, ← LR_snoc]
  clear ho hg hop hd hfr
  obtain ⟨o3, ho, hg, hop, hd⟩ := isOpG_out q3
  have hfr := hall ([0, 1, 2], 3) (by simp)
  refine wpAnyH_take (listed := LR 10 [0, 1, 2]) (v := .pointer (some ⟨g, off + k, none⟩)) ho hs hfr.1 hfr.2 (hQ _ _) (Or.inl ⟨(wantedN hg), fun w' hS => run_idxW _ _ hop w' (by (repeat (first | rw [eval_same _ _ (by (try simp only [put_size]); omega)] | rw [eval_far _ _ (by decide)]))) (by (repeat (first | rw [eval_same _ _ (by (try simp only [put_size]); omega)] | rw [eval_far _ _ (by decide)]))) hk⟩) hS0 ?_
  rw [hd, ← LR_snoc]
  clear ho hg hop hd hfr
  obtain ⟨o4, ho, hg, hop, hd⟩ := isOpG_out q4
  have hfr := hall ([0, 1, 2, 3], 4) (by simp)
  refine wpAnyH_take (listed := LR 10 [0, 1, 2, 3]) (v := .string n) ho hs hfr.1 hfr.2 (hQ _ _) (Or.inl ⟨(wantedN hg), fun w' hS => run_loadS _ _ hop w' (by (repeat (first | rw [eval_same _ _ (by (try simp only [put_size]); omega)] | rw [eval_far _ _ (by decide)]))) (LN _ hS)⟩) hS0 ?_
  rw [hd, ← LR_snoc]
  clear ho hg hop hd hfr
  obtain ⟨o5, ho, hg, hop, hd⟩ := isOpG_out q5
  have hfr := hall ([0, 1, 2, 3, 4], 5) (by simp)
  refine wpAnyH_take (listed := LR 10 [0, 1, 2, 3, 4]) (v := .agg #[.int .i8 xk, .int .i64 xn, .string xs]) ho hs hfr.1 hfr.2 (hQ _ _) (Or.inl ⟨(wantedN hg), fun w' hS => run_loadS _ _ hop w' (by (repeat rw [eval_far _ _ (by decide)]); exact eb) (LV _ hS)⟩) hS0 ?_
  rw [hd, ← LR_snoc]
  clear ho hg hop hd hfr
  obtain ⟨o6, ho, hg, hop, hd⟩ := isOpG_out q6
  have hfr := hall ([0, 1, 2, 3, 4, 5], 6) (by simp)
  refine wpAnyH_take (listed := LR 10 [0, 1, 2, 3, 4, 5]) (v := .agg #[.string n, .int .i8 xk, .int .i64 xn, .string xs]) ho hs hfr.1 hfr.2 (hQ _ _) (Or.inl ⟨(wantedN hg), fun w' hS => run_buildBd _ _ hop w' (by (repeat (first | rw [eval_same _ _ (by (try simp only [put_size]); omega)] | rw [eval_far _ _ (by decide)]))) (by (repeat (first | rw [eval_same _ _ (by (try simp only [put_size]); omega)] | rw [eval_far _ _ (by decide)])))⟩) hS0 ?_
  rw [hd, ← LR_snoc]
  clear ho hg hop hd hfr
  refine wpAnyH_all r7 (by simp) ?_
  intro i hi
  obtain rfl := List.mem_singleton.1 hi
  obtain ⟨o7, ho, hg, hop, hd⟩ := isOpG_out q7
  refine wpOp_valG ho (wantedN hg) (run_bsBd (b := w5.heap.size) _ _ hop _ (by (repeat (first | rw [eval_same _ _ (by (try simp only [put_size]); omega)] | rw [eval_far _ _ (by decide)]))) rfl) ?_
  have hS7 := HSB
  refine ⟨hS7, ?_⟩
  rw [hd]
  clear ho hg hop hd
  rw [← LR_snoc]
  refine wpAnyH_all r8 (by simp) ?_
  intro i hi
  obtain rfl := List.mem_singleton.1 hi
  obtain ⟨o8, ho, hg, hop, hd⟩ := isOpG_out q8
  refine wpOp_valG ho (wantedN hg) (run_appV _ _ hop (typ_of t8 ho) _ (by (repeat (first | rw [eval_same _ _ (by (try simp only [put_size]); omega)] | rw [eval_far _ _ (by decide)]))) (by (repeat (first | rw [eval_same _ _ (by (try simp only [put_size]); omega)] | rw [eval_far _ _ (by decide)]))) HAP) ?_
  have hS8 := HSA
  refine ⟨hS8, ?_⟩
  rw [hd]
  clear ho hg hop hd
  rw [← LR_snoc]
  obtain ⟨o9, ho, hg, hop, hd⟩ := isOpG_out q9
  have hfr := hall ([0, 1, 2, 3, 4, 5, 6, 7, 8], 9) (by simp)
  refine wpAnyH_take (listed := LR 10 [0, 1, 2, 3, 4, 5, 6, 7, 8]) (v := nv) ho hs hfr.1 hfr.2 (hQ _ _) (Or.inl ⟨(wantedN hg), fun w' hS => run_assignV _ _ hop w' (by (repeat (first | rw [eval_same _ _ (by (try simp only [put_size]); omega)] | rw [eval_far _ _ (by decide)])))⟩) hS8 ?_
  rw [hd, ← LR_snoc]
  clear ho hg hop hd hfr
  exact wpAnyH_done rend (F _ rfl) _
def cw24_takes : List (List Nat × Nat) := [([], 0), ([0], 1), ([0, 1], 2), ([0, 1, 2], 3), ([0, 1, 2, 3], 4), ([0, 1, 2, 3, 4], 5), ([0, 1, 2, 3, 4, 5], 6), ([0, 1, 2, 3, 4, 5, 6, 7, 8], 9)]
set_option maxHeartbeats 3200000 in
theorem cw24 {ops : Array Oper} {Q : Exit → Act → World → Prop} {S : World → Prop} {a0 : Act} {w5 : World} {b g off nn cc k : Nat} {n xs : ByteArray} {xk xn : Int} {ov nv : Value} {w3 : World}
    (q0 : isOpG ops 0 none (.move (.tmp 5)) (some 151))
    (q1 : isOpG ops 1 none (.move (.tmp 6)) (some 152))
    (q2 : isOpG ops 2 none (.move (.tmp 7)) (some 153))
    (q3 : isOpG ops 3 none (.indexAddr 33 (.tmp 152) (.tmp 153)) (some 154))
    (q4 : isOpG ops 4 none (.load 9 (.tmp 154)) (some 155))
    (q5 : isOpG ops 5 none (.load 38 (.tmp 17)) (some 156))
    (q6 : isOpG ops 6 none (.build 66 #[(0, .tmp 155), (1, .tmp 156)]) (some 157))
    (q7 : isOpG ops 7 none (.buildSlice 26 1 #[(0, .tmp 157)]) (some 158))
    (q8 : isOpG ops 8 none (.call { callee := .builtin .append, args := #[.tmp 151, .tmp 158], argTypes := #[26, 26] }) (some 159))
    (q9 : isOpG ops 9 none (.assign (.tmp 159)) (some 5))
    (hs : Region.noSelect ops = true) (hq : (cw24_takes.all fun p => Region.free .any ops (LR 10 p.1) p.2 && (Region.ready .any ops (LR 10 p.1)).contains p.2) = true)
    (r7 : Region.ready .any ops (LR 10 [0, 1, 2, 3, 4, 5, 6]) = [7])
    (r8 : Region.ready .any ops (LR 10 [0, 1, 2, 3, 4, 5, 6, 7]) = [8])
    (rend : Region.ready .any ops (LR 10 [0, 1, 2, 3, 4, 5, 6, 7, 8, 9]) = [])
    (hQ : ∀ (d : Option Tmp) (v : Value) c a w, Q (.panic c) (a.put d v) w → Q (.panic c) a w)
    (hsz : 159 < a0.tmps.size) (e5 : a0.eval (.tmp 5) = ov) (e6 : a0.eval (.tmp 6) = .slice (some ⟨g, off, none⟩) nn cc) (e7 : a0.eval (.tmp 7) = .int .i64 (k : Int)) (eb : a0.eval (.tmp 17) = .pointer (some ⟨b, 0, none⟩))
    (hS0 : S w5.drew)
    (t8 : ops[8]?.map Oper.type = some 26) (hk : k < nn) (LN : ∀ u, S u → (loadVar 9 ⟨g, off + k, none⟩).run Tryz.prog u = .ok (.string n) u) (LV : ∀ u, S u → (loadVar 38 ⟨b, 0, none⟩).run Tryz.prog u = .ok (.agg #[.int .i8 xk, .int .i64 xn, .string xs]) u)
    (HSB : S (w5.drew.alloc (.cells #[.string n, .int .i8 xk, .int .i64 xn, .string xs] 66))) (HAP : (Builtin.append_ #[26, 26] 26 #[ov, .slice (some ⟨w5.heap.size, 0, none⟩) 1 1]).run Tryz.prog (w5.drew.alloc (.cells #[.string n, .int .i8 xk, .int .i64 xn, .string xs] 66)) = .ok nv w3) (HSA : S w3)
    (F : ∀ (wc : World), wc = w3 → Q .normal ((((((((((a0.put (some 151) (ov)).put (some 152) (.slice (some ⟨g, off, none⟩) nn cc)).put (some 153) (.int .i64 (k : Int))).put (some 154) (.pointer (some ⟨g, off + k, none⟩))).put (some 155) (.string n)).put (some 156) (.agg #[.int .i8 xk, .int .i64 xn, .string xs])).put (some 157) (.agg #[.string n, .int .i8 xk, .int .i64 xn, .string xs])).put (some 158) (.slice (some ⟨w5.heap.size, 0, none⟩) 1 1)).put (some 159) (nv)).put (some 5) (nv)) wc) :
    wpAnyH Tryz.prog .any ops Q S 10 (LR 10 []) a0 w5.drew := by
  have hall : ∀ p ∈ cw24_takes, Region.free .any ops (LR 10 p.1) p.2 = true ∧ (Region.ready .any ops (LR 10 p.1)).contains p.2 = true := by
    intro p hp
    have := List.all_eq_true.1 hq p hp
    simpa using this
  unfold cw24_takes at hall
  obtain ⟨o0, ho, hg, hop, hd⟩ := isOpG_out q0
  have hfr := hall ([], 0) (by simp)
  refine wpAnyH_take (listed := LR 10 []) (v := ov) ho hs hfr.1 hfr.2 (hQ _ _) (Or.inl ⟨(wantedN hg), fun w' hS => run_move _ _ hop w' (by (repeat rw [eval_far _ _ (by decide)]); exact e5)⟩) hS0 ?_
  rw [hd, ← LR_snoc]
  clear ho hg hop hd hfr
  obtain ⟨o1, ho, hg, hop, hd⟩ := isOpG_out q1
  have hfr := hall ([0], 1) (by simp)
  refine wpAnyH_take (listed := LR 10 [0]) (v := .slice (some ⟨g, off, none⟩) nn cc) ho hs hfr.1 hfr.2 (hQ _ _) (Or.inl ⟨(wantedN hg), fun w' hS => run_move _ _ hop w' (by (repeat rw [eval_far _ _ (by decide)]); exact e6)⟩) hS0 ?_
  rw [hd, ← LR_snoc]
  clear ho hg hop hd hfr
  obtain ⟨o2, ho, hg, hop, hd⟩ := isOpG_out q2
  have hfr := hall ([0, 1], 2) (by simp)
  refine wpAnyH_take (listed := LR 10 [0, 1]) (v := .int .i64 (k : Int)) ho hs hfr.1 hfr.2 (hQ _ _) (Or.inl ⟨(wantedN hg), fun w' hS => run_move _ _ hop w' (by (repeat rw [eval_far _ _ (by decide)]); exact e7)⟩) hS0 ?_
  rw [hd, ← LR_snoc]
  clear ho hg hop hd hfr
  obtain ⟨o3, ho, hg, hop, hd⟩ := isOpG_out q3
  have hfr := hall ([0, 1, 2], 3) (by simp)
  refine wpAnyH_take (listed := LR 10 [0, 1, 2]) (v := .pointer (some ⟨g, off + k, none⟩)) ho hs hfr.1 hfr.2 (hQ _ _) (Or.inl ⟨(wantedN hg), fun w' hS => run_idxW _ _ hop w' (by (repeat (first | rw [eval_same _ _ (by (try simp only [put_size]); omega)] | rw [eval_far _ _ (by decide)]))) (by (repeat (first | rw [eval_same _ _ (by (try simp only [put_size]); omega)] | rw [eval_far _ _ (by decide)]))) hk⟩) hS0 ?_
  rw [hd, ← LR_snoc]
  clear ho hg hop hd hfr
  obtain ⟨o4, ho, hg, hop, hd⟩ := isOpG_out q4
  have hfr := hall ([0, 1, 2, 3], 4) (by simp)
  refine wpAnyH_take (listed := LR 10 [0, 1, 2, 3]) (v := .string n) ho hs hfr.1 hfr.2 (hQ _ _) (Or.inl ⟨(wantedN hg), fun w' hS => run_loadS _ _ hop w' (by (repeat (first | rw [eval_same _ _ (by (try simp only [put_size]); omega)] | rw [eval_far _ _ (by decide)]))) (LN _ hS)⟩) hS0 ?_
  rw [hd, ← LR_snoc]
  clear ho hg hop hd hfr
  obtain ⟨o5, ho, hg, hop, hd⟩ := isOpG_out q5
  have hfr := hall ([0, 1, 2, 3, 4], 5) (by simp)
  refine wpAnyH_take (listed := LR 10 [0, 1, 2, 3, 4]) (v := .agg #[.int .i8 xk, .int .i64 xn, .string xs]) ho hs hfr.1 hfr.2 (hQ _ _) (Or.inl ⟨(wantedN hg), fun w' hS => run_loadS _ _ hop w' (by (repeat rw [eval_far _ _ (by decide)]); exact eb) (LV _ hS)⟩) hS0 ?_
  rw [hd, ← LR_snoc]
  clear ho hg hop hd hfr
  obtain ⟨o6, ho, hg, hop, hd⟩ := isOpG_out q6
  have hfr := hall ([0, 1, 2, 3, 4, 5], 6) (by simp)
  refine wpAnyH_take (listed := LR 10 [0, 1, 2, 3, 4, 5]) (v := .agg #[.string n, .int .i8 xk, .int .i64 xn, .string xs]) ho hs hfr.1 hfr.2 (hQ _ _) (Or.inl ⟨(wantedN hg), fun w' hS => run_buildBd _ _ hop w' (by (repeat (first | rw [eval_same _ _ (by (try simp only [put_size]); omega)] | rw [eval_far _ _ (by decide)]))) (by (repeat (first | rw [eval_same _ _ (by (try simp only [put_size]); omega)] | rw [eval_far _ _ (by decide)])))⟩) hS0 ?_
  rw [hd, ← LR_snoc]
  clear ho hg hop hd hfr
  refine wpAnyH_all r7 (by simp) ?_
  intro i hi
  obtain rfl := List.mem_singleton.1 hi
  obtain ⟨o7, ho, hg, hop, hd⟩ := isOpG_out q7
  refine wpOp_valG ho (wantedN hg) (run_bsBd (b := w5.heap.size) _ _ hop _ (by (repeat (first | rw [eval_same _ _ (by (try simp only [put_size]); omega)] | rw [eval_far _ _ (by decide)]))) rfl) ?_
  have hS7 := HSB
  refine ⟨hS7, ?_⟩
  rw [hd]
  clear ho hg hop hd
  rw [← LR_snoc]
  refine wpAnyH_all r8 (by simp) ?_
  intro i hi
  obtain rfl := List.mem_singleton.1 hi
  obtain ⟨o8, ho, hg, hop, hd⟩ := isOpG_out q8
  refine wpOp_valG ho (wantedN hg) (run_appV _ _ hop (typ_of t8 ho) _ (by (repeat (first | rw [eval_same _ _ (by (try simp only [put_size]); omega)] | rw [eval_far _ _ (by decide)]))) (by (repeat (first | rw [eval_same _ _ (by (try simp only [put_size]); omega)] | rw [eval_far _ _ (by decide)]))) HAP) ?_
  have hS8 := HSA
  refine ⟨hS8, ?_⟩
  rw [hd]
  clear ho hg hop hd
  rw [← LR_snoc]
  obtain ⟨o9, ho, hg, hop, hd⟩ := isOpG_out q9
  have hfr := hall ([0, 1, 2, 3, 4, 5, 6, 7, 8], 9) (by simp)
  refine wpAnyH_take (listed := LR 10 [0, 1, 2, 3, 4, 5, 6, 7, 8]) (v := nv) ho hs hfr.1 hfr.2 (hQ _ _) (Or.inl ⟨(wantedN hg), fun w' hS => run_assignV _ _ hop w' (by (repeat (first | rw [eval_same _ _ (by (try simp only [put_size]); omega)] | rw [eval_far _ _ (by decide)])))⟩) hS8 ?_
  rw [hd, ← LR_snoc]
  clear ho hg hop hd hfr
  exact wpAnyH_done rend (F _ rfl) _
end Go.Proofs.YtgfnijhhhgjabaaGreatDoor
end
section
namespace Go.Proofs.YtgfnijhhhgjabaaGreatDoor.EV
open Go.RowKit Go.Maps
set_option linter.unusedVariables false
set_option linter.unusedSimpArgs false
attribute [local go_sem ↓] Go.wp_at_zero Go.wp_at_succ
attribute [-go_sem] loadVar Builtin.append_ Instr.buildSlice

theorem load_strS {u : World} {a : Addr} {s : ByteArray} (h : u.cell? a = some (.string s)) : (loadVar 9 a).run Tryz.prog u = .ok (.string s) u := by rw [loadVar.eq_1]; go_simp
theorem one_results {fn : Func} {sl : Nat} (hr : fn.results = #[.cell sl 38]) {W : World} {tmps : Array Value} {b : Nat} {x0 x1 x2 : Value} (h2 : tmps.getD sl undef = .pointer (some ⟨b, 0, none⟩))
    (c0 : W.cell? ⟨b, 0, none⟩ = some x0) (c1 : W.cell? ⟨b, 1, none⟩ = some x1) (c2 : W.cell? ⟨b, 2, none⟩ = some x2) :
    (results fn tmps).run Tryz.prog W = .ok (.agg #[x0, x1, x2]) W := by
  have hl : (loadVar 38 ⟨b, 0, none⟩).run Tryz.prog W = .ok (.agg #[x0, x1, x2]) W := by
    refine run_loadVar_mid W b 0 38 [x0, x1, x2] _ (fun j v hj => ?_) Tryz.underlying38 rfl (by kernel_rfl)
    match j, hj with
    | 0, hj => simp at hj; subst hj; exact c0
    | 1, hj => simp at hj; subst hj; exact c1
    | 2, hj => simp at hj; subst hj; exact c2
  have e0 : results fn tmps = (do
      let x ← asAddr (tmps.getD sl undef)
      loadVar 38 x) := by
    simp [results, hr]
  rw [e0, h2]
  simp [asAddr, hl, Result.andThen]
theorem infoBd : (Tryz.prog.info? 66).map (fun i => (i.zero, i.size, i.bytes)) = some (some (.agg #[.string ⟨#[]⟩, .int .i8 0, .int .i64 0, .string ⟨#[]⟩]), 4, 48) := by kernel_rfl
/-- the names that are told may be -/
theorem lim_names {w : World} {d : Nat} {bd : List XL} {v : Value} {vs : List ByteArray} (hV : Lim (eqL (d + 1) bd) (atN bd) vs) (hB : _root_.Go.Proofs.YtgfnijhhhgjabaaGreatDoor.Lb w v (d + 1) bd) : ∀ n ∈ vs, n.size ≤ maxLen ∧ ¬ n = noS := by
  intro n hn
  have key : ∀ (e : E) (a : Option Addr) (c : Nat), EIs w (d + 1) e a c → (sdE (d + 1) e).lone = some n → n.size ≤ maxLen ∧ ¬ n = noS := fun e a c hE hl => by
    unfold sdE at hl
    simp only at hl
    split at hl
    · rename_i hc
      rw [vsT_leaf hc.2] at hl
      split at hl
      · cases hl
      · rename_i hne
        injection hl with hl
        subst hl
        exact ⟨hE.2.1.text, fun e => hne (.inl e)⟩
    · cases hl
  obtain ⟨i, hi, rfl⟩ := List.getElem_of_mem hn
  have := hV.first hi
  rw [atS_eq hi] at this
  rcases this with h | h
  · obtain ⟨y, hy, hx⟩ := atN_mem.1 h
    unfold avX at hx
    split at hx
    · rcases vsT_mem _ [] _ hx with k | ⟨t, ht, e⟩
      · cases k
      · exact ⟨by rw [← e]; exact ((hB.each y hy).ts.wf t ht).text, (vsT_ne _ [] (fun _ k => by cases k) _ hx).1⟩
    · cases hx
  · obtain ⟨q, hq, hh⟩ := List.any_eq_true.1 h
    obtain ⟨y, hy, hqy⟩ := eqL_mem.1 hq
    unfold eqX at hqy
    split at hqy
    · rw [List.mem_singleton.1 hqy] at hh
      unfold hitQ at hh
      simp only [Bool.or_eq_true, Bool.and_eq_true, decide_eq_true_eq] at hh
      rcases hh with ⟨h1, _⟩ | ⟨h1, _⟩
      · exact key y.x.l _ _ (hB.each y hy).l h1
      · exact key y.x.r _ _ (hB.each y hy).r h1
    · cases hqy
theorem lim_len {d : Nat} {bd : List XL} {vs : List ByteArray} (hV : Lim (eqL (d + 1) bd) (atN bd) vs) (hs : SmB (d + 1) bd) : vs.length ≤ 10000000 := by
  have h1 := nodupN_le vs (atN bd ++ loneL (eqL (d + 1) bd)) (hV.nodup (atN_nodup bd)) (fun n hn => by
    obtain ⟨i, hi, rfl⟩ := List.getElem_of_mem hn
    have := hV.first hi
    rw [atS_eq hi] at this
    rcases this with h | h
    · exact List.mem_append.2 (.inl h)
    · obtain ⟨q, hq, hh⟩ := List.any_eq_true.1 h
      refine List.mem_append.2 (.inr ?_)
      unfold hitQ at hh
      simp only [Bool.or_eq_true, Bool.and_eq_true, decide_eq_true_eq] at hh
      unfold loneL
      refine List.mem_flatMap.2 ⟨q, hq, ?_⟩
      rcases hh with ⟨h1, _⟩ | ⟨h1, _⟩
      · rw [h1]; simp
      · rw [h1]; simp)
  rw [List.length_append] at h1
  have h2 := foldN_len (avL bd) []
  have h3 := hs.av
  have h4 := hs.lo
  unfold atN at h1
  simp only [List.length_nil] at h2
  omega
/-- binds of one's own, from W on -/
structure So (W u : World) (out : List B) (a : Option Addr) (c : Nat) : Prop where
  below : Below W.heap.size W u
  own : u.ownsRow W.heap.size 66 4 (.slice a out.length c) out.length (out.flatMap B.cells)
  wf : ∀ b ∈ out, b.wf
theorem So.more {W u u' : World} {out : List B} {a : Option Addr} {c : Nat} (h : So W u out a c) (b : Below u.heap.size u u') : So W u' out a c := ⟨h.below.trans (b.mono h.below.size), own_below h.own b, h.wf⟩
theorem So.lb {W u : World} {out : List B} {a : Option Addr} {c : Nat} (h : So W u out a c) : Lb u (.slice a out.length c) out := ⟨ls_own h.own, h.wf⟩
theorem So.lt {W u : World} {out : List B} {a : Option Addr} {c : Nat} (h : So W u out a c) : (Value.slice a out.length c).ownBlock ≠ some u.heap.size := fun e => by
  have := (h.own.lt _ e).2
  omega
theorem So.push {W u : World} {out : List B} {a : Option Addr} {c : Nat} (h : So W u out a c) (b : B) (hb : b.wf) (hn : out.length ≤ 1000000000) :
    ∃ a6 c6 w5, (Builtin.append_ #[26, 26] 26 #[.slice a out.length c, .slice (some ⟨u.heap.size, 0, none⟩) 1 1]).run Tryz.prog (u.drew.alloc (.cells #[.string b.v, .int .i8 b.a.k, .int .i64 b.a.n, .string b.a.s] 66)) = .ok (.slice a6 (out.length + 1) c6) w5 ∧ So W w5 (out ++ [b]) a6 c6 ∧ ∀ k, k < u.heap.size → (Value.slice a out.length c).ownBlock ≠ some k → w5.heap[k]? = u.heap[k]? := by
  obtain ⟨i0, hi0, hz0, hz1, hz2⟩ := info_parts infoBd
  have hA0 := belowA (w := u.drew) (.cells b.cells.toArray 66)
  have hA : Below u.heap.size u (u.drew.alloc (.cells b.cells.toArray 66)) := (Below.refl u.heap.size u).drew.trans hA0
  have hz5 : W.heap.size ≤ (u.drew.alloc (.cells b.cells.toArray 66)).heap.size := Nat.le_trans h.below.size hA.size
  have ho := own_below h.own hA
  obtain ⟨v', w5, hrun, hown', hgrow, hnil, hloc⟩ := run_append_own_at (P := Tryz.prog) (u.drew.alloc (.cells b.cells.toArray 66)) W.heap.size 26 26 66 i0 _ 4 48 Tryz.underlying26 hi0 hz0 hz1 hz2 rfl (by decide) _ _ _ ho ⟨_, 0, none⟩ 1 1 b.cells rfl (lit_news _ b.cells.toArray _) (fun x hx => by simp [B.cells] at hx; rcases hx with e | e | e | e <;> rw [e] <;> rfl) (by unfold maxLen; omega) (by omega) hz5
  obtain ⟨a6, c6, rfl, _⟩ := own_form hown'
  refine ⟨a6, c6, w5, hrun, ⟨(h.below.trans (hA.mono h.below.size)).grown hgrow hz5 (fun j hj => (ho.lt j hj).1), ?_, ?_⟩, fun k hk hne => ?_⟩
  · have e : (out ++ [b]).flatMap B.cells = out.flatMap B.cells ++ b.cells := by rw [List.flatMap_append]; simp
    rw [e, List.length_append]
    exact hown'
  · intro x hx
    rcases List.mem_append.1 hx with hx | hx
    · exact h.wf x hx
    · rw [List.mem_singleton.1 hx]; exact hb
  · rw [hgrow.block k (Nat.lt_of_lt_of_le hk hA.size) (fun e => hne e.symm), hA.block k hk]
theorem find_no {d : Nat} {bd : List XL} {out : List B} {n : ByteArray} (h : ∀ i, i < bd.length → giveL d out n (atL bd i) = none) : findL d bd out n = none := by
  unfold findL
  rw [List.findSome?_eq_none_iff]
  intro y hy
  obtain ⟨i, hi, rfl⟩ := List.getElem_of_mem hy
  have := h i hi
  rwa [atL_eq hi] at this
theorem find_hit {d : Nat} {out : List B} {n : ByteArray} {x : V} : ∀ {bd : List XL} {k : Nat}, k < bd.length → (∀ i, i < k → giveL d out n (atL bd i) = none) → giveL d out n (atL bd k) = some x → findL d bd out n = some x
  | [], k, hk, _, _ => absurd hk (by simp)
  | y :: bd, 0, hk, _, h => by
    unfold findL
    rw [List.findSome?_cons, show giveL d out n y = some x from h]
  | y :: bd, k + 1, hk, hb, h => by
    unfold findL
    rw [List.findSome?_cons, show giveL d out n y = none from hb 0 (by omega)]
    exact find_hit (bd := bd) (k := k) (by simpa using hk) (fun i hi => hb (i + 1) (by omega)) h
theorem give_l {d : Nat} {out : List B} {v : ByteArray} {y : XL} (hq : y.x.k = 3 ∧ y.x.rel = 1) : giveL d out v y = (if (sdE d y.x.l).lone = some v then evalV out d y.x.r else none).or (if (sdE d y.x.r).lone = some v then evalV out d y.x.l else none) := if_pos hq
theorem bn_wf {l : List B} {n : ByteArray} (h : ∀ b ∈ l, b.wf) (hn : ¬ n = noS) (hk : bok l n = true) : (bn l n).wf := by
  unfold bn bndV
  unfold bok bndOk at hk
  rw [if_neg hn] at hk ⊢
  cases hs : seek l n with
  | none => rw [hs] at hk; cases hk
  | some x => exact (h _ (seek_mem hs)).val
theorem step_no {d : Nat} {bd : List XL} {l out : List B} {n : ByteArray} (h : inB (atN bd) n = false) : stepL d bd l out n = (findL d bd out n).elim out (fun x => out ++ [⟨n, x⟩]) := by
  unfold stepL
  rw [if_neg (by rw [h]; simp)]
  cases findL d bd out n <;> rfl
theorem n0_wf : n0.wf := ⟨by decide, by decide, by decide⟩
theorem sol_len (d : Nat) (bd : List XL) (l : List B) (vs : List ByteArray) : ∀ k, (solL d bd l (vs.take k)).length ≤ k := by
  have key : ∀ (us : List ByteArray) (out : List B), (us.foldl (stepL d bd l) out).length ≤ out.length + us.length := by
    intro us
    induction us with
    | nil => intro out; simp
    | cons v us ih =>
      intro out
      rw [List.foldl_cons, List.length_cons]
      have h1 := ih (stepL d bd l out v)
      have h2 : (stepL d bd l out v).length ≤ out.length + 1 := by
        unfold stepL
        split
        · simp
        · split <;> simp
      omega
  intro k
  have := key (vs.take k) []
  unfold solL
  simp only [List.length_nil, List.length_take] at this
  omega
theorem Num_any (n : Int) (w : World) : Calls Tryz.prog 22 #[.int .i64 n] w fun e w' => e = .returned (.agg #[.int .i8 1, .int .i64 n, .string ⟨#[]⟩]) ∧ Below w.heap.size w w' := by
  have HO : Hid (Own3 (w.alloc (.cells #[.int .i8 0, .int .i64 0, .string ⟨#[]⟩] 38)) w.heap.size) := own3 (Below.refl _ _)
  go_enter Tryz.func22, Tryz.ntmps22
  go_wp2
  refine bodyPost_ret (one_results Tryz.results22 (b := w.heap.size) (x0 := .int .i8 1) (x1 := .int .i64 n) (x2 := .string ⟨#[]⟩) ?_ ?_ ?_ ?_) rfl ⟨rfl, ?_⟩
  · rfl
  · go_simp
  · go_simp
  · go_simp
  · exact (Below.refl _ _).alloc (Nat.le_refl _) _
set_option maxHeartbeats 12800000 in
set_option maxRecDepth 100000 in
theorem solved_any (d : Nat) (r : R3) (p : RP) (lv : Value) (l : List B) (vs : List ByteArray) (w : World) (hG : KT w ∧ AR.Tab w) (hR : RIs w (d + 1) r p) (hs : smallR (d + 1) r) (hV : Lim (eqL (d + 1) r.bd) (atN r.bd) vs) (hl : Lb w lv l) :
    Calls Tryz.prog 8 #[r.val p, lv] w fun e w' => ∃ a c, e = .returned (.slice a (solL (d + 1) r.bd l vs).length c) ∧ Lb w' (.slice a (solL (d + 1) r.bd l vs).length c) (solL (d + 1) r.bd l vs) ∧ Below w.heap.size w w' := by
  obtain ⟨pa, pc, pba, pbc⟩ := p
  obtain ⟨W0, hW0⟩ : ∃ W0, W0 = w.alloc (.cells #[.string r.pr, .slice pa r.hd.length pc, .slice pba r.bd.length pbc] 25) := ⟨_, rfl⟩
  have b0 : Below w.heap.size w W0 := by rw [hW0]; exact belowA _
  have HR0 : Hid (RL W0 w.heap.size 25 (r.cells ⟨pa, pc, pba, pbc⟩)) := by
    have := rl_new w #[.string r.pr, .slice pa r.hd.length pc, .slice pba r.bd.length pbc] 25
    rw [← hW0] at this
    exact this
  have HK := Lib.hid b0
  have hSM := hs.body
  have HSM := Lib.hid hSM
  have HNM := Lib.hid (lim_names hV hR.bd)
  have hvl := lim_len hV hSM
  have HBD0 : Hid (_root_.Go.Proofs.YtgfnijhhhgjabaaGreatDoor.Lb W0 (.slice pba r.bd.length pbc) (d + 1) r.bd) := hR.bd.below b0
  have HLL0 : Hid (Lb W0 lv l) := hl.below b0
  have HG0 : Hid (KT W0 ∧ AR.Tab W0) := ⟨hG.1.below b0, hG.2.below b0⟩
  have HWL := Lib.hid hl.wf
  have HV := Lib.hid hV
  have HLM := Lib.hid (limited_any d _ r.bd W0 HBD0.out hSM.ts hSM.av hSM.ln hSM.sz)
  have hbl : r.bd.length ≤ 1048576 := hs.bd
  have l1 : (loadVar 23 ⟨w.heap.size, 2, none⟩).run Tryz.prog W0 = .ok (.slice pba r.bd.length pbc) W0 := (rule_loads HR0.out).2.1
  obtain ⟨va, vc, rfl, _, _, _⟩ := hl.form
  clear hG hR hl b0 hSM hV hs
  show Calls _ _ #[.agg #[.string r.pr, .slice pa r.hd.length pc, .slice pba r.bd.length pbc], _] _ _
  go_enter Tryz.func8, Tryz.ntmps8
  go_upto_region 1 with fail
  rw [← hW0]
  clear hW0
  go_wp2_with fail
  refine HLM.out.mono ?_
  rintro e W ⟨sv, fs, rfl, hown, b1, hit, hst⟩
  obtain rfl : fs = vs := Lim.one ⟨hit, hst⟩ HV.out
  obtain ⟨sa, sc, rfl, hsc1, hsc2, hsat⟩ := ls_str (ls_own hown)
  have HSA0 := Lib.hid hsat
  have HW0 := Lib.hid b1
  have HLB : Hid (∀ u, Below W.heap.size W u → (loadVar 23 ⟨w.heap.size, 2, none⟩).run Tryz.prog u = .ok (.slice pba r.bd.length pbc) u) := fun u hu => (rule_loads (RL.below HR0.out (HW0.out.trans (hu.mono HW0.out.size)))).2.1
  have HBD : Hid (∀ u, Below W.heap.size W u → _root_.Go.Proofs.YtgfnijhhhgjabaaGreatDoor.Lb u (.slice pba r.bd.length pbc) (d + 1) r.bd) := fun u hu => HBD0.out.below (HW0.out.trans (hu.mono HW0.out.size))
  have HLL : Hid (∀ u, Below W.heap.size W u → Lb u (.slice va l.length vc) l) := fun u hu => HLL0.out.below (HW0.out.trans (hu.mono HW0.out.size))
  have HG : Hid (∀ u, Below W.heap.size W u → KT u ∧ AR.Tab u) := fun u hu => ⟨HG0.out.1.below (HW0.out.trans (hu.mono HW0.out.size)), HG0.out.2.below (HW0.out.trans (hu.mono HW0.out.size))⟩
  have HFI : Hid (∀ u, Below W.heap.size W u → Below w.heap.size w u) := fun u hu => HK.out.trans ((HW0.out.trans (hu.mono HW0.out.size)).mono HK.out.size)
  have HS0 : Hid (So W W [] none 0) := ⟨Below.refl _ _, World.ownsRow_nil _ _ _ _, fun b hb => by cases hb⟩
  obtain ⟨ba', bc', hbv, hbc1, hbc2, hbat⟩ := HBD0.out.form
  injection hbv with hbv1 _ hbv2
  subst hbv1 hbv2
  have HBW : Hid (0 < r.bd.length → ∃ g off, pba = some ⟨g, off, none⟩ ∧ ∀ u, Below W.heap.size W u → ∀ i, i < r.bd.length → u.rangeAt g (off + i * 16) (atL r.bd i).cells) := fun h => by
    obtain ⟨g, off, e, hg, hT⟩ := hbat h
    exact ⟨g, off, e, fun u hu i hi => range_below (hT i hi) (HW0.out.trans (hu.mono HW0.out.size)) hg⟩
  clear HLM hown b1 hit hst hsat HBD0 HLL0 HG0 HR0 HK l1 hbat HV HW0
  go_wp2
  go_loopw [5, 7] (fun o i wr => ∃ (k : Nat) (a6 : Option Addr) (c6 : Nat), k ≤ fs.length ∧ i = .int .i64 k ∧ o = .slice a6 (solL (d + 1) r.bd l (fs.take k)).length c6 ∧ Hid (So W wr (solL (d + 1) r.bd l (fs.take k)) a6 c6)) (fun o i _ => fs.length - (intOf i).toNat)
  case atStart => exact ⟨0, none, 0, Nat.zero_le _, rfl, rfl, HS0⟩
  case round =>
    obtain ⟨k, a6, c6, hk, rfl, rfl, HSO⟩ := hrel
    obtain ⟨U, rfl⟩ : ∃ U, U = wr := ⟨_, rfl⟩
    by_cases hlt : k < fs.length
    · have hlt' : (k : Int) < (fs.length : Int) := by omega
      have hk0 : (0 : Int) ≤ (k : Int) := by omega
      have HST : Hid (solL (d + 1) r.bd l (fs.take (k + 1)) = stepL (d + 1) r.bd l (solL (d + 1) r.bd l (fs.take k)) (atS fs k)) := by show _ = _; rw [takeS hlt, sol_snoc]
      have hol : (solL (d + 1) r.bd l (fs.take k)).length ≤ k := sol_len (d + 1) r.bd l fs k
      obtain ⟨out, hout⟩ : ∃ out, solL (d + 1) r.bd l (fs.take k) = out := ⟨_, rfl⟩
      rw [hout] at HSO HST hol ⊢
      clear hout
      obtain ⟨g, off, rfl, hg, hsn⟩ := HSA0.out (by omega)
      have hnz := HNM.out (atS fs k) (by rw [atS_eq hlt]; exact List.getElem_mem _)
      have HLN : Hid (∀ u, Below W.heap.size W u → (loadVar 9 ⟨g, off + k, none⟩).run Tryz.prog u = .ok (.string (atS fs k)) u) := fun u hu => load_strS (by rw [hu.cell (p := ⟨g, off + k, none⟩) hg]; exact hsn k hlt)
      obtain ⟨n, hn⟩ : ∃ n, atS fs k = n := ⟨_, rfl⟩
      rw [hn] at HST hnz HLN
      clear hn hsn hg
      obtain ⟨rr, hrr⟩ : ∃ rr, inB (atN r.bd) n = rr := ⟨_, rfl⟩
      have HC6 : Hid (Calls Tryz.prog 21 #[.slice pba r.bd.length pbc] U.drew fun e u1 => ∃ sv, e = .returned sv ∧ Below U.heap.size U u1 ∧ Calls Tryz.prog 20 #[.string n, sv] u1 fun e u2 => e = .returned (.bool rr) ∧ Below U.heap.size U u2) := by
        have y0 : Below U.heap.size U U.drew := (Below.refl _ _).drew
        refine (ratoms_any (d + 1) _ r.bd U.drew (HBD.out _ (HSO.out.below.trans (y0.mono HSO.out.below.size))) HSM.out.ts HSM.out.av HSM.out.ln).mono ?_
        rintro e u1 ⟨sv, rfl, ho, c1⟩
        refine ⟨sv, rfl, y0.trans c1, (in_any n sv (atN r.bd) u1 (ls_own ho)).mono ?_⟩
        rintro e u2 ⟨rfl, rfl⟩
        exact ⟨by rw [hrr], y0.trans c1⟩
      have HUP : Hid (∀ u, Below U.heap.size U u → Below W.heap.size W u) := fun u hu => HSO.out.below.trans (hu.mono HSO.out.below.size)
      have HRR := Lib.hid hrr
      clear hrr
      go_upto_region 6 with fail
      refine wp_region_noPanic ?_
      refine wp_region_held (S := fun u => Below U.heap.size U u) (by kernel_rfl) ?_
      refine cw6 (w5 := U) (S := fun u => Below U.heap.size U u) (b := w.heap.size) (g := g) (off := off) (nn := fs.length) (cc := sc) (k := k) (n := n) (bv := .slice pba r.bd.length pbc) (r := rr) rfl rfl rfl rfl rfl rfl rfl rfl (by kernel_rfl) (by kernel_rfl) (by kernel_rfl) (by kernel_rfl) (by kernel_rfl) (fun _ _ _ _ _ h => h) (by simp) rfl rfl rfl ((Below.refl _ _).drew) (fun _ _ _ h => h) hlt (fun u hu => HLN.out u (HUP.out u hu)) (fun u hu => HLB.out u (HUP.out u hu)) HC6.out ?_
      intro U6 sv6 hb6
      have HSO6 := Lib.hid (HSO.out.more hb6)
      refine NoPanic.normal ?_
      rename_i hK
      refine hK _ _ ?_
      clear HC6 HUP hb6 HSO hK
      simp (config := { maxSteps := 8000000 }) only [Act.put, List.getElem_toArray, List.getElem_cons_zero, List.getElem_cons_succ, List.setIfInBounds_toArray, List.set_cons_succ, List.set_cons_zero]
      cases rr with
      | true =>
        have hlnU := HLN.out U6 HSO6.out.below
        have HBN := Lib.hid (bound_any n _ l U6 hnz.1 (HLL.out U6 HSO6.out.below))
        go_wp2_with fail
        refine HBN.out.mono ?_
        rintro e w1 ⟨rfl, b1⟩
        have HSO1 := Lib.hid (HSO6.out.more b1)
        obtain ⟨W1, hW1⟩ : ∃ W1, W1 = w1.alloc (.cells #[.int .i8 (bn l n).k, .int .i64 (bn l n).n, .string (bn l n).s] 38) := ⟨_, rfl⟩
        have c1 : Below w1.heap.size w1 W1 := by rw [hW1]; exact belowA _
        have hz1 : w1.heap.size < W1.heap.size := by rw [hW1]; simp
        have HRX : Hid (RL W1 w1.heap.size 38 [.int .i8 (bn l n).k, .int .i64 (bn l n).n, .string (bn l n).s]) := by
          have := rl_new w1 #[.int .i8 (bn l n).k, .int .i64 (bn l n).n, .string (bn l n).s] 38
          rw [← hW1] at this
          exact this
        have HSO2 := Lib.hid (HSO1.out.more c1)
        have HNE := Lib.hid HSO1.out.lt
        have HZ1 := Lib.hid HSO1.out.below.size
        clear HBN b1 c1 HSO6 hlnU
        go_upto_region 8 with fail
        rw [← hW1]
        clear hW1
        cases hbk : bok l n with
        | true =>
          have HS1 : Hid (solL (d + 1) r.bd l (fs.take (k + 1)) = out ++ [⟨n, bn l n⟩]) := by show _ = _; rw [HST.out]; unfold stepL; rw [if_pos HRR.out, bn_val hnz.2, if_pos hbk]; rfl
          have HXW := Lib.hid (bn_wf HWL.out hnz.2 hbk)
          generalize bn l n = x at HRX HS1 HXW
          clear hbk HST HSO1
          obtain ⟨a7, c7, w5, hap, hso7, hkeep⟩ := HSO2.out.push ⟨n, x⟩ ⟨hnz.1, HXW.out⟩ (by omega)
          have HAP := Lib.hid hap
          have HSO7 := Lib.hid hso7
          have HRB : Hid (∀ u, u.heap[w1.heap.size]? = W1.heap[w1.heap.size]? → RL u w1.heap.size 38 [.int .i8 x.k, .int .i64 x.n, .string x.s]) := fun u hu => World.rowIs.of_block HRX.out hu
          have HKB := Lib.hid (hkeep w1.heap.size hz1 HNE.out)
          have HSD : Hid (Below W.heap.size W W1.drew ∧ RL W1.drew w1.heap.size 38 [.int .i8 x.k, .int .i64 x.n, .string x.s]) := ⟨HSO2.out.below.drew, HRB.out _ rfl⟩
          have HSB : Hid (Below W.heap.size W (W1.drew.alloc (.cells #[.string n, .int .i8 x.k, .int .i64 x.n, .string x.s] 66)) ∧ RL (W1.drew.alloc (.cells #[.string n, .int .i8 x.k, .int .i64 x.n, .string x.s] 66)) w1.heap.size 38 [.int .i8 x.k, .int .i64 x.n, .string x.s]) := ⟨HSO2.out.below.drew.trans ((belowA _).mono HSO2.out.below.size), HRB.out _ ((belowA (w := W1.drew) _).block _ hz1)⟩
          have HSA : Hid (Below W.heap.size W w5 ∧ RL w5 w1.heap.size 38 [.int .i8 x.k, .int .i64 x.n, .string x.s]) := ⟨hso7.below, HRB.out _ HKB.out⟩
          clear hap hso7 hkeep HRB HKB
          go_upto_region 10 with fail
          refine wp_region_noPanic ?_
          refine wp_region_held (S := fun u => Below W.heap.size W u ∧ RL u w1.heap.size 38 [.int .i8 x.k, .int .i64 x.n, .string x.s]) (by kernel_rfl) ?_
          refine cw10 (w5 := W1) (S := fun u => Below W.heap.size W u ∧ RL u w1.heap.size 38 [.int .i8 x.k, .int .i64 x.n, .string x.s]) (b := w1.heap.size) (g := g) (off := off) (nn := fs.length) (cc := sc) (k := k) (n := n) (xk := x.k) (xn := x.n) (xs := x.s) (ov := .slice a6 out.length c6) (nv := .slice a7 (out.length + 1) c7) (w3 := w5) rfl rfl rfl rfl rfl rfl rfl rfl rfl rfl (by kernel_rfl) (by kernel_rfl) (by kernel_rfl) (by kernel_rfl) (by kernel_rfl) (fun _ _ _ _ _ h => h) (by simp) rfl rfl rfl rfl HSD.out rfl hlt (fun u hu => HLN.out u hu.1) (fun u hu => load_valB hu.2) HSB.out HAP.out HSA.out ?_
          rintro wc rfl
          refine NoPanic.normal ?_
          rename_i hK
          refine hK _ _ ?_
          have HR1 : Hid (Value.slice a7 (out.length + 1) c7 = .slice a7 (solL (d + 1) r.bd l (fs.take (k + 1))).length c7) := by show _ = _; rw [HS1.out, List.length_append]; rfl
          have HR2 : Hid (So W wc (solL (d + 1) r.bd l (fs.take (k + 1))) a7 c7) := by show So _ _ _ _ _; rw [HS1.out]; exact HSO7.out
          clear HAP HSO7 HSD HSB HSA hK
          simp (config := { maxSteps := 8000000 }) only [Act.put, List.getElem_toArray, List.getElem_cons_zero, List.getElem_cons_succ, List.setIfInBounds_toArray, List.set_cons_succ, List.set_cons_zero]
          go_wp2
          go_roundw
          case rel => exact ⟨k + 1, a7, c7, by omega, by go_num, HR1.out, HR2⟩
          case measure => simp [intOf]; omega

        | false =>
          have HS1 : Hid (solL (d + 1) r.bd l (fs.take (k + 1)) = out ++ [⟨n, n0⟩]) := by show _ = _; rw [HST.out]; unfold stepL; rw [if_pos HRR.out, bn_val hnz.2, if_neg (by rw [hbk]; simp)]; rfl
          have HXW : Hid (n0.wf) := n0_wf
          have HNU := Lib.hid (Num_any 0 W1)
          clear hbk HST HSO1
          go_wp2_with fail
          refine HNU.out.mono ?_
          rintro e w2 ⟨rfl, b2⟩
          have hr2 := RL.below HRX.out b2
          have o0 := RL.at hr2 (j := 0) rfl
          have o1 := RL.at hr2 (j := 1) rfl
          have o2 := RL.at hr2 (j := 2) rfl
          have f0 := World.rowIs.frozen hr2 0
          have f1 := World.rowIs.frozen hr2 1
          have f2 := World.rowIs.frozen hr2 2
          obtain ⟨W2, hW2⟩ : ∃ W2, W2 = ((w2.setCell ⟨w1.heap.size, 0, none⟩ (.int .i8 1)).setCell ⟨w1.heap.size, 1, none⟩ (.int .i64 0)).setCell ⟨w1.heap.size, 2, none⟩ (.string ⟨#[]⟩) := ⟨_, rfl⟩
          have HRY : Hid (RL W2 w1.heap.size 38 [.int .i8 n0.k, .int .i64 n0.n, .string n0.s]) := by rw [hW2]; exact ((hr2.set 0 _).set 1 _).set 2 _
          have HSO3 : Hid (So W W2 out a6 c6) := by
            have h2 := HSO2.out.more b2
            rw [hW2]
            refine ⟨((h2.below.setCell (p := ⟨w1.heap.size, 0, none⟩) HZ1.out _).setCell (p := ⟨w1.heap.size, 1, none⟩) HZ1.out _).setCell (p := ⟨w1.heap.size, 2, none⟩) HZ1.out _, own_of_block h2.own (fun j hj => ?_), h2.wf⟩
            have hj' : j ≠ w1.heap.size := fun e => HNE.out (by rw [← e]; exact hj)
            rw [heap_setCell_other _ _ _ _ hj', heap_setCell_other _ _ _ _ hj', heap_setCell_other _ _ _ _ hj']
          have hz2 : w1.heap.size < W2.heap.size := by
            rw [hW2]
            simp only [World.size_setCell]
            exact Nat.lt_of_lt_of_le hz1 b2.size
          clear HNU b2 hr2 HSO2 HRX hz1
          go_upto_region 10 with fail
          rw [← hW2]
          clear hW2 o0 o1 o2 f0 f1 f2
          obtain ⟨a7, c7, w5, hap, hso7, hkeep⟩ := HSO3.out.push ⟨n, n0⟩ ⟨hnz.1, HXW.out⟩ (by omega)
          have HAP := Lib.hid hap
          have HSO7 := Lib.hid hso7
          have HRB : Hid (∀ u, u.heap[w1.heap.size]? = W2.heap[w1.heap.size]? → RL u w1.heap.size 38 [.int .i8 n0.k, .int .i64 n0.n, .string n0.s]) := fun u hu => World.rowIs.of_block HRY.out hu
          have HKB := Lib.hid (hkeep w1.heap.size hz2 HNE.out)
          have HSD : Hid (Below W.heap.size W W2.drew ∧ RL W2.drew w1.heap.size 38 [.int .i8 n0.k, .int .i64 n0.n, .string n0.s]) := ⟨HSO3.out.below.drew, HRB.out _ rfl⟩
          have HSB : Hid (Below W.heap.size W (W2.drew.alloc (.cells #[.string n, .int .i8 n0.k, .int .i64 n0.n, .string n0.s] 66)) ∧ RL (W2.drew.alloc (.cells #[.string n, .int .i8 n0.k, .int .i64 n0.n, .string n0.s] 66)) w1.heap.size 38 [.int .i8 n0.k, .int .i64 n0.n, .string n0.s]) := ⟨HSO3.out.below.drew.trans ((belowA _).mono HSO3.out.below.size), HRB.out _ ((belowA (w := W2.drew) _).block _ hz2)⟩
          have HSA : Hid (Below W.heap.size W w5 ∧ RL w5 w1.heap.size 38 [.int .i8 n0.k, .int .i64 n0.n, .string n0.s]) := ⟨hso7.below, HRB.out _ HKB.out⟩
          clear hap hso7 hkeep HRB HKB
          refine wp_region_noPanic ?_
          refine wp_region_held (S := fun u => Below W.heap.size W u ∧ RL u w1.heap.size 38 [.int .i8 n0.k, .int .i64 n0.n, .string n0.s]) (by kernel_rfl) ?_
          refine cw10 (w5 := W2) (S := fun u => Below W.heap.size W u ∧ RL u w1.heap.size 38 [.int .i8 n0.k, .int .i64 n0.n, .string n0.s]) (b := w1.heap.size) (g := g) (off := off) (nn := fs.length) (cc := sc) (k := k) (n := n) (xk := n0.k) (xn := n0.n) (xs := n0.s) (ov := .slice a6 out.length c6) (nv := .slice a7 (out.length + 1) c7) (w3 := w5) rfl rfl rfl rfl rfl rfl rfl rfl rfl rfl (by kernel_rfl) (by kernel_rfl) (by kernel_rfl) (by kernel_rfl) (by kernel_rfl) (fun _ _ _ _ _ h => h) (by simp) rfl rfl rfl rfl HSD.out rfl hlt (fun u hu => HLN.out u hu.1) (fun u hu => load_valB hu.2) HSB.out HAP.out HSA.out ?_
          rintro wc rfl
          refine NoPanic.normal ?_
          rename_i hK
          refine hK _ _ ?_
          have HR1 : Hid (Value.slice a7 (out.length + 1) c7 = .slice a7 (solL (d + 1) r.bd l (fs.take (k + 1))).length c7) := by show _ = _; rw [HS1.out, List.length_append]; rfl
          have HR2 : Hid (So W wc (solL (d + 1) r.bd l (fs.take (k + 1))) a7 c7) := by show So _ _ _ _ _; rw [HS1.out]; exact HSO7.out
          clear HAP HSO7 HSD HSB HSA hK
          simp (config := { maxSteps := 8000000 }) only [Act.put, List.getElem_toArray, List.getElem_cons_zero, List.getElem_cons_succ, List.setIfInBounds_toArray, List.set_cons_succ, List.set_cons_zero]
          go_wp2
          go_roundw
          case rel => exact ⟨k + 1, a7, c7, by omega, by go_num, HR1.out, HR2⟩
          case measure => simp [intOf]; omega

      | false =>
        have HSTN : Hid (solL (d + 1) r.bd l (fs.take (k + 1)) = (findL (d + 1) r.bd out n).elim out (fun x => out ++ [⟨n, x⟩])) := by show _ = _; rw [HST.out]; exact step_no HRR.out
        clear HST HRR
        go_wp2
        go_loopw [5, 10] (fun o q wr => ∃ j : Nat, j ≤ r.bd.length ∧ q = .int .i64 j ∧ o = .slice a6 out.length c6 ∧ Hid (So W wr out a6 c6) ∧ Hid (∀ i, i < j → giveL (d + 1) out n (atL r.bd i) = none)) (fun o q _ => r.bd.length - (intOf q).toNat)
        case atStart => exact ⟨0, Nat.zero_le _, rfl, rfl, HSO6, fun i hi => absurd hi (by omega)⟩
        case round =>
          clear HSO6
          obtain ⟨j, hj, rfl, rfl, HSX, HNF⟩ := hrel
          obtain ⟨X, rfl⟩ : ∃ X, X = wr := ⟨_, rfl⟩
          have hlb := HLB.out X HSX.out.below
          by_cases hjl : j < r.bd.length
          · have hjl' : (j : Int) < (r.bd.length : Int) := by omega
            have hj0 : (0 : Int) ≤ (j : Int) := by omega
            obtain ⟨bg, boff, rfl, hbr⟩ := HBW.out (by omega)
            have HLI : Hid (∀ u, Below W.heap.size W u → LIs u (d + 1) (atL r.bd j).x (atL r.bd j).p) := fun u hu => (HBD.out u hu).at_is hjl
            have HRG : Hid (∀ u, Below W.heap.size W u → u.rangeAt bg (boff + j * 16) (atL r.bd j).cells) := fun u hu => hbr u hu j hjl
            have HFH : Hid (∀ x, giveL (d + 1) out n (atL r.bd j) = some x → solL (d + 1) r.bd l (fs.take (k + 1)) = out ++ [⟨n, x⟩]) := fun x hx => by
              rw [HSTN.out, find_hit hjl HNF.out hx]
              try rfl
            have HFN : Hid (giveL (d + 1) out n (atL r.bd j) = none → ∀ i, i < j + 1 → giveL (d + 1) out n (atL r.bd i) = none) := fun h i hi => by
              rcases Nat.lt_succ_iff_lt_or_eq.1 hi with hi | rfl
              · exact HNF.out i hi
              · exact h
            obtain ⟨y, hy⟩ : ∃ y, atL r.bd j = y := ⟨_, rfl⟩
            rw [hy] at HLI HRG HFH HFN
            obtain ⟨q0, q1, q2, q3⟩ := lit_at (HRG.out X HSX.out.below)
            clear hbr hy HNF
            by_cases hq : y.x.k = 3 ∧ y.x.rel = 1
            · have HXD := Lib.hid (give_l (d := d + 1) (out := out) (v := n) hq)
              rw [hq.1] at q0
              rw [hq.2] at q1
              clear hq
              have HC1 := Lib.hid (rlone_any d y.x.l y.p.la y.p.lc X (HLI.out X HSX.out.below).l)
              obtain ⟨o1, ho1⟩ : ∃ o, (sdE (d + 1) y.x.l).lone = o := ⟨_, rfl⟩
              rw [ho1] at HC1 HXD
              clear ho1
              rcases opt_case o1 n with rfl | ⟨a, rfl, hne⟩ | rfl
              case' inl =>
                have HXE : Hid (giveL (d + 1) out n y = if (sdE (d + 1) y.x.r).lone = some n then evalV out (d + 1) y.x.l else none) := by
                  show _ = _
                  rw [HXD.out, if_neg (by simp), Option.none_or]
                simp only [loneV] at HC1
                go_wp2_with fail
                refine HC1.out.mono ?_
                rintro e Y ⟨rfl, b1⟩
                have HSY := Lib.hid (HSX.out.more b1)
                clear b1 HC1 q0 q1 q2 q3 HSX HXD hlb
                go_upto_region 20 with fail
              case' inr.inl =>
                have HXE : Hid (giveL (d + 1) out n y = if (sdE (d + 1) y.x.r).lone = some n then evalV out (d + 1) y.x.l else none) := by
                  show _ = _
                  rw [HXD.out, if_neg (fun e => hne (Option.some.inj e)), Option.none_or]
                have hb1 : (a.toList == n.toList) = false := by rw [beq_eq_false_iff_ne]; exact fun e => hne (toList_inj e)
                simp only [loneV] at HC1
                clear hne
                go_wp2_with fail
                refine HC1.out.mono ?_
                rintro e Y ⟨rfl, b1⟩
                have HSY := Lib.hid (HSX.out.more b1)
                have hlnY := HLN.out Y HSY.out.below
                clear b1 HC1 q0 q1 q2 q3 HSX HXD hlb
                go_upto_region 20 with fail
                clear hb1 hlnY
              case' inr.inr =>
                simp only [loneV] at HC1
                go_wp2_with fail
                refine HC1.out.mono ?_
                rintro e Y1 ⟨rfl, b1⟩
                have HSY1 := Lib.hid (HSX.out.more b1)
                have hlnY := HLN.out Y1 HSY1.out.below
                have hlb1 := HLB.out Y1 HSY1.out.below
                obtain ⟨m0, m1, m2, m3⟩ := lit_at (HRG.out Y1 HSY1.out.below)
                have HEV := Lib.hid (eval_any (d + 1) y.x.r y.p.ra y.p.rc _ out Y1 HSY1.out.wf (HG.out Y1 HSY1.out.below).1 (HG.out Y1 HSY1.out.below).2 (HLI.out Y1 HSY1.out.below).r HSY1.out.lb)
                rw [optV_opt] at HEV
                have HW1 : Hid (∀ x, evalV out (d + 1) y.x.r = some x → x.wf) := fun x hx => evalV_wf HSY1.out.wf (HLI.out Y1 HSY1.out.below).r hx
                clear b1 HC1 q0 q1 q2 q3 HSX hlb m0 m1 m2
                go_wp2_with fail
                clear m3 hlb1 hlnY
                refine HEV.out.mono ?_
                rintro e Y2 ⟨rfl, b2⟩
                have HSY2 := Lib.hid (HSY1.out.more b2)
                obtain ⟨o, ho⟩ : ∃ o, evalV out (d + 1) y.x.r = o := ⟨_, rfl⟩
                rw [ho] at HW1 HXD ⊢
                obtain ⟨Y, hY⟩ : ∃ Y, Y = Y2.alloc (.cells #[.int .i8 (o.getD V0).k, .int .i64 (o.getD V0).n, .string (o.getD V0).s] 38) := ⟨_, rfl⟩
                have c2 : Below Y2.heap.size Y2 Y := by rw [hY]; exact belowA _
                have hz1 : Y2.heap.size < Y.heap.size := by rw [hY]; simp
                have HRX : Hid (RL Y Y2.heap.size 38 [.int .i8 (o.getD V0).k, .int .i64 (o.getD V0).n, .string (o.getD V0).s]) := by
                  have := rl_new Y2 #[.int .i8 (o.getD V0).k, .int .i64 (o.getD V0).n, .string (o.getD V0).s] 38
                  rw [← hY] at this
                  exact this
                have HSY := Lib.hid (HSY2.out.more c2)
                have HNE := Lib.hid HSY2.out.lt
                clear HEV b2 c2 HSY1 HSY2 ho
                go_upto_region 18 with fail
                rw [← hY]
                clear hY
                cases o
                rotate_left
                · rename_i x
                  have HS1 := Lib.hid (HFH.out x (by rw [HXD.out]; simp))
                  have HXW := Lib.hid (HW1.out x rfl)
                  simp only [Option.getD_some, Option.isSome_some] at HRX ⊢
                  clear HXD HFH HFN HW1
                  obtain ⟨a7, c7, w5, hap, hso7, hkeep⟩ := HSY.out.push ⟨n, x⟩ ⟨hnz.1, HXW.out⟩ (by omega)
                  have HAP := Lib.hid hap
                  have HSO7 := Lib.hid hso7
                  have HRB : Hid (∀ u, u.heap[Y2.heap.size]? = Y.heap[Y2.heap.size]? → RL u Y2.heap.size 38 [.int .i8 x.k, .int .i64 x.n, .string x.s]) := fun u hu => World.rowIs.of_block HRX.out hu
                  have HKB := Lib.hid (hkeep Y2.heap.size hz1 HNE.out)
                  have HSD : Hid (Below W.heap.size W Y.drew ∧ RL Y.drew Y2.heap.size 38 [.int .i8 x.k, .int .i64 x.n, .string x.s]) := ⟨HSY.out.below.drew, HRB.out _ rfl⟩
                  have HSB : Hid (Below W.heap.size W (Y.drew.alloc (.cells #[.string n, .int .i8 x.k, .int .i64 x.n, .string x.s] 66)) ∧ RL (Y.drew.alloc (.cells #[.string n, .int .i8 x.k, .int .i64 x.n, .string x.s] 66)) Y2.heap.size 38 [.int .i8 x.k, .int .i64 x.n, .string x.s]) := ⟨HSY.out.below.drew.trans ((belowA _).mono HSY.out.below.size), HRB.out _ ((belowA (w := Y.drew) _).block _ hz1)⟩
                  have HSA : Hid (Below W.heap.size W w5 ∧ RL w5 Y2.heap.size 38 [.int .i8 x.k, .int .i64 x.n, .string x.s]) := ⟨hso7.below, HRB.out _ HKB.out⟩
                  clear hap hso7 hkeep HRB HKB
                  go_upto_region 19 with fail
                  refine wp_region_noPanic ?_
                  refine wp_region_held (S := fun u => Below W.heap.size W u ∧ RL u Y2.heap.size 38 [.int .i8 x.k, .int .i64 x.n, .string x.s]) (by kernel_rfl) ?_
                  refine cw19 (w5 := Y) (S := fun u => Below W.heap.size W u ∧ RL u Y2.heap.size 38 [.int .i8 x.k, .int .i64 x.n, .string x.s]) (b := Y2.heap.size) (g := g) (off := off) (nn := fs.length) (cc := sc) (k := k) (n := n) (xk := x.k) (xn := x.n) (xs := x.s) (ov := .slice a6 out.length c6) (nv := .slice a7 (out.length + 1) c7) (w3 := w5) rfl rfl rfl rfl rfl rfl rfl rfl rfl rfl (by kernel_rfl) (by kernel_rfl) (by kernel_rfl) (by kernel_rfl) (by kernel_rfl) (fun _ _ _ _ _ h => h) (by simp) rfl rfl rfl rfl HSD.out rfl hlt (fun u hu => HLN.out u hu.1) (fun u hu => load_valB hu.2) HSB.out HAP.out HSA.out ?_
                  rintro wc rfl
                  refine NoPanic.normal ?_
                  rename_i hK
                  refine hK _ _ ?_
                  have HR1 : Hid (Value.slice a7 (out.length + 1) c7 = .slice a7 (solL (d + 1) r.bd l (fs.take (k + 1))).length c7) := by show _ = _; rw [HS1.out, List.length_append]; rfl
                  have HR2 : Hid (So W wc (solL (d + 1) r.bd l (fs.take (k + 1))) a7 c7) := by show So _ _ _ _ _; rw [HS1.out]; exact HSO7.out
                  clear HAP HSO7 HSD HSB HSA hK
                  simp (config := { maxSteps := 8000000 }) only [Act.put, List.getElem_toArray, List.getElem_cons_zero, List.getElem_cons_succ, List.setIfInBounds_toArray, List.set_cons_succ, List.set_cons_zero]
                  go_wp2
                  go_roundw
                  case rel => exact ⟨k + 1, a7, c7, by omega, by go_num, HR1.out, HR2⟩
                  case measure => simp [intOf]; omega
                have HXE : Hid (giveL (d + 1) out n y = if (sdE (d + 1) y.x.r).lone = some n then evalV out (d + 1) y.x.l else none) := by
                  show _ = _
                  rw [HXD.out]
                  simp
                clear HXD HW1 HRX HNE hz1
                go_upto_region 20 with fail
              all_goals
                have hlbY := HLB.out _ HSY.out.below
                obtain ⟨m0, m1, m2, m3⟩ := lit_at (HRG.out _ HSY.out.below)
                have HC2 := Lib.hid (rlone_any d y.x.r y.p.ra y.p.rc _ (HLI.out _ HSY.out.below).r)
                obtain ⟨o2, ho2⟩ : ∃ o, (sdE (d + 1) y.x.r).lone = o := ⟨_, rfl⟩
                rw [ho2] at HC2 HXE
                clear ho2 m0 m1 m2
                rcases opt_case o2 n with rfl | ⟨a, rfl, hne⟩ | rfl
                · have HN2 := Lib.hid (HFN.out (by rw [HXE.out]; simp))
                  simp only [loneV] at HC2
                  go_wp2_with fail
                  refine HC2.out.mono ?_
                  rintro e w5 ⟨rfl, b5⟩
                  have HS5 := Lib.hid (HSY.out.more b5)
                  clear b5 HC2 m3 HSY hlbY HXE HFN HFH
                  go_wp2
                  go_roundw
                  case rel => exact ⟨j + 1, by omega, by go_num, rfl, HS5, HN2⟩
                  case measure => simp [intOf]; omega
                · have HN2 := Lib.hid (HFN.out (by rw [HXE.out, if_neg (fun e => hne (Option.some.inj e))]))
                  have hb1 : (a.toList == n.toList) = false := by rw [beq_eq_false_iff_ne]; exact fun e => hne (toList_inj e)
                  simp only [loneV] at HC2
                  clear hne
                  go_wp2_with fail
                  refine HC2.out.mono ?_
                  rintro e w5 ⟨rfl, b5⟩
                  have HS5 := Lib.hid (HSY.out.more b5)
                  have hln5 := HLN.out w5 HS5.out.below
                  clear b5 HC2 m3 HSY hlbY HXE HFN HFH
                  go_wp2
                  go_roundw
                  case rel => exact ⟨j + 1, by omega, by go_num, rfl, HS5, HN2⟩
                  case measure => simp [intOf]; omega
                · simp only [loneV] at HC2
                  go_wp2_with fail
                  refine HC2.out.mono ?_
                  rintro e w5 ⟨rfl, b5⟩
                  have HS5 := Lib.hid (HSY.out.more b5)
                  have hln5 := HLN.out w5 HS5.out.below
                  have hlb5 := HLB.out w5 HS5.out.below
                  obtain ⟨r0, r1, r2, r3⟩ := lit_at (HRG.out w5 HS5.out.below)
                  have HEV := Lib.hid (eval_any (d + 1) y.x.l y.p.la y.p.lc _ out w5 HS5.out.wf (HG.out w5 HS5.out.below).1 (HG.out w5 HS5.out.below).2 (HLI.out w5 HS5.out.below).l HS5.out.lb)
                  rw [optV_opt] at HEV
                  have HW1 : Hid (∀ x, evalV out (d + 1) y.x.l = some x → x.wf) := fun x hx => evalV_wf HS5.out.wf (HLI.out w5 HS5.out.below).l hx
                  clear b5 HC2 m3 HSY hlbY r0 r1 r3
                  go_wp2_with fail
                  clear r2 hlb5 hln5
                  refine HEV.out.mono ?_
                  rintro e w6 ⟨rfl, b6⟩
                  have HS6 := Lib.hid (HS5.out.more b6)
                  obtain ⟨o, ho⟩ : ∃ o, evalV out (d + 1) y.x.l = o := ⟨_, rfl⟩
                  rw [ho] at HW1 HXE ⊢
                  obtain ⟨Z, hZ⟩ : ∃ Z, Z = w6.alloc (.cells #[.int .i8 (o.getD V0).k, .int .i64 (o.getD V0).n, .string (o.getD V0).s] 38) := ⟨_, rfl⟩
                  have c6' : Below w6.heap.size w6 Z := by rw [hZ]; exact belowA _
                  have hz6 : w6.heap.size < Z.heap.size := by rw [hZ]; simp
                  have HRX : Hid (RL Z w6.heap.size 38 [.int .i8 (o.getD V0).k, .int .i64 (o.getD V0).n, .string (o.getD V0).s]) := by
                    have := rl_new w6 #[.int .i8 (o.getD V0).k, .int .i64 (o.getD V0).n, .string (o.getD V0).s] 38
                    rw [← hZ] at this
                    exact this
                  have HSZ := Lib.hid (HS6.out.more c6')
                  have HNE := Lib.hid HS6.out.lt
                  clear HEV b6 c6' HS5 HS6 ho
                  go_upto_region 23 with fail
                  rw [← hZ]
                  clear hZ
                  cases o with
                  | none =>
                    have HN2 := Lib.hid (HFN.out (by rw [HXE.out]; simp))
                    clear HXE HW1 HRX HNE hz6 HFN HFH
                    go_wp2
                    go_roundw
                    case rel => exact ⟨j + 1, by omega, by go_num, rfl, HSZ, HN2⟩
                    case measure => simp [intOf]; omega
                  | some x =>
                    have HS1 := Lib.hid (HFH.out x (by rw [HXE.out]; simp))
                    have HXW := Lib.hid (HW1.out x rfl)
                    simp only [Option.getD_some, Option.isSome_some] at HRX ⊢
                    clear HXE HFH HFN HW1
                    obtain ⟨a7, c7, w5, hap, hso7, hkeep⟩ := HSZ.out.push ⟨n, x⟩ ⟨hnz.1, HXW.out⟩ (by omega)
                    have HAP := Lib.hid hap
                    have HSO7 := Lib.hid hso7
                    have HRB : Hid (∀ u, u.heap[w6.heap.size]? = Z.heap[w6.heap.size]? → RL u w6.heap.size 38 [.int .i8 x.k, .int .i64 x.n, .string x.s]) := fun u hu => World.rowIs.of_block HRX.out hu
                    have HKB := Lib.hid (hkeep w6.heap.size hz6 HNE.out)
                    have HSD : Hid (Below W.heap.size W Z.drew ∧ RL Z.drew w6.heap.size 38 [.int .i8 x.k, .int .i64 x.n, .string x.s]) := ⟨HSZ.out.below.drew, HRB.out _ rfl⟩
                    have HSB : Hid (Below W.heap.size W (Z.drew.alloc (.cells #[.string n, .int .i8 x.k, .int .i64 x.n, .string x.s] 66)) ∧ RL (Z.drew.alloc (.cells #[.string n, .int .i8 x.k, .int .i64 x.n, .string x.s] 66)) w6.heap.size 38 [.int .i8 x.k, .int .i64 x.n, .string x.s]) := ⟨HSZ.out.below.drew.trans ((belowA _).mono HSZ.out.below.size), HRB.out _ ((belowA (w := Z.drew) _).block _ hz6)⟩
                    have HSA : Hid (Below W.heap.size W w5 ∧ RL w5 w6.heap.size 38 [.int .i8 x.k, .int .i64 x.n, .string x.s]) := ⟨hso7.below, HRB.out _ HKB.out⟩
                    clear hap hso7 hkeep HRB HKB
                    go_upto_region 24 with fail
                    refine wp_region_noPanic ?_
                    refine wp_region_held (S := fun u => Below W.heap.size W u ∧ RL u w6.heap.size 38 [.int .i8 x.k, .int .i64 x.n, .string x.s]) (by kernel_rfl) ?_
                    refine cw24 (w5 := Z) (S := fun u => Below W.heap.size W u ∧ RL u w6.heap.size 38 [.int .i8 x.k, .int .i64 x.n, .string x.s]) (b := w6.heap.size) (g := g) (off := off) (nn := fs.length) (cc := sc) (k := k) (n := n) (xk := x.k) (xn := x.n) (xs := x.s) (ov := .slice a6 out.length c6) (nv := .slice a7 (out.length + 1) c7) (w3 := w5) rfl rfl rfl rfl rfl rfl rfl rfl rfl rfl (by kernel_rfl) (by kernel_rfl) (by kernel_rfl) (by kernel_rfl) (by kernel_rfl) (fun _ _ _ _ _ h => h) (by simp) rfl rfl rfl rfl HSD.out rfl hlt (fun u hu => HLN.out u hu.1) (fun u hu => load_valB hu.2) HSB.out HAP.out HSA.out ?_
                    rintro wc rfl
                    refine NoPanic.normal ?_
                    rename_i hK
                    refine hK _ _ ?_
                    have HR1 : Hid (Value.slice a7 (out.length + 1) c7 = .slice a7 (solL (d + 1) r.bd l (fs.take (k + 1))).length c7) := by show _ = _; rw [HS1.out, List.length_append]; rfl
                    have HR2 : Hid (So W wc (solL (d + 1) r.bd l (fs.take (k + 1))) a7 c7) := by show So _ _ _ _ _; rw [HS1.out]; exact HSO7.out
                    clear HAP HSO7 HSD HSB HSA hK
                    simp (config := { maxSteps := 8000000 }) only [Act.put, List.getElem_toArray, List.getElem_cons_zero, List.getElem_cons_succ, List.setIfInBounds_toArray, List.set_cons_succ, List.set_cons_zero]
                    go_wp2
                    go_roundw
                    case rel => exact ⟨k + 1, a7, c7, by omega, by go_num, HR1.out, HR2⟩
                    case measure => simp [intOf]; omega
            · have HN2 := Lib.hid (HFN.out (if_neg hq))
              by_cases h3 : y.x.k = 3
              · have h1 : y.x.rel ≠ 1 := fun e => hq ⟨h3, e⟩
                have e1 : (y.x.rel != 1) = true := by rw [bne_iff_ne]; exact h1
                rw [h3] at q0
                clear hq h3 h1 HFN HFH
                go_wp2
                go_roundw
                case rel => exact ⟨j + 1, by omega, by go_num, rfl, HSX, HN2⟩
                case measure => simp [intOf]; omega
              · have e1 : (y.x.k != 3) = true := by rw [bne_iff_ne]; exact h3
                clear hq h3 HFN HFH
                go_wp2
                go_roundw
                case rel => exact ⟨j + 1, by omega, by go_num, rfl, HSX, HN2⟩
                case measure => simp [intOf]; omega
          · obtain rfl : j = r.bd.length := by omega
            have HS1 : Hid (solL (d + 1) r.bd l (fs.take (k + 1)) = out) := by
              show _ = _
              rw [HSTN.out, find_no HNF.out]
              try rfl
            have HR1 : Hid (Value.slice a6 out.length c6 = .slice a6 (solL (d + 1) r.bd l (fs.take (k + 1))).length c6) := by show _ = _; rw [HS1.out]
            have HR2 : Hid (So W X (solL (d + 1) r.bd l (fs.take (k + 1))) a6 c6) := by show So _ _ _ _ _; rw [HS1.out]; exact HSX.out
            clear HS1
            go_wp2
            go_roundw
            case rel => exact ⟨k + 1, a6, c6, by omega, by go_num, HR1.out, HR2⟩
            case measure => simp [intOf]; omega
    · obtain rfl : k = fs.length := by omega
      rw [List.take_length] at HSO ⊢
      go_wp2
      go_ret
      exact ⟨a6, c6, rfl, HSO.out.lb, HFI.out _ HSO.out.below⟩
end Go.Proofs.YtgfnijhhhgjabaaGreatDoor.EV
end
