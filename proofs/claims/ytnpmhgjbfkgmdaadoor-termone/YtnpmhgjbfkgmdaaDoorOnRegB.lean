import Derived.Test.YtnpmhgjbfkgmdaaDoorOnOneF
namespace Go.Proofs.YtnpmhgjbfkgmdaaDoor
open Go.RowKit Go.Maps
set_option linter.unusedVariables false
set_option linter.unusedSimpArgs false

theorem run_pickT (ev : Operand → Value) (o : Oper) {x y z : Operand} (hop : o.op = .pick x y z) (w : World) {v : Value} (hx : ev x = .bool true) (hy : ev y = v) : (execOp ev o).run Tryd.prog w = .ok (.value v) w := by
  simp only [execOp, hop, hx, hy]
  go_simp
def isOpG (ops : Array Oper) (i : Nat) (g : Option (Nat × Bool)) (op : Op) (dst : Option Tmp) : Prop := ops[i]?.map (fun o => (o.guard, o.op, o.dst)) = some (g, op, dst)
theorem isOpG_out {ops : Array Oper} {i : Nat} {g : Option (Nat × Bool)} {op : Op} {dst : Option Tmp} (h : isOpG ops i g op dst) : ∃ o, ops[i]? = some o ∧ o.guard = g ∧ o.op = op ∧ o.dst = dst := by
  obtain ⟨o, h1, h2⟩ := Option.map_eq_some_iff.1 h
  simp only [Prod.mk.injEq] at h2
  exact ⟨o, h1, h2.1, h2.2.1, h2.2.2⟩
theorem wantedG {ops : Array Oper} {g o : Oper} {a : Act} {j d : Nat} (h5 : ops[j]? = some g) (d5 : g.dst = some d) (hg : o.guard = some (j, true)) (hv : a.tmps[d]? = some (.bool true)) : Region.wanted o (yielded ops a.tmps) = true := by
  simp [Region.wanted, hg, yielded, h5, d5, hv]
theorem tmps_far (a : Act) {i j : Nat} (v : Value) (h : i ≠ j) : (a.put (some i) v).tmps[j]? = a.tmps[j]? := by
  simp [Act.put, Array.getElem?_setIfInBounds_ne h]
theorem tmps_same (a : Act) {i : Nat} (v : Value) (h : i < a.tmps.size) : (a.put (some i) v).tmps[i]? = some v := by
  simp [Act.put, Array.getElem?_setIfInBounds_self_of_lt h]
theorem wpOp_callG {P : Program} {ops : Array Oper} {Q : Exit → Act → World → Prop} {K : Act → World → Prop} {i : Nat} {a : Act} {w : World} {o : Oper} {f : Nat} {vs : Array Value} (hi : ops[i]? = some o) (hw : Region.wanted o (yielded ops a.tmps) = true) (hrun : (execOp a.eval o).run P w = .ok (.enter f vs) w)
    (hc : Calls P f vs w fun e w' => ∃ u, e = .returned u ∧ K (a.put o.dst u) w') : wpOp P ops Q i K a w := by
  unfold wpOp
  rw [hi]
  simp only [hw, if_true]
  refine Or.inl ?_
  unfold Oper.wp
  rw [hrun]
  refine Calls.mono hc ?_
  rintro e w' ⟨u, rfl, hK⟩
  exact hK
def LR13 (l : List Nat) : Array Bool := l.foldl (fun a i => a.setIfInBounds i true) (Array.replicate 13 false)
theorem LR13_snoc (l : List Nat) (i : Nat) : LR13 (l ++ [i]) = (LR13 l).setIfInBounds i true := by simp [LR13]
def takes33 : List (List Nat × Nat) := [([], 0), ([0], 1), ([0, 1], 3), ([0, 1, 3, 2, 4], 5), ([0, 1, 3, 2, 4, 5], 6), ([0, 1, 3, 2, 4, 5, 6], 7), ([0, 1, 3, 2, 4, 5, 6, 7], 9), ([0, 1, 3, 2, 4, 5, 6, 7, 9, 8, 10], 11), ([0, 1, 3, 2, 4, 5, 6, 7, 9, 8, 10, 11], 12)]
set_option maxHeartbeats 3200000 in
theorem reg33 {ops : Array Oper} {Q : Exit → Act → World → Prop} {S : World → Prop} {a0 : Act} {w5 : World} {pa : ByteArray} {sv : Value} {ax ay : Option Addr} {nx cx ny cy bx b2 : Nat} {X Y : List T} {t1 t2 : Array TypeId}
    (q0 : isOpG ops 0 none (.move (.tmp 5)) (some 216))
    (q1 : isOpG ops 1 none (.load 24 (.tmp 11)) (some 217))
    (q2 : isOpG ops 2 none (.call { callee := .value (.func 8), args := #[.tmp 216, .tmp 217], argTypes := t1 }) (some 218))
    (q3 : isOpG ops 3 none (.load 24 (.tmp 11)) (some 219))
    (q4 : isOpG ops 4 none (.call { callee := .value (.func 9), args := #[.tmp 218, .tmp 219], argTypes := t2 }) (some 220))
    (q5 : isOpG ops 5 none (.move (.tmp 220)) (some 221))
    (q6 : isOpG ops 6 (some (5, true)) (.move (.tmp 5)) (some 222))
    (q7 : isOpG ops 7 (some (5, true)) (.load 24 (.tmp 12)) (some 223))
    (q8 : isOpG ops 8 (some (5, true)) (.call { callee := .value (.func 8), args := #[.tmp 222, .tmp 223], argTypes := t1 }) (some 224))
    (q9 : isOpG ops 9 (some (5, true)) (.load 24 (.tmp 12)) (some 225))
    (q10 : isOpG ops 10 (some (5, true)) (.call { callee := .value (.func 9), args := #[.tmp 224, .tmp 225], argTypes := t2 }) (some 226))
    (q11 : isOpG ops 11 none (.pick (.tmp 221) (.tmp 226) (.const (.bool false))) (some 227))
    (q12 : isOpG ops 12 none (.assign (.tmp 227)) (some 4))
    (hs : Region.noSelect ops = true) (hq : (takes33.all fun p => Region.free .any ops (LR13 p.1) p.2 && (Region.ready .any ops (LR13 p.1)).contains p.2) = true)
    (r2 : Region.ready .any ops (LR13 [0, 1, 3]) = [2])
    (r4 : Region.ready .any ops (LR13 [0, 1, 3, 2]) = [4])
    (r8 : Region.ready .any ops (LR13 [0, 1, 3, 2, 4, 5, 6, 7, 9]) = [8])
    (r10 : Region.ready .any ops (LR13 [0, 1, 3, 2, 4, 5, 6, 7, 9, 8]) = [10])
    (rend : Region.ready .any ops (LR13 [0, 1, 3, 2, 4, 5, 6, 7, 9, 8, 10, 11, 12]) = [])
    (hQ : ∀ (d : Option Tmp) (v : Value) c a w, Q (.panic c) (a.put d v) w → Q (.panic c) a w)
    (hsz : 227 < a0.tmps.size) (e5 : a0.eval (.tmp 5) = sv) (e11 : a0.eval (.tmp 11) = .pointer (some ⟨bx, 0, none⟩)) (e12 : a0.eval (.tmp 12) = .pointer (some ⟨b2, 0, none⟩))
    (hS0 : S w5.drew) (keep : ∀ u u', S u → Below u.heap.size u u' → S u') (rx : ∀ u, S u → RL u bx 24 [.string pa, .slice ax nx cx]) (ry : ∀ u, S u → RL u b2 24 [.string pa, .slice ay ny cy])
    (LX : ∀ u, S u → Lt u (.slice ax nx cx) X) (LY : ∀ u, S u → Lt u (.slice ay ny cy) Y)
    (KX : ∀ u, S u → Calls Tryd.prog 8 #[sv, .agg #[.string pa, .slice ax nx cx]] u fun e w' => ∃ a' c', e = .returned (.agg #[.string pa, .slice a' nx c']) ∧ Lt w' (.slice a' nx c') X ∧ Below u.heap.size u w')
    (KY : ∀ u, S u → Calls Tryd.prog 8 #[sv, .agg #[.string pa, .slice ay ny cy]] u fun e w' => ∃ a' c', e = .returned (.agg #[.string pa, .slice a' ny c']) ∧ Lt w' (.slice a' ny c') Y ∧ Below u.heap.size u w')
    (F : ∀ (vA vB : Value) (wc : World), S wc → Q .normal (((((((((((((a0.put (some 216) (sv)).put (some 217) (.agg #[.string pa, .slice ax nx cx])).put (some 219) (.agg #[.string pa, .slice ax nx cx])).put (some 218) (vA)).put (some 220) (.bool true)).put (some 221) (.bool true)).put (some 222) (sv)).put (some 223) (.agg #[.string pa, .slice ay ny cy])).put (some 225) (.agg #[.string pa, .slice ay ny cy])).put (some 224) (vB)).put (some 226) (.bool true)).put (some 227) (.bool true)).put (some 4) (.bool true)) wc) :
    wpAnyH Tryd.prog .any ops Q S 13 (LR13 []) a0 w5.drew := by
  have hall : ∀ p ∈ takes33, Region.free .any ops (LR13 p.1) p.2 = true ∧ (Region.ready .any ops (LR13 p.1)).contains p.2 = true := by
    intro p hp
    have := List.all_eq_true.1 hq p hp
    simpa using this
  unfold takes33 at hall
  obtain ⟨og, hog, _, _, dog⟩ := isOpG_out q5
  obtain ⟨o0, ho, hg, hop, hd⟩ := isOpG_out q0
  have hfr := hall ([], 0) (by simp)
  refine wpAnyH_take (listed := LR13 []) (v := sv) ho hs hfr.1 hfr.2 (hQ _ _) (Or.inl ⟨(by simp [Region.wanted, hg]), fun w' hS => run_move _ _ hop w' (by (repeat rw [eval_far _ _ (by decide)]); exact e5)⟩) hS0 ?_
  rw [hd, ← LR13_snoc]
  clear ho hg hop hd hfr
  obtain ⟨o1, ho, hg, hop, hd⟩ := isOpG_out q1
  have hfr := hall ([0], 1) (by simp)
  refine wpAnyH_take (listed := LR13 [0]) (v := .agg #[.string pa, .slice ax nx cx]) ho hs hfr.1 hfr.2 (hQ _ _) (Or.inl ⟨(by simp [Region.wanted, hg]), fun w' hS => run_loadA _ _ hop w' (by (repeat rw [eval_far _ _ (by decide)]); exact e11) ((rx w' hS).at (j := 0) rfl) ((rx w' hS).at (j := 1) rfl)⟩) hS0 ?_
  rw [hd, ← LR13_snoc]
  clear ho hg hop hd hfr
  obtain ⟨o3, ho, hg, hop, hd⟩ := isOpG_out q3
  have hfr := hall ([0, 1], 3) (by simp)
  refine wpAnyH_take (listed := LR13 [0, 1]) (v := .agg #[.string pa, .slice ax nx cx]) ho hs hfr.1 hfr.2 (hQ _ _) (Or.inl ⟨(by simp [Region.wanted, hg]), fun w' hS => run_loadA _ _ hop w' (by (repeat rw [eval_far _ _ (by decide)]); exact e11) ((rx w' hS).at (j := 0) rfl) ((rx w' hS).at (j := 1) rfl)⟩) hS0 ?_
  rw [hd, ← LR13_snoc]
  clear ho hg hop hd hfr
  refine wpAnyH_all r2 (by simp) ?_
  intro i hi
  obtain rfl := List.mem_singleton.1 hi
  obtain ⟨o2, ho, hg, hop, hd⟩ := isOpG_out q2
  have x216 : ((((a0.put (some 216) (sv)).put (some 217) (.agg #[.string pa, .slice ax nx cx])).put (some 219) (.agg #[.string pa, .slice ax nx cx]))).eval (.tmp 216) = sv := by repeat (first | rw [eval_same _ _ (by (try simp only [put_size]); omega)] | rw [eval_far _ _ (by decide)])
  have x217 : ((((a0.put (some 216) (sv)).put (some 217) (.agg #[.string pa, .slice ax nx cx])).put (some 219) (.agg #[.string pa, .slice ax nx cx]))).eval (.tmp 217) = .agg #[.string pa, .slice ax nx cx] := by repeat (first | rw [eval_same _ _ (by (try simp only [put_size]); omega)] | rw [eval_far _ _ (by decide)])
  refine wpOp_callG ho (by simp [Region.wanted, hg]) (run_callA 8 Tryd.func8 (by kernel_rfl) (by kernel_rfl) #[.tmp 216, .tmp 217] _ hop #[sv, .agg #[.string pa, .slice ax nx cx]] (by simp only [List.map_toArray, List.map_cons, List.map_nil, x216, x217])) ?_
  refine (KX _ hS0).mono ?_
  rintro e u1 ⟨a1, c1, rfl, hl1, b1⟩
  have hS2 := keep _ _ hS0 b1
  refine ⟨_, rfl, hS2, ?_⟩
  rw [hd]
  clear ho hg hop hd
  rw [← LR13_snoc]
  refine wpAnyH_all r4 (by simp) ?_
  intro i hi
  obtain rfl := List.mem_singleton.1 hi
  obtain ⟨o4, ho, hg, hop, hd⟩ := isOpG_out q4
  have x218 : (((((a0.put (some 216) (sv)).put (some 217) (.agg #[.string pa, .slice ax nx cx])).put (some 219) (.agg #[.string pa, .slice ax nx cx])).put (some 218) (.agg #[.string pa, .slice a1 nx c1]))).eval (.tmp 218) = .agg #[.string pa, .slice a1 nx c1] := by repeat (first | rw [eval_same _ _ (by (try simp only [put_size]); omega)] | rw [eval_far _ _ (by decide)])
  have x219 : (((((a0.put (some 216) (sv)).put (some 217) (.agg #[.string pa, .slice ax nx cx])).put (some 219) (.agg #[.string pa, .slice ax nx cx])).put (some 218) (.agg #[.string pa, .slice a1 nx c1]))).eval (.tmp 219) = .agg #[.string pa, .slice ax nx cx] := by repeat (first | rw [eval_same _ _ (by (try simp only [put_size]); omega)] | rw [eval_far _ _ (by decide)])
  refine wpOp_callG ho (by simp [Region.wanted, hg]) (run_callA 9 Tryd.func9 (by kernel_rfl) (by kernel_rfl) #[.tmp 218, .tmp 219] _ hop #[.agg #[.string pa, .slice a1 nx c1], .agg #[.string pa, .slice ax nx cx]] (by simp only [List.map_toArray, List.map_cons, List.map_nil, x218, x219])) ?_
  refine (sameAtom_same pa X _ _ _ hl1 (LX _ hS2)).mono ?_
  rintro e u2 ⟨rfl, b2'⟩
  have hS4 := keep _ _ hS2 b2'
  refine ⟨_, rfl, hS4, ?_⟩
  rw [hd]
  clear ho hg hop hd
  rw [← LR13_snoc]
  obtain ⟨o5, ho, hg, hop, hd⟩ := isOpG_out q5
  have hfr := hall ([0, 1, 3, 2, 4], 5) (by simp)
  refine wpAnyH_take (listed := LR13 [0, 1, 3, 2, 4]) (v := .bool true) ho hs hfr.1 hfr.2 (hQ _ _) (Or.inl ⟨(by simp [Region.wanted, hg]), fun w' hS => run_move _ _ hop w' (by repeat (first | rw [eval_same _ _ (by (try simp only [put_size]); omega)] | rw [eval_far _ _ (by decide)]))⟩) hS4 ?_
  rw [hd, ← LR13_snoc]
  clear ho hg hop hd hfr
  obtain ⟨o6, ho, hg, hop, hd⟩ := isOpG_out q6
  have hfr := hall ([0, 1, 3, 2, 4, 5], 6) (by simp)
  refine wpAnyH_take (listed := LR13 [0, 1, 3, 2, 4, 5]) (v := sv) ho hs hfr.1 hfr.2 (hQ _ _) (Or.inl ⟨(wantedG hog dog hg (by repeat (first | rw [tmps_same _ _ (by (try simp only [put_size]); omega)] | rw [tmps_far _ _ (by decide)]))), fun w' hS => run_move _ _ hop w' (by (repeat rw [eval_far _ _ (by decide)]); exact e5)⟩) hS4 ?_
  rw [hd, ← LR13_snoc]
  clear ho hg hop hd hfr
  obtain ⟨o7, ho, hg, hop, hd⟩ := isOpG_out q7
  have hfr := hall ([0, 1, 3, 2, 4, 5, 6], 7) (by simp)
  refine wpAnyH_take (listed := LR13 [0, 1, 3, 2, 4, 5, 6]) (v := .agg #[.string pa, .slice ay ny cy]) ho hs hfr.1 hfr.2 (hQ _ _) (Or.inl ⟨(wantedG hog dog hg (by repeat (first | rw [tmps_same _ _ (by (try simp only [put_size]); omega)] | rw [tmps_far _ _ (by decide)]))), fun w' hS => run_loadA _ _ hop w' (by (repeat rw [eval_far _ _ (by decide)]); exact e12) ((ry w' hS).at (j := 0) rfl) ((ry w' hS).at (j := 1) rfl)⟩) hS4 ?_
  rw [hd, ← LR13_snoc]
  clear ho hg hop hd hfr
  obtain ⟨o9, ho, hg, hop, hd⟩ := isOpG_out q9
  have hfr := hall ([0, 1, 3, 2, 4, 5, 6, 7], 9) (by simp)
  refine wpAnyH_take (listed := LR13 [0, 1, 3, 2, 4, 5, 6, 7]) (v := .agg #[.string pa, .slice ay ny cy]) ho hs hfr.1 hfr.2 (hQ _ _) (Or.inl ⟨(wantedG hog dog hg (by repeat (first | rw [tmps_same _ _ (by (try simp only [put_size]); omega)] | rw [tmps_far _ _ (by decide)]))), fun w' hS => run_loadA _ _ hop w' (by (repeat rw [eval_far _ _ (by decide)]); exact e12) ((ry w' hS).at (j := 0) rfl) ((ry w' hS).at (j := 1) rfl)⟩) hS4 ?_
  rw [hd, ← LR13_snoc]
  clear ho hg hop hd hfr
  refine wpAnyH_all r8 (by simp) ?_
  intro i hi
  obtain rfl := List.mem_singleton.1 hi
  obtain ⟨o8, ho, hg, hop, hd⟩ := isOpG_out q8
  have x222 : ((((((((((a0.put (some 216) (sv)).put (some 217) (.agg #[.string pa, .slice ax nx cx])).put (some 219) (.agg #[.string pa, .slice ax nx cx])).put (some 218) (.agg #[.string pa, .slice a1 nx c1])).put (some 220) (.bool true)).put (some 221) (.bool true)).put (some 222) (sv)).put (some 223) (.agg #[.string pa, .slice ay ny cy])).put (some 225) (.agg #[.string pa, .slice ay ny cy]))).eval (.tmp 222) = sv := by repeat (first | rw [eval_same _ _ (by (try simp only [put_size]); omega)] | rw [eval_far _ _ (by decide)])
  have x223 : ((((((((((a0.put (some 216) (sv)).put (some 217) (.agg #[.string pa, .slice ax nx cx])).put (some 219) (.agg #[.string pa, .slice ax nx cx])).put (some 218) (.agg #[.string pa, .slice a1 nx c1])).put (some 220) (.bool true)).put (some 221) (.bool true)).put (some 222) (sv)).put (some 223) (.agg #[.string pa, .slice ay ny cy])).put (some 225) (.agg #[.string pa, .slice ay ny cy]))).eval (.tmp 223) = .agg #[.string pa, .slice ay ny cy] := by repeat (first | rw [eval_same _ _ (by (try simp only [put_size]); omega)] | rw [eval_far _ _ (by decide)])
  refine wpOp_callG ho (wantedG hog dog hg (by repeat (first | rw [tmps_same _ _ (by (try simp only [put_size]); omega)] | rw [tmps_far _ _ (by decide)]))) (run_callA 8 Tryd.func8 (by kernel_rfl) (by kernel_rfl) #[.tmp 222, .tmp 223] _ hop #[sv, .agg #[.string pa, .slice ay ny cy]] (by simp only [List.map_toArray, List.map_cons, List.map_nil, x222, x223])) ?_
  refine (KY _ hS4).mono ?_
  rintro e u3 ⟨a2, c2, rfl, hl2, b3⟩
  have hS8 := keep _ _ hS4 b3
  refine ⟨_, rfl, hS8, ?_⟩
  rw [hd]
  clear ho hg hop hd
  rw [← LR13_snoc]
  refine wpAnyH_all r10 (by simp) ?_
  intro i hi
  obtain rfl := List.mem_singleton.1 hi
  obtain ⟨o10, ho, hg, hop, hd⟩ := isOpG_out q10
  have x224 : (((((((((((a0.put (some 216) (sv)).put (some 217) (.agg #[.string pa, .slice ax nx cx])).put (some 219) (.agg #[.string pa, .slice ax nx cx])).put (some 218) (.agg #[.string pa, .slice a1 nx c1])).put (some 220) (.bool true)).put (some 221) (.bool true)).put (some 222) (sv)).put (some 223) (.agg #[.string pa, .slice ay ny cy])).put (some 225) (.agg #[.string pa, .slice ay ny cy])).put (some 224) (.agg #[.string pa, .slice a2 ny c2]))).eval (.tmp 224) = .agg #[.string pa, .slice a2 ny c2] := by repeat (first | rw [eval_same _ _ (by (try simp only [put_size]); omega)] | rw [eval_far _ _ (by decide)])
  have x225 : (((((((((((a0.put (some 216) (sv)).put (some 217) (.agg #[.string pa, .slice ax nx cx])).put (some 219) (.agg #[.string pa, .slice ax nx cx])).put (some 218) (.agg #[.string pa, .slice a1 nx c1])).put (some 220) (.bool true)).put (some 221) (.bool true)).put (some 222) (sv)).put (some 223) (.agg #[.string pa, .slice ay ny cy])).put (some 225) (.agg #[.string pa, .slice ay ny cy])).put (some 224) (.agg #[.string pa, .slice a2 ny c2]))).eval (.tmp 225) = .agg #[.string pa, .slice ay ny cy] := by repeat (first | rw [eval_same _ _ (by (try simp only [put_size]); omega)] | rw [eval_far _ _ (by decide)])
  refine wpOp_callG ho (wantedG hog dog hg (by repeat (first | rw [tmps_same _ _ (by (try simp only [put_size]); omega)] | rw [tmps_far _ _ (by decide)]))) (run_callA 9 Tryd.func9 (by kernel_rfl) (by kernel_rfl) #[.tmp 224, .tmp 225] _ hop #[.agg #[.string pa, .slice a2 ny c2], .agg #[.string pa, .slice ay ny cy]] (by simp only [List.map_toArray, List.map_cons, List.map_nil, x224, x225])) ?_
  refine (sameAtom_same pa Y _ _ _ hl2 (LY _ hS8)).mono ?_
  rintro e u4 ⟨rfl, b4⟩
  have hS10 := keep _ _ hS8 b4
  refine ⟨_, rfl, hS10, ?_⟩
  rw [hd]
  clear ho hg hop hd
  rw [← LR13_snoc]
  obtain ⟨o11, ho, hg, hop, hd⟩ := isOpG_out q11
  have hfr := hall ([0, 1, 3, 2, 4, 5, 6, 7, 9, 8, 10], 11) (by simp)
  refine wpAnyH_take (listed := LR13 [0, 1, 3, 2, 4, 5, 6, 7, 9, 8, 10]) (v := .bool true) ho hs hfr.1 hfr.2 (hQ _ _) (Or.inl ⟨(by simp [Region.wanted, hg]), fun w' hS => run_pickT _ _ hop w' (by repeat (first | rw [eval_same _ _ (by (try simp only [put_size]); omega)] | rw [eval_far _ _ (by decide)])) (by repeat (first | rw [eval_same _ _ (by (try simp only [put_size]); omega)] | rw [eval_far _ _ (by decide)]))⟩) hS10 ?_
  rw [hd, ← LR13_snoc]
  clear ho hg hop hd hfr
  obtain ⟨o12, ho, hg, hop, hd⟩ := isOpG_out q12
  have hfr := hall ([0, 1, 3, 2, 4, 5, 6, 7, 9, 8, 10, 11], 12) (by simp)
  refine wpAnyH_take (listed := LR13 [0, 1, 3, 2, 4, 5, 6, 7, 9, 8, 10, 11]) (v := .bool true) ho hs hfr.1 hfr.2 (hQ _ _) (Or.inl ⟨(by simp [Region.wanted, hg]), fun w' hS => run_assignV _ _ hop w' (by repeat (first | rw [eval_same _ _ (by (try simp only [put_size]); omega)] | rw [eval_far _ _ (by decide)]))⟩) hS10 ?_
  rw [hd, ← LR13_snoc]
  clear ho hg hop hd hfr
  exact wpAnyH_done rend (F _ _ _ hS10) _
end Go.Proofs.YtnpmhgjbfkgmdaaDoor
