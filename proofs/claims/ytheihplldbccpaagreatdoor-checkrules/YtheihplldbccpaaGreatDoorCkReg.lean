import Derived.Test.YtheihplldbccpaaGreatDoorG12
namespace Go.Proofs.YtheihplldbccpaaGreatDoor
open Go.RowKit Go.Maps
set_option linter.unusedVariables false
set_option linter.unusedSimpArgs false

theorem run_fldR1 (ev : Operand → Value) (o : Oper) {x : Operand} (hop : o.op = .fieldAddr 25 x 1) (w : World) {be : Nat} (hx : ev x = .pointer (some ⟨be, 0, none⟩)) : (execOp ev o).run Tryz.prog w = .ok (.value (.pointer (some ⟨be, 1, none⟩))) w := by
  simp only [execOp, hop, hx]
  go_simp
theorem run_fldR2 (ev : Operand → Value) (o : Oper) {x : Operand} (hop : o.op = .fieldAddr 25 x 2) (w : World) {be : Nat} (hx : ev x = .pointer (some ⟨be, 0, none⟩)) : (execOp ev o).run Tryz.prog w = .ok (.value (.pointer (some ⟨be, 2, none⟩))) w := by
  simp only [execOp, hop, hx]
  go_simp
theorem run_buildR (ev : Operand → Value) (o : Oper) {x : Operand} (hop : o.op = .build 25 #[(1, x)]) (w : World) {ha : Option Addr} {hn hc : Nat} (hx : ev x = .slice ha hn hc) : (execOp ev o).run Tryz.prog w = .ok (.value (.agg #[.string ⟨#[]⟩, .slice ha hn hc, .slice none 0 0])) w := by
  simp only [execOp, hop]
  simp only [List.map_toArray, List.map_cons, List.map_nil, Array.map, hx]
  go_simp
def ckrule_takes : List (List Nat × Nat) := [([], 0), ([0], 2), ([0, 2], 3), ([0, 2, 3, 1, 4, 5], 6)]
set_option maxHeartbeats 3200000 in
theorem ckrule {ops : Array Oper} {Q : Exit → Act → World → Prop} {S : World → Prop} {a0 : Act} {w5 : World} {b : Nat} {rv bv : Value} {bb : Bool} {ty1 ty2 ty3 : Array TypeId}
    (q0 : isOpG ops 0 none (.load 25 (.tmp 1)) (some 9))
    (q2 : isOpG ops 2 none (.fieldAddr 25 (.tmp 1) 2) (some 11))
    (q3 : isOpG ops 3 none (.load 23 (.tmp 11)) (some 12))
    (q1 : isOpG ops 1 none (.call { callee := .value (.func 16), args := #[.tmp 9], argTypes := ty1 }) (some 10))
    (q4 : isOpG ops 4 none (.call { callee := .value (.func 17), args := #[.tmp 12], argTypes := ty2 }) (some 13))
    (q5 : isOpG ops 5 none (.call { callee := .value (.func 15), args := #[.tmp 10, .tmp 13], argTypes := ty3 }) (some 14))
    (q6 : isOpG ops 6 none (.unOp .not 4 (.tmp 14)) (some 15))
    (hs : Region.noSelect ops = true) (hq : (ckrule_takes.all fun p => Region.free .any ops (LR 7 p.1) p.2 && (Region.ready .any ops (LR 7 p.1)).contains p.2) = true)
    (r1 : Region.ready .any ops (LR 7 [0, 2, 3]) = [1])
    (r4 : Region.ready .any ops (LR 7 [0, 2, 3, 1]) = [4])
    (r5 : Region.ready .any ops (LR 7 [0, 2, 3, 1, 4]) = [5])
    (rend : Region.ready .any ops (LR 7 [0, 2, 3, 1, 4, 5, 6]) = [])
    (hQ : ∀ (d : Option Tmp) (v : Value) c a w, Q (.panic c) (a.put d v) w → Q (.panic c) a w)
    (hsz : 15 < a0.tmps.size) (e1 : a0.eval (.tmp 1) = .pointer (some ⟨b, 0, none⟩))
    (hS0 : S w5.drew)
    (keep : ∀ u u', S u → S u' → S u') (LRU : ∀ u, S u → (loadVar 25 ⟨b, 0, none⟩).run Tryz.prog u = .ok rv u) (LBO : ∀ u, S u → (loadVar 23 ⟨b, 2, none⟩).run Tryz.prog u = .ok bv u)
    (C1 : Calls Tryz.prog 16 #[rv] w5.drew fun e u1 => ∃ sv1, e = .returned sv1 ∧ S u1 ∧ Calls Tryz.prog 17 #[bv] u1 fun e u2 => ∃ sv2, e = .returned sv2 ∧ S u2 ∧ Calls Tryz.prog 15 #[sv1, sv2] u2 fun e u3 => e = .returned (.bool bb) ∧ S u3)
    (F : ∀ (wc : World) (sv1 sv2 : Value), S wc → Q .normal (((((((a0.put (some 9) (rv)).put (some 11) (.pointer (some ⟨b, 2, none⟩))).put (some 12) (bv)).put (some 10) (sv1)).put (some 13) (sv2)).put (some 14) (.bool bb)).put (some 15) (.bool (!bb))) wc) :
    wpAnyH Tryz.prog .any ops Q S 7 (LR 7 []) a0 w5.drew := by
  have hall : ∀ p ∈ ckrule_takes, Region.free .any ops (LR 7 p.1) p.2 = true ∧ (Region.ready .any ops (LR 7 p.1)).contains p.2 = true := by
    intro p hp
    have := List.all_eq_true.1 hq p hp
    simpa using this
  unfold ckrule_takes at hall
  obtain ⟨o0, ho, hg, hop, hd⟩ := isOpG_out q0
  have hfr := hall ([], 0) (by simp)
  refine wpAnyH_take (listed := LR 7 []) (v := rv) ho hs hfr.1 hfr.2 (hQ _ _) (Or.inl ⟨(wantedN hg), fun w' hS => run_loadS _ _ hop w' (by (repeat rw [eval_far _ _ (by decide)]); exact e1) (LRU _ hS)⟩) hS0 ?_
  rw [hd, ← LR_snoc]
  clear ho hg hop hd hfr
  obtain ⟨o2, ho, hg, hop, hd⟩ := isOpG_out q2
  have hfr := hall ([0], 2) (by simp)
  refine wpAnyH_take (listed := LR 7 [0]) (v := .pointer (some ⟨b, 2, none⟩)) ho hs hfr.1 hfr.2 (hQ _ _) (Or.inl ⟨(wantedN hg), fun w' hS => run_fldR2 _ _ hop w' (by (repeat rw [eval_far _ _ (by decide)]); exact e1)⟩) hS0 ?_
  rw [hd, ← LR_snoc]
  clear ho hg hop hd hfr
  obtain ⟨o3, ho, hg, hop, hd⟩ := isOpG_out q3
  have hfr := hall ([0, 2], 3) (by simp)
  refine wpAnyH_take (listed := LR 7 [0, 2]) (v := bv) ho hs hfr.1 hfr.2 (hQ _ _) (Or.inl ⟨(wantedN hg), fun w' hS => run_loadS _ _ hop w' (by (repeat (first | rw [eval_same _ _ (by (try simp only [put_size]); omega)] | rw [eval_far _ _ (by decide)]))) (LBO _ hS)⟩) hS0 ?_
  rw [hd, ← LR_snoc]
  clear ho hg hop hd hfr
  refine wpAnyH_all r1 (by simp) ?_
  intro i hi
  obtain rfl := List.mem_singleton.1 hi
  obtain ⟨o1, ho, hg, hop, hd⟩ := isOpG_out q1
  have x1_0 : ((((a0.put (some 9) (rv)).put (some 11) (.pointer (some ⟨b, 2, none⟩))).put (some 12) (bv))).eval (.tmp 9) = rv := (by (repeat (first | rw [eval_same _ _ (by (try simp only [put_size]); omega)] | rw [eval_far _ _ (by decide)])))
  refine wpOp_callG ho (wantedN hg) (run_callV 16 Tryz.func16 (by kernel_rfl) (by kernel_rfl) #[.tmp 9] _ hop #[rv] (by simp only [List.map_toArray, List.map_cons, List.map_nil, x1_0])) ?_
  refine (C1).mono ?_
  rintro e u1 ⟨sv1, rfl, hS1, C2⟩
  have hS1 := keep _ _ hS0 hS1
  refine ⟨_, rfl, hS1, ?_⟩
  rw [hd]
  clear ho hg hop hd
  rw [← LR_snoc]
  refine wpAnyH_all r4 (by simp) ?_
  intro i hi
  obtain rfl := List.mem_singleton.1 hi
  obtain ⟨o4, ho, hg, hop, hd⟩ := isOpG_out q4
  have x4_0 : (((((a0.put (some 9) (rv)).put (some 11) (.pointer (some ⟨b, 2, none⟩))).put (some 12) (bv)).put (some 10) (sv1))).eval (.tmp 12) = bv := (by (repeat (first | rw [eval_same _ _ (by (try simp only [put_size]); omega)] | rw [eval_far _ _ (by decide)])))
  refine wpOp_callG ho (wantedN hg) (run_callV 17 Tryz.func17 (by kernel_rfl) (by kernel_rfl) #[.tmp 12] _ hop #[bv] (by simp only [List.map_toArray, List.map_cons, List.map_nil, x4_0])) ?_
  refine (C2).mono ?_
  rintro e u2 ⟨sv2, rfl, hS2, C3⟩
  have hS4 := keep _ _ hS1 hS2
  refine ⟨_, rfl, hS4, ?_⟩
  rw [hd]
  clear ho hg hop hd
  rw [← LR_snoc]
  refine wpAnyH_all r5 (by simp) ?_
  intro i hi
  obtain rfl := List.mem_singleton.1 hi
  obtain ⟨o5, ho, hg, hop, hd⟩ := isOpG_out q5
  have x5_0 : ((((((a0.put (some 9) (rv)).put (some 11) (.pointer (some ⟨b, 2, none⟩))).put (some 12) (bv)).put (some 10) (sv1)).put (some 13) (sv2))).eval (.tmp 10) = sv1 := (by (repeat (first | rw [eval_same _ _ (by (try simp only [put_size]); omega)] | rw [eval_far _ _ (by decide)])))
  have x5_1 : ((((((a0.put (some 9) (rv)).put (some 11) (.pointer (some ⟨b, 2, none⟩))).put (some 12) (bv)).put (some 10) (sv1)).put (some 13) (sv2))).eval (.tmp 13) = sv2 := (by (repeat (first | rw [eval_same _ _ (by (try simp only [put_size]); omega)] | rw [eval_far _ _ (by decide)])))
  refine wpOp_callG ho (wantedN hg) (run_callV 15 Tryz.func15 (by kernel_rfl) (by kernel_rfl) #[.tmp 10, .tmp 13] _ hop #[sv1, sv2] (by simp only [List.map_toArray, List.map_cons, List.map_nil, x5_0, x5_1])) ?_
  refine (C3).mono ?_
  rintro e u3 ⟨rfl, hS3⟩
  have hS5 := keep _ _ hS4 hS3
  refine ⟨_, rfl, hS5, ?_⟩
  rw [hd]
  clear ho hg hop hd
  rw [← LR_snoc]
  obtain ⟨o6, ho, hg, hop, hd⟩ := isOpG_out q6
  have hfr := hall ([0, 2, 3, 1, 4, 5], 6) (by simp)
  refine wpAnyH_take (listed := LR 7 [0, 2, 3, 1, 4, 5]) (v := .bool (!bb)) ho hs hfr.1 hfr.2 (hQ _ _) (Or.inl ⟨(wantedN hg), fun w' hS => run_notV (b := bb) _ _ hop w' (by (repeat (first | rw [eval_same _ _ (by (try simp only [put_size]); omega)] | rw [eval_far _ _ (by decide)])))⟩) hS5 ?_
  rw [hd, ← LR_snoc]
  clear ho hg hop hd hfr
  exact wpAnyH_done rend (F _ sv1 sv2 hS5) _
def rfrule_takes : List (List Nat × Nat) := [([], 0), ([0], 2), ([0, 2], 3), ([0, 2, 3, 1, 4, 5], 6)]
set_option maxHeartbeats 3200000 in
theorem rfrule {ops : Array Oper} {Q : Exit → Act → World → Prop} {S : World → Prop} {a0 : Act} {w5 : World} {b : Nat} {rv bv : Value} {bb : Bool} {ty1 ty2 ty3 : Array TypeId}
    (q0 : isOpG ops 0 none (.load 25 (.tmp 1)) (some 6))
    (q2 : isOpG ops 2 none (.fieldAddr 25 (.tmp 1) 2) (some 8))
    (q3 : isOpG ops 3 none (.load 23 (.tmp 8)) (some 9))
    (q1 : isOpG ops 1 none (.call { callee := .value (.func 20), args := #[.tmp 6], argTypes := ty1 }) (some 7))
    (q4 : isOpG ops 4 none (.call { callee := .value (.func 21), args := #[.tmp 9], argTypes := ty2 }) (some 10))
    (q5 : isOpG ops 5 none (.call { callee := .value (.func 19), args := #[.tmp 7, .tmp 10], argTypes := ty3 }) (some 11))
    (q6 : isOpG ops 6 none (.unOp .not 4 (.tmp 11)) (some 12))
    (hs : Region.noSelect ops = true) (hq : (rfrule_takes.all fun p => Region.free .any ops (LR 7 p.1) p.2 && (Region.ready .any ops (LR 7 p.1)).contains p.2) = true)
    (r1 : Region.ready .any ops (LR 7 [0, 2, 3]) = [1])
    (r4 : Region.ready .any ops (LR 7 [0, 2, 3, 1]) = [4])
    (r5 : Region.ready .any ops (LR 7 [0, 2, 3, 1, 4]) = [5])
    (rend : Region.ready .any ops (LR 7 [0, 2, 3, 1, 4, 5, 6]) = [])
    (hQ : ∀ (d : Option Tmp) (v : Value) c a w, Q (.panic c) (a.put d v) w → Q (.panic c) a w)
    (hsz : 12 < a0.tmps.size) (e1 : a0.eval (.tmp 1) = .pointer (some ⟨b, 0, none⟩))
    (hS0 : S w5.drew)
    (keep : ∀ u u', S u → S u' → S u') (LRU : ∀ u, S u → (loadVar 25 ⟨b, 0, none⟩).run Tryz.prog u = .ok rv u) (LBO : ∀ u, S u → (loadVar 23 ⟨b, 2, none⟩).run Tryz.prog u = .ok bv u)
    (C1 : Calls Tryz.prog 20 #[rv] w5.drew fun e u1 => ∃ sv1, e = .returned sv1 ∧ S u1 ∧ Calls Tryz.prog 21 #[bv] u1 fun e u2 => ∃ sv2, e = .returned sv2 ∧ S u2 ∧ Calls Tryz.prog 19 #[sv1, sv2] u2 fun e u3 => e = .returned (.bool bb) ∧ S u3)
    (F : ∀ (wc : World) (sv1 sv2 : Value), S wc → Q .normal (((((((a0.put (some 6) (rv)).put (some 8) (.pointer (some ⟨b, 2, none⟩))).put (some 9) (bv)).put (some 7) (sv1)).put (some 10) (sv2)).put (some 11) (.bool bb)).put (some 12) (.bool (!bb))) wc) :
    wpAnyH Tryz.prog .any ops Q S 7 (LR 7 []) a0 w5.drew := by
  have hall : ∀ p ∈ rfrule_takes, Region.free .any ops (LR 7 p.1) p.2 = true ∧ (Region.ready .any ops (LR 7 p.1)).contains p.2 = true := by
    intro p hp
    have := List.all_eq_true.1 hq p hp
    simpa using this
  unfold rfrule_takes at hall
  obtain ⟨o0, ho, hg, hop, hd⟩ := isOpG_out q0
  have hfr := hall ([], 0) (by simp)
  refine wpAnyH_take (listed := LR 7 []) (v := rv) ho hs hfr.1 hfr.2 (hQ _ _) (Or.inl ⟨(wantedN hg), fun w' hS => run_loadS _ _ hop w' (by (repeat rw [eval_far _ _ (by decide)]); exact e1) (LRU _ hS)⟩) hS0 ?_
  rw [hd, ← LR_snoc]
  clear ho hg hop hd hfr
  obtain ⟨o2, ho, hg, hop, hd⟩ := isOpG_out q2
  have hfr := hall ([0], 2) (by simp)
  refine wpAnyH_take (listed := LR 7 [0]) (v := .pointer (some ⟨b, 2, none⟩)) ho hs hfr.1 hfr.2 (hQ _ _) (Or.inl ⟨(wantedN hg), fun w' hS => run_fldR2 _ _ hop w' (by (repeat rw [eval_far _ _ (by decide)]); exact e1)⟩) hS0 ?_
  rw [hd, ← LR_snoc]
  clear ho hg hop hd hfr
  obtain ⟨o3, ho, hg, hop, hd⟩ := isOpG_out q3
  have hfr := hall ([0, 2], 3) (by simp)
  refine wpAnyH_take (listed := LR 7 [0, 2]) (v := bv) ho hs hfr.1 hfr.2 (hQ _ _) (Or.inl ⟨(wantedN hg), fun w' hS => run_loadS _ _ hop w' (by (repeat (first | rw [eval_same _ _ (by (try simp only [put_size]); omega)] | rw [eval_far _ _ (by decide)]))) (LBO _ hS)⟩) hS0 ?_
  rw [hd, ← LR_snoc]
  clear ho hg hop hd hfr
  refine wpAnyH_all r1 (by simp) ?_
  intro i hi
  obtain rfl := List.mem_singleton.1 hi
  obtain ⟨o1, ho, hg, hop, hd⟩ := isOpG_out q1
  have x1_0 : ((((a0.put (some 6) (rv)).put (some 8) (.pointer (some ⟨b, 2, none⟩))).put (some 9) (bv))).eval (.tmp 6) = rv := (by (repeat (first | rw [eval_same _ _ (by (try simp only [put_size]); omega)] | rw [eval_far _ _ (by decide)])))
  refine wpOp_callG ho (wantedN hg) (run_callV 20 Tryz.func20 (by kernel_rfl) (by kernel_rfl) #[.tmp 6] _ hop #[rv] (by simp only [List.map_toArray, List.map_cons, List.map_nil, x1_0])) ?_
  refine (C1).mono ?_
  rintro e u1 ⟨sv1, rfl, hS1, C2⟩
  have hS1 := keep _ _ hS0 hS1
  refine ⟨_, rfl, hS1, ?_⟩
  rw [hd]
  clear ho hg hop hd
  rw [← LR_snoc]
  refine wpAnyH_all r4 (by simp) ?_
  intro i hi
  obtain rfl := List.mem_singleton.1 hi
  obtain ⟨o4, ho, hg, hop, hd⟩ := isOpG_out q4
  have x4_0 : (((((a0.put (some 6) (rv)).put (some 8) (.pointer (some ⟨b, 2, none⟩))).put (some 9) (bv)).put (some 7) (sv1))).eval (.tmp 9) = bv := (by (repeat (first | rw [eval_same _ _ (by (try simp only [put_size]); omega)] | rw [eval_far _ _ (by decide)])))
  refine wpOp_callG ho (wantedN hg) (run_callV 21 Tryz.func21 (by kernel_rfl) (by kernel_rfl) #[.tmp 9] _ hop #[bv] (by simp only [List.map_toArray, List.map_cons, List.map_nil, x4_0])) ?_
  refine (C2).mono ?_
  rintro e u2 ⟨sv2, rfl, hS2, C3⟩
  have hS4 := keep _ _ hS1 hS2
  refine ⟨_, rfl, hS4, ?_⟩
  rw [hd]
  clear ho hg hop hd
  rw [← LR_snoc]
  refine wpAnyH_all r5 (by simp) ?_
  intro i hi
  obtain rfl := List.mem_singleton.1 hi
  obtain ⟨o5, ho, hg, hop, hd⟩ := isOpG_out q5
  have x5_0 : ((((((a0.put (some 6) (rv)).put (some 8) (.pointer (some ⟨b, 2, none⟩))).put (some 9) (bv)).put (some 7) (sv1)).put (some 10) (sv2))).eval (.tmp 7) = sv1 := (by (repeat (first | rw [eval_same _ _ (by (try simp only [put_size]); omega)] | rw [eval_far _ _ (by decide)])))
  have x5_1 : ((((((a0.put (some 6) (rv)).put (some 8) (.pointer (some ⟨b, 2, none⟩))).put (some 9) (bv)).put (some 7) (sv1)).put (some 10) (sv2))).eval (.tmp 10) = sv2 := (by (repeat (first | rw [eval_same _ _ (by (try simp only [put_size]); omega)] | rw [eval_far _ _ (by decide)])))
  refine wpOp_callG ho (wantedN hg) (run_callV 19 Tryz.func19 (by kernel_rfl) (by kernel_rfl) #[.tmp 7, .tmp 10] _ hop #[sv1, sv2] (by simp only [List.map_toArray, List.map_cons, List.map_nil, x5_0, x5_1])) ?_
  refine (C3).mono ?_
  rintro e u3 ⟨rfl, hS3⟩
  have hS5 := keep _ _ hS4 hS3
  refine ⟨_, rfl, hS5, ?_⟩
  rw [hd]
  clear ho hg hop hd
  rw [← LR_snoc]
  obtain ⟨o6, ho, hg, hop, hd⟩ := isOpG_out q6
  have hfr := hall ([0, 2, 3, 1, 4, 5], 6) (by simp)
  refine wpAnyH_take (listed := LR 7 [0, 2, 3, 1, 4, 5]) (v := .bool (!bb)) ho hs hfr.1 hfr.2 (hQ _ _) (Or.inl ⟨(wantedN hg), fun w' hS => run_notV (b := bb) _ _ hop w' (by (repeat (first | rw [eval_same _ _ (by (try simp only [put_size]); omega)] | rw [eval_far _ _ (by decide)])))⟩) hS5 ?_
  rw [hd, ← LR_snoc]
  clear ho hg hop hd hfr
  exact wpAnyH_done rend (F _ sv1 sv2 hS5) _
def ckmakesA_takes : List (List Nat × Nat) := [([], 0), ([0, 1], 2), ([0, 1, 2], 3), ([0, 1, 2, 3], 4), ([0, 1, 2, 3, 4], 5), ([0, 1, 2, 3, 4, 5], 6), ([0, 1, 2, 3, 4, 5, 6], 7), ([0, 1, 2, 3, 4, 5, 6, 7], 8), ([0, 1, 2, 3, 4, 5, 6, 7, 8], 9), ([0, 1, 2, 3, 4, 5, 6, 7, 8, 9], 10), ([0, 1, 2, 3, 4, 5, 6, 7, 8, 9, 10], 11), ([0, 1, 2, 3, 4, 5, 6, 7, 8, 9, 10, 11], 13), ([0, 1, 2, 3, 4, 5, 6, 7, 8, 9, 10, 11, 13], 14), ([0, 1, 2, 3, 4, 5, 6, 7, 8, 9, 10, 11, 13, 14], 12), ([0, 1, 2, 3, 4, 5, 6, 7, 8, 9, 10, 11, 13, 14, 12], 15), ([0, 1, 2, 3, 4, 5, 6, 7, 8, 9, 10, 11, 13, 14, 12, 15], 16), ([0, 1, 2, 3, 4, 5, 6, 7, 8, 9, 10, 11, 13, 14, 12, 15, 16], 17), ([0, 1, 2, 3, 4, 5, 6, 7, 8, 9, 10, 11, 13, 14, 12, 15, 16, 17], 18), ([0, 1, 2, 3, 4, 5, 6, 7, 8, 9, 10, 11, 13, 14, 12, 15, 16, 17, 18], 19)]
set_option maxHeartbeats 3200000 in
theorem ckmakesA {ops : Array Oper} {Q : Exit → Act → World → Prop} {S : World → Prop} {a0 : Act} {w5 : World} {b hn hc : Nat} {ha : Option Addr} {rv bv : Value} {er : Int} {bb : Bool} {ty1 ty2 ty3 ty4 ty5 : Array TypeId}
    (q0 : isOpG ops 0 none (.load 25 (.tmp 1)) (some 3))
    (q1 : isOpG ops 1 none (.call { callee := .value (.func 6), args := #[.tmp 3], argTypes := ty1 }) (some 4))
    (q2 : isOpG ops 2 none (.binOp .eql 28 (.tmp 4) (.const (.int .i64 0)) 28) (some 5))
    (q3 : isOpG ops 3 none (.move (.tmp 5)) (some 6))
    (q4 : isOpG ops 4 (some (3, true)) (.fieldAddr 25 (.tmp 1) 2) (some 7))
    (q5 : isOpG ops 5 (some (3, true)) (.load 23 (.tmp 7)) (some 8))
    (q6 : isOpG ops 6 (some (3, true)) (.call { callee := .value (.func 22), args := #[.tmp 8, .func 23], argTypes := ty2 }) (some 9))
    (q7 : isOpG ops 7 none (.pick (.tmp 6) (.tmp 9) (.const (.bool false))) (some 10))
    (q8 : isOpG ops 8 none (.move (.tmp 10)) (some 11))
    (q9 : isOpG ops 9 (some (8, true)) (.fieldAddr 25 (.tmp 1) 1) (some 12))
    (q10 : isOpG ops 10 (some (8, true)) (.load 22 (.tmp 12)) (some 13))
    (q11 : isOpG ops 11 (some (8, true)) (.build 25 #[(1, .tmp 13)]) (some 14))
    (q13 : isOpG ops 13 (some (8, true)) (.fieldAddr 25 (.tmp 1) 2) (some 16))
    (q14 : isOpG ops 14 (some (8, true)) (.load 23 (.tmp 16)) (some 17))
    (q12 : isOpG ops 12 (some (8, true)) (.call { callee := .value (.func 16), args := #[.tmp 14], argTypes := ty3 }) (some 15))
    (q15 : isOpG ops 15 (some (8, true)) (.call { callee := .value (.func 24), args := #[.tmp 17], argTypes := ty4 }) (some 18))
    (q16 : isOpG ops 16 (some (8, true)) (.call { callee := .value (.func 15), args := #[.tmp 15, .tmp 18], argTypes := ty5 }) (some 19))
    (q17 : isOpG ops 17 (some (8, true)) (.unOp .not 4 (.tmp 19)) (some 20))
    (q18 : isOpG ops 18 none (.pick (.tmp 11) (.tmp 20) (.const (.bool false))) (some 21))
    (q19 : isOpG ops 19 none (.assign (.tmp 21)) (some 2))
    (hs : Region.noSelect ops = true) (hq : (ckmakesA_takes.all fun p => Region.free .any ops (LR 20 p.1) p.2 && (Region.ready .any ops (LR 20 p.1)).contains p.2) = true)
    (r1 : Region.ready .any ops (LR 20 [0]) = [1])
    (rend : Region.ready .any ops (LR 20 [0, 1, 2, 3, 4, 5, 6, 7, 8, 9, 10, 11, 13, 14, 12, 15, 16, 17, 18, 19]) = [])
    (hQ : ∀ (d : Option Tmp) (v : Value) c a w, Q (.panic c) (a.put d v) w → Q (.panic c) a w)
    (hsz : 21 < a0.tmps.size) (e1 : a0.eval (.tmp 1) = .pointer (some ⟨b, 0, none⟩))
    (hS0 : S w5.drew)
    (keep : ∀ u u', S u → S u' → S u') (LRU : ∀ u, S u → (loadVar 25 ⟨b, 0, none⟩).run Tryz.prog u = .ok rv u) (LBO : ∀ u, S u → (loadVar 23 ⟨b, 2, none⟩).run Tryz.prog u = .ok bv u) (LHD : ∀ u, S u → (loadVar 22 ⟨b, 1, none⟩).run Tryz.prog u = .ok (.slice ha hn hc) u) (EQ0 : ∀ u, (binOp .eql 28 (.int .i64 er) (.int .i64 0)).run Tryz.prog u = .ok (.bool false) u)
    (C1 : Calls Tryz.prog 6 #[rv] w5.drew fun e u1 => e = .returned (.int .i64 er) ∧ S u1)
    (F : ∀ (wc : World), S wc → Q .normal ((((((((((((((((((((a0.put (some 3) (rv)).put (some 4) (.int .i64 er)).put (some 5) (.bool false)).put (some 6) (.bool false)).put (some 7) (undef)).put (some 8) (undef)).put (some 9) (undef)).put (some 10) (.bool false)).put (some 11) (.bool false)).put (some 12) (undef)).put (some 13) (undef)).put (some 14) (undef)).put (some 16) (undef)).put (some 17) (undef)).put (some 15) (undef)).put (some 18) (undef)).put (some 19) (undef)).put (some 20) (undef)).put (some 21) (.bool false)).put (some 2) (.bool false)) wc) :
    wpAnyH Tryz.prog .any ops Q S 20 (LR 20 []) a0 w5.drew := by
  have hall : ∀ p ∈ ckmakesA_takes, Region.free .any ops (LR 20 p.1) p.2 = true ∧ (Region.ready .any ops (LR 20 p.1)).contains p.2 = true := by
    intro p hp
    have := List.all_eq_true.1 hq p hp
    simpa using this
  unfold ckmakesA_takes at hall
  obtain ⟨og3, hog3, _, _, dog3⟩ := isOpG_out q3
  obtain ⟨og8, hog8, _, _, dog8⟩ := isOpG_out q8
  obtain ⟨o0, ho, hg, hop, hd⟩ := isOpG_out q0
  have hfr := hall ([], 0) (by simp)
  refine wpAnyH_take (listed := LR 20 []) (v := rv) ho hs hfr.1 hfr.2 (hQ _ _) (Or.inl ⟨(wantedN hg), fun w' hS => run_loadS _ _ hop w' (by (repeat rw [eval_far _ _ (by decide)]); exact e1) (LRU _ hS)⟩) hS0 ?_
  rw [hd, ← LR_snoc]
  clear ho hg hop hd hfr
  refine wpAnyH_all r1 (by simp) ?_
  intro i hi
  obtain rfl := List.mem_singleton.1 hi
  obtain ⟨o1, ho, hg, hop, hd⟩ := isOpG_out q1
  have x1_0 : ((a0.put (some 3) (rv))).eval (.tmp 3) = rv := (by (repeat (first | rw [eval_same _ _ (by (try simp only [put_size]); omega)] | rw [eval_far _ _ (by decide)])))
  refine wpOp_callG ho (wantedN hg) (run_callV 6 Tryz.func6 (by kernel_rfl) (by kernel_rfl) #[.tmp 3] _ hop #[rv] (by simp only [List.map_toArray, List.map_cons, List.map_nil, x1_0])) ?_
  refine (C1).mono ?_
  rintro e u1 ⟨rfl, hS1⟩
  have hS1 := keep _ _ hS0 hS1
  refine ⟨_, rfl, hS1, ?_⟩
  rw [hd]
  clear ho hg hop hd
  rw [← LR_snoc]
  obtain ⟨o2, ho, hg, hop, hd⟩ := isOpG_out q2
  have hfr := hall ([0, 1], 2) (by simp)
  refine wpAnyH_take (listed := LR 20 [0, 1]) (v := .bool false) ho hs hfr.1 hfr.2 (hQ _ _) (Or.inl ⟨(wantedN hg), fun w' hS => run_binV _ _ hop w' (by (repeat (first | rw [eval_same _ _ (by (try simp only [put_size]); omega)] | rw [eval_far _ _ (by decide)]))) rfl (by first | rfl | go_simp) (EQ0 w')⟩) hS1 ?_
  rw [hd, ← LR_snoc]
  clear ho hg hop hd hfr
  obtain ⟨o3, ho, hg, hop, hd⟩ := isOpG_out q3
  have hfr := hall ([0, 1, 2], 3) (by simp)
  refine wpAnyH_take (listed := LR 20 [0, 1, 2]) (v := .bool false) ho hs hfr.1 hfr.2 (hQ _ _) (Or.inl ⟨(wantedN hg), fun w' hS => run_move _ _ hop w' (by (repeat (first | rw [eval_same _ _ (by (try simp only [put_size]); omega)] | rw [eval_far _ _ (by decide)])))⟩) hS1 ?_
  rw [hd, ← LR_snoc]
  clear ho hg hop hd hfr
  obtain ⟨o4, ho, hg, hop, hd⟩ := isOpG_out q4
  have hfr := hall ([0, 1, 2, 3], 4) (by simp)
  refine wpAnyH_take (listed := LR 20 [0, 1, 2, 3]) (v := undef) ho hs hfr.1 hfr.2 (hQ _ _) (Or.inr ⟨((wantedB hog3 dog3 hg (by (repeat (first | rw [tmps_same _ _ (by (try simp only [put_size]); omega)] | rw [tmps_far _ _ (by decide)])))).trans (by decide)), rfl⟩) hS1 ?_
  rw [hd, ← LR_snoc]
  clear ho hg hop hd hfr
  obtain ⟨o5, ho, hg, hop, hd⟩ := isOpG_out q5
  have hfr := hall ([0, 1, 2, 3, 4], 5) (by simp)
  refine wpAnyH_take (listed := LR 20 [0, 1, 2, 3, 4]) (v := undef) ho hs hfr.1 hfr.2 (hQ _ _) (Or.inr ⟨((wantedB hog3 dog3 hg (by (repeat (first | rw [tmps_same _ _ (by (try simp only [put_size]); omega)] | rw [tmps_far _ _ (by decide)])))).trans (by decide)), rfl⟩) hS1 ?_
  rw [hd, ← LR_snoc]
  clear ho hg hop hd hfr
  obtain ⟨o6, ho, hg, hop, hd⟩ := isOpG_out q6
  have hfr := hall ([0, 1, 2, 3, 4, 5], 6) (by simp)
  refine wpAnyH_take (listed := LR 20 [0, 1, 2, 3, 4, 5]) (v := undef) ho hs hfr.1 hfr.2 (hQ _ _) (Or.inr ⟨((wantedB hog3 dog3 hg (by (repeat (first | rw [tmps_same _ _ (by (try simp only [put_size]); omega)] | rw [tmps_far _ _ (by decide)])))).trans (by decide)), rfl⟩) hS1 ?_
  rw [hd, ← LR_snoc]
  clear ho hg hop hd hfr
  obtain ⟨o7, ho, hg, hop, hd⟩ := isOpG_out q7
  have hfr := hall ([0, 1, 2, 3, 4, 5, 6], 7) (by simp)
  refine wpAnyH_take (listed := LR 20 [0, 1, 2, 3, 4, 5, 6]) (v := .bool false) ho hs hfr.1 hfr.2 (hQ _ _) (Or.inl ⟨(wantedN hg), fun w' hS => run_pickF _ _ hop w' (by (repeat (first | rw [eval_same _ _ (by (try simp only [put_size]); omega)] | rw [eval_far _ _ (by decide)]))) rfl⟩) hS1 ?_
  rw [hd, ← LR_snoc]
  clear ho hg hop hd hfr
  obtain ⟨o8, ho, hg, hop, hd⟩ := isOpG_out q8
  have hfr := hall ([0, 1, 2, 3, 4, 5, 6, 7], 8) (by simp)
  refine wpAnyH_take (listed := LR 20 [0, 1, 2, 3, 4, 5, 6, 7]) (v := .bool false) ho hs hfr.1 hfr.2 (hQ _ _) (Or.inl ⟨(wantedN hg), fun w' hS => run_move _ _ hop w' (by (repeat (first | rw [eval_same _ _ (by (try simp only [put_size]); omega)] | rw [eval_far _ _ (by decide)])))⟩) hS1 ?_
  rw [hd, ← LR_snoc]
  clear ho hg hop hd hfr
  obtain ⟨o9, ho, hg, hop, hd⟩ := isOpG_out q9
  have hfr := hall ([0, 1, 2, 3, 4, 5, 6, 7, 8], 9) (by simp)
  refine wpAnyH_take (listed := LR 20 [0, 1, 2, 3, 4, 5, 6, 7, 8]) (v := undef) ho hs hfr.1 hfr.2 (hQ _ _) (Or.inr ⟨((wantedB hog8 dog8 hg (by (repeat (first | rw [tmps_same _ _ (by (try simp only [put_size]); omega)] | rw [tmps_far _ _ (by decide)])))).trans (by decide)), rfl⟩) hS1 ?_
  rw [hd, ← LR_snoc]
  clear ho hg hop hd hfr
  obtain ⟨o10, ho, hg, hop, hd⟩ := isOpG_out q10
  have hfr := hall ([0, 1, 2, 3, 4, 5, 6, 7, 8, 9], 10) (by simp)
  refine wpAnyH_take (listed := LR 20 [0, 1, 2, 3, 4, 5, 6, 7, 8, 9]) (v := undef) ho hs hfr.1 hfr.2 (hQ _ _) (Or.inr ⟨((wantedB hog8 dog8 hg (by (repeat (first | rw [tmps_same _ _ (by (try simp only [put_size]); omega)] | rw [tmps_far _ _ (by decide)])))).trans (by decide)), rfl⟩) hS1 ?_
  rw [hd, ← LR_snoc]
  clear ho hg hop hd hfr
  obtain ⟨o11, ho, hg, hop, hd⟩ := isOpG_out q11
  have hfr := hall ([0, 1, 2, 3, 4, 5, 6, 7, 8, 9, 10], 11) (by simp)
  refine wpAnyH_take (listed := LR 20 [0, 1, 2, 3, 4, 5, 6, 7, 8, 9, 10]) (v := undef) ho hs hfr.1 hfr.2 (hQ _ _) (Or.inr ⟨((wantedB hog8 dog8 hg (by (repeat (first | rw [tmps_same _ _ (by (try simp only [put_size]); omega)] | rw [tmps_far _ _ (by decide)])))).trans (by decide)), rfl⟩) hS1 ?_
  rw [hd, ← LR_snoc]
  clear ho hg hop hd hfr
  obtain ⟨o13, ho, hg, hop, hd⟩ := isOpG_out q13
  have hfr := hall ([0, 1, 2, 3, 4, 5, 6, 7, 8, 9, 10, 11], 13) (by simp)
  refine wpAnyH_take (listed := LR 20 [0, 1, 2, 3, 4, 5, 6, 7, 8, 9, 10, 11]) (v := undef) ho hs hfr.1 hfr.2 (hQ _ _) (Or.inr ⟨((wantedB hog8 dog8 hg (by (repeat (first | rw [tmps_same _ _ (by (try simp only [put_size]); omega)] | rw [tmps_far _ _ (by decide)])))).trans (by decide)), rfl⟩) hS1 ?_
  rw [hd, ← LR_snoc]
  clear ho hg hop hd hfr
  obtain ⟨o14, ho, hg, hop, hd⟩ := isOpG_out q14
  have hfr := hall ([0, 1, 2, 3, 4, 5, 6, 7, 8, 9, 10, 11, 13], 14) (by simp)
  refine wpAnyH_take (listed := LR 20 [0, 1, 2, 3, 4, 5, 6, 7, 8, 9, 10, 11, 13]) (v := undef) ho hs hfr.1 hfr.2 (hQ _ _) (Or.inr ⟨((wantedB hog8 dog8 hg (by (repeat (first | rw [tmps_same _ _ (by (try simp only [put_size]); omega)] | rw [tmps_far _ _ (by decide)])))).trans (by decide)), rfl⟩) hS1 ?_
  rw [hd, ← LR_snoc]
  clear ho hg hop hd hfr
  obtain ⟨o12, ho, hg, hop, hd⟩ := isOpG_out q12
  have hfr := hall ([0, 1, 2, 3, 4, 5, 6, 7, 8, 9, 10, 11, 13, 14], 12) (by simp)
  refine wpAnyH_take (listed := LR 20 [0, 1, 2, 3, 4, 5, 6, 7, 8, 9, 10, 11, 13, 14]) (v := undef) ho hs hfr.1 hfr.2 (hQ _ _) (Or.inr ⟨((wantedB hog8 dog8 hg (by (repeat (first | rw [tmps_same _ _ (by (try simp only [put_size]); omega)] | rw [tmps_far _ _ (by decide)])))).trans (by decide)), rfl⟩) hS1 ?_
  rw [hd, ← LR_snoc]
  clear ho hg hop hd hfr
  obtain ⟨o15, ho, hg, hop, hd⟩ := isOpG_out q15
  have hfr := hall ([0, 1, 2, 3, 4, 5, 6, 7, 8, 9, 10, 11, 13, 14, 12], 15) (by simp)
  refine wpAnyH_take (listed := LR 20 [0, 1, 2, 3, 4, 5, 6, 7, 8, 9, 10, 11, 13, 14, 12]) (v := undef) ho hs hfr.1 hfr.2 (hQ _ _) (Or.inr ⟨((wantedB hog8 dog8 hg (by (repeat (first | rw [tmps_same _ _ (by (try simp only [put_size]); omega)] | rw [tmps_far _ _ (by decide)])))).trans (by decide)), rfl⟩) hS1 ?_
  rw [hd, ← LR_snoc]
  clear ho hg hop hd hfr
  obtain ⟨o16, ho, hg, hop, hd⟩ := isOpG_out q16
  have hfr := hall ([0, 1, 2, 3, 4, 5, 6, 7, 8, 9, 10, 11, 13, 14, 12, 15], 16) (by simp)
  refine wpAnyH_take (listed := LR 20 [0, 1, 2, 3, 4, 5, 6, 7, 8, 9, 10, 11, 13, 14, 12, 15]) (v := undef) ho hs hfr.1 hfr.2 (hQ _ _) (Or.inr ⟨((wantedB hog8 dog8 hg (by (repeat (first | rw [tmps_same _ _ (by (try simp only [put_size]); omega)] | rw [tmps_far _ _ (by decide)])))).trans (by decide)), rfl⟩) hS1 ?_
  rw [hd, ← LR_snoc]
  clear ho hg hop hd hfr
  obtain ⟨o17, ho, hg, hop, hd⟩ := isOpG_out q17
  have hfr := hall ([0, 1, 2, 3, 4, 5, 6, 7, 8, 9, 10, 11, 13, 14, 12, 15, 16], 17) (by simp)
  refine wpAnyH_take (listed := LR 20 [0, 1, 2, 3, 4, 5, 6, 7, 8, 9, 10, 11, 13, 14, 12, 15, 16]) (v := undef) ho hs hfr.1 hfr.2 (hQ _ _) (Or.inr ⟨((wantedB hog8 dog8 hg (by (repeat (first | rw [tmps_same _ _ (by (try simp only [put_size]); omega)] | rw [tmps_far _ _ (by decide)])))).trans (by decide)), rfl⟩) hS1 ?_
  rw [hd, ← LR_snoc]
  clear ho hg hop hd hfr
  obtain ⟨o18, ho, hg, hop, hd⟩ := isOpG_out q18
  have hfr := hall ([0, 1, 2, 3, 4, 5, 6, 7, 8, 9, 10, 11, 13, 14, 12, 15, 16, 17], 18) (by simp)
  refine wpAnyH_take (listed := LR 20 [0, 1, 2, 3, 4, 5, 6, 7, 8, 9, 10, 11, 13, 14, 12, 15, 16, 17]) (v := .bool false) ho hs hfr.1 hfr.2 (hQ _ _) (Or.inl ⟨(wantedN hg), fun w' hS => run_pickF _ _ hop w' (by (repeat (first | rw [eval_same _ _ (by (try simp only [put_size]); omega)] | rw [eval_far _ _ (by decide)]))) rfl⟩) hS1 ?_
  rw [hd, ← LR_snoc]
  clear ho hg hop hd hfr
  obtain ⟨o19, ho, hg, hop, hd⟩ := isOpG_out q19
  have hfr := hall ([0, 1, 2, 3, 4, 5, 6, 7, 8, 9, 10, 11, 13, 14, 12, 15, 16, 17, 18], 19) (by simp)
  refine wpAnyH_take (listed := LR 20 [0, 1, 2, 3, 4, 5, 6, 7, 8, 9, 10, 11, 13, 14, 12, 15, 16, 17, 18]) (v := .bool false) ho hs hfr.1 hfr.2 (hQ _ _) (Or.inl ⟨(wantedN hg), fun w' hS => run_assignV _ _ hop w' (by (repeat (first | rw [eval_same _ _ (by (try simp only [put_size]); omega)] | rw [eval_far _ _ (by decide)])))⟩) hS1 ?_
  rw [hd, ← LR_snoc]
  clear ho hg hop hd hfr
  exact wpAnyH_done rend (F _ hS1) _
def ckmakesB_takes : List (List Nat × Nat) := [([], 0), ([0, 1], 2), ([0, 1, 2], 3), ([0, 1, 2, 3], 4), ([0, 1, 2, 3, 4], 5), ([0, 1, 2, 3, 4, 5, 6], 7), ([0, 1, 2, 3, 4, 5, 6, 7], 8), ([0, 1, 2, 3, 4, 5, 6, 7, 8], 9), ([0, 1, 2, 3, 4, 5, 6, 7, 8, 9], 10), ([0, 1, 2, 3, 4, 5, 6, 7, 8, 9, 10], 11), ([0, 1, 2, 3, 4, 5, 6, 7, 8, 9, 10, 11], 13), ([0, 1, 2, 3, 4, 5, 6, 7, 8, 9, 10, 11, 13], 14), ([0, 1, 2, 3, 4, 5, 6, 7, 8, 9, 10, 11, 13, 14], 12), ([0, 1, 2, 3, 4, 5, 6, 7, 8, 9, 10, 11, 13, 14, 12], 15), ([0, 1, 2, 3, 4, 5, 6, 7, 8, 9, 10, 11, 13, 14, 12, 15], 16), ([0, 1, 2, 3, 4, 5, 6, 7, 8, 9, 10, 11, 13, 14, 12, 15, 16], 17), ([0, 1, 2, 3, 4, 5, 6, 7, 8, 9, 10, 11, 13, 14, 12, 15, 16, 17], 18), ([0, 1, 2, 3, 4, 5, 6, 7, 8, 9, 10, 11, 13, 14, 12, 15, 16, 17, 18], 19)]
set_option maxHeartbeats 3200000 in
theorem ckmakesB {ops : Array Oper} {Q : Exit → Act → World → Prop} {S : World → Prop} {a0 : Act} {w5 : World} {b hn hc : Nat} {ha : Option Addr} {rv bv : Value} {er : Int} {bb : Bool} {ty1 ty2 ty3 ty4 ty5 : Array TypeId}
    (q0 : isOpG ops 0 none (.load 25 (.tmp 1)) (some 3))
    (q1 : isOpG ops 1 none (.call { callee := .value (.func 6), args := #[.tmp 3], argTypes := ty1 }) (some 4))
    (q2 : isOpG ops 2 none (.binOp .eql 28 (.tmp 4) (.const (.int .i64 0)) 28) (some 5))
    (q3 : isOpG ops 3 none (.move (.tmp 5)) (some 6))
    (q4 : isOpG ops 4 (some (3, true)) (.fieldAddr 25 (.tmp 1) 2) (some 7))
    (q5 : isOpG ops 5 (some (3, true)) (.load 23 (.tmp 7)) (some 8))
    (q6 : isOpG ops 6 (some (3, true)) (.call { callee := .value (.func 22), args := #[.tmp 8, .func 23], argTypes := ty2 }) (some 9))
    (q7 : isOpG ops 7 none (.pick (.tmp 6) (.tmp 9) (.const (.bool false))) (some 10))
    (q8 : isOpG ops 8 none (.move (.tmp 10)) (some 11))
    (q9 : isOpG ops 9 (some (8, true)) (.fieldAddr 25 (.tmp 1) 1) (some 12))
    (q10 : isOpG ops 10 (some (8, true)) (.load 22 (.tmp 12)) (some 13))
    (q11 : isOpG ops 11 (some (8, true)) (.build 25 #[(1, .tmp 13)]) (some 14))
    (q13 : isOpG ops 13 (some (8, true)) (.fieldAddr 25 (.tmp 1) 2) (some 16))
    (q14 : isOpG ops 14 (some (8, true)) (.load 23 (.tmp 16)) (some 17))
    (q12 : isOpG ops 12 (some (8, true)) (.call { callee := .value (.func 16), args := #[.tmp 14], argTypes := ty3 }) (some 15))
    (q15 : isOpG ops 15 (some (8, true)) (.call { callee := .value (.func 24), args := #[.tmp 17], argTypes := ty4 }) (some 18))
    (q16 : isOpG ops 16 (some (8, true)) (.call { callee := .value (.func 15), args := #[.tmp 15, .tmp 18], argTypes := ty5 }) (some 19))
    (q17 : isOpG ops 17 (some (8, true)) (.unOp .not 4 (.tmp 19)) (some 20))
    (q18 : isOpG ops 18 none (.pick (.tmp 11) (.tmp 20) (.const (.bool false))) (some 21))
    (q19 : isOpG ops 19 none (.assign (.tmp 21)) (some 2))
    (hs : Region.noSelect ops = true) (hq : (ckmakesB_takes.all fun p => Region.free .any ops (LR 20 p.1) p.2 && (Region.ready .any ops (LR 20 p.1)).contains p.2) = true)
    (r1 : Region.ready .any ops (LR 20 [0]) = [1])
    (r6 : Region.ready .any ops (LR 20 [0, 1, 2, 3, 4, 5]) = [6])
    (rend : Region.ready .any ops (LR 20 [0, 1, 2, 3, 4, 5, 6, 7, 8, 9, 10, 11, 13, 14, 12, 15, 16, 17, 18, 19]) = [])
    (hQ : ∀ (d : Option Tmp) (v : Value) c a w, Q (.panic c) (a.put d v) w → Q (.panic c) a w)
    (hsz : 21 < a0.tmps.size) (e1 : a0.eval (.tmp 1) = .pointer (some ⟨b, 0, none⟩))
    (hS0 : S w5.drew)
    (keep : ∀ u u', S u → S u' → S u') (LRU : ∀ u, S u → (loadVar 25 ⟨b, 0, none⟩).run Tryz.prog u = .ok rv u) (LBO : ∀ u, S u → (loadVar 23 ⟨b, 2, none⟩).run Tryz.prog u = .ok bv u) (LHD : ∀ u, S u → (loadVar 22 ⟨b, 1, none⟩).run Tryz.prog u = .ok (.slice ha hn hc) u) (EQ0 : ∀ u, (binOp .eql 28 (.int .i64 er) (.int .i64 0)).run Tryz.prog u = .ok (.bool true) u)
    (C1 : Calls Tryz.prog 6 #[rv] w5.drew fun e u1 => e = .returned (.int .i64 er) ∧ S u1 ∧ Calls Tryz.prog 22 #[bv, .func (.func 23) #[] #[]] u1 fun e u2 => e = .returned (.bool false) ∧ S u2)
    (F : ∀ (wc : World), S wc → Q .normal ((((((((((((((((((((a0.put (some 3) (rv)).put (some 4) (.int .i64 er)).put (some 5) (.bool true)).put (some 6) (.bool true)).put (some 7) (.pointer (some ⟨b, 2, none⟩))).put (some 8) (bv)).put (some 9) (.bool false)).put (some 10) (.bool false)).put (some 11) (.bool false)).put (some 12) (undef)).put (some 13) (undef)).put (some 14) (undef)).put (some 16) (undef)).put (some 17) (undef)).put (some 15) (undef)).put (some 18) (undef)).put (some 19) (undef)).put (some 20) (undef)).put (some 21) (.bool false)).put (some 2) (.bool false)) wc) :
    wpAnyH Tryz.prog .any ops Q S 20 (LR 20 []) a0 w5.drew := by
  have hall : ∀ p ∈ ckmakesB_takes, Region.free .any ops (LR 20 p.1) p.2 = true ∧ (Region.ready .any ops (LR 20 p.1)).contains p.2 = true := by
    intro p hp
    have := List.all_eq_true.1 hq p hp
    simpa using this
  unfold ckmakesB_takes at hall
  obtain ⟨og3, hog3, _, _, dog3⟩ := isOpG_out q3
  obtain ⟨og8, hog8, _, _, dog8⟩ := isOpG_out q8
  obtain ⟨o0, ho, hg, hop, hd⟩ := isOpG_out q0
  have hfr := hall ([], 0) (by simp)
  refine wpAnyH_take (listed := LR 20 []) (v := rv) ho hs hfr.1 hfr.2 (hQ _ _) (Or.inl ⟨(wantedN hg), fun w' hS => run_loadS _ _ hop w' (by (repeat rw [eval_far _ _ (by decide)]); exact e1) (LRU _ hS)⟩) hS0 ?_
  rw [hd, ← LR_snoc]
  clear ho hg hop hd hfr
  refine wpAnyH_all r1 (by simp) ?_
  intro i hi
  obtain rfl := List.mem_singleton.1 hi
  obtain ⟨o1, ho, hg, hop, hd⟩ := isOpG_out q1
  have x1_0 : ((a0.put (some 3) (rv))).eval (.tmp 3) = rv := (by (repeat (first | rw [eval_same _ _ (by (try simp only [put_size]); omega)] | rw [eval_far _ _ (by decide)])))
  refine wpOp_callG ho (wantedN hg) (run_callV 6 Tryz.func6 (by kernel_rfl) (by kernel_rfl) #[.tmp 3] _ hop #[rv] (by simp only [List.map_toArray, List.map_cons, List.map_nil, x1_0])) ?_
  refine (C1).mono ?_
  rintro e u1 ⟨rfl, hS1, C2⟩
  have hS1 := keep _ _ hS0 hS1
  refine ⟨_, rfl, hS1, ?_⟩
  rw [hd]
  clear ho hg hop hd
  rw [← LR_snoc]
  obtain ⟨o2, ho, hg, hop, hd⟩ := isOpG_out q2
  have hfr := hall ([0, 1], 2) (by simp)
  refine wpAnyH_take (listed := LR 20 [0, 1]) (v := .bool true) ho hs hfr.1 hfr.2 (hQ _ _) (Or.inl ⟨(wantedN hg), fun w' hS => run_binV _ _ hop w' (by (repeat (first | rw [eval_same _ _ (by (try simp only [put_size]); omega)] | rw [eval_far _ _ (by decide)]))) rfl (by first | rfl | go_simp) (EQ0 w')⟩) hS1 ?_
  rw [hd, ← LR_snoc]
  clear ho hg hop hd hfr
  obtain ⟨o3, ho, hg, hop, hd⟩ := isOpG_out q3
  have hfr := hall ([0, 1, 2], 3) (by simp)
  refine wpAnyH_take (listed := LR 20 [0, 1, 2]) (v := .bool true) ho hs hfr.1 hfr.2 (hQ _ _) (Or.inl ⟨(wantedN hg), fun w' hS => run_move _ _ hop w' (by (repeat (first | rw [eval_same _ _ (by (try simp only [put_size]); omega)] | rw [eval_far _ _ (by decide)])))⟩) hS1 ?_
  rw [hd, ← LR_snoc]
  clear ho hg hop hd hfr
  obtain ⟨o4, ho, hg, hop, hd⟩ := isOpG_out q4
  have hfr := hall ([0, 1, 2, 3], 4) (by simp)
  refine wpAnyH_take (listed := LR 20 [0, 1, 2, 3]) (v := .pointer (some ⟨b, 2, none⟩)) ho hs hfr.1 hfr.2 (hQ _ _) (Or.inl ⟨((wantedB hog3 dog3 hg (by (repeat (first | rw [tmps_same _ _ (by (try simp only [put_size]); omega)] | rw [tmps_far _ _ (by decide)])))).trans (by decide)), fun w' hS => run_fldR2 _ _ hop w' (by (repeat rw [eval_far _ _ (by decide)]); exact e1)⟩) hS1 ?_
  rw [hd, ← LR_snoc]
  clear ho hg hop hd hfr
  obtain ⟨o5, ho, hg, hop, hd⟩ := isOpG_out q5
  have hfr := hall ([0, 1, 2, 3, 4], 5) (by simp)
  refine wpAnyH_take (listed := LR 20 [0, 1, 2, 3, 4]) (v := bv) ho hs hfr.1 hfr.2 (hQ _ _) (Or.inl ⟨((wantedB hog3 dog3 hg (by (repeat (first | rw [tmps_same _ _ (by (try simp only [put_size]); omega)] | rw [tmps_far _ _ (by decide)])))).trans (by decide)), fun w' hS => run_loadS _ _ hop w' (by (repeat (first | rw [eval_same _ _ (by (try simp only [put_size]); omega)] | rw [eval_far _ _ (by decide)]))) (LBO _ hS)⟩) hS1 ?_
  rw [hd, ← LR_snoc]
  clear ho hg hop hd hfr
  refine wpAnyH_all r6 (by simp) ?_
  intro i hi
  obtain rfl := List.mem_singleton.1 hi
  obtain ⟨o6, ho, hg, hop, hd⟩ := isOpG_out q6
  have x6_0 : (((((((a0.put (some 3) (rv)).put (some 4) (.int .i64 er)).put (some 5) (.bool true)).put (some 6) (.bool true)).put (some 7) (.pointer (some ⟨b, 2, none⟩))).put (some 8) (bv))).eval (.tmp 8) = bv := (by (repeat (first | rw [eval_same _ _ (by (try simp only [put_size]); omega)] | rw [eval_far _ _ (by decide)])))
  have x6_1 : (((((((a0.put (some 3) (rv)).put (some 4) (.int .i64 er)).put (some 5) (.bool true)).put (some 6) (.bool true)).put (some 7) (.pointer (some ⟨b, 2, none⟩))).put (some 8) (bv))).eval (.func 23) = .func (.func 23) #[] #[] := rfl
  refine wpOp_callG ho ((wantedB hog3 dog3 hg (by (repeat (first | rw [tmps_same _ _ (by (try simp only [put_size]); omega)] | rw [tmps_far _ _ (by decide)])))).trans (by decide)) (run_callV 22 Tryz.func22 (by kernel_rfl) (by kernel_rfl) #[.tmp 8, .func 23] _ hop #[bv, .func (.func 23) #[] #[]] (by simp only [List.map_toArray, List.map_cons, List.map_nil, x6_0, x6_1])) ?_
  refine (C2).mono ?_
  rintro e u2 ⟨rfl, hS2⟩
  have hS6 := keep _ _ hS1 hS2
  refine ⟨_, rfl, hS6, ?_⟩
  rw [hd]
  clear ho hg hop hd
  rw [← LR_snoc]
  obtain ⟨o7, ho, hg, hop, hd⟩ := isOpG_out q7
  have hfr := hall ([0, 1, 2, 3, 4, 5, 6], 7) (by simp)
  refine wpAnyH_take (listed := LR 20 [0, 1, 2, 3, 4, 5, 6]) (v := .bool false) ho hs hfr.1 hfr.2 (hQ _ _) (Or.inl ⟨(wantedN hg), fun w' hS => run_pickT _ _ hop w' (by (repeat (first | rw [eval_same _ _ (by (try simp only [put_size]); omega)] | rw [eval_far _ _ (by decide)]))) (by (repeat (first | rw [eval_same _ _ (by (try simp only [put_size]); omega)] | rw [eval_far _ _ (by decide)])))⟩) hS6 ?_
  rw [hd, ← LR_snoc]
  clear ho hg hop hd hfr
  obtain ⟨o8, ho, hg, hop, hd⟩ := isOpG_out q8
  have hfr := hall ([0, 1, 2, 3, 4, 5, 6, 7], 8) (by simp)
  refine wpAnyH_take (listed := LR 20 [0, 1, 2, 3, 4, 5, 6, 7]) (v := .bool false) ho hs hfr.1 hfr.2 (hQ _ _) (Or.inl ⟨(wantedN hg), fun w' hS => run_move _ _ hop w' (by (repeat (first | rw [eval_same _ _ (by (try simp only [put_size]); omega)] | rw [eval_far _ _ (by decide)])))⟩) hS6 ?_
  rw [hd, ← LR_snoc]
  clear ho hg hop hd hfr
  obtain ⟨o9, ho, hg, hop, hd⟩ := isOpG_out q9
  have hfr := hall ([0, 1, 2, 3, 4, 5, 6, 7, 8], 9) (by simp)
  refine wpAnyH_take (listed := LR 20 [0, 1, 2, 3, 4, 5, 6, 7, 8]) (v := undef) ho hs hfr.1 hfr.2 (hQ _ _) (Or.inr ⟨((wantedB hog8 dog8 hg (by (repeat (first | rw [tmps_same _ _ (by (try simp only [put_size]); omega)] | rw [tmps_far _ _ (by decide)])))).trans (by decide)), rfl⟩) hS6 ?_
  rw [hd, ← LR_snoc]
  clear ho hg hop hd hfr
  obtain ⟨o10, ho, hg, hop, hd⟩ := isOpG_out q10
  have hfr := hall ([0, 1, 2, 3, 4, 5, 6, 7, 8, 9], 10) (by simp)
  refine wpAnyH_take (listed := LR 20 [0, 1, 2, 3, 4, 5, 6, 7, 8, 9]) (v := undef) ho hs hfr.1 hfr.2 (hQ _ _) (Or.inr ⟨((wantedB hog8 dog8 hg (by (repeat (first | rw [tmps_same _ _ (by (try simp only [put_size]); omega)] | rw [tmps_far _ _ (by decide)])))).trans (by decide)), rfl⟩) hS6 ?_
  rw [hd, ← LR_snoc]
  clear ho hg hop hd hfr
  obtain ⟨o11, ho, hg, hop, hd⟩ := isOpG_out q11
  have hfr := hall ([0, 1, 2, 3, 4, 5, 6, 7, 8, 9, 10], 11) (by simp)
  refine wpAnyH_take (listed := LR 20 [0, 1, 2, 3, 4, 5, 6, 7, 8, 9, 10]) (v := undef) ho hs hfr.1 hfr.2 (hQ _ _) (Or.inr ⟨((wantedB hog8 dog8 hg (by (repeat (first | rw [tmps_same _ _ (by (try simp only [put_size]); omega)] | rw [tmps_far _ _ (by decide)])))).trans (by decide)), rfl⟩) hS6 ?_
  rw [hd, ← LR_snoc]
  clear ho hg hop hd hfr
  obtain ⟨o13, ho, hg, hop, hd⟩ := isOpG_out q13
  have hfr := hall ([0, 1, 2, 3, 4, 5, 6, 7, 8, 9, 10, 11], 13) (by simp)
  refine wpAnyH_take (listed := LR 20 [0, 1, 2, 3, 4, 5, 6, 7, 8, 9, 10, 11]) (v := undef) ho hs hfr.1 hfr.2 (hQ _ _) (Or.inr ⟨((wantedB hog8 dog8 hg (by (repeat (first | rw [tmps_same _ _ (by (try simp only [put_size]); omega)] | rw [tmps_far _ _ (by decide)])))).trans (by decide)), rfl⟩) hS6 ?_
  rw [hd, ← LR_snoc]
  clear ho hg hop hd hfr
  obtain ⟨o14, ho, hg, hop, hd⟩ := isOpG_out q14
  have hfr := hall ([0, 1, 2, 3, 4, 5, 6, 7, 8, 9, 10, 11, 13], 14) (by simp)
  refine wpAnyH_take (listed := LR 20 [0, 1, 2, 3, 4, 5, 6, 7, 8, 9, 10, 11, 13]) (v := undef) ho hs hfr.1 hfr.2 (hQ _ _) (Or.inr ⟨((wantedB hog8 dog8 hg (by (repeat (first | rw [tmps_same _ _ (by (try simp only [put_size]); omega)] | rw [tmps_far _ _ (by decide)])))).trans (by decide)), rfl⟩) hS6 ?_
  rw [hd, ← LR_snoc]
  clear ho hg hop hd hfr
  obtain ⟨o12, ho, hg, hop, hd⟩ := isOpG_out q12
  have hfr := hall ([0, 1, 2, 3, 4, 5, 6, 7, 8, 9, 10, 11, 13, 14], 12) (by simp)
  refine wpAnyH_take (listed := LR 20 [0, 1, 2, 3, 4, 5, 6, 7, 8, 9, 10, 11, 13, 14]) (v := undef) ho hs hfr.1 hfr.2 (hQ _ _) (Or.inr ⟨((wantedB hog8 dog8 hg (by (repeat (first | rw [tmps_same _ _ (by (try simp only [put_size]); omega)] | rw [tmps_far _ _ (by decide)])))).trans (by decide)), rfl⟩) hS6 ?_
  rw [hd, ← LR_snoc]
  clear ho hg hop hd hfr
  obtain ⟨o15, ho, hg, hop, hd⟩ := isOpG_out q15
  have hfr := hall ([0, 1, 2, 3, 4, 5, 6, 7, 8, 9, 10, 11, 13, 14, 12], 15) (by simp)
  refine wpAnyH_take (listed := LR 20 [0, 1, 2, 3, 4, 5, 6, 7, 8, 9, 10, 11, 13, 14, 12]) (v := undef) ho hs hfr.1 hfr.2 (hQ _ _) (Or.inr ⟨((wantedB hog8 dog8 hg (by (repeat (first | rw [tmps_same _ _ (by (try simp only [put_size]); omega)] | rw [tmps_far _ _ (by decide)])))).trans (by decide)), rfl⟩) hS6 ?_
  rw [hd, ← LR_snoc]
  clear ho hg hop hd hfr
  obtain ⟨o16, ho, hg, hop, hd⟩ := isOpG_out q16
  have hfr := hall ([0, 1, 2, 3, 4, 5, 6, 7, 8, 9, 10, 11, 13, 14, 12, 15], 16) (by simp)
  refine wpAnyH_take (listed := LR 20 [0, 1, 2, 3, 4, 5, 6, 7, 8, 9, 10, 11, 13, 14, 12, 15]) (v := undef) ho hs hfr.1 hfr.2 (hQ _ _) (Or.inr ⟨((wantedB hog8 dog8 hg (by (repeat (first | rw [tmps_same _ _ (by (try simp only [put_size]); omega)] | rw [tmps_far _ _ (by decide)])))).trans (by decide)), rfl⟩) hS6 ?_
  rw [hd, ← LR_snoc]
  clear ho hg hop hd hfr
  obtain ⟨o17, ho, hg, hop, hd⟩ := isOpG_out q17
  have hfr := hall ([0, 1, 2, 3, 4, 5, 6, 7, 8, 9, 10, 11, 13, 14, 12, 15, 16], 17) (by simp)
  refine wpAnyH_take (listed := LR 20 [0, 1, 2, 3, 4, 5, 6, 7, 8, 9, 10, 11, 13, 14, 12, 15, 16]) (v := undef) ho hs hfr.1 hfr.2 (hQ _ _) (Or.inr ⟨((wantedB hog8 dog8 hg (by (repeat (first | rw [tmps_same _ _ (by (try simp only [put_size]); omega)] | rw [tmps_far _ _ (by decide)])))).trans (by decide)), rfl⟩) hS6 ?_
  rw [hd, ← LR_snoc]
  clear ho hg hop hd hfr
  obtain ⟨o18, ho, hg, hop, hd⟩ := isOpG_out q18
  have hfr := hall ([0, 1, 2, 3, 4, 5, 6, 7, 8, 9, 10, 11, 13, 14, 12, 15, 16, 17], 18) (by simp)
  refine wpAnyH_take (listed := LR 20 [0, 1, 2, 3, 4, 5, 6, 7, 8, 9, 10, 11, 13, 14, 12, 15, 16, 17]) (v := .bool false) ho hs hfr.1 hfr.2 (hQ _ _) (Or.inl ⟨(wantedN hg), fun w' hS => run_pickF _ _ hop w' (by (repeat (first | rw [eval_same _ _ (by (try simp only [put_size]); omega)] | rw [eval_far _ _ (by decide)]))) rfl⟩) hS6 ?_
  rw [hd, ← LR_snoc]
  clear ho hg hop hd hfr
  obtain ⟨o19, ho, hg, hop, hd⟩ := isOpG_out q19
  have hfr := hall ([0, 1, 2, 3, 4, 5, 6, 7, 8, 9, 10, 11, 13, 14, 12, 15, 16, 17, 18], 19) (by simp)
  refine wpAnyH_take (listed := LR 20 [0, 1, 2, 3, 4, 5, 6, 7, 8, 9, 10, 11, 13, 14, 12, 15, 16, 17, 18]) (v := .bool false) ho hs hfr.1 hfr.2 (hQ _ _) (Or.inl ⟨(wantedN hg), fun w' hS => run_assignV _ _ hop w' (by (repeat (first | rw [eval_same _ _ (by (try simp only [put_size]); omega)] | rw [eval_far _ _ (by decide)])))⟩) hS6 ?_
  rw [hd, ← LR_snoc]
  clear ho hg hop hd hfr
  exact wpAnyH_done rend (F _ hS6) _
def ckmakesC_takes : List (List Nat × Nat) := [([], 0), ([0, 1], 2), ([0, 1, 2], 3), ([0, 1, 2, 3], 4), ([0, 1, 2, 3, 4], 5), ([0, 1, 2, 3, 4, 5, 6], 7), ([0, 1, 2, 3, 4, 5, 6, 7], 8), ([0, 1, 2, 3, 4, 5, 6, 7, 8], 9), ([0, 1, 2, 3, 4, 5, 6, 7, 8, 9], 10), ([0, 1, 2, 3, 4, 5, 6, 7, 8, 9, 10], 11), ([0, 1, 2, 3, 4, 5, 6, 7, 8, 9, 10, 11], 13), ([0, 1, 2, 3, 4, 5, 6, 7, 8, 9, 10, 11, 13], 14), ([0, 1, 2, 3, 4, 5, 6, 7, 8, 9, 10, 11, 13, 14, 12, 15, 16], 17), ([0, 1, 2, 3, 4, 5, 6, 7, 8, 9, 10, 11, 13, 14, 12, 15, 16, 17], 18), ([0, 1, 2, 3, 4, 5, 6, 7, 8, 9, 10, 11, 13, 14, 12, 15, 16, 17, 18], 19)]
set_option maxHeartbeats 3200000 in
theorem ckmakesC {ops : Array Oper} {Q : Exit → Act → World → Prop} {S : World → Prop} {a0 : Act} {w5 : World} {b hn hc : Nat} {ha : Option Addr} {rv bv : Value} {er : Int} {bb : Bool} {ty1 ty2 ty3 ty4 ty5 : Array TypeId}
    (q0 : isOpG ops 0 none (.load 25 (.tmp 1)) (some 3))
    (q1 : isOpG ops 1 none (.call { callee := .value (.func 6), args := #[.tmp 3], argTypes := ty1 }) (some 4))
    (q2 : isOpG ops 2 none (.binOp .eql 28 (.tmp 4) (.const (.int .i64 0)) 28) (some 5))
    (q3 : isOpG ops 3 none (.move (.tmp 5)) (some 6))
    (q4 : isOpG ops 4 (some (3, true)) (.fieldAddr 25 (.tmp 1) 2) (some 7))
    (q5 : isOpG ops 5 (some (3, true)) (.load 23 (.tmp 7)) (some 8))
    (q6 : isOpG ops 6 (some (3, true)) (.call { callee := .value (.func 22), args := #[.tmp 8, .func 23], argTypes := ty2 }) (some 9))
    (q7 : isOpG ops 7 none (.pick (.tmp 6) (.tmp 9) (.const (.bool false))) (some 10))
    (q8 : isOpG ops 8 none (.move (.tmp 10)) (some 11))
    (q9 : isOpG ops 9 (some (8, true)) (.fieldAddr 25 (.tmp 1) 1) (some 12))
    (q10 : isOpG ops 10 (some (8, true)) (.load 22 (.tmp 12)) (some 13))
    (q11 : isOpG ops 11 (some (8, true)) (.build 25 #[(1, .tmp 13)]) (some 14))
    (q13 : isOpG ops 13 (some (8, true)) (.fieldAddr 25 (.tmp 1) 2) (some 16))
    (q14 : isOpG ops 14 (some (8, true)) (.load 23 (.tmp 16)) (some 17))
    (q12 : isOpG ops 12 (some (8, true)) (.call { callee := .value (.func 16), args := #[.tmp 14], argTypes := ty3 }) (some 15))
    (q15 : isOpG ops 15 (some (8, true)) (.call { callee := .value (.func 24), args := #[.tmp 17], argTypes := ty4 }) (some 18))
    (q16 : isOpG ops 16 (some (8, true)) (.call { callee := .value (.func 15), args := #[.tmp 15, .tmp 18], argTypes := ty5 }) (some 19))
    (q17 : isOpG ops 17 (some (8, true)) (.unOp .not 4 (.tmp 19)) (some 20))
    (q18 : isOpG ops 18 none (.pick (.tmp 11) (.tmp 20) (.const (.bool false))) (some 21))
    (q19 : isOpG ops 19 none (.assign (.tmp 21)) (some 2))
    (hs : Region.noSelect ops = true) (hq : (ckmakesC_takes.all fun p => Region.free .any ops (LR 20 p.1) p.2 && (Region.ready .any ops (LR 20 p.1)).contains p.2) = true)
    (r1 : Region.ready .any ops (LR 20 [0]) = [1])
    (r6 : Region.ready .any ops (LR 20 [0, 1, 2, 3, 4, 5]) = [6])
    (r12 : Region.ready .any ops (LR 20 [0, 1, 2, 3, 4, 5, 6, 7, 8, 9, 10, 11, 13, 14]) = [12])
    (r15 : Region.ready .any ops (LR 20 [0, 1, 2, 3, 4, 5, 6, 7, 8, 9, 10, 11, 13, 14, 12]) = [15])
    (r16 : Region.ready .any ops (LR 20 [0, 1, 2, 3, 4, 5, 6, 7, 8, 9, 10, 11, 13, 14, 12, 15]) = [16])
    (rend : Region.ready .any ops (LR 20 [0, 1, 2, 3, 4, 5, 6, 7, 8, 9, 10, 11, 13, 14, 12, 15, 16, 17, 18, 19]) = [])
    (hQ : ∀ (d : Option Tmp) (v : Value) c a w, Q (.panic c) (a.put d v) w → Q (.panic c) a w)
    (hsz : 21 < a0.tmps.size) (e1 : a0.eval (.tmp 1) = .pointer (some ⟨b, 0, none⟩))
    (hS0 : S w5.drew)
    (keep : ∀ u u', S u → S u' → S u') (LRU : ∀ u, S u → (loadVar 25 ⟨b, 0, none⟩).run Tryz.prog u = .ok rv u) (LBO : ∀ u, S u → (loadVar 23 ⟨b, 2, none⟩).run Tryz.prog u = .ok bv u) (LHD : ∀ u, S u → (loadVar 22 ⟨b, 1, none⟩).run Tryz.prog u = .ok (.slice ha hn hc) u) (EQ0 : ∀ u, (binOp .eql 28 (.int .i64 er) (.int .i64 0)).run Tryz.prog u = .ok (.bool true) u)
    (C1 : Calls Tryz.prog 6 #[rv] w5.drew fun e u1 => e = .returned (.int .i64 er) ∧ S u1 ∧ Calls Tryz.prog 22 #[bv, .func (.func 23) #[] #[]] u1 fun e u2 => e = .returned (.bool true) ∧ S u2 ∧ Calls Tryz.prog 16 #[.agg #[.string ⟨#[]⟩, .slice ha hn hc, .slice none 0 0]] u2 fun e u3 => ∃ sv1, e = .returned sv1 ∧ S u3 ∧ Calls Tryz.prog 24 #[bv] u3 fun e u4 => ∃ sv2, e = .returned sv2 ∧ S u4 ∧ Calls Tryz.prog 15 #[sv1, sv2] u4 fun e u5 => e = .returned (.bool bb) ∧ S u5)
    (F : ∀ (wc : World) (sv1 sv2 : Value), S wc → Q .normal ((((((((((((((((((((a0.put (some 3) (rv)).put (some 4) (.int .i64 er)).put (some 5) (.bool true)).put (some 6) (.bool true)).put (some 7) (.pointer (some ⟨b, 2, none⟩))).put (some 8) (bv)).put (some 9) (.bool true)).put (some 10) (.bool true)).put (some 11) (.bool true)).put (some 12) (.pointer (some ⟨b, 1, none⟩))).put (some 13) (.slice ha hn hc)).put (some 14) (.agg #[.string ⟨#[]⟩, .slice ha hn hc, .slice none 0 0])).put (some 16) (.pointer (some ⟨b, 2, none⟩))).put (some 17) (bv)).put (some 15) (sv1)).put (some 18) (sv2)).put (some 19) (.bool bb)).put (some 20) (.bool (!bb))).put (some 21) (.bool (!bb))).put (some 2) (.bool (!bb))) wc) :
    wpAnyH Tryz.prog .any ops Q S 20 (LR 20 []) a0 w5.drew := by
  have hall : ∀ p ∈ ckmakesC_takes, Region.free .any ops (LR 20 p.1) p.2 = true ∧ (Region.ready .any ops (LR 20 p.1)).contains p.2 = true := by
    intro p hp
    have := List.all_eq_true.1 hq p hp
    simpa using this
  unfold ckmakesC_takes at hall
  obtain ⟨og3, hog3, _, _, dog3⟩ := isOpG_out q3
  obtain ⟨og8, hog8, _, _, dog8⟩ := isOpG_out q8
  obtain ⟨o0, ho, hg, hop, hd⟩ := isOpG_out q0
  have hfr := hall ([], 0) (by simp)
  refine wpAnyH_take (listed := LR 20 []) (v := rv) ho hs hfr.1 hfr.2 (hQ _ _) (Or.inl ⟨(wantedN hg), fun w' hS => run_loadS _ _ hop w' (by (repeat rw [eval_far _ _ (by decide)]); exact e1) (LRU _ hS)⟩) hS0 ?_
  rw [hd, ← LR_snoc]
  clear ho hg hop hd hfr
  refine wpAnyH_all r1 (by simp) ?_
  intro i hi
  obtain rfl := List.mem_singleton.1 hi
  obtain ⟨o1, ho, hg, hop, hd⟩ := isOpG_out q1
  have x1_0 : ((a0.put (some 3) (rv))).eval (.tmp 3) = rv := (by (repeat (first | rw [eval_same _ _ (by (try simp only [put_size]); omega)] | rw [eval_far _ _ (by decide)])))
  refine wpOp_callG ho (wantedN hg) (run_callV 6 Tryz.func6 (by kernel_rfl) (by kernel_rfl) #[.tmp 3] _ hop #[rv] (by simp only [List.map_toArray, List.map_cons, List.map_nil, x1_0])) ?_
  refine (C1).mono ?_
  rintro e u1 ⟨rfl, hS1, C2⟩
  have hS1 := keep _ _ hS0 hS1
  refine ⟨_, rfl, hS1, ?_⟩
  rw [hd]
  clear ho hg hop hd
  rw [← LR_snoc]
  obtain ⟨o2, ho, hg, hop, hd⟩ := isOpG_out q2
  have hfr := hall ([0, 1], 2) (by simp)
  refine wpAnyH_take (listed := LR 20 [0, 1]) (v := .bool true) ho hs hfr.1 hfr.2 (hQ _ _) (Or.inl ⟨(wantedN hg), fun w' hS => run_binV _ _ hop w' (by (repeat (first | rw [eval_same _ _ (by (try simp only [put_size]); omega)] | rw [eval_far _ _ (by decide)]))) rfl (by first | rfl | go_simp) (EQ0 w')⟩) hS1 ?_
  rw [hd, ← LR_snoc]
  clear ho hg hop hd hfr
  obtain ⟨o3, ho, hg, hop, hd⟩ := isOpG_out q3
  have hfr := hall ([0, 1, 2], 3) (by simp)
  refine wpAnyH_take (listed := LR 20 [0, 1, 2]) (v := .bool true) ho hs hfr.1 hfr.2 (hQ _ _) (Or.inl ⟨(wantedN hg), fun w' hS => run_move _ _ hop w' (by (repeat (first | rw [eval_same _ _ (by (try simp only [put_size]); omega)] | rw [eval_far _ _ (by decide)])))⟩) hS1 ?_
  rw [hd, ← LR_snoc]
  clear ho hg hop hd hfr
  obtain ⟨o4, ho, hg, hop, hd⟩ := isOpG_out q4
  have hfr := hall ([0, 1, 2, 3], 4) (by simp)
  refine wpAnyH_take (listed := LR 20 [0, 1, 2, 3]) (v := .pointer (some ⟨b, 2, none⟩)) ho hs hfr.1 hfr.2 (hQ _ _) (Or.inl ⟨((wantedB hog3 dog3 hg (by (repeat (first | rw [tmps_same _ _ (by (try simp only [put_size]); omega)] | rw [tmps_far _ _ (by decide)])))).trans (by decide)), fun w' hS => run_fldR2 _ _ hop w' (by (repeat rw [eval_far _ _ (by decide)]); exact e1)⟩) hS1 ?_
  rw [hd, ← LR_snoc]
  clear ho hg hop hd hfr
  obtain ⟨o5, ho, hg, hop, hd⟩ := isOpG_out q5
  have hfr := hall ([0, 1, 2, 3, 4], 5) (by simp)
  refine wpAnyH_take (listed := LR 20 [0, 1, 2, 3, 4]) (v := bv) ho hs hfr.1 hfr.2 (hQ _ _) (Or.inl ⟨((wantedB hog3 dog3 hg (by (repeat (first | rw [tmps_same _ _ (by (try simp only [put_size]); omega)] | rw [tmps_far _ _ (by decide)])))).trans (by decide)), fun w' hS => run_loadS _ _ hop w' (by (repeat (first | rw [eval_same _ _ (by (try simp only [put_size]); omega)] | rw [eval_far _ _ (by decide)]))) (LBO _ hS)⟩) hS1 ?_
  rw [hd, ← LR_snoc]
  clear ho hg hop hd hfr
  refine wpAnyH_all r6 (by simp) ?_
  intro i hi
  obtain rfl := List.mem_singleton.1 hi
  obtain ⟨o6, ho, hg, hop, hd⟩ := isOpG_out q6
  have x6_0 : (((((((a0.put (some 3) (rv)).put (some 4) (.int .i64 er)).put (some 5) (.bool true)).put (some 6) (.bool true)).put (some 7) (.pointer (some ⟨b, 2, none⟩))).put (some 8) (bv))).eval (.tmp 8) = bv := (by (repeat (first | rw [eval_same _ _ (by (try simp only [put_size]); omega)] | rw [eval_far _ _ (by decide)])))
  have x6_1 : (((((((a0.put (some 3) (rv)).put (some 4) (.int .i64 er)).put (some 5) (.bool true)).put (some 6) (.bool true)).put (some 7) (.pointer (some ⟨b, 2, none⟩))).put (some 8) (bv))).eval (.func 23) = .func (.func 23) #[] #[] := rfl
  refine wpOp_callG ho ((wantedB hog3 dog3 hg (by (repeat (first | rw [tmps_same _ _ (by (try simp only [put_size]); omega)] | rw [tmps_far _ _ (by decide)])))).trans (by decide)) (run_callV 22 Tryz.func22 (by kernel_rfl) (by kernel_rfl) #[.tmp 8, .func 23] _ hop #[bv, .func (.func 23) #[] #[]] (by simp only [List.map_toArray, List.map_cons, List.map_nil, x6_0, x6_1])) ?_
  refine (C2).mono ?_
  rintro e u2 ⟨rfl, hS2, C3⟩
  have hS6 := keep _ _ hS1 hS2
  refine ⟨_, rfl, hS6, ?_⟩
  rw [hd]
  clear ho hg hop hd
  rw [← LR_snoc]
  obtain ⟨o7, ho, hg, hop, hd⟩ := isOpG_out q7
  have hfr := hall ([0, 1, 2, 3, 4, 5, 6], 7) (by simp)
  refine wpAnyH_take (listed := LR 20 [0, 1, 2, 3, 4, 5, 6]) (v := .bool true) ho hs hfr.1 hfr.2 (hQ _ _) (Or.inl ⟨(wantedN hg), fun w' hS => run_pickT _ _ hop w' (by (repeat (first | rw [eval_same _ _ (by (try simp only [put_size]); omega)] | rw [eval_far _ _ (by decide)]))) (by (repeat (first | rw [eval_same _ _ (by (try simp only [put_size]); omega)] | rw [eval_far _ _ (by decide)])))⟩) hS6 ?_
  rw [hd, ← LR_snoc]
  clear ho hg hop hd hfr
  obtain ⟨o8, ho, hg, hop, hd⟩ := isOpG_out q8
  have hfr := hall ([0, 1, 2, 3, 4, 5, 6, 7], 8) (by simp)
  refine wpAnyH_take (listed := LR 20 [0, 1, 2, 3, 4, 5, 6, 7]) (v := .bool true) ho hs hfr.1 hfr.2 (hQ _ _) (Or.inl ⟨(wantedN hg), fun w' hS => run_move _ _ hop w' (by (repeat (first | rw [eval_same _ _ (by (try simp only [put_size]); omega)] | rw [eval_far _ _ (by decide)])))⟩) hS6 ?_
  rw [hd, ← LR_snoc]
  clear ho hg hop hd hfr
  obtain ⟨o9, ho, hg, hop, hd⟩ := isOpG_out q9
  have hfr := hall ([0, 1, 2, 3, 4, 5, 6, 7, 8], 9) (by simp)
  refine wpAnyH_take (listed := LR 20 [0, 1, 2, 3, 4, 5, 6, 7, 8]) (v := .pointer (some ⟨b, 1, none⟩)) ho hs hfr.1 hfr.2 (hQ _ _) (Or.inl ⟨((wantedB hog8 dog8 hg (by (repeat (first | rw [tmps_same _ _ (by (try simp only [put_size]); omega)] | rw [tmps_far _ _ (by decide)])))).trans (by decide)), fun w' hS => run_fldR1 _ _ hop w' (by (repeat rw [eval_far _ _ (by decide)]); exact e1)⟩) hS6 ?_
  rw [hd, ← LR_snoc]
  clear ho hg hop hd hfr
  obtain ⟨o10, ho, hg, hop, hd⟩ := isOpG_out q10
  have hfr := hall ([0, 1, 2, 3, 4, 5, 6, 7, 8, 9], 10) (by simp)
  refine wpAnyH_take (listed := LR 20 [0, 1, 2, 3, 4, 5, 6, 7, 8, 9]) (v := .slice ha hn hc) ho hs hfr.1 hfr.2 (hQ _ _) (Or.inl ⟨((wantedB hog8 dog8 hg (by (repeat (first | rw [tmps_same _ _ (by (try simp only [put_size]); omega)] | rw [tmps_far _ _ (by decide)])))).trans (by decide)), fun w' hS => run_loadS _ _ hop w' (by (repeat (first | rw [eval_same _ _ (by (try simp only [put_size]); omega)] | rw [eval_far _ _ (by decide)]))) (LHD _ hS)⟩) hS6 ?_
  rw [hd, ← LR_snoc]
  clear ho hg hop hd hfr
  obtain ⟨o11, ho, hg, hop, hd⟩ := isOpG_out q11
  have hfr := hall ([0, 1, 2, 3, 4, 5, 6, 7, 8, 9, 10], 11) (by simp)
  refine wpAnyH_take (listed := LR 20 [0, 1, 2, 3, 4, 5, 6, 7, 8, 9, 10]) (v := .agg #[.string ⟨#[]⟩, .slice ha hn hc, .slice none 0 0]) ho hs hfr.1 hfr.2 (hQ _ _) (Or.inl ⟨((wantedB hog8 dog8 hg (by (repeat (first | rw [tmps_same _ _ (by (try simp only [put_size]); omega)] | rw [tmps_far _ _ (by decide)])))).trans (by decide)), fun w' hS => run_buildR _ _ hop w' (by (repeat (first | rw [eval_same _ _ (by (try simp only [put_size]); omega)] | rw [eval_far _ _ (by decide)])))⟩) hS6 ?_
  rw [hd, ← LR_snoc]
  clear ho hg hop hd hfr
  obtain ⟨o13, ho, hg, hop, hd⟩ := isOpG_out q13
  have hfr := hall ([0, 1, 2, 3, 4, 5, 6, 7, 8, 9, 10, 11], 13) (by simp)
  refine wpAnyH_take (listed := LR 20 [0, 1, 2, 3, 4, 5, 6, 7, 8, 9, 10, 11]) (v := .pointer (some ⟨b, 2, none⟩)) ho hs hfr.1 hfr.2 (hQ _ _) (Or.inl ⟨((wantedB hog8 dog8 hg (by (repeat (first | rw [tmps_same _ _ (by (try simp only [put_size]); omega)] | rw [tmps_far _ _ (by decide)])))).trans (by decide)), fun w' hS => run_fldR2 _ _ hop w' (by (repeat rw [eval_far _ _ (by decide)]); exact e1)⟩) hS6 ?_
  rw [hd, ← LR_snoc]
  clear ho hg hop hd hfr
  obtain ⟨o14, ho, hg, hop, hd⟩ := isOpG_out q14
  have hfr := hall ([0, 1, 2, 3, 4, 5, 6, 7, 8, 9, 10, 11, 13], 14) (by simp)
  refine wpAnyH_take (listed := LR 20 [0, 1, 2, 3, 4, 5, 6, 7, 8, 9, 10, 11, 13]) (v := bv) ho hs hfr.1 hfr.2 (hQ _ _) (Or.inl ⟨((wantedB hog8 dog8 hg (by (repeat (first | rw [tmps_same _ _ (by (try simp only [put_size]); omega)] | rw [tmps_far _ _ (by decide)])))).trans (by decide)), fun w' hS => run_loadS _ _ hop w' (by (repeat (first | rw [eval_same _ _ (by (try simp only [put_size]); omega)] | rw [eval_far _ _ (by decide)]))) (LBO _ hS)⟩) hS6 ?_
  rw [hd, ← LR_snoc]
  clear ho hg hop hd hfr
  refine wpAnyH_all r12 (by simp) ?_
  intro i hi
  obtain rfl := List.mem_singleton.1 hi
  obtain ⟨o12, ho, hg, hop, hd⟩ := isOpG_out q12
  have x12_0 : (((((((((((((((a0.put (some 3) (rv)).put (some 4) (.int .i64 er)).put (some 5) (.bool true)).put (some 6) (.bool true)).put (some 7) (.pointer (some ⟨b, 2, none⟩))).put (some 8) (bv)).put (some 9) (.bool true)).put (some 10) (.bool true)).put (some 11) (.bool true)).put (some 12) (.pointer (some ⟨b, 1, none⟩))).put (some 13) (.slice ha hn hc)).put (some 14) (.agg #[.string ⟨#[]⟩, .slice ha hn hc, .slice none 0 0])).put (some 16) (.pointer (some ⟨b, 2, none⟩))).put (some 17) (bv))).eval (.tmp 14) = .agg #[.string ⟨#[]⟩, .slice ha hn hc, .slice none 0 0] := (by (repeat (first | rw [eval_same _ _ (by (try simp only [put_size]); omega)] | rw [eval_far _ _ (by decide)])))
  refine wpOp_callG ho ((wantedB hog8 dog8 hg (by (repeat (first | rw [tmps_same _ _ (by (try simp only [put_size]); omega)] | rw [tmps_far _ _ (by decide)])))).trans (by decide)) (run_callV 16 Tryz.func16 (by kernel_rfl) (by kernel_rfl) #[.tmp 14] _ hop #[.agg #[.string ⟨#[]⟩, .slice ha hn hc, .slice none 0 0]] (by simp only [List.map_toArray, List.map_cons, List.map_nil, x12_0])) ?_
  refine (C3).mono ?_
  rintro e u3 ⟨sv1, rfl, hS3, C4⟩
  have hS12 := keep _ _ hS6 hS3
  refine ⟨_, rfl, hS12, ?_⟩
  rw [hd]
  clear ho hg hop hd
  rw [← LR_snoc]
  refine wpAnyH_all r15 (by simp) ?_
  intro i hi
  obtain rfl := List.mem_singleton.1 hi
  obtain ⟨o15, ho, hg, hop, hd⟩ := isOpG_out q15
  have x15_0 : ((((((((((((((((a0.put (some 3) (rv)).put (some 4) (.int .i64 er)).put (some 5) (.bool true)).put (some 6) (.bool true)).put (some 7) (.pointer (some ⟨b, 2, none⟩))).put (some 8) (bv)).put (some 9) (.bool true)).put (some 10) (.bool true)).put (some 11) (.bool true)).put (some 12) (.pointer (some ⟨b, 1, none⟩))).put (some 13) (.slice ha hn hc)).put (some 14) (.agg #[.string ⟨#[]⟩, .slice ha hn hc, .slice none 0 0])).put (some 16) (.pointer (some ⟨b, 2, none⟩))).put (some 17) (bv)).put (some 15) (sv1))).eval (.tmp 17) = bv := (by (repeat (first | rw [eval_same _ _ (by (try simp only [put_size]); omega)] | rw [eval_far _ _ (by decide)])))
  refine wpOp_callG ho ((wantedB hog8 dog8 hg (by (repeat (first | rw [tmps_same _ _ (by (try simp only [put_size]); omega)] | rw [tmps_far _ _ (by decide)])))).trans (by decide)) (run_callV 24 Tryz.func24 (by kernel_rfl) (by kernel_rfl) #[.tmp 17] _ hop #[bv] (by simp only [List.map_toArray, List.map_cons, List.map_nil, x15_0])) ?_
  refine (C4).mono ?_
  rintro e u4 ⟨sv2, rfl, hS4, C5⟩
  have hS15 := keep _ _ hS12 hS4
  refine ⟨_, rfl, hS15, ?_⟩
  rw [hd]
  clear ho hg hop hd
  rw [← LR_snoc]
  refine wpAnyH_all r16 (by simp) ?_
  intro i hi
  obtain rfl := List.mem_singleton.1 hi
  obtain ⟨o16, ho, hg, hop, hd⟩ := isOpG_out q16
  have x16_0 : (((((((((((((((((a0.put (some 3) (rv)).put (some 4) (.int .i64 er)).put (some 5) (.bool true)).put (some 6) (.bool true)).put (some 7) (.pointer (some ⟨b, 2, none⟩))).put (some 8) (bv)).put (some 9) (.bool true)).put (some 10) (.bool true)).put (some 11) (.bool true)).put (some 12) (.pointer (some ⟨b, 1, none⟩))).put (some 13) (.slice ha hn hc)).put (some 14) (.agg #[.string ⟨#[]⟩, .slice ha hn hc, .slice none 0 0])).put (some 16) (.pointer (some ⟨b, 2, none⟩))).put (some 17) (bv)).put (some 15) (sv1)).put (some 18) (sv2))).eval (.tmp 15) = sv1 := (by (repeat (first | rw [eval_same _ _ (by (try simp only [put_size]); omega)] | rw [eval_far _ _ (by decide)])))
  have x16_1 : (((((((((((((((((a0.put (some 3) (rv)).put (some 4) (.int .i64 er)).put (some 5) (.bool true)).put (some 6) (.bool true)).put (some 7) (.pointer (some ⟨b, 2, none⟩))).put (some 8) (bv)).put (some 9) (.bool true)).put (some 10) (.bool true)).put (some 11) (.bool true)).put (some 12) (.pointer (some ⟨b, 1, none⟩))).put (some 13) (.slice ha hn hc)).put (some 14) (.agg #[.string ⟨#[]⟩, .slice ha hn hc, .slice none 0 0])).put (some 16) (.pointer (some ⟨b, 2, none⟩))).put (some 17) (bv)).put (some 15) (sv1)).put (some 18) (sv2))).eval (.tmp 18) = sv2 := (by (repeat (first | rw [eval_same _ _ (by (try simp only [put_size]); omega)] | rw [eval_far _ _ (by decide)])))
  refine wpOp_callG ho ((wantedB hog8 dog8 hg (by (repeat (first | rw [tmps_same _ _ (by (try simp only [put_size]); omega)] | rw [tmps_far _ _ (by decide)])))).trans (by decide)) (run_callV 15 Tryz.func15 (by kernel_rfl) (by kernel_rfl) #[.tmp 15, .tmp 18] _ hop #[sv1, sv2] (by simp only [List.map_toArray, List.map_cons, List.map_nil, x16_0, x16_1])) ?_
  refine (C5).mono ?_
  rintro e u5 ⟨rfl, hS5⟩
  have hS16 := keep _ _ hS15 hS5
  refine ⟨_, rfl, hS16, ?_⟩
  rw [hd]
  clear ho hg hop hd
  rw [← LR_snoc]
  obtain ⟨o17, ho, hg, hop, hd⟩ := isOpG_out q17
  have hfr := hall ([0, 1, 2, 3, 4, 5, 6, 7, 8, 9, 10, 11, 13, 14, 12, 15, 16], 17) (by simp)
  refine wpAnyH_take (listed := LR 20 [0, 1, 2, 3, 4, 5, 6, 7, 8, 9, 10, 11, 13, 14, 12, 15, 16]) (v := .bool (!bb)) ho hs hfr.1 hfr.2 (hQ _ _) (Or.inl ⟨((wantedB hog8 dog8 hg (by (repeat (first | rw [tmps_same _ _ (by (try simp only [put_size]); omega)] | rw [tmps_far _ _ (by decide)])))).trans (by decide)), fun w' hS => run_notV (b := bb) _ _ hop w' (by (repeat (first | rw [eval_same _ _ (by (try simp only [put_size]); omega)] | rw [eval_far _ _ (by decide)])))⟩) hS16 ?_
  rw [hd, ← LR_snoc]
  clear ho hg hop hd hfr
  obtain ⟨o18, ho, hg, hop, hd⟩ := isOpG_out q18
  have hfr := hall ([0, 1, 2, 3, 4, 5, 6, 7, 8, 9, 10, 11, 13, 14, 12, 15, 16, 17], 18) (by simp)
  refine wpAnyH_take (listed := LR 20 [0, 1, 2, 3, 4, 5, 6, 7, 8, 9, 10, 11, 13, 14, 12, 15, 16, 17]) (v := .bool (!bb)) ho hs hfr.1 hfr.2 (hQ _ _) (Or.inl ⟨(wantedN hg), fun w' hS => run_pickT _ _ hop w' (by (repeat (first | rw [eval_same _ _ (by (try simp only [put_size]); omega)] | rw [eval_far _ _ (by decide)]))) (by (repeat (first | rw [eval_same _ _ (by (try simp only [put_size]); omega)] | rw [eval_far _ _ (by decide)])))⟩) hS16 ?_
  rw [hd, ← LR_snoc]
  clear ho hg hop hd hfr
  obtain ⟨o19, ho, hg, hop, hd⟩ := isOpG_out q19
  have hfr := hall ([0, 1, 2, 3, 4, 5, 6, 7, 8, 9, 10, 11, 13, 14, 12, 15, 16, 17, 18], 19) (by simp)
  refine wpAnyH_take (listed := LR 20 [0, 1, 2, 3, 4, 5, 6, 7, 8, 9, 10, 11, 13, 14, 12, 15, 16, 17, 18]) (v := .bool (!bb)) ho hs hfr.1 hfr.2 (hQ _ _) (Or.inl ⟨(wantedN hg), fun w' hS => run_assignV _ _ hop w' (by (repeat (first | rw [eval_same _ _ (by (try simp only [put_size]); omega)] | rw [eval_far _ _ (by decide)])))⟩) hS16 ?_
  rw [hd, ← LR_snoc]
  clear ho hg hop hd hfr
  exact wpAnyH_done rend (F _ sv1 sv2 hS16) _
def rfmakesB_takes : List (List Nat × Nat) := [([], 0), ([0], 1), ([0, 1], 2), ([0, 1, 2], 3), ([0, 1, 2, 3], 4), ([0, 1, 2, 3, 4], 6), ([0, 1, 2, 3, 4, 6], 7), ([0, 1, 2, 3, 4, 6, 7], 5), ([0, 1, 2, 3, 4, 6, 7, 5], 8), ([0, 1, 2, 3, 4, 6, 7, 5, 8], 9), ([0, 1, 2, 3, 4, 6, 7, 5, 8, 9], 10), ([0, 1, 2, 3, 4, 6, 7, 5, 8, 9, 10], 11), ([0, 1, 2, 3, 4, 6, 7, 5, 8, 9, 10, 11], 12)]
set_option maxHeartbeats 3200000 in
theorem rfmakesB {ops : Array Oper} {Q : Exit → Act → World → Prop} {S : World → Prop} {a0 : Act} {w5 : World} {b hn hc : Nat} {ha : Option Addr} {bv : Value} {bb : Bool} {ty1 ty2 ty3 : Array TypeId}
    (q0 : isOpG ops 0 none (.move (.tmp 3)) (some 45))
    (q1 : isOpG ops 1 none (.move (.tmp 45)) (some 46))
    (q2 : isOpG ops 2 (some (1, true)) (.fieldAddr 25 (.tmp 1) 1) (some 47))
    (q3 : isOpG ops 3 (some (1, true)) (.load 22 (.tmp 47)) (some 48))
    (q4 : isOpG ops 4 (some (1, true)) (.build 25 #[(1, .tmp 48)]) (some 49))
    (q6 : isOpG ops 6 (some (1, true)) (.fieldAddr 25 (.tmp 1) 2) (some 51))
    (q7 : isOpG ops 7 (some (1, true)) (.load 23 (.tmp 51)) (some 52))
    (q5 : isOpG ops 5 (some (1, true)) (.call { callee := .value (.func 20), args := #[.tmp 49], argTypes := ty1 }) (some 50))
    (q8 : isOpG ops 8 (some (1, true)) (.call { callee := .value (.func 25), args := #[.tmp 52], argTypes := ty2 }) (some 53))
    (q9 : isOpG ops 9 (some (1, true)) (.call { callee := .value (.func 19), args := #[.tmp 50, .tmp 53], argTypes := ty3 }) (some 54))
    (q10 : isOpG ops 10 (some (1, true)) (.unOp .not 4 (.tmp 54)) (some 55))
    (q11 : isOpG ops 11 none (.pick (.tmp 46) (.tmp 55) (.const (.bool false))) (some 56))
    (q12 : isOpG ops 12 none (.assign (.tmp 56)) (some 2))
    (hs : Region.noSelect ops = true) (hq : (rfmakesB_takes.all fun p => Region.free .any ops (LR 13 p.1) p.2 && (Region.ready .any ops (LR 13 p.1)).contains p.2) = true)
    (rend : Region.ready .any ops (LR 13 [0, 1, 2, 3, 4, 6, 7, 5, 8, 9, 10, 11, 12]) = [])
    (hQ : ∀ (d : Option Tmp) (v : Value) c a w, Q (.panic c) (a.put d v) w → Q (.panic c) a w)
    (hsz : 56 < a0.tmps.size) (e1 : a0.eval (.tmp 1) = .pointer (some ⟨b, 0, none⟩)) (e3 : a0.eval (.tmp 3) = .bool false)
    (hS0 : S w5.drew)
    (keep : ∀ u u', S u → S u' → S u') (LBO : ∀ u, S u → (loadVar 23 ⟨b, 2, none⟩).run Tryz.prog u = .ok bv u) (LHD : ∀ u, S u → (loadVar 22 ⟨b, 1, none⟩).run Tryz.prog u = .ok (.slice ha hn hc) u)
    (F : ∀ (wc : World), S wc → Q .normal (((((((((((((a0.put (some 45) (.bool false)).put (some 46) (.bool false)).put (some 47) (undef)).put (some 48) (undef)).put (some 49) (undef)).put (some 51) (undef)).put (some 52) (undef)).put (some 50) (undef)).put (some 53) (undef)).put (some 54) (undef)).put (some 55) (undef)).put (some 56) (.bool false)).put (some 2) (.bool false)) wc) :
    wpAnyH Tryz.prog .any ops Q S 13 (LR 13 []) a0 w5.drew := by
  have hall : ∀ p ∈ rfmakesB_takes, Region.free .any ops (LR 13 p.1) p.2 = true ∧ (Region.ready .any ops (LR 13 p.1)).contains p.2 = true := by
    intro p hp
    have := List.all_eq_true.1 hq p hp
    simpa using this
  unfold rfmakesB_takes at hall
  obtain ⟨og1, hog1, _, _, dog1⟩ := isOpG_out q1
  obtain ⟨o0, ho, hg, hop, hd⟩ := isOpG_out q0
  have hfr := hall ([], 0) (by simp)
  refine wpAnyH_take (listed := LR 13 []) (v := .bool false) ho hs hfr.1 hfr.2 (hQ _ _) (Or.inl ⟨(wantedN hg), fun w' hS => run_move _ _ hop w' (by (repeat rw [eval_far _ _ (by decide)]); exact e3)⟩) hS0 ?_
  rw [hd, ← LR_snoc]
  clear ho hg hop hd hfr
  obtain ⟨o1, ho, hg, hop, hd⟩ := isOpG_out q1
  have hfr := hall ([0], 1) (by simp)
  refine wpAnyH_take (listed := LR 13 [0]) (v := .bool false) ho hs hfr.1 hfr.2 (hQ _ _) (Or.inl ⟨(wantedN hg), fun w' hS => run_move _ _ hop w' (by (repeat (first | rw [eval_same _ _ (by (try simp only [put_size]); omega)] | rw [eval_far _ _ (by decide)])))⟩) hS0 ?_
  rw [hd, ← LR_snoc]
  clear ho hg hop hd hfr
  obtain ⟨o2, ho, hg, hop, hd⟩ := isOpG_out q2
  have hfr := hall ([0, 1], 2) (by simp)
  refine wpAnyH_take (listed := LR 13 [0, 1]) (v := undef) ho hs hfr.1 hfr.2 (hQ _ _) (Or.inr ⟨((wantedB hog1 dog1 hg (by (repeat (first | rw [tmps_same _ _ (by (try simp only [put_size]); omega)] | rw [tmps_far _ _ (by decide)])))).trans (by decide)), rfl⟩) hS0 ?_
  rw [hd, ← LR_snoc]
  clear ho hg hop hd hfr
  obtain ⟨o3, ho, hg, hop, hd⟩ := isOpG_out q3
  have hfr := hall ([0, 1, 2], 3) (by simp)
  refine wpAnyH_take (listed := LR 13 [0, 1, 2]) (v := undef) ho hs hfr.1 hfr.2 (hQ _ _) (Or.inr ⟨((wantedB hog1 dog1 hg (by (repeat (first | rw [tmps_same _ _ (by (try simp only [put_size]); omega)] | rw [tmps_far _ _ (by decide)])))).trans (by decide)), rfl⟩) hS0 ?_
  rw [hd, ← LR_snoc]
  clear ho hg hop hd hfr
  obtain ⟨o4, ho, hg, hop, hd⟩ := isOpG_out q4
  have hfr := hall ([0, 1, 2, 3], 4) (by simp)
  refine wpAnyH_take (listed := LR 13 [0, 1, 2, 3]) (v := undef) ho hs hfr.1 hfr.2 (hQ _ _) (Or.inr ⟨((wantedB hog1 dog1 hg (by (repeat (first | rw [tmps_same _ _ (by (try simp only [put_size]); omega)] | rw [tmps_far _ _ (by decide)])))).trans (by decide)), rfl⟩) hS0 ?_
  rw [hd, ← LR_snoc]
  clear ho hg hop hd hfr
  obtain ⟨o6, ho, hg, hop, hd⟩ := isOpG_out q6
  have hfr := hall ([0, 1, 2, 3, 4], 6) (by simp)
  refine wpAnyH_take (listed := LR 13 [0, 1, 2, 3, 4]) (v := undef) ho hs hfr.1 hfr.2 (hQ _ _) (Or.inr ⟨((wantedB hog1 dog1 hg (by (repeat (first | rw [tmps_same _ _ (by (try simp only [put_size]); omega)] | rw [tmps_far _ _ (by decide)])))).trans (by decide)), rfl⟩) hS0 ?_
  rw [hd, ← LR_snoc]
  clear ho hg hop hd hfr
  obtain ⟨o7, ho, hg, hop, hd⟩ := isOpG_out q7
  have hfr := hall ([0, 1, 2, 3, 4, 6], 7) (by simp)
  refine wpAnyH_take (listed := LR 13 [0, 1, 2, 3, 4, 6]) (v := undef) ho hs hfr.1 hfr.2 (hQ _ _) (Or.inr ⟨((wantedB hog1 dog1 hg (by (repeat (first | rw [tmps_same _ _ (by (try simp only [put_size]); omega)] | rw [tmps_far _ _ (by decide)])))).trans (by decide)), rfl⟩) hS0 ?_
  rw [hd, ← LR_snoc]
  clear ho hg hop hd hfr
  obtain ⟨o5, ho, hg, hop, hd⟩ := isOpG_out q5
  have hfr := hall ([0, 1, 2, 3, 4, 6, 7], 5) (by simp)
  refine wpAnyH_take (listed := LR 13 [0, 1, 2, 3, 4, 6, 7]) (v := undef) ho hs hfr.1 hfr.2 (hQ _ _) (Or.inr ⟨((wantedB hog1 dog1 hg (by (repeat (first | rw [tmps_same _ _ (by (try simp only [put_size]); omega)] | rw [tmps_far _ _ (by decide)])))).trans (by decide)), rfl⟩) hS0 ?_
  rw [hd, ← LR_snoc]
  clear ho hg hop hd hfr
  obtain ⟨o8, ho, hg, hop, hd⟩ := isOpG_out q8
  have hfr := hall ([0, 1, 2, 3, 4, 6, 7, 5], 8) (by simp)
  refine wpAnyH_take (listed := LR 13 [0, 1, 2, 3, 4, 6, 7, 5]) (v := undef) ho hs hfr.1 hfr.2 (hQ _ _) (Or.inr ⟨((wantedB hog1 dog1 hg (by (repeat (first | rw [tmps_same _ _ (by (try simp only [put_size]); omega)] | rw [tmps_far _ _ (by decide)])))).trans (by decide)), rfl⟩) hS0 ?_
  rw [hd, ← LR_snoc]
  clear ho hg hop hd hfr
  obtain ⟨o9, ho, hg, hop, hd⟩ := isOpG_out q9
  have hfr := hall ([0, 1, 2, 3, 4, 6, 7, 5, 8], 9) (by simp)
  refine wpAnyH_take (listed := LR 13 [0, 1, 2, 3, 4, 6, 7, 5, 8]) (v := undef) ho hs hfr.1 hfr.2 (hQ _ _) (Or.inr ⟨((wantedB hog1 dog1 hg (by (repeat (first | rw [tmps_same _ _ (by (try simp only [put_size]); omega)] | rw [tmps_far _ _ (by decide)])))).trans (by decide)), rfl⟩) hS0 ?_
  rw [hd, ← LR_snoc]
  clear ho hg hop hd hfr
  obtain ⟨o10, ho, hg, hop, hd⟩ := isOpG_out q10
  have hfr := hall ([0, 1, 2, 3, 4, 6, 7, 5, 8, 9], 10) (by simp)
  refine wpAnyH_take (listed := LR 13 [0, 1, 2, 3, 4, 6, 7, 5, 8, 9]) (v := undef) ho hs hfr.1 hfr.2 (hQ _ _) (Or.inr ⟨((wantedB hog1 dog1 hg (by (repeat (first | rw [tmps_same _ _ (by (try simp only [put_size]); omega)] | rw [tmps_far _ _ (by decide)])))).trans (by decide)), rfl⟩) hS0 ?_
  rw [hd, ← LR_snoc]
  clear ho hg hop hd hfr
  obtain ⟨o11, ho, hg, hop, hd⟩ := isOpG_out q11
  have hfr := hall ([0, 1, 2, 3, 4, 6, 7, 5, 8, 9, 10], 11) (by simp)
  refine wpAnyH_take (listed := LR 13 [0, 1, 2, 3, 4, 6, 7, 5, 8, 9, 10]) (v := .bool false) ho hs hfr.1 hfr.2 (hQ _ _) (Or.inl ⟨(wantedN hg), fun w' hS => run_pickF _ _ hop w' (by (repeat (first | rw [eval_same _ _ (by (try simp only [put_size]); omega)] | rw [eval_far _ _ (by decide)]))) rfl⟩) hS0 ?_
  rw [hd, ← LR_snoc]
  clear ho hg hop hd hfr
  obtain ⟨o12, ho, hg, hop, hd⟩ := isOpG_out q12
  have hfr := hall ([0, 1, 2, 3, 4, 6, 7, 5, 8, 9, 10, 11], 12) (by simp)
  refine wpAnyH_take (listed := LR 13 [0, 1, 2, 3, 4, 6, 7, 5, 8, 9, 10, 11]) (v := .bool false) ho hs hfr.1 hfr.2 (hQ _ _) (Or.inl ⟨(wantedN hg), fun w' hS => run_assignV _ _ hop w' (by (repeat (first | rw [eval_same _ _ (by (try simp only [put_size]); omega)] | rw [eval_far _ _ (by decide)])))⟩) hS0 ?_
  rw [hd, ← LR_snoc]
  clear ho hg hop hd hfr
  exact wpAnyH_done rend (F _ hS0) _
def rfmakesC_takes : List (List Nat × Nat) := [([], 0), ([0], 1), ([0, 1], 2), ([0, 1, 2], 3), ([0, 1, 2, 3], 4), ([0, 1, 2, 3, 4], 6), ([0, 1, 2, 3, 4, 6], 7), ([0, 1, 2, 3, 4, 6, 7, 5, 8, 9], 10), ([0, 1, 2, 3, 4, 6, 7, 5, 8, 9, 10], 11), ([0, 1, 2, 3, 4, 6, 7, 5, 8, 9, 10, 11], 12)]
set_option maxHeartbeats 3200000 in
theorem rfmakesC {ops : Array Oper} {Q : Exit → Act → World → Prop} {S : World → Prop} {a0 : Act} {w5 : World} {b hn hc : Nat} {ha : Option Addr} {bv : Value} {bb : Bool} {ty1 ty2 ty3 : Array TypeId}
    (q0 : isOpG ops 0 none (.move (.tmp 3)) (some 45))
    (q1 : isOpG ops 1 none (.move (.tmp 45)) (some 46))
    (q2 : isOpG ops 2 (some (1, true)) (.fieldAddr 25 (.tmp 1) 1) (some 47))
    (q3 : isOpG ops 3 (some (1, true)) (.load 22 (.tmp 47)) (some 48))
    (q4 : isOpG ops 4 (some (1, true)) (.build 25 #[(1, .tmp 48)]) (some 49))
    (q6 : isOpG ops 6 (some (1, true)) (.fieldAddr 25 (.tmp 1) 2) (some 51))
    (q7 : isOpG ops 7 (some (1, true)) (.load 23 (.tmp 51)) (some 52))
    (q5 : isOpG ops 5 (some (1, true)) (.call { callee := .value (.func 20), args := #[.tmp 49], argTypes := ty1 }) (some 50))
    (q8 : isOpG ops 8 (some (1, true)) (.call { callee := .value (.func 25), args := #[.tmp 52], argTypes := ty2 }) (some 53))
    (q9 : isOpG ops 9 (some (1, true)) (.call { callee := .value (.func 19), args := #[.tmp 50, .tmp 53], argTypes := ty3 }) (some 54))
    (q10 : isOpG ops 10 (some (1, true)) (.unOp .not 4 (.tmp 54)) (some 55))
    (q11 : isOpG ops 11 none (.pick (.tmp 46) (.tmp 55) (.const (.bool false))) (some 56))
    (q12 : isOpG ops 12 none (.assign (.tmp 56)) (some 2))
    (hs : Region.noSelect ops = true) (hq : (rfmakesC_takes.all fun p => Region.free .any ops (LR 13 p.1) p.2 && (Region.ready .any ops (LR 13 p.1)).contains p.2) = true)
    (r5 : Region.ready .any ops (LR 13 [0, 1, 2, 3, 4, 6, 7]) = [5])
    (r8 : Region.ready .any ops (LR 13 [0, 1, 2, 3, 4, 6, 7, 5]) = [8])
    (r9 : Region.ready .any ops (LR 13 [0, 1, 2, 3, 4, 6, 7, 5, 8]) = [9])
    (rend : Region.ready .any ops (LR 13 [0, 1, 2, 3, 4, 6, 7, 5, 8, 9, 10, 11, 12]) = [])
    (hQ : ∀ (d : Option Tmp) (v : Value) c a w, Q (.panic c) (a.put d v) w → Q (.panic c) a w)
    (hsz : 56 < a0.tmps.size) (e1 : a0.eval (.tmp 1) = .pointer (some ⟨b, 0, none⟩)) (e3 : a0.eval (.tmp 3) = .bool true)
    (hS0 : S w5.drew)
    (keep : ∀ u u', S u → S u' → S u') (LBO : ∀ u, S u → (loadVar 23 ⟨b, 2, none⟩).run Tryz.prog u = .ok bv u) (LHD : ∀ u, S u → (loadVar 22 ⟨b, 1, none⟩).run Tryz.prog u = .ok (.slice ha hn hc) u)
    (C1 : Calls Tryz.prog 20 #[.agg #[.string ⟨#[]⟩, .slice ha hn hc, .slice none 0 0]] w5.drew fun e u3 => ∃ sv1, e = .returned sv1 ∧ S u3 ∧ Calls Tryz.prog 25 #[bv] u3 fun e u4 => ∃ sv2, e = .returned sv2 ∧ S u4 ∧ Calls Tryz.prog 19 #[sv1, sv2] u4 fun e u5 => e = .returned (.bool bb) ∧ S u5)
    (F : ∀ (wc : World) (sv1 sv2 : Value), S wc → Q .normal (((((((((((((a0.put (some 45) (.bool true)).put (some 46) (.bool true)).put (some 47) (.pointer (some ⟨b, 1, none⟩))).put (some 48) (.slice ha hn hc)).put (some 49) (.agg #[.string ⟨#[]⟩, .slice ha hn hc, .slice none 0 0])).put (some 51) (.pointer (some ⟨b, 2, none⟩))).put (some 52) (bv)).put (some 50) (sv1)).put (some 53) (sv2)).put (some 54) (.bool bb)).put (some 55) (.bool (!bb))).put (some 56) (.bool (!bb))).put (some 2) (.bool (!bb))) wc) :
    wpAnyH Tryz.prog .any ops Q S 13 (LR 13 []) a0 w5.drew := by
  have hall : ∀ p ∈ rfmakesC_takes, Region.free .any ops (LR 13 p.1) p.2 = true ∧ (Region.ready .any ops (LR 13 p.1)).contains p.2 = true := by
    intro p hp
    have := List.all_eq_true.1 hq p hp
    simpa using this
  unfold rfmakesC_takes at hall
  obtain ⟨og1, hog1, _, _, dog1⟩ := isOpG_out q1
  obtain ⟨o0, ho, hg, hop, hd⟩ := isOpG_out q0
  have hfr := hall ([], 0) (by simp)
  refine wpAnyH_take (listed := LR 13 []) (v := .bool true) ho hs hfr.1 hfr.2 (hQ _ _) (Or.inl ⟨(wantedN hg), fun w' hS => run_move _ _ hop w' (by (repeat rw [eval_far _ _ (by decide)]); exact e3)⟩) hS0 ?_
  rw [hd, ← LR_snoc]
  clear ho hg hop hd hfr
  obtain ⟨o1, ho, hg, hop, hd⟩ := isOpG_out q1
  have hfr := hall ([0], 1) (by simp)
  refine wpAnyH_take (listed := LR 13 [0]) (v := .bool true) ho hs hfr.1 hfr.2 (hQ _ _) (Or.inl ⟨(wantedN hg), fun w' hS => run_move _ _ hop w' (by (repeat (first | rw [eval_same _ _ (by (try simp only [put_size]); omega)] | rw [eval_far _ _ (by decide)])))⟩) hS0 ?_
  rw [hd, ← LR_snoc]
  clear ho hg hop hd hfr
  obtain ⟨o2, ho, hg, hop, hd⟩ := isOpG_out q2
  have hfr := hall ([0, 1], 2) (by simp)
  refine wpAnyH_take (listed := LR 13 [0, 1]) (v := .pointer (some ⟨b, 1, none⟩)) ho hs hfr.1 hfr.2 (hQ _ _) (Or.inl ⟨((wantedB hog1 dog1 hg (by (repeat (first | rw [tmps_same _ _ (by (try simp only [put_size]); omega)] | rw [tmps_far _ _ (by decide)])))).trans (by decide)), fun w' hS => run_fldR1 _ _ hop w' (by (repeat rw [eval_far _ _ (by decide)]); exact e1)⟩) hS0 ?_
  rw [hd, ← LR_snoc]
  clear ho hg hop hd hfr
  obtain ⟨o3, ho, hg, hop, hd⟩ := isOpG_out q3
  have hfr := hall ([0, 1, 2], 3) (by simp)
  refine wpAnyH_take (listed := LR 13 [0, 1, 2]) (v := .slice ha hn hc) ho hs hfr.1 hfr.2 (hQ _ _) (Or.inl ⟨((wantedB hog1 dog1 hg (by (repeat (first | rw [tmps_same _ _ (by (try simp only [put_size]); omega)] | rw [tmps_far _ _ (by decide)])))).trans (by decide)), fun w' hS => run_loadS _ _ hop w' (by (repeat (first | rw [eval_same _ _ (by (try simp only [put_size]); omega)] | rw [eval_far _ _ (by decide)]))) (LHD _ hS)⟩) hS0 ?_
  rw [hd, ← LR_snoc]
  clear ho hg hop hd hfr
  obtain ⟨o4, ho, hg, hop, hd⟩ := isOpG_out q4
  have hfr := hall ([0, 1, 2, 3], 4) (by simp)
  refine wpAnyH_take (listed := LR 13 [0, 1, 2, 3]) (v := .agg #[.string ⟨#[]⟩, .slice ha hn hc, .slice none 0 0]) ho hs hfr.1 hfr.2 (hQ _ _) (Or.inl ⟨((wantedB hog1 dog1 hg (by (repeat (first | rw [tmps_same _ _ (by (try simp only [put_size]); omega)] | rw [tmps_far _ _ (by decide)])))).trans (by decide)), fun w' hS => run_buildR _ _ hop w' (by (repeat (first | rw [eval_same _ _ (by (try simp only [put_size]); omega)] | rw [eval_far _ _ (by decide)])))⟩) hS0 ?_
  rw [hd, ← LR_snoc]
  clear ho hg hop hd hfr
  obtain ⟨o6, ho, hg, hop, hd⟩ := isOpG_out q6
  have hfr := hall ([0, 1, 2, 3, 4], 6) (by simp)
  refine wpAnyH_take (listed := LR 13 [0, 1, 2, 3, 4]) (v := .pointer (some ⟨b, 2, none⟩)) ho hs hfr.1 hfr.2 (hQ _ _) (Or.inl ⟨((wantedB hog1 dog1 hg (by (repeat (first | rw [tmps_same _ _ (by (try simp only [put_size]); omega)] | rw [tmps_far _ _ (by decide)])))).trans (by decide)), fun w' hS => run_fldR2 _ _ hop w' (by (repeat rw [eval_far _ _ (by decide)]); exact e1)⟩) hS0 ?_
  rw [hd, ← LR_snoc]
  clear ho hg hop hd hfr
  obtain ⟨o7, ho, hg, hop, hd⟩ := isOpG_out q7
  have hfr := hall ([0, 1, 2, 3, 4, 6], 7) (by simp)
  refine wpAnyH_take (listed := LR 13 [0, 1, 2, 3, 4, 6]) (v := bv) ho hs hfr.1 hfr.2 (hQ _ _) (Or.inl ⟨((wantedB hog1 dog1 hg (by (repeat (first | rw [tmps_same _ _ (by (try simp only [put_size]); omega)] | rw [tmps_far _ _ (by decide)])))).trans (by decide)), fun w' hS => run_loadS _ _ hop w' (by (repeat (first | rw [eval_same _ _ (by (try simp only [put_size]); omega)] | rw [eval_far _ _ (by decide)]))) (LBO _ hS)⟩) hS0 ?_
  rw [hd, ← LR_snoc]
  clear ho hg hop hd hfr
  refine wpAnyH_all r5 (by simp) ?_
  intro i hi
  obtain rfl := List.mem_singleton.1 hi
  obtain ⟨o5, ho, hg, hop, hd⟩ := isOpG_out q5
  have x5_0 : ((((((((a0.put (some 45) (.bool true)).put (some 46) (.bool true)).put (some 47) (.pointer (some ⟨b, 1, none⟩))).put (some 48) (.slice ha hn hc)).put (some 49) (.agg #[.string ⟨#[]⟩, .slice ha hn hc, .slice none 0 0])).put (some 51) (.pointer (some ⟨b, 2, none⟩))).put (some 52) (bv))).eval (.tmp 49) = .agg #[.string ⟨#[]⟩, .slice ha hn hc, .slice none 0 0] := (by (repeat (first | rw [eval_same _ _ (by (try simp only [put_size]); omega)] | rw [eval_far _ _ (by decide)])))
  refine wpOp_callG ho ((wantedB hog1 dog1 hg (by (repeat (first | rw [tmps_same _ _ (by (try simp only [put_size]); omega)] | rw [tmps_far _ _ (by decide)])))).trans (by decide)) (run_callV 20 Tryz.func20 (by kernel_rfl) (by kernel_rfl) #[.tmp 49] _ hop #[.agg #[.string ⟨#[]⟩, .slice ha hn hc, .slice none 0 0]] (by simp only [List.map_toArray, List.map_cons, List.map_nil, x5_0])) ?_
  refine (C1).mono ?_
  rintro e u1 ⟨sv1, rfl, hS1, C2⟩
  have hS5 := keep _ _ hS0 hS1
  refine ⟨_, rfl, hS5, ?_⟩
  rw [hd]
  clear ho hg hop hd
  rw [← LR_snoc]
  refine wpAnyH_all r8 (by simp) ?_
  intro i hi
  obtain rfl := List.mem_singleton.1 hi
  obtain ⟨o8, ho, hg, hop, hd⟩ := isOpG_out q8
  have x8_0 : (((((((((a0.put (some 45) (.bool true)).put (some 46) (.bool true)).put (some 47) (.pointer (some ⟨b, 1, none⟩))).put (some 48) (.slice ha hn hc)).put (some 49) (.agg #[.string ⟨#[]⟩, .slice ha hn hc, .slice none 0 0])).put (some 51) (.pointer (some ⟨b, 2, none⟩))).put (some 52) (bv)).put (some 50) (sv1))).eval (.tmp 52) = bv := (by (repeat (first | rw [eval_same _ _ (by (try simp only [put_size]); omega)] | rw [eval_far _ _ (by decide)])))
  refine wpOp_callG ho ((wantedB hog1 dog1 hg (by (repeat (first | rw [tmps_same _ _ (by (try simp only [put_size]); omega)] | rw [tmps_far _ _ (by decide)])))).trans (by decide)) (run_callV 25 Tryz.func25 (by kernel_rfl) (by kernel_rfl) #[.tmp 52] _ hop #[bv] (by simp only [List.map_toArray, List.map_cons, List.map_nil, x8_0])) ?_
  refine (C2).mono ?_
  rintro e u2 ⟨sv2, rfl, hS2, C3⟩
  have hS8 := keep _ _ hS5 hS2
  refine ⟨_, rfl, hS8, ?_⟩
  rw [hd]
  clear ho hg hop hd
  rw [← LR_snoc]
  refine wpAnyH_all r9 (by simp) ?_
  intro i hi
  obtain rfl := List.mem_singleton.1 hi
  obtain ⟨o9, ho, hg, hop, hd⟩ := isOpG_out q9
  have x9_0 : ((((((((((a0.put (some 45) (.bool true)).put (some 46) (.bool true)).put (some 47) (.pointer (some ⟨b, 1, none⟩))).put (some 48) (.slice ha hn hc)).put (some 49) (.agg #[.string ⟨#[]⟩, .slice ha hn hc, .slice none 0 0])).put (some 51) (.pointer (some ⟨b, 2, none⟩))).put (some 52) (bv)).put (some 50) (sv1)).put (some 53) (sv2))).eval (.tmp 50) = sv1 := (by (repeat (first | rw [eval_same _ _ (by (try simp only [put_size]); omega)] | rw [eval_far _ _ (by decide)])))
  have x9_1 : ((((((((((a0.put (some 45) (.bool true)).put (some 46) (.bool true)).put (some 47) (.pointer (some ⟨b, 1, none⟩))).put (some 48) (.slice ha hn hc)).put (some 49) (.agg #[.string ⟨#[]⟩, .slice ha hn hc, .slice none 0 0])).put (some 51) (.pointer (some ⟨b, 2, none⟩))).put (some 52) (bv)).put (some 50) (sv1)).put (some 53) (sv2))).eval (.tmp 53) = sv2 := (by (repeat (first | rw [eval_same _ _ (by (try simp only [put_size]); omega)] | rw [eval_far _ _ (by decide)])))
  refine wpOp_callG ho ((wantedB hog1 dog1 hg (by (repeat (first | rw [tmps_same _ _ (by (try simp only [put_size]); omega)] | rw [tmps_far _ _ (by decide)])))).trans (by decide)) (run_callV 19 Tryz.func19 (by kernel_rfl) (by kernel_rfl) #[.tmp 50, .tmp 53] _ hop #[sv1, sv2] (by simp only [List.map_toArray, List.map_cons, List.map_nil, x9_0, x9_1])) ?_
  refine (C3).mono ?_
  rintro e u3 ⟨rfl, hS3⟩
  have hS9 := keep _ _ hS8 hS3
  refine ⟨_, rfl, hS9, ?_⟩
  rw [hd]
  clear ho hg hop hd
  rw [← LR_snoc]
  obtain ⟨o10, ho, hg, hop, hd⟩ := isOpG_out q10
  have hfr := hall ([0, 1, 2, 3, 4, 6, 7, 5, 8, 9], 10) (by simp)
  refine wpAnyH_take (listed := LR 13 [0, 1, 2, 3, 4, 6, 7, 5, 8, 9]) (v := .bool (!bb)) ho hs hfr.1 hfr.2 (hQ _ _) (Or.inl ⟨((wantedB hog1 dog1 hg (by (repeat (first | rw [tmps_same _ _ (by (try simp only [put_size]); omega)] | rw [tmps_far _ _ (by decide)])))).trans (by decide)), fun w' hS => run_notV (b := bb) _ _ hop w' (by (repeat (first | rw [eval_same _ _ (by (try simp only [put_size]); omega)] | rw [eval_far _ _ (by decide)])))⟩) hS9 ?_
  rw [hd, ← LR_snoc]
  clear ho hg hop hd hfr
  obtain ⟨o11, ho, hg, hop, hd⟩ := isOpG_out q11
  have hfr := hall ([0, 1, 2, 3, 4, 6, 7, 5, 8, 9, 10], 11) (by simp)
  refine wpAnyH_take (listed := LR 13 [0, 1, 2, 3, 4, 6, 7, 5, 8, 9, 10]) (v := .bool (!bb)) ho hs hfr.1 hfr.2 (hQ _ _) (Or.inl ⟨(wantedN hg), fun w' hS => run_pickT _ _ hop w' (by (repeat (first | rw [eval_same _ _ (by (try simp only [put_size]); omega)] | rw [eval_far _ _ (by decide)]))) (by (repeat (first | rw [eval_same _ _ (by (try simp only [put_size]); omega)] | rw [eval_far _ _ (by decide)])))⟩) hS9 ?_
  rw [hd, ← LR_snoc]
  clear ho hg hop hd hfr
  obtain ⟨o12, ho, hg, hop, hd⟩ := isOpG_out q12
  have hfr := hall ([0, 1, 2, 3, 4, 6, 7, 5, 8, 9, 10, 11], 12) (by simp)
  refine wpAnyH_take (listed := LR 13 [0, 1, 2, 3, 4, 6, 7, 5, 8, 9, 10, 11]) (v := .bool (!bb)) ho hs hfr.1 hfr.2 (hQ _ _) (Or.inl ⟨(wantedN hg), fun w' hS => run_assignV _ _ hop w' (by (repeat (first | rw [eval_same _ _ (by (try simp only [put_size]); omega)] | rw [eval_far _ _ (by decide)])))⟩) hS9 ?_
  rw [hd, ← LR_snoc]
  clear ho hg hop hd hfr
  exact wpAnyH_done rend (F _ sv1 sv2 hS9) _
def cklaw_takes : List (List Nat × Nat) := [([], 0), ([0], 2), ([0, 2, 1, 3], 4), ([0, 2, 1, 3, 4], 5), ([0, 2, 1, 3, 4, 5], 6), ([0, 2, 1, 3, 4, 5, 6], 8), ([0, 2, 1, 3, 4, 5, 6, 8, 7, 9], 10), ([0, 2, 1, 3, 4, 5, 6, 8, 7, 9, 10], 11), ([0, 2, 1, 3, 4, 5, 6, 8, 7, 9, 10, 11], 12), ([0, 2, 1, 3, 4, 5, 6, 8, 7, 9, 10, 11, 12], 13), ([0, 2, 1, 3, 4, 5, 6, 8, 7, 9, 10, 11, 12, 13], 14), ([0, 2, 1, 3, 4, 5, 6, 8, 7, 9, 10, 11, 12, 13, 14, 15], 16), ([0, 2, 1, 3, 4, 5, 6, 8, 7, 9, 10, 11, 12, 13, 14, 15, 16], 17)]
set_option maxHeartbeats 3200000 in
theorem cklaw {ops : Array Oper} {Q : Exit → Act → World → Prop} {S : World → Prop} {a0 : Act} {w5 : World} {b tb : Nat} {rv tv : Value} {er : Int} {mk : Bool} {ty1 ty2 ty3 ty4 ty5 : Array TypeId}
    (q0 : isOpG ops 0 none (.load 25 (.tmp 3)) (some 8))
    (q2 : isOpG ops 2 none (.load 25 (.tmp 1)) (some 10))
    (q1 : isOpG ops 1 none (.call { callee := .value (.func 6), args := #[.tmp 8], argTypes := ty1 }) (some 9))
    (q3 : isOpG ops 3 none (.call { callee := .value (.func 7), args := #[.tmp 10], argTypes := ty2 }) (some 11))
    (q4 : isOpG ops 4 none (.binOp .eql 28 (.tmp 9) (.tmp 11) 28) (some 12))
    (q5 : isOpG ops 5 none (.move (.tmp 12)) (some 13))
    (q6 : isOpG ops 6 (some (5, true)) (.load 25 (.tmp 3)) (some 14))
    (q8 : isOpG ops 8 (some (5, true)) (.load 25 (.tmp 1)) (some 16))
    (q7 : isOpG ops 7 (some (5, true)) (.call { callee := .value (.func 8), args := #[.tmp 14], argTypes := ty3 }) (some 15))
    (q9 : isOpG ops 9 (some (5, true)) (.call { callee := .value (.func 9), args := #[.tmp 16], argTypes := ty4 }) (some 17))
    (q10 : isOpG ops 10 (some (5, true)) (.binOp .eql 4 (.tmp 15) (.tmp 17) 4) (some 18))
    (q11 : isOpG ops 11 none (.pick (.tmp 13) (.tmp 18) (.const (.bool false))) (some 19))
    (q12 : isOpG ops 12 none (.move (.tmp 19)) (some 20))
    (q13 : isOpG ops 13 (some (12, true)) (.load 25 (.tmp 3)) (some 21))
    (q14 : isOpG ops 14 (some (12, true)) (.load 25 (.tmp 1)) (some 22))
    (q15 : isOpG ops 15 (some (12, true)) (.call { callee := .value (.func 10), args := #[.tmp 21, .tmp 22], argTypes := ty5 }) (some 23))
    (q16 : isOpG ops 16 none (.pick (.tmp 20) (.tmp 23) (.const (.bool false))) (some 24))
    (q17 : isOpG ops 17 none (.assign (.tmp 24)) (some 2))
    (hs : Region.noSelect ops = true) (hq : (cklaw_takes.all fun p => Region.free .any ops (LR 18 p.1) p.2 && (Region.ready .any ops (LR 18 p.1)).contains p.2) = true)
    (r1 : Region.ready .any ops (LR 18 [0, 2]) = [1])
    (r3 : Region.ready .any ops (LR 18 [0, 2, 1]) = [3])
    (r7 : Region.ready .any ops (LR 18 [0, 2, 1, 3, 4, 5, 6, 8]) = [7])
    (r9 : Region.ready .any ops (LR 18 [0, 2, 1, 3, 4, 5, 6, 8, 7]) = [9])
    (r15 : Region.ready .any ops (LR 18 [0, 2, 1, 3, 4, 5, 6, 8, 7, 9, 10, 11, 12, 13, 14]) = [15])
    (rend : Region.ready .any ops (LR 18 [0, 2, 1, 3, 4, 5, 6, 8, 7, 9, 10, 11, 12, 13, 14, 15, 16, 17]) = [])
    (hQ : ∀ (d : Option Tmp) (v : Value) c a w, Q (.panic c) (a.put d v) w → Q (.panic c) a w)
    (hsz : 24 < a0.tmps.size) (e1 : a0.eval (.tmp 1) = .pointer (some ⟨b, 0, none⟩)) (e3 : a0.eval (.tmp 3) = .pointer (some ⟨tb, 0, none⟩))
    (hS0 : S w5.drew)
    (keep : ∀ u u', S u → S u' → S u') (LRU : ∀ u, S u → (loadVar 25 ⟨b, 0, none⟩).run Tryz.prog u = .ok rv u) (LTW : ∀ u, S u → (loadVar 25 ⟨tb, 0, none⟩).run Tryz.prog u = .ok tv u) (EQ1 : ∀ u, (binOp .eql 28 (.int .i64 er) (.int .i64 er)).run Tryz.prog u = .ok (.bool true) u) (EQ2 : ∀ u, (binOp .eql 4 (.bool mk) (.bool mk)).run Tryz.prog u = .ok (.bool true) u)
    (C1 : Calls Tryz.prog 6 #[tv] w5.drew fun e u1 => e = .returned (.int .i64 er) ∧ S u1 ∧ Calls Tryz.prog 7 #[rv] u1 fun e u2 => e = .returned (.int .i64 er) ∧ S u2 ∧ Calls Tryz.prog 8 #[tv] u2 fun e u3 => e = .returned (.bool mk) ∧ S u3 ∧ Calls Tryz.prog 9 #[rv] u3 fun e u4 => e = .returned (.bool mk) ∧ S u4 ∧ Calls Tryz.prog 10 #[tv, rv] u4 fun e u5 => e = .returned (.bool true) ∧ S u5)
    (F : ∀ (wc : World), S wc → Q .normal ((((((((((((((((((a0.put (some 8) (tv)).put (some 10) (rv)).put (some 9) (.int .i64 er)).put (some 11) (.int .i64 er)).put (some 12) (.bool true)).put (some 13) (.bool true)).put (some 14) (tv)).put (some 16) (rv)).put (some 15) (.bool mk)).put (some 17) (.bool mk)).put (some 18) (.bool true)).put (some 19) (.bool true)).put (some 20) (.bool true)).put (some 21) (tv)).put (some 22) (rv)).put (some 23) (.bool true)).put (some 24) (.bool true)).put (some 2) (.bool true)) wc) :
    wpAnyH Tryz.prog .any ops Q S 18 (LR 18 []) a0 w5.drew := by
  have hall : ∀ p ∈ cklaw_takes, Region.free .any ops (LR 18 p.1) p.2 = true ∧ (Region.ready .any ops (LR 18 p.1)).contains p.2 = true := by
    intro p hp
    have := List.all_eq_true.1 hq p hp
    simpa using this
  unfold cklaw_takes at hall
  obtain ⟨og5, hog5, _, _, dog5⟩ := isOpG_out q5
  obtain ⟨og12, hog12, _, _, dog12⟩ := isOpG_out q12
  obtain ⟨o0, ho, hg, hop, hd⟩ := isOpG_out q0
  have hfr := hall ([], 0) (by simp)
  refine wpAnyH_take (listed := LR 18 []) (v := tv) ho hs hfr.1 hfr.2 (hQ _ _) (Or.inl ⟨(wantedN hg), fun w' hS => run_loadS _ _ hop w' (by (repeat rw [eval_far _ _ (by decide)]); exact e3) (LTW _ hS)⟩) hS0 ?_
  rw [hd, ← LR_snoc]
  clear ho hg hop hd hfr
  obtain ⟨o2, ho, hg, hop, hd⟩ := isOpG_out q2
  have hfr := hall ([0], 2) (by simp)
  refine wpAnyH_take (listed := LR 18 [0]) (v := rv) ho hs hfr.1 hfr.2 (hQ _ _) (Or.inl ⟨(wantedN hg), fun w' hS => run_loadS _ _ hop w' (by (repeat rw [eval_far _ _ (by decide)]); exact e1) (LRU _ hS)⟩) hS0 ?_
  rw [hd, ← LR_snoc]
  clear ho hg hop hd hfr
  refine wpAnyH_all r1 (by simp) ?_
  intro i hi
  obtain rfl := List.mem_singleton.1 hi
  obtain ⟨o1, ho, hg, hop, hd⟩ := isOpG_out q1
  have x1_0 : (((a0.put (some 8) (tv)).put (some 10) (rv))).eval (.tmp 8) = tv := (by (repeat (first | rw [eval_same _ _ (by (try simp only [put_size]); omega)] | rw [eval_far _ _ (by decide)])))
  refine wpOp_callG ho (wantedN hg) (run_callV 6 Tryz.func6 (by kernel_rfl) (by kernel_rfl) #[.tmp 8] _ hop #[tv] (by simp only [List.map_toArray, List.map_cons, List.map_nil, x1_0])) ?_
  refine (C1).mono ?_
  rintro e u1 ⟨rfl, hS1, C2⟩
  have hS1 := keep _ _ hS0 hS1
  refine ⟨_, rfl, hS1, ?_⟩
  rw [hd]
  clear ho hg hop hd
  rw [← LR_snoc]
  refine wpAnyH_all r3 (by simp) ?_
  intro i hi
  obtain rfl := List.mem_singleton.1 hi
  obtain ⟨o3, ho, hg, hop, hd⟩ := isOpG_out q3
  have x3_0 : ((((a0.put (some 8) (tv)).put (some 10) (rv)).put (some 9) (.int .i64 er))).eval (.tmp 10) = rv := (by (repeat (first | rw [eval_same _ _ (by (try simp only [put_size]); omega)] | rw [eval_far _ _ (by decide)])))
  refine wpOp_callG ho (wantedN hg) (run_callV 7 Tryz.func7 (by kernel_rfl) (by kernel_rfl) #[.tmp 10] _ hop #[rv] (by simp only [List.map_toArray, List.map_cons, List.map_nil, x3_0])) ?_
  refine (C2).mono ?_
  rintro e u2 ⟨rfl, hS2, C3⟩
  have hS3 := keep _ _ hS1 hS2
  refine ⟨_, rfl, hS3, ?_⟩
  rw [hd]
  clear ho hg hop hd
  rw [← LR_snoc]
  obtain ⟨o4, ho, hg, hop, hd⟩ := isOpG_out q4
  have hfr := hall ([0, 2, 1, 3], 4) (by simp)
  refine wpAnyH_take (listed := LR 18 [0, 2, 1, 3]) (v := .bool true) ho hs hfr.1 hfr.2 (hQ _ _) (Or.inl ⟨(wantedN hg), fun w' hS => run_binV _ _ hop w' (by (repeat (first | rw [eval_same _ _ (by (try simp only [put_size]); omega)] | rw [eval_far _ _ (by decide)]))) (by (repeat (first | rw [eval_same _ _ (by (try simp only [put_size]); omega)] | rw [eval_far _ _ (by decide)]))) (by first | rfl | go_simp) (EQ1 w')⟩) hS3 ?_
  rw [hd, ← LR_snoc]
  clear ho hg hop hd hfr
  obtain ⟨o5, ho, hg, hop, hd⟩ := isOpG_out q5
  have hfr := hall ([0, 2, 1, 3, 4], 5) (by simp)
  refine wpAnyH_take (listed := LR 18 [0, 2, 1, 3, 4]) (v := .bool true) ho hs hfr.1 hfr.2 (hQ _ _) (Or.inl ⟨(wantedN hg), fun w' hS => run_move _ _ hop w' (by (repeat (first | rw [eval_same _ _ (by (try simp only [put_size]); omega)] | rw [eval_far _ _ (by decide)])))⟩) hS3 ?_
  rw [hd, ← LR_snoc]
  clear ho hg hop hd hfr
  obtain ⟨o6, ho, hg, hop, hd⟩ := isOpG_out q6
  have hfr := hall ([0, 2, 1, 3, 4, 5], 6) (by simp)
  refine wpAnyH_take (listed := LR 18 [0, 2, 1, 3, 4, 5]) (v := tv) ho hs hfr.1 hfr.2 (hQ _ _) (Or.inl ⟨((wantedB hog5 dog5 hg (by (repeat (first | rw [tmps_same _ _ (by (try simp only [put_size]); omega)] | rw [tmps_far _ _ (by decide)])))).trans (by decide)), fun w' hS => run_loadS _ _ hop w' (by (repeat rw [eval_far _ _ (by decide)]); exact e3) (LTW _ hS)⟩) hS3 ?_
  rw [hd, ← LR_snoc]
  clear ho hg hop hd hfr
  obtain ⟨o8, ho, hg, hop, hd⟩ := isOpG_out q8
  have hfr := hall ([0, 2, 1, 3, 4, 5, 6], 8) (by simp)
  refine wpAnyH_take (listed := LR 18 [0, 2, 1, 3, 4, 5, 6]) (v := rv) ho hs hfr.1 hfr.2 (hQ _ _) (Or.inl ⟨((wantedB hog5 dog5 hg (by (repeat (first | rw [tmps_same _ _ (by (try simp only [put_size]); omega)] | rw [tmps_far _ _ (by decide)])))).trans (by decide)), fun w' hS => run_loadS _ _ hop w' (by (repeat rw [eval_far _ _ (by decide)]); exact e1) (LRU _ hS)⟩) hS3 ?_
  rw [hd, ← LR_snoc]
  clear ho hg hop hd hfr
  refine wpAnyH_all r7 (by simp) ?_
  intro i hi
  obtain rfl := List.mem_singleton.1 hi
  obtain ⟨o7, ho, hg, hop, hd⟩ := isOpG_out q7
  have x7_0 : (((((((((a0.put (some 8) (tv)).put (some 10) (rv)).put (some 9) (.int .i64 er)).put (some 11) (.int .i64 er)).put (some 12) (.bool true)).put (some 13) (.bool true)).put (some 14) (tv)).put (some 16) (rv))).eval (.tmp 14) = tv := (by (repeat (first | rw [eval_same _ _ (by (try simp only [put_size]); omega)] | rw [eval_far _ _ (by decide)])))
  refine wpOp_callG ho ((wantedB hog5 dog5 hg (by (repeat (first | rw [tmps_same _ _ (by (try simp only [put_size]); omega)] | rw [tmps_far _ _ (by decide)])))).trans (by decide)) (run_callV 8 Tryz.func8 (by kernel_rfl) (by kernel_rfl) #[.tmp 14] _ hop #[tv] (by simp only [List.map_toArray, List.map_cons, List.map_nil, x7_0])) ?_
  refine (C3).mono ?_
  rintro e u3 ⟨rfl, hS3, C4⟩
  have hS7 := keep _ _ hS3 hS3
  refine ⟨_, rfl, hS7, ?_⟩
  rw [hd]
  clear ho hg hop hd
  rw [← LR_snoc]
  refine wpAnyH_all r9 (by simp) ?_
  intro i hi
  obtain rfl := List.mem_singleton.1 hi
  obtain ⟨o9, ho, hg, hop, hd⟩ := isOpG_out q9
  have x9_0 : ((((((((((a0.put (some 8) (tv)).put (some 10) (rv)).put (some 9) (.int .i64 er)).put (some 11) (.int .i64 er)).put (some 12) (.bool true)).put (some 13) (.bool true)).put (some 14) (tv)).put (some 16) (rv)).put (some 15) (.bool mk))).eval (.tmp 16) = rv := (by (repeat (first | rw [eval_same _ _ (by (try simp only [put_size]); omega)] | rw [eval_far _ _ (by decide)])))
  refine wpOp_callG ho ((wantedB hog5 dog5 hg (by (repeat (first | rw [tmps_same _ _ (by (try simp only [put_size]); omega)] | rw [tmps_far _ _ (by decide)])))).trans (by decide)) (run_callV 9 Tryz.func9 (by kernel_rfl) (by kernel_rfl) #[.tmp 16] _ hop #[rv] (by simp only [List.map_toArray, List.map_cons, List.map_nil, x9_0])) ?_
  refine (C4).mono ?_
  rintro e u4 ⟨rfl, hS4, C5⟩
  have hS9 := keep _ _ hS7 hS4
  refine ⟨_, rfl, hS9, ?_⟩
  rw [hd]
  clear ho hg hop hd
  rw [← LR_snoc]
  obtain ⟨o10, ho, hg, hop, hd⟩ := isOpG_out q10
  have hfr := hall ([0, 2, 1, 3, 4, 5, 6, 8, 7, 9], 10) (by simp)
  refine wpAnyH_take (listed := LR 18 [0, 2, 1, 3, 4, 5, 6, 8, 7, 9]) (v := .bool true) ho hs hfr.1 hfr.2 (hQ _ _) (Or.inl ⟨((wantedB hog5 dog5 hg (by (repeat (first | rw [tmps_same _ _ (by (try simp only [put_size]); omega)] | rw [tmps_far _ _ (by decide)])))).trans (by decide)), fun w' hS => run_binV _ _ hop w' (by (repeat (first | rw [eval_same _ _ (by (try simp only [put_size]); omega)] | rw [eval_far _ _ (by decide)]))) (by (repeat (first | rw [eval_same _ _ (by (try simp only [put_size]); omega)] | rw [eval_far _ _ (by decide)]))) (by first | rfl | go_simp) (EQ2 w')⟩) hS9 ?_
  rw [hd, ← LR_snoc]
  clear ho hg hop hd hfr
  obtain ⟨o11, ho, hg, hop, hd⟩ := isOpG_out q11
  have hfr := hall ([0, 2, 1, 3, 4, 5, 6, 8, 7, 9, 10], 11) (by simp)
  refine wpAnyH_take (listed := LR 18 [0, 2, 1, 3, 4, 5, 6, 8, 7, 9, 10]) (v := .bool true) ho hs hfr.1 hfr.2 (hQ _ _) (Or.inl ⟨(wantedN hg), fun w' hS => run_pickT _ _ hop w' (by (repeat (first | rw [eval_same _ _ (by (try simp only [put_size]); omega)] | rw [eval_far _ _ (by decide)]))) (by (repeat (first | rw [eval_same _ _ (by (try simp only [put_size]); omega)] | rw [eval_far _ _ (by decide)])))⟩) hS9 ?_
  rw [hd, ← LR_snoc]
  clear ho hg hop hd hfr
  obtain ⟨o12, ho, hg, hop, hd⟩ := isOpG_out q12
  have hfr := hall ([0, 2, 1, 3, 4, 5, 6, 8, 7, 9, 10, 11], 12) (by simp)
  refine wpAnyH_take (listed := LR 18 [0, 2, 1, 3, 4, 5, 6, 8, 7, 9, 10, 11]) (v := .bool true) ho hs hfr.1 hfr.2 (hQ _ _) (Or.inl ⟨(wantedN hg), fun w' hS => run_move _ _ hop w' (by (repeat (first | rw [eval_same _ _ (by (try simp only [put_size]); omega)] | rw [eval_far _ _ (by decide)])))⟩) hS9 ?_
  rw [hd, ← LR_snoc]
  clear ho hg hop hd hfr
  obtain ⟨o13, ho, hg, hop, hd⟩ := isOpG_out q13
  have hfr := hall ([0, 2, 1, 3, 4, 5, 6, 8, 7, 9, 10, 11, 12], 13) (by simp)
  refine wpAnyH_take (listed := LR 18 [0, 2, 1, 3, 4, 5, 6, 8, 7, 9, 10, 11, 12]) (v := tv) ho hs hfr.1 hfr.2 (hQ _ _) (Or.inl ⟨((wantedB hog12 dog12 hg (by (repeat (first | rw [tmps_same _ _ (by (try simp only [put_size]); omega)] | rw [tmps_far _ _ (by decide)])))).trans (by decide)), fun w' hS => run_loadS _ _ hop w' (by (repeat rw [eval_far _ _ (by decide)]); exact e3) (LTW _ hS)⟩) hS9 ?_
  rw [hd, ← LR_snoc]
  clear ho hg hop hd hfr
  obtain ⟨o14, ho, hg, hop, hd⟩ := isOpG_out q14
  have hfr := hall ([0, 2, 1, 3, 4, 5, 6, 8, 7, 9, 10, 11, 12, 13], 14) (by simp)
  refine wpAnyH_take (listed := LR 18 [0, 2, 1, 3, 4, 5, 6, 8, 7, 9, 10, 11, 12, 13]) (v := rv) ho hs hfr.1 hfr.2 (hQ _ _) (Or.inl ⟨((wantedB hog12 dog12 hg (by (repeat (first | rw [tmps_same _ _ (by (try simp only [put_size]); omega)] | rw [tmps_far _ _ (by decide)])))).trans (by decide)), fun w' hS => run_loadS _ _ hop w' (by (repeat rw [eval_far _ _ (by decide)]); exact e1) (LRU _ hS)⟩) hS9 ?_
  rw [hd, ← LR_snoc]
  clear ho hg hop hd hfr
  refine wpAnyH_all r15 (by simp) ?_
  intro i hi
  obtain rfl := List.mem_singleton.1 hi
  obtain ⟨o15, ho, hg, hop, hd⟩ := isOpG_out q15
  have x15_0 : ((((((((((((((((a0.put (some 8) (tv)).put (some 10) (rv)).put (some 9) (.int .i64 er)).put (some 11) (.int .i64 er)).put (some 12) (.bool true)).put (some 13) (.bool true)).put (some 14) (tv)).put (some 16) (rv)).put (some 15) (.bool mk)).put (some 17) (.bool mk)).put (some 18) (.bool true)).put (some 19) (.bool true)).put (some 20) (.bool true)).put (some 21) (tv)).put (some 22) (rv))).eval (.tmp 21) = tv := (by (repeat (first | rw [eval_same _ _ (by (try simp only [put_size]); omega)] | rw [eval_far _ _ (by decide)])))
  have x15_1 : ((((((((((((((((a0.put (some 8) (tv)).put (some 10) (rv)).put (some 9) (.int .i64 er)).put (some 11) (.int .i64 er)).put (some 12) (.bool true)).put (some 13) (.bool true)).put (some 14) (tv)).put (some 16) (rv)).put (some 15) (.bool mk)).put (some 17) (.bool mk)).put (some 18) (.bool true)).put (some 19) (.bool true)).put (some 20) (.bool true)).put (some 21) (tv)).put (some 22) (rv))).eval (.tmp 22) = rv := (by (repeat (first | rw [eval_same _ _ (by (try simp only [put_size]); omega)] | rw [eval_far _ _ (by decide)])))
  refine wpOp_callG ho ((wantedB hog12 dog12 hg (by (repeat (first | rw [tmps_same _ _ (by (try simp only [put_size]); omega)] | rw [tmps_far _ _ (by decide)])))).trans (by decide)) (run_callV 10 Tryz.func10 (by kernel_rfl) (by kernel_rfl) #[.tmp 21, .tmp 22] _ hop #[tv, rv] (by simp only [List.map_toArray, List.map_cons, List.map_nil, x15_0, x15_1])) ?_
  refine (C5).mono ?_
  rintro e u5 ⟨rfl, hS5⟩
  have hS15 := keep _ _ hS9 hS5
  refine ⟨_, rfl, hS15, ?_⟩
  rw [hd]
  clear ho hg hop hd
  rw [← LR_snoc]
  obtain ⟨o16, ho, hg, hop, hd⟩ := isOpG_out q16
  have hfr := hall ([0, 2, 1, 3, 4, 5, 6, 8, 7, 9, 10, 11, 12, 13, 14, 15], 16) (by simp)
  refine wpAnyH_take (listed := LR 18 [0, 2, 1, 3, 4, 5, 6, 8, 7, 9, 10, 11, 12, 13, 14, 15]) (v := .bool true) ho hs hfr.1 hfr.2 (hQ _ _) (Or.inl ⟨(wantedN hg), fun w' hS => run_pickT _ _ hop w' (by (repeat (first | rw [eval_same _ _ (by (try simp only [put_size]); omega)] | rw [eval_far _ _ (by decide)]))) (by (repeat (first | rw [eval_same _ _ (by (try simp only [put_size]); omega)] | rw [eval_far _ _ (by decide)])))⟩) hS15 ?_
  rw [hd, ← LR_snoc]
  clear ho hg hop hd hfr
  obtain ⟨o17, ho, hg, hop, hd⟩ := isOpG_out q17
  have hfr := hall ([0, 2, 1, 3, 4, 5, 6, 8, 7, 9, 10, 11, 12, 13, 14, 15, 16], 17) (by simp)
  refine wpAnyH_take (listed := LR 18 [0, 2, 1, 3, 4, 5, 6, 8, 7, 9, 10, 11, 12, 13, 14, 15, 16]) (v := .bool true) ho hs hfr.1 hfr.2 (hQ _ _) (Or.inl ⟨(wantedN hg), fun w' hS => run_assignV _ _ hop w' (by (repeat (first | rw [eval_same _ _ (by (try simp only [put_size]); omega)] | rw [eval_far _ _ (by decide)])))⟩) hS15 ?_
  rw [hd, ← LR_snoc]
  clear ho hg hop hd hfr
  exact wpAnyH_done rend (F _ hS15) _
end Go.Proofs.YtheihplldbccpaaGreatDoor
