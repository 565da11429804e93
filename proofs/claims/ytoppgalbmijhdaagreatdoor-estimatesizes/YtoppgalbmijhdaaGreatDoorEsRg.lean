import Derived.Test.YtoppgalbmijhdaaGreatDoorRgGen
import Derived.Test.YtoppgalbmijhdaaGreatDoorEsUc
namespace Go.Proofs.YtoppgalbmijhdaaGreatDoor
open Go.RowKit Go.Maps
set_option linter.unusedVariables false
set_option linter.unusedSimpArgs false

theorem wpOp_valG {P : Program} {ops : Array Oper} {Q : Exit → Act → World → Prop} {K : Act → World → Prop} {i : Nat} {a : Act} {w w' : World} {o : Oper} {v : Value} (hi : ops[i]? = some o) (hw : Region.wanted o (yielded ops a.tmps) = true) (hrun : (execOp a.eval o).run P w = .ok (.value v) w') (hK : K (a.put o.dst v) w') : wpOp P ops Q i K a w := by
  unfold wpOp
  rw [hi]
  simp only [hw, if_true]
  refine Or.inl ?_
  unfold Oper.wp
  rw [hrun]
  exact hK
theorem wpOp_skipG {P : Program} {ops : Array Oper} {Q : Exit → Act → World → Prop} {K : Act → World → Prop} {i : Nat} {a : Act} {w w' : World} {o : Oper} (hi : ops[i]? = some o) (hw : Region.wanted o (yielded ops a.tmps) = true) (hrun : (execOp a.eval o).run P w = .ok .skip w') (hK : K (a.put o.dst undef) w') : wpOp P ops Q i K a w := by
  unfold wpOp
  rw [hi]
  simp only [hw, if_true]
  refine Or.inl ?_
  unfold Oper.wp
  rw [hrun]
  exact hK
theorem put_none (a : Act) (v : Value) : a.put none v = a := rfl
theorem put_comm {a : Act} {i j : Nat} {u v : Value} (h : i ≠ j) : (a.put (some i) u).put (some j) v = (a.put (some j) v).put (some i) u := by
  simp only [Act.put]
  rw [Array.setIfInBounds_comm _ _ h]
theorem typ_ofX {ops : Array Oper} {i : Nat} {o : Oper} {ty : TypeId} (h : ops[i]?.map Oper.type = some ty) (ho : ops[i]? = some o) : o.type = ty := by
  rw [ho] at h
  exact Option.some.inj h
theorem run_appX (ev : Operand → Value) (o : Oper) {x y : Operand} {t ty : TypeId} (hop : o.op = .call { callee := .builtin .append, args := #[x, y], argTypes := #[t, t] }) (hty : o.type = ty) (w : World) {a b v : Value} {w' : World} (hx : ev x = a) (hy : ev y = b) (hr : (Builtin.append_ #[t, t] ty #[a, b]).run Tryz.prog w = .ok v w') : (execOp ev o).run Tryz.prog w = .ok (.value v) w' := by
  simp only [execOp, hop]
  simp [resolve, invoke, builtin, hx, hy, hty, hr, Result.andThen]
theorem run_loadX (ev : Operand → Value) (o : Oper) {ty : TypeId} {x : Operand} (hop : o.op = .load ty x) (w : World) {a : Addr} {v : Value} (hx : ev x = .pointer (some a)) (hl : (loadVar ty a).run Tryz.prog w = .ok v w) : (execOp ev o).run Tryz.prog w = .ok (.value v) w := by
  simp only [execOp, hop, hx]
  simp [Instr.loadAt, Instr.sureAddr, hl, Result.andThen]
theorem run_fldF0 (ev : Operand → Value) (o : Oper) {x : Operand} (hop : o.op = .fieldAddr 31 x 0) (w : World) {b : Nat} (hx : ev x = .pointer (some ⟨b, 0, none⟩)) : (execOp ev o).run Tryz.prog w = .ok (.value (.pointer (some ⟨b, 0, none⟩))) w := by
  simp only [execOp, hop, hx]
  go_simp
theorem run_fldF1 (ev : Operand → Value) (o : Oper) {x : Operand} (hop : o.op = .fieldAddr 31 x 1) (w : World) {b : Nat} (hx : ev x = .pointer (some ⟨b, 0, none⟩)) : (execOp ev o).run Tryz.prog w = .ok (.value (.pointer (some ⟨b, 1, none⟩))) w := by
  simp only [execOp, hop, hx]
  go_simp
theorem run_bsT {b : Nat} (ev : Operand → Value) (o : Oper) {x : Operand} (hop : o.op = .buildSlice 41 1 #[(0, x)]) (w : World) {ta : Option Addr} {tn tc : Nat} (hx : ev x = .slice ta tn tc) (hb : w.heap.size = b) : (execOp ev o).run Tryz.prog w = .ok (.value (.slice (some ⟨b, 0, none⟩) 1 1)) (w.alloc (.cells #[.slice ta tn tc] 29)) := by
  subst hb
  simp only [execOp, hop, hx]
  go_simp
theorem run_lookX (ev : Operand → Value) (o : Oper) {x y : Operand} {ty : TypeId} {ck : Bool} (hop : o.op = .lookup ty x y ck) (w : World) {a b v : Value} (hx : ev x = a) (hy : ev y = b) (hr : (Instr.lookup ty a b ck).run Tryz.prog w = .ok v w) : (execOp ev o).run Tryz.prog w = .ok (.value v) w := by
  simp only [execOp, hop, hx, hy]
  simp [hr, Result.andThen]
theorem run_mapU (ev : Operand → Value) (o : Oper) {x y z : Operand} {ty : TypeId} (hop : o.op = .mapUpdate ty x y z) (w : World) {a b c : Value} {w' : World} (hx : ev x = a) (hy : ev y = b) (hz : ev z = c) (hr : (Instr.mapUpdate ty a b c).run Tryz.prog w = .ok () w') : (execOp ev o).run Tryz.prog w = .ok .skip w' := by
  simp only [execOp, hop, hx, hy, hz]
  simp [hr, Result.andThen]
def esr5_takes : List (List Nat × Nat) := [([], 0), ([0], 1), ([0, 1], 2), ([0, 1, 2], 3), ([0, 1, 2, 3], 4), ([0, 1, 2, 3, 4], 5), ([0, 1, 2, 3, 4, 5], 7), ([0, 1, 2, 3, 4, 5, 7], 8)]
set_option maxHeartbeats 3200000 in
theorem esr5 {ops : Array Oper} {Q : Exit → Act → World → Prop} {S : World → Prop} {a0 : Act} {w5 : World} {x b : Nat} {nm : ByteArray} {ta : Option Addr} {tn tc : Nat} {v nv : Value} {w3 w4 : World}
    (q0 : isOpG ops 0 none (.move (.tmp 3)) (some 17))
    (q1 : isOpG ops 1 none (.fieldAddr 31 (.tmp 5) 0) (some 18))
    (q2 : isOpG ops 2 none (.load 9 (.tmp 18)) (some 19))
    (q3 : isOpG ops 3 none (.move (.tmp 3)) (some 20))
    (q4 : isOpG ops 4 none (.fieldAddr 31 (.tmp 5) 0) (some 21))
    (q5 : isOpG ops 5 none (.load 9 (.tmp 21)) (some 22))
    (q7 : isOpG ops 7 none (.fieldAddr 31 (.tmp 5) 1) (some 24))
    (q8 : isOpG ops 8 none (.load 29 (.tmp 24)) (some 25))
    (q6 : isOpG ops 6 none (.lookup 40 (.tmp 20) (.tmp 22) false) (some 23))
    (q9 : isOpG ops 9 none (.buildSlice 41 1 #[(0, .tmp 25)]) (some 26))
    (q10 : isOpG ops 10 none (.call { callee := .builtin .append, args := #[.tmp 23, .tmp 26], argTypes := #[41, 41] }) (some 27))
    (q11 : isOpG ops 11 none (.mapUpdate 40 (.tmp 17) (.tmp 19) (.tmp 27)) none)
    (hs : Region.noSelect ops = true) (hq : (esr5_takes.all fun p => Region.free .any ops (LR 12 p.1) p.2 && (Region.ready .any ops (LR 12 p.1)).contains p.2) = true)
    (r6 : Region.ready .any ops (LR 12 [0, 1, 2, 3, 4, 5, 7, 8]) = [6, 9]) (r96 : Region.ready .any ops (LR 12 [0, 1, 2, 3, 4, 5, 7, 8, 9]) = [6])
    (r9 : Region.ready .any ops (LR 12 [0, 1, 2, 3, 4, 5, 7, 8, 6]) = [9])
    (r10 : Region.ready .any ops (LR 12 [0, 1, 2, 3, 4, 5, 7, 8, 6, 9]) = [10])
    (r11 : Region.ready .any ops (LR 12 [0, 1, 2, 3, 4, 5, 7, 8, 6, 9, 10]) = [11])
    (rend : Region.ready .any ops (LR 12 [0, 1, 2, 3, 4, 5, 7, 8, 6, 9, 10, 11]) = [])
    (hQ : ∀ (d : Option Tmp) (v : Value) c a w, Q (.panic c) (a.put d v) w → Q (.panic c) a w)
    (hsz : 27 < a0.tmps.size) (e3 : a0.eval (.tmp 3) = .map (some b)) (e5 : a0.eval (.tmp 5) = .pointer (some ⟨x, 0, none⟩))
    (hS0 : S w5.drew)
    (t10 : ops[10]?.map Oper.type = some 41) (LN : ∀ u, S u → (loadVar 9 ⟨x, 0, none⟩).run Tryz.prog u = .ok (.string nm) u) (LA : ∀ u, S u → (loadVar 29 ⟨x, 1, none⟩).run Tryz.prog u = .ok (.slice ta tn tc) u)
    (LK0 : (Instr.lookup 40 (.map (some b)) (.string nm) false).run Tryz.prog w5.drew = .ok v w5.drew) (LK1 : (Instr.lookup 40 (.map (some b)) (.string nm) false).run Tryz.prog (w5.drew.alloc (.cells #[.slice ta tn tc] 29)) = .ok v (w5.drew.alloc (.cells #[.slice ta tn tc] 29)))
    (HSB : S (w5.drew.alloc (.cells #[.slice ta tn tc] 29))) (HAP : (Builtin.append_ #[41, 41] 41 #[v, .slice (some ⟨w5.heap.size, 0, none⟩) 1 1]).run Tryz.prog (w5.drew.alloc (.cells #[.slice ta tn tc] 29)) = .ok nv w3) (HSA : S w3) (HPU : (Instr.mapUpdate 40 (.map (some b)) (.string nm) nv).run Tryz.prog w3 = .ok () w4) (HSU : S w4)
    (F : ∀ (wc : World), wc = w4 → Q .normal (((((((((((a0.put (some 17) (.map (some b))).put (some 18) (.pointer (some ⟨x, 0, none⟩))).put (some 19) (.string nm)).put (some 20) (.map (some b))).put (some 21) (.pointer (some ⟨x, 0, none⟩))).put (some 22) (.string nm)).put (some 24) (.pointer (some ⟨x, 1, none⟩))).put (some 25) (.slice ta tn tc)).put (some 23) (v)).put (some 26) (.slice (some ⟨w5.heap.size, 0, none⟩) 1 1)).put (some 27) (nv)) wc) :
    wpAnyH Tryz.prog .any ops Q S 12 (LR 12 []) a0 w5.drew := by
  have hall : ∀ p ∈ esr5_takes, Region.free .any ops (LR 12 p.1) p.2 = true ∧ (Region.ready .any ops (LR 12 p.1)).contains p.2 = true := by
    intro p hp
    have := List.all_eq_true.1 hq p hp
    simpa using this
  unfold esr5_takes at hall
  obtain ⟨o0, ho, hg, hop, hd⟩ := isOpG_out q0
  have hfr := hall ([], 0) (by simp)
  refine wpAnyH_take (listed := LR 12 []) (v := .map (some b)) ho hs hfr.1 hfr.2 (hQ _ _) (Or.inl ⟨(wantedN hg), fun w' hS => run_move _ _ hop w' (by (repeat rw [eval_far _ _ (by decide)]); exact e3)⟩) hS0 ?_
  rw [hd, ← LR_snoc]
  clear ho hg hop hd hfr
  obtain ⟨o1, ho, hg, hop, hd⟩ := isOpG_out q1
  have hfr := hall ([0], 1) (by simp)
  refine wpAnyH_take (listed := LR 12 [0]) (v := .pointer (some ⟨x, 0, none⟩)) ho hs hfr.1 hfr.2 (hQ _ _) (Or.inl ⟨(wantedN hg), fun w' hS => run_fldF0 _ _ hop w' (by (repeat rw [eval_far _ _ (by decide)]); exact e5)⟩) hS0 ?_
  rw [hd, ← LR_snoc]
  clear ho hg hop hd hfr
  obtain ⟨o2, ho, hg, hop, hd⟩ := isOpG_out q2
  have hfr := hall ([0, 1], 2) (by simp)
  refine wpAnyH_take (listed := LR 12 [0, 1]) (v := .string nm) ho hs hfr.1 hfr.2 (hQ _ _) (Or.inl ⟨(wantedN hg), fun w' hS => run_loadX _ _ hop w' (by (repeat (first | rw [eval_same _ _ (by (try simp only [put_size]); omega)] | rw [eval_far _ _ (by decide)]))) (LN _ hS)⟩) hS0 ?_
  rw [hd, ← LR_snoc]
  clear ho hg hop hd hfr
  obtain ⟨o3, ho, hg, hop, hd⟩ := isOpG_out q3
  have hfr := hall ([0, 1, 2], 3) (by simp)
  refine wpAnyH_take (listed := LR 12 [0, 1, 2]) (v := .map (some b)) ho hs hfr.1 hfr.2 (hQ _ _) (Or.inl ⟨(wantedN hg), fun w' hS => run_move _ _ hop w' (by (repeat rw [eval_far _ _ (by decide)]); exact e3)⟩) hS0 ?_
  rw [hd, ← LR_snoc]
  clear ho hg hop hd hfr
  obtain ⟨o4, ho, hg, hop, hd⟩ := isOpG_out q4
  have hfr := hall ([0, 1, 2, 3], 4) (by simp)
  refine wpAnyH_take (listed := LR 12 [0, 1, 2, 3]) (v := .pointer (some ⟨x, 0, none⟩)) ho hs hfr.1 hfr.2 (hQ _ _) (Or.inl ⟨(wantedN hg), fun w' hS => run_fldF0 _ _ hop w' (by (repeat rw [eval_far _ _ (by decide)]); exact e5)⟩) hS0 ?_
  rw [hd, ← LR_snoc]
  clear ho hg hop hd hfr
  obtain ⟨o5, ho, hg, hop, hd⟩ := isOpG_out q5
  have hfr := hall ([0, 1, 2, 3, 4], 5) (by simp)
  refine wpAnyH_take (listed := LR 12 [0, 1, 2, 3, 4]) (v := .string nm) ho hs hfr.1 hfr.2 (hQ _ _) (Or.inl ⟨(wantedN hg), fun w' hS => run_loadX _ _ hop w' (by (repeat (first | rw [eval_same _ _ (by (try simp only [put_size]); omega)] | rw [eval_far _ _ (by decide)]))) (LN _ hS)⟩) hS0 ?_
  rw [hd, ← LR_snoc]
  clear ho hg hop hd hfr
  obtain ⟨o7, ho, hg, hop, hd⟩ := isOpG_out q7
  have hfr := hall ([0, 1, 2, 3, 4, 5], 7) (by simp)
  refine wpAnyH_take (listed := LR 12 [0, 1, 2, 3, 4, 5]) (v := .pointer (some ⟨x, 1, none⟩)) ho hs hfr.1 hfr.2 (hQ _ _) (Or.inl ⟨(wantedN hg), fun w' hS => run_fldF1 _ _ hop w' (by (repeat rw [eval_far _ _ (by decide)]); exact e5)⟩) hS0 ?_
  rw [hd, ← LR_snoc]
  clear ho hg hop hd hfr
  obtain ⟨o8, ho, hg, hop, hd⟩ := isOpG_out q8
  have hfr := hall ([0, 1, 2, 3, 4, 5, 7], 8) (by simp)
  refine wpAnyH_take (listed := LR 12 [0, 1, 2, 3, 4, 5, 7]) (v := .slice ta tn tc) ho hs hfr.1 hfr.2 (hQ _ _) (Or.inl ⟨(wantedN hg), fun w' hS => run_loadX _ _ hop w' (by (repeat (first | rw [eval_same _ _ (by (try simp only [put_size]); omega)] | rw [eval_far _ _ (by decide)]))) (LA _ hS)⟩) hS0 ?_
  rw [hd, ← LR_snoc]
  clear ho hg hop hd hfr
  have TAIL : wpAnyH Tryz.prog .any ops Q S 2 (LR 12 [0, 1, 2, 3, 4, 5, 7, 8, 6, 9]) ((((((((((a0.put (some 17) (.map (some b))).put (some 18) (.pointer (some ⟨x, 0, none⟩))).put (some 19) (.string nm)).put (some 20) (.map (some b))).put (some 21) (.pointer (some ⟨x, 0, none⟩))).put (some 22) (.string nm)).put (some 24) (.pointer (some ⟨x, 1, none⟩))).put (some 25) (.slice ta tn tc)).put (some 23) v).put (some 26) (.slice (some ⟨w5.heap.size, 0, none⟩) 1 1)) (w5.drew.alloc (.cells #[.slice ta tn tc] 29)) := by
    have hS9 := HSB
    refine wpAnyH_all r10 (by simp) ?_
    intro i hi
    obtain rfl := List.mem_singleton.1 hi
    obtain ⟨o10, ho, hg, hop, hd⟩ := isOpG_out q10
    refine wpOp_valG ho (wantedN hg) (run_appX _ _ hop (typ_ofX t10 ho) _ (by (repeat (first | rw [eval_same _ _ (by (try simp only [put_size]); omega)] | rw [eval_far _ _ (by decide)]))) (by (repeat (first | rw [eval_same _ _ (by (try simp only [put_size]); omega)] | rw [eval_far _ _ (by decide)]))) HAP) ?_
    have hS10 := HSA
    refine ⟨hS10, ?_⟩
    rw [hd]
    clear ho hg hop hd
    rw [← LR_snoc]
    refine wpAnyH_all r11 (by simp) ?_
    intro i hi
    obtain rfl := List.mem_singleton.1 hi
    obtain ⟨o11, ho, hg, hop, hd⟩ := isOpG_out q11
    refine wpOp_skipG ho (wantedN hg) (run_mapU _ _ hop _ (by (repeat (first | rw [eval_same _ _ (by (try simp only [put_size]); omega)] | rw [eval_far _ _ (by decide)]))) (by (repeat (first | rw [eval_same _ _ (by (try simp only [put_size]); omega)] | rw [eval_far _ _ (by decide)]))) (by (repeat (first | rw [eval_same _ _ (by (try simp only [put_size]); omega)] | rw [eval_far _ _ (by decide)]))) HPU) ?_
    have hS11 := HSU
    refine ⟨hS11, ?_⟩
    rw [hd, put_none]
    clear ho hg hop hd
    rw [← LR_snoc]
    exact wpAnyH_done rend (F _ rfl) _
  refine wpAnyH_all r6 (by simp) ?_
  intro i hi
  rcases List.mem_cons.1 hi with rfl | hi
  · clear hi
    obtain ⟨o6, ho, hg, hop, hd⟩ := isOpG_out q6
    refine wpOp_valG ho (wantedN hg) (run_lookX _ _ hop _ (by (repeat (first | rw [eval_same _ _ (by (try simp only [put_size]); omega)] | rw [eval_far _ _ (by decide)]))) (by (repeat (first | rw [eval_same _ _ (by (try simp only [put_size]); omega)] | rw [eval_far _ _ (by decide)]))) LK0) ?_
    have hS6 := hS0
    refine ⟨hS6, ?_⟩
    rw [hd]
    clear ho hg hop hd
    rw [← LR_snoc]
    refine wpAnyH_all r9 (by simp) ?_
    intro i hi
    obtain rfl := List.mem_singleton.1 hi
    obtain ⟨o9, ho, hg, hop, hd⟩ := isOpG_out q9
    refine wpOp_valG ho (wantedN hg) (run_bsT (b := w5.heap.size) _ _ hop _ (by (repeat (first | rw [eval_same _ _ (by (try simp only [put_size]); omega)] | rw [eval_far _ _ (by decide)]))) rfl) ?_
    have hS9 := HSB
    refine ⟨hS9, ?_⟩
    rw [hd]
    clear ho hg hop hd
    rw [← LR_snoc]
    exact TAIL
  · obtain rfl := List.mem_singleton.1 hi
    obtain ⟨o9, ho, hg, hop, hd⟩ := isOpG_out q9
    refine wpOp_valG ho (wantedN hg) (run_bsT (b := w5.heap.size) _ _ hop _ (by (repeat (first | rw [eval_same _ _ (by (try simp only [put_size]); omega)] | rw [eval_far _ _ (by decide)]))) rfl) ?_
    have hS9 := HSB
    refine ⟨hS9, ?_⟩
    rw [hd]
    clear ho hg hop hd
    rw [← LR_snoc]
    refine wpAnyH_all r96 (by simp) ?_
    intro i hi
    obtain rfl := List.mem_singleton.1 hi
    obtain ⟨o6, ho, hg, hop, hd⟩ := isOpG_out q6
    refine wpOp_valG ho (wantedN hg) (run_lookX _ _ hop _ (by (repeat (first | rw [eval_same _ _ (by (try simp only [put_size]); omega)] | rw [eval_far _ _ (by decide)]))) (by (repeat (first | rw [eval_same _ _ (by (try simp only [put_size]); omega)] | rw [eval_far _ _ (by decide)]))) LK1) ?_
    have hS6 := HSB
    refine ⟨hS6, ?_⟩
    rw [hd]
    clear ho hg hop hd
    rw [← LR_snoc]
    rw [put_comm (i := 26) (j := 23) (by decide), show LR 12 ([0, 1, 2, 3, 4, 5, 7] ++ [8] ++ [9] ++ [6]) = LR 12 [0, 1, 2, 3, 4, 5, 7, 8, 6, 9] from rfl]
    exact TAIL
end Go.Proofs.YtoppgalbmijhdaaGreatDoor
