import Derived.Test.YtoppgalbmijhdaaGreatDoorEsRg
import Derived.Test.YtoppgalbmijhdaaGreatDoorEsSe
namespace Go.Proofs.YtoppgalbmijhdaaGreatDoor
open Go.RowKit Go.Maps
set_option linter.unusedVariables false
set_option linter.unusedSimpArgs false
attribute [-go_sem] loadVar Builtin.append_ Instr.buildSlice

theorem run_fldS2 (ev : Operand → Value) (o : Oper) {x : Operand} (hop : o.op = .fieldAddr 36 x 2) (w : World) {b : Nat} (hx : ev x = .pointer (some ⟨b, 0, none⟩)) : (execOp ev o).run Tryz.prog w = .ok (.value (.pointer (some ⟨b, 2, none⟩))) w := by
  simp only [execOp, hop, hx]
  go_simp
theorem run_lenTT (ev : Operand → Value) (o : Oper) {x : Operand} (hop : o.op = .call { callee := .builtin .len, args := #[x], argTypes := #[41] }) (w : World) {a : Option Addr} {n c : Nat} (hx : ev x = .slice a n c) : (execOp ev o).run Tryz.prog w = .ok (.value (.int .i64 (n : Int))) w := by
  simp only [execOp, hop]
  simp [resolve, invoke, builtin, hx, Builtin.lenOf, Result.andThen, go_sem]
theorem run_bsN (ev : Operand → Value) (o : Oper) {x : Operand} (hop : o.op = .buildSlice 34 1 #[(0, x)]) (w : World) {n : Int} (hx : ev x = .int .i64 n) : (execOp ev o).run Tryz.prog w = .ok (.value (.slice (some ⟨w.heap.size, 0, none⟩) 1 1)) (w.alloc (.cells #[.int .i64 n] 3)) := by
  simp only [execOp, hop, hx]
  simp [Instr.buildSlice, Instr.fill, hx, go_sem]
theorem run_storeSd (ev : Operand → Value) (o : Oper) {x y : Operand} (hop : o.op = .store 34 x y) (w : World) {b : Nat} {v : Value} {t0 t1 t2 : Value} (hx : ev x = .pointer (some ⟨b, 2, none⟩)) (hy : ev y = v) (ha : ∃ a n c, v = .slice a n c) (hr : RL w b 36 [t0, t1, t2]) : (execOp ev o).run Tryz.prog w = .ok .skip (w.setCell ⟨b, 2, none⟩ v) := by
  obtain ⟨a, n, c, rfl⟩ := ha
  have c2 := hr.at (j := 2) rfl
  have f2 := World.rowIs.frozen hr 2
  simp only [execOp, hop, hx, hy]
  go_simp
def esz18_takes : List (List Nat × Nat) := [([], 0), ([0], 2), ([0, 2, 1, 3], 4), ([0, 2, 3], 4), ([0, 2, 1, 3, 4, 5, 6], 7)]
set_option maxHeartbeats 3200000 in
set_option maxRecDepth 100000 in
theorem esz18 {ops : Array Oper} {Q : Exit → Act → World → Prop} {a0 : Act} {w5 : World} {b5 : Nat} {cv ga t0 t1 t2 : Value} {ty1 : Array TypeId} {PO : World → Option Addr → Nat → Nat → Prop} {FI : World → Prop}
    (q0 : isOpG ops 0 none (.fieldAddr 36 (.tmp 5) 2) (some 78))
    (q1 : isOpG ops 1 none (.load 34 (.tmp 78)) (some 79))
    (q2 : isOpG ops 2 none (.move (.tmp 9)) (some 80))
    (q3 : isOpG ops 3 none (.call { callee := .value (.func 26), args := #[.tmp 80], argTypes := ty1 }) (some 81))
    (q4 : isOpG ops 4 none (.call { callee := .builtin .len, args := #[.tmp 81], argTypes := #[41] }) (some 82))
    (q5 : isOpG ops 5 none (.buildSlice 34 1 #[(0, .tmp 82)]) (some 83))
    (q6 : isOpG ops 6 none (.call { callee := .builtin .append, args := #[.tmp 79, .tmp 83], argTypes := #[34, 34] }) (some 84))
    (q7 : isOpG ops 7 none (.fieldAddr 36 (.tmp 5) 2) (some 85))
    (q8 : isOpG ops 8 none (.store 34 (.tmp 85) (.tmp 84)) none)
    (hs : Region.noSelect ops = true) (hq : (esz18_takes.all fun p => Region.free .any ops (LR 9 p.1) p.2 && (Region.ready .any ops (LR 9 p.1)).contains p.2) = true)
    (rA : Region.ready .any ops (LR 9 [0, 2]) = [1, 3]) (r1 : Region.ready .any ops (LR 9 [0, 2, 1]) = [3]) (r134 : Region.ready .any ops (LR 9 [0, 2, 1, 3, 4]) = [5]) (r34 : Region.ready .any ops (LR 9 [0, 2, 3, 4]) = [1, 5]) (r341 : Region.ready .any ops (LR 9 [0, 2, 3, 4, 1]) = [5]) (r345 : Region.ready .any ops (LR 9 [0, 2, 3, 4, 5]) = [1])
    (r6 : Region.ready .any ops (LR 9 [0, 2, 1, 3, 4, 5]) = [6]) (r8 : Region.ready .any ops (LR 9 [0, 2, 1, 3, 4, 5, 6, 7]) = [8]) (rE : Region.ready .any ops (LR 9 [0, 2, 1, 3, 4, 5, 6, 7, 8]) = [])
    (hQ : ∀ (d : Option Tmp) (v : Value) c a w, Q (.panic c) (a.put d v) w → Q (.panic c) a w)
    (hsz : 85 < a0.tmps.size) (e5 : a0.eval (.tmp 5) = .pointer (some ⟨b5, 0, none⟩)) (e9 : a0.eval (.tmp 9) = cv) (t6 : ops[6]?.map Oper.type = some 34)
    (LD0 : (loadVar 34 ⟨b5, 2, none⟩).run Tryz.prog w5.drew = .ok ga w5.drew) (LD1 : ∀ wt ta tc n, PO wt ta tc n → (loadVar 34 ⟨b5, 2, none⟩).run Tryz.prog wt = .ok ga wt) (LD2 : ∀ wt ta tc n, PO wt ta tc n → (loadVar 34 ⟨b5, 2, none⟩).run Tryz.prog (wt.alloc (.cells #[.int .i64 (n : Int)] 3)) = .ok ga (wt.alloc (.cells #[.int .i64 (n : Int)] 3)))
    (HC : Calls Tryz.prog 26 #[cv] w5.drew fun e w' => ∃ ta tc n, e = .returned (.slice ta n tc) ∧ PO w' ta tc n)
    (HAP : ∀ wt ta tc n, PO wt ta tc n → ∃ av w6, (Builtin.append_ #[34, 34] 34 #[ga, .slice (some ⟨wt.heap.size, 0, none⟩) 1 1]).run Tryz.prog (wt.alloc (.cells #[.int .i64 (n : Int)] 3)) = .ok av w6 ∧ (∃ a n c, av = .slice a n c) ∧ RL w6 b5 36 [t0, t1, t2] ∧ FI (w6.setCell ⟨b5, 2, none⟩ av))
    (F : ∀ (v1 v2 v3 v4 : Value) (wc : World), FI wc → Q .normal (((((((((a0.put (some 78) (.pointer (some ⟨b5, 2, none⟩))).put (some 80) (cv)).put (some 79) (ga)).put (some 81) (v1)).put (some 82) (v2)).put (some 83) (v3)).put (some 84) (v4)).put (some 85) (.pointer (some ⟨b5, 2, none⟩)))) wc) :
    wpAnyH Tryz.prog .any ops Q (fun _ => True) 9 (LR 9 []) a0 w5.drew := by
  have hall : ∀ p ∈ esz18_takes, Region.free .any ops (LR 9 p.1) p.2 = true ∧ (Region.ready .any ops (LR 9 p.1)).contains p.2 = true := by
    intro p hp
    have := List.all_eq_true.1 hq p hp
    simpa using this
  unfold esz18_takes at hall
  have TAIL : ∀ wt ta tc n, PO wt ta tc n → wpAnyH Tryz.prog .any ops Q (fun _ => True) 3 (LR 9 [0, 2, 1, 3, 4, 5]) (((((((a0.put (some 78) (.pointer (some ⟨b5, 2, none⟩))).put (some 80) (cv)).put (some 79) (ga)).put (some 81) (.slice ta n tc)).put (some 82) (.int .i64 (n : Int))).put (some 83) (.slice (some ⟨wt.heap.size, 0, none⟩) 1 1))) (wt.alloc (.cells #[.int .i64 (n : Int)] 3)) := by
    intro wt ta tc n hpo
    obtain ⟨av, w6, hrun, hav, hrl, hfi⟩ := HAP wt ta tc n hpo
    refine wpAnyH_all r6 (by simp) ?_
    intro i hi
    obtain rfl := List.mem_singleton.1 hi
    obtain ⟨o6, ho, hg, hop, hd⟩ := isOpG_out q6
    refine wpOp_valG ho (wantedN hg) (run_appX _ _ hop (typ_ofX t6 ho) _ (by (repeat (first | rw [eval_same _ _ (by (try simp only [put_size]); omega)] | rw [eval_far _ _ (by decide)]))) (by (repeat (first | rw [eval_same _ _ (by (try simp only [put_size]); omega)] | rw [eval_far _ _ (by decide)]))) hrun) ?_
    refine ⟨trivial, ?_⟩
    rw [hd]
    clear ho hg hop hd
    rw [← LR_snoc]
    obtain ⟨o7, ho, hg, hop, hd⟩ := isOpG_out q7
    have hfr := hall ([0, 2, 1, 3, 4, 5, 6], 7) (by simp)
    refine wpAnyH_take (listed := LR 9 [0, 2, 1, 3, 4, 5, 6]) (v := .pointer (some ⟨b5, 2, none⟩)) ho hs hfr.1 hfr.2 (hQ _ _) (Or.inl ⟨wantedN hg, fun w' hS => run_fldS2 _ _ hop w' (by (repeat (first | rw [eval_far _ _ (by decide)])); exact e5)⟩) trivial ?_
    rw [hd, ← LR_snoc]
    clear ho hg hop hd hfr
    refine wpAnyH_all r8 (by simp) ?_
    intro i hi
    obtain rfl := List.mem_singleton.1 hi
    obtain ⟨o8, ho, hg, hop, hd⟩ := isOpG_out q8
    refine wpOp_skipG ho (wantedN hg) (run_storeSd _ _ hop _ (by (repeat (first | rw [eval_same _ _ (by (try simp only [put_size]); omega)] | rw [eval_far _ _ (by decide)]))) (by (repeat (first | rw [eval_same _ _ (by (try simp only [put_size]); omega)] | rw [eval_far _ _ (by decide)]))) hav hrl) ?_
    refine ⟨trivial, ?_⟩
    rw [hd, put_none]
    clear ho hg hop hd
    rw [← LR_snoc]
    exact wpAnyH_done rE (F _ _ _ _ _ hfi) _
  obtain ⟨o0, ho, hg, hop, hd⟩ := isOpG_out q0
  have hfr := hall ([], 0) (by simp)
  refine wpAnyH_take (listed := LR 9 []) (v := .pointer (some ⟨b5, 2, none⟩)) ho hs hfr.1 hfr.2 (hQ _ _) (Or.inl ⟨wantedN hg, fun w' hS => run_fldS2 _ _ hop w' (by (repeat rw [eval_far _ _ (by decide)]); exact e5)⟩) trivial ?_
  rw [hd, ← LR_snoc]
  clear ho hg hop hd hfr
  obtain ⟨o2, ho, hg, hop, hd⟩ := isOpG_out q2
  have hfr := hall ([0], 2) (by simp)
  refine wpAnyH_take (listed := LR 9 [0]) (v := cv) ho hs hfr.1 hfr.2 (hQ _ _) (Or.inl ⟨wantedN hg, fun w' hS => run_move _ _ hop w' (by (repeat rw [eval_far _ _ (by decide)]); exact e9)⟩) trivial ?_
  rw [hd, ← LR_snoc]
  clear ho hg hop hd hfr
  refine wpAnyH_all rA (by simp) ?_
  intro i hi
  rcases (show i = 1 ∨ i = 3 by simpa using hi) with rfl | rfl
  · obtain ⟨o1, ho, hg, hop, hd⟩ := isOpG_out q1
    refine wpOp_valG ho (wantedN hg) (run_loadX _ _ hop _ (by (repeat (first | rw [eval_same _ _ (by (try simp only [put_size]); omega)] | rw [eval_far _ _ (by decide)]))) LD0) ?_
    refine ⟨trivial, ?_⟩
    rw [hd]
    clear ho hg hop hd
    rw [← LR_snoc]
    refine wpAnyH_all r1 (by simp) ?_
    intro i hi
    obtain rfl := List.mem_singleton.1 hi
    obtain ⟨o3, ho, hg, hop, hd⟩ := isOpG_out q3
    refine wpOp_callG ho (wantedN hg) (run_callV 26 Tryz.func26 (by kernel_rfl) (by kernel_rfl) #[.tmp 80] _ hop #[cv] (by simp only [List.map_toArray, List.map_cons, List.map_nil]; congr 1; congr 1; (repeat (first | rw [eval_same _ _ (by (try simp only [put_size]); omega)] | rw [eval_far _ _ (by decide)])))) ?_
    refine HC.mono ?_
    rintro e wt ⟨ta, tc, n, rfl, hpo⟩
    refine ⟨_, rfl, trivial, ?_⟩
    rw [hd]
    clear ho hg hop hd
    rw [← LR_snoc]
    obtain ⟨o4, ho, hg, hop, hd⟩ := isOpG_out q4
    have hfr := hall ([0, 2, 1, 3], 4) (by simp)
    refine wpAnyH_take (listed := LR 9 [0, 2, 1, 3]) (v := .int .i64 (n : Int)) ho hs hfr.1 hfr.2 (hQ _ _) (Or.inl ⟨wantedN hg, fun w' hS => run_lenTT _ _ hop w' (by (repeat (first | rw [eval_same _ _ (by (try simp only [put_size]); omega)] | rw [eval_far _ _ (by decide)])))⟩) trivial ?_
    rw [hd, ← LR_snoc]
    clear ho hg hop hd hfr
    refine wpAnyH_all r134 (by simp) ?_
    intro i hi
    obtain rfl := List.mem_singleton.1 hi
    obtain ⟨o5, ho, hg, hop, hd⟩ := isOpG_out q5
    refine wpOp_valG ho (wantedN hg) (run_bsN _ _ hop _ (by (repeat (first | rw [eval_same _ _ (by (try simp only [put_size]); omega)] | rw [eval_far _ _ (by decide)])))) ?_
    refine ⟨trivial, ?_⟩
    rw [hd]
    clear ho hg hop hd
    rw [← LR_snoc]
    exact TAIL _ _ _ _ hpo
  · obtain ⟨o3, ho, hg, hop, hd⟩ := isOpG_out q3
    refine wpOp_callG ho (wantedN hg) (run_callV 26 Tryz.func26 (by kernel_rfl) (by kernel_rfl) #[.tmp 80] _ hop #[cv] (by simp only [List.map_toArray, List.map_cons, List.map_nil]; congr 1; congr 1; (repeat (first | rw [eval_same _ _ (by (try simp only [put_size]); omega)] | rw [eval_far _ _ (by decide)])))) ?_
    refine HC.mono ?_
    rintro e wt ⟨ta, tc, n, rfl, hpo⟩
    refine ⟨_, rfl, trivial, ?_⟩
    rw [hd]
    clear ho hg hop hd
    rw [← LR_snoc]
    obtain ⟨o4, ho, hg, hop, hd⟩ := isOpG_out q4
    have hfr := hall ([0, 2, 3], 4) (by simp)
    refine wpAnyH_take (listed := LR 9 [0, 2, 3]) (v := .int .i64 (n : Int)) ho hs hfr.1 hfr.2 (hQ _ _) (Or.inl ⟨wantedN hg, fun w' hS => run_lenTT _ _ hop w' (by (repeat (first | rw [eval_same _ _ (by (try simp only [put_size]); omega)] | rw [eval_far _ _ (by decide)])))⟩) trivial ?_
    rw [hd, ← LR_snoc]
    clear ho hg hop hd hfr
    refine wpAnyH_all r34 (by simp) ?_
    intro i hi
    rcases (show i = 1 ∨ i = 5 by simpa using hi) with rfl | rfl
    · obtain ⟨o1, ho, hg, hop, hd⟩ := isOpG_out q1
      refine wpOp_valG ho (wantedN hg) (run_loadX _ _ hop _ (by (repeat (first | rw [eval_same _ _ (by (try simp only [put_size]); omega)] | rw [eval_far _ _ (by decide)]))) (LD1 _ _ _ _ hpo)) ?_
      refine ⟨trivial, ?_⟩
      rw [hd]
      clear ho hg hop hd
      rw [← LR_snoc]
      refine wpAnyH_all r341 (by simp) ?_
      intro i hi
      obtain rfl := List.mem_singleton.1 hi
      obtain ⟨o5, ho, hg, hop, hd⟩ := isOpG_out q5
      refine wpOp_valG ho (wantedN hg) (run_bsN _ _ hop _ (by (repeat (first | rw [eval_same _ _ (by (try simp only [put_size]); omega)] | rw [eval_far _ _ (by decide)])))) ?_
      refine ⟨trivial, ?_⟩
      rw [hd]
      clear ho hg hop hd
      rw [← LR_snoc]
      rw [put_comm (i := 82) (j := 79) (by decide), put_comm (i := 81) (j := 79) (by decide), show LR 9 ([0, 2, 3] ++ [4] ++ [1] ++ [5]) = LR 9 [0, 2, 1, 3, 4, 5] from rfl]
      exact TAIL _ _ _ _ hpo
    · obtain ⟨o5, ho, hg, hop, hd⟩ := isOpG_out q5
      refine wpOp_valG ho (wantedN hg) (run_bsN _ _ hop _ (by (repeat (first | rw [eval_same _ _ (by (try simp only [put_size]); omega)] | rw [eval_far _ _ (by decide)])))) ?_
      refine ⟨trivial, ?_⟩
      rw [hd]
      clear ho hg hop hd
      rw [← LR_snoc]
      refine wpAnyH_all r345 (by simp) ?_
      intro i hi
      obtain rfl := List.mem_singleton.1 hi
      obtain ⟨o1, ho, hg, hop, hd⟩ := isOpG_out q1
      refine wpOp_valG ho (wantedN hg) (run_loadX _ _ hop _ (by (repeat (first | rw [eval_same _ _ (by (try simp only [put_size]); omega)] | rw [eval_far _ _ (by decide)]))) (LD2 _ _ _ _ hpo)) ?_
      refine ⟨trivial, ?_⟩
      rw [hd]
      clear ho hg hop hd
      rw [← LR_snoc]
      rw [put_comm (i := 83) (j := 79) (by decide), put_comm (i := 82) (j := 79) (by decide), put_comm (i := 81) (j := 79) (by decide), show LR 9 ([0, 2, 3] ++ [4] ++ [5] ++ [1]) = LR 9 [0, 2, 1, 3, 4, 5] from rfl]
      exact TAIL _ _ _ _ hpo
end Go.Proofs.YtoppgalbmijhdaaGreatDoor
