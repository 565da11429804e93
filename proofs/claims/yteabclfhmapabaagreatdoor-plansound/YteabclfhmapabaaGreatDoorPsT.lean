import Derived.Test.YteabclfhmapabaaGreatDoorA22
import Derived.Test.YteabclfhmapabaaGreatDoorA16
import Derived.Test.YteabclfhmapabaaGreatDoorA37
import Derived.Test.YteabclfhmapabaaGreatDoorPlLv
namespace Go.Proofs.YteabclfhmapabaaGreatDoor
open Go.RowKit Go.Maps Go.Shelf
set_option linter.unusedVariables false
set_option linter.unusedSimpArgs false
attribute [local go_sem ↓] Go.wp_at_zero Go.wp_at_succ
attribute [local go_sem] Oper.semAt_some
attribute [-go_sem] loadVar

theorem run_idxPs (ev : Operand → Value) (o : Oper) {x y : Operand} (hop : o.op = .indexAddr 26 x y) (w : World) {g off n c k : Nat} (hx : ev x = .slice (some ⟨g, off, none⟩) n c) (hy : ev y = .int .i64 (k : Int)) (hk : k < n) : (execOp ev o).run Tryz.prog w = .ok (.value (.pointer (some ⟨g, off + k, none⟩))) w := by
  have hk' : (k : Int) < (n : Int) := by omega
  have hk0 : (0 : Int) ≤ (k : Int) := by omega
  simp only [execOp, hop, hx, hy]
  go_simp
theorem run_slHiPs {k : Nat} (ev : Operand → Value) (o : Oper) {x y : Operand} (hop : o.op = .slice 26 x none (some y) none) (w : World) {g off nn cc : Nat} (hx : ev x = .slice (some ⟨g, off, none⟩) nn cc) (hy : ev y = .int .i64 (k : Int)) (hk : k ≤ nn) (hc : nn ≤ cc) : (execOp ev o).run Tryz.prog w = .ok (.value (.slice (some ⟨g, off, none⟩) k cc)) w := by
  have h1 : (k : Int) ≤ (cc : Int) := by omega
  have h0 : (0 : Int) ≤ (k : Int) := by omega
  simp only [execOp, hop, hx, Option.map, hy]
  go_simp
theorem run_buildTm (ev : Operand → Value) (o : Oper) {x : Operand} (hop : o.op = .build 48 #[(0, x)]) (w : World) {s : ByteArray} (hx : ev x = .string s) : (execOp ev o).run Tryz.prog w = .ok (.value (.agg #[.string s, .int .i8 0, .int .i64 0, .string ⟨#[]⟩])) w := by
  simp only [execOp, hop]
  simp only [List.map_toArray, List.map_cons, List.map_nil, Array.map, hx]
  go_simp
theorem termB_no : termB ⟨noS, V0⟩ = false := by kernel_rfl
theorem ls_takeP {w : World} {a : Option Addr} {c : Nat} {l : List ByteArray} (h : Ls w (.slice a l.length c) l.length (l.flatMap strB)) {k : Nat} (hk : k ≤ l.length) : Ls w (.slice a k c) (l.take k).length ((l.take k).flatMap strB) := by
  obtain ⟨h1, a', c', e, h2, h3, h4⟩ := h
  injection e with e1 e2 e3
  subst e1 e3
  have e5 : (l.take k).length = k := by rw [List.length_take]; omega
  rw [e5]
  refine ⟨Nat.le_trans hk h1, a, c, rfl, Nat.le_trans hk h2, h3, fun h0 => ?_⟩
  obtain ⟨g, off, e6, hg, hf⟩ := h4 (by omega)
  refine ⟨g, off, e6, hg, fun i hi => ?_⟩
  have e7 : l.flatMap strB = (l.take k).flatMap strB ++ (l.drop k).flatMap strB := by rw [← List.flatMap_append, List.take_append_drop]
  have hi' : i < (l.flatMap strB).length := by rw [e7, List.length_append]; omega
  have := hf i hi'
  rw [this]
  simp only [e7, List.getElem_append_left hi]
theorem neqE_run (er : Int) (u : World) : (binOp .neq 31 (.int .i64 er) (.int .i64 0)).run Tryz.prog u = .ok (.bool (er != 0)) u := by go_simp
theorem eqlS_run (s t : ByteArray) (u : World) : (binOp .eql 9 (.string s) (.string t)).run Tryz.prog u = .ok (.bool (s.toList == t.toList)) u := by go_simp
theorem s_ne {s t : ByteArray} (h : ¬ s = t) : (s.toList == t.toList) = false := by
  rw [beq_eq_false_iff_ne]
  exact fun e => h (toList_inj e)
def pstwA_takes : List (List Nat × Nat) := [([], 0), ([0], 1), ([0, 1], 2), ([0, 1, 2], 3), ([0, 1, 2, 3], 4), ([0, 1, 2, 3, 4], 5), ([0, 1, 2, 3, 4, 5], 6), ([0, 1, 2, 3, 4, 5, 6, 7], 8), ([0, 1, 2, 3, 4, 5, 6, 7, 8], 9), ([0, 1, 2, 3, 4, 5, 6, 7, 8, 9], 10), ([0, 1, 2, 3, 4, 5, 6, 7, 8, 9, 10], 11), ([0, 1, 2, 3, 4, 5, 6, 7, 8, 9, 10, 11], 12), ([0, 1, 2, 3, 4, 5, 6, 7, 8, 9, 10, 11, 12], 13), ([0, 1, 2, 3, 4, 5, 6, 7, 8, 9, 10, 11, 12, 13], 14), ([0, 1, 2, 3, 4, 5, 6, 7, 8, 9, 10, 11, 12, 13, 14], 15), ([0, 1, 2, 3, 4, 5, 6, 7, 8, 9, 10, 11, 12, 13, 14, 15], 16), ([0, 1, 2, 3, 4, 5, 6, 7, 8, 9, 10, 11, 12, 13, 14, 15, 16], 17), ([0, 1, 2, 3, 4, 5, 6, 7, 8, 9, 10, 11, 12, 13, 14, 15, 16, 17], 18), ([0, 1, 2, 3, 4, 5, 6, 7, 8, 9, 10, 11, 12, 13, 14, 15, 16, 17, 18], 19), ([0, 1, 2, 3, 4, 5, 6, 7, 8, 9, 10, 11, 12, 13, 14, 15, 16, 17, 18, 19], 20), ([0, 1, 2, 3, 4, 5, 6, 7, 8, 9, 10, 11, 12, 13, 14, 15, 16, 17, 18, 19, 20], 21), ([0, 1, 2, 3, 4, 5, 6, 7, 8, 9, 10, 11, 12, 13, 14, 15, 16, 17, 18, 19, 20, 21], 22), ([0, 1, 2, 3, 4, 5, 6, 7, 8, 9, 10, 11, 12, 13, 14, 15, 16, 17, 18, 19, 20, 21, 22], 23), ([0, 1, 2, 3, 4, 5, 6, 7, 8, 9, 10, 11, 12, 13, 14, 15, 16, 17, 18, 19, 20, 21, 22, 23], 24), ([0, 1, 2, 3, 4, 5, 6, 7, 8, 9, 10, 11, 12, 13, 14, 15, 16, 17, 18, 19, 20, 21, 22, 23, 24], 25), ([0, 1, 2, 3, 4, 5, 6, 7, 8, 9, 10, 11, 12, 13, 14, 15, 16, 17, 18, 19, 20, 21, 22, 23, 24, 25], 26), ([0, 1, 2, 3, 4, 5, 6, 7, 8, 9, 10, 11, 12, 13, 14, 15, 16, 17, 18, 19, 20, 21, 22, 23, 24, 25, 26], 27), ([0, 1, 2, 3, 4, 5, 6, 7, 8, 9, 10, 11, 12, 13, 14, 15, 16, 17, 18, 19, 20, 21, 22, 23, 24, 25, 26, 27], 28), ([0, 1, 2, 3, 4, 5, 6, 7, 8, 9, 10, 11, 12, 13, 14, 15, 16, 17, 18, 19, 20, 21, 22, 23, 24, 25, 26, 27, 28], 29), ([0, 1, 2, 3, 4, 5, 6, 7, 8, 9, 10, 11, 12, 13, 14, 15, 16, 17, 18, 19, 20, 21, 22, 23, 24, 25, 26, 27, 28, 29], 30)]
set_option maxHeartbeats 3200000 in
theorem pstwA {ops : Array Oper} {Q : Exit → Act → World → Prop} {S : World → Prop} {a0 : Act} {w5 : World} {g off n c k : Nat} {s : ByteArray} {er : Int} {ty1 ty2 : Array TypeId}
    (q0 : isOpG ops 0 none (.move (.tmp 0)) (some 10))
    (q1 : isOpG ops 1 none (.move (.tmp 3)) (some 11))
    (q2 : isOpG ops 2 none (.slice 26 (.tmp 10) none (some (.tmp 11)) none) (some 12))
    (q3 : isOpG ops 3 none (.move (.tmp 0)) (some 13))
    (q4 : isOpG ops 4 none (.move (.tmp 3)) (some 14))
    (q5 : isOpG ops 5 none (.indexAddr 26 (.tmp 13) (.tmp 14)) (some 15))
    (q6 : isOpG ops 6 none (.load 9 (.tmp 15)) (some 16))
    (q7 : isOpG ops 7 none (.call { callee := .value (.func 21), args := #[.tmp 12, .tmp 16], argTypes := ty1 }) (some 17))
    (q8 : isOpG ops 8 none (.move (.tmp 17)) (some 18))
    (q9 : isOpG ops 9 (some (8, false)) (.move (.tmp 0)) (some 19))
    (q10 : isOpG ops 10 (some (8, false)) (.move (.tmp 3)) (some 20))
    (q11 : isOpG ops 11 (some (8, false)) (.indexAddr 26 (.tmp 19) (.tmp 20)) (some 21))
    (q12 : isOpG ops 12 (some (8, false)) (.load 9 (.tmp 21)) (some 22))
    (q13 : isOpG ops 13 (some (8, false)) (.build 48 #[(0, .tmp 22)]) (some 23))
    (q14 : isOpG ops 14 (some (8, false)) (.call { callee := .value (.func 22), args := #[.tmp 23], argTypes := ty2 }) (some 24))
    (q15 : isOpG ops 15 (some (8, false)) (.binOp .neq 31 (.tmp 24) (.const (.int .i64 0)) 31) (some 25))
    (q16 : isOpG ops 16 none (.pick (.tmp 18) (.const (.bool true)) (.tmp 25)) (some 26))
    (q17 : isOpG ops 17 none (.move (.tmp 26)) (some 27))
    (q18 : isOpG ops 18 (some (17, false)) (.move (.tmp 0)) (some 28))
    (q19 : isOpG ops 19 (some (17, false)) (.move (.tmp 3)) (some 29))
    (q20 : isOpG ops 20 (some (17, false)) (.indexAddr 26 (.tmp 28) (.tmp 29)) (some 30))
    (q21 : isOpG ops 21 (some (17, false)) (.load 9 (.tmp 30)) (some 31))
    (q22 : isOpG ops 22 (some (17, false)) (.binOp .eql 9 (.tmp 31) (.const (.string ⟨#[]⟩)) 9) (some 32))
    (q23 : isOpG ops 23 none (.pick (.tmp 27) (.const (.bool true)) (.tmp 32)) (some 33))
    (q24 : isOpG ops 24 none (.move (.tmp 33)) (some 34))
    (q25 : isOpG ops 25 (some (24, false)) (.move (.tmp 0)) (some 35))
    (q26 : isOpG ops 26 (some (24, false)) (.move (.tmp 3)) (some 36))
    (q27 : isOpG ops 27 (some (24, false)) (.indexAddr 26 (.tmp 35) (.tmp 36)) (some 37))
    (q28 : isOpG ops 28 (some (24, false)) (.load 9 (.tmp 37)) (some 38))
    (q29 : isOpG ops 29 (some (24, false)) (.binOp .eql 9 (.tmp 38) (.const (.string ⟨#[95]⟩)) 9) (some 39))
    (q30 : isOpG ops 30 none (.pick (.tmp 34) (.const (.bool true)) (.tmp 39)) (some 40))
    (hs : Region.noSelect ops = true) (hq : (pstwA_takes.all fun p => Region.free .any ops (LR 31 p.1) p.2 && (Region.ready .any ops (LR 31 p.1)).contains p.2) = true)
    (r7 : Region.ready .any ops (LR 31 [0, 1, 2, 3, 4, 5, 6]) = [7])
    (rend : Region.ready .any ops (LR 31 [0, 1, 2, 3, 4, 5, 6, 7, 8, 9, 10, 11, 12, 13, 14, 15, 16, 17, 18, 19, 20, 21, 22, 23, 24, 25, 26, 27, 28, 29, 30]) = [])
    (hQ : ∀ (d : Option Tmp) (v : Value) c a w, Q (.panic c) (a.put d v) w → Q (.panic c) a w)
    (hsz : 40 < a0.tmps.size) (e0 : a0.eval (.tmp 0) = .slice (some ⟨g, off, none⟩) n c) (e3 : a0.eval (.tmp 3) = .int .i64 (k : Int))
    (hS0 : S w5.drew)
    (keep : ∀ u u', S u → S u' → S u') (hk : k < n) (hk1 : k ≤ n) (hnc : n ≤ c) (LS : ∀ u, S u → (loadVar 9 ⟨g, off + k, none⟩).run Tryz.prog u = .ok (.string s) u)
    (H1 : ∀ u, S u → Calls Tryz.prog 21 #[.slice (some ⟨g, off, none⟩) k c, .string s] u fun e w' => e = .returned (.bool true) ∧ w' = u)
    (F : ∀ (wc : World), S wc → Q .normal (((((((((((((((((((((((((((((((a0.put (some 10) (.slice (some ⟨g, off, none⟩) n c)).put (some 11) (.int .i64 (k : Int))).put (some 12) (.slice (some ⟨g, off, none⟩) k c)).put (some 13) (.slice (some ⟨g, off, none⟩) n c)).put (some 14) (.int .i64 (k : Int))).put (some 15) (.pointer (some ⟨g, off + k, none⟩))).put (some 16) (.string s)).put (some 17) (.bool true)).put (some 18) (.bool true)).put (some 19) (undef)).put (some 20) (undef)).put (some 21) (undef)).put (some 22) (undef)).put (some 23) (undef)).put (some 24) (undef)).put (some 25) (undef)).put (some 26) (.bool true)).put (some 27) (.bool true)).put (some 28) (undef)).put (some 29) (undef)).put (some 30) (undef)).put (some 31) (undef)).put (some 32) (undef)).put (some 33) (.bool true)).put (some 34) (.bool true)).put (some 35) (undef)).put (some 36) (undef)).put (some 37) (undef)).put (some 38) (undef)).put (some 39) (undef)).put (some 40) (.bool true)) wc) :
    wpAnyH Tryz.prog .any ops Q S 31 (LR 31 []) a0 w5.drew := by
  have hall : ∀ p ∈ pstwA_takes, Region.free .any ops (LR 31 p.1) p.2 = true ∧ (Region.ready .any ops (LR 31 p.1)).contains p.2 = true := by
    intro p hp
    have := List.all_eq_true.1 hq p hp
    simpa using this
  unfold pstwA_takes at hall
  obtain ⟨og8, hog8, _, _, dog8⟩ := isOpG_out q8
  obtain ⟨og17, hog17, _, _, dog17⟩ := isOpG_out q17
  obtain ⟨og24, hog24, _, _, dog24⟩ := isOpG_out q24
  obtain ⟨o0, ho, hg, hop, hd⟩ := isOpG_out q0
  have hfr := hall ([], 0) (by simp)
  refine wpAnyH_take (listed := LR 31 []) (v := .slice (some ⟨g, off, none⟩) n c) ho hs hfr.1 hfr.2 (hQ _ _) (Or.inl ⟨(wantedN hg), fun w' hS => run_move _ _ hop w' (by (repeat rw [eval_far _ _ (by decide)]); exact e0)⟩) hS0 ?_
  rw [hd, ← LR_snoc]
  clear ho hg hop hd hfr
  obtain ⟨o1, ho, hg, hop, hd⟩ := isOpG_out q1
  have hfr := hall ([0], 1) (by simp)
  refine wpAnyH_take (listed := LR 31 [0]) (v := .int .i64 (k : Int)) ho hs hfr.1 hfr.2 (hQ _ _) (Or.inl ⟨(wantedN hg), fun w' hS => run_move _ _ hop w' (by (repeat rw [eval_far _ _ (by decide)]); exact e3)⟩) hS0 ?_
  rw [hd, ← LR_snoc]
  clear ho hg hop hd hfr
  obtain ⟨o2, ho, hg, hop, hd⟩ := isOpG_out q2
  have hfr := hall ([0, 1], 2) (by simp)
  refine wpAnyH_take (listed := LR 31 [0, 1]) (v := .slice (some ⟨g, off, none⟩) k c) ho hs hfr.1 hfr.2 (hQ _ _) (Or.inl ⟨(wantedN hg), fun w' hS => run_slHiPs _ _ hop w' (by (repeat (first | rw [eval_same _ _ (by (try simp only [put_size]); omega)] | rw [eval_far _ _ (by decide)]))) (by (repeat (first | rw [eval_same _ _ (by (try simp only [put_size]); omega)] | rw [eval_far _ _ (by decide)]))) hk1 hnc⟩) hS0 ?_
  rw [hd, ← LR_snoc]
  clear ho hg hop hd hfr
  obtain ⟨o3, ho, hg, hop, hd⟩ := isOpG_out q3
  have hfr := hall ([0, 1, 2], 3) (by simp)
  refine wpAnyH_take (listed := LR 31 [0, 1, 2]) (v := .slice (some ⟨g, off, none⟩) n c) ho hs hfr.1 hfr.2 (hQ _ _) (Or.inl ⟨(wantedN hg), fun w' hS => run_move _ _ hop w' (by (repeat rw [eval_far _ _ (by decide)]); exact e0)⟩) hS0 ?_
  rw [hd, ← LR_snoc]
  clear ho hg hop hd hfr
  obtain ⟨o4, ho, hg, hop, hd⟩ := isOpG_out q4
  have hfr := hall ([0, 1, 2, 3], 4) (by simp)
  refine wpAnyH_take (listed := LR 31 [0, 1, 2, 3]) (v := .int .i64 (k : Int)) ho hs hfr.1 hfr.2 (hQ _ _) (Or.inl ⟨(wantedN hg), fun w' hS => run_move _ _ hop w' (by (repeat rw [eval_far _ _ (by decide)]); exact e3)⟩) hS0 ?_
  rw [hd, ← LR_snoc]
  clear ho hg hop hd hfr
  obtain ⟨o5, ho, hg, hop, hd⟩ := isOpG_out q5
  have hfr := hall ([0, 1, 2, 3, 4], 5) (by simp)
  refine wpAnyH_take (listed := LR 31 [0, 1, 2, 3, 4]) (v := .pointer (some ⟨g, off + k, none⟩)) ho hs hfr.1 hfr.2 (hQ _ _) (Or.inl ⟨(wantedN hg), fun w' hS => run_idxPs _ _ hop w' (by (repeat (first | rw [eval_same _ _ (by (try simp only [put_size]); omega)] | rw [eval_far _ _ (by decide)]))) (by (repeat (first | rw [eval_same _ _ (by (try simp only [put_size]); omega)] | rw [eval_far _ _ (by decide)]))) hk⟩) hS0 ?_
  rw [hd, ← LR_snoc]
  clear ho hg hop hd hfr
  obtain ⟨o6, ho, hg, hop, hd⟩ := isOpG_out q6
  have hfr := hall ([0, 1, 2, 3, 4, 5], 6) (by simp)
  refine wpAnyH_take (listed := LR 31 [0, 1, 2, 3, 4, 5]) (v := .string s) ho hs hfr.1 hfr.2 (hQ _ _) (Or.inl ⟨(wantedN hg), fun w' hS => run_loadG _ _ hop w' (by (repeat (first | rw [eval_same _ _ (by (try simp only [put_size]); omega)] | rw [eval_far _ _ (by decide)]))) (LS _ hS)⟩) hS0 ?_
  rw [hd, ← LR_snoc]
  clear ho hg hop hd hfr
  refine wpAnyH_all r7 (by simp) ?_
  intro i hi
  obtain rfl := List.mem_singleton.1 hi
  obtain ⟨o7, ho, hg, hop, hd⟩ := isOpG_out q7
  have x7_0 : ((((((((a0.put (some 10) (.slice (some ⟨g, off, none⟩) n c)).put (some 11) (.int .i64 (k : Int))).put (some 12) (.slice (some ⟨g, off, none⟩) k c)).put (some 13) (.slice (some ⟨g, off, none⟩) n c)).put (some 14) (.int .i64 (k : Int))).put (some 15) (.pointer (some ⟨g, off + k, none⟩))).put (some 16) (.string s))).eval (.tmp 12) = .slice (some ⟨g, off, none⟩) k c := (by (repeat (first | rw [eval_same _ _ (by (try simp only [put_size]); omega)] | rw [eval_far _ _ (by decide)])))
  have x7_1 : ((((((((a0.put (some 10) (.slice (some ⟨g, off, none⟩) n c)).put (some 11) (.int .i64 (k : Int))).put (some 12) (.slice (some ⟨g, off, none⟩) k c)).put (some 13) (.slice (some ⟨g, off, none⟩) n c)).put (some 14) (.int .i64 (k : Int))).put (some 15) (.pointer (some ⟨g, off + k, none⟩))).put (some 16) (.string s))).eval (.tmp 16) = .string s := (by (repeat (first | rw [eval_same _ _ (by (try simp only [put_size]); omega)] | rw [eval_far _ _ (by decide)])))
  refine wpOp_callG ho (wantedN hg) (run_callV 21 Tryz.func21 (by kernel_rfl) (by kernel_rfl) #[.tmp 12, .tmp 16] _ hop #[.slice (some ⟨g, off, none⟩) k c, .string s] (by simp only [List.map_toArray, List.map_cons, List.map_nil, x7_0, x7_1])) ?_
  refine (H1 _ hS0).mono ?_
  rintro e u1 ⟨rfl, rfl⟩
  refine ⟨_, rfl, hS0, ?_⟩
  rw [hd]
  clear ho hg hop hd
  rw [← LR_snoc]
  obtain ⟨o8, ho, hg, hop, hd⟩ := isOpG_out q8
  have hfr := hall ([0, 1, 2, 3, 4, 5, 6, 7], 8) (by simp)
  refine wpAnyH_take (listed := LR 31 [0, 1, 2, 3, 4, 5, 6, 7]) (v := .bool true) ho hs hfr.1 hfr.2 (hQ _ _) (Or.inl ⟨(wantedN hg), fun w' hS => run_move _ _ hop w' (by (repeat (first | rw [eval_same _ _ (by (try simp only [put_size]); omega)] | rw [eval_far _ _ (by decide)])))⟩) hS0 ?_
  rw [hd, ← LR_snoc]
  clear ho hg hop hd hfr
  obtain ⟨o9, ho, hg, hop, hd⟩ := isOpG_out q9
  have hfr := hall ([0, 1, 2, 3, 4, 5, 6, 7, 8], 9) (by simp)
  refine wpAnyH_take (listed := LR 31 [0, 1, 2, 3, 4, 5, 6, 7, 8]) (v := undef) ho hs hfr.1 hfr.2 (hQ _ _) (Or.inr ⟨((wantedB hog8 dog8 hg (by (repeat (first | rw [tmps_same _ _ (by (try simp only [put_size]); omega)] | rw [tmps_far _ _ (by decide)])))).trans (by decide)), rfl⟩) hS0 ?_
  rw [hd, ← LR_snoc]
  clear ho hg hop hd hfr
  obtain ⟨o10, ho, hg, hop, hd⟩ := isOpG_out q10
  have hfr := hall ([0, 1, 2, 3, 4, 5, 6, 7, 8, 9], 10) (by simp)
  refine wpAnyH_take (listed := LR 31 [0, 1, 2, 3, 4, 5, 6, 7, 8, 9]) (v := undef) ho hs hfr.1 hfr.2 (hQ _ _) (Or.inr ⟨((wantedB hog8 dog8 hg (by (repeat (first | rw [tmps_same _ _ (by (try simp only [put_size]); omega)] | rw [tmps_far _ _ (by decide)])))).trans (by decide)), rfl⟩) hS0 ?_
  rw [hd, ← LR_snoc]
  clear ho hg hop hd hfr
  obtain ⟨o11, ho, hg, hop, hd⟩ := isOpG_out q11
  have hfr := hall ([0, 1, 2, 3, 4, 5, 6, 7, 8, 9, 10], 11) (by simp)
  refine wpAnyH_take (listed := LR 31 [0, 1, 2, 3, 4, 5, 6, 7, 8, 9, 10]) (v := undef) ho hs hfr.1 hfr.2 (hQ _ _) (Or.inr ⟨((wantedB hog8 dog8 hg (by (repeat (first | rw [tmps_same _ _ (by (try simp only [put_size]); omega)] | rw [tmps_far _ _ (by decide)])))).trans (by decide)), rfl⟩) hS0 ?_
  rw [hd, ← LR_snoc]
  clear ho hg hop hd hfr
  obtain ⟨o12, ho, hg, hop, hd⟩ := isOpG_out q12
  have hfr := hall ([0, 1, 2, 3, 4, 5, 6, 7, 8, 9, 10, 11], 12) (by simp)
  refine wpAnyH_take (listed := LR 31 [0, 1, 2, 3, 4, 5, 6, 7, 8, 9, 10, 11]) (v := undef) ho hs hfr.1 hfr.2 (hQ _ _) (Or.inr ⟨((wantedB hog8 dog8 hg (by (repeat (first | rw [tmps_same _ _ (by (try simp only [put_size]); omega)] | rw [tmps_far _ _ (by decide)])))).trans (by decide)), rfl⟩) hS0 ?_
  rw [hd, ← LR_snoc]
  clear ho hg hop hd hfr
  obtain ⟨o13, ho, hg, hop, hd⟩ := isOpG_out q13
  have hfr := hall ([0, 1, 2, 3, 4, 5, 6, 7, 8, 9, 10, 11, 12], 13) (by simp)
  refine wpAnyH_take (listed := LR 31 [0, 1, 2, 3, 4, 5, 6, 7, 8, 9, 10, 11, 12]) (v := undef) ho hs hfr.1 hfr.2 (hQ _ _) (Or.inr ⟨((wantedB hog8 dog8 hg (by (repeat (first | rw [tmps_same _ _ (by (try simp only [put_size]); omega)] | rw [tmps_far _ _ (by decide)])))).trans (by decide)), rfl⟩) hS0 ?_
  rw [hd, ← LR_snoc]
  clear ho hg hop hd hfr
  obtain ⟨o14, ho, hg, hop, hd⟩ := isOpG_out q14
  have hfr := hall ([0, 1, 2, 3, 4, 5, 6, 7, 8, 9, 10, 11, 12, 13], 14) (by simp)
  refine wpAnyH_take (listed := LR 31 [0, 1, 2, 3, 4, 5, 6, 7, 8, 9, 10, 11, 12, 13]) (v := undef) ho hs hfr.1 hfr.2 (hQ _ _) (Or.inr ⟨((wantedB hog8 dog8 hg (by (repeat (first | rw [tmps_same _ _ (by (try simp only [put_size]); omega)] | rw [tmps_far _ _ (by decide)])))).trans (by decide)), rfl⟩) hS0 ?_
  rw [hd, ← LR_snoc]
  clear ho hg hop hd hfr
  obtain ⟨o15, ho, hg, hop, hd⟩ := isOpG_out q15
  have hfr := hall ([0, 1, 2, 3, 4, 5, 6, 7, 8, 9, 10, 11, 12, 13, 14], 15) (by simp)
  refine wpAnyH_take (listed := LR 31 [0, 1, 2, 3, 4, 5, 6, 7, 8, 9, 10, 11, 12, 13, 14]) (v := undef) ho hs hfr.1 hfr.2 (hQ _ _) (Or.inr ⟨((wantedB hog8 dog8 hg (by (repeat (first | rw [tmps_same _ _ (by (try simp only [put_size]); omega)] | rw [tmps_far _ _ (by decide)])))).trans (by decide)), rfl⟩) hS0 ?_
  rw [hd, ← LR_snoc]
  clear ho hg hop hd hfr
  obtain ⟨o16, ho, hg, hop, hd⟩ := isOpG_out q16
  have hfr := hall ([0, 1, 2, 3, 4, 5, 6, 7, 8, 9, 10, 11, 12, 13, 14, 15], 16) (by simp)
  refine wpAnyH_take (listed := LR 31 [0, 1, 2, 3, 4, 5, 6, 7, 8, 9, 10, 11, 12, 13, 14, 15]) (v := .bool true) ho hs hfr.1 hfr.2 (hQ _ _) (Or.inl ⟨(wantedN hg), fun w' hS => run_pickT _ _ hop w' (by (repeat (first | rw [eval_same _ _ (by (try simp only [put_size]); omega)] | rw [eval_far _ _ (by decide)]))) rfl⟩) hS0 ?_
  rw [hd, ← LR_snoc]
  clear ho hg hop hd hfr
  obtain ⟨o17, ho, hg, hop, hd⟩ := isOpG_out q17
  have hfr := hall ([0, 1, 2, 3, 4, 5, 6, 7, 8, 9, 10, 11, 12, 13, 14, 15, 16], 17) (by simp)
  refine wpAnyH_take (listed := LR 31 [0, 1, 2, 3, 4, 5, 6, 7, 8, 9, 10, 11, 12, 13, 14, 15, 16]) (v := .bool true) ho hs hfr.1 hfr.2 (hQ _ _) (Or.inl ⟨(wantedN hg), fun w' hS => run_move _ _ hop w' (by (repeat (first | rw [eval_same _ _ (by (try simp only [put_size]); omega)] | rw [eval_far _ _ (by decide)])))⟩) hS0 ?_
  rw [hd, ← LR_snoc]
  clear ho hg hop hd hfr
  obtain ⟨o18, ho, hg, hop, hd⟩ := isOpG_out q18
  have hfr := hall ([0, 1, 2, 3, 4, 5, 6, 7, 8, 9, 10, 11, 12, 13, 14, 15, 16, 17], 18) (by simp)
  refine wpAnyH_take (listed := LR 31 [0, 1, 2, 3, 4, 5, 6, 7, 8, 9, 10, 11, 12, 13, 14, 15, 16, 17]) (v := undef) ho hs hfr.1 hfr.2 (hQ _ _) (Or.inr ⟨((wantedB hog17 dog17 hg (by (repeat (first | rw [tmps_same _ _ (by (try simp only [put_size]); omega)] | rw [tmps_far _ _ (by decide)])))).trans (by decide)), rfl⟩) hS0 ?_
  rw [hd, ← LR_snoc]
  clear ho hg hop hd hfr
  obtain ⟨o19, ho, hg, hop, hd⟩ := isOpG_out q19
  have hfr := hall ([0, 1, 2, 3, 4, 5, 6, 7, 8, 9, 10, 11, 12, 13, 14, 15, 16, 17, 18], 19) (by simp)
  refine wpAnyH_take (listed := LR 31 [0, 1, 2, 3, 4, 5, 6, 7, 8, 9, 10, 11, 12, 13, 14, 15, 16, 17, 18]) (v := undef) ho hs hfr.1 hfr.2 (hQ _ _) (Or.inr ⟨((wantedB hog17 dog17 hg (by (repeat (first | rw [tmps_same _ _ (by (try simp only [put_size]); omega)] | rw [tmps_far _ _ (by decide)])))).trans (by decide)), rfl⟩) hS0 ?_
  rw [hd, ← LR_snoc]
  clear ho hg hop hd hfr
  obtain ⟨o20, ho, hg, hop, hd⟩ := isOpG_out q20
  have hfr := hall ([0, 1, 2, 3, 4, 5, 6, 7, 8, 9, 10, 11, 12, 13, 14, 15, 16, 17, 18, 19], 20) (by simp)
  refine wpAnyH_take (listed := LR 31 [0, 1, 2, 3, 4, 5, 6, 7, 8, 9, 10, 11, 12, 13, 14, 15, 16, 17, 18, 19]) (v := undef) ho hs hfr.1 hfr.2 (hQ _ _) (Or.inr ⟨((wantedB hog17 dog17 hg (by (repeat (first | rw [tmps_same _ _ (by (try simp only [put_size]); omega)] | rw [tmps_far _ _ (by decide)])))).trans (by decide)), rfl⟩) hS0 ?_
  rw [hd, ← LR_snoc]
  clear ho hg hop hd hfr
  obtain ⟨o21, ho, hg, hop, hd⟩ := isOpG_out q21
  have hfr := hall ([0, 1, 2, 3, 4, 5, 6, 7, 8, 9, 10, 11, 12, 13, 14, 15, 16, 17, 18, 19, 20], 21) (by simp)
  refine wpAnyH_take (listed := LR 31 [0, 1, 2, 3, 4, 5, 6, 7, 8, 9, 10, 11, 12, 13, 14, 15, 16, 17, 18, 19, 20]) (v := undef) ho hs hfr.1 hfr.2 (hQ _ _) (Or.inr ⟨((wantedB hog17 dog17 hg (by (repeat (first | rw [tmps_same _ _ (by (try simp only [put_size]); omega)] | rw [tmps_far _ _ (by decide)])))).trans (by decide)), rfl⟩) hS0 ?_
  rw [hd, ← LR_snoc]
  clear ho hg hop hd hfr
  obtain ⟨o22, ho, hg, hop, hd⟩ := isOpG_out q22
  have hfr := hall ([0, 1, 2, 3, 4, 5, 6, 7, 8, 9, 10, 11, 12, 13, 14, 15, 16, 17, 18, 19, 20, 21], 22) (by simp)
  refine wpAnyH_take (listed := LR 31 [0, 1, 2, 3, 4, 5, 6, 7, 8, 9, 10, 11, 12, 13, 14, 15, 16, 17, 18, 19, 20, 21]) (v := undef) ho hs hfr.1 hfr.2 (hQ _ _) (Or.inr ⟨((wantedB hog17 dog17 hg (by (repeat (first | rw [tmps_same _ _ (by (try simp only [put_size]); omega)] | rw [tmps_far _ _ (by decide)])))).trans (by decide)), rfl⟩) hS0 ?_
  rw [hd, ← LR_snoc]
  clear ho hg hop hd hfr
  obtain ⟨o23, ho, hg, hop, hd⟩ := isOpG_out q23
  have hfr := hall ([0, 1, 2, 3, 4, 5, 6, 7, 8, 9, 10, 11, 12, 13, 14, 15, 16, 17, 18, 19, 20, 21, 22], 23) (by simp)
  refine wpAnyH_take (listed := LR 31 [0, 1, 2, 3, 4, 5, 6, 7, 8, 9, 10, 11, 12, 13, 14, 15, 16, 17, 18, 19, 20, 21, 22]) (v := .bool true) ho hs hfr.1 hfr.2 (hQ _ _) (Or.inl ⟨(wantedN hg), fun w' hS => run_pickT _ _ hop w' (by (repeat (first | rw [eval_same _ _ (by (try simp only [put_size]); omega)] | rw [eval_far _ _ (by decide)]))) rfl⟩) hS0 ?_
  rw [hd, ← LR_snoc]
  clear ho hg hop hd hfr
  obtain ⟨o24, ho, hg, hop, hd⟩ := isOpG_out q24
  have hfr := hall ([0, 1, 2, 3, 4, 5, 6, 7, 8, 9, 10, 11, 12, 13, 14, 15, 16, 17, 18, 19, 20, 21, 22, 23], 24) (by simp)
  refine wpAnyH_take (listed := LR 31 [0, 1, 2, 3, 4, 5, 6, 7, 8, 9, 10, 11, 12, 13, 14, 15, 16, 17, 18, 19, 20, 21, 22, 23]) (v := .bool true) ho hs hfr.1 hfr.2 (hQ _ _) (Or.inl ⟨(wantedN hg), fun w' hS => run_move _ _ hop w' (by (repeat (first | rw [eval_same _ _ (by (try simp only [put_size]); omega)] | rw [eval_far _ _ (by decide)])))⟩) hS0 ?_
  rw [hd, ← LR_snoc]
  clear ho hg hop hd hfr
  obtain ⟨o25, ho, hg, hop, hd⟩ := isOpG_out q25
  have hfr := hall ([0, 1, 2, 3, 4, 5, 6, 7, 8, 9, 10, 11, 12, 13, 14, 15, 16, 17, 18, 19, 20, 21, 22, 23, 24], 25) (by simp)
  refine wpAnyH_take (listed := LR 31 [0, 1, 2, 3, 4, 5, 6, 7, 8, 9, 10, 11, 12, 13, 14, 15, 16, 17, 18, 19, 20, 21, 22, 23, 24]) (v := undef) ho hs hfr.1 hfr.2 (hQ _ _) (Or.inr ⟨((wantedB hog24 dog24 hg (by (repeat (first | rw [tmps_same _ _ (by (try simp only [put_size]); omega)] | rw [tmps_far _ _ (by decide)])))).trans (by decide)), rfl⟩) hS0 ?_
  rw [hd, ← LR_snoc]
  clear ho hg hop hd hfr
  obtain ⟨o26, ho, hg, hop, hd⟩ := isOpG_out q26
  have hfr := hall ([0, 1, 2, 3, 4, 5, 6, 7, 8, 9, 10, 11, 12, 13, 14, 15, 16, 17, 18, 19, 20, 21, 22, 23, 24, 25], 26) (by simp)
  refine wpAnyH_take (listed := LR 31 [0, 1, 2, 3, 4, 5, 6, 7, 8, 9, 10, 11, 12, 13, 14, 15, 16, 17, 18, 19, 20, 21, 22, 23, 24, 25]) (v := undef) ho hs hfr.1 hfr.2 (hQ _ _) (Or.inr ⟨((wantedB hog24 dog24 hg (by (repeat (first | rw [tmps_same _ _ (by (try simp only [put_size]); omega)] | rw [tmps_far _ _ (by decide)])))).trans (by decide)), rfl⟩) hS0 ?_
  rw [hd, ← LR_snoc]
  clear ho hg hop hd hfr
  obtain ⟨o27, ho, hg, hop, hd⟩ := isOpG_out q27
  have hfr := hall ([0, 1, 2, 3, 4, 5, 6, 7, 8, 9, 10, 11, 12, 13, 14, 15, 16, 17, 18, 19, 20, 21, 22, 23, 24, 25, 26], 27) (by simp)
  refine wpAnyH_take (listed := LR 31 [0, 1, 2, 3, 4, 5, 6, 7, 8, 9, 10, 11, 12, 13, 14, 15, 16, 17, 18, 19, 20, 21, 22, 23, 24, 25, 26]) (v := undef) ho hs hfr.1 hfr.2 (hQ _ _) (Or.inr ⟨((wantedB hog24 dog24 hg (by (repeat (first | rw [tmps_same _ _ (by (try simp only [put_size]); omega)] | rw [tmps_far _ _ (by decide)])))).trans (by decide)), rfl⟩) hS0 ?_
  rw [hd, ← LR_snoc]
  clear ho hg hop hd hfr
  obtain ⟨o28, ho, hg, hop, hd⟩ := isOpG_out q28
  have hfr := hall ([0, 1, 2, 3, 4, 5, 6, 7, 8, 9, 10, 11, 12, 13, 14, 15, 16, 17, 18, 19, 20, 21, 22, 23, 24, 25, 26, 27], 28) (by simp)
  refine wpAnyH_take (listed := LR 31 [0, 1, 2, 3, 4, 5, 6, 7, 8, 9, 10, 11, 12, 13, 14, 15, 16, 17, 18, 19, 20, 21, 22, 23, 24, 25, 26, 27]) (v := undef) ho hs hfr.1 hfr.2 (hQ _ _) (Or.inr ⟨((wantedB hog24 dog24 hg (by (repeat (first | rw [tmps_same _ _ (by (try simp only [put_size]); omega)] | rw [tmps_far _ _ (by decide)])))).trans (by decide)), rfl⟩) hS0 ?_
  rw [hd, ← LR_snoc]
  clear ho hg hop hd hfr
  obtain ⟨o29, ho, hg, hop, hd⟩ := isOpG_out q29
  have hfr := hall ([0, 1, 2, 3, 4, 5, 6, 7, 8, 9, 10, 11, 12, 13, 14, 15, 16, 17, 18, 19, 20, 21, 22, 23, 24, 25, 26, 27, 28], 29) (by simp)
  refine wpAnyH_take (listed := LR 31 [0, 1, 2, 3, 4, 5, 6, 7, 8, 9, 10, 11, 12, 13, 14, 15, 16, 17, 18, 19, 20, 21, 22, 23, 24, 25, 26, 27, 28]) (v := undef) ho hs hfr.1 hfr.2 (hQ _ _) (Or.inr ⟨((wantedB hog24 dog24 hg (by (repeat (first | rw [tmps_same _ _ (by (try simp only [put_size]); omega)] | rw [tmps_far _ _ (by decide)])))).trans (by decide)), rfl⟩) hS0 ?_
  rw [hd, ← LR_snoc]
  clear ho hg hop hd hfr
  obtain ⟨o30, ho, hg, hop, hd⟩ := isOpG_out q30
  have hfr := hall ([0, 1, 2, 3, 4, 5, 6, 7, 8, 9, 10, 11, 12, 13, 14, 15, 16, 17, 18, 19, 20, 21, 22, 23, 24, 25, 26, 27, 28, 29], 30) (by simp)
  refine wpAnyH_take (listed := LR 31 [0, 1, 2, 3, 4, 5, 6, 7, 8, 9, 10, 11, 12, 13, 14, 15, 16, 17, 18, 19, 20, 21, 22, 23, 24, 25, 26, 27, 28, 29]) (v := .bool true) ho hs hfr.1 hfr.2 (hQ _ _) (Or.inl ⟨(wantedN hg), fun w' hS => run_pickT _ _ hop w' (by (repeat (first | rw [eval_same _ _ (by (try simp only [put_size]); omega)] | rw [eval_far _ _ (by decide)]))) rfl⟩) hS0 ?_
  rw [hd, ← LR_snoc]
  clear ho hg hop hd hfr
  exact wpAnyH_done rend (F _ hS0) _
def pstwB_takes : List (List Nat × Nat) := [([], 0), ([0], 1), ([0, 1], 2), ([0, 1, 2], 3), ([0, 1, 2, 3], 4), ([0, 1, 2, 3, 4], 5), ([0, 1, 2, 3, 4, 5], 6), ([0, 1, 2, 3, 4, 5, 6, 7], 8), ([0, 1, 2, 3, 4, 5, 6, 7, 8], 9), ([0, 1, 2, 3, 4, 5, 6, 7, 8, 9], 10), ([0, 1, 2, 3, 4, 5, 6, 7, 8, 9, 10], 11), ([0, 1, 2, 3, 4, 5, 6, 7, 8, 9, 10, 11], 12), ([0, 1, 2, 3, 4, 5, 6, 7, 8, 9, 10, 11, 12], 13), ([0, 1, 2, 3, 4, 5, 6, 7, 8, 9, 10, 11, 12, 13, 14], 15), ([0, 1, 2, 3, 4, 5, 6, 7, 8, 9, 10, 11, 12, 13, 14, 15], 16), ([0, 1, 2, 3, 4, 5, 6, 7, 8, 9, 10, 11, 12, 13, 14, 15, 16], 17), ([0, 1, 2, 3, 4, 5, 6, 7, 8, 9, 10, 11, 12, 13, 14, 15, 16, 17], 18), ([0, 1, 2, 3, 4, 5, 6, 7, 8, 9, 10, 11, 12, 13, 14, 15, 16, 17, 18], 19), ([0, 1, 2, 3, 4, 5, 6, 7, 8, 9, 10, 11, 12, 13, 14, 15, 16, 17, 18, 19], 20), ([0, 1, 2, 3, 4, 5, 6, 7, 8, 9, 10, 11, 12, 13, 14, 15, 16, 17, 18, 19, 20], 21), ([0, 1, 2, 3, 4, 5, 6, 7, 8, 9, 10, 11, 12, 13, 14, 15, 16, 17, 18, 19, 20, 21], 22), ([0, 1, 2, 3, 4, 5, 6, 7, 8, 9, 10, 11, 12, 13, 14, 15, 16, 17, 18, 19, 20, 21, 22], 23), ([0, 1, 2, 3, 4, 5, 6, 7, 8, 9, 10, 11, 12, 13, 14, 15, 16, 17, 18, 19, 20, 21, 22, 23], 24), ([0, 1, 2, 3, 4, 5, 6, 7, 8, 9, 10, 11, 12, 13, 14, 15, 16, 17, 18, 19, 20, 21, 22, 23, 24], 25), ([0, 1, 2, 3, 4, 5, 6, 7, 8, 9, 10, 11, 12, 13, 14, 15, 16, 17, 18, 19, 20, 21, 22, 23, 24, 25], 26), ([0, 1, 2, 3, 4, 5, 6, 7, 8, 9, 10, 11, 12, 13, 14, 15, 16, 17, 18, 19, 20, 21, 22, 23, 24, 25, 26], 27), ([0, 1, 2, 3, 4, 5, 6, 7, 8, 9, 10, 11, 12, 13, 14, 15, 16, 17, 18, 19, 20, 21, 22, 23, 24, 25, 26, 27], 28), ([0, 1, 2, 3, 4, 5, 6, 7, 8, 9, 10, 11, 12, 13, 14, 15, 16, 17, 18, 19, 20, 21, 22, 23, 24, 25, 26, 27, 28], 29), ([0, 1, 2, 3, 4, 5, 6, 7, 8, 9, 10, 11, 12, 13, 14, 15, 16, 17, 18, 19, 20, 21, 22, 23, 24, 25, 26, 27, 28, 29], 30)]
set_option maxHeartbeats 3200000 in
theorem pstwB {ops : Array Oper} {Q : Exit → Act → World → Prop} {S : World → Prop} {a0 : Act} {w5 : World} {g off n c k : Nat} {s : ByteArray} {er : Int} {ty1 ty2 : Array TypeId}
    (q0 : isOpG ops 0 none (.move (.tmp 0)) (some 10))
    (q1 : isOpG ops 1 none (.move (.tmp 3)) (some 11))
    (q2 : isOpG ops 2 none (.slice 26 (.tmp 10) none (some (.tmp 11)) none) (some 12))
    (q3 : isOpG ops 3 none (.move (.tmp 0)) (some 13))
    (q4 : isOpG ops 4 none (.move (.tmp 3)) (some 14))
    (q5 : isOpG ops 5 none (.indexAddr 26 (.tmp 13) (.tmp 14)) (some 15))
    (q6 : isOpG ops 6 none (.load 9 (.tmp 15)) (some 16))
    (q7 : isOpG ops 7 none (.call { callee := .value (.func 21), args := #[.tmp 12, .tmp 16], argTypes := ty1 }) (some 17))
    (q8 : isOpG ops 8 none (.move (.tmp 17)) (some 18))
    (q9 : isOpG ops 9 (some (8, false)) (.move (.tmp 0)) (some 19))
    (q10 : isOpG ops 10 (some (8, false)) (.move (.tmp 3)) (some 20))
    (q11 : isOpG ops 11 (some (8, false)) (.indexAddr 26 (.tmp 19) (.tmp 20)) (some 21))
    (q12 : isOpG ops 12 (some (8, false)) (.load 9 (.tmp 21)) (some 22))
    (q13 : isOpG ops 13 (some (8, false)) (.build 48 #[(0, .tmp 22)]) (some 23))
    (q14 : isOpG ops 14 (some (8, false)) (.call { callee := .value (.func 22), args := #[.tmp 23], argTypes := ty2 }) (some 24))
    (q15 : isOpG ops 15 (some (8, false)) (.binOp .neq 31 (.tmp 24) (.const (.int .i64 0)) 31) (some 25))
    (q16 : isOpG ops 16 none (.pick (.tmp 18) (.const (.bool true)) (.tmp 25)) (some 26))
    (q17 : isOpG ops 17 none (.move (.tmp 26)) (some 27))
    (q18 : isOpG ops 18 (some (17, false)) (.move (.tmp 0)) (some 28))
    (q19 : isOpG ops 19 (some (17, false)) (.move (.tmp 3)) (some 29))
    (q20 : isOpG ops 20 (some (17, false)) (.indexAddr 26 (.tmp 28) (.tmp 29)) (some 30))
    (q21 : isOpG ops 21 (some (17, false)) (.load 9 (.tmp 30)) (some 31))
    (q22 : isOpG ops 22 (some (17, false)) (.binOp .eql 9 (.tmp 31) (.const (.string ⟨#[]⟩)) 9) (some 32))
    (q23 : isOpG ops 23 none (.pick (.tmp 27) (.const (.bool true)) (.tmp 32)) (some 33))
    (q24 : isOpG ops 24 none (.move (.tmp 33)) (some 34))
    (q25 : isOpG ops 25 (some (24, false)) (.move (.tmp 0)) (some 35))
    (q26 : isOpG ops 26 (some (24, false)) (.move (.tmp 3)) (some 36))
    (q27 : isOpG ops 27 (some (24, false)) (.indexAddr 26 (.tmp 35) (.tmp 36)) (some 37))
    (q28 : isOpG ops 28 (some (24, false)) (.load 9 (.tmp 37)) (some 38))
    (q29 : isOpG ops 29 (some (24, false)) (.binOp .eql 9 (.tmp 38) (.const (.string ⟨#[95]⟩)) 9) (some 39))
    (q30 : isOpG ops 30 none (.pick (.tmp 34) (.const (.bool true)) (.tmp 39)) (some 40))
    (hs : Region.noSelect ops = true) (hq : (pstwB_takes.all fun p => Region.free .any ops (LR 31 p.1) p.2 && (Region.ready .any ops (LR 31 p.1)).contains p.2) = true)
    (r7 : Region.ready .any ops (LR 31 [0, 1, 2, 3, 4, 5, 6]) = [7])
    (r14 : Region.ready .any ops (LR 31 [0, 1, 2, 3, 4, 5, 6, 7, 8, 9, 10, 11, 12, 13]) = [14])
    (rend : Region.ready .any ops (LR 31 [0, 1, 2, 3, 4, 5, 6, 7, 8, 9, 10, 11, 12, 13, 14, 15, 16, 17, 18, 19, 20, 21, 22, 23, 24, 25, 26, 27, 28, 29, 30]) = [])
    (hQ : ∀ (d : Option Tmp) (v : Value) c a w, Q (.panic c) (a.put d v) w → Q (.panic c) a w)
    (hsz : 40 < a0.tmps.size) (e0 : a0.eval (.tmp 0) = .slice (some ⟨g, off, none⟩) n c) (e3 : a0.eval (.tmp 3) = .int .i64 (k : Int))
    (hS0 : S w5.drew)
    (keep : ∀ u u', S u → S u' → S u') (hk : k < n) (hk1 : k ≤ n) (hnc : n ≤ c) (LS : ∀ u, S u → (loadVar 9 ⟨g, off + k, none⟩).run Tryz.prog u = .ok (.string s) u)
    (H1 : ∀ u, S u → Calls Tryz.prog 21 #[.slice (some ⟨g, off, none⟩) k c, .string s] u fun e w' => e = .returned (.bool false) ∧ w' = u)
    (H2 : ∀ u, S u → Calls Tryz.prog 22 #[.agg #[.string s, .int .i8 0, .int .i64 0, .string ⟨#[]⟩]] u fun e w' => e = .returned (.int .i64 er) ∧ S w') (EN : ∀ u : World, (binOp .neq 31 (.int .i64 er) (.int .i64 0)).run Tryz.prog u = .ok (.bool true) u)
    (F : ∀ (wc : World), S wc → Q .normal (((((((((((((((((((((((((((((((a0.put (some 10) (.slice (some ⟨g, off, none⟩) n c)).put (some 11) (.int .i64 (k : Int))).put (some 12) (.slice (some ⟨g, off, none⟩) k c)).put (some 13) (.slice (some ⟨g, off, none⟩) n c)).put (some 14) (.int .i64 (k : Int))).put (some 15) (.pointer (some ⟨g, off + k, none⟩))).put (some 16) (.string s)).put (some 17) (.bool false)).put (some 18) (.bool false)).put (some 19) (.slice (some ⟨g, off, none⟩) n c)).put (some 20) (.int .i64 (k : Int))).put (some 21) (.pointer (some ⟨g, off + k, none⟩))).put (some 22) (.string s)).put (some 23) (.agg #[.string s, .int .i8 0, .int .i64 0, .string ⟨#[]⟩])).put (some 24) (.int .i64 er)).put (some 25) (.bool true)).put (some 26) (.bool true)).put (some 27) (.bool true)).put (some 28) (undef)).put (some 29) (undef)).put (some 30) (undef)).put (some 31) (undef)).put (some 32) (undef)).put (some 33) (.bool true)).put (some 34) (.bool true)).put (some 35) (undef)).put (some 36) (undef)).put (some 37) (undef)).put (some 38) (undef)).put (some 39) (undef)).put (some 40) (.bool true)) wc) :
    wpAnyH Tryz.prog .any ops Q S 31 (LR 31 []) a0 w5.drew := by
  have hall : ∀ p ∈ pstwB_takes, Region.free .any ops (LR 31 p.1) p.2 = true ∧ (Region.ready .any ops (LR 31 p.1)).contains p.2 = true := by
    intro p hp
    have := List.all_eq_true.1 hq p hp
    simpa using this
  unfold pstwB_takes at hall
  obtain ⟨og8, hog8, _, _, dog8⟩ := isOpG_out q8
  obtain ⟨og17, hog17, _, _, dog17⟩ := isOpG_out q17
  obtain ⟨og24, hog24, _, _, dog24⟩ := isOpG_out q24
  obtain ⟨o0, ho, hg, hop, hd⟩ := isOpG_out q0
  have hfr := hall ([], 0) (by simp)
  refine wpAnyH_take (listed := LR 31 []) (v := .slice (some ⟨g, off, none⟩) n c) ho hs hfr.1 hfr.2 (hQ _ _) (Or.inl ⟨(wantedN hg), fun w' hS => run_move _ _ hop w' (by (repeat rw [eval_far _ _ (by decide)]); exact e0)⟩) hS0 ?_
  rw [hd, ← LR_snoc]
  clear ho hg hop hd hfr
  obtain ⟨o1, ho, hg, hop, hd⟩ := isOpG_out q1
  have hfr := hall ([0], 1) (by simp)
  refine wpAnyH_take (listed := LR 31 [0]) (v := .int .i64 (k : Int)) ho hs hfr.1 hfr.2 (hQ _ _) (Or.inl ⟨(wantedN hg), fun w' hS => run_move _ _ hop w' (by (repeat rw [eval_far _ _ (by decide)]); exact e3)⟩) hS0 ?_
  rw [hd, ← LR_snoc]
  clear ho hg hop hd hfr
  obtain ⟨o2, ho, hg, hop, hd⟩ := isOpG_out q2
  have hfr := hall ([0, 1], 2) (by simp)
  refine wpAnyH_take (listed := LR 31 [0, 1]) (v := .slice (some ⟨g, off, none⟩) k c) ho hs hfr.1 hfr.2 (hQ _ _) (Or.inl ⟨(wantedN hg), fun w' hS => run_slHiPs _ _ hop w' (by (repeat (first | rw [eval_same _ _ (by (try simp only [put_size]); omega)] | rw [eval_far _ _ (by decide)]))) (by (repeat (first | rw [eval_same _ _ (by (try simp only [put_size]); omega)] | rw [eval_far _ _ (by decide)]))) hk1 hnc⟩) hS0 ?_
  rw [hd, ← LR_snoc]
  clear ho hg hop hd hfr
  obtain ⟨o3, ho, hg, hop, hd⟩ := isOpG_out q3
  have hfr := hall ([0, 1, 2], 3) (by simp)
  refine wpAnyH_take (listed := LR 31 [0, 1, 2]) (v := .slice (some ⟨g, off, none⟩) n c) ho hs hfr.1 hfr.2 (hQ _ _) (Or.inl ⟨(wantedN hg), fun w' hS => run_move _ _ hop w' (by (repeat rw [eval_far _ _ (by decide)]); exact e0)⟩) hS0 ?_
  rw [hd, ← LR_snoc]
  clear ho hg hop hd hfr
  obtain ⟨o4, ho, hg, hop, hd⟩ := isOpG_out q4
  have hfr := hall ([0, 1, 2, 3], 4) (by simp)
  refine wpAnyH_take (listed := LR 31 [0, 1, 2, 3]) (v := .int .i64 (k : Int)) ho hs hfr.1 hfr.2 (hQ _ _) (Or.inl ⟨(wantedN hg), fun w' hS => run_move _ _ hop w' (by (repeat rw [eval_far _ _ (by decide)]); exact e3)⟩) hS0 ?_
  rw [hd, ← LR_snoc]
  clear ho hg hop hd hfr
  obtain ⟨o5, ho, hg, hop, hd⟩ := isOpG_out q5
  have hfr := hall ([0, 1, 2, 3, 4], 5) (by simp)
  refine wpAnyH_take (listed := LR 31 [0, 1, 2, 3, 4]) (v := .pointer (some ⟨g, off + k, none⟩)) ho hs hfr.1 hfr.2 (hQ _ _) (Or.inl ⟨(wantedN hg), fun w' hS => run_idxPs _ _ hop w' (by (repeat (first | rw [eval_same _ _ (by (try simp only [put_size]); omega)] | rw [eval_far _ _ (by decide)]))) (by (repeat (first | rw [eval_same _ _ (by (try simp only [put_size]); omega)] | rw [eval_far _ _ (by decide)]))) hk⟩) hS0 ?_
  rw [hd, ← LR_snoc]
  clear ho hg hop hd hfr
  obtain ⟨o6, ho, hg, hop, hd⟩ := isOpG_out q6
  have hfr := hall ([0, 1, 2, 3, 4, 5], 6) (by simp)
  refine wpAnyH_take (listed := LR 31 [0, 1, 2, 3, 4, 5]) (v := .string s) ho hs hfr.1 hfr.2 (hQ _ _) (Or.inl ⟨(wantedN hg), fun w' hS => run_loadG _ _ hop w' (by (repeat (first | rw [eval_same _ _ (by (try simp only [put_size]); omega)] | rw [eval_far _ _ (by decide)]))) (LS _ hS)⟩) hS0 ?_
  rw [hd, ← LR_snoc]
  clear ho hg hop hd hfr
  refine wpAnyH_all r7 (by simp) ?_
  intro i hi
  obtain rfl := List.mem_singleton.1 hi
  obtain ⟨o7, ho, hg, hop, hd⟩ := isOpG_out q7
  have x7_0 : ((((((((a0.put (some 10) (.slice (some ⟨g, off, none⟩) n c)).put (some 11) (.int .i64 (k : Int))).put (some 12) (.slice (some ⟨g, off, none⟩) k c)).put (some 13) (.slice (some ⟨g, off, none⟩) n c)).put (some 14) (.int .i64 (k : Int))).put (some 15) (.pointer (some ⟨g, off + k, none⟩))).put (some 16) (.string s))).eval (.tmp 12) = .slice (some ⟨g, off, none⟩) k c := (by (repeat (first | rw [eval_same _ _ (by (try simp only [put_size]); omega)] | rw [eval_far _ _ (by decide)])))
  have x7_1 : ((((((((a0.put (some 10) (.slice (some ⟨g, off, none⟩) n c)).put (some 11) (.int .i64 (k : Int))).put (some 12) (.slice (some ⟨g, off, none⟩) k c)).put (some 13) (.slice (some ⟨g, off, none⟩) n c)).put (some 14) (.int .i64 (k : Int))).put (some 15) (.pointer (some ⟨g, off + k, none⟩))).put (some 16) (.string s))).eval (.tmp 16) = .string s := (by (repeat (first | rw [eval_same _ _ (by (try simp only [put_size]); omega)] | rw [eval_far _ _ (by decide)])))
  refine wpOp_callG ho (wantedN hg) (run_callV 21 Tryz.func21 (by kernel_rfl) (by kernel_rfl) #[.tmp 12, .tmp 16] _ hop #[.slice (some ⟨g, off, none⟩) k c, .string s] (by simp only [List.map_toArray, List.map_cons, List.map_nil, x7_0, x7_1])) ?_
  refine (H1 _ hS0).mono ?_
  rintro e u1 ⟨rfl, rfl⟩
  refine ⟨_, rfl, hS0, ?_⟩
  rw [hd]
  clear ho hg hop hd
  rw [← LR_snoc]
  obtain ⟨o8, ho, hg, hop, hd⟩ := isOpG_out q8
  have hfr := hall ([0, 1, 2, 3, 4, 5, 6, 7], 8) (by simp)
  refine wpAnyH_take (listed := LR 31 [0, 1, 2, 3, 4, 5, 6, 7]) (v := .bool false) ho hs hfr.1 hfr.2 (hQ _ _) (Or.inl ⟨(wantedN hg), fun w' hS => run_move _ _ hop w' (by (repeat (first | rw [eval_same _ _ (by (try simp only [put_size]); omega)] | rw [eval_far _ _ (by decide)])))⟩) hS0 ?_
  rw [hd, ← LR_snoc]
  clear ho hg hop hd hfr
  obtain ⟨o9, ho, hg, hop, hd⟩ := isOpG_out q9
  have hfr := hall ([0, 1, 2, 3, 4, 5, 6, 7, 8], 9) (by simp)
  refine wpAnyH_take (listed := LR 31 [0, 1, 2, 3, 4, 5, 6, 7, 8]) (v := .slice (some ⟨g, off, none⟩) n c) ho hs hfr.1 hfr.2 (hQ _ _) (Or.inl ⟨((wantedB hog8 dog8 hg (by (repeat (first | rw [tmps_same _ _ (by (try simp only [put_size]); omega)] | rw [tmps_far _ _ (by decide)])))).trans (by decide)), fun w' hS => run_move _ _ hop w' (by (repeat rw [eval_far _ _ (by decide)]); exact e0)⟩) hS0 ?_
  rw [hd, ← LR_snoc]
  clear ho hg hop hd hfr
  obtain ⟨o10, ho, hg, hop, hd⟩ := isOpG_out q10
  have hfr := hall ([0, 1, 2, 3, 4, 5, 6, 7, 8, 9], 10) (by simp)
  refine wpAnyH_take (listed := LR 31 [0, 1, 2, 3, 4, 5, 6, 7, 8, 9]) (v := .int .i64 (k : Int)) ho hs hfr.1 hfr.2 (hQ _ _) (Or.inl ⟨((wantedB hog8 dog8 hg (by (repeat (first | rw [tmps_same _ _ (by (try simp only [put_size]); omega)] | rw [tmps_far _ _ (by decide)])))).trans (by decide)), fun w' hS => run_move _ _ hop w' (by (repeat rw [eval_far _ _ (by decide)]); exact e3)⟩) hS0 ?_
  rw [hd, ← LR_snoc]
  clear ho hg hop hd hfr
  obtain ⟨o11, ho, hg, hop, hd⟩ := isOpG_out q11
  have hfr := hall ([0, 1, 2, 3, 4, 5, 6, 7, 8, 9, 10], 11) (by simp)
  refine wpAnyH_take (listed := LR 31 [0, 1, 2, 3, 4, 5, 6, 7, 8, 9, 10]) (v := .pointer (some ⟨g, off + k, none⟩)) ho hs hfr.1 hfr.2 (hQ _ _) (Or.inl ⟨((wantedB hog8 dog8 hg (by (repeat (first | rw [tmps_same _ _ (by (try simp only [put_size]); omega)] | rw [tmps_far _ _ (by decide)])))).trans (by decide)), fun w' hS => run_idxPs _ _ hop w' (by (repeat (first | rw [eval_same _ _ (by (try simp only [put_size]); omega)] | rw [eval_far _ _ (by decide)]))) (by (repeat (first | rw [eval_same _ _ (by (try simp only [put_size]); omega)] | rw [eval_far _ _ (by decide)]))) hk⟩) hS0 ?_
  rw [hd, ← LR_snoc]
  clear ho hg hop hd hfr
  obtain ⟨o12, ho, hg, hop, hd⟩ := isOpG_out q12
  have hfr := hall ([0, 1, 2, 3, 4, 5, 6, 7, 8, 9, 10, 11], 12) (by simp)
  refine wpAnyH_take (listed := LR 31 [0, 1, 2, 3, 4, 5, 6, 7, 8, 9, 10, 11]) (v := .string s) ho hs hfr.1 hfr.2 (hQ _ _) (Or.inl ⟨((wantedB hog8 dog8 hg (by (repeat (first | rw [tmps_same _ _ (by (try simp only [put_size]); omega)] | rw [tmps_far _ _ (by decide)])))).trans (by decide)), fun w' hS => run_loadG _ _ hop w' (by (repeat (first | rw [eval_same _ _ (by (try simp only [put_size]); omega)] | rw [eval_far _ _ (by decide)]))) (LS _ hS)⟩) hS0 ?_
  rw [hd, ← LR_snoc]
  clear ho hg hop hd hfr
  obtain ⟨o13, ho, hg, hop, hd⟩ := isOpG_out q13
  have hfr := hall ([0, 1, 2, 3, 4, 5, 6, 7, 8, 9, 10, 11, 12], 13) (by simp)
  refine wpAnyH_take (listed := LR 31 [0, 1, 2, 3, 4, 5, 6, 7, 8, 9, 10, 11, 12]) (v := .agg #[.string s, .int .i8 0, .int .i64 0, .string ⟨#[]⟩]) ho hs hfr.1 hfr.2 (hQ _ _) (Or.inl ⟨((wantedB hog8 dog8 hg (by (repeat (first | rw [tmps_same _ _ (by (try simp only [put_size]); omega)] | rw [tmps_far _ _ (by decide)])))).trans (by decide)), fun w' hS => run_buildTm _ _ hop w' (by (repeat (first | rw [eval_same _ _ (by (try simp only [put_size]); omega)] | rw [eval_far _ _ (by decide)])))⟩) hS0 ?_
  rw [hd, ← LR_snoc]
  clear ho hg hop hd hfr
  refine wpAnyH_all r14 (by simp) ?_
  intro i hi
  obtain rfl := List.mem_singleton.1 hi
  obtain ⟨o14, ho, hg, hop, hd⟩ := isOpG_out q14
  have x14_0 : (((((((((((((((a0.put (some 10) (.slice (some ⟨g, off, none⟩) n c)).put (some 11) (.int .i64 (k : Int))).put (some 12) (.slice (some ⟨g, off, none⟩) k c)).put (some 13) (.slice (some ⟨g, off, none⟩) n c)).put (some 14) (.int .i64 (k : Int))).put (some 15) (.pointer (some ⟨g, off + k, none⟩))).put (some 16) (.string s)).put (some 17) (.bool false)).put (some 18) (.bool false)).put (some 19) (.slice (some ⟨g, off, none⟩) n c)).put (some 20) (.int .i64 (k : Int))).put (some 21) (.pointer (some ⟨g, off + k, none⟩))).put (some 22) (.string s)).put (some 23) (.agg #[.string s, .int .i8 0, .int .i64 0, .string ⟨#[]⟩]))).eval (.tmp 23) = .agg #[.string s, .int .i8 0, .int .i64 0, .string ⟨#[]⟩] := (by (repeat (first | rw [eval_same _ _ (by (try simp only [put_size]); omega)] | rw [eval_far _ _ (by decide)])))
  refine wpOp_callG ho ((wantedB hog8 dog8 hg (by (repeat (first | rw [tmps_same _ _ (by (try simp only [put_size]); omega)] | rw [tmps_far _ _ (by decide)])))).trans (by decide)) (run_callV 22 Tryz.func22 (by kernel_rfl) (by kernel_rfl) #[.tmp 23] _ hop #[.agg #[.string s, .int .i8 0, .int .i64 0, .string ⟨#[]⟩]] (by simp only [List.map_toArray, List.map_cons, List.map_nil, x14_0])) ?_
  refine (H2 _ hS0).mono ?_
  rintro e u2 ⟨rfl, hS2⟩
  have hS14 := keep _ _ hS0 hS2
  refine ⟨_, rfl, hS14, ?_⟩
  rw [hd]
  clear ho hg hop hd
  rw [← LR_snoc]
  obtain ⟨o15, ho, hg, hop, hd⟩ := isOpG_out q15
  have hfr := hall ([0, 1, 2, 3, 4, 5, 6, 7, 8, 9, 10, 11, 12, 13, 14], 15) (by simp)
  refine wpAnyH_take (listed := LR 31 [0, 1, 2, 3, 4, 5, 6, 7, 8, 9, 10, 11, 12, 13, 14]) (v := .bool true) ho hs hfr.1 hfr.2 (hQ _ _) (Or.inl ⟨((wantedB hog8 dog8 hg (by (repeat (first | rw [tmps_same _ _ (by (try simp only [put_size]); omega)] | rw [tmps_far _ _ (by decide)])))).trans (by decide)), fun w' hS => run_binV _ _ hop w' (by (repeat (first | rw [eval_same _ _ (by (try simp only [put_size]); omega)] | rw [eval_far _ _ (by decide)]))) rfl (by first | rfl | go_simp) (EN w')⟩) hS14 ?_
  rw [hd, ← LR_snoc]
  clear ho hg hop hd hfr
  obtain ⟨o16, ho, hg, hop, hd⟩ := isOpG_out q16
  have hfr := hall ([0, 1, 2, 3, 4, 5, 6, 7, 8, 9, 10, 11, 12, 13, 14, 15], 16) (by simp)
  refine wpAnyH_take (listed := LR 31 [0, 1, 2, 3, 4, 5, 6, 7, 8, 9, 10, 11, 12, 13, 14, 15]) (v := .bool true) ho hs hfr.1 hfr.2 (hQ _ _) (Or.inl ⟨(wantedN hg), fun w' hS => run_pickF _ _ hop w' (by (repeat (first | rw [eval_same _ _ (by (try simp only [put_size]); omega)] | rw [eval_far _ _ (by decide)]))) (by (repeat (first | rw [eval_same _ _ (by (try simp only [put_size]); omega)] | rw [eval_far _ _ (by decide)])))⟩) hS14 ?_
  rw [hd, ← LR_snoc]
  clear ho hg hop hd hfr
  obtain ⟨o17, ho, hg, hop, hd⟩ := isOpG_out q17
  have hfr := hall ([0, 1, 2, 3, 4, 5, 6, 7, 8, 9, 10, 11, 12, 13, 14, 15, 16], 17) (by simp)
  refine wpAnyH_take (listed := LR 31 [0, 1, 2, 3, 4, 5, 6, 7, 8, 9, 10, 11, 12, 13, 14, 15, 16]) (v := .bool true) ho hs hfr.1 hfr.2 (hQ _ _) (Or.inl ⟨(wantedN hg), fun w' hS => run_move _ _ hop w' (by (repeat (first | rw [eval_same _ _ (by (try simp only [put_size]); omega)] | rw [eval_far _ _ (by decide)])))⟩) hS14 ?_
  rw [hd, ← LR_snoc]
  clear ho hg hop hd hfr
  obtain ⟨o18, ho, hg, hop, hd⟩ := isOpG_out q18
  have hfr := hall ([0, 1, 2, 3, 4, 5, 6, 7, 8, 9, 10, 11, 12, 13, 14, 15, 16, 17], 18) (by simp)
  refine wpAnyH_take (listed := LR 31 [0, 1, 2, 3, 4, 5, 6, 7, 8, 9, 10, 11, 12, 13, 14, 15, 16, 17]) (v := undef) ho hs hfr.1 hfr.2 (hQ _ _) (Or.inr ⟨((wantedB hog17 dog17 hg (by (repeat (first | rw [tmps_same _ _ (by (try simp only [put_size]); omega)] | rw [tmps_far _ _ (by decide)])))).trans (by decide)), rfl⟩) hS14 ?_
  rw [hd, ← LR_snoc]
  clear ho hg hop hd hfr
  obtain ⟨o19, ho, hg, hop, hd⟩ := isOpG_out q19
  have hfr := hall ([0, 1, 2, 3, 4, 5, 6, 7, 8, 9, 10, 11, 12, 13, 14, 15, 16, 17, 18], 19) (by simp)
  refine wpAnyH_take (listed := LR 31 [0, 1, 2, 3, 4, 5, 6, 7, 8, 9, 10, 11, 12, 13, 14, 15, 16, 17, 18]) (v := undef) ho hs hfr.1 hfr.2 (hQ _ _) (Or.inr ⟨((wantedB hog17 dog17 hg (by (repeat (first | rw [tmps_same _ _ (by (try simp only [put_size]); omega)] | rw [tmps_far _ _ (by decide)])))).trans (by decide)), rfl⟩) hS14 ?_
  rw [hd, ← LR_snoc]
  clear ho hg hop hd hfr
  obtain ⟨o20, ho, hg, hop, hd⟩ := isOpG_out q20
  have hfr := hall ([0, 1, 2, 3, 4, 5, 6, 7, 8, 9, 10, 11, 12, 13, 14, 15, 16, 17, 18, 19], 20) (by simp)
  refine wpAnyH_take (listed := LR 31 [0, 1, 2, 3, 4, 5, 6, 7, 8, 9, 10, 11, 12, 13, 14, 15, 16, 17, 18, 19]) (v := undef) ho hs hfr.1 hfr.2 (hQ _ _) (Or.inr ⟨((wantedB hog17 dog17 hg (by (repeat (first | rw [tmps_same _ _ (by (try simp only [put_size]); omega)] | rw [tmps_far _ _ (by decide)])))).trans (by decide)), rfl⟩) hS14 ?_
  rw [hd, ← LR_snoc]
  clear ho hg hop hd hfr
  obtain ⟨o21, ho, hg, hop, hd⟩ := isOpG_out q21
  have hfr := hall ([0, 1, 2, 3, 4, 5, 6, 7, 8, 9, 10, 11, 12, 13, 14, 15, 16, 17, 18, 19, 20], 21) (by simp)
  refine wpAnyH_take (listed := LR 31 [0, 1, 2, 3, 4, 5, 6, 7, 8, 9, 10, 11, 12, 13, 14, 15, 16, 17, 18, 19, 20]) (v := undef) ho hs hfr.1 hfr.2 (hQ _ _) (Or.inr ⟨((wantedB hog17 dog17 hg (by (repeat (first | rw [tmps_same _ _ (by (try simp only [put_size]); omega)] | rw [tmps_far _ _ (by decide)])))).trans (by decide)), rfl⟩) hS14 ?_
  rw [hd, ← LR_snoc]
  clear ho hg hop hd hfr
  obtain ⟨o22, ho, hg, hop, hd⟩ := isOpG_out q22
  have hfr := hall ([0, 1, 2, 3, 4, 5, 6, 7, 8, 9, 10, 11, 12, 13, 14, 15, 16, 17, 18, 19, 20, 21], 22) (by simp)
  refine wpAnyH_take (listed := LR 31 [0, 1, 2, 3, 4, 5, 6, 7, 8, 9, 10, 11, 12, 13, 14, 15, 16, 17, 18, 19, 20, 21]) (v := undef) ho hs hfr.1 hfr.2 (hQ _ _) (Or.inr ⟨((wantedB hog17 dog17 hg (by (repeat (first | rw [tmps_same _ _ (by (try simp only [put_size]); omega)] | rw [tmps_far _ _ (by decide)])))).trans (by decide)), rfl⟩) hS14 ?_
  rw [hd, ← LR_snoc]
  clear ho hg hop hd hfr
  obtain ⟨o23, ho, hg, hop, hd⟩ := isOpG_out q23
  have hfr := hall ([0, 1, 2, 3, 4, 5, 6, 7, 8, 9, 10, 11, 12, 13, 14, 15, 16, 17, 18, 19, 20, 21, 22], 23) (by simp)
  refine wpAnyH_take (listed := LR 31 [0, 1, 2, 3, 4, 5, 6, 7, 8, 9, 10, 11, 12, 13, 14, 15, 16, 17, 18, 19, 20, 21, 22]) (v := .bool true) ho hs hfr.1 hfr.2 (hQ _ _) (Or.inl ⟨(wantedN hg), fun w' hS => run_pickT _ _ hop w' (by (repeat (first | rw [eval_same _ _ (by (try simp only [put_size]); omega)] | rw [eval_far _ _ (by decide)]))) rfl⟩) hS14 ?_
  rw [hd, ← LR_snoc]
  clear ho hg hop hd hfr
  obtain ⟨o24, ho, hg, hop, hd⟩ := isOpG_out q24
  have hfr := hall ([0, 1, 2, 3, 4, 5, 6, 7, 8, 9, 10, 11, 12, 13, 14, 15, 16, 17, 18, 19, 20, 21, 22, 23], 24) (by simp)
  refine wpAnyH_take (listed := LR 31 [0, 1, 2, 3, 4, 5, 6, 7, 8, 9, 10, 11, 12, 13, 14, 15, 16, 17, 18, 19, 20, 21, 22, 23]) (v := .bool true) ho hs hfr.1 hfr.2 (hQ _ _) (Or.inl ⟨(wantedN hg), fun w' hS => run_move _ _ hop w' (by (repeat (first | rw [eval_same _ _ (by (try simp only [put_size]); omega)] | rw [eval_far _ _ (by decide)])))⟩) hS14 ?_
  rw [hd, ← LR_snoc]
  clear ho hg hop hd hfr
  obtain ⟨o25, ho, hg, hop, hd⟩ := isOpG_out q25
  have hfr := hall ([0, 1, 2, 3, 4, 5, 6, 7, 8, 9, 10, 11, 12, 13, 14, 15, 16, 17, 18, 19, 20, 21, 22, 23, 24], 25) (by simp)
  refine wpAnyH_take (listed := LR 31 [0, 1, 2, 3, 4, 5, 6, 7, 8, 9, 10, 11, 12, 13, 14, 15, 16, 17, 18, 19, 20, 21, 22, 23, 24]) (v := undef) ho hs hfr.1 hfr.2 (hQ _ _) (Or.inr ⟨((wantedB hog24 dog24 hg (by (repeat (first | rw [tmps_same _ _ (by (try simp only [put_size]); omega)] | rw [tmps_far _ _ (by decide)])))).trans (by decide)), rfl⟩) hS14 ?_
  rw [hd, ← LR_snoc]
  clear ho hg hop hd hfr
  obtain ⟨o26, ho, hg, hop, hd⟩ := isOpG_out q26
  have hfr := hall ([0, 1, 2, 3, 4, 5, 6, 7, 8, 9, 10, 11, 12, 13, 14, 15, 16, 17, 18, 19, 20, 21, 22, 23, 24, 25], 26) (by simp)
  refine wpAnyH_take (listed := LR 31 [0, 1, 2, 3, 4, 5, 6, 7, 8, 9, 10, 11, 12, 13, 14, 15, 16, 17, 18, 19, 20, 21, 22, 23, 24, 25]) (v := undef) ho hs hfr.1 hfr.2 (hQ _ _) (Or.inr ⟨((wantedB hog24 dog24 hg (by (repeat (first | rw [tmps_same _ _ (by (try simp only [put_size]); omega)] | rw [tmps_far _ _ (by decide)])))).trans (by decide)), rfl⟩) hS14 ?_
  rw [hd, ← LR_snoc]
  clear ho hg hop hd hfr
  obtain ⟨o27, ho, hg, hop, hd⟩ := isOpG_out q27
  have hfr := hall ([0, 1, 2, 3, 4, 5, 6, 7, 8, 9, 10, 11, 12, 13, 14, 15, 16, 17, 18, 19, 20, 21, 22, 23, 24, 25, 26], 27) (by simp)
  refine wpAnyH_take (listed := LR 31 [0, 1, 2, 3, 4, 5, 6, 7, 8, 9, 10, 11, 12, 13, 14, 15, 16, 17, 18, 19, 20, 21, 22, 23, 24, 25, 26]) (v := undef) ho hs hfr.1 hfr.2 (hQ _ _) (Or.inr ⟨((wantedB hog24 dog24 hg (by (repeat (first | rw [tmps_same _ _ (by (try simp only [put_size]); omega)] | rw [tmps_far _ _ (by decide)])))).trans (by decide)), rfl⟩) hS14 ?_
  rw [hd, ← LR_snoc]
  clear ho hg hop hd hfr
  obtain ⟨o28, ho, hg, hop, hd⟩ := isOpG_out q28
  have hfr := hall ([0, 1, 2, 3, 4, 5, 6, 7, 8, 9, 10, 11, 12, 13, 14, 15, 16, 17, 18, 19, 20, 21, 22, 23, 24, 25, 26, 27], 28) (by simp)
  refine wpAnyH_take (listed := LR 31 [0, 1, 2, 3, 4, 5, 6, 7, 8, 9, 10, 11, 12, 13, 14, 15, 16, 17, 18, 19, 20, 21, 22, 23, 24, 25, 26, 27]) (v := undef) ho hs hfr.1 hfr.2 (hQ _ _) (Or.inr ⟨((wantedB hog24 dog24 hg (by (repeat (first | rw [tmps_same _ _ (by (try simp only [put_size]); omega)] | rw [tmps_far _ _ (by decide)])))).trans (by decide)), rfl⟩) hS14 ?_
  rw [hd, ← LR_snoc]
  clear ho hg hop hd hfr
  obtain ⟨o29, ho, hg, hop, hd⟩ := isOpG_out q29
  have hfr := hall ([0, 1, 2, 3, 4, 5, 6, 7, 8, 9, 10, 11, 12, 13, 14, 15, 16, 17, 18, 19, 20, 21, 22, 23, 24, 25, 26, 27, 28], 29) (by simp)
  refine wpAnyH_take (listed := LR 31 [0, 1, 2, 3, 4, 5, 6, 7, 8, 9, 10, 11, 12, 13, 14, 15, 16, 17, 18, 19, 20, 21, 22, 23, 24, 25, 26, 27, 28]) (v := undef) ho hs hfr.1 hfr.2 (hQ _ _) (Or.inr ⟨((wantedB hog24 dog24 hg (by (repeat (first | rw [tmps_same _ _ (by (try simp only [put_size]); omega)] | rw [tmps_far _ _ (by decide)])))).trans (by decide)), rfl⟩) hS14 ?_
  rw [hd, ← LR_snoc]
  clear ho hg hop hd hfr
  obtain ⟨o30, ho, hg, hop, hd⟩ := isOpG_out q30
  have hfr := hall ([0, 1, 2, 3, 4, 5, 6, 7, 8, 9, 10, 11, 12, 13, 14, 15, 16, 17, 18, 19, 20, 21, 22, 23, 24, 25, 26, 27, 28, 29], 30) (by simp)
  refine wpAnyH_take (listed := LR 31 [0, 1, 2, 3, 4, 5, 6, 7, 8, 9, 10, 11, 12, 13, 14, 15, 16, 17, 18, 19, 20, 21, 22, 23, 24, 25, 26, 27, 28, 29]) (v := .bool true) ho hs hfr.1 hfr.2 (hQ _ _) (Or.inl ⟨(wantedN hg), fun w' hS => run_pickT _ _ hop w' (by (repeat (first | rw [eval_same _ _ (by (try simp only [put_size]); omega)] | rw [eval_far _ _ (by decide)]))) rfl⟩) hS14 ?_
  rw [hd, ← LR_snoc]
  clear ho hg hop hd hfr
  exact wpAnyH_done rend (F _ hS14) _
def pstwC_takes : List (List Nat × Nat) := [([], 0), ([0], 1), ([0, 1], 2), ([0, 1, 2], 3), ([0, 1, 2, 3], 4), ([0, 1, 2, 3, 4], 5), ([0, 1, 2, 3, 4, 5], 6), ([0, 1, 2, 3, 4, 5, 6, 7], 8), ([0, 1, 2, 3, 4, 5, 6, 7, 8], 9), ([0, 1, 2, 3, 4, 5, 6, 7, 8, 9], 10), ([0, 1, 2, 3, 4, 5, 6, 7, 8, 9, 10], 11), ([0, 1, 2, 3, 4, 5, 6, 7, 8, 9, 10, 11], 12), ([0, 1, 2, 3, 4, 5, 6, 7, 8, 9, 10, 11, 12], 13), ([0, 1, 2, 3, 4, 5, 6, 7, 8, 9, 10, 11, 12, 13, 14], 15), ([0, 1, 2, 3, 4, 5, 6, 7, 8, 9, 10, 11, 12, 13, 14, 15], 16), ([0, 1, 2, 3, 4, 5, 6, 7, 8, 9, 10, 11, 12, 13, 14, 15, 16], 17), ([0, 1, 2, 3, 4, 5, 6, 7, 8, 9, 10, 11, 12, 13, 14, 15, 16, 17], 18), ([0, 1, 2, 3, 4, 5, 6, 7, 8, 9, 10, 11, 12, 13, 14, 15, 16, 17, 18], 19), ([0, 1, 2, 3, 4, 5, 6, 7, 8, 9, 10, 11, 12, 13, 14, 15, 16, 17, 18, 19], 20), ([0, 1, 2, 3, 4, 5, 6, 7, 8, 9, 10, 11, 12, 13, 14, 15, 16, 17, 18, 19, 20], 21), ([0, 1, 2, 3, 4, 5, 6, 7, 8, 9, 10, 11, 12, 13, 14, 15, 16, 17, 18, 19, 20, 21], 22), ([0, 1, 2, 3, 4, 5, 6, 7, 8, 9, 10, 11, 12, 13, 14, 15, 16, 17, 18, 19, 20, 21, 22], 23), ([0, 1, 2, 3, 4, 5, 6, 7, 8, 9, 10, 11, 12, 13, 14, 15, 16, 17, 18, 19, 20, 21, 22, 23], 24), ([0, 1, 2, 3, 4, 5, 6, 7, 8, 9, 10, 11, 12, 13, 14, 15, 16, 17, 18, 19, 20, 21, 22, 23, 24], 25), ([0, 1, 2, 3, 4, 5, 6, 7, 8, 9, 10, 11, 12, 13, 14, 15, 16, 17, 18, 19, 20, 21, 22, 23, 24, 25], 26), ([0, 1, 2, 3, 4, 5, 6, 7, 8, 9, 10, 11, 12, 13, 14, 15, 16, 17, 18, 19, 20, 21, 22, 23, 24, 25, 26], 27), ([0, 1, 2, 3, 4, 5, 6, 7, 8, 9, 10, 11, 12, 13, 14, 15, 16, 17, 18, 19, 20, 21, 22, 23, 24, 25, 26, 27], 28), ([0, 1, 2, 3, 4, 5, 6, 7, 8, 9, 10, 11, 12, 13, 14, 15, 16, 17, 18, 19, 20, 21, 22, 23, 24, 25, 26, 27, 28], 29), ([0, 1, 2, 3, 4, 5, 6, 7, 8, 9, 10, 11, 12, 13, 14, 15, 16, 17, 18, 19, 20, 21, 22, 23, 24, 25, 26, 27, 28, 29], 30)]
set_option maxHeartbeats 3200000 in
theorem pstwC {ops : Array Oper} {Q : Exit → Act → World → Prop} {S : World → Prop} {a0 : Act} {w5 : World} {g off n c k : Nat} {s : ByteArray} {er : Int} {ty1 ty2 : Array TypeId}
    (q0 : isOpG ops 0 none (.move (.tmp 0)) (some 10))
    (q1 : isOpG ops 1 none (.move (.tmp 3)) (some 11))
    (q2 : isOpG ops 2 none (.slice 26 (.tmp 10) none (some (.tmp 11)) none) (some 12))
    (q3 : isOpG ops 3 none (.move (.tmp 0)) (some 13))
    (q4 : isOpG ops 4 none (.move (.tmp 3)) (some 14))
    (q5 : isOpG ops 5 none (.indexAddr 26 (.tmp 13) (.tmp 14)) (some 15))
    (q6 : isOpG ops 6 none (.load 9 (.tmp 15)) (some 16))
    (q7 : isOpG ops 7 none (.call { callee := .value (.func 21), args := #[.tmp 12, .tmp 16], argTypes := ty1 }) (some 17))
    (q8 : isOpG ops 8 none (.move (.tmp 17)) (some 18))
    (q9 : isOpG ops 9 (some (8, false)) (.move (.tmp 0)) (some 19))
    (q10 : isOpG ops 10 (some (8, false)) (.move (.tmp 3)) (some 20))
    (q11 : isOpG ops 11 (some (8, false)) (.indexAddr 26 (.tmp 19) (.tmp 20)) (some 21))
    (q12 : isOpG ops 12 (some (8, false)) (.load 9 (.tmp 21)) (some 22))
    (q13 : isOpG ops 13 (some (8, false)) (.build 48 #[(0, .tmp 22)]) (some 23))
    (q14 : isOpG ops 14 (some (8, false)) (.call { callee := .value (.func 22), args := #[.tmp 23], argTypes := ty2 }) (some 24))
    (q15 : isOpG ops 15 (some (8, false)) (.binOp .neq 31 (.tmp 24) (.const (.int .i64 0)) 31) (some 25))
    (q16 : isOpG ops 16 none (.pick (.tmp 18) (.const (.bool true)) (.tmp 25)) (some 26))
    (q17 : isOpG ops 17 none (.move (.tmp 26)) (some 27))
    (q18 : isOpG ops 18 (some (17, false)) (.move (.tmp 0)) (some 28))
    (q19 : isOpG ops 19 (some (17, false)) (.move (.tmp 3)) (some 29))
    (q20 : isOpG ops 20 (some (17, false)) (.indexAddr 26 (.tmp 28) (.tmp 29)) (some 30))
    (q21 : isOpG ops 21 (some (17, false)) (.load 9 (.tmp 30)) (some 31))
    (q22 : isOpG ops 22 (some (17, false)) (.binOp .eql 9 (.tmp 31) (.const (.string ⟨#[]⟩)) 9) (some 32))
    (q23 : isOpG ops 23 none (.pick (.tmp 27) (.const (.bool true)) (.tmp 32)) (some 33))
    (q24 : isOpG ops 24 none (.move (.tmp 33)) (some 34))
    (q25 : isOpG ops 25 (some (24, false)) (.move (.tmp 0)) (some 35))
    (q26 : isOpG ops 26 (some (24, false)) (.move (.tmp 3)) (some 36))
    (q27 : isOpG ops 27 (some (24, false)) (.indexAddr 26 (.tmp 35) (.tmp 36)) (some 37))
    (q28 : isOpG ops 28 (some (24, false)) (.load 9 (.tmp 37)) (some 38))
    (q29 : isOpG ops 29 (some (24, false)) (.binOp .eql 9 (.tmp 38) (.const (.string ⟨#[95]⟩)) 9) (some 39))
    (q30 : isOpG ops 30 none (.pick (.tmp 34) (.const (.bool true)) (.tmp 39)) (some 40))
    (hs : Region.noSelect ops = true) (hq : (pstwC_takes.all fun p => Region.free .any ops (LR 31 p.1) p.2 && (Region.ready .any ops (LR 31 p.1)).contains p.2) = true)
    (r7 : Region.ready .any ops (LR 31 [0, 1, 2, 3, 4, 5, 6]) = [7])
    (r14 : Region.ready .any ops (LR 31 [0, 1, 2, 3, 4, 5, 6, 7, 8, 9, 10, 11, 12, 13]) = [14])
    (rend : Region.ready .any ops (LR 31 [0, 1, 2, 3, 4, 5, 6, 7, 8, 9, 10, 11, 12, 13, 14, 15, 16, 17, 18, 19, 20, 21, 22, 23, 24, 25, 26, 27, 28, 29, 30]) = [])
    (hQ : ∀ (d : Option Tmp) (v : Value) c a w, Q (.panic c) (a.put d v) w → Q (.panic c) a w)
    (hsz : 40 < a0.tmps.size) (e0 : a0.eval (.tmp 0) = .slice (some ⟨g, off, none⟩) n c) (e3 : a0.eval (.tmp 3) = .int .i64 (k : Int))
    (hS0 : S w5.drew)
    (keep : ∀ u u', S u → S u' → S u') (hk : k < n) (hk1 : k ≤ n) (hnc : n ≤ c) (LS : ∀ u, S u → (loadVar 9 ⟨g, off + k, none⟩).run Tryz.prog u = .ok (.string s) u)
    (H1 : ∀ u, S u → Calls Tryz.prog 21 #[.slice (some ⟨g, off, none⟩) k c, .string s] u fun e w' => e = .returned (.bool false) ∧ w' = u)
    (H2 : ∀ u, S u → Calls Tryz.prog 22 #[.agg #[.string s, .int .i8 0, .int .i64 0, .string ⟨#[]⟩]] u fun e w' => e = .returned (.int .i64 er) ∧ S w') (EN : ∀ u : World, (binOp .neq 31 (.int .i64 er) (.int .i64 0)).run Tryz.prog u = .ok (.bool false) u)
    (E1 : ∀ u : World, (binOp .eql 9 (.string s) (.string ⟨#[]⟩)).run Tryz.prog u = .ok (.bool false) u) (E2 : ∀ u : World, (binOp .eql 9 (.string s) (.string ⟨#[95]⟩)).run Tryz.prog u = .ok (.bool true) u)
    (F : ∀ (wc : World), S wc → Q .normal (((((((((((((((((((((((((((((((a0.put (some 10) (.slice (some ⟨g, off, none⟩) n c)).put (some 11) (.int .i64 (k : Int))).put (some 12) (.slice (some ⟨g, off, none⟩) k c)).put (some 13) (.slice (some ⟨g, off, none⟩) n c)).put (some 14) (.int .i64 (k : Int))).put (some 15) (.pointer (some ⟨g, off + k, none⟩))).put (some 16) (.string s)).put (some 17) (.bool false)).put (some 18) (.bool false)).put (some 19) (.slice (some ⟨g, off, none⟩) n c)).put (some 20) (.int .i64 (k : Int))).put (some 21) (.pointer (some ⟨g, off + k, none⟩))).put (some 22) (.string s)).put (some 23) (.agg #[.string s, .int .i8 0, .int .i64 0, .string ⟨#[]⟩])).put (some 24) (.int .i64 er)).put (some 25) (.bool false)).put (some 26) (.bool false)).put (some 27) (.bool false)).put (some 28) (.slice (some ⟨g, off, none⟩) n c)).put (some 29) (.int .i64 (k : Int))).put (some 30) (.pointer (some ⟨g, off + k, none⟩))).put (some 31) (.string s)).put (some 32) (.bool false)).put (some 33) (.bool false)).put (some 34) (.bool false)).put (some 35) (.slice (some ⟨g, off, none⟩) n c)).put (some 36) (.int .i64 (k : Int))).put (some 37) (.pointer (some ⟨g, off + k, none⟩))).put (some 38) (.string s)).put (some 39) (.bool true)).put (some 40) (.bool true)) wc) :
    wpAnyH Tryz.prog .any ops Q S 31 (LR 31 []) a0 w5.drew := by
  have hall : ∀ p ∈ pstwC_takes, Region.free .any ops (LR 31 p.1) p.2 = true ∧ (Region.ready .any ops (LR 31 p.1)).contains p.2 = true := by
    intro p hp
    have := List.all_eq_true.1 hq p hp
    simpa using this
  unfold pstwC_takes at hall
  obtain ⟨og8, hog8, _, _, dog8⟩ := isOpG_out q8
  obtain ⟨og17, hog17, _, _, dog17⟩ := isOpG_out q17
  obtain ⟨og24, hog24, _, _, dog24⟩ := isOpG_out q24
  obtain ⟨o0, ho, hg, hop, hd⟩ := isOpG_out q0
  have hfr := hall ([], 0) (by simp)
  refine wpAnyH_take (listed := LR 31 []) (v := .slice (some ⟨g, off, none⟩) n c) ho hs hfr.1 hfr.2 (hQ _ _) (Or.inl ⟨(wantedN hg), fun w' hS => run_move _ _ hop w' (by (repeat rw [eval_far _ _ (by decide)]); exact e0)⟩) hS0 ?_
  rw [hd, ← LR_snoc]
  clear ho hg hop hd hfr
  obtain ⟨o1, ho, hg, hop, hd⟩ := isOpG_out q1
  have hfr := hall ([0], 1) (by simp)
  refine wpAnyH_take (listed := LR 31 [0]) (v := .int .i64 (k : Int)) ho hs hfr.1 hfr.2 (hQ _ _) (Or.inl ⟨(wantedN hg), fun w' hS => run_move _ _ hop w' (by (repeat rw [eval_far _ _ (by decide)]); exact e3)⟩) hS0 ?_
  rw [hd, ← LR_snoc]
  clear ho hg hop hd hfr
  obtain ⟨o2, ho, hg, hop, hd⟩ := isOpG_out q2
  have hfr := hall ([0, 1], 2) (by simp)
  refine wpAnyH_take (listed := LR 31 [0, 1]) (v := .slice (some ⟨g, off, none⟩) k c) ho hs hfr.1 hfr.2 (hQ _ _) (Or.inl ⟨(wantedN hg), fun w' hS => run_slHiPs _ _ hop w' (by (repeat (first | rw [eval_same _ _ (by (try simp only [put_size]); omega)] | rw [eval_far _ _ (by decide)]))) (by (repeat (first | rw [eval_same _ _ (by (try simp only [put_size]); omega)] | rw [eval_far _ _ (by decide)]))) hk1 hnc⟩) hS0 ?_
  rw [hd, ← LR_snoc]
  clear ho hg hop hd hfr
  obtain ⟨o3, ho, hg, hop, hd⟩ := isOpG_out q3
  have hfr := hall ([0, 1, 2], 3) (by simp)
  refine wpAnyH_take (listed := LR 31 [0, 1, 2]) (v := .slice (some ⟨g, off, none⟩) n c) ho hs hfr.1 hfr.2 (hQ _ _) (Or.inl ⟨(wantedN hg), fun w' hS => run_move _ _ hop w' (by (repeat rw [eval_far _ _ (by decide)]); exact e0)⟩) hS0 ?_
  rw [hd, ← LR_snoc]
  clear ho hg hop hd hfr
  obtain ⟨o4, ho, hg, hop, hd⟩ := isOpG_out q4
  have hfr := hall ([0, 1, 2, 3], 4) (by simp)
  refine wpAnyH_take (listed := LR 31 [0, 1, 2, 3]) (v := .int .i64 (k : Int)) ho hs hfr.1 hfr.2 (hQ _ _) (Or.inl ⟨(wantedN hg), fun w' hS => run_move _ _ hop w' (by (repeat rw [eval_far _ _ (by decide)]); exact e3)⟩) hS0 ?_
  rw [hd, ← LR_snoc]
  clear ho hg hop hd hfr
  obtain ⟨o5, ho, hg, hop, hd⟩ := isOpG_out q5
  have hfr := hall ([0, 1, 2, 3, 4], 5) (by simp)
  refine wpAnyH_take (listed := LR 31 [0, 1, 2, 3, 4]) (v := .pointer (some ⟨g, off + k, none⟩)) ho hs hfr.1 hfr.2 (hQ _ _) (Or.inl ⟨(wantedN hg), fun w' hS => run_idxPs _ _ hop w' (by (repeat (first | rw [eval_same _ _ (by (try simp only [put_size]); omega)] | rw [eval_far _ _ (by decide)]))) (by (repeat (first | rw [eval_same _ _ (by (try simp only [put_size]); omega)] | rw [eval_far _ _ (by decide)]))) hk⟩) hS0 ?_
  rw [hd, ← LR_snoc]
  clear ho hg hop hd hfr
  obtain ⟨o6, ho, hg, hop, hd⟩ := isOpG_out q6
  have hfr := hall ([0, 1, 2, 3, 4, 5], 6) (by simp)
  refine wpAnyH_take (listed := LR 31 [0, 1, 2, 3, 4, 5]) (v := .string s) ho hs hfr.1 hfr.2 (hQ _ _) (Or.inl ⟨(wantedN hg), fun w' hS => run_loadG _ _ hop w' (by (repeat (first | rw [eval_same _ _ (by (try simp only [put_size]); omega)] | rw [eval_far _ _ (by decide)]))) (LS _ hS)⟩) hS0 ?_
  rw [hd, ← LR_snoc]
  clear ho hg hop hd hfr
  refine wpAnyH_all r7 (by simp) ?_
  intro i hi
  obtain rfl := List.mem_singleton.1 hi
  obtain ⟨o7, ho, hg, hop, hd⟩ := isOpG_out q7
  have x7_0 : ((((((((a0.put (some 10) (.slice (some ⟨g, off, none⟩) n c)).put (some 11) (.int .i64 (k : Int))).put (some 12) (.slice (some ⟨g, off, none⟩) k c)).put (some 13) (.slice (some ⟨g, off, none⟩) n c)).put (some 14) (.int .i64 (k : Int))).put (some 15) (.pointer (some ⟨g, off + k, none⟩))).put (some 16) (.string s))).eval (.tmp 12) = .slice (some ⟨g, off, none⟩) k c := (by (repeat (first | rw [eval_same _ _ (by (try simp only [put_size]); omega)] | rw [eval_far _ _ (by decide)])))
  have x7_1 : ((((((((a0.put (some 10) (.slice (some ⟨g, off, none⟩) n c)).put (some 11) (.int .i64 (k : Int))).put (some 12) (.slice (some ⟨g, off, none⟩) k c)).put (some 13) (.slice (some ⟨g, off, none⟩) n c)).put (some 14) (.int .i64 (k : Int))).put (some 15) (.pointer (some ⟨g, off + k, none⟩))).put (some 16) (.string s))).eval (.tmp 16) = .string s := (by (repeat (first | rw [eval_same _ _ (by (try simp only [put_size]); omega)] | rw [eval_far _ _ (by decide)])))
  refine wpOp_callG ho (wantedN hg) (run_callV 21 Tryz.func21 (by kernel_rfl) (by kernel_rfl) #[.tmp 12, .tmp 16] _ hop #[.slice (some ⟨g, off, none⟩) k c, .string s] (by simp only [List.map_toArray, List.map_cons, List.map_nil, x7_0, x7_1])) ?_
  refine (H1 _ hS0).mono ?_
  rintro e u1 ⟨rfl, rfl⟩
  refine ⟨_, rfl, hS0, ?_⟩
  rw [hd]
  clear ho hg hop hd
  rw [← LR_snoc]
  obtain ⟨o8, ho, hg, hop, hd⟩ := isOpG_out q8
  have hfr := hall ([0, 1, 2, 3, 4, 5, 6, 7], 8) (by simp)
  refine wpAnyH_take (listed := LR 31 [0, 1, 2, 3, 4, 5, 6, 7]) (v := .bool false) ho hs hfr.1 hfr.2 (hQ _ _) (Or.inl ⟨(wantedN hg), fun w' hS => run_move _ _ hop w' (by (repeat (first | rw [eval_same _ _ (by (try simp only [put_size]); omega)] | rw [eval_far _ _ (by decide)])))⟩) hS0 ?_
  rw [hd, ← LR_snoc]
  clear ho hg hop hd hfr
  obtain ⟨o9, ho, hg, hop, hd⟩ := isOpG_out q9
  have hfr := hall ([0, 1, 2, 3, 4, 5, 6, 7, 8], 9) (by simp)
  refine wpAnyH_take (listed := LR 31 [0, 1, 2, 3, 4, 5, 6, 7, 8]) (v := .slice (some ⟨g, off, none⟩) n c) ho hs hfr.1 hfr.2 (hQ _ _) (Or.inl ⟨((wantedB hog8 dog8 hg (by (repeat (first | rw [tmps_same _ _ (by (try simp only [put_size]); omega)] | rw [tmps_far _ _ (by decide)])))).trans (by decide)), fun w' hS => run_move _ _ hop w' (by (repeat rw [eval_far _ _ (by decide)]); exact e0)⟩) hS0 ?_
  rw [hd, ← LR_snoc]
  clear ho hg hop hd hfr
  obtain ⟨o10, ho, hg, hop, hd⟩ := isOpG_out q10
  have hfr := hall ([0, 1, 2, 3, 4, 5, 6, 7, 8, 9], 10) (by simp)
  refine wpAnyH_take (listed := LR 31 [0, 1, 2, 3, 4, 5, 6, 7, 8, 9]) (v := .int .i64 (k : Int)) ho hs hfr.1 hfr.2 (hQ _ _) (Or.inl ⟨((wantedB hog8 dog8 hg (by (repeat (first | rw [tmps_same _ _ (by (try simp only [put_size]); omega)] | rw [tmps_far _ _ (by decide)])))).trans (by decide)), fun w' hS => run_move _ _ hop w' (by (repeat rw [eval_far _ _ (by decide)]); exact e3)⟩) hS0 ?_
  rw [hd, ← LR_snoc]
  clear ho hg hop hd hfr
  obtain ⟨o11, ho, hg, hop, hd⟩ := isOpG_out q11
  have hfr := hall ([0, 1, 2, 3, 4, 5, 6, 7, 8, 9, 10], 11) (by simp)
  refine wpAnyH_take (listed := LR 31 [0, 1, 2, 3, 4, 5, 6, 7, 8, 9, 10]) (v := .pointer (some ⟨g, off + k, none⟩)) ho hs hfr.1 hfr.2 (hQ _ _) (Or.inl ⟨((wantedB hog8 dog8 hg (by (repeat (first | rw [tmps_same _ _ (by (try simp only [put_size]); omega)] | rw [tmps_far _ _ (by decide)])))).trans (by decide)), fun w' hS => run_idxPs _ _ hop w' (by (repeat (first | rw [eval_same _ _ (by (try simp only [put_size]); omega)] | rw [eval_far _ _ (by decide)]))) (by (repeat (first | rw [eval_same _ _ (by (try simp only [put_size]); omega)] | rw [eval_far _ _ (by decide)]))) hk⟩) hS0 ?_
  rw [hd, ← LR_snoc]
  clear ho hg hop hd hfr
  obtain ⟨o12, ho, hg, hop, hd⟩ := isOpG_out q12
  have hfr := hall ([0, 1, 2, 3, 4, 5, 6, 7, 8, 9, 10, 11], 12) (by simp)
  refine wpAnyH_take (listed := LR 31 [0, 1, 2, 3, 4, 5, 6, 7, 8, 9, 10, 11]) (v := .string s) ho hs hfr.1 hfr.2 (hQ _ _) (Or.inl ⟨((wantedB hog8 dog8 hg (by (repeat (first | rw [tmps_same _ _ (by (try simp only [put_size]); omega)] | rw [tmps_far _ _ (by decide)])))).trans (by decide)), fun w' hS => run_loadG _ _ hop w' (by (repeat (first | rw [eval_same _ _ (by (try simp only [put_size]); omega)] | rw [eval_far _ _ (by decide)]))) (LS _ hS)⟩) hS0 ?_
  rw [hd, ← LR_snoc]
  clear ho hg hop hd hfr
  obtain ⟨o13, ho, hg, hop, hd⟩ := isOpG_out q13
  have hfr := hall ([0, 1, 2, 3, 4, 5, 6, 7, 8, 9, 10, 11, 12], 13) (by simp)
  refine wpAnyH_take (listed := LR 31 [0, 1, 2, 3, 4, 5, 6, 7, 8, 9, 10, 11, 12]) (v := .agg #[.string s, .int .i8 0, .int .i64 0, .string ⟨#[]⟩]) ho hs hfr.1 hfr.2 (hQ _ _) (Or.inl ⟨((wantedB hog8 dog8 hg (by (repeat (first | rw [tmps_same _ _ (by (try simp only [put_size]); omega)] | rw [tmps_far _ _ (by decide)])))).trans (by decide)), fun w' hS => run_buildTm _ _ hop w' (by (repeat (first | rw [eval_same _ _ (by (try simp only [put_size]); omega)] | rw [eval_far _ _ (by decide)])))⟩) hS0 ?_
  rw [hd, ← LR_snoc]
  clear ho hg hop hd hfr
  refine wpAnyH_all r14 (by simp) ?_
  intro i hi
  obtain rfl := List.mem_singleton.1 hi
  obtain ⟨o14, ho, hg, hop, hd⟩ := isOpG_out q14
  have x14_0 : (((((((((((((((a0.put (some 10) (.slice (some ⟨g, off, none⟩) n c)).put (some 11) (.int .i64 (k : Int))).put (some 12) (.slice (some ⟨g, off, none⟩) k c)).put (some 13) (.slice (some ⟨g, off, none⟩) n c)).put (some 14) (.int .i64 (k : Int))).put (some 15) (.pointer (some ⟨g, off + k, none⟩))).put (some 16) (.string s)).put (some 17) (.bool false)).put (some 18) (.bool false)).put (some 19) (.slice (some ⟨g, off, none⟩) n c)).put (some 20) (.int .i64 (k : Int))).put (some 21) (.pointer (some ⟨g, off + k, none⟩))).put (some 22) (.string s)).put (some 23) (.agg #[.string s, .int .i8 0, .int .i64 0, .string ⟨#[]⟩]))).eval (.tmp 23) = .agg #[.string s, .int .i8 0, .int .i64 0, .string ⟨#[]⟩] := (by (repeat (first | rw [eval_same _ _ (by (try simp only [put_size]); omega)] | rw [eval_far _ _ (by decide)])))
  refine wpOp_callG ho ((wantedB hog8 dog8 hg (by (repeat (first | rw [tmps_same _ _ (by (try simp only [put_size]); omega)] | rw [tmps_far _ _ (by decide)])))).trans (by decide)) (run_callV 22 Tryz.func22 (by kernel_rfl) (by kernel_rfl) #[.tmp 23] _ hop #[.agg #[.string s, .int .i8 0, .int .i64 0, .string ⟨#[]⟩]] (by simp only [List.map_toArray, List.map_cons, List.map_nil, x14_0])) ?_
  refine (H2 _ hS0).mono ?_
  rintro e u2 ⟨rfl, hS2⟩
  have hS14 := keep _ _ hS0 hS2
  refine ⟨_, rfl, hS14, ?_⟩
  rw [hd]
  clear ho hg hop hd
  rw [← LR_snoc]
  obtain ⟨o15, ho, hg, hop, hd⟩ := isOpG_out q15
  have hfr := hall ([0, 1, 2, 3, 4, 5, 6, 7, 8, 9, 10, 11, 12, 13, 14], 15) (by simp)
  refine wpAnyH_take (listed := LR 31 [0, 1, 2, 3, 4, 5, 6, 7, 8, 9, 10, 11, 12, 13, 14]) (v := .bool false) ho hs hfr.1 hfr.2 (hQ _ _) (Or.inl ⟨((wantedB hog8 dog8 hg (by (repeat (first | rw [tmps_same _ _ (by (try simp only [put_size]); omega)] | rw [tmps_far _ _ (by decide)])))).trans (by decide)), fun w' hS => run_binV _ _ hop w' (by (repeat (first | rw [eval_same _ _ (by (try simp only [put_size]); omega)] | rw [eval_far _ _ (by decide)]))) rfl (by first | rfl | go_simp) (EN w')⟩) hS14 ?_
  rw [hd, ← LR_snoc]
  clear ho hg hop hd hfr
  obtain ⟨o16, ho, hg, hop, hd⟩ := isOpG_out q16
  have hfr := hall ([0, 1, 2, 3, 4, 5, 6, 7, 8, 9, 10, 11, 12, 13, 14, 15], 16) (by simp)
  refine wpAnyH_take (listed := LR 31 [0, 1, 2, 3, 4, 5, 6, 7, 8, 9, 10, 11, 12, 13, 14, 15]) (v := .bool false) ho hs hfr.1 hfr.2 (hQ _ _) (Or.inl ⟨(wantedN hg), fun w' hS => run_pickF _ _ hop w' (by (repeat (first | rw [eval_same _ _ (by (try simp only [put_size]); omega)] | rw [eval_far _ _ (by decide)]))) (by (repeat (first | rw [eval_same _ _ (by (try simp only [put_size]); omega)] | rw [eval_far _ _ (by decide)])))⟩) hS14 ?_
  rw [hd, ← LR_snoc]
  clear ho hg hop hd hfr
  obtain ⟨o17, ho, hg, hop, hd⟩ := isOpG_out q17
  have hfr := hall ([0, 1, 2, 3, 4, 5, 6, 7, 8, 9, 10, 11, 12, 13, 14, 15, 16], 17) (by simp)
  refine wpAnyH_take (listed := LR 31 [0, 1, 2, 3, 4, 5, 6, 7, 8, 9, 10, 11, 12, 13, 14, 15, 16]) (v := .bool false) ho hs hfr.1 hfr.2 (hQ _ _) (Or.inl ⟨(wantedN hg), fun w' hS => run_move _ _ hop w' (by (repeat (first | rw [eval_same _ _ (by (try simp only [put_size]); omega)] | rw [eval_far _ _ (by decide)])))⟩) hS14 ?_
  rw [hd, ← LR_snoc]
  clear ho hg hop hd hfr
  obtain ⟨o18, ho, hg, hop, hd⟩ := isOpG_out q18
  have hfr := hall ([0, 1, 2, 3, 4, 5, 6, 7, 8, 9, 10, 11, 12, 13, 14, 15, 16, 17], 18) (by simp)
  refine wpAnyH_take (listed := LR 31 [0, 1, 2, 3, 4, 5, 6, 7, 8, 9, 10, 11, 12, 13, 14, 15, 16, 17]) (v := .slice (some ⟨g, off, none⟩) n c) ho hs hfr.1 hfr.2 (hQ _ _) (Or.inl ⟨((wantedB hog17 dog17 hg (by (repeat (first | rw [tmps_same _ _ (by (try simp only [put_size]); omega)] | rw [tmps_far _ _ (by decide)])))).trans (by decide)), fun w' hS => run_move _ _ hop w' (by (repeat rw [eval_far _ _ (by decide)]); exact e0)⟩) hS14 ?_
  rw [hd, ← LR_snoc]
  clear ho hg hop hd hfr
  obtain ⟨o19, ho, hg, hop, hd⟩ := isOpG_out q19
  have hfr := hall ([0, 1, 2, 3, 4, 5, 6, 7, 8, 9, 10, 11, 12, 13, 14, 15, 16, 17, 18], 19) (by simp)
  refine wpAnyH_take (listed := LR 31 [0, 1, 2, 3, 4, 5, 6, 7, 8, 9, 10, 11, 12, 13, 14, 15, 16, 17, 18]) (v := .int .i64 (k : Int)) ho hs hfr.1 hfr.2 (hQ _ _) (Or.inl ⟨((wantedB hog17 dog17 hg (by (repeat (first | rw [tmps_same _ _ (by (try simp only [put_size]); omega)] | rw [tmps_far _ _ (by decide)])))).trans (by decide)), fun w' hS => run_move _ _ hop w' (by (repeat rw [eval_far _ _ (by decide)]); exact e3)⟩) hS14 ?_
  rw [hd, ← LR_snoc]
  clear ho hg hop hd hfr
  obtain ⟨o20, ho, hg, hop, hd⟩ := isOpG_out q20
  have hfr := hall ([0, 1, 2, 3, 4, 5, 6, 7, 8, 9, 10, 11, 12, 13, 14, 15, 16, 17, 18, 19], 20) (by simp)
  refine wpAnyH_take (listed := LR 31 [0, 1, 2, 3, 4, 5, 6, 7, 8, 9, 10, 11, 12, 13, 14, 15, 16, 17, 18, 19]) (v := .pointer (some ⟨g, off + k, none⟩)) ho hs hfr.1 hfr.2 (hQ _ _) (Or.inl ⟨((wantedB hog17 dog17 hg (by (repeat (first | rw [tmps_same _ _ (by (try simp only [put_size]); omega)] | rw [tmps_far _ _ (by decide)])))).trans (by decide)), fun w' hS => run_idxPs _ _ hop w' (by (repeat (first | rw [eval_same _ _ (by (try simp only [put_size]); omega)] | rw [eval_far _ _ (by decide)]))) (by (repeat (first | rw [eval_same _ _ (by (try simp only [put_size]); omega)] | rw [eval_far _ _ (by decide)]))) hk⟩) hS14 ?_
  rw [hd, ← LR_snoc]
  clear ho hg hop hd hfr
  obtain ⟨o21, ho, hg, hop, hd⟩ := isOpG_out q21
  have hfr := hall ([0, 1, 2, 3, 4, 5, 6, 7, 8, 9, 10, 11, 12, 13, 14, 15, 16, 17, 18, 19, 20], 21) (by simp)
  refine wpAnyH_take (listed := LR 31 [0, 1, 2, 3, 4, 5, 6, 7, 8, 9, 10, 11, 12, 13, 14, 15, 16, 17, 18, 19, 20]) (v := .string s) ho hs hfr.1 hfr.2 (hQ _ _) (Or.inl ⟨((wantedB hog17 dog17 hg (by (repeat (first | rw [tmps_same _ _ (by (try simp only [put_size]); omega)] | rw [tmps_far _ _ (by decide)])))).trans (by decide)), fun w' hS => run_loadG _ _ hop w' (by (repeat (first | rw [eval_same _ _ (by (try simp only [put_size]); omega)] | rw [eval_far _ _ (by decide)]))) (LS _ hS)⟩) hS14 ?_
  rw [hd, ← LR_snoc]
  clear ho hg hop hd hfr
  obtain ⟨o22, ho, hg, hop, hd⟩ := isOpG_out q22
  have hfr := hall ([0, 1, 2, 3, 4, 5, 6, 7, 8, 9, 10, 11, 12, 13, 14, 15, 16, 17, 18, 19, 20, 21], 22) (by simp)
  refine wpAnyH_take (listed := LR 31 [0, 1, 2, 3, 4, 5, 6, 7, 8, 9, 10, 11, 12, 13, 14, 15, 16, 17, 18, 19, 20, 21]) (v := .bool false) ho hs hfr.1 hfr.2 (hQ _ _) (Or.inl ⟨((wantedB hog17 dog17 hg (by (repeat (first | rw [tmps_same _ _ (by (try simp only [put_size]); omega)] | rw [tmps_far _ _ (by decide)])))).trans (by decide)), fun w' hS => run_binV _ _ hop w' (by (repeat (first | rw [eval_same _ _ (by (try simp only [put_size]); omega)] | rw [eval_far _ _ (by decide)]))) rfl (by first | rfl | go_simp) (E1 w')⟩) hS14 ?_
  rw [hd, ← LR_snoc]
  clear ho hg hop hd hfr
  obtain ⟨o23, ho, hg, hop, hd⟩ := isOpG_out q23
  have hfr := hall ([0, 1, 2, 3, 4, 5, 6, 7, 8, 9, 10, 11, 12, 13, 14, 15, 16, 17, 18, 19, 20, 21, 22], 23) (by simp)
  refine wpAnyH_take (listed := LR 31 [0, 1, 2, 3, 4, 5, 6, 7, 8, 9, 10, 11, 12, 13, 14, 15, 16, 17, 18, 19, 20, 21, 22]) (v := .bool false) ho hs hfr.1 hfr.2 (hQ _ _) (Or.inl ⟨(wantedN hg), fun w' hS => run_pickF _ _ hop w' (by (repeat (first | rw [eval_same _ _ (by (try simp only [put_size]); omega)] | rw [eval_far _ _ (by decide)]))) (by (repeat (first | rw [eval_same _ _ (by (try simp only [put_size]); omega)] | rw [eval_far _ _ (by decide)])))⟩) hS14 ?_
  rw [hd, ← LR_snoc]
  clear ho hg hop hd hfr
  obtain ⟨o24, ho, hg, hop, hd⟩ := isOpG_out q24
  have hfr := hall ([0, 1, 2, 3, 4, 5, 6, 7, 8, 9, 10, 11, 12, 13, 14, 15, 16, 17, 18, 19, 20, 21, 22, 23], 24) (by simp)
  refine wpAnyH_take (listed := LR 31 [0, 1, 2, 3, 4, 5, 6, 7, 8, 9, 10, 11, 12, 13, 14, 15, 16, 17, 18, 19, 20, 21, 22, 23]) (v := .bool false) ho hs hfr.1 hfr.2 (hQ _ _) (Or.inl ⟨(wantedN hg), fun w' hS => run_move _ _ hop w' (by (repeat (first | rw [eval_same _ _ (by (try simp only [put_size]); omega)] | rw [eval_far _ _ (by decide)])))⟩) hS14 ?_
  rw [hd, ← LR_snoc]
  clear ho hg hop hd hfr
  obtain ⟨o25, ho, hg, hop, hd⟩ := isOpG_out q25
  have hfr := hall ([0, 1, 2, 3, 4, 5, 6, 7, 8, 9, 10, 11, 12, 13, 14, 15, 16, 17, 18, 19, 20, 21, 22, 23, 24], 25) (by simp)
  refine wpAnyH_take (listed := LR 31 [0, 1, 2, 3, 4, 5, 6, 7, 8, 9, 10, 11, 12, 13, 14, 15, 16, 17, 18, 19, 20, 21, 22, 23, 24]) (v := .slice (some ⟨g, off, none⟩) n c) ho hs hfr.1 hfr.2 (hQ _ _) (Or.inl ⟨((wantedB hog24 dog24 hg (by (repeat (first | rw [tmps_same _ _ (by (try simp only [put_size]); omega)] | rw [tmps_far _ _ (by decide)])))).trans (by decide)), fun w' hS => run_move _ _ hop w' (by (repeat rw [eval_far _ _ (by decide)]); exact e0)⟩) hS14 ?_
  rw [hd, ← LR_snoc]
  clear ho hg hop hd hfr
  obtain ⟨o26, ho, hg, hop, hd⟩ := isOpG_out q26
  have hfr := hall ([0, 1, 2, 3, 4, 5, 6, 7, 8, 9, 10, 11, 12, 13, 14, 15, 16, 17, 18, 19, 20, 21, 22, 23, 24, 25], 26) (by simp)
  refine wpAnyH_take (listed := LR 31 [0, 1, 2, 3, 4, 5, 6, 7, 8, 9, 10, 11, 12, 13, 14, 15, 16, 17, 18, 19, 20, 21, 22, 23, 24, 25]) (v := .int .i64 (k : Int)) ho hs hfr.1 hfr.2 (hQ _ _) (Or.inl ⟨((wantedB hog24 dog24 hg (by (repeat (first | rw [tmps_same _ _ (by (try simp only [put_size]); omega)] | rw [tmps_far _ _ (by decide)])))).trans (by decide)), fun w' hS => run_move _ _ hop w' (by (repeat rw [eval_far _ _ (by decide)]); exact e3)⟩) hS14 ?_
  rw [hd, ← LR_snoc]
  clear ho hg hop hd hfr
  obtain ⟨o27, ho, hg, hop, hd⟩ := isOpG_out q27
  have hfr := hall ([0, 1, 2, 3, 4, 5, 6, 7, 8, 9, 10, 11, 12, 13, 14, 15, 16, 17, 18, 19, 20, 21, 22, 23, 24, 25, 26], 27) (by simp)
  refine wpAnyH_take (listed := LR 31 [0, 1, 2, 3, 4, 5, 6, 7, 8, 9, 10, 11, 12, 13, 14, 15, 16, 17, 18, 19, 20, 21, 22, 23, 24, 25, 26]) (v := .pointer (some ⟨g, off + k, none⟩)) ho hs hfr.1 hfr.2 (hQ _ _) (Or.inl ⟨((wantedB hog24 dog24 hg (by (repeat (first | rw [tmps_same _ _ (by (try simp only [put_size]); omega)] | rw [tmps_far _ _ (by decide)])))).trans (by decide)), fun w' hS => run_idxPs _ _ hop w' (by (repeat (first | rw [eval_same _ _ (by (try simp only [put_size]); omega)] | rw [eval_far _ _ (by decide)]))) (by (repeat (first | rw [eval_same _ _ (by (try simp only [put_size]); omega)] | rw [eval_far _ _ (by decide)]))) hk⟩) hS14 ?_
  rw [hd, ← LR_snoc]
  clear ho hg hop hd hfr
  obtain ⟨o28, ho, hg, hop, hd⟩ := isOpG_out q28
  have hfr := hall ([0, 1, 2, 3, 4, 5, 6, 7, 8, 9, 10, 11, 12, 13, 14, 15, 16, 17, 18, 19, 20, 21, 22, 23, 24, 25, 26, 27], 28) (by simp)
  refine wpAnyH_take (listed := LR 31 [0, 1, 2, 3, 4, 5, 6, 7, 8, 9, 10, 11, 12, 13, 14, 15, 16, 17, 18, 19, 20, 21, 22, 23, 24, 25, 26, 27]) (v := .string s) ho hs hfr.1 hfr.2 (hQ _ _) (Or.inl ⟨((wantedB hog24 dog24 hg (by (repeat (first | rw [tmps_same _ _ (by (try simp only [put_size]); omega)] | rw [tmps_far _ _ (by decide)])))).trans (by decide)), fun w' hS => run_loadG _ _ hop w' (by (repeat (first | rw [eval_same _ _ (by (try simp only [put_size]); omega)] | rw [eval_far _ _ (by decide)]))) (LS _ hS)⟩) hS14 ?_
  rw [hd, ← LR_snoc]
  clear ho hg hop hd hfr
  obtain ⟨o29, ho, hg, hop, hd⟩ := isOpG_out q29
  have hfr := hall ([0, 1, 2, 3, 4, 5, 6, 7, 8, 9, 10, 11, 12, 13, 14, 15, 16, 17, 18, 19, 20, 21, 22, 23, 24, 25, 26, 27, 28], 29) (by simp)
  refine wpAnyH_take (listed := LR 31 [0, 1, 2, 3, 4, 5, 6, 7, 8, 9, 10, 11, 12, 13, 14, 15, 16, 17, 18, 19, 20, 21, 22, 23, 24, 25, 26, 27, 28]) (v := .bool true) ho hs hfr.1 hfr.2 (hQ _ _) (Or.inl ⟨((wantedB hog24 dog24 hg (by (repeat (first | rw [tmps_same _ _ (by (try simp only [put_size]); omega)] | rw [tmps_far _ _ (by decide)])))).trans (by decide)), fun w' hS => run_binV _ _ hop w' (by (repeat (first | rw [eval_same _ _ (by (try simp only [put_size]); omega)] | rw [eval_far _ _ (by decide)]))) rfl (by first | rfl | go_simp) (E2 w')⟩) hS14 ?_
  rw [hd, ← LR_snoc]
  clear ho hg hop hd hfr
  obtain ⟨o30, ho, hg, hop, hd⟩ := isOpG_out q30
  have hfr := hall ([0, 1, 2, 3, 4, 5, 6, 7, 8, 9, 10, 11, 12, 13, 14, 15, 16, 17, 18, 19, 20, 21, 22, 23, 24, 25, 26, 27, 28, 29], 30) (by simp)
  refine wpAnyH_take (listed := LR 31 [0, 1, 2, 3, 4, 5, 6, 7, 8, 9, 10, 11, 12, 13, 14, 15, 16, 17, 18, 19, 20, 21, 22, 23, 24, 25, 26, 27, 28, 29]) (v := .bool true) ho hs hfr.1 hfr.2 (hQ _ _) (Or.inl ⟨(wantedN hg), fun w' hS => run_pickF _ _ hop w' (by (repeat (first | rw [eval_same _ _ (by (try simp only [put_size]); omega)] | rw [eval_far _ _ (by decide)]))) (by (repeat (first | rw [eval_same _ _ (by (try simp only [put_size]); omega)] | rw [eval_far _ _ (by decide)])))⟩) hS14 ?_
  rw [hd, ← LR_snoc]
  clear ho hg hop hd hfr
  exact wpAnyH_done rend (F _ hS14) _
def pstwD_takes : List (List Nat × Nat) := [([], 0), ([0], 1), ([0, 1], 2), ([0, 1, 2], 3), ([0, 1, 2, 3], 4), ([0, 1, 2, 3, 4], 5), ([0, 1, 2, 3, 4, 5], 6), ([0, 1, 2, 3, 4, 5, 6, 7], 8), ([0, 1, 2, 3, 4, 5, 6, 7, 8], 9), ([0, 1, 2, 3, 4, 5, 6, 7, 8, 9], 10), ([0, 1, 2, 3, 4, 5, 6, 7, 8, 9, 10], 11), ([0, 1, 2, 3, 4, 5, 6, 7, 8, 9, 10, 11], 12), ([0, 1, 2, 3, 4, 5, 6, 7, 8, 9, 10, 11, 12], 13), ([0, 1, 2, 3, 4, 5, 6, 7, 8, 9, 10, 11, 12, 13, 14], 15), ([0, 1, 2, 3, 4, 5, 6, 7, 8, 9, 10, 11, 12, 13, 14, 15], 16), ([0, 1, 2, 3, 4, 5, 6, 7, 8, 9, 10, 11, 12, 13, 14, 15, 16], 17), ([0, 1, 2, 3, 4, 5, 6, 7, 8, 9, 10, 11, 12, 13, 14, 15, 16, 17], 18), ([0, 1, 2, 3, 4, 5, 6, 7, 8, 9, 10, 11, 12, 13, 14, 15, 16, 17, 18], 19), ([0, 1, 2, 3, 4, 5, 6, 7, 8, 9, 10, 11, 12, 13, 14, 15, 16, 17, 18, 19], 20), ([0, 1, 2, 3, 4, 5, 6, 7, 8, 9, 10, 11, 12, 13, 14, 15, 16, 17, 18, 19, 20], 21), ([0, 1, 2, 3, 4, 5, 6, 7, 8, 9, 10, 11, 12, 13, 14, 15, 16, 17, 18, 19, 20, 21], 22), ([0, 1, 2, 3, 4, 5, 6, 7, 8, 9, 10, 11, 12, 13, 14, 15, 16, 17, 18, 19, 20, 21, 22], 23), ([0, 1, 2, 3, 4, 5, 6, 7, 8, 9, 10, 11, 12, 13, 14, 15, 16, 17, 18, 19, 20, 21, 22, 23], 24), ([0, 1, 2, 3, 4, 5, 6, 7, 8, 9, 10, 11, 12, 13, 14, 15, 16, 17, 18, 19, 20, 21, 22, 23, 24], 25), ([0, 1, 2, 3, 4, 5, 6, 7, 8, 9, 10, 11, 12, 13, 14, 15, 16, 17, 18, 19, 20, 21, 22, 23, 24, 25], 26), ([0, 1, 2, 3, 4, 5, 6, 7, 8, 9, 10, 11, 12, 13, 14, 15, 16, 17, 18, 19, 20, 21, 22, 23, 24, 25, 26], 27), ([0, 1, 2, 3, 4, 5, 6, 7, 8, 9, 10, 11, 12, 13, 14, 15, 16, 17, 18, 19, 20, 21, 22, 23, 24, 25, 26, 27], 28), ([0, 1, 2, 3, 4, 5, 6, 7, 8, 9, 10, 11, 12, 13, 14, 15, 16, 17, 18, 19, 20, 21, 22, 23, 24, 25, 26, 27, 28], 29), ([0, 1, 2, 3, 4, 5, 6, 7, 8, 9, 10, 11, 12, 13, 14, 15, 16, 17, 18, 19, 20, 21, 22, 23, 24, 25, 26, 27, 28, 29], 30)]
set_option maxHeartbeats 3200000 in
theorem pstwD {ops : Array Oper} {Q : Exit → Act → World → Prop} {S : World → Prop} {a0 : Act} {w5 : World} {g off n c k : Nat} {s : ByteArray} {er : Int} {ty1 ty2 : Array TypeId}
    (q0 : isOpG ops 0 none (.move (.tmp 0)) (some 10))
    (q1 : isOpG ops 1 none (.move (.tmp 3)) (some 11))
    (q2 : isOpG ops 2 none (.slice 26 (.tmp 10) none (some (.tmp 11)) none) (some 12))
    (q3 : isOpG ops 3 none (.move (.tmp 0)) (some 13))
    (q4 : isOpG ops 4 none (.move (.tmp 3)) (some 14))
    (q5 : isOpG ops 5 none (.indexAddr 26 (.tmp 13) (.tmp 14)) (some 15))
    (q6 : isOpG ops 6 none (.load 9 (.tmp 15)) (some 16))
    (q7 : isOpG ops 7 none (.call { callee := .value (.func 21), args := #[.tmp 12, .tmp 16], argTypes := ty1 }) (some 17))
    (q8 : isOpG ops 8 none (.move (.tmp 17)) (some 18))
    (q9 : isOpG ops 9 (some (8, false)) (.move (.tmp 0)) (some 19))
    (q10 : isOpG ops 10 (some (8, false)) (.move (.tmp 3)) (some 20))
    (q11 : isOpG ops 11 (some (8, false)) (.indexAddr 26 (.tmp 19) (.tmp 20)) (some 21))
    (q12 : isOpG ops 12 (some (8, false)) (.load 9 (.tmp 21)) (some 22))
    (q13 : isOpG ops 13 (some (8, false)) (.build 48 #[(0, .tmp 22)]) (some 23))
    (q14 : isOpG ops 14 (some (8, false)) (.call { callee := .value (.func 22), args := #[.tmp 23], argTypes := ty2 }) (some 24))
    (q15 : isOpG ops 15 (some (8, false)) (.binOp .neq 31 (.tmp 24) (.const (.int .i64 0)) 31) (some 25))
    (q16 : isOpG ops 16 none (.pick (.tmp 18) (.const (.bool true)) (.tmp 25)) (some 26))
    (q17 : isOpG ops 17 none (.move (.tmp 26)) (some 27))
    (q18 : isOpG ops 18 (some (17, false)) (.move (.tmp 0)) (some 28))
    (q19 : isOpG ops 19 (some (17, false)) (.move (.tmp 3)) (some 29))
    (q20 : isOpG ops 20 (some (17, false)) (.indexAddr 26 (.tmp 28) (.tmp 29)) (some 30))
    (q21 : isOpG ops 21 (some (17, false)) (.load 9 (.tmp 30)) (some 31))
    (q22 : isOpG ops 22 (some (17, false)) (.binOp .eql 9 (.tmp 31) (.const (.string ⟨#[]⟩)) 9) (some 32))
    (q23 : isOpG ops 23 none (.pick (.tmp 27) (.const (.bool true)) (.tmp 32)) (some 33))
    (q24 : isOpG ops 24 none (.move (.tmp 33)) (some 34))
    (q25 : isOpG ops 25 (some (24, false)) (.move (.tmp 0)) (some 35))
    (q26 : isOpG ops 26 (some (24, false)) (.move (.tmp 3)) (some 36))
    (q27 : isOpG ops 27 (some (24, false)) (.indexAddr 26 (.tmp 35) (.tmp 36)) (some 37))
    (q28 : isOpG ops 28 (some (24, false)) (.load 9 (.tmp 37)) (some 38))
    (q29 : isOpG ops 29 (some (24, false)) (.binOp .eql 9 (.tmp 38) (.const (.string ⟨#[95]⟩)) 9) (some 39))
    (q30 : isOpG ops 30 none (.pick (.tmp 34) (.const (.bool true)) (.tmp 39)) (some 40))
    (hs : Region.noSelect ops = true) (hq : (pstwD_takes.all fun p => Region.free .any ops (LR 31 p.1) p.2 && (Region.ready .any ops (LR 31 p.1)).contains p.2) = true)
    (r7 : Region.ready .any ops (LR 31 [0, 1, 2, 3, 4, 5, 6]) = [7])
    (r14 : Region.ready .any ops (LR 31 [0, 1, 2, 3, 4, 5, 6, 7, 8, 9, 10, 11, 12, 13]) = [14])
    (rend : Region.ready .any ops (LR 31 [0, 1, 2, 3, 4, 5, 6, 7, 8, 9, 10, 11, 12, 13, 14, 15, 16, 17, 18, 19, 20, 21, 22, 23, 24, 25, 26, 27, 28, 29, 30]) = [])
    (hQ : ∀ (d : Option Tmp) (v : Value) c a w, Q (.panic c) (a.put d v) w → Q (.panic c) a w)
    (hsz : 40 < a0.tmps.size) (e0 : a0.eval (.tmp 0) = .slice (some ⟨g, off, none⟩) n c) (e3 : a0.eval (.tmp 3) = .int .i64 (k : Int))
    (hS0 : S w5.drew)
    (keep : ∀ u u', S u → S u' → S u') (hk : k < n) (hk1 : k ≤ n) (hnc : n ≤ c) (LS : ∀ u, S u → (loadVar 9 ⟨g, off + k, none⟩).run Tryz.prog u = .ok (.string s) u)
    (H1 : ∀ u, S u → Calls Tryz.prog 21 #[.slice (some ⟨g, off, none⟩) k c, .string s] u fun e w' => e = .returned (.bool false) ∧ w' = u)
    (H2 : ∀ u, S u → Calls Tryz.prog 22 #[.agg #[.string s, .int .i8 0, .int .i64 0, .string ⟨#[]⟩]] u fun e w' => e = .returned (.int .i64 er) ∧ S w') (EN : ∀ u : World, (binOp .neq 31 (.int .i64 er) (.int .i64 0)).run Tryz.prog u = .ok (.bool false) u)
    (E1 : ∀ u : World, (binOp .eql 9 (.string s) (.string ⟨#[]⟩)).run Tryz.prog u = .ok (.bool false) u) (E2 : ∀ u : World, (binOp .eql 9 (.string s) (.string ⟨#[95]⟩)).run Tryz.prog u = .ok (.bool false) u)
    (F : ∀ (wc : World), S wc → Q .normal (((((((((((((((((((((((((((((((a0.put (some 10) (.slice (some ⟨g, off, none⟩) n c)).put (some 11) (.int .i64 (k : Int))).put (some 12) (.slice (some ⟨g, off, none⟩) k c)).put (some 13) (.slice (some ⟨g, off, none⟩) n c)).put (some 14) (.int .i64 (k : Int))).put (some 15) (.pointer (some ⟨g, off + k, none⟩))).put (some 16) (.string s)).put (some 17) (.bool false)).put (some 18) (.bool false)).put (some 19) (.slice (some ⟨g, off, none⟩) n c)).put (some 20) (.int .i64 (k : Int))).put (some 21) (.pointer (some ⟨g, off + k, none⟩))).put (some 22) (.string s)).put (some 23) (.agg #[.string s, .int .i8 0, .int .i64 0, .string ⟨#[]⟩])).put (some 24) (.int .i64 er)).put (some 25) (.bool false)).put (some 26) (.bool false)).put (some 27) (.bool false)).put (some 28) (.slice (some ⟨g, off, none⟩) n c)).put (some 29) (.int .i64 (k : Int))).put (some 30) (.pointer (some ⟨g, off + k, none⟩))).put (some 31) (.string s)).put (some 32) (.bool false)).put (some 33) (.bool false)).put (some 34) (.bool false)).put (some 35) (.slice (some ⟨g, off, none⟩) n c)).put (some 36) (.int .i64 (k : Int))).put (some 37) (.pointer (some ⟨g, off + k, none⟩))).put (some 38) (.string s)).put (some 39) (.bool false)).put (some 40) (.bool false)) wc) :
    wpAnyH Tryz.prog .any ops Q S 31 (LR 31 []) a0 w5.drew := by
  have hall : ∀ p ∈ pstwD_takes, Region.free .any ops (LR 31 p.1) p.2 = true ∧ (Region.ready .any ops (LR 31 p.1)).contains p.2 = true := by
    intro p hp
    have := List.all_eq_true.1 hq p hp
    simpa using this
  unfold pstwD_takes at hall
  obtain ⟨og8, hog8, _, _, dog8⟩ := isOpG_out q8
  obtain ⟨og17, hog17, _, _, dog17⟩ := isOpG_out q17
  obtain ⟨og24, hog24, _, _, dog24⟩ := isOpG_out q24
  obtain ⟨o0, ho, hg, hop, hd⟩ := isOpG_out q0
  have hfr := hall ([], 0) (by simp)
  refine wpAnyH_take (listed := LR 31 []) (v := .slice (some ⟨g, off, none⟩) n c) ho hs hfr.1 hfr.2 (hQ _ _) (Or.inl ⟨(wantedN hg), fun w' hS => run_move _ _ hop w' (by (repeat rw [eval_far _ _ (by decide)]); exact e0)⟩) hS0 ?_
  rw [hd, ← LR_snoc]
  clear ho hg hop hd hfr
  obtain ⟨o1, ho, hg, hop, hd⟩ := isOpG_out q1
  have hfr := hall ([0], 1) (by simp)
  refine wpAnyH_take (listed := LR 31 [0]) (v := .int .i64 (k : Int)) ho hs hfr.1 hfr.2 (hQ _ _) (Or.inl ⟨(wantedN hg), fun w' hS => run_move _ _ hop w' (by (repeat rw [eval_far _ _ (by decide)]); exact e3)⟩) hS0 ?_
  rw [hd, ← LR_snoc]
  clear ho hg hop hd hfr
  obtain ⟨o2, ho, hg, hop, hd⟩ := isOpG_out q2
  have hfr := hall ([0, 1], 2) (by simp)
  refine wpAnyH_take (listed := LR 31 [0, 1]) (v := .slice (some ⟨g, off, none⟩) k c) ho hs hfr.1 hfr.2 (hQ _ _) (Or.inl ⟨(wantedN hg), fun w' hS => run_slHiPs _ _ hop w' (by (repeat (first | rw [eval_same _ _ (by (try simp only [put_size]); omega)] | rw [eval_far _ _ (by decide)]))) (by (repeat (first | rw [eval_same _ _ (by (try simp only [put_size]); omega)] | rw [eval_far _ _ (by decide)]))) hk1 hnc⟩) hS0 ?_
  rw [hd, ← LR_snoc]
  clear ho hg hop hd hfr
  obtain ⟨o3, ho, hg, hop, hd⟩ := isOpG_out q3
  have hfr := hall ([0, 1, 2], 3) (by simp)
  refine wpAnyH_take (listed := LR 31 [0, 1, 2]) (v := .slice (some ⟨g, off, none⟩) n c) ho hs hfr.1 hfr.2 (hQ _ _) (Or.inl ⟨(wantedN hg), fun w' hS => run_move _ _ hop w' (by (repeat rw [eval_far _ _ (by decide)]); exact e0)⟩) hS0 ?_
  rw [hd, ← LR_snoc]
  clear ho hg hop hd hfr
  obtain ⟨o4, ho, hg, hop, hd⟩ := isOpG_out q4
  have hfr := hall ([0, 1, 2, 3], 4) (by simp)
  refine wpAnyH_take (listed := LR 31 [0, 1, 2, 3]) (v := .int .i64 (k : Int)) ho hs hfr.1 hfr.2 (hQ _ _) (Or.inl ⟨(wantedN hg), fun w' hS => run_move _ _ hop w' (by (repeat rw [eval_far _ _ (by decide)]); exact e3)⟩) hS0 ?_
  rw [hd, ← LR_snoc]
  clear ho hg hop hd hfr
  obtain ⟨o5, ho, hg, hop, hd⟩ := isOpG_out q5
  have hfr := hall ([0, 1, 2, 3, 4], 5) (by simp)
  refine wpAnyH_take (listed := LR 31 [0, 1, 2, 3, 4]) (v := .pointer (some ⟨g, off + k, none⟩)) ho hs hfr.1 hfr.2 (hQ _ _) (Or.inl ⟨(wantedN hg), fun w' hS => run_idxPs _ _ hop w' (by (repeat (first | rw [eval_same _ _ (by (try simp only [put_size]); omega)] | rw [eval_far _ _ (by decide)]))) (by (repeat (first | rw [eval_same _ _ (by (try simp only [put_size]); omega)] | rw [eval_far _ _ (by decide)]))) hk⟩) hS0 ?_
  rw [hd, ← LR_snoc]
  clear ho hg hop hd hfr
  obtain ⟨o6, ho, hg, hop, hd⟩ := isOpG_out q6
  have hfr := hall ([0, 1, 2, 3, 4, 5], 6) (by simp)
  refine wpAnyH_take (listed := LR 31 [0, 1, 2, 3, 4, 5]) (v := .string s) ho hs hfr.1 hfr.2 (hQ _ _) (Or.inl ⟨(wantedN hg), fun w' hS => run_loadG _ _ hop w' (by (repeat (first | rw [eval_same _ _ (by (try simp only [put_size]); omega)] | rw [eval_far _ _ (by decide)]))) (LS _ hS)⟩) hS0 ?_
  rw [hd, ← LR_snoc]
  clear ho hg hop hd hfr
  refine wpAnyH_all r7 (by simp) ?_
  intro i hi
  obtain rfl := List.mem_singleton.1 hi
  obtain ⟨o7, ho, hg, hop, hd⟩ := isOpG_out q7
  have x7_0 : ((((((((a0.put (some 10) (.slice (some ⟨g, off, none⟩) n c)).put (some 11) (.int .i64 (k : Int))).put (some 12) (.slice (some ⟨g, off, none⟩) k c)).put (some 13) (.slice (some ⟨g, off, none⟩) n c)).put (some 14) (.int .i64 (k : Int))).put (some 15) (.pointer (some ⟨g, off + k, none⟩))).put (some 16) (.string s))).eval (.tmp 12) = .slice (some ⟨g, off, none⟩) k c := (by (repeat (first | rw [eval_same _ _ (by (try simp only [put_size]); omega)] | rw [eval_far _ _ (by decide)])))
  have x7_1 : ((((((((a0.put (some 10) (.slice (some ⟨g, off, none⟩) n c)).put (some 11) (.int .i64 (k : Int))).put (some 12) (.slice (some ⟨g, off, none⟩) k c)).put (some 13) (.slice (some ⟨g, off, none⟩) n c)).put (some 14) (.int .i64 (k : Int))).put (some 15) (.pointer (some ⟨g, off + k, none⟩))).put (some 16) (.string s))).eval (.tmp 16) = .string s := (by (repeat (first | rw [eval_same _ _ (by (try simp only [put_size]); omega)] | rw [eval_far _ _ (by decide)])))
  refine wpOp_callG ho (wantedN hg) (run_callV 21 Tryz.func21 (by kernel_rfl) (by kernel_rfl) #[.tmp 12, .tmp 16] _ hop #[.slice (some ⟨g, off, none⟩) k c, .string s] (by simp only [List.map_toArray, List.map_cons, List.map_nil, x7_0, x7_1])) ?_
  refine (H1 _ hS0).mono ?_
  rintro e u1 ⟨rfl, rfl⟩
  refine ⟨_, rfl, hS0, ?_⟩
  rw [hd]
  clear ho hg hop hd
  rw [← LR_snoc]
  obtain ⟨o8, ho, hg, hop, hd⟩ := isOpG_out q8
  have hfr := hall ([0, 1, 2, 3, 4, 5, 6, 7], 8) (by simp)
  refine wpAnyH_take (listed := LR 31 [0, 1, 2, 3, 4, 5, 6, 7]) (v := .bool false) ho hs hfr.1 hfr.2 (hQ _ _) (Or.inl ⟨(wantedN hg), fun w' hS => run_move _ _ hop w' (by (repeat (first | rw [eval_same _ _ (by (try simp only [put_size]); omega)] | rw [eval_far _ _ (by decide)])))⟩) hS0 ?_
  rw [hd, ← LR_snoc]
  clear ho hg hop hd hfr
  obtain ⟨o9, ho, hg, hop, hd⟩ := isOpG_out q9
  have hfr := hall ([0, 1, 2, 3, 4, 5, 6, 7, 8], 9) (by simp)
  refine wpAnyH_take (listed := LR 31 [0, 1, 2, 3, 4, 5, 6, 7, 8]) (v := .slice (some ⟨g, off, none⟩) n c) ho hs hfr.1 hfr.2 (hQ _ _) (Or.inl ⟨((wantedB hog8 dog8 hg (by (repeat (first | rw [tmps_same _ _ (by (try simp only [put_size]); omega)] | rw [tmps_far _ _ (by decide)])))).trans (by decide)), fun w' hS => run_move _ _ hop w' (by (repeat rw [eval_far _ _ (by decide)]); exact e0)⟩) hS0 ?_
  rw [hd, ← LR_snoc]
  clear ho hg hop hd hfr
  obtain ⟨o10, ho, hg, hop, hd⟩ := isOpG_out q10
  have hfr := hall ([0, 1, 2, 3, 4, 5, 6, 7, 8, 9], 10) (by simp)
  refine wpAnyH_take (listed := LR 31 [0, 1, 2, 3, 4, 5, 6, 7, 8, 9]) (v := .int .i64 (k : Int)) ho hs hfr.1 hfr.2 (hQ _ _) (Or.inl ⟨((wantedB hog8 dog8 hg (by (repeat (first | rw [tmps_same _ _ (by (try simp only [put_size]); omega)] | rw [tmps_far _ _ (by decide)])))).trans (by decide)), fun w' hS => run_move _ _ hop w' (by (repeat rw [eval_far _ _ (by decide)]); exact e3)⟩) hS0 ?_
  rw [hd, ← LR_snoc]
  clear ho hg hop hd hfr
  obtain ⟨o11, ho, hg, hop, hd⟩ := isOpG_out q11
  have hfr := hall ([0, 1, 2, 3, 4, 5, 6, 7, 8, 9, 10], 11) (by simp)
  refine wpAnyH_take (listed := LR 31 [0, 1, 2, 3, 4, 5, 6, 7, 8, 9, 10]) (v := .pointer (some ⟨g, off + k, none⟩)) ho hs hfr.1 hfr.2 (hQ _ _) (Or.inl ⟨((wantedB hog8 dog8 hg (by (repeat (first | rw [tmps_same _ _ (by (try simp only [put_size]); omega)] | rw [tmps_far _ _ (by decide)])))).trans (by decide)), fun w' hS => run_idxPs _ _ hop w' (by (repeat (first | rw [eval_same _ _ (by (try simp only [put_size]); omega)] | rw [eval_far _ _ (by decide)]))) (by (repeat (first | rw [eval_same _ _ (by (try simp only [put_size]); omega)] | rw [eval_far _ _ (by decide)]))) hk⟩) hS0 ?_
  rw [hd, ← LR_snoc]
  clear ho hg hop hd hfr
  obtain ⟨o12, ho, hg, hop, hd⟩ := isOpG_out q12
  have hfr := hall ([0, 1, 2, 3, 4, 5, 6, 7, 8, 9, 10, 11], 12) (by simp)
  refine wpAnyH_take (listed := LR 31 [0, 1, 2, 3, 4, 5, 6, 7, 8, 9, 10, 11]) (v := .string s) ho hs hfr.1 hfr.2 (hQ _ _) (Or.inl ⟨((wantedB hog8 dog8 hg (by (repeat (first | rw [tmps_same _ _ (by (try simp only [put_size]); omega)] | rw [tmps_far _ _ (by decide)])))).trans (by decide)), fun w' hS => run_loadG _ _ hop w' (by (repeat (first | rw [eval_same _ _ (by (try simp only [put_size]); omega)] | rw [eval_far _ _ (by decide)]))) (LS _ hS)⟩) hS0 ?_
  rw [hd, ← LR_snoc]
  clear ho hg hop hd hfr
  obtain ⟨o13, ho, hg, hop, hd⟩ := isOpG_out q13
  have hfr := hall ([0, 1, 2, 3, 4, 5, 6, 7, 8, 9, 10, 11, 12], 13) (by simp)
  refine wpAnyH_take (listed := LR 31 [0, 1, 2, 3, 4, 5, 6, 7, 8, 9, 10, 11, 12]) (v := .agg #[.string s, .int .i8 0, .int .i64 0, .string ⟨#[]⟩]) ho hs hfr.1 hfr.2 (hQ _ _) (Or.inl ⟨((wantedB hog8 dog8 hg (by (repeat (first | rw [tmps_same _ _ (by (try simp only [put_size]); omega)] | rw [tmps_far _ _ (by decide)])))).trans (by decide)), fun w' hS => run_buildTm _ _ hop w' (by (repeat (first | rw [eval_same _ _ (by (try simp only [put_size]); omega)] | rw [eval_far _ _ (by decide)])))⟩) hS0 ?_
  rw [hd, ← LR_snoc]
  clear ho hg hop hd hfr
  refine wpAnyH_all r14 (by simp) ?_
  intro i hi
  obtain rfl := List.mem_singleton.1 hi
  obtain ⟨o14, ho, hg, hop, hd⟩ := isOpG_out q14
  have x14_0 : (((((((((((((((a0.put (some 10) (.slice (some ⟨g, off, none⟩) n c)).put (some 11) (.int .i64 (k : Int))).put (some 12) (.slice (some ⟨g, off, none⟩) k c)).put (some 13) (.slice (some ⟨g, off, none⟩) n c)).put (some 14) (.int .i64 (k : Int))).put (some 15) (.pointer (some ⟨g, off + k, none⟩))).put (some 16) (.string s)).put (some 17) (.bool false)).put (some 18) (.bool false)).put (some 19) (.slice (some ⟨g, off, none⟩) n c)).put (some 20) (.int .i64 (k : Int))).put (some 21) (.pointer (some ⟨g, off + k, none⟩))).put (some 22) (.string s)).put (some 23) (.agg #[.string s, .int .i8 0, .int .i64 0, .string ⟨#[]⟩]))).eval (.tmp 23) = .agg #[.string s, .int .i8 0, .int .i64 0, .string ⟨#[]⟩] := (by (repeat (first | rw [eval_same _ _ (by (try simp only [put_size]); omega)] | rw [eval_far _ _ (by decide)])))
  refine wpOp_callG ho ((wantedB hog8 dog8 hg (by (repeat (first | rw [tmps_same _ _ (by (try simp only [put_size]); omega)] | rw [tmps_far _ _ (by decide)])))).trans (by decide)) (run_callV 22 Tryz.func22 (by kernel_rfl) (by kernel_rfl) #[.tmp 23] _ hop #[.agg #[.string s, .int .i8 0, .int .i64 0, .string ⟨#[]⟩]] (by simp only [List.map_toArray, List.map_cons, List.map_nil, x14_0])) ?_
  refine (H2 _ hS0).mono ?_
  rintro e u2 ⟨rfl, hS2⟩
  have hS14 := keep _ _ hS0 hS2
  refine ⟨_, rfl, hS14, ?_⟩
  rw [hd]
  clear ho hg hop hd
  rw [← LR_snoc]
  obtain ⟨o15, ho, hg, hop, hd⟩ := isOpG_out q15
  have hfr := hall ([0, 1, 2, 3, 4, 5, 6, 7, 8, 9, 10, 11, 12, 13, 14], 15) (by simp)
  refine wpAnyH_take (listed := LR 31 [0, 1, 2, 3, 4, 5, 6, 7, 8, 9, 10, 11, 12, 13, 14]) (v := .bool false) ho hs hfr.1 hfr.2 (hQ _ _) (Or.inl ⟨((wantedB hog8 dog8 hg (by (repeat (first | rw [tmps_same _ _ (by (try simp only [put_size]); omega)] | rw [tmps_far _ _ (by decide)])))).trans (by decide)), fun w' hS => run_binV _ _ hop w' (by (repeat (first | rw [eval_same _ _ (by (try simp only [put_size]); omega)] | rw [eval_far _ _ (by decide)]))) rfl (by first | rfl | go_simp) (EN w')⟩) hS14 ?_
  rw [hd, ← LR_snoc]
  clear ho hg hop hd hfr
  obtain ⟨o16, ho, hg, hop, hd⟩ := isOpG_out q16
  have hfr := hall ([0, 1, 2, 3, 4, 5, 6, 7, 8, 9, 10, 11, 12, 13, 14, 15], 16) (by simp)
  refine wpAnyH_take (listed := LR 31 [0, 1, 2, 3, 4, 5, 6, 7, 8, 9, 10, 11, 12, 13, 14, 15]) (v := .bool false) ho hs hfr.1 hfr.2 (hQ _ _) (Or.inl ⟨(wantedN hg), fun w' hS => run_pickF _ _ hop w' (by (repeat (first | rw [eval_same _ _ (by (try simp only [put_size]); omega)] | rw [eval_far _ _ (by decide)]))) (by (repeat (first | rw [eval_same _ _ (by (try simp only [put_size]); omega)] | rw [eval_far _ _ (by decide)])))⟩) hS14 ?_
  rw [hd, ← LR_snoc]
  clear ho hg hop hd hfr
  obtain ⟨o17, ho, hg, hop, hd⟩ := isOpG_out q17
  have hfr := hall ([0, 1, 2, 3, 4, 5, 6, 7, 8, 9, 10, 11, 12, 13, 14, 15, 16], 17) (by simp)
  refine wpAnyH_take (listed := LR 31 [0, 1, 2, 3, 4, 5, 6, 7, 8, 9, 10, 11, 12, 13, 14, 15, 16]) (v := .bool false) ho hs hfr.1 hfr.2 (hQ _ _) (Or.inl ⟨(wantedN hg), fun w' hS => run_move _ _ hop w' (by (repeat (first | rw [eval_same _ _ (by (try simp only [put_size]); omega)] | rw [eval_far _ _ (by decide)])))⟩) hS14 ?_
  rw [hd, ← LR_snoc]
  clear ho hg hop hd hfr
  obtain ⟨o18, ho, hg, hop, hd⟩ := isOpG_out q18
  have hfr := hall ([0, 1, 2, 3, 4, 5, 6, 7, 8, 9, 10, 11, 12, 13, 14, 15, 16, 17], 18) (by simp)
  refine wpAnyH_take (listed := LR 31 [0, 1, 2, 3, 4, 5, 6, 7, 8, 9, 10, 11, 12, 13, 14, 15, 16, 17]) (v := .slice (some ⟨g, off, none⟩) n c) ho hs hfr.1 hfr.2 (hQ _ _) (Or.inl ⟨((wantedB hog17 dog17 hg (by (repeat (first | rw [tmps_same _ _ (by (try simp only [put_size]); omega)] | rw [tmps_far _ _ (by decide)])))).trans (by decide)), fun w' hS => run_move _ _ hop w' (by (repeat rw [eval_far _ _ (by decide)]); exact e0)⟩) hS14 ?_
  rw [hd, ← LR_snoc]
  clear ho hg hop hd hfr
  obtain ⟨o19, ho, hg, hop, hd⟩ := isOpG_out q19
  have hfr := hall ([0, 1, 2, 3, 4, 5, 6, 7, 8, 9, 10, 11, 12, 13, 14, 15, 16, 17, 18], 19) (by simp)
  refine wpAnyH_take (listed := LR 31 [0, 1, 2, 3, 4, 5, 6, 7, 8, 9, 10, 11, 12, 13, 14, 15, 16, 17, 18]) (v := .int .i64 (k : Int)) ho hs hfr.1 hfr.2 (hQ _ _) (Or.inl ⟨((wantedB hog17 dog17 hg (by (repeat (first | rw [tmps_same _ _ (by (try simp only [put_size]); omega)] | rw [tmps_far _ _ (by decide)])))).trans (by decide)), fun w' hS => run_move _ _ hop w' (by (repeat rw [eval_far _ _ (by decide)]); exact e3)⟩) hS14 ?_
  rw [hd, ← LR_snoc]
  clear ho hg hop hd hfr
  obtain ⟨o20, ho, hg, hop, hd⟩ := isOpG_out q20
  have hfr := hall ([0, 1, 2, 3, 4, 5, 6, 7, 8, 9, 10, 11, 12, 13, 14, 15, 16, 17, 18, 19], 20) (by simp)
  refine wpAnyH_take (listed := LR 31 [0, 1, 2, 3, 4, 5, 6, 7, 8, 9, 10, 11, 12, 13, 14, 15, 16, 17, 18, 19]) (v := .pointer (some ⟨g, off + k, none⟩)) ho hs hfr.1 hfr.2 (hQ _ _) (Or.inl ⟨((wantedB hog17 dog17 hg (by (repeat (first | rw [tmps_same _ _ (by (try simp only [put_size]); omega)] | rw [tmps_far _ _ (by decide)])))).trans (by decide)), fun w' hS => run_idxPs _ _ hop w' (by (repeat (first | rw [eval_same _ _ (by (try simp only [put_size]); omega)] | rw [eval_far _ _ (by decide)]))) (by (repeat (first | rw [eval_same _ _ (by (try simp only [put_size]); omega)] | rw [eval_far _ _ (by decide)]))) hk⟩) hS14 ?_
  rw [hd, ← LR_snoc]
  clear ho hg hop hd hfr
  obtain ⟨o21, ho, hg, hop, hd⟩ := isOpG_out q21
  have hfr := hall ([0, 1, 2, 3, 4, 5, 6, 7, 8, 9, 10, 11, 12, 13, 14, 15, 16, 17, 18, 19, 20], 21) (by simp)
  refine wpAnyH_take (listed := LR 31 [0, 1, 2, 3, 4, 5, 6, 7, 8, 9, 10, 11, 12, 13, 14, 15, 16, 17, 18, 19, 20]) (v := .string s) ho hs hfr.1 hfr.2 (hQ _ _) (Or.inl ⟨((wantedB hog17 dog17 hg (by (repeat (first | rw [tmps_same _ _ (by (try simp only [put_size]); omega)] | rw [tmps_far _ _ (by decide)])))).trans (by decide)), fun w' hS => run_loadG _ _ hop w' (by (repeat (first | rw [eval_same _ _ (by (try simp only [put_size]); omega)] | rw [eval_far _ _ (by decide)]))) (LS _ hS)⟩) hS14 ?_
  rw [hd, ← LR_snoc]
  clear ho hg hop hd hfr
  obtain ⟨o22, ho, hg, hop, hd⟩ := isOpG_out q22
  have hfr := hall ([0, 1, 2, 3, 4, 5, 6, 7, 8, 9, 10, 11, 12, 13, 14, 15, 16, 17, 18, 19, 20, 21], 22) (by simp)
  refine wpAnyH_take (listed := LR 31 [0, 1, 2, 3, 4, 5, 6, 7, 8, 9, 10, 11, 12, 13, 14, 15, 16, 17, 18, 19, 20, 21]) (v := .bool false) ho hs hfr.1 hfr.2 (hQ _ _) (Or.inl ⟨((wantedB hog17 dog17 hg (by (repeat (first | rw [tmps_same _ _ (by (try simp only [put_size]); omega)] | rw [tmps_far _ _ (by decide)])))).trans (by decide)), fun w' hS => run_binV _ _ hop w' (by (repeat (first | rw [eval_same _ _ (by (try simp only [put_size]); omega)] | rw [eval_far _ _ (by decide)]))) rfl (by first | rfl | go_simp) (E1 w')⟩) hS14 ?_
  rw [hd, ← LR_snoc]
  clear ho hg hop hd hfr
  obtain ⟨o23, ho, hg, hop, hd⟩ := isOpG_out q23
  have hfr := hall ([0, 1, 2, 3, 4, 5, 6, 7, 8, 9, 10, 11, 12, 13, 14, 15, 16, 17, 18, 19, 20, 21, 22], 23) (by simp)
  refine wpAnyH_take (listed := LR 31 [0, 1, 2, 3, 4, 5, 6, 7, 8, 9, 10, 11, 12, 13, 14, 15, 16, 17, 18, 19, 20, 21, 22]) (v := .bool false) ho hs hfr.1 hfr.2 (hQ _ _) (Or.inl ⟨(wantedN hg), fun w' hS => run_pickF _ _ hop w' (by (repeat (first | rw [eval_same _ _ (by (try simp only [put_size]); omega)] | rw [eval_far _ _ (by decide)]))) (by (repeat (first | rw [eval_same _ _ (by (try simp only [put_size]); omega)] | rw [eval_far _ _ (by decide)])))⟩) hS14 ?_
  rw [hd, ← LR_snoc]
  clear ho hg hop hd hfr
  obtain ⟨o24, ho, hg, hop, hd⟩ := isOpG_out q24
  have hfr := hall ([0, 1, 2, 3, 4, 5, 6, 7, 8, 9, 10, 11, 12, 13, 14, 15, 16, 17, 18, 19, 20, 21, 22, 23], 24) (by simp)
  refine wpAnyH_take (listed := LR 31 [0, 1, 2, 3, 4, 5, 6, 7, 8, 9, 10, 11, 12, 13, 14, 15, 16, 17, 18, 19, 20, 21, 22, 23]) (v := .bool false) ho hs hfr.1 hfr.2 (hQ _ _) (Or.inl ⟨(wantedN hg), fun w' hS => run_move _ _ hop w' (by (repeat (first | rw [eval_same _ _ (by (try simp only [put_size]); omega)] | rw [eval_far _ _ (by decide)])))⟩) hS14 ?_
  rw [hd, ← LR_snoc]
  clear ho hg hop hd hfr
  obtain ⟨o25, ho, hg, hop, hd⟩ := isOpG_out q25
  have hfr := hall ([0, 1, 2, 3, 4, 5, 6, 7, 8, 9, 10, 11, 12, 13, 14, 15, 16, 17, 18, 19, 20, 21, 22, 23, 24], 25) (by simp)
  refine wpAnyH_take (listed := LR 31 [0, 1, 2, 3, 4, 5, 6, 7, 8, 9, 10, 11, 12, 13, 14, 15, 16, 17, 18, 19, 20, 21, 22, 23, 24]) (v := .slice (some ⟨g, off, none⟩) n c) ho hs hfr.1 hfr.2 (hQ _ _) (Or.inl ⟨((wantedB hog24 dog24 hg (by (repeat (first | rw [tmps_same _ _ (by (try simp only [put_size]); omega)] | rw [tmps_far _ _ (by decide)])))).trans (by decide)), fun w' hS => run_move _ _ hop w' (by (repeat rw [eval_far _ _ (by decide)]); exact e0)⟩) hS14 ?_
  rw [hd, ← LR_snoc]
  clear ho hg hop hd hfr
  obtain ⟨o26, ho, hg, hop, hd⟩ := isOpG_out q26
  have hfr := hall ([0, 1, 2, 3, 4, 5, 6, 7, 8, 9, 10, 11, 12, 13, 14, 15, 16, 17, 18, 19, 20, 21, 22, 23, 24, 25], 26) (by simp)
  refine wpAnyH_take (listed := LR 31 [0, 1, 2, 3, 4, 5, 6, 7, 8, 9, 10, 11, 12, 13, 14, 15, 16, 17, 18, 19, 20, 21, 22, 23, 24, 25]) (v := .int .i64 (k : Int)) ho hs hfr.1 hfr.2 (hQ _ _) (Or.inl ⟨((wantedB hog24 dog24 hg (by (repeat (first | rw [tmps_same _ _ (by (try simp only [put_size]); omega)] | rw [tmps_far _ _ (by decide)])))).trans (by decide)), fun w' hS => run_move _ _ hop w' (by (repeat rw [eval_far _ _ (by decide)]); exact e3)⟩) hS14 ?_
  rw [hd, ← LR_snoc]
  clear ho hg hop hd hfr
  obtain ⟨o27, ho, hg, hop, hd⟩ := isOpG_out q27
  have hfr := hall ([0, 1, 2, 3, 4, 5, 6, 7, 8, 9, 10, 11, 12, 13, 14, 15, 16, 17, 18, 19, 20, 21, 22, 23, 24, 25, 26], 27) (by simp)
  refine wpAnyH_take (listed := LR 31 [0, 1, 2, 3, 4, 5, 6, 7, 8, 9, 10, 11, 12, 13, 14, 15, 16, 17, 18, 19, 20, 21, 22, 23, 24, 25, 26]) (v := .pointer (some ⟨g, off + k, none⟩)) ho hs hfr.1 hfr.2 (hQ _ _) (Or.inl ⟨((wantedB hog24 dog24 hg (by (repeat (first | rw [tmps_same _ _ (by (try simp only [put_size]); omega)] | rw [tmps_far _ _ (by decide)])))).trans (by decide)), fun w' hS => run_idxPs _ _ hop w' (by (repeat (first | rw [eval_same _ _ (by (try simp only [put_size]); omega)] | rw [eval_far _ _ (by decide)]))) (by (repeat (first | rw [eval_same _ _ (by (try simp only [put_size]); omega)] | rw [eval_far _ _ (by decide)]))) hk⟩) hS14 ?_
  rw [hd, ← LR_snoc]
  clear ho hg hop hd hfr
  obtain ⟨o28, ho, hg, hop, hd⟩ := isOpG_out q28
  have hfr := hall ([0, 1, 2, 3, 4, 5, 6, 7, 8, 9, 10, 11, 12, 13, 14, 15, 16, 17, 18, 19, 20, 21, 22, 23, 24, 25, 26, 27], 28) (by simp)
  refine wpAnyH_take (listed := LR 31 [0, 1, 2, 3, 4, 5, 6, 7, 8, 9, 10, 11, 12, 13, 14, 15, 16, 17, 18, 19, 20, 21, 22, 23, 24, 25, 26, 27]) (v := .string s) ho hs hfr.1 hfr.2 (hQ _ _) (Or.inl ⟨((wantedB hog24 dog24 hg (by (repeat (first | rw [tmps_same _ _ (by (try simp only [put_size]); omega)] | rw [tmps_far _ _ (by decide)])))).trans (by decide)), fun w' hS => run_loadG _ _ hop w' (by (repeat (first | rw [eval_same _ _ (by (try simp only [put_size]); omega)] | rw [eval_far _ _ (by decide)]))) (LS _ hS)⟩) hS14 ?_
  rw [hd, ← LR_snoc]
  clear ho hg hop hd hfr
  obtain ⟨o29, ho, hg, hop, hd⟩ := isOpG_out q29
  have hfr := hall ([0, 1, 2, 3, 4, 5, 6, 7, 8, 9, 10, 11, 12, 13, 14, 15, 16, 17, 18, 19, 20, 21, 22, 23, 24, 25, 26, 27, 28], 29) (by simp)
  refine wpAnyH_take (listed := LR 31 [0, 1, 2, 3, 4, 5, 6, 7, 8, 9, 10, 11, 12, 13, 14, 15, 16, 17, 18, 19, 20, 21, 22, 23, 24, 25, 26, 27, 28]) (v := .bool false) ho hs hfr.1 hfr.2 (hQ _ _) (Or.inl ⟨((wantedB hog24 dog24 hg (by (repeat (first | rw [tmps_same _ _ (by (try simp only [put_size]); omega)] | rw [tmps_far _ _ (by decide)])))).trans (by decide)), fun w' hS => run_binV _ _ hop w' (by (repeat (first | rw [eval_same _ _ (by (try simp only [put_size]); omega)] | rw [eval_far _ _ (by decide)]))) rfl (by first | rfl | go_simp) (E2 w')⟩) hS14 ?_
  rw [hd, ← LR_snoc]
  clear ho hg hop hd hfr
  obtain ⟨o30, ho, hg, hop, hd⟩ := isOpG_out q30
  have hfr := hall ([0, 1, 2, 3, 4, 5, 6, 7, 8, 9, 10, 11, 12, 13, 14, 15, 16, 17, 18, 19, 20, 21, 22, 23, 24, 25, 26, 27, 28, 29], 30) (by simp)
  refine wpAnyH_take (listed := LR 31 [0, 1, 2, 3, 4, 5, 6, 7, 8, 9, 10, 11, 12, 13, 14, 15, 16, 17, 18, 19, 20, 21, 22, 23, 24, 25, 26, 27, 28, 29]) (v := .bool false) ho hs hfr.1 hfr.2 (hQ _ _) (Or.inl ⟨(wantedN hg), fun w' hS => run_pickF _ _ hop w' (by (repeat (first | rw [eval_same _ _ (by (try simp only [put_size]); omega)] | rw [eval_far _ _ (by decide)]))) (by (repeat (first | rw [eval_same _ _ (by (try simp only [put_size]); omega)] | rw [eval_far _ _ (by decide)])))⟩) hS14 ?_
  rw [hd, ← LR_snoc]
  clear ho hg hop hd hfr
  exact wpAnyH_done rend (F _ hS14) _

set_option maxHeartbeats 6400000 in
set_option maxRecDepth 100000 in
theorem twice_any {w : World} {v : Value} {l : List ByteArray} (hl : Ls w v l.length (l.flatMap strB)) (hsz : ∀ i, i < l.length → (atS l i).size ≤ maxLen) :
    Calls Tryz.prog 8 #[v] w fun e w' => e = .returned (.bool (!knB l l.length)) ∧ Below w.heap.size w w' := by
  obtain ⟨a, c, rfl, hc1, hc2, hat⟩ := ls_str hl
  have HL := Lib.hid hl
  have HAT := Lib.hid hat
  have HSZ := Lib.hid hsz
  unfold maxLen at hc2
  clear hl hat hsz
  go_enter Tryz.func8, Tryz.ntmps8
  go_wp2
  go_loopw [3] (fun i wr => ∃ k : Nat, k ≤ l.length ∧ i = .int .i64 k ∧ Hid (knB l k = true) ∧ Hid (Below w.heap.size w wr)) (fun i _ => l.length - (intOf i).toNat)
  case atStart => exact ⟨0, Nat.zero_le _, rfl, rfl, Below.refl _ _⟩
  case round =>
    obtain ⟨k, hk, rfl, HN, HB⟩ := hrel
    by_cases hlt : k < l.length
    · have hlt' : (k : Int) < (l.length : Int) := by omega
      have hk0 : (0 : Int) ≤ (k : Int) := by omega
      obtain ⟨g, off, rfl, hg, hce⟩ := HAT.out (by omega)
      have LSS : ∀ u, Below w.heap.size w u → (loadVar 9 ⟨g, off + k, none⟩).run Tryz.prog u = .ok (.string (atS l k)) u := fun u hu => load_strP ((hu.cell (p := ⟨g, off + k, none⟩) hg).trans (hce k hlt))
      have HHA : Hid (∀ u, Below w.heap.size w u → Calls Tryz.prog 21 #[.slice (some ⟨g, off, none⟩) k c, .string (atS l k)] u fun e w' => e = .returned (.bool (inB (l.take k) (atS l k))) ∧ w' = u) := fun u hu => has_any (ls_takeP (HL.out.below hu) hk) _
      have HCK : Hid (∀ u, Below w.heap.size w u → Calls Tryz.prog 22 #[.agg #[.string (atS l k), .int .i8 0, .int .i64 0, .string ⟨#[]⟩]] u fun e w' => e = .returned (.int .i64 (errB (termB ⟨atS l k, V0⟩))) ∧ Below w.heap.size w w') := fun u hu => (checkTerm_any ⟨atS l k, V0⟩ u ⟨HSZ.out k hlt, v0_wf⟩).mono (by
        rintro e w2 ⟨rfl, b2⟩
        exact ⟨rfl, hu.trans (b2.mono hu.size)⟩)
      have HY : Hid (inB (l.take k) (atS l k) = true ∨ isVarB (atS l k) = false → (!knB l l.length) = true) := fun h => by rw [knB_no l.length hlt h]; rfl
      have HX : Hid (inB (l.take k) (atS l k) = false → isVarB (atS l k) = true → knB l (k + 1) = true) := fun h1 h2 => knB_succ HN.out h1 h2
      clear hce hg HN
      generalize atS l k = s at LSS HHA HCK HY HX
      cases hin : inB (l.take k) s
      case true =>
        have HAS := HHA.out
        rw [hin] at HAS
        have HF : Hid ((!knB l l.length) = true) := HY.out (.inl hin)
        clear HHA HCK HY HX hin
        go_upto_region 4 with fail
        refine wp_region_noPanic ?_
        refine wp_region_held (S := fun v => Below w.heap.size w v) (by kernel_rfl) ?_
        refine pstwA (w5 := wr) (S := fun v => Below w.heap.size w v) (g := g) (off := off) (n := l.length) (c := c) (k := k) (s := s) (er := 0) rfl rfl rfl rfl rfl rfl rfl rfl rfl rfl rfl rfl rfl rfl rfl rfl rfl rfl rfl rfl rfl rfl rfl rfl rfl rfl rfl rfl rfl rfl rfl (by kernel_rfl) (by kernel_rfl) (by kernel_rfl) (by kernel_rfl) (by intros; assumption) (by simp) rfl rfl HB.out.drew (fun _ _ _ h => h) hlt hk hc1 LSS HAS ?_
        intro wc hwc
        have HBW := Lib.hid hwc
        refine NoPanic.normal ?_
        rename_i hK
        refine hK _ _ ?_
        simp (config := { maxSteps := 8000000 }) only [Act.put, List.getElem_toArray, List.getElem_cons_zero, List.getElem_cons_succ, List.setIfInBounds_toArray, List.set_cons_succ, List.set_cons_zero]
        clear hK LSS HAS hwc
        go_wp2
        go_ret
        rw [HF.out]
        exact ⟨rfl, HBW.out⟩
      case false =>
      have HAS := HHA.out
      have HCT := HCK.out
      rw [hin] at HAS
      cases ht : termB ⟨s, V0⟩
      case false =>
        have HF : Hid ((!knB l l.length) = true) := HY.out (.inr (by unfold isVarB; rw [ht, Bool.and_false]))
        rw [ht] at HCT
        have EN := neqE_run (errB false)
        clear HHA HCK HY HX hin ht
        go_upto_region 4 with fail
        refine wp_region_noPanic ?_
        refine wp_region_held (S := fun v => Below w.heap.size w v) (by kernel_rfl) ?_
        refine pstwB (w5 := wr) (S := fun v => Below w.heap.size w v) (g := g) (off := off) (n := l.length) (c := c) (k := k) (s := s) (er := errB false) rfl rfl rfl rfl rfl rfl rfl rfl rfl rfl rfl rfl rfl rfl rfl rfl rfl rfl rfl rfl rfl rfl rfl rfl rfl rfl rfl rfl rfl rfl rfl (by kernel_rfl) (by kernel_rfl) (by kernel_rfl) (by kernel_rfl) (by kernel_rfl) (by intros; assumption) (by simp) rfl rfl HB.out.drew (fun _ _ _ h => h) hlt hk hc1 LSS HAS HCT EN ?_
        intro wc hwc
        have HBW := Lib.hid hwc
        refine NoPanic.normal ?_
        rename_i hK
        refine hK _ _ ?_
        simp (config := { maxSteps := 8000000 }) only [Act.put, List.getElem_toArray, List.getElem_cons_zero, List.getElem_cons_succ, List.setIfInBounds_toArray, List.set_cons_succ, List.set_cons_zero]
        clear hK LSS HAS hwc HCT EN
        go_wp2
        go_ret
        rw [HF.out]
        exact ⟨rfl, HBW.out⟩
      case true =>
      rw [ht] at HCT
      have EN := neqE_run (errB true)
      have hno : ¬ s = noS := fun e => by rw [e, termB_no] at ht; cases ht
      have E1 := eqlS_run s ⟨#[]⟩
      rw [show (s.toList == (⟨#[]⟩ : ByteArray).toList) = false from s_ne hno] at E1
      have E2 := eqlS_run s ⟨#[95]⟩
      by_cases hb : s = blankS
      · have HF : Hid ((!knB l l.length) = true) := HY.out (.inr (by unfold isVarB; rw [decide_eq_true hb]; rfl))
        rw [show (s.toList == (⟨#[95]⟩ : ByteArray).toList) = true by rw [hb]; exact beq_self_eq_true _] at E2
        clear HHA HCK HY HX hin ht hno hb
        go_upto_region 4 with fail
        refine wp_region_noPanic ?_
        refine wp_region_held (S := fun v => Below w.heap.size w v) (by kernel_rfl) ?_
        refine pstwC (w5 := wr) (S := fun v => Below w.heap.size w v) (g := g) (off := off) (n := l.length) (c := c) (k := k) (s := s) (er := errB true) rfl rfl rfl rfl rfl rfl rfl rfl rfl rfl rfl rfl rfl rfl rfl rfl rfl rfl rfl rfl rfl rfl rfl rfl rfl rfl rfl rfl rfl rfl rfl (by kernel_rfl) (by kernel_rfl) (by kernel_rfl) (by kernel_rfl) (by kernel_rfl) (by intros; assumption) (by simp) rfl rfl HB.out.drew (fun _ _ _ h => h) hlt hk hc1 LSS HAS HCT EN E1 E2 ?_
        intro wc hwc
        have HBW := Lib.hid hwc
        refine NoPanic.normal ?_
        rename_i hK
        refine hK _ _ ?_
        simp (config := { maxSteps := 8000000 }) only [Act.put, List.getElem_toArray, List.getElem_cons_zero, List.getElem_cons_succ, List.setIfInBounds_toArray, List.set_cons_succ, List.set_cons_zero]
        clear hK LSS HAS hwc HCT EN E1 E2
        go_wp2
        go_ret
        rw [HF.out]
        exact ⟨rfl, HBW.out⟩
      · have HF : Hid (knB l (k + 1) = true) := HX.out hin (by unfold isVarB; rw [decide_eq_false hb, ht]; rfl)
        rw [show (s.toList == (⟨#[95]⟩ : ByteArray).toList) = false from s_ne hb] at E2
        clear HHA HCK HY HX hin ht hno hb
        go_upto_region 4 with fail
        refine wp_region_noPanic ?_
        refine wp_region_held (S := fun v => Below w.heap.size w v) (by kernel_rfl) ?_
        refine pstwD (w5 := wr) (S := fun v => Below w.heap.size w v) (g := g) (off := off) (n := l.length) (c := c) (k := k) (s := s) (er := errB true) rfl rfl rfl rfl rfl rfl rfl rfl rfl rfl rfl rfl rfl rfl rfl rfl rfl rfl rfl rfl rfl rfl rfl rfl rfl rfl rfl rfl rfl rfl rfl (by kernel_rfl) (by kernel_rfl) (by kernel_rfl) (by kernel_rfl) (by kernel_rfl) (by intros; assumption) (by simp) rfl rfl HB.out.drew (fun _ _ _ h => h) hlt hk hc1 LSS HAS HCT EN E1 E2 ?_
        intro wc hwc
        have HBW := Lib.hid hwc
        refine NoPanic.normal ?_
        rename_i hK
        refine hK _ _ ?_
        simp (config := { maxSteps := 8000000 }) only [Act.put, List.getElem_toArray, List.getElem_cons_zero, List.getElem_cons_succ, List.setIfInBounds_toArray, List.set_cons_succ, List.set_cons_zero]
        clear hK LSS HAS hwc HCT EN E1 E2
        go_wp2
        go_roundw
        case rel => exact ⟨k + 1, by omega, by go_num, HF, HBW⟩
        case measure => simp [intOf]; omega
    · obtain rfl : k = l.length := by omega
      have HF : Hid ((!knB l l.length) = false) := by show _ = _; rw [HN.out]; rfl
      clear HN
      go_wp2
      go_ret
      rw [HF.out]
      exact ⟨rfl, HB.out⟩
end Go.Proofs.YteabclfhmapabaaGreatDoor
