import Derived.Test.YteabclfhmapabaaDoorA19
import Derived.Test.YteabclfhmapabaaDoorLmSvR
import Derived.BigQuiet
section
namespace Go.Proofs.YteabclfhmapabaaDoor
open Go.RowKit Go.Maps Go.Shelf
set_option linter.unusedVariables false
set_option linter.unusedSimpArgs false
attribute [local go_sem ↓] Go.wp_at_zero Go.wp_at_succ
attribute [local go_sem] Oper.semAt_some
attribute [-go_sem] loadVar storeVar

theorem run_fldC3 (ev : Operand → Value) (o : Oper) {x : Operand} (hop : o.op = .fieldAddr 56 x 3) (w : World) {b : Nat} (hx : ev x = .pointer (some ⟨b, 0, none⟩)) : (execOp ev o).run Tryd.prog w = .ok (.value (.pointer (some ⟨b, 4, none⟩))) w := by
  simp only [execOp, hop, hx]
  go_simp
theorem run_fldC4 (ev : Operand → Value) (o : Oper) {x : Operand} (hop : o.op = .fieldAddr 56 x 4) (w : World) {b : Nat} (hx : ev x = .pointer (some ⟨b, 0, none⟩)) : (execOp ev o).run Tryd.prog w = .ok (.value (.pointer (some ⟨b, 10, none⟩))) w := by
  simp only [execOp, hop, hx]
  go_simp
def rfcmp_takes : List (List Nat × Nat) := [([], 0), ([0], 1), ([0, 1], 2), ([0, 1, 2], 5), ([0, 1, 2, 5], 6), ([0, 1, 2, 5, 6], 7), ([0, 1, 2, 5, 6, 7, 3, 4, 8, 9], 10), ([0, 1, 2, 5, 6, 7, 3, 4, 8, 9, 10], 11)]
set_option maxHeartbeats 3200000 in
theorem rfcmp {ops : Array Oper} {Q : Exit → Act → World → Prop} {S : World → Prop} {a0 : Act} {w5 : World} {xb b : Nat} {el er : Value} {ty1 ty2 : Array TypeId} {Pf : Value → Value → World → Prop}
    (q0 : isOpG ops 0 none (.move (.tmp 0)) (some 8))
    (q1 : isOpG ops 1 none (.fieldAddr 56 (.tmp 3) 3) (some 9))
    (q2 : isOpG ops 2 none (.load 54 (.tmp 9)) (some 10))
    (q5 : isOpG ops 5 none (.move (.tmp 0)) (some 13))
    (q6 : isOpG ops 6 none (.fieldAddr 56 (.tmp 3) 4) (some 14))
    (q7 : isOpG ops 7 none (.load 54 (.tmp 14)) (some 15))
    (q3 : isOpG ops 3 none (.call { callee := .value (.func 56), args := #[.tmp 10], argTypes := ty1 }) (some 11))
    (q4 : isOpG ops 4 none (.call { callee := .value (.func 35), args := #[.tmp 8, .tmp 11], argTypes := ty2 }) (some 12))
    (q8 : isOpG ops 8 none (.call { callee := .value (.func 56), args := #[.tmp 15], argTypes := ty1 }) (some 16))
    (q9 : isOpG ops 9 none (.call { callee := .value (.func 35), args := #[.tmp 13, .tmp 16], argTypes := ty2 }) (some 17))
    (q10 : isOpG ops 10 none (.assign (.tmp 12)) (some 6))
    (q11 : isOpG ops 11 none (.assign (.tmp 17)) (some 7))
    (hs : Region.noSelect ops = true) (hq : (rfcmp_takes.all fun p => Region.free .any ops (LR 12 p.1) p.2 && (Region.ready .any ops (LR 12 p.1)).contains p.2) = true)
    (r3 : Region.ready .any ops (LR 12 [0, 1, 2, 5, 6, 7]) = [3])
    (r4 : Region.ready .any ops (LR 12 [0, 1, 2, 5, 6, 7, 3]) = [4])
    (r8 : Region.ready .any ops (LR 12 [0, 1, 2, 5, 6, 7, 3, 4]) = [8])
    (r9 : Region.ready .any ops (LR 12 [0, 1, 2, 5, 6, 7, 3, 4, 8]) = [9])
    (rend : Region.ready .any ops (LR 12 [0, 1, 2, 5, 6, 7, 3, 4, 8, 9, 10, 11]) = [])
    (hQ : ∀ (d : Option Tmp) (v : Value) c a w, Q (.panic c) (a.put d v) w → Q (.panic c) a w)
    (hsz : 17 < a0.tmps.size) (e0 : a0.eval (.tmp 0) = .map (some b)) (e3 : a0.eval (.tmp 3) = .pointer (some ⟨xb, 0, none⟩))
    (hS0 : S w5.drew)
    (keep : ∀ u u', S u → S u' → S u') (LdL : ∀ u, S u → (loadVar 54 ⟨xb, 4, none⟩).run Tryd.prog u = .ok el u) (LdR : ∀ u, S u → (loadVar 54 ⟨xb, 10, none⟩).run Tryd.prog u = .ok er u)
    (C1 : Calls Tryd.prog 56 #[el] w5.drew fun e u1 => ∃ v1, e = .returned v1 ∧ S u1 ∧ Calls Tryd.prog 35 #[.map (some b), v1] u1 fun e u2 => ∃ l1, e = .returned l1 ∧ S u2 ∧ Calls Tryd.prog 56 #[er] u2 fun e u3 => ∃ v2, e = .returned v2 ∧ S u3 ∧ Calls Tryd.prog 35 #[.map (some b), v2] u3 fun e u4 => ∃ l2, e = .returned l2 ∧ S u4 ∧ Pf l1 l2 u4)
    (F : ∀ (wc : World) (v1 l1 v2 l2 : Value), Pf l1 l2 wc → Q .normal ((((((((((((a0.put (some 8) (.map (some b))).put (some 9) (.pointer (some ⟨xb, 4, none⟩))).put (some 10) (el)).put (some 13) (.map (some b))).put (some 14) (.pointer (some ⟨xb, 10, none⟩))).put (some 15) (er)).put (some 11) (v1)).put (some 12) (l1)).put (some 16) (v2)).put (some 17) (l2)).put (some 6) (l1)).put (some 7) (l2)) wc) :
    wpAnyH Tryd.prog .any ops Q S 12 (LR 12 []) a0 w5.drew := by
  have hall : ∀ p ∈ rfcmp_takes, Region.free .any ops (LR 12 p.1) p.2 = true ∧ (Region.ready .any ops (LR 12 p.1)).contains p.2 = true := by
    intro p hp
    have := List.all_eq_true.1 hq p hp
    simpa using this
  unfold rfcmp_takes at hall
  obtain ⟨o0, ho, hg, hop, hd⟩ := isOpG_out q0
  have hfr := hall ([], 0) (by simp)
  refine wpAnyH_take (listed := LR 12 []) (v := .map (some b)) ho hs hfr.1 hfr.2 (hQ _ _) (Or.inl ⟨(wantedN hg), fun w' hS => run_move _ _ hop w' (by (repeat rw [eval_far _ _ (by decide)]); exact e0)⟩) hS0 ?_
  rw [hd, ← LR_snoc]
  clear ho hg hop hd hfr
  obtain ⟨o1, ho, hg, hop, hd⟩ := isOpG_out q1
  have hfr := hall ([0], 1) (by simp)
  refine wpAnyH_take (listed := LR 12 [0]) (v := .pointer (some ⟨xb, 4, none⟩)) ho hs hfr.1 hfr.2 (hQ _ _) (Or.inl ⟨(wantedN hg), fun w' hS => run_fldC3 _ _ hop w' (by (repeat rw [eval_far _ _ (by decide)]); exact e3)⟩) hS0 ?_
  rw [hd, ← LR_snoc]
  clear ho hg hop hd hfr
  obtain ⟨o2, ho, hg, hop, hd⟩ := isOpG_out q2
  have hfr := hall ([0, 1], 2) (by simp)
  refine wpAnyH_take (listed := LR 12 [0, 1]) (v := el) ho hs hfr.1 hfr.2 (hQ _ _) (Or.inl ⟨(wantedN hg), fun w' hS => run_loadS _ _ hop w' (by (repeat (first | rw [eval_same _ _ (by (try simp only [put_size]); omega)] | rw [eval_far _ _ (by decide)]))) (LdL _ hS)⟩) hS0 ?_
  rw [hd, ← LR_snoc]
  clear ho hg hop hd hfr
  obtain ⟨o5, ho, hg, hop, hd⟩ := isOpG_out q5
  have hfr := hall ([0, 1, 2], 5) (by simp)
  refine wpAnyH_take (listed := LR 12 [0, 1, 2]) (v := .map (some b)) ho hs hfr.1 hfr.2 (hQ _ _) (Or.inl ⟨(wantedN hg), fun w' hS => run_move _ _ hop w' (by (repeat rw [eval_far _ _ (by decide)]); exact e0)⟩) hS0 ?_
  rw [hd, ← LR_snoc]
  clear ho hg hop hd hfr
  obtain ⟨o6, ho, hg, hop, hd⟩ := isOpG_out q6
  have hfr := hall ([0, 1, 2, 5], 6) (by simp)
  refine wpAnyH_take (listed := LR 12 [0, 1, 2, 5]) (v := .pointer (some ⟨xb, 10, none⟩)) ho hs hfr.1 hfr.2 (hQ _ _) (Or.inl ⟨(wantedN hg), fun w' hS => run_fldC4 _ _ hop w' (by (repeat rw [eval_far _ _ (by decide)]); exact e3)⟩) hS0 ?_
  rw [hd, ← LR_snoc]
  clear ho hg hop hd hfr
  obtain ⟨o7, ho, hg, hop, hd⟩ := isOpG_out q7
  have hfr := hall ([0, 1, 2, 5, 6], 7) (by simp)
  refine wpAnyH_take (listed := LR 12 [0, 1, 2, 5, 6]) (v := er) ho hs hfr.1 hfr.2 (hQ _ _) (Or.inl ⟨(wantedN hg), fun w' hS => run_loadS _ _ hop w' (by (repeat (first | rw [eval_same _ _ (by (try simp only [put_size]); omega)] | rw [eval_far _ _ (by decide)]))) (LdR _ hS)⟩) hS0 ?_
  rw [hd, ← LR_snoc]
  clear ho hg hop hd hfr
  refine wpAnyH_all r3 (by simp) ?_
  intro i hi
  obtain rfl := List.mem_singleton.1 hi
  obtain ⟨o3, ho, hg, hop, hd⟩ := isOpG_out q3
  have x3_0 : (((((((a0.put (some 8) (.map (some b))).put (some 9) (.pointer (some ⟨xb, 4, none⟩))).put (some 10) (el)).put (some 13) (.map (some b))).put (some 14) (.pointer (some ⟨xb, 10, none⟩))).put (some 15) (er))).eval (.tmp 10) = el := (by (repeat (first | rw [eval_same _ _ (by (try simp only [put_size]); omega)] | rw [eval_far _ _ (by decide)])))
  refine wpOp_callG ho (wantedN hg) (run_callV 56 Tryd.func56 (by kernel_rfl) (by kernel_rfl) #[.tmp 10] _ hop #[el] (by simp only [List.map_toArray, List.map_cons, List.map_nil, x3_0])) ?_
  refine (C1).mono ?_
  rintro e u1 ⟨v1, rfl, hS1, C2⟩
  have hS3 := keep _ _ hS0 hS1
  refine ⟨_, rfl, hS3, ?_⟩
  rw [hd]
  clear ho hg hop hd
  rw [← LR_snoc]
  refine wpAnyH_all r4 (by simp) ?_
  intro i hi
  obtain rfl := List.mem_singleton.1 hi
  obtain ⟨o4, ho, hg, hop, hd⟩ := isOpG_out q4
  have x4_0 : ((((((((a0.put (some 8) (.map (some b))).put (some 9) (.pointer (some ⟨xb, 4, none⟩))).put (some 10) (el)).put (some 13) (.map (some b))).put (some 14) (.pointer (some ⟨xb, 10, none⟩))).put (some 15) (er)).put (some 11) (v1))).eval (.tmp 8) = .map (some b) := (by (repeat (first | rw [eval_same _ _ (by (try simp only [put_size]); omega)] | rw [eval_far _ _ (by decide)])))
  have x4_1 : ((((((((a0.put (some 8) (.map (some b))).put (some 9) (.pointer (some ⟨xb, 4, none⟩))).put (some 10) (el)).put (some 13) (.map (some b))).put (some 14) (.pointer (some ⟨xb, 10, none⟩))).put (some 15) (er)).put (some 11) (v1))).eval (.tmp 11) = v1 := (by (repeat (first | rw [eval_same _ _ (by (try simp only [put_size]); omega)] | rw [eval_far _ _ (by decide)])))
  refine wpOp_callG ho (wantedN hg) (run_callV 35 Tryd.func35 (by kernel_rfl) (by kernel_rfl) #[.tmp 8, .tmp 11] _ hop #[.map (some b), v1] (by simp only [List.map_toArray, List.map_cons, List.map_nil, x4_0, x4_1])) ?_
  refine (C2).mono ?_
  rintro e u2 ⟨l1, rfl, hS2, C3⟩
  have hS4 := keep _ _ hS3 hS2
  refine ⟨_, rfl, hS4, ?_⟩
  rw [hd]
  clear ho hg hop hd
  rw [← LR_snoc]
  refine wpAnyH_all r8 (by simp) ?_
  intro i hi
  obtain rfl := List.mem_singleton.1 hi
  obtain ⟨o8, ho, hg, hop, hd⟩ := isOpG_out q8
  have x8_0 : (((((((((a0.put (some 8) (.map (some b))).put (some 9) (.pointer (some ⟨xb, 4, none⟩))).put (some 10) (el)).put (some 13) (.map (some b))).put (some 14) (.pointer (some ⟨xb, 10, none⟩))).put (some 15) (er)).put (some 11) (v1)).put (some 12) (l1))).eval (.tmp 15) = er := (by (repeat (first | rw [eval_same _ _ (by (try simp only [put_size]); omega)] | rw [eval_far _ _ (by decide)])))
  refine wpOp_callG ho (wantedN hg) (run_callV 56 Tryd.func56 (by kernel_rfl) (by kernel_rfl) #[.tmp 15] _ hop #[er] (by simp only [List.map_toArray, List.map_cons, List.map_nil, x8_0])) ?_
  refine (C3).mono ?_
  rintro e u3 ⟨v2, rfl, hS3, C4⟩
  have hS8 := keep _ _ hS4 hS3
  refine ⟨_, rfl, hS8, ?_⟩
  rw [hd]
  clear ho hg hop hd
  rw [← LR_snoc]
  refine wpAnyH_all r9 (by simp) ?_
  intro i hi
  obtain rfl := List.mem_singleton.1 hi
  obtain ⟨o9, ho, hg, hop, hd⟩ := isOpG_out q9
  have x9_0 : ((((((((((a0.put (some 8) (.map (some b))).put (some 9) (.pointer (some ⟨xb, 4, none⟩))).put (some 10) (el)).put (some 13) (.map (some b))).put (some 14) (.pointer (some ⟨xb, 10, none⟩))).put (some 15) (er)).put (some 11) (v1)).put (some 12) (l1)).put (some 16) (v2))).eval (.tmp 13) = .map (some b) := (by (repeat (first | rw [eval_same _ _ (by (try simp only [put_size]); omega)] | rw [eval_far _ _ (by decide)])))
  have x9_1 : ((((((((((a0.put (some 8) (.map (some b))).put (some 9) (.pointer (some ⟨xb, 4, none⟩))).put (some 10) (el)).put (some 13) (.map (some b))).put (some 14) (.pointer (some ⟨xb, 10, none⟩))).put (some 15) (er)).put (some 11) (v1)).put (some 12) (l1)).put (some 16) (v2))).eval (.tmp 16) = v2 := (by (repeat (first | rw [eval_same _ _ (by (try simp only [put_size]); omega)] | rw [eval_far _ _ (by decide)])))
  refine wpOp_callG ho (wantedN hg) (run_callV 35 Tryd.func35 (by kernel_rfl) (by kernel_rfl) #[.tmp 13, .tmp 16] _ hop #[.map (some b), v2] (by simp only [List.map_toArray, List.map_cons, List.map_nil, x9_0, x9_1])) ?_
  refine (C4).mono ?_
  rintro e u4 ⟨l2, rfl, hS4, hP⟩
  have hS9 := keep _ _ hS8 hS4
  refine ⟨_, rfl, hS9, ?_⟩
  rw [hd]
  clear ho hg hop hd
  rw [← LR_snoc]
  obtain ⟨o10, ho, hg, hop, hd⟩ := isOpG_out q10
  have hfr := hall ([0, 1, 2, 5, 6, 7, 3, 4, 8, 9], 10) (by simp)
  refine wpAnyH_take (listed := LR 12 [0, 1, 2, 5, 6, 7, 3, 4, 8, 9]) (v := l1) ho hs hfr.1 hfr.2 (hQ _ _) (Or.inl ⟨(wantedN hg), fun w' hS => run_assignV _ _ hop w' (by (repeat (first | rw [eval_same _ _ (by (try simp only [put_size]); omega)] | rw [eval_far _ _ (by decide)])))⟩) hS9 ?_
  rw [hd, ← LR_snoc]
  clear ho hg hop hd hfr
  obtain ⟨o11, ho, hg, hop, hd⟩ := isOpG_out q11
  have hfr := hall ([0, 1, 2, 5, 6, 7, 3, 4, 8, 9, 10], 11) (by simp)
  refine wpAnyH_take (listed := LR 12 [0, 1, 2, 5, 6, 7, 3, 4, 8, 9, 10]) (v := l2) ho hs hfr.1 hfr.2 (hQ _ _) (Or.inl ⟨(wantedN hg), fun w' hS => run_assignV _ _ hop w' (by (repeat (first | rw [eval_same _ _ (by (try simp only [put_size]); omega)] | rw [eval_far _ _ (by decide)])))⟩) hS9 ?_
  rw [hd, ← LR_snoc]
  clear ho hg hop hd hfr
  exact wpAnyH_done rend (F _ v1 l1 v2 l2 hP) _
end Go.Proofs.YteabclfhmapabaaDoor
end
section
namespace Go.Proofs.YteabclfhmapabaaDoor
open Go.RowKit Go.Maps Go.ChangeMaps
set_option linter.unusedVariables false
set_option linter.unusedSimpArgs false
attribute [local go_sem ↓] Go.wp_at_zero Go.wp_at_succ
attribute [-go_sem] loadVar

/-- a comparison's step: its kind and what it gives -/
def cmpM (x : Lit4) (A B : List ByteArray) : Int × List ByteArray :=
  if A.length = 0 ∧ B.length = 0 then (5, []) else if x.rel ≠ 1 then (0, []) else if B.length = 0 ∧ x.l.op = 0 then (6, A) else if A.length = 0 ∧ x.r.op = 0 then (6, B) else (0, [])
theorem load_i8A {u : World} {a : Addr} {n : Int} (h : u.cell? a = some (.int .i8 n)) : (loadVar 45 a).run Tryd.prog u = .ok (.int .i8 n) u := by rw [loadVar.eq_1]; go_simp
theorem load_i8B {u : World} {a : Addr} {n : Int} (h : u.cell? a = some (.int .i8 n)) : (loadVar 46 a).run Tryd.prog u = .ok (.int .i8 n) u := by rw [loadVar.eq_1]; go_simp
theorem load_ExpP {u : World} {g o : Nat} {cs : List Value} (h : u.rangeAt g o cs) (hl : cs.length = 6) : (loadVar 54 ⟨g, o, none⟩).run Tryd.prog u = .ok (.agg cs.toArray) u :=
  run_loadVar_mid u g o _ cs _ h Tryd.underlying54 rfl (by rw [hl]; kernel_rfl)
theorem exprs_sz {w : World} {d : Nat} {e : E} {a : Option Addr} {c : Nat} (h : EIs w d e a c) : ∀ i, i < (vsT [] (termsD d e)).length → (atS (vsT [] (termsD d e)) i).size ≤ maxLen := by
  intro i hi
  have hm : atS (vsT [] (termsD d e)) i ∈ vsT [] (termsD d e) := by
    unfold atS
    rw [List.getD, List.getElem?_eq_getElem hi]
    exact List.getElem_mem hi
  rcases vsT_mem _ _ _ hm with h1 | ⟨t, ht, e⟩
  · simp at h1
  · rw [← e]
    exact (termsD_wf _ _ _ _ h t ht).text
theorem own_base {w : World} {B B2 k n : Nat} {ty : TypeId} {v : Value} {cs : List Value} (h : w.ownsRow B ty k v n cs) (hb : B2 ≤ B) : w.ownsRow B2 ty k v n cs := by
  obtain ⟨e1, e2 | ⟨g', cap', cur, e, hbase, rest⟩⟩ := h
  · exact ⟨e1, .inl e2⟩
  · exact ⟨e1, .inr ⟨g', cap', cur, e, Nat.le_trans hb hbase, rest⟩⟩
theorem lacks_of {w : World} {b : Nat} {ss : List ByteArray} (h : SetIs w b ss) {d : Nat} {e : E} {a : Option Addr} {c : Nat} (hE : EIs w d e a c) (hs : szD d e ≤ 1048576) {u : World} (hu : Below w.heap.size w u) :
    Calls Tryd.prog 56 #[e.val a c] u fun r w' => ∃ v1, r = .returned v1 ∧ Below w.heap.size w w' ∧ Below u.heap.size u w' ∧ Calls Tryd.prog 35 #[.map (some b), v1] w' fun r w'' => ∃ a2 c2, r = .returned (.slice a2 (lackL ss (vsT [] (termsD d e))).length c2) ∧ w''.ownsRow w.heap.size 9 1 (.slice a2 (lackL ss (vsT [] (termsD d e))).length c2) (lackL ss (vsT [] (termsD d e))).length ((lackL ss (vsT [] (termsD d e))).flatMap strB) ∧ Below w'.heap.size w' w'' := by
  refine (vexprVars_any d e a c u (hE.below hu) hs).mono ?_
  rintro r w' ⟨sv, rfl, hls, hb⟩
  have hb' : Below w.heap.size w w' := hu.trans (hb.mono hu.size)
  refine ⟨sv, rfl, hb', hb, ?_⟩
  have hvn : (vsT [] (termsD d e)).length ≤ 1048576 := by
    have := vsT_len (termsD d e) []
    simp only [List.length_nil] at this
    unfold szD at hs
    omega
  refine (kn_lacks (h.of_block (hb'.block b h.lt)) hls (exprs_sz hE) hvn).mono ?_
  rintro r w'' ⟨a2, c2, rfl, hown, hb2⟩
  refine ⟨a2, c2, rfl, ?_, hb2⟩
  obtain ⟨e1, e2 | ⟨g', cap', cur, e, hbase, rest⟩⟩ := hown
  · exact ⟨e1, .inl e2⟩
  · exact ⟨e1, .inr ⟨g', cap', cur, e, Nat.le_trans hb'.size hbase, rest⟩⟩
set_option maxHeartbeats 3200000 in
set_option maxRecDepth 100000 in
theorem compare_any (d : Nat) (x : Lit4) (q : LP) {ss : List ByteArray} {b : Nat} (w : World) (h : SetIs w b ss) (hX : LIs w d x q) (hs1 : szD d x.l ≤ 1048576) (hs2 : szD d x.r ≤ 1048576) :
    Calls Tryd.prog 37 #[.map (some b), x.val q] w fun e w' => Below w.heap.size w w' ∧ ∃ a c, e = .returned (.tuple #[.int .i8 (cmpM x (lackL ss (vsT [] (termsD d x.l))) (lackL ss (vsT [] (termsD d x.r)))).1, .slice a (cmpM x (lackL ss (vsT [] (termsD d x.l))) (lackL ss (vsT [] (termsD d x.r)))).2.length c]) ∧ w'.ownsRow w.heap.size 9 1 (.slice a (cmpM x (lackL ss (vsT [] (termsD d x.l))) (lackL ss (vsT [] (termsD d x.r)))).2.length c) (cmpM x (lackL ss (vsT [] (termsD d x.l))) (lackL ss (vsT [] (termsD d x.r)))).2.length ((cmpM x (lackL ss (vsT [] (termsD d x.l))) (lackL ss (vsT [] (termsD d x.r)))).2.flatMap strB) := by
  have hA0 := belowA (w := w) (.cells #[.int .i8 x.k, .string x.pr, .slice q.a x.ts.length q.c, .int .i8 x.rel, .int .i8 x.l.op, .string x.l.t.v, .int .i8 x.l.t.a.k, .int .i64 x.l.t.a.n, .string x.l.t.a.s, .slice q.la x.l.kids.length q.lc, .int .i8 x.r.op, .string x.r.t.v, .int .i8 x.r.t.a.k, .int .i64 x.r.t.a.n, .string x.r.t.a.s, .slice q.ra x.r.kids.length q.rc] 56)
  have HRL := Lib.hid (rl_new w #[.int .i8 x.k, .string x.pr, .slice q.a x.ts.length q.c, .int .i8 x.rel, .int .i8 x.l.op, .string x.l.t.v, .int .i8 x.l.t.a.k, .int .i64 x.l.t.a.n, .string x.l.t.a.s, .slice q.la x.l.kids.length q.lc, .int .i8 x.r.op, .string x.r.t.v, .int .i8 x.r.t.a.k, .int .i64 x.r.t.a.n, .string x.r.t.a.s, .slice q.ra x.r.kids.length q.rc] 56)
  have HB0 := Lib.hid hA0
  have HC1 : Hid (∀ u, Below (w.alloc (.cells #[.int .i8 x.k, .string x.pr, .slice q.a x.ts.length q.c, .int .i8 x.rel, .int .i8 x.l.op, .string x.l.t.v, .int .i8 x.l.t.a.k, .int .i64 x.l.t.a.n, .string x.l.t.a.s, .slice q.la x.l.kids.length q.lc, .int .i8 x.r.op, .string x.r.t.v, .int .i8 x.r.t.a.k, .int .i64 x.r.t.a.n, .string x.r.t.a.s, .slice q.ra x.r.kids.length q.rc] 56)).heap.size (w.alloc (.cells #[.int .i8 x.k, .string x.pr, .slice q.a x.ts.length q.c, .int .i8 x.rel, .int .i8 x.l.op, .string x.l.t.v, .int .i8 x.l.t.a.k, .int .i64 x.l.t.a.n, .string x.l.t.a.s, .slice q.la x.l.kids.length q.lc, .int .i8 x.r.op, .string x.r.t.v, .int .i8 x.r.t.a.k, .int .i64 x.r.t.a.n, .string x.r.t.a.s, .slice q.ra x.r.kids.length q.rc] 56)) u → _) := fun u hu => lacks_of (h.of_block (hA0.block b h.lt)) (hX.l.below hA0) hs1 hu
  have HC2 : Hid (∀ u, Below (w.alloc (.cells #[.int .i8 x.k, .string x.pr, .slice q.a x.ts.length q.c, .int .i8 x.rel, .int .i8 x.l.op, .string x.l.t.v, .int .i8 x.l.t.a.k, .int .i64 x.l.t.a.n, .string x.l.t.a.s, .slice q.la x.l.kids.length q.lc, .int .i8 x.r.op, .string x.r.t.v, .int .i8 x.r.t.a.k, .int .i64 x.r.t.a.n, .string x.r.t.a.s, .slice q.ra x.r.kids.length q.rc] 56)).heap.size (w.alloc (.cells #[.int .i8 x.k, .string x.pr, .slice q.a x.ts.length q.c, .int .i8 x.rel, .int .i8 x.l.op, .string x.l.t.v, .int .i8 x.l.t.a.k, .int .i64 x.l.t.a.n, .string x.l.t.a.s, .slice q.la x.l.kids.length q.lc, .int .i8 x.r.op, .string x.r.t.v, .int .i8 x.r.t.a.k, .int .i64 x.r.t.a.n, .string x.r.t.a.s, .slice q.ra x.r.kids.length q.rc] 56)) u → _) := fun u hu => lacks_of (h.of_block (hA0.block b h.lt)) (hX.r.below hA0) hs2 hu
  unfold Lit4.val
  unfold E.val at HC1 HC2
  generalize lackL ss (vsT [] (termsD d x.l)) = A at HC1 ⊢
  generalize lackL ss (vsT [] (termsD d x.r)) = B at HC2 ⊢
  clear h hX hs1 hs2 hA0
  go_enter Tryd.func37, Tryd.ntmps37
  go_upto_region 1 with fail
  generalize w.alloc (.cells #[.int .i8 x.k, .string x.pr, .slice q.a x.ts.length q.c, .int .i8 x.rel, .int .i8 x.l.op, .string x.l.t.v, .int .i8 x.l.t.a.k, .int .i64 x.l.t.a.n, .string x.l.t.a.s, .slice q.la x.l.kids.length q.lc, .int .i8 x.r.op, .string x.r.t.v, .int .i8 x.r.t.a.k, .int .i64 x.r.t.a.n, .string x.r.t.a.s, .slice q.ra x.r.kids.length q.rc] 56) = W at HRL HB0 HC1 HC2 ⊢
  have HLE : Hid (∀ u, Below W.heap.size W u → (loadVar 54 ⟨w.heap.size, 4, none⟩).run Tryd.prog u = .ok (.agg #[.int .i8 x.l.op, .string x.l.t.v, .int .i8 x.l.t.a.k, .int .i64 x.l.t.a.n, .string x.l.t.a.s, .slice q.la x.l.kids.length q.lc]) u ∧ (loadVar 54 ⟨w.heap.size, 10, none⟩).run Tryd.prog u = .ok (.agg #[.int .i8 x.r.op, .string x.r.t.v, .int .i8 x.r.t.a.k, .int .i64 x.r.t.a.n, .string x.r.t.a.s, .slice q.ra x.r.kids.length q.rc]) u) := fun u hu => by
    have hr := RL.below HRL.out hu
    exact ⟨load_ExpP (cs := [.int .i8 x.l.op, .string x.l.t.v, .int .i8 x.l.t.a.k, .int .i64 x.l.t.a.n, .string x.l.t.a.s, .slice q.la x.l.kids.length q.lc]) (fun j v hv => by
      have hj : j < 6 := (List.getElem?_eq_some_iff.1 hv).1
      have hj6 : j = 0 ∨ j = 1 ∨ j = 2 ∨ j = 3 ∨ j = 4 ∨ j = 5 := by omega
      rcases hj6 with rfl | rfl | rfl | rfl | rfl | rfl <;> exact RL.at hr hv) rfl, load_ExpP (cs := [.int .i8 x.r.op, .string x.r.t.v, .int .i8 x.r.t.a.k, .int .i64 x.r.t.a.n, .string x.r.t.a.s, .slice q.ra x.r.kids.length q.rc]) (fun j v hv => by
      have hj : j < 6 := (List.getElem?_eq_some_iff.1 hv).1
      have hj6 : j = 0 ∨ j = 1 ∨ j = 2 ∨ j = 3 ∨ j = 4 ∨ j = 5 := by omega
      rcases hj6 with rfl | rfl | rfl | rfl | rfl | rfl <;> exact RL.at hr hv) rfl⟩
  have hD : Below W.heap.size W W.drew := (Below.refl _ _).drew
  have HCC : Hid (Calls Tryd.prog 56 #[.agg #[.int .i8 x.l.op, .string x.l.t.v, .int .i8 x.l.t.a.k, .int .i64 x.l.t.a.n, .string x.l.t.a.s, .slice q.la x.l.kids.length q.lc]] W.drew fun e u1 => ∃ v1, e = .returned v1 ∧ Below W.heap.size W u1 ∧ Calls Tryd.prog 35 #[.map (some b), v1] u1 fun e u2 => ∃ l1, e = .returned l1 ∧ Below W.heap.size W u2 ∧ Calls Tryd.prog 56 #[.agg #[.int .i8 x.r.op, .string x.r.t.v, .int .i8 x.r.t.a.k, .int .i64 x.r.t.a.n, .string x.r.t.a.s, .slice q.ra x.r.kids.length q.rc]] u2 fun e u3 => ∃ v2, e = .returned v2 ∧ Below W.heap.size W u3 ∧ Calls Tryd.prog 35 #[.map (some b), v2] u3 fun e u4 => ∃ l2, e = .returned l2 ∧ Below W.heap.size W u4 ∧ ∃ a1 c1 a2 c2, l1 = .slice a1 A.length c1 ∧ l2 = .slice a2 B.length c2 ∧ u4.ownsRow W.heap.size 9 1 (.slice a1 A.length c1) A.length (A.flatMap strB) ∧ u4.ownsRow W.heap.size 9 1 (.slice a2 B.length c2) B.length (B.flatMap strB) ∧ Below W.heap.size W u4) := by
    refine (HC1.out _ hD).mono ?_
    rintro e u1 ⟨v1, rfl, b1, _, hc⟩
    refine ⟨v1, rfl, b1, hc.mono ?_⟩
    rintro e u2 ⟨a1, c1, rfl, hown1, b2⟩
    have b2' := b1.trans (b2.mono b1.size)
    refine ⟨_, rfl, b2', (HC2.out _ b2').mono ?_⟩
    rintro e u3 ⟨v2, rfl, b3, b23, hc2⟩
    refine ⟨v2, rfl, b3, hc2.mono ?_⟩
    rintro e u4 ⟨a2, c2, rfl, hown2, b4⟩
    have b4' := b3.trans (b4.mono b3.size)
    exact ⟨_, rfl, b4', a1, c1, a2, c2, rfl, rfl, own_below hown1 (b23.trans (b4.mono b23.size)), hown2, b4'⟩
  clear HC1 HC2
  refine wp_region_noPanic ?_
  refine wp_region_held (S := fun u => Below W.heap.size W u) (by kernel_rfl) ?_
  refine rfcmp (w5 := W) (S := fun u => Below W.heap.size W u) (xb := w.heap.size) (b := b) (Pf := fun l1 l2 u4 => ∃ a1 c1 a2 c2, l1 = .slice a1 A.length c1 ∧ l2 = .slice a2 B.length c2 ∧ u4.ownsRow W.heap.size 9 1 (.slice a1 A.length c1) A.length (A.flatMap strB) ∧ u4.ownsRow W.heap.size 9 1 (.slice a2 B.length c2) B.length (B.flatMap strB) ∧ Below W.heap.size W u4) rfl rfl rfl rfl rfl rfl rfl rfl rfl rfl rfl rfl (by kernel_rfl) (by kernel_rfl) (by kernel_rfl) (by kernel_rfl) (by kernel_rfl) (by kernel_rfl) (by kernel_rfl) (fun _ _ _ _ _ h => h) (by simp) rfl rfl hD (fun _ _ _ h => h) (fun u hu => (HLE.out u hu).1) (fun u hu => (HLE.out u hu).2) HCC.out ?_
  rintro wc v1 l1 v2 l2 ⟨a1, c1, a2, c2, rfl, rfl, hown1, hown2, bc⟩
  refine NoPanic.normal ?_
  rename_i hK
  refine hK _ _ ?_
  simp (config := { maxSteps := 8000000 }) only [Act.put, List.getElem_toArray, List.getElem_cons_zero, List.getElem_cons_succ, List.setIfInBounds_toArray, List.set_cons_succ, List.set_cons_zero]
  have lr := load_i8A (RL.at (RL.below HRL.out bc) (j := 3) rfl)
  have ll := load_i8B (RL.at (RL.below HRL.out bc) (j := 4) rfl)
  have lp := load_i8B (RL.at (RL.below HRL.out bc) (j := 10) rfl)
  have HO1 := Lib.hid (own_base hown1 HB0.out.size)
  have HO2 := Lib.hid (own_base hown2 HB0.out.size)
  have HBF := Lib.hid (HB0.out.trans (bc.mono HB0.out.size))
  clear hown1 hown2 bc HCC HLE hD HRL HB0 hK
  by_cases hA : A.length = 0
  · have dA : ((A.length : Int) == 0) = true := by rw [beq_iff_eq]; omega
    by_cases hB : B.length = 0
    · have dB : ((B.length : Int) == 0) = true := by rw [beq_iff_eq]; omega
      have HG : Hid (cmpM x A B = (5, [])) := by
        show cmpM x A B = _
        unfold cmpM
        simp [hA, hB]
      clear hA hB
      go_wp2
      go_ret2
      rw [HG.out]
      exact ⟨HBF.out, none, 0, rfl, World.ownsRow_nil _ _ _ _⟩
    · have dB : ((B.length : Int) == 0) = false := by rw [beq_eq_false_iff_ne]; omega
      by_cases hR : x.rel = 1
      · have dR : (x.rel != 1) = false := by rw [hR]; rfl
        by_cases hP : x.r.op = 0
        · have dP : (x.r.op == 0) = true := by rw [hP]; rfl
          have HG : Hid (cmpM x A B = (6, B)) := by
            show cmpM x A B = _
            unfold cmpM
            simp [hA, hB, hR, hP]
          clear hA hB hR hP
          go_wp2
          go_ret2
          rw [HG.out]
          exact ⟨HBF.out, a2, c2, rfl, HO2.out⟩
        · have dP : (x.r.op == 0) = false := by rw [beq_eq_false_iff_ne]; exact hP
          have HG : Hid (cmpM x A B = (0, [])) := by
            show cmpM x A B = _
            unfold cmpM
            simp [hA, hB, hR, hP]
          clear hA hB hR hP
          go_wp2
          go_ret2
          rw [HG.out]
          exact ⟨HBF.out, none, 0, rfl, World.ownsRow_nil _ _ _ _⟩
      · have dR : (x.rel != 1) = true := by rw [bne_iff_ne]; exact hR
        have HG : Hid (cmpM x A B = (0, [])) := by
          show cmpM x A B = _
          unfold cmpM
          simp [hA, hB, hR]
        clear hA hB hR
        go_wp2
        go_ret2
        rw [HG.out]
        exact ⟨HBF.out, none, 0, rfl, World.ownsRow_nil _ _ _ _⟩
  · have dA : ((A.length : Int) == 0) = false := by rw [beq_eq_false_iff_ne]; omega
    by_cases hB : B.length = 0
    · have dB : ((B.length : Int) == 0) = true := by rw [beq_iff_eq]; omega
      by_cases hR : x.rel = 1
      · have dR : (x.rel != 1) = false := by rw [hR]; rfl
        by_cases hL : x.l.op = 0
        · have dL : (x.l.op == 0) = true := by rw [hL]; rfl
          have HG : Hid (cmpM x A B = (6, A)) := by
            show cmpM x A B = _
            unfold cmpM
            simp [hA, hB, hR, hL]
          clear hA hB hR hL
          go_wp2
          go_ret2
          rw [HG.out]
          exact ⟨HBF.out, a1, c1, rfl, HO1.out⟩
        · have dL : (x.l.op == 0) = false := by rw [beq_eq_false_iff_ne]; exact hL
          have HG : Hid (cmpM x A B = (0, [])) := by
            show cmpM x A B = _
            unfold cmpM
            simp [hA, hB, hR, hL]
          clear hA hB hR hL
          go_wp2
          go_ret2
          rw [HG.out]
          exact ⟨HBF.out, none, 0, rfl, World.ownsRow_nil _ _ _ _⟩
      · have dR : (x.rel != 1) = true := by rw [bne_iff_ne]; exact hR
        have HG : Hid (cmpM x A B = (0, [])) := by
          show cmpM x A B = _
          unfold cmpM
          simp [hA, hB, hR]
        clear hA hB hR
        go_wp2
        go_ret2
        rw [HG.out]
        exact ⟨HBF.out, none, 0, rfl, World.ownsRow_nil _ _ _ _⟩
    · have dB : ((B.length : Int) == 0) = false := by rw [beq_eq_false_iff_ne]; omega
      by_cases hR : x.rel = 1
      · have dR : (x.rel != 1) = false := by rw [hR]; rfl
        have HG : Hid (cmpM x A B = (0, [])) := by
          show cmpM x A B = _
          unfold cmpM
          simp [hA, hB, hR]
        clear hA hB hR
        go_wp2
        go_ret2
        rw [HG.out]
        exact ⟨HBF.out, none, 0, rfl, World.ownsRow_nil _ _ _ _⟩
      · have dR : (x.rel != 1) = true := by rw [bne_iff_ne]; exact hR
        have HG : Hid (cmpM x A B = (0, [])) := by
          show cmpM x A B = _
          unfold cmpM
          simp [hA, hB, hR]
        clear hA hB hR
        go_wp2
        go_ret2
        rw [HG.out]
        exact ⟨HBF.out, none, 0, rfl, World.ownsRow_nil _ _ _ _⟩
end Go.Proofs.YteabclfhmapabaaDoor
end
section
namespace Go.Proofs.YteabclfhmapabaaDoor
open Go.RowKit Go.Maps Go.ChangeMaps
set_option linter.unusedVariables false
set_option linter.unusedSimpArgs false
attribute [local go_sem ↓] Go.wp_at_zero Go.wp_at_succ
attribute [-go_sem] loadVar

/-- is it the number of an atom that is left? -/
def isAtM (l : List XL) (left : Nat) (i : Int) : Bool := hasB left i && decide ((atL l i.toNat).x.k = 1)
theorem hasB_lt {left n : Nat} {i : Int} (hl : left < 2 ^ n) (h : hasB left i = true) : 0 ≤ i ∧ i.toNat < n := by
  unfold hasB at h
  simp only [Bool.and_eq_true, decide_eq_true_eq] at h
  refine ⟨h.1, ?_⟩
  apply Decidable.byContradiction
  intro hn
  have h2 : (2 : Nat) ^ n ≤ 2 ^ i.toNat := Nat.pow_le_pow_right (by omega) (by omega)
  rw [Nat.testBit_lt_two_pow (Nat.lt_of_lt_of_le hl h2)] at h
  cases h.2
theorem load_litsK {u : World} {a : Addr} {n : Int} (h : u.cell? a = some (.int .u32 n)) : (loadVar 75 a).run Tryd.prog u = .ok (.int .u32 n) u := by rw [loadVar.eq_1]; go_simp
theorem load_kindK {u : World} {a : Addr} {n : Int} (h : u.cell? a = some (.int .i8 n)) : (loadVar 41 a).run Tryd.prog u = .ok (.int .i8 n) u := by rw [loadVar.eq_1]; go_simp
set_option maxHeartbeats 1600000 in
set_option maxRecDepth 100000 in
theorem turnAtom_any {w : World} {tb kb d : Nat} {v : Value} {ss : List ByteArray} {left : Nat} {l : List XL} (hT : TuIs w tb kb v ss left) (hL : Lb w v d l) (hn : l.length ≤ 16) (hl : left < 2 ^ l.length) (i : Int) :
    Calls Tryd.prog 13 #[.pointer (some ⟨tb, 0, none⟩), .int .i64 i] w fun e w' => e = .returned (.bool (isAtM l left i)) ∧ w' = w := by
  have h32 : left < 4294967296 := Nat.lt_of_lt_of_le hl (Nat.le_trans (Nat.pow_le_pow_right (by omega) hn) (by decide))
  have l2 := load_litsK (RL.at hT.rl (j := 2) rfl)
  have l0 := load_litsB (RL.at hT.rl (j := 0) rfl)
  have HH := Lib.hid (lits_has left h32 i w)
  obtain ⟨a, c, rfl, hc1, hc2, hat⟩ := hL.form
  have HAT := Lib.hid hat
  have HLT := Lib.hid (fun h => hasB_lt (i := i) hl h)
  clear hT hL hat hl
  cases hb : hasB left i
  · have HF : Hid (isAtM l left i = false) := by
      show _ = _
      rw [isAtM, hb]
      rfl
    rw [hb] at HH
    rw [HF.out]
    clear hb HF HLT
    go_enter Tryd.func13, Tryd.ntmps13
    go_wp2_with fail
    refine HH.out.mono ?_
    rintro e w2 ⟨rfl, rfl⟩
    go_wp2
    go_ret
    exact ⟨rfl, rfl⟩
  · obtain ⟨h0, hi⟩ := HLT.out hb
    obtain ⟨k, rfl⟩ : ∃ k : Nat, i = (k : Int) := ⟨i.toNat, by omega⟩
    rw [Int.toNat_natCast] at hi
    obtain ⟨g, off, rfl, hg, hr⟩ := HAT.out (by omega)
    have lk := load_kindK ((hr k hi) 0 _ rfl)
    rw [Nat.add_zero] at lk
    have hlt : (k : Int) < (l.length : Int) := by omega
    have HF : Hid (isAtM l left (k : Int) = decide ((atL l k).x.k = 1)) := by
      show _ = _
      rw [isAtM, hb, Int.toNat_natCast]
      rfl
    rw [hb] at HH
    rw [HF.out]
    clear hb HF HLT hr
    generalize (atL l k).x.k = kd at lk ⊢
    go_enter Tryd.func13, Tryd.ntmps13
    go_wp2_with fail
    refine HH.out.mono ?_
    rintro e w2 ⟨rfl, rfl⟩
    clear HH
    by_cases hk : kd = 1
    · subst hk
      go_wp2
      go_ret
      exact ⟨rfl, rfl⟩
    · have hd : (kd == 1) = false := by rw [beq_eq_false_iff_ne]; exact hk
      have HD : Hid (decide (kd = 1) = false) := decide_eq_false hk
      clear hk
      go_wp2
      go_ret
      rw [HD.out]
      exact ⟨rfl, rfl⟩
end Go.Proofs.YteabclfhmapabaaDoor
end
section
namespace Go.Proofs.YteabclfhmapabaaDoor
open Go.RowKit Go.Maps Go.ChangeMaps
set_option linter.unusedVariables false
set_option linter.unusedSimpArgs false
attribute [local go_sem ↓] Go.wp_at_zero Go.wp_at_succ
attribute [-go_sem] loadVar

theorem atS_ext {l l' : List ByteArray} (hl : l.length = l'.length) (h : ∀ i, i < l.length → atS l i = atS l' i) : l = l' := by
  apply List.ext_getElem hl
  intro i h1 h2
  have := h i h1
  unfold atS at this
  rw [List.getD, List.getD, List.getElem?_eq_getElem h1, List.getElem?_eq_getElem h2] at this
  exact this
theorem below_drewP {B : Nat} {w u : World} (h : Below B w u) (q : Nat) : Below B w (u.drewN q) := h.trans ⟨rfl, rfl, rfl, Nat.le_refl _, fun _ _ => rfl⟩
set_option maxHeartbeats 1600000 in
set_option maxRecDepth 100000 in
theorem equalS_any {w : World} {v v' : Value} {l l' : List ByteArray} (h : Ls w v l.length (l.flatMap strB)) (h' : Ls w v' l'.length (l'.flatMap strB)) :
    Calls Tryd.prog 38 #[v, v'] w fun e w' => e = .returned (.bool (decide (l = l'))) ∧ Below w.heap.size w w' := by
  obtain ⟨a, c, rfl, hc1, hc2, hat⟩ := ls_str h
  obtain ⟨a', c', rfl, hc1', hc2', hat'⟩ := ls_str h'
  have HA := Lib.hid hat
  have HA' := Lib.hid hat'
  unfold maxLen at hc2 hc2'
  clear h h' hat hat'
  by_cases he : l.length = l'.length
  · have HE := Lib.hid he
    rw [← he]
    clear he
    go_enter Tryd.func38, Tryd.ntmps38
    go_wp2
    go_loopw [13] (fun i wr => ∃ k : Nat, k ≤ l.length ∧ i = .int .i64 k ∧ Hid (∀ i, i < k → atS l i = atS l' i) ∧ Hid (Below w.heap.size w wr)) (fun i _ => l.length - (intOf i).toNat)
    case atStart => exact ⟨0, Nat.zero_le _, rfl, Lib.hid (fun i hi => by omega), Below.refl _ _⟩
    case round =>
      obtain ⟨k, hk, rfl, HS, HB⟩ := hrel
      obtain ⟨U, rfl⟩ : ∃ U, U = wr := ⟨_, rfl⟩
      by_cases hlt : k < l.length
      · have hlt' : (k : Int) < (l.length : Int) := by omega
        have hge : (0 : Int) ≤ (k : Int) := by omega
        obtain ⟨g, off, rfl, hg, hc⟩ := HA.out (by omega)
        obtain ⟨g', off', rfl, hg', hc'⟩ := HA'.out (by rw [← HE.out]; omega)
        have x0 : ∀ q, (loadVar 9 ⟨g, off + k, none⟩).run Tryd.prog (U.drewN q) = .ok (.string (atS l k)) (U.drewN q) := fun q => load_strP (((below_drewP HB.out q).cell (p := ⟨g, off + k, none⟩) hg).trans (hc k hlt))
        have y0 : ∀ q, (loadVar 9 ⟨g', off' + k, none⟩).run Tryd.prog (U.drewN q) = .ok (.string (atS l' k)) (U.drewN q) := fun q => load_strP (((below_drewP HB.out q).cell (p := ⟨g', off' + k, none⟩) hg').trans (hc' k (by rw [← HE.out]; exact hlt)))
        have HD : Hid (∀ q, Below w.heap.size w (U.drewN q)) := fun q => below_drewP HB.out q
        have HSX : Hid (atS l k = atS l' k → ∀ i, i < k + 1 → atS l i = atS l' i) := fun e i hi => by
          by_cases hik : i = k
          · rw [hik, e]
          · exact HS.out i (by omega)
        have HN : Hid (atS l k ≠ atS l' k → decide (l = l') = false) := fun h => decide_eq_false (fun e => h (by rw [e]))
        generalize atS l k = x at x0 HSX HN
        generalize atS l' k = y at y0 HSX HN
        clear hc hc' HB HS
        by_cases hz : x = y
        · have H2 := Lib.hid (HSX.out hz)
          subst hz
          clear HSX HN
          go_wp2_with fail
          go_quiet (fail)
          go_wp2
          go_roundw
          case rel => exact ⟨k + 1, by omega, by go_num, H2, HD.out _⟩
          case measure => simp [intOf]; omega
        · have HF := Lib.hid (HN.out hz)
          have hd : (x.toList == y.toList) = false := by
            rw [beq_eq_false_iff_ne]
            exact fun e => hz (toList_inj e)
          clear hz HSX HN
          go_wp2_with fail
          go_quiet (fail)
          go_wp2
          go_ret
          exact ⟨by rw [HF.out]; rfl, HD.out _⟩
      · obtain rfl : k = l.length := by omega
        have HF : Hid (decide (l = l') = true) := decide_eq_true (atS_ext HE.out HS.out)
        go_wp2
        go_ret
        exact ⟨by rw [HF.out]; rfl, HB.out⟩
  · have hne : ((l.length : Int) != (l'.length : Int)) = true := by rw [bne_iff_ne]; omega
    have HF : Hid (decide (l = l') = false) := decide_eq_false (fun e => he (by rw [e]))
    rw [HF.out]
    clear he
    go_enter Tryd.func38, Tryd.ntmps38
    go_wp2
    go_ret
    exact ⟨rfl, Below.refl _ _⟩
end Go.Proofs.YteabclfhmapabaaDoor
end
