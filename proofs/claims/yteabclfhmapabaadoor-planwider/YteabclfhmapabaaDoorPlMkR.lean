import Derived.Test.YteabclfhmapabaaDoorA29
import Derived.Test.YteabclfhmapabaaDoorPlStR
import Derived.Test.YteabclfhmapabaaDoorApRulF
namespace Go.Proofs.YteabclfhmapabaaDoor
open Go.RowKit Go.Maps Go.Shelf
set_option linter.unusedVariables false
set_option linter.unusedSimpArgs false
attribute [local go_sem ↓] Go.wp_at_zero Go.wp_at_succ
attribute [local go_sem] Oper.semAt_some
attribute [-go_sem] loadVar

def pl4 (w : World) (b : Nat) (pr : ByteArray) (ra : Option Addr) (rn rc : Nat) (ba : Option Addr) (bn bc : Nat) (aa : Option Addr) (nn cc : Nat) : World := (((w.setCell ⟨b, 0, none⟩ (.string pr)).setCell ⟨b, 1, none⟩ (.slice ra rn rc)).setCell ⟨b, 2, none⟩ (.slice ba bn bc)).setCell ⟨b, 3, none⟩ (.slice aa nn cc)
theorem pl4_block (w : World) (g : Nat) (pr : ByteArray) (ra : Option Addr) (rn rc : Nat) (ba : Option Addr) (bn bc : Nat) (aa : Option Addr) (nn cc : Nat) {b : Nat} (hne : b ≠ g) : (pl4 w g pr ra rn rc ba bn bc aa nn cc).heap[b]? = w.heap[b]? := by
  unfold pl4
  rw [Below.heap_setCell _ _ _ _ hne, Below.heap_setCell _ _ _ _ hne, Below.heap_setCell _ _ _ _ hne, Below.heap_setCell _ _ _ _ hne]
theorem pl4_rl {w : World} {g : Nat} {t : TypeId} {a b c d : Value} (h : RL w g t [a, b, c, d]) (pr : ByteArray) (ra : Option Addr) (rn rc : Nat) (ba : Option Addr) (bn bc : Nat) (aa : Option Addr) (nn cc : Nat) : RL (pl4 w g pr ra rn rc ba bn bc aa nn cc) g t [.string pr, .slice ra rn rc, .slice ba bn bc, .slice aa nn cc] := (((h.set 0 _).set 1 _).set 2 _).set 3 _
theorem pl4_below {B : Nat} {w0 w : World} (h : Below B w0 w) {g : Nat} (hg : B ≤ g) (pr : ByteArray) (ra : Option Addr) (rn rc : Nat) (ba : Option Addr) (bn bc : Nat) (aa : Option Addr) (nn cc : Nat) : Below B w0 (pl4 w g pr ra rn rc ba bn bc aa nn cc) :=
  (((h.setCell (p := ⟨g, 0, none⟩) hg _).setCell (p := ⟨g, 1, none⟩) hg _).setCell (p := ⟨g, 2, none⟩) hg _).setCell (p := ⟨g, 3, none⟩) hg _
theorem run_buildPl (ev : Operand → Value) (o : Oper) {x y : Operand} (hop : o.op = .build 30 #[(0, x), (1, y)]) (w : World) {pr : ByteArray} {ra ba : Option Addr} {rn rc bn bc : Nat} {aa : Option Addr} {nn cc : Nat} (hx : ev x = .agg #[.string pr, .slice ra rn rc, .slice ba bn bc]) (hy : ev y = .slice aa nn cc) : (execOp ev o).run Tryd.prog w = .ok (.value (.agg #[.string pr, .slice ra rn rc, .slice ba bn bc, .slice aa nn cc])) w := by
  simp only [execOp, hop]
  simp only [List.map_toArray, List.map_cons, List.map_nil, Array.map, hx, hy]
  go_simp
theorem run_storePl (ev : Operand → Value) (o : Oper) {x y : Operand} (hop : o.op = .store 30 x y) (w : World) {b : Nat} {pr : ByteArray} {ra ba : Option Addr} {rn rc bn bc : Nat} {aa : Option Addr} {nn cc : Nat} {t0 t1 t2 t3 : Value} (hx : ev x = .pointer (some ⟨b, 0, none⟩)) (hy : ev y = .agg #[.string pr, .slice ra rn rc, .slice ba bn bc, .slice aa nn cc]) (hr : RL w b 30 [t0, t1, t2, t3]) :
    (execOp ev o).run Tryd.prog w = .ok .skip (pl4 w b pr ra rn rc ba bn bc aa nn cc) := by
  have c0 := hr.at (j := 0) rfl
  have c1 := hr.at (j := 1) rfl
  have c2 := hr.at (j := 2) rfl
  have c3 := hr.at (j := 3) rfl
  have f0 := World.rowIs.frozen hr 0
  have f1 := World.rowIs.frozen hr 1
  have f2 := World.rowIs.frozen hr 2
  have f3 := World.rowIs.frozen hr 3
  unfold pl4
  simp only [execOp, hop, hx, hy]
  go_simp
def pmk7_takes : List (List Nat × Nat) := [([], 0), ([0], 1), ([0, 1], 2), ([0, 1, 2, 3], 4), ([0, 1, 2, 3, 4, 5], 6)]
set_option maxHeartbeats 3200000 in
theorem pmk7 {ops : Array Oper} {Q : Exit → Act → World → Prop} {S : World → Prop} {a0 : Act} {w5 : World} {tb b6 b10 : Nat} {first : Int} {pr : ByteArray} {ra ba : Option Addr} {rn rc bn bc : Nat} {ty1 : Array TypeId} {Pf : Option Addr → Nat → Nat → World → Prop}
    (q0 : isOpG ops 0 none (.load 25 (.tmp 10)) (some 36))
    (q1 : isOpG ops 1 none (.move (.tmp 8)) (some 37))
    (q2 : isOpG ops 2 none (.move (.tmp 2)) (some 38))
    (q3 : isOpG ops 3 none (.call { callee := .value (.func 15), args := #[.tmp 37, .tmp 38], argTypes := ty1 }) (some 39))
    (q4 : isOpG ops 4 none (.build 30 #[(0, .tmp 36), (1, .tmp 39)]) (some 40))
    (q5 : isOpG ops 5 none (.store 30 (.tmp 6) (.tmp 40)) none)
    (q6 : isOpG ops 6 none (.assign (.const (.int .i64 0))) (some 7))
    (hs : Region.noSelect ops = true) (hq : (pmk7_takes.all fun p => Region.free .any ops (LR 7 p.1) p.2 && (Region.ready .any ops (LR 7 p.1)).contains p.2) = true)
    (r3 : Region.ready .any ops (LR 7 [0, 1, 2]) = [3])
    (r5 : Region.ready .any ops (LR 7 [0, 1, 2, 3, 4]) = [5])
    (rend : Region.ready .any ops (LR 7 [0, 1, 2, 3, 4, 5, 6]) = [])
    (hQ : ∀ (d : Option Tmp) (v : Value) c a w, Q (.panic c) (a.put d v) w → Q (.panic c) a w)
    (hsz : 40 < a0.tmps.size) (e2 : a0.eval (.tmp 2) = .int .i64 first) (e6 : a0.eval (.tmp 6) = .pointer (some ⟨b6, 0, none⟩)) (e8 : a0.eval (.tmp 8) = .pointer (some ⟨tb, 0, none⟩)) (e10 : a0.eval (.tmp 10) = .pointer (some ⟨b10, 0, none⟩))
    (hS0 : S w5.drew)
    (keep : ∀ u u', S u → S u' → S u') (LR0 : ∀ u, S u → (loadVar 25 ⟨b10, 0, none⟩).run Tryd.prog u = .ok (.agg #[.string pr, .slice ra rn rc, .slice ba bn bc]) u)
    (C1 : Calls Tryd.prog 15 #[.pointer (some ⟨tb, 0, none⟩), .int .i64 first] w5.drew fun e u1 => ∃ aa nn cc, e = .returned (.slice aa nn cc) ∧ S u1 ∧ (∃ t0 t1 t2 t3, RL u1 b6 30 [t0, t1, t2, t3]) ∧ S (pl4 u1 b6 pr ra rn rc ba bn bc aa nn cc) ∧ Pf aa nn cc (pl4 u1 b6 pr ra rn rc ba bn bc aa nn cc))
    (F : ∀ (wc : World) (aa : Option Addr) (nn cc : Nat), Pf aa nn cc wc → Q .normal ((((((a0.put (some 36) (.agg #[.string pr, .slice ra rn rc, .slice ba bn bc])).put (some 37) (.pointer (some ⟨tb, 0, none⟩))).put (some 38) (.int .i64 first)).put (some 39) (.slice aa nn cc)).put (some 40) (.agg #[.string pr, .slice ra rn rc, .slice ba bn bc, .slice aa nn cc])).put (some 7) (.int .i64 0)) wc) :
    wpAnyH Tryd.prog .any ops Q S 7 (LR 7 []) a0 w5.drew := by
  have hall : ∀ p ∈ pmk7_takes, Region.free .any ops (LR 7 p.1) p.2 = true ∧ (Region.ready .any ops (LR 7 p.1)).contains p.2 = true := by
    intro p hp
    have := List.all_eq_true.1 hq p hp
    simpa using this
  unfold pmk7_takes at hall
  obtain ⟨o0, ho, hg, hop, hd⟩ := isOpG_out q0
  have hfr := hall ([], 0) (by simp)
  refine wpAnyH_take (listed := LR 7 []) (v := .agg #[.string pr, .slice ra rn rc, .slice ba bn bc]) ho hs hfr.1 hfr.2 (hQ _ _) (Or.inl ⟨(wantedN hg), fun w' hS => run_loadG _ _ hop w' (by (repeat rw [eval_far _ _ (by decide)]); exact e10) (LR0 _ hS)⟩) hS0 ?_
  rw [hd, ← LR_snoc]
  clear ho hg hop hd hfr
  obtain ⟨o1, ho, hg, hop, hd⟩ := isOpG_out q1
  have hfr := hall ([0], 1) (by simp)
  refine wpAnyH_take (listed := LR 7 [0]) (v := .pointer (some ⟨tb, 0, none⟩)) ho hs hfr.1 hfr.2 (hQ _ _) (Or.inl ⟨(wantedN hg), fun w' hS => run_move _ _ hop w' (by (repeat rw [eval_far _ _ (by decide)]); exact e8)⟩) hS0 ?_
  rw [hd, ← LR_snoc]
  clear ho hg hop hd hfr
  obtain ⟨o2, ho, hg, hop, hd⟩ := isOpG_out q2
  have hfr := hall ([0, 1], 2) (by simp)
  refine wpAnyH_take (listed := LR 7 [0, 1]) (v := .int .i64 first) ho hs hfr.1 hfr.2 (hQ _ _) (Or.inl ⟨(wantedN hg), fun w' hS => run_move _ _ hop w' (by (repeat rw [eval_far _ _ (by decide)]); exact e2)⟩) hS0 ?_
  rw [hd, ← LR_snoc]
  clear ho hg hop hd hfr
  refine wpAnyH_all r3 (by simp) ?_
  intro i hi
  obtain rfl := List.mem_singleton.1 hi
  obtain ⟨o3, ho, hg, hop, hd⟩ := isOpG_out q3
  have x3_0 : ((((a0.put (some 36) (.agg #[.string pr, .slice ra rn rc, .slice ba bn bc])).put (some 37) (.pointer (some ⟨tb, 0, none⟩))).put (some 38) (.int .i64 first))).eval (.tmp 37) = .pointer (some ⟨tb, 0, none⟩) := (by (repeat (first | rw [eval_same _ _ (by (try simp only [put_size]); omega)] | rw [eval_far _ _ (by decide)])))
  have x3_1 : ((((a0.put (some 36) (.agg #[.string pr, .slice ra rn rc, .slice ba bn bc])).put (some 37) (.pointer (some ⟨tb, 0, none⟩))).put (some 38) (.int .i64 first))).eval (.tmp 38) = .int .i64 first := (by (repeat (first | rw [eval_same _ _ (by (try simp only [put_size]); omega)] | rw [eval_far _ _ (by decide)])))
  refine wpOp_callG ho (wantedN hg) (run_callV 15 Tryd.func15 (by kernel_rfl) (by kernel_rfl) #[.tmp 37, .tmp 38] _ hop #[.pointer (some ⟨tb, 0, none⟩), .int .i64 first] (by simp only [List.map_toArray, List.map_cons, List.map_nil, x3_0, x3_1])) ?_
  refine (C1).mono ?_
  rintro e u1 ⟨aa, nn, cc, rfl, hS1, ⟨t0, t1, t2, t3, hRB⟩, hSF, hP⟩
  have hS3 := keep _ _ hS0 hS1
  refine ⟨_, rfl, hS3, ?_⟩
  rw [hd]
  clear ho hg hop hd
  rw [← LR_snoc]
  obtain ⟨o4, ho, hg, hop, hd⟩ := isOpG_out q4
  have hfr := hall ([0, 1, 2, 3], 4) (by simp)
  refine wpAnyH_take (listed := LR 7 [0, 1, 2, 3]) (v := .agg #[.string pr, .slice ra rn rc, .slice ba bn bc, .slice aa nn cc]) ho hs hfr.1 hfr.2 (hQ _ _) (Or.inl ⟨(wantedN hg), fun w' hS => run_buildPl _ _ hop w' (by (repeat (first | rw [eval_same _ _ (by (try simp only [put_size]); omega)] | rw [eval_far _ _ (by decide)]))) (by (repeat (first | rw [eval_same _ _ (by (try simp only [put_size]); omega)] | rw [eval_far _ _ (by decide)])))⟩) hS3 ?_
  rw [hd, ← LR_snoc]
  clear ho hg hop hd hfr
  refine wpAnyH_all r5 (by simp) ?_
  intro i hi
  obtain rfl := List.mem_singleton.1 hi
  obtain ⟨o5, ho, hg, hop, hd⟩ := isOpG_out q5
  refine wpOp_skipG ho (wantedN hg) (run_storePl _ _ hop _ (by (repeat rw [eval_far _ _ (by decide)]); exact e6) (by (repeat (first | rw [eval_same _ _ (by (try simp only [put_size]); omega)] | rw [eval_far _ _ (by decide)]))) hRB) ?_
  have hS5 := hSF
  refine ⟨hS5, ?_⟩
  rw [hd, put_none]
  clear ho hg hop hd
  rw [← LR_snoc]
  obtain ⟨o6, ho, hg, hop, hd⟩ := isOpG_out q6
  have hfr := hall ([0, 1, 2, 3, 4, 5], 6) (by simp)
  refine wpAnyH_take (listed := LR 7 [0, 1, 2, 3, 4, 5]) (v := .int .i64 0) ho hs hfr.1 hfr.2 (hQ _ _) (Or.inl ⟨(wantedN hg), fun w' hS => run_assignV _ _ hop w' rfl⟩) hS5 ?_
  rw [hd, ← LR_snoc]
  clear ho hg hop hd hfr
  exact wpAnyH_done rend (F _ aa nn cc hP) _
end Go.Proofs.YteabclfhmapabaaDoor
