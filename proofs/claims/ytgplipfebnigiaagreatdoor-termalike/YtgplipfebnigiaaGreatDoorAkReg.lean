import Derived.Test.YtgplipfebnigiaaGreatDoorG29
import Derived.Test.YtgplipfebnigiaaGreatDoorRgGen
namespace Go.Proofs.YtgplipfebnigiaaGreatDoor
open Go.RowKit Go.Maps
set_option linter.unusedVariables false
set_option linter.unusedSimpArgs false

theorem foldl_sets (b : Array Value) (i : Nat) : ∀ (js : List Nat) (t : Array Value), t.size = b.size → (js.foldl (fun t j => t.setIfInBounds j (b.getD j undef)) t)[i]? = if i ∈ js then b[i]? else t[i]?
  | [], t, _ => by simp
  | j :: js, t, h => by
    rw [List.foldl_cons, foldl_sets b i js _ (by simpa using h)]
    by_cases h1 : i ∈ js
    · simp [h1]
    · rw [if_neg h1]
      by_cases h2 : i = j
      · subst h2
        rw [if_pos List.mem_cons_self]
        by_cases h3 : i < t.size
        · rw [Array.getElem?_setIfInBounds_self_of_lt h3, Array.getD_eq_getD_getElem?, Array.getElem?_eq_getElem (by omega)]
          rfl
        · rw [Array.getElem?_eq_none (by simp; omega), Array.getElem?_eq_none (by omega)]
      · rw [if_neg (by simp [h1, h2]), Array.getElem?_setIfInBounds_ne (Ne.symm h2)]
/-- an act that holds what another holds, but for some slots -/
def Ag (js : List Nat) (a0 a : Act) : Prop := a.tmps.size = a0.tmps.size ∧ a.defers = a0.defers ∧ ∀ i, i ∉ js → a.tmps[i]? = a0.tmps[i]?
theorem Ag.refl (js : List Nat) (a : Act) : Ag js a a := ⟨rfl, rfl, fun _ _ => rfl⟩
theorem Ag.put {js : List Nat} {a0 a : Act} (h : Ag js a0 a) {i : Nat} (hi : i ∈ js) (v : Value) : Ag js a0 (a.put (some i) v) :=
  ⟨by simpa [Act.put] using h.1, h.2.1, fun k hk => by
    rw [show (a.put (some i) v).tmps = a.tmps.setIfInBounds i v from rfl, Array.getElem?_setIfInBounds_ne (by rintro rfl; exact hk hi)]
    exact h.2.2 k hk⟩
theorem Ag.put0 {js : List Nat} {a0 a : Act} (h : Ag js a0 a) (v : Value) : Ag js a0 (a.put none v) := h
theorem Ag.eval {js : List Nat} {a0 a : Act} (h : Ag js a0 a) {i : Nat} (hi : i ∉ js) : a.eval (.tmp i) = a0.eval (.tmp i) := by
  have := h.2.2 i hi
  simp only [Act.eval]
  simp [this]
theorem Ag.form {js : List Nat} {a0 a : Act} (h : Ag js a0 a) : a = { a0 with tmps := js.foldl (fun t j => t.setIfInBounds j (a.tmps.getD j undef)) a0.tmps } := by
  obtain ⟨h1, h2, h3⟩ := h
  cases a with
  | mk t ds =>
    simp only at h1 h2 h3 ⊢
    subst h2
    congr 1
    apply Array.ext_getElem?
    intro i
    rw [foldl_sets t i js _ h1.symm]
    by_cases hi : i ∈ js
    · rw [if_pos hi]
    · rw [if_neg hi, h3 i hi]
theorem wpOp_valG {P : Program} {ops : Array Oper} {Q : Exit → Act → World → Prop} {K : Act → World → Prop} {i : Nat} {a : Act} {w w' : World} {o : Oper} {v : Value} (hi : ops[i]? = some o) (hw : Region.wanted o (yielded ops a.tmps) = true) (hrun : (execOp a.eval o).run P w = .ok (.value v) w') (hK : K (a.put o.dst v) w') : wpOp P ops Q i K a w := by
  unfold wpOp
  rw [hi]
  simp only [hw, if_true]
  refine Or.inl ?_
  unfold Oper.wp
  rw [hrun]
  exact hK
theorem wpOp_skipG {P : Program} {ops : Array Oper} {Q : Exit → Act → World → Prop} {K : Act → World → Prop} {i : Nat} {a : Act} {w w' : World} {o : Oper} (hi : ops[i]? = some o) (hw : Region.wanted o (yielded ops a.tmps) = true) (hrun : (execOp a.eval o).run P w = .ok .skip w') (hK : K (a.put o.dst undef) w') : wpOp P ops Q i K a w := by
  unfold wpOp
  rw [hi]
  simp only [hw, if_true]
  refine Or.inl ?_
  unfold Oper.wp
  rw [hrun]
  exact hK
theorem run_extrV (ev : Operand → Value) (o : Oper) {x : Operand} (hop : o.op = .extract x 0) (w : World) {u v : Value} (hx : ev x = .tuple #[u, v]) : (execOp ev o).run Tryz.prog w = .ok (.value u) w := by
  simp only [execOp, hop, hx]
  go_simp
theorem run_extrW (ev : Operand → Value) (o : Oper) {x : Operand} (hop : o.op = .extract x 1) (w : World) {u v : Value} (hx : ev x = .tuple #[u, v]) : (execOp ev o).run Tryz.prog w = .ok (.value v) w := by
  simp only [execOp, hop, hx]
  go_simp
theorem run_loadG (ev : Operand → Value) (o : Oper) {ty : TypeId} {x : Operand} (hop : o.op = .load ty x) (w : World) {a : Addr} {v : Value} (hx : ev x = .pointer (some a)) (hl : (loadVar ty a).run Tryz.prog w = .ok v w) : (execOp ev o).run Tryz.prog w = .ok (.value v) w := by
  simp only [execOp, hop, hx]
  simp [Instr.loadAt, Instr.sureAddr, hl, Result.andThen]
theorem eval_sameA {js : List Nat} {a0 a : Act} (h : Ag js a0 a) {i : Nat} (v : Value) (hi : i < a0.tmps.size) : (a.put (some i) v).eval (.tmp i) = v := eval_same a v (by rw [h.1]; exact hi)
theorem run_allocR (ev : Operand → Value) (o : Oper) (hop : o.op = .alloc 25) (w : World) : (execOp ev o).run Tryz.prog w = .ok (.value (.pointer (some ⟨w.heap.size, 0, none⟩))) (w.alloc (.cells #[.string ⟨#[]⟩, .slice none 0 0, .slice none 0 0] 25)) := by
  simp only [execOp, hop]
  go_simp
theorem run_storeR (ev : Operand → Value) (o : Oper) {x y : Operand} (hop : o.op = .store 25 x y) (w : World) {b : Nat} {pr : ByteArray} {a1 a2 : Option Addr} {n1 n2 c1 c2 : Nat} (hx : ev x = .pointer (some ⟨b, 0, none⟩)) (hy : ev y = .agg #[.string pr, .slice a1 n1 c1, .slice a2 n2 c2]) (hr : RL w b 25 [.string ⟨#[]⟩, .slice none 0 0, .slice none 0 0]) :
    (execOp ev o).run Tryz.prog w = .ok .skip (res3 w b pr (.slice a1 n1 c1) (.slice a2 n2 c2)) := by
  have c0 := hr.at (j := 0) rfl
  have c1 := hr.at (j := 1) rfl
  have c2 := hr.at (j := 2) rfl
  have f0 := World.rowIs.frozen hr 0
  have f1 := World.rowIs.frozen hr 1
  have f2 := World.rowIs.frozen hr 2
  unfold res3
  simp only [execOp, hop, hx, hy]
  go_simp
theorem run_lenS (ev : Operand → Value) (o : Oper) {x : Operand} (hop : o.op = .call { callee := .builtin .len, args := #[x], argTypes := #[39] }) (w : World) {vv : Value} {a : Option Addr} {n c : Nat} (hx : ev x = vv) (hv : vv = .slice a n c) : (execOp ev o).run Tryz.prog w = .ok (.value (.int .i64 (n : Int))) w := by
  subst hv
  simp only [execOp, hop]
  simp [resolve, invoke, builtin, hx, Builtin.lenOf, Result.andThen, go_sem]
theorem run_idxS (ev : Operand → Value) (o : Oper) {x y : Operand} (hop : o.op = .indexAddr 39 x y) (w : World) {g off n c k : Nat} (hx : ev x = .slice (some ⟨g, off, none⟩) n c) (hy : ev y = .int .i64 (k : Int)) (hk : k < n) : (execOp ev o).run Tryz.prog w = .ok (.value (.pointer (some ⟨g, off + k, none⟩))) w := by
  have hk' : (k : Int) < (n : Int) := by omega
  have hk0 : (0 : Int) ≤ (k : Int) := by omega
  simp only [execOp, hop, hx, hy]
  go_simp
theorem run_buildP (ev : Operand → Value) (o : Oper) {x y : Operand} (hop : o.op = .build 49 #[(0, x), (1, y)]) (w : World) {nl n0 : ByteArray} (hx : ev x = .string nl) (hy : ev y = .agg #[.string n0, .int .i8 0, .int .i64 0, .string ⟨#[]⟩]) : (execOp ev o).run Tryz.prog w = .ok (.value (.agg #[.string nl, .string n0, .int .i8 0, .int .i64 0, .string ⟨#[]⟩])) w := by
  simp only [execOp, hop]
  simp only [List.map_toArray, List.map_cons, List.map_nil, Array.map, hx, hy]
  go_simp
theorem run_buildSP (ev : Operand → Value) (o : Oper) {x : Operand} (hop : o.op = .buildSlice 37 1 #[(0, x)]) (w : World) {nl n0 : ByteArray} (hx : ev x = .agg #[.string nl, .string n0, .int .i8 0, .int .i64 0, .string ⟨#[]⟩]) : (execOp ev o).run Tryz.prog w = .ok (.value (.slice (some ⟨w.heap.size, 0, none⟩) 1 1)) (w.alloc (.cells #[.string nl, .string n0, .int .i8 0, .int .i64 0, .string ⟨#[]⟩] 49)) := by
  simp only [execOp, hop, hx]
  go_simp
def js_reg11 : List Nat := [68, 69, 70, 71, 72, 67, 73, 74, 9, 6]
def takes_reg11 : List (List Nat × Nat) := [([], 0), ([0], 1), ([0, 1], 3), ([0, 1, 3, 2, 4], 5), ([0, 1, 3, 2, 4, 5], 6), ([0, 1, 3, 2, 4, 5, 6], 7), ([0, 1, 3, 2, 8, 4], 5), ([0, 1, 3, 2, 8, 4, 5], 6), ([0, 1, 3, 2, 8, 4, 5, 6], 7), ([0, 1, 3, 2, 4, 5, 6, 7, 8, 9], 10)]
set_option maxHeartbeats 3200000 in
theorem reg11 {ops : Array Oper} {Q : Exit → Act → World → Prop} {a0 : Act} {w5 : World} {b3 d : Nat} {rv bv : Value} {G : R3} {t1 t2 : Array TypeId}
    (q0 : isOpG ops 0 none (.load 25 (.tmp 2)) (some 68))
    (q1 : isOpG ops 1 none (.move (.tmp 1)) (some 69))
    (q2 : isOpG ops 2 none (.call { callee := .value (.func 17), args := #[.tmp 68, .tmp 69], argTypes := t1 }) (some 70))
    (q3 : isOpG ops 3 none (.load 25 (.tmp 2)) (some 71))
    (q4 : isOpG ops 4 none (.call { callee := .value (.func 16), args := #[.tmp 70, .tmp 71], argTypes := t2 }) (some 72))
    (q5 : isOpG ops 5 none (.move (.tmp 72)) (some 67))
    (q6 : isOpG ops 6 none (.extract (.tmp 67) 0) (some 73))
    (q7 : isOpG ops 7 none (.extract (.tmp 67) 1) (some 74))
    (q8 : isOpG ops 8 none (.alloc 25) (some 9))
    (q9 : isOpG ops 9 none (.store 25 (.tmp 9) (.tmp 73)) none)
    (q10 : isOpG ops 10 none (.assign (.tmp 74)) (some 6))
    (hs : Region.noSelect ops = true) (hq : (takes_reg11.all fun p => Region.free .any ops (LR 11 p.1) p.2 && (Region.ready .any ops (LR 11 p.1)).contains p.2) = true)
    (r0F : Region.ready .any ops (LR 11 [0, 1, 3]) = [2, 8]) (r0T : Region.ready .any ops (LR 11 [0, 1, 3, 8]) = [2])
    (r1F : Region.ready .any ops (LR 11 [0, 1, 3, 2]) = [4, 8]) (r1T : Region.ready .any ops (LR 11 [0, 1, 3, 2, 8]) = [4])
    (r2F : Region.ready .any ops (LR 11 [0, 1, 3, 2, 4, 5, 6, 7]) = [8]) (r2T : Region.ready .any ops (LR 11 [0, 1, 3, 2, 4, 5, 6, 7, 8]) = [9])
    (rend : Region.ready .any ops (LR 11 [0, 1, 3, 2, 4, 5, 6, 7, 8, 9, 10]) = [])
    (hQ : ∀ (d : Option Tmp) (v : Value) c a w, Q (.panic c) (a.put d v) w → Q (.panic c) a w)
    (hsz : 74 < a0.tmps.size) (e2 : a0.eval (.tmp 2) = .pointer (some ⟨b3, 0, none⟩)) (e1 : a0.eval (.tmp 1) = bv)
    (LE : ∀ u, Below w5.heap.size w5 u → (loadVar 25 ⟨b3, 0, none⟩).run Tryz.prog u = .ok rv u)
    (C1 : ∀ u, Below w5.heap.size w5 u → Calls Tryz.prog 17 #[rv, bv] u fun e w' => ∃ sp, e = .returned sp ∧ Below u.heap.size u w' ∧ ∀ u2, Below w'.heap.size w' u2 → Calls Tryz.prog 16 #[sp, rv] u2 fun e w' => ∃ X xp, e = .returned (.tuple #[.agg #[.string X.pr, .slice xp.a X.hd.length xp.c, .slice xp.ba X.bd.length xp.bc], .int .i64 0]) ∧ Below u2.heap.size u2 w' ∧ Frr u2.heap.size w' d X xp ∧ LikeR G X)
    (F : ∀ (a : Act) (wc : World) (b20 : Nat) (X : R3) (xp : RP), Ag js_reg11 a0 a → a.eval (.tmp 9) = .pointer (some ⟨b20, 0, none⟩) → a.eval (.tmp 6) = .int .i64 0 → RL wc b20 25 [.string X.pr, .slice xp.a X.hd.length xp.c, .slice xp.ba X.bd.length xp.bc] → Below w5.heap.size w5 wc → RIs wc d X xp → LikeR G X → Q .normal a wc) :
    wpAnyH Tryz.prog .any ops Q (fun u => Below w5.heap.size w5 u) 11 (LR 11 []) a0 w5.drew := by
  have hall : ∀ p ∈ takes_reg11, Region.free .any ops (LR 11 p.1) p.2 = true ∧ (Region.ready .any ops (LR 11 p.1)).contains p.2 = true := by
    intro p hp
    have := List.all_eq_true.1 hq p hp
    simpa using this
  unfold takes_reg11 at hall
  have kS : ∀ {u u' : World}, Below w5.heap.size w5 u → Below u.heap.size u u' → Below w5.heap.size w5 u' := fun h b => h.trans (b.mono h.size)
  have kA : ∀ {u : World} (o : Obj), Below u.heap.size u (u.alloc o) := fun o => (Below.refl _ _).alloc (Nat.le_refl _) _
  have P2T : ∀ (a : Act) (u : World) (b20 : Nat) (X : R3) (xp : RP), Ag js_reg11 a0 a → a.eval (.tmp 73) = .agg #[.string X.pr, .slice xp.a X.hd.length xp.c, .slice xp.ba X.bd.length xp.bc] → a.eval (.tmp 74) = .int .i64 0 → a.eval (.tmp 9) = .pointer (some ⟨b20, 0, none⟩) → RL u b20 25 [.string ⟨#[]⟩, .slice none 0 0, .slice none 0 0] → w5.heap.size ≤ b20 → b20 < u.heap.size → Below w5.heap.size w5 u → (∀ w'' : World, u.heap.size ≤ w''.heap.size → (∀ k, w5.heap.size ≤ k → k < u.heap.size → k ≠ b20 → w''.heap[k]? = u.heap[k]?) → RIs w'' d X xp) → LikeR G X →
      wpAnyH Tryz.prog .any ops Q (fun u => Below w5.heap.size w5 u) 2 (LR 11 [0, 1, 3, 2, 4, 5, 6, 7, 8]) a u := by
    intro a u b20 X xp hA h0 h1 h20 hR hb hbl hS hFr hLk
    refine wpAnyH_all r2T (by simp) ?_
    intro i hi
    obtain rfl := List.mem_singleton.1 hi
    obtain ⟨o9, ho, hg, hop, hd⟩ := isOpG_out q9
    refine wpOp_skipG ho (wantedN hg) (run_storeR _ _ hop u h20 h0 hR) ?_
    have hS' : Below w5.heap.size w5 (res3 u b20 X.pr (.slice xp.a X.hd.length xp.c) (.slice xp.ba X.bd.length xp.bc)) := res3_below hS hb _ _ _
    refine ⟨hS', ?_⟩
    rw [hd]
    have hR' := res3_rl hR X.pr (.slice xp.a X.hd.length xp.c) (.slice xp.ba X.bd.length xp.bc)
    have hI : RIs (res3 u b20 X.pr (.slice xp.a X.hd.length xp.c) (.slice xp.ba X.bd.length xp.bc)) d X xp := hFr _ (by rw [res3_size]; exact Nat.le_refl _) (fun k _ _ hne => res3_other _ _ _ _ _ hne)
    show wpAnyH _ _ _ _ _ 1 (LR 11 [0, 1, 3, 2, 4, 5, 6, 7, 8, 9]) a _
    obtain ⟨o10, ho, hg, hop, hd⟩ := isOpG_out q10
    have hfr := hall ([0, 1, 3, 2, 4, 5, 6, 7, 8, 9], 10) (by simp)
    refine wpAnyH_take (listed := LR 11 [0, 1, 3, 2, 4, 5, 6, 7, 8, 9]) (v := .int .i64 0) ho hs hfr.1 hfr.2 (hQ _ _) (Or.inl ⟨wantedN hg, fun w' _ => run_assignV _ _ hop w' h1⟩) hS' ?_
    rw [hd]
    exact wpAnyH_done rend (F _ _ b20 X xp (hA.put (by decide) _) (by rw [eval_far _ _ (by decide)]; exact h20) (eval_sameA hA _ (by omega)) hR' hS' hI hLk) _
  have P2F : ∀ (a : Act) (u : World) (lo : Nat) (X : R3) (xp : RP), Ag js_reg11 a0 a → a.eval (.tmp 73) = .agg #[.string X.pr, .slice xp.a X.hd.length xp.c, .slice xp.ba X.bd.length xp.bc] → a.eval (.tmp 74) = .int .i64 0 → Below w5.heap.size w5 u → w5.heap.size ≤ lo → Frr lo u d X xp → LikeR G X →
      wpAnyH Tryz.prog .any ops Q (fun u => Below w5.heap.size w5 u) 3 (LR 11 [0, 1, 3, 2, 4, 5, 6, 7]) a u := by
    intro a u lo X xp hA h0 h1 hS hlo hFr hLk
    refine wpAnyH_all r2F (by simp) ?_
    intro i hi
    obtain rfl := List.mem_singleton.1 hi
    obtain ⟨o8, ho, hg, hop, hd⟩ := isOpG_out q8
    refine wpOp_valG ho (wantedN hg) (run_allocR _ _ hop u) ⟨kS hS (kA _), ?_⟩
    rw [hd]
    refine P2T _ _ u.heap.size X xp (hA.put (by decide) _) (by rw [eval_far _ _ (by decide)]; exact h0) (by rw [eval_far _ _ (by decide)]; exact h1) (eval_sameA hA _ (by omega)) (rl_new u _ _) hS.size (by simp) (kS hS (kA _)) (fun w'' s1 s2 => ?_) hLk
    simp only [World.size_alloc] at s1 s2
    refine hFr w'' (by omega) (fun k k1 k2 => ?_)
    rw [s2 k (by omega) (by omega) (by omega), (kA _).block k k2]
  have P1T : ∀ (a : Act) (u : World) (b20 : Nat) (sp : Value), Ag js_reg11 a0 a → a.eval (.tmp 70) = sp → a.eval (.tmp 71) = rv → a.eval (.tmp 9) = .pointer (some ⟨b20, 0, none⟩) → RL u b20 25 [.string ⟨#[]⟩, .slice none 0 0, .slice none 0 0] → w5.heap.size ≤ b20 → b20 < u.heap.size → Below w5.heap.size w5 u → (∀ u2, Below u.heap.size u u2 → Calls Tryz.prog 16 #[sp, rv] u2 fun e w' => ∃ X xp, e = .returned (.tuple #[.agg #[.string X.pr, .slice xp.a X.hd.length xp.c, .slice xp.ba X.bd.length xp.bc], .int .i64 0]) ∧ Below u2.heap.size u2 w' ∧ Frr u2.heap.size w' d X xp ∧ LikeR G X) → wpAnyH Tryz.prog .any ops Q (fun u => Below w5.heap.size w5 u) 6 (LR 11 [0, 1, 3, 2, 8]) a u := by
    intro a u b20 sp hA f70 f71 h20 hR hb hbl hS C
    refine wpAnyH_all r1T (by simp) ?_
    intro i hi
    obtain rfl := List.mem_singleton.1 hi
    obtain ⟨o4, ho, hg, hop, hd⟩ := isOpG_out q4
    refine wpOp_callG ho (wantedN hg) (run_callV 16 Tryz.func16 (by kernel_rfl) (by kernel_rfl) #[.tmp 70, .tmp 71] _ hop #[sp, rv] (by simp only [List.map_toArray, List.map_cons, List.map_nil, f70, f71])) ?_
    refine (C u (Below.refl _ _)).mono ?_
    rintro e u1 ⟨X, xp, rfl, b1, hfr0, hlk⟩
    refine ⟨_, rfl, kS hS b1, ?_⟩
    rw [hd, ← LR_snoc]
    have A1 := hA.put (i := 72) (by decide) (.tuple #[.agg #[.string X.pr, .slice xp.a X.hd.length xp.c, .slice xp.ba X.bd.length xp.bc], .int .i64 0])
    have g72 := eval_sameA hA (.tuple #[.agg #[.string X.pr, .slice xp.a X.hd.length xp.c, .slice xp.ba X.bd.length xp.bc], .int .i64 0]) (i := 72) (by omega)
    have f70 := (eval_far a (i := 72) (j := 70) (.tuple #[.agg #[.string X.pr, .slice xp.a X.hd.length xp.c, .slice xp.ba X.bd.length xp.bc], .int .i64 0]) (by decide)).trans f70
    have f71 := (eval_far a (i := 72) (j := 71) (.tuple #[.agg #[.string X.pr, .slice xp.a X.hd.length xp.c, .slice xp.ba X.bd.length xp.bc], .int .i64 0]) (by decide)).trans f71
    have h20 := (eval_far a (i := 72) (j := 9) (.tuple #[.agg #[.string X.pr, .slice xp.a X.hd.length xp.c, .slice xp.ba X.bd.length xp.bc], .int .i64 0]) (by decide)).trans h20
    generalize a.put (some 72) (.tuple #[.agg #[.string X.pr, .slice xp.a X.hd.length xp.c, .slice xp.ba X.bd.length xp.bc], .int .i64 0]) = a1 at *
    clear ho hg hop hd
    obtain ⟨o5, ho, hg, hop, hd⟩ := isOpG_out q5
    have hfr := hall ([0, 1, 3, 2, 8, 4], 5) (by simp)
    refine wpAnyH_take (listed := LR 11 [0, 1, 3, 2, 8, 4]) (v := .tuple #[.agg #[.string X.pr, .slice xp.a X.hd.length xp.c, .slice xp.ba X.bd.length xp.bc], .int .i64 0]) ho hs hfr.1 hfr.2 (hQ _ _) (Or.inl ⟨wantedN hg, fun w' _ => run_move _ _ hop w' g72⟩) (kS hS b1) ?_
    rw [hd, ← LR_snoc]
    have A2 := A1.put (i := 67) (by decide) (.tuple #[.agg #[.string X.pr, .slice xp.a X.hd.length xp.c, .slice xp.ba X.bd.length xp.bc], .int .i64 0])
    have g67 := eval_sameA A1 (.tuple #[.agg #[.string X.pr, .slice xp.a X.hd.length xp.c, .slice xp.ba X.bd.length xp.bc], .int .i64 0]) (i := 67) (by omega)
    have g72 := (eval_far a1 (i := 67) (j := 72) (.tuple #[.agg #[.string X.pr, .slice xp.a X.hd.length xp.c, .slice xp.ba X.bd.length xp.bc], .int .i64 0]) (by decide)).trans g72
    have f70 := (eval_far a1 (i := 67) (j := 70) (.tuple #[.agg #[.string X.pr, .slice xp.a X.hd.length xp.c, .slice xp.ba X.bd.length xp.bc], .int .i64 0]) (by decide)).trans f70
    have f71 := (eval_far a1 (i := 67) (j := 71) (.tuple #[.agg #[.string X.pr, .slice xp.a X.hd.length xp.c, .slice xp.ba X.bd.length xp.bc], .int .i64 0]) (by decide)).trans f71
    have h20 := (eval_far a1 (i := 67) (j := 9) (.tuple #[.agg #[.string X.pr, .slice xp.a X.hd.length xp.c, .slice xp.ba X.bd.length xp.bc], .int .i64 0]) (by decide)).trans h20
    generalize a1.put (some 67) (.tuple #[.agg #[.string X.pr, .slice xp.a X.hd.length xp.c, .slice xp.ba X.bd.length xp.bc], .int .i64 0]) = a2 at *
    clear ho hg hop hd hfr
    obtain ⟨o6, ho, hg, hop, hd⟩ := isOpG_out q6
    have hfr := hall ([0, 1, 3, 2, 8, 4, 5], 6) (by simp)
    refine wpAnyH_take (listed := LR 11 [0, 1, 3, 2, 8, 4, 5]) (v := .agg #[.string X.pr, .slice xp.a X.hd.length xp.c, .slice xp.ba X.bd.length xp.bc]) ho hs hfr.1 hfr.2 (hQ _ _) (Or.inl ⟨wantedN hg, fun w' _ => run_extrV _ _ hop w' g67⟩) (kS hS b1) ?_
    rw [hd, ← LR_snoc]
    have A3 := A2.put (i := 73) (by decide) (.agg #[.string X.pr, .slice xp.a X.hd.length xp.c, .slice xp.ba X.bd.length xp.bc])
    have g73 := eval_sameA A2 (.agg #[.string X.pr, .slice xp.a X.hd.length xp.c, .slice xp.ba X.bd.length xp.bc]) (i := 73) (by omega)
    have g72 := (eval_far a2 (i := 73) (j := 72) (.agg #[.string X.pr, .slice xp.a X.hd.length xp.c, .slice xp.ba X.bd.length xp.bc]) (by decide)).trans g72
    have f70 := (eval_far a2 (i := 73) (j := 70) (.agg #[.string X.pr, .slice xp.a X.hd.length xp.c, .slice xp.ba X.bd.length xp.bc]) (by decide)).trans f70
    have f71 := (eval_far a2 (i := 73) (j := 71) (.agg #[.string X.pr, .slice xp.a X.hd.length xp.c, .slice xp.ba X.bd.length xp.bc]) (by decide)).trans f71
    have g67 := (eval_far a2 (i := 73) (j := 67) (.agg #[.string X.pr, .slice xp.a X.hd.length xp.c, .slice xp.ba X.bd.length xp.bc]) (by decide)).trans g67
    have h20 := (eval_far a2 (i := 73) (j := 9) (.agg #[.string X.pr, .slice xp.a X.hd.length xp.c, .slice xp.ba X.bd.length xp.bc]) (by decide)).trans h20
    generalize a2.put (some 73) (.agg #[.string X.pr, .slice xp.a X.hd.length xp.c, .slice xp.ba X.bd.length xp.bc]) = a3 at *
    clear ho hg hop hd hfr
    obtain ⟨o7, ho, hg, hop, hd⟩ := isOpG_out q7
    have hfr := hall ([0, 1, 3, 2, 8, 4, 5, 6], 7) (by simp)
    refine wpAnyH_take (listed := LR 11 [0, 1, 3, 2, 8, 4, 5, 6]) (v := .int .i64 0) ho hs hfr.1 hfr.2 (hQ _ _) (Or.inl ⟨wantedN hg, fun w' _ => run_extrW _ _ hop w' g67⟩) (kS hS b1) ?_
    rw [hd, ← LR_snoc]
    have A4 := A3.put (i := 74) (by decide) (.int .i64 0)
    have g74 := eval_sameA A3 (.int .i64 0) (i := 74) (by omega)
    have g72 := (eval_far a3 (i := 74) (j := 72) (.int .i64 0) (by decide)).trans g72
    have f70 := (eval_far a3 (i := 74) (j := 70) (.int .i64 0) (by decide)).trans f70
    have f71 := (eval_far a3 (i := 74) (j := 71) (.int .i64 0) (by decide)).trans f71
    have g67 := (eval_far a3 (i := 74) (j := 67) (.int .i64 0) (by decide)).trans g67
    have g73 := (eval_far a3 (i := 74) (j := 73) (.int .i64 0) (by decide)).trans g73
    have h20 := (eval_far a3 (i := 74) (j := 9) (.int .i64 0) (by decide)).trans h20
    generalize a3.put (some 74) (.int .i64 0) = a4 at *
    clear ho hg hop hd hfr
    exact P2T _ _ b20 X xp A4 g73 g74 h20 (hR.below b1) hb (Nat.lt_of_lt_of_le hbl b1.size) (kS hS b1) (fun w'' s1 s2 => hfr0 w'' s1 (fun k k1 k2 => s2 k (Nat.le_trans hS.size k1) k2 (by omega))) hlk
  have P1F : ∀ (a : Act) (u : World) (sp : Value), Ag js_reg11 a0 a → a.eval (.tmp 70) = sp → a.eval (.tmp 71) = rv → Below w5.heap.size w5 u → (∀ u2, Below u.heap.size u u2 → Calls Tryz.prog 16 #[sp, rv] u2 fun e w' => ∃ X xp, e = .returned (.tuple #[.agg #[.string X.pr, .slice xp.a X.hd.length xp.c, .slice xp.ba X.bd.length xp.bc], .int .i64 0]) ∧ Below u2.heap.size u2 w' ∧ Frr u2.heap.size w' d X xp ∧ LikeR G X) → wpAnyH Tryz.prog .any ops Q (fun u => Below w5.heap.size w5 u) 7 (LR 11 [0, 1, 3, 2]) a u := by
    intro a u sp hA f70 f71 hS C
    refine wpAnyH_all r1F (by simp) ?_
    intro i hi
    rcases List.mem_cons.1 hi with rfl | hi
    · obtain ⟨o4, ho, hg, hop, hd⟩ := isOpG_out q4
      refine wpOp_callG ho (wantedN hg) (run_callV 16 Tryz.func16 (by kernel_rfl) (by kernel_rfl) #[.tmp 70, .tmp 71] _ hop #[sp, rv] (by simp only [List.map_toArray, List.map_cons, List.map_nil, f70, f71])) ?_
      refine (C u (Below.refl _ _)).mono ?_
      rintro e u1 ⟨X, xp, rfl, b1, hfr0, hlk⟩
      refine ⟨_, rfl, kS hS b1, ?_⟩
      rw [hd, ← LR_snoc]
      have A1 := hA.put (i := 72) (by decide) (.tuple #[.agg #[.string X.pr, .slice xp.a X.hd.length xp.c, .slice xp.ba X.bd.length xp.bc], .int .i64 0])
      have g72 := eval_sameA hA (.tuple #[.agg #[.string X.pr, .slice xp.a X.hd.length xp.c, .slice xp.ba X.bd.length xp.bc], .int .i64 0]) (i := 72) (by omega)
      have f70 := (eval_far a (i := 72) (j := 70) (.tuple #[.agg #[.string X.pr, .slice xp.a X.hd.length xp.c, .slice xp.ba X.bd.length xp.bc], .int .i64 0]) (by decide)).trans f70
      have f71 := (eval_far a (i := 72) (j := 71) (.tuple #[.agg #[.string X.pr, .slice xp.a X.hd.length xp.c, .slice xp.ba X.bd.length xp.bc], .int .i64 0]) (by decide)).trans f71
      generalize a.put (some 72) (.tuple #[.agg #[.string X.pr, .slice xp.a X.hd.length xp.c, .slice xp.ba X.bd.length xp.bc], .int .i64 0]) = a1 at *
      clear ho hg hop hd
      obtain ⟨o5, ho, hg, hop, hd⟩ := isOpG_out q5
      have hfr := hall ([0, 1, 3, 2, 4], 5) (by simp)
      refine wpAnyH_take (listed := LR 11 [0, 1, 3, 2, 4]) (v := .tuple #[.agg #[.string X.pr, .slice xp.a X.hd.length xp.c, .slice xp.ba X.bd.length xp.bc], .int .i64 0]) ho hs hfr.1 hfr.2 (hQ _ _) (Or.inl ⟨wantedN hg, fun w' _ => run_move _ _ hop w' g72⟩) (kS hS b1) ?_
      rw [hd, ← LR_snoc]
      have A2 := A1.put (i := 67) (by decide) (.tuple #[.agg #[.string X.pr, .slice xp.a X.hd.length xp.c, .slice xp.ba X.bd.length xp.bc], .int .i64 0])
      have g67 := eval_sameA A1 (.tuple #[.agg #[.string X.pr, .slice xp.a X.hd.length xp.c, .slice xp.ba X.bd.length xp.bc], .int .i64 0]) (i := 67) (by omega)
      have g72 := (eval_far a1 (i := 67) (j := 72) (.tuple #[.agg #[.string X.pr, .slice xp.a X.hd.length xp.c, .slice xp.ba X.bd.length xp.bc], .int .i64 0]) (by decide)).trans g72
      have f70 := (eval_far a1 (i := 67) (j := 70) (.tuple #[.agg #[.string X.pr, .slice xp.a X.hd.length xp.c, .slice xp.ba X.bd.length xp.bc], .int .i64 0]) (by decide)).trans f70
      have f71 := (eval_far a1 (i := 67) (j := 71) (.tuple #[.agg #[.string X.pr, .slice xp.a X.hd.length xp.c, .slice xp.ba X.bd.length xp.bc], .int .i64 0]) (by decide)).trans f71
      generalize a1.put (some 67) (.tuple #[.agg #[.string X.pr, .slice xp.a X.hd.length xp.c, .slice xp.ba X.bd.length xp.bc], .int .i64 0]) = a2 at *
      clear ho hg hop hd hfr
      obtain ⟨o6, ho, hg, hop, hd⟩ := isOpG_out q6
      have hfr := hall ([0, 1, 3, 2, 4, 5], 6) (by simp)
      refine wpAnyH_take (listed := LR 11 [0, 1, 3, 2, 4, 5]) (v := .agg #[.string X.pr, .slice xp.a X.hd.length xp.c, .slice xp.ba X.bd.length xp.bc]) ho hs hfr.1 hfr.2 (hQ _ _) (Or.inl ⟨wantedN hg, fun w' _ => run_extrV _ _ hop w' g67⟩) (kS hS b1) ?_
      rw [hd, ← LR_snoc]
      have A3 := A2.put (i := 73) (by decide) (.agg #[.string X.pr, .slice xp.a X.hd.length xp.c, .slice xp.ba X.bd.length xp.bc])
      have g73 := eval_sameA A2 (.agg #[.string X.pr, .slice xp.a X.hd.length xp.c, .slice xp.ba X.bd.length xp.bc]) (i := 73) (by omega)
      have g72 := (eval_far a2 (i := 73) (j := 72) (.agg #[.string X.pr, .slice xp.a X.hd.length xp.c, .slice xp.ba X.bd.length xp.bc]) (by decide)).trans g72
      have f70 := (eval_far a2 (i := 73) (j := 70) (.agg #[.string X.pr, .slice xp.a X.hd.length xp.c, .slice xp.ba X.bd.length xp.bc]) (by decide)).trans f70
      have f71 := (eval_far a2 (i := 73) (j := 71) (.agg #[.string X.pr, .slice xp.a X.hd.length xp.c, .slice xp.ba X.bd.length xp.bc]) (by decide)).trans f71
      have g67 := (eval_far a2 (i := 73) (j := 67) (.agg #[.string X.pr, .slice xp.a X.hd.length xp.c, .slice xp.ba X.bd.length xp.bc]) (by decide)).trans g67
      generalize a2.put (some 73) (.agg #[.string X.pr, .slice xp.a X.hd.length xp.c, .slice xp.ba X.bd.length xp.bc]) = a3 at *
      clear ho hg hop hd hfr
      obtain ⟨o7, ho, hg, hop, hd⟩ := isOpG_out q7
      have hfr := hall ([0, 1, 3, 2, 4, 5, 6], 7) (by simp)
      refine wpAnyH_take (listed := LR 11 [0, 1, 3, 2, 4, 5, 6]) (v := .int .i64 0) ho hs hfr.1 hfr.2 (hQ _ _) (Or.inl ⟨wantedN hg, fun w' _ => run_extrW _ _ hop w' g67⟩) (kS hS b1) ?_
      rw [hd, ← LR_snoc]
      have A4 := A3.put (i := 74) (by decide) (.int .i64 0)
      have g74 := eval_sameA A3 (.int .i64 0) (i := 74) (by omega)
      have g72 := (eval_far a3 (i := 74) (j := 72) (.int .i64 0) (by decide)).trans g72
      have f70 := (eval_far a3 (i := 74) (j := 70) (.int .i64 0) (by decide)).trans f70
      have f71 := (eval_far a3 (i := 74) (j := 71) (.int .i64 0) (by decide)).trans f71
      have g67 := (eval_far a3 (i := 74) (j := 67) (.int .i64 0) (by decide)).trans g67
      have g73 := (eval_far a3 (i := 74) (j := 73) (.int .i64 0) (by decide)).trans g73
      generalize a3.put (some 74) (.int .i64 0) = a4 at *
      clear ho hg hop hd hfr
      exact P2F _ _ _ X xp A4 g73 g74 (kS hS b1) hS.size hfr0 hlk
    · obtain rfl := List.mem_singleton.1 hi
      obtain ⟨o8, ho, hg, hop, hd⟩ := isOpG_out q8
      refine wpOp_valG ho (wantedN hg) (run_allocR _ _ hop u) ⟨kS hS (kA _), ?_⟩
      rw [hd, ← LR_snoc]
      exact P1T _ _ u.heap.size sp (hA.put (by decide) _) (by rw [eval_far _ _ (by decide)]; exact f70) (by rw [eval_far _ _ (by decide)]; exact f71) (eval_sameA hA _ (by omega)) (rl_new u _ _) hS.size (by simp) (kS hS (kA _)) (fun u3 h3 => C u3 ((kA _).trans (h3.mono (by simp))))
  have P0T : ∀ (a : Act) (u : World) (b20 : Nat), Ag js_reg11 a0 a → a.eval (.tmp 68) = rv → a.eval (.tmp 69) = bv → a.eval (.tmp 71) = rv → a.eval (.tmp 9) = .pointer (some ⟨b20, 0, none⟩) → RL u b20 25 [.string ⟨#[]⟩, .slice none 0 0, .slice none 0 0] → w5.heap.size ≤ b20 → b20 < u.heap.size → Below w5.heap.size w5 u → wpAnyH Tryz.prog .any ops Q (fun u => Below w5.heap.size w5 u) 7 (LR 11 [0, 1, 3, 8]) a u := by
    intro a u b20  hA f68 f69 f71 h20 hR hb hbl hS
    refine wpAnyH_all r0T (by simp) ?_
    intro i hi
    obtain rfl := List.mem_singleton.1 hi
    obtain ⟨o2, ho, hg, hop, hd⟩ := isOpG_out q2
    refine wpOp_callG ho (wantedN hg) (run_callV 17 Tryz.func17 (by kernel_rfl) (by kernel_rfl) #[.tmp 68, .tmp 69] _ hop #[rv, bv] (by simp only [List.map_toArray, List.map_cons, List.map_nil, f68, f69])) ?_
    refine (C1 u hS).mono ?_
    rintro e u1 ⟨sp, rfl, b1, C⟩
    refine ⟨_, rfl, kS hS b1, ?_⟩
    rw [hd, ← LR_snoc]
    have A1 := hA.put (i := 70) (by decide) (sp)
    have g70 := eval_sameA hA (sp) (i := 70) (by omega)
    have f68 := (eval_far a (i := 70) (j := 68) (sp) (by decide)).trans f68
    have f69 := (eval_far a (i := 70) (j := 69) (sp) (by decide)).trans f69
    have f71 := (eval_far a (i := 70) (j := 71) (sp) (by decide)).trans f71
    have h20 := (eval_far a (i := 70) (j := 9) (sp) (by decide)).trans h20
    generalize a.put (some 70) (sp) = a1 at *
    clear ho hg hop hd
    exact P1T _ _ b20 sp A1 g70 f71 h20 (hR.below b1) hb (Nat.lt_of_lt_of_le hbl b1.size) (kS hS b1) C
  have P0F : ∀ (a : Act) (u : World), Ag js_reg11 a0 a → a.eval (.tmp 68) = rv → a.eval (.tmp 69) = bv → a.eval (.tmp 71) = rv → Below w5.heap.size w5 u → wpAnyH Tryz.prog .any ops Q (fun u => Below w5.heap.size w5 u) 8 (LR 11 [0, 1, 3]) a u := by
    intro a u  hA f68 f69 f71 hS
    refine wpAnyH_all r0F (by simp) ?_
    intro i hi
    rcases List.mem_cons.1 hi with rfl | hi
    · obtain ⟨o2, ho, hg, hop, hd⟩ := isOpG_out q2
      refine wpOp_callG ho (wantedN hg) (run_callV 17 Tryz.func17 (by kernel_rfl) (by kernel_rfl) #[.tmp 68, .tmp 69] _ hop #[rv, bv] (by simp only [List.map_toArray, List.map_cons, List.map_nil, f68, f69])) ?_
      refine (C1 u hS).mono ?_
      rintro e u1 ⟨sp, rfl, b1, C⟩
      refine ⟨_, rfl, kS hS b1, ?_⟩
      rw [hd, ← LR_snoc]
      have A1 := hA.put (i := 70) (by decide) (sp)
      have g70 := eval_sameA hA (sp) (i := 70) (by omega)
      have f68 := (eval_far a (i := 70) (j := 68) (sp) (by decide)).trans f68
      have f69 := (eval_far a (i := 70) (j := 69) (sp) (by decide)).trans f69
      have f71 := (eval_far a (i := 70) (j := 71) (sp) (by decide)).trans f71
      generalize a.put (some 70) (sp) = a1 at *
      clear ho hg hop hd
      exact P1F _ _ sp A1 g70 f71 (kS hS b1) C
    · obtain rfl := List.mem_singleton.1 hi
      obtain ⟨o8, ho, hg, hop, hd⟩ := isOpG_out q8
      refine wpOp_valG ho (wantedN hg) (run_allocR _ _ hop u) ⟨kS hS (kA _), ?_⟩
      rw [hd, ← LR_snoc]
      exact P0T _ _ u.heap.size  (hA.put (by decide) _) (by rw [eval_far _ _ (by decide)]; exact f68) (by rw [eval_far _ _ (by decide)]; exact f69) (by rw [eval_far _ _ (by decide)]; exact f71) (eval_sameA hA _ (by omega)) (rl_new u _ _) hS.size (by simp) (kS hS (kA _))
  have hS0 : Below w5.heap.size w5 w5.drew := (Below.refl _ _).drew
  have A0 := Ag.refl js_reg11 a0
  obtain ⟨o0, ho, hg, hop, hd⟩ := isOpG_out q0
  have hfr := hall ([], 0) (by simp)
  refine wpAnyH_take (listed := LR 11 []) (v := rv) ho hs hfr.1 hfr.2 (hQ _ _) (Or.inl ⟨wantedN hg, fun w' hS => run_loadG _ _ hop w' e2 (LE w' hS)⟩) hS0 ?_
  rw [hd, ← LR_snoc]
  have A1 := A0.put (i := 68) (by decide) (rv)
  have g68 := eval_sameA A0 (rv) (i := 68) (by omega)
  have e2 := (eval_far a0 (i := 68) (j := 2) (rv) (by decide)).trans e2
  have e1 := (eval_far a0 (i := 68) (j := 1) (rv) (by decide)).trans e1
  generalize a0.put (some 68) (rv) = c1 at *
  clear ho hg hop hd hfr
  obtain ⟨o1, ho, hg, hop, hd⟩ := isOpG_out q1
  have hfr := hall ([0], 1) (by simp)
  refine wpAnyH_take (listed := LR 11 [0]) (v := bv) ho hs hfr.1 hfr.2 (hQ _ _) (Or.inl ⟨wantedN hg, fun w' hS => run_move _ _ hop w' e1⟩) hS0 ?_
  rw [hd, ← LR_snoc]
  have A2 := A1.put (i := 69) (by decide) (bv)
  have g69 := eval_sameA A1 (bv) (i := 69) (by omega)
  have e2 := (eval_far c1 (i := 69) (j := 2) (bv) (by decide)).trans e2
  have e1 := (eval_far c1 (i := 69) (j := 1) (bv) (by decide)).trans e1
  have g68 := (eval_far c1 (i := 69) (j := 68) (bv) (by decide)).trans g68
  generalize c1.put (some 69) (bv) = c2 at *
  clear ho hg hop hd hfr
  obtain ⟨o3, ho, hg, hop, hd⟩ := isOpG_out q3
  have hfr := hall ([0, 1], 3) (by simp)
  refine wpAnyH_take (listed := LR 11 [0, 1]) (v := rv) ho hs hfr.1 hfr.2 (hQ _ _) (Or.inl ⟨wantedN hg, fun w' hS => run_loadG _ _ hop w' e2 (LE w' hS)⟩) hS0 ?_
  rw [hd, ← LR_snoc]
  have A3 := A2.put (i := 71) (by decide) (rv)
  have g71 := eval_sameA A2 (rv) (i := 71) (by omega)
  have e2 := (eval_far c2 (i := 71) (j := 2) (rv) (by decide)).trans e2
  have e1 := (eval_far c2 (i := 71) (j := 1) (rv) (by decide)).trans e1
  have g68 := (eval_far c2 (i := 71) (j := 68) (rv) (by decide)).trans g68
  have g69 := (eval_far c2 (i := 71) (j := 69) (rv) (by decide)).trans g69
  generalize c2.put (some 71) (rv) = c3 at *
  clear ho hg hop hd hfr
  exact P0F _ _  A3 g68 g69 g71 hS0
def js_reg17 : List Nat := [95, 96, 97, 98, 99, 100, 101, 102, 103, 104, 105, 106, 107, 108, 94, 109, 110, 11, 6]
def takes_reg17 : List (List Nat × Nat) := [([], 0), ([0], 1), ([0, 1], 2), ([0, 1, 2], 3), ([0, 1, 2, 3], 4), ([0, 1, 2, 3, 4], 5), ([0, 1, 2, 3, 4, 5], 6), ([0, 1, 2, 3, 4, 5, 6], 7), ([0, 1, 2, 3, 4, 5, 6, 7], 8), ([0, 1, 2, 3, 4, 5, 6, 7, 8], 12), ([0, 1, 2, 3, 4, 5, 6, 7, 8, 12, 9], 10), ([0, 1, 2, 3, 4, 5, 6, 7, 8, 12, 17, 9], 10), ([0, 1, 2, 3, 4, 5, 6, 7, 8, 12, 9, 10, 11, 13], 14), ([0, 1, 2, 3, 4, 5, 6, 7, 8, 12, 9, 10, 11, 13, 14], 15), ([0, 1, 2, 3, 4, 5, 6, 7, 8, 12, 9, 10, 11, 13, 14, 15], 16), ([0, 1, 2, 3, 4, 5, 6, 7, 8, 12, 9, 10, 11, 17, 13], 14), ([0, 1, 2, 3, 4, 5, 6, 7, 8, 12, 9, 10, 11, 17, 13, 14], 15), ([0, 1, 2, 3, 4, 5, 6, 7, 8, 12, 9, 10, 11, 17, 13, 14, 15], 16), ([0, 1, 2, 3, 4, 5, 6, 7, 8, 12, 9, 10, 11, 13, 14, 15, 16, 17, 18], 19)]
set_option maxHeartbeats 3200000 in
theorem reg17 {ops : Array Oper} {Q : Exit → Act → World → Prop} {a0 : Act} {w5 : World} {b3 d g off nn cc : Nat} {rv vv : Value} {nl n0 : ByteArray} {G : R3} {t1 t2 : Array TypeId}
    (q0 : isOpG ops 0 none (.move (.tmp 10)) (some 95))
    (q1 : isOpG ops 1 none (.move (.tmp 10)) (some 96))
    (q2 : isOpG ops 2 none (.call { callee := .builtin .len, args := #[.tmp 96], argTypes := #[39] }) (some 97))
    (q3 : isOpG ops 3 none (.binOp .sub 3 (.tmp 97) (.const (.int .i64 1)) 3) (some 98))
    (q4 : isOpG ops 4 none (.indexAddr 39 (.tmp 95) (.tmp 98)) (some 99))
    (q5 : isOpG ops 5 none (.load 9 (.tmp 99)) (some 100))
    (q6 : isOpG ops 6 none (.move (.tmp 10)) (some 101))
    (q7 : isOpG ops 7 none (.indexAddr 39 (.tmp 101) (.const (.int .i64 0))) (some 102))
    (q8 : isOpG ops 8 none (.load 9 (.tmp 102)) (some 103))
    (q9 : isOpG ops 9 none (.call { callee := .value (.func 19), args := #[.tmp 103], argTypes := t1 }) (some 104))
    (q10 : isOpG ops 10 none (.build 49 #[(0, .tmp 100), (1, .tmp 104)]) (some 105))
    (q11 : isOpG ops 11 none (.buildSlice 37 1 #[(0, .tmp 105)]) (some 106))
    (q12 : isOpG ops 12 none (.load 25 (.tmp 2)) (some 107))
    (q13 : isOpG ops 13 none (.call { callee := .value (.func 16), args := #[.tmp 106, .tmp 107], argTypes := t2 }) (some 108))
    (q14 : isOpG ops 14 none (.move (.tmp 108)) (some 94))
    (q15 : isOpG ops 15 none (.extract (.tmp 94) 0) (some 109))
    (q16 : isOpG ops 16 none (.extract (.tmp 94) 1) (some 110))
    (q17 : isOpG ops 17 none (.alloc 25) (some 11))
    (q18 : isOpG ops 18 none (.store 25 (.tmp 11) (.tmp 109)) none)
    (q19 : isOpG ops 19 none (.assign (.tmp 110)) (some 6))
    (hs : Region.noSelect ops = true) (hq : (takes_reg17.all fun p => Region.free .any ops (LR 20 p.1) p.2 && (Region.ready .any ops (LR 20 p.1)).contains p.2) = true)
    (r0F : Region.ready .any ops (LR 20 [0, 1, 2, 3, 4, 5, 6, 7, 8, 12]) = [9, 17]) (r0T : Region.ready .any ops (LR 20 [0, 1, 2, 3, 4, 5, 6, 7, 8, 12, 17]) = [9])
    (r1F : Region.ready .any ops (LR 20 [0, 1, 2, 3, 4, 5, 6, 7, 8, 12, 9, 10]) = [11, 17]) (r1T : Region.ready .any ops (LR 20 [0, 1, 2, 3, 4, 5, 6, 7, 8, 12, 9, 10, 17]) = [11])
    (r2F : Region.ready .any ops (LR 20 [0, 1, 2, 3, 4, 5, 6, 7, 8, 12, 9, 10, 11]) = [13, 17]) (r2T : Region.ready .any ops (LR 20 [0, 1, 2, 3, 4, 5, 6, 7, 8, 12, 9, 10, 11, 17]) = [13])
    (r3F : Region.ready .any ops (LR 20 [0, 1, 2, 3, 4, 5, 6, 7, 8, 12, 9, 10, 11, 13, 14, 15, 16]) = [17]) (r3T : Region.ready .any ops (LR 20 [0, 1, 2, 3, 4, 5, 6, 7, 8, 12, 9, 10, 11, 13, 14, 15, 16, 17]) = [18])
    (rend : Region.ready .any ops (LR 20 [0, 1, 2, 3, 4, 5, 6, 7, 8, 12, 9, 10, 11, 13, 14, 15, 16, 17, 18, 19]) = [])
    (hQ : ∀ (d : Option Tmp) (v : Value) c a w, Q (.panic c) (a.put d v) w → Q (.panic c) a w)
    (hsz : 110 < a0.tmps.size) (e2 : a0.eval (.tmp 2) = .pointer (some ⟨b3, 0, none⟩)) (e10 : a0.eval (.tmp 10) = vv)
    (hv : vv = .slice (some ⟨g, off, none⟩) nn cc) (hnn : 2 ≤ nn) (hn2 : nn ≤ 24)
    (LE : ∀ u, Below w5.heap.size w5 u → (loadVar 25 ⟨b3, 0, none⟩).run Tryz.prog u = .ok rv u)
    (LL : ∀ u, Below w5.heap.size w5 u → (loadVar 9 ⟨g, off + (nn - 1), none⟩).run Tryz.prog u = .ok (.string nl) u)
    (L0 : ∀ u, Below w5.heap.size w5 u → (loadVar 9 ⟨g, off, none⟩).run Tryz.prog u = .ok (.string n0) u)
    (C1 : ∀ u, Below w5.heap.size w5 u → Calls Tryz.prog 19 #[.string n0] u fun e w' => e = .returned (.agg #[.string n0, .int .i8 0, .int .i64 0, .string ⟨#[]⟩]) ∧ Below u.heap.size u w')
    (C2 : ∀ u, Below w5.heap.size w5 u → ∀ u2, Below (u.alloc (.cells #[.string nl, .string n0, .int .i8 0, .int .i64 0, .string ⟨#[]⟩] 49)).heap.size (u.alloc (.cells #[.string nl, .string n0, .int .i8 0, .int .i64 0, .string ⟨#[]⟩] 49)) u2 → Calls Tryz.prog 16 #[.slice (some ⟨u.heap.size, 0, none⟩) 1 1, rv] u2 fun e w' => ∃ X xp, e = .returned (.tuple #[.agg #[.string X.pr, .slice xp.a X.hd.length xp.c, .slice xp.ba X.bd.length xp.bc], .int .i64 0]) ∧ Below u2.heap.size u2 w' ∧ Frr u2.heap.size w' d X xp ∧ LikeR G X)
    (F : ∀ (a : Act) (wc : World) (b20 : Nat) (X : R3) (xp : RP), Ag js_reg17 a0 a → a.eval (.tmp 11) = .pointer (some ⟨b20, 0, none⟩) → a.eval (.tmp 6) = .int .i64 0 → RL wc b20 25 [.string X.pr, .slice xp.a X.hd.length xp.c, .slice xp.ba X.bd.length xp.bc] → Below w5.heap.size w5 wc → RIs wc d X xp → LikeR G X → Q .normal a wc) :
    wpAnyH Tryz.prog .any ops Q (fun u => Below w5.heap.size w5 u) 20 (LR 20 []) a0 w5.drew := by
  have hall : ∀ p ∈ takes_reg17, Region.free .any ops (LR 20 p.1) p.2 = true ∧ (Region.ready .any ops (LR 20 p.1)).contains p.2 = true := by
    intro p hp
    have := List.all_eq_true.1 hq p hp
    simpa using this
  unfold takes_reg17 at hall
  have hsub : ∀ u, (binOp .sub 3 (.int .i64 (nn : Int)) (.int .i64 1)).run Tryz.prog u = .ok (.int .i64 ((nn : Int) - 1)) u := fun u => by
    have hw : IntKind.i64.wrap ((nn : Int) - 1) = (nn : Int) - 1 := by rw [IntKind.wrap_i64]; omega
    go_simp
  have hix : ∀ (w' : World) {ev : Operand → Value} {o : Oper}, ev (.tmp 95) = vv → ev (.tmp 98) = .int .i64 ((nn : Int) - 1) → o.op = .indexAddr 39 (.tmp 95) (.tmp 98) → (execOp ev o).run Tryz.prog w' = .ok (.value (.pointer (some ⟨g, off + (nn - 1), none⟩))) w' := fun w' ev o h1 h2 hop => run_idxS _ _ hop w' (h1.trans hv) (h2.trans (by rw [show ((nn : Int) - 1) = ((nn - 1 : Nat) : Int) by omega])) (by omega)
  have hiz : ∀ (w' : World) {ev : Operand → Value} {o : Oper}, ev (.tmp 101) = vv → o.op = .indexAddr 39 (.tmp 101) (.const (.int .i64 0)) → (∀ v, ev (.const v) = v) → (execOp ev o).run Tryz.prog w' = .ok (.value (.pointer (some ⟨g, off, none⟩))) w' := fun w' ev o h1 hop hc => run_idxS (k := 0) _ _ hop w' (h1.trans hv) (hc _) (by omega)
  have kS : ∀ {u u' : World}, Below w5.heap.size w5 u → Below u.heap.size u u' → Below w5.heap.size w5 u' := fun h b => h.trans (b.mono h.size)
  have kA : ∀ {u : World} (o : Obj), Below u.heap.size u (u.alloc o) := fun o => (Below.refl _ _).alloc (Nat.le_refl _) _
  have P3T : ∀ (a : Act) (u : World) (b20 : Nat) (X : R3) (xp : RP), Ag js_reg17 a0 a → a.eval (.tmp 109) = .agg #[.string X.pr, .slice xp.a X.hd.length xp.c, .slice xp.ba X.bd.length xp.bc] → a.eval (.tmp 110) = .int .i64 0 → a.eval (.tmp 11) = .pointer (some ⟨b20, 0, none⟩) → RL u b20 25 [.string ⟨#[]⟩, .slice none 0 0, .slice none 0 0] → w5.heap.size ≤ b20 → b20 < u.heap.size → Below w5.heap.size w5 u → (∀ w'' : World, u.heap.size ≤ w''.heap.size → (∀ k, w5.heap.size ≤ k → k < u.heap.size → k ≠ b20 → w''.heap[k]? = u.heap[k]?) → RIs w'' d X xp) → LikeR G X →
      wpAnyH Tryz.prog .any ops Q (fun u => Below w5.heap.size w5 u) 2 (LR 20 [0, 1, 2, 3, 4, 5, 6, 7, 8, 12, 9, 10, 11, 13, 14, 15, 16, 17]) a u := by
    intro a u b20 X xp hA h0 h1 h20 hR hb hbl hS hFr hLk
    refine wpAnyH_all r3T (by simp) ?_
    intro i hi
    obtain rfl := List.mem_singleton.1 hi
    obtain ⟨o9, ho, hg, hop, hd⟩ := isOpG_out q18
    refine wpOp_skipG ho (wantedN hg) (run_storeR _ _ hop u h20 h0 hR) ?_
    have hS' : Below w5.heap.size w5 (res3 u b20 X.pr (.slice xp.a X.hd.length xp.c) (.slice xp.ba X.bd.length xp.bc)) := res3_below hS hb _ _ _
    refine ⟨hS', ?_⟩
    rw [hd]
    have hR' := res3_rl hR X.pr (.slice xp.a X.hd.length xp.c) (.slice xp.ba X.bd.length xp.bc)
    have hI : RIs (res3 u b20 X.pr (.slice xp.a X.hd.length xp.c) (.slice xp.ba X.bd.length xp.bc)) d X xp := hFr _ (by rw [res3_size]; exact Nat.le_refl _) (fun k _ _ hne => res3_other _ _ _ _ _ hne)
    show wpAnyH _ _ _ _ _ 1 (LR 20 [0, 1, 2, 3, 4, 5, 6, 7, 8, 12, 9, 10, 11, 13, 14, 15, 16, 17, 18]) a _
    obtain ⟨o10, ho, hg, hop, hd⟩ := isOpG_out q19
    have hfr := hall ([0, 1, 2, 3, 4, 5, 6, 7, 8, 12, 9, 10, 11, 13, 14, 15, 16, 17, 18], 19) (by simp)
    refine wpAnyH_take (listed := LR 20 [0, 1, 2, 3, 4, 5, 6, 7, 8, 12, 9, 10, 11, 13, 14, 15, 16, 17, 18]) (v := .int .i64 0) ho hs hfr.1 hfr.2 (hQ _ _) (Or.inl ⟨wantedN hg, fun w' _ => run_assignV _ _ hop w' h1⟩) hS' ?_
    rw [hd]
    exact wpAnyH_done rend (F _ _ b20 X xp (hA.put (by decide) _) (by rw [eval_far _ _ (by decide)]; exact h20) (eval_sameA hA _ (by omega)) hR' hS' hI hLk) _
  have P3F : ∀ (a : Act) (u : World) (lo : Nat) (X : R3) (xp : RP), Ag js_reg17 a0 a → a.eval (.tmp 109) = .agg #[.string X.pr, .slice xp.a X.hd.length xp.c, .slice xp.ba X.bd.length xp.bc] → a.eval (.tmp 110) = .int .i64 0 → Below w5.heap.size w5 u → w5.heap.size ≤ lo → Frr lo u d X xp → LikeR G X →
      wpAnyH Tryz.prog .any ops Q (fun u => Below w5.heap.size w5 u) 3 (LR 20 [0, 1, 2, 3, 4, 5, 6, 7, 8, 12, 9, 10, 11, 13, 14, 15, 16]) a u := by
    intro a u lo X xp hA h0 h1 hS hlo hFr hLk
    refine wpAnyH_all r3F (by simp) ?_
    intro i hi
    obtain rfl := List.mem_singleton.1 hi
    obtain ⟨o8, ho, hg, hop, hd⟩ := isOpG_out q17
    refine wpOp_valG ho (wantedN hg) (run_allocR _ _ hop u) ⟨kS hS (kA _), ?_⟩
    rw [hd]
    refine P3T _ _ u.heap.size X xp (hA.put (by decide) _) (by rw [eval_far _ _ (by decide)]; exact h0) (by rw [eval_far _ _ (by decide)]; exact h1) (eval_sameA hA _ (by omega)) (rl_new u _ _) hS.size (by simp) (kS hS (kA _)) (fun w'' s1 s2 => ?_) hLk
    simp only [World.size_alloc] at s1 s2
    refine hFr w'' (by omega) (fun k k1 k2 => ?_)
    rw [s2 k (by omega) (by omega) (by omega), (kA _).block k k2]
  have P2T : ∀ (a : Act) (u : World) (b20 : Nat) (sl : Value), Ag js_reg17 a0 a → a.eval (.tmp 106) = sl → a.eval (.tmp 107) = rv → a.eval (.tmp 11) = .pointer (some ⟨b20, 0, none⟩) → RL u b20 25 [.string ⟨#[]⟩, .slice none 0 0, .slice none 0 0] → w5.heap.size ≤ b20 → b20 < u.heap.size → Below w5.heap.size w5 u → (∀ u2, Below u.heap.size u u2 → Calls Tryz.prog 16 #[sl, rv] u2 fun e w' => ∃ X xp, e = .returned (.tuple #[.agg #[.string X.pr, .slice xp.a X.hd.length xp.c, .slice xp.ba X.bd.length xp.bc], .int .i64 0]) ∧ Below u2.heap.size u2 w' ∧ Frr u2.heap.size w' d X xp ∧ LikeR G X) → wpAnyH Tryz.prog .any ops Q (fun u => Below w5.heap.size w5 u) 6 (LR 20 [0, 1, 2, 3, 4, 5, 6, 7, 8, 12, 9, 10, 11, 17]) a u := by
    intro a u b20 sl hA f106 f107 h20 hR hb hbl hS C
    refine wpAnyH_all r2T (by simp) ?_
    intro i hi
    obtain rfl := List.mem_singleton.1 hi
    obtain ⟨o13, ho, hg, hop, hd⟩ := isOpG_out q13
    refine wpOp_callG ho (wantedN hg) (run_callV 16 Tryz.func16 (by kernel_rfl) (by kernel_rfl) #[.tmp 106, .tmp 107] _ hop #[sl, rv] (by simp only [List.map_toArray, List.map_cons, List.map_nil, f106, f107])) ?_
    refine (C u (Below.refl _ _)).mono ?_
    rintro e u1 ⟨X, xp, rfl, b1, hfr0, hlk⟩
    refine ⟨_, rfl, kS hS b1, ?_⟩
    rw [hd, ← LR_snoc]
    have A1 := hA.put (i := 108) (by decide) (.tuple #[.agg #[.string X.pr, .slice xp.a X.hd.length xp.c, .slice xp.ba X.bd.length xp.bc], .int .i64 0])
    have g108 := eval_sameA hA (.tuple #[.agg #[.string X.pr, .slice xp.a X.hd.length xp.c, .slice xp.ba X.bd.length xp.bc], .int .i64 0]) (i := 108) (by omega)
    have f106 := (eval_far a (i := 108) (j := 106) (.tuple #[.agg #[.string X.pr, .slice xp.a X.hd.length xp.c, .slice xp.ba X.bd.length xp.bc], .int .i64 0]) (by decide)).trans f106
    have f107 := (eval_far a (i := 108) (j := 107) (.tuple #[.agg #[.string X.pr, .slice xp.a X.hd.length xp.c, .slice xp.ba X.bd.length xp.bc], .int .i64 0]) (by decide)).trans f107
    have h20 := (eval_far a (i := 108) (j := 11) (.tuple #[.agg #[.string X.pr, .slice xp.a X.hd.length xp.c, .slice xp.ba X.bd.length xp.bc], .int .i64 0]) (by decide)).trans h20
    generalize a.put (some 108) (.tuple #[.agg #[.string X.pr, .slice xp.a X.hd.length xp.c, .slice xp.ba X.bd.length xp.bc], .int .i64 0]) = a1 at *
    clear ho hg hop hd
    obtain ⟨o14, ho, hg, hop, hd⟩ := isOpG_out q14
    have hfr := hall ([0, 1, 2, 3, 4, 5, 6, 7, 8, 12, 9, 10, 11, 17, 13], 14) (by simp)
    refine wpAnyH_take (listed := LR 20 [0, 1, 2, 3, 4, 5, 6, 7, 8, 12, 9, 10, 11, 17, 13]) (v := .tuple #[.agg #[.string X.pr, .slice xp.a X.hd.length xp.c, .slice xp.ba X.bd.length xp.bc], .int .i64 0]) ho hs hfr.1 hfr.2 (hQ _ _) (Or.inl ⟨wantedN hg, fun w' _ => run_move _ _ hop w' g108⟩) (kS hS b1) ?_
    rw [hd, ← LR_snoc]
    have A2 := A1.put (i := 94) (by decide) (.tuple #[.agg #[.string X.pr, .slice xp.a X.hd.length xp.c, .slice xp.ba X.bd.length xp.bc], .int .i64 0])
    have g94 := eval_sameA A1 (.tuple #[.agg #[.string X.pr, .slice xp.a X.hd.length xp.c, .slice xp.ba X.bd.length xp.bc], .int .i64 0]) (i := 94) (by omega)
    have g108 := (eval_far a1 (i := 94) (j := 108) (.tuple #[.agg #[.string X.pr, .slice xp.a X.hd.length xp.c, .slice xp.ba X.bd.length xp.bc], .int .i64 0]) (by decide)).trans g108
    have f106 := (eval_far a1 (i := 94) (j := 106) (.tuple #[.agg #[.string X.pr, .slice xp.a X.hd.length xp.c, .slice xp.ba X.bd.length xp.bc], .int .i64 0]) (by decide)).trans f106
    have f107 := (eval_far a1 (i := 94) (j := 107) (.tuple #[.agg #[.string X.pr, .slice xp.a X.hd.length xp.c, .slice xp.ba X.bd.length xp.bc], .int .i64 0]) (by decide)).trans f107
    have h20 := (eval_far a1 (i := 94) (j := 11) (.tuple #[.agg #[.string X.pr, .slice xp.a X.hd.length xp.c, .slice xp.ba X.bd.length xp.bc], .int .i64 0]) (by decide)).trans h20
    generalize a1.put (some 94) (.tuple #[.agg #[.string X.pr, .slice xp.a X.hd.length xp.c, .slice xp.ba X.bd.length xp.bc], .int .i64 0]) = a2 at *
    clear ho hg hop hd hfr
    obtain ⟨o15, ho, hg, hop, hd⟩ := isOpG_out q15
    have hfr := hall ([0, 1, 2, 3, 4, 5, 6, 7, 8, 12, 9, 10, 11, 17, 13, 14], 15) (by simp)
    refine wpAnyH_take (listed := LR 20 [0, 1, 2, 3, 4, 5, 6, 7, 8, 12, 9, 10, 11, 17, 13, 14]) (v := .agg #[.string X.pr, .slice xp.a X.hd.length xp.c, .slice xp.ba X.bd.length xp.bc]) ho hs hfr.1 hfr.2 (hQ _ _) (Or.inl ⟨wantedN hg, fun w' _ => run_extrV _ _ hop w' g94⟩) (kS hS b1) ?_
    rw [hd, ← LR_snoc]
    have A3 := A2.put (i := 109) (by decide) (.agg #[.string X.pr, .slice xp.a X.hd.length xp.c, .slice xp.ba X.bd.length xp.bc])
    have g109 := eval_sameA A2 (.agg #[.string X.pr, .slice xp.a X.hd.length xp.c, .slice xp.ba X.bd.length xp.bc]) (i := 109) (by omega)
    have g108 := (eval_far a2 (i := 109) (j := 108) (.agg #[.string X.pr, .slice xp.a X.hd.length xp.c, .slice xp.ba X.bd.length xp.bc]) (by decide)).trans g108
    have f106 := (eval_far a2 (i := 109) (j := 106) (.agg #[.string X.pr, .slice xp.a X.hd.length xp.c, .slice xp.ba X.bd.length xp.bc]) (by decide)).trans f106
    have f107 := (eval_far a2 (i := 109) (j := 107) (.agg #[.string X.pr, .slice xp.a X.hd.length xp.c, .slice xp.ba X.bd.length xp.bc]) (by decide)).trans f107
    have g94 := (eval_far a2 (i := 109) (j := 94) (.agg #[.string X.pr, .slice xp.a X.hd.length xp.c, .slice xp.ba X.bd.length xp.bc]) (by decide)).trans g94
    have h20 := (eval_far a2 (i := 109) (j := 11) (.agg #[.string X.pr, .slice xp.a X.hd.length xp.c, .slice xp.ba X.bd.length xp.bc]) (by decide)).trans h20
    generalize a2.put (some 109) (.agg #[.string X.pr, .slice xp.a X.hd.length xp.c, .slice xp.ba X.bd.length xp.bc]) = a3 at *
    clear ho hg hop hd hfr
    obtain ⟨o16, ho, hg, hop, hd⟩ := isOpG_out q16
    have hfr := hall ([0, 1, 2, 3, 4, 5, 6, 7, 8, 12, 9, 10, 11, 17, 13, 14, 15], 16) (by simp)
    refine wpAnyH_take (listed := LR 20 [0, 1, 2, 3, 4, 5, 6, 7, 8, 12, 9, 10, 11, 17, 13, 14, 15]) (v := .int .i64 0) ho hs hfr.1 hfr.2 (hQ _ _) (Or.inl ⟨wantedN hg, fun w' _ => run_extrW _ _ hop w' g94⟩) (kS hS b1) ?_
    rw [hd, ← LR_snoc]
    have A4 := A3.put (i := 110) (by decide) (.int .i64 0)
    have g110 := eval_sameA A3 (.int .i64 0) (i := 110) (by omega)
    have g108 := (eval_far a3 (i := 110) (j := 108) (.int .i64 0) (by decide)).trans g108
    have f106 := (eval_far a3 (i := 110) (j := 106) (.int .i64 0) (by decide)).trans f106
    have f107 := (eval_far a3 (i := 110) (j := 107) (.int .i64 0) (by decide)).trans f107
    have g94 := (eval_far a3 (i := 110) (j := 94) (.int .i64 0) (by decide)).trans g94
    have g109 := (eval_far a3 (i := 110) (j := 109) (.int .i64 0) (by decide)).trans g109
    have h20 := (eval_far a3 (i := 110) (j := 11) (.int .i64 0) (by decide)).trans h20
    generalize a3.put (some 110) (.int .i64 0) = a4 at *
    clear ho hg hop hd hfr
    exact P3T _ _ b20 X xp A4 g109 g110 h20 (hR.below b1) hb (Nat.lt_of_lt_of_le hbl b1.size) (kS hS b1) (fun w'' s1 s2 => hfr0 w'' s1 (fun k k1 k2 => s2 k (Nat.le_trans hS.size k1) k2 (by omega))) hlk
  have P2F : ∀ (a : Act) (u : World) (sl : Value), Ag js_reg17 a0 a → a.eval (.tmp 106) = sl → a.eval (.tmp 107) = rv → Below w5.heap.size w5 u → (∀ u2, Below u.heap.size u u2 → Calls Tryz.prog 16 #[sl, rv] u2 fun e w' => ∃ X xp, e = .returned (.tuple #[.agg #[.string X.pr, .slice xp.a X.hd.length xp.c, .slice xp.ba X.bd.length xp.bc], .int .i64 0]) ∧ Below u2.heap.size u2 w' ∧ Frr u2.heap.size w' d X xp ∧ LikeR G X) → wpAnyH Tryz.prog .any ops Q (fun u => Below w5.heap.size w5 u) 7 (LR 20 [0, 1, 2, 3, 4, 5, 6, 7, 8, 12, 9, 10, 11]) a u := by
    intro a u sl hA f106 f107 hS C
    refine wpAnyH_all r2F (by simp) ?_
    intro i hi
    rcases List.mem_cons.1 hi with rfl | hi
    · obtain ⟨o13, ho, hg, hop, hd⟩ := isOpG_out q13
      refine wpOp_callG ho (wantedN hg) (run_callV 16 Tryz.func16 (by kernel_rfl) (by kernel_rfl) #[.tmp 106, .tmp 107] _ hop #[sl, rv] (by simp only [List.map_toArray, List.map_cons, List.map_nil, f106, f107])) ?_
      refine (C u (Below.refl _ _)).mono ?_
      rintro e u1 ⟨X, xp, rfl, b1, hfr0, hlk⟩
      refine ⟨_, rfl, kS hS b1, ?_⟩
      rw [hd, ← LR_snoc]
      have A1 := hA.put (i := 108) (by decide) (.tuple #[.agg #[.string X.pr, .slice xp.a X.hd.length xp.c, .slice xp.ba X.bd.length xp.bc], .int .i64 0])
      have g108 := eval_sameA hA (.tuple #[.agg #[.string X.pr, .slice xp.a X.hd.length xp.c, .slice xp.ba X.bd.length xp.bc], .int .i64 0]) (i := 108) (by omega)
      have f106 := (eval_far a (i := 108) (j := 106) (.tuple #[.agg #[.string X.pr, .slice xp.a X.hd.length xp.c, .slice xp.ba X.bd.length xp.bc], .int .i64 0]) (by decide)).trans f106
      have f107 := (eval_far a (i := 108) (j := 107) (.tuple #[.agg #[.string X.pr, .slice xp.a X.hd.length xp.c, .slice xp.ba X.bd.length xp.bc], .int .i64 0]) (by decide)).trans f107
      generalize a.put (some 108) (.tuple #[.agg #[.string X.pr, .slice xp.a X.hd.length xp.c, .slice xp.ba X.bd.length xp.bc], .int .i64 0]) = a1 at *
      clear ho hg hop hd
      obtain ⟨o14, ho, hg, hop, hd⟩ := isOpG_out q14
      have hfr := hall ([0, 1, 2, 3, 4, 5, 6, 7, 8, 12, 9, 10, 11, 13], 14) (by simp)
      refine wpAnyH_take (listed := LR 20 [0, 1, 2, 3, 4, 5, 6, 7, 8, 12, 9, 10, 11, 13]) (v := .tuple #[.agg #[.string X.pr, .slice xp.a X.hd.length xp.c, .slice xp.ba X.bd.length xp.bc], .int .i64 0]) ho hs hfr.1 hfr.2 (hQ _ _) (Or.inl ⟨wantedN hg, fun w' _ => run_move _ _ hop w' g108⟩) (kS hS b1) ?_
      rw [hd, ← LR_snoc]
      have A2 := A1.put (i := 94) (by decide) (.tuple #[.agg #[.string X.pr, .slice xp.a X.hd.length xp.c, .slice xp.ba X.bd.length xp.bc], .int .i64 0])
      have g94 := eval_sameA A1 (.tuple #[.agg #[.string X.pr, .slice xp.a X.hd.length xp.c, .slice xp.ba X.bd.length xp.bc], .int .i64 0]) (i := 94) (by omega)
      have g108 := (eval_far a1 (i := 94) (j := 108) (.tuple #[.agg #[.string X.pr, .slice xp.a X.hd.length xp.c, .slice xp.ba X.bd.length xp.bc], .int .i64 0]) (by decide)).trans g108
      have f106 := (eval_far a1 (i := 94) (j := 106) (.tuple #[.agg #[.string X.pr, .slice xp.a X.hd.length xp.c, .slice xp.ba X.bd.length xp.bc], .int .i64 0]) (by decide)).trans f106
      have f107 := (eval_far a1 (i := 94) (j := 107) (.tuple #[.agg #[.string X.pr, .slice xp.a X.hd.length xp.c, .slice xp.ba X.bd.length xp.bc], .int .i64 0]) (by decide)).trans f107
      generalize a1.put (some 94) (.tuple #[.agg #[.string X.pr, .slice xp.a X.hd.length xp.c, .slice xp.ba X.bd.length xp.bc], .int .i64 0]) = a2 at *
      clear ho hg hop hd hfr
      obtain ⟨o15, ho, hg, hop, hd⟩ := isOpG_out q15
      have hfr := hall ([0, 1, 2, 3, 4, 5, 6, 7, 8, 12, 9, 10, 11, 13, 14], 15) (by simp)
      refine wpAnyH_take (listed := LR 20 [0, 1, 2, 3, 4, 5, 6, 7, 8, 12, 9, 10, 11, 13, 14]) (v := .agg #[.string X.pr, .slice xp.a X.hd.length xp.c, .slice xp.ba X.bd.length xp.bc]) ho hs hfr.1 hfr.2 (hQ _ _) (Or.inl ⟨wantedN hg, fun w' _ => run_extrV _ _ hop w' g94⟩) (kS hS b1) ?_
      rw [hd, ← LR_snoc]
      have A3 := A2.put (i := 109) (by decide) (.agg #[.string X.pr, .slice xp.a X.hd.length xp.c, .slice xp.ba X.bd.length xp.bc])
      have g109 := eval_sameA A2 (.agg #[.string X.pr, .slice xp.a X.hd.length xp.c, .slice xp.ba X.bd.length xp.bc]) (i := 109) (by omega)
      have g108 := (eval_far a2 (i := 109) (j := 108) (.agg #[.string X.pr, .slice xp.a X.hd.length xp.c, .slice xp.ba X.bd.length xp.bc]) (by decide)).trans g108
      have f106 := (eval_far a2 (i := 109) (j := 106) (.agg #[.string X.pr, .slice xp.a X.hd.length xp.c, .slice xp.ba X.bd.length xp.bc]) (by decide)).trans f106
      have f107 := (eval_far a2 (i := 109) (j := 107) (.agg #[.string X.pr, .slice xp.a X.hd.length xp.c, .slice xp.ba X.bd.length xp.bc]) (by decide)).trans f107
      have g94 := (eval_far a2 (i := 109) (j := 94) (.agg #[.string X.pr, .slice xp.a X.hd.length xp.c, .slice xp.ba X.bd.length xp.bc]) (by decide)).trans g94
      generalize a2.put (some 109) (.agg #[.string X.pr, .slice xp.a X.hd.length xp.c, .slice xp.ba X.bd.length xp.bc]) = a3 at *
      clear ho hg hop hd hfr
      obtain ⟨o16, ho, hg, hop, hd⟩ := isOpG_out q16
      have hfr := hall ([0, 1, 2, 3, 4, 5, 6, 7, 8, 12, 9, 10, 11, 13, 14, 15], 16) (by simp)
      refine wpAnyH_take (listed := LR 20 [0, 1, 2, 3, 4, 5, 6, 7, 8, 12, 9, 10, 11, 13, 14, 15]) (v := .int .i64 0) ho hs hfr.1 hfr.2 (hQ _ _) (Or.inl ⟨wantedN hg, fun w' _ => run_extrW _ _ hop w' g94⟩) (kS hS b1) ?_
      rw [hd, ← LR_snoc]
      have A4 := A3.put (i := 110) (by decide) (.int .i64 0)
      have g110 := eval_sameA A3 (.int .i64 0) (i := 110) (by omega)
      have g108 := (eval_far a3 (i := 110) (j := 108) (.int .i64 0) (by decide)).trans g108
      have f106 := (eval_far a3 (i := 110) (j := 106) (.int .i64 0) (by decide)).trans f106
      have f107 := (eval_far a3 (i := 110) (j := 107) (.int .i64 0) (by decide)).trans f107
      have g94 := (eval_far a3 (i := 110) (j := 94) (.int .i64 0) (by decide)).trans g94
      have g109 := (eval_far a3 (i := 110) (j := 109) (.int .i64 0) (by decide)).trans g109
      generalize a3.put (some 110) (.int .i64 0) = a4 at *
      clear ho hg hop hd hfr
      exact P3F _ _ _ X xp A4 g109 g110 (kS hS b1) hS.size hfr0 hlk
    · obtain rfl := List.mem_singleton.1 hi
      obtain ⟨o8, ho, hg, hop, hd⟩ := isOpG_out q17
      refine wpOp_valG ho (wantedN hg) (run_allocR _ _ hop u) ⟨kS hS (kA _), ?_⟩
      rw [hd, ← LR_snoc]
      exact P2T _ _ u.heap.size sl (hA.put (by decide) _) (by rw [eval_far _ _ (by decide)]; exact f106) (by rw [eval_far _ _ (by decide)]; exact f107) (eval_sameA hA _ (by omega)) (rl_new u _ _) hS.size (by simp) (kS hS (kA _)) (fun u3 h3 => C u3 ((kA _).trans (h3.mono (by simp))))
  have P1T : ∀ (a : Act) (u : World) (b20 : Nat), Ag js_reg17 a0 a → a.eval (.tmp 105) = .agg #[.string nl, .string n0, .int .i8 0, .int .i64 0, .string ⟨#[]⟩] → a.eval (.tmp 107) = rv → a.eval (.tmp 11) = .pointer (some ⟨b20, 0, none⟩) → RL u b20 25 [.string ⟨#[]⟩, .slice none 0 0, .slice none 0 0] → w5.heap.size ≤ b20 → b20 < u.heap.size → Below w5.heap.size w5 u → wpAnyH Tryz.prog .any ops Q (fun u => Below w5.heap.size w5 u) 7 (LR 20 [0, 1, 2, 3, 4, 5, 6, 7, 8, 12, 9, 10, 17]) a u := by
    intro a u b20  hA f105 f107 h20 hR hb hbl hS
    refine wpAnyH_all r1T (by simp) ?_
    intro i hi
    obtain rfl := List.mem_singleton.1 hi
    obtain ⟨o11, ho, hg, hop, hd⟩ := isOpG_out q11
    refine wpOp_valG ho (wantedN hg) (run_buildSP _ _ hop u f105) ⟨kS hS (kA _), ?_⟩
    have b1 := kA (u := u) (.cells #[.string nl, .string n0, .int .i8 0, .int .i64 0, .string ⟨#[]⟩] 49)
    rw [hd, ← LR_snoc]
    have A1 := hA.put (i := 106) (by decide) (.slice (some ⟨u.heap.size, 0, none⟩) 1 1)
    have g106 := eval_sameA hA (.slice (some ⟨u.heap.size, 0, none⟩) 1 1) (i := 106) (by omega)
    have f105 := (eval_far a (i := 106) (j := 105) (.slice (some ⟨u.heap.size, 0, none⟩) 1 1) (by decide)).trans f105
    have f107 := (eval_far a (i := 106) (j := 107) (.slice (some ⟨u.heap.size, 0, none⟩) 1 1) (by decide)).trans f107
    have h20 := (eval_far a (i := 106) (j := 11) (.slice (some ⟨u.heap.size, 0, none⟩) 1 1) (by decide)).trans h20
    generalize a.put (some 106) (.slice (some ⟨u.heap.size, 0, none⟩) 1 1) = a1 at *
    clear ho hg hop hd
    exact P2T _ _ b20 _ A1 g106 f107 h20 (hR.below b1) hb (Nat.lt_of_lt_of_le hbl b1.size) (kS hS b1) (C2 u hS)
  have P1F : ∀ (a : Act) (u : World), Ag js_reg17 a0 a → a.eval (.tmp 105) = .agg #[.string nl, .string n0, .int .i8 0, .int .i64 0, .string ⟨#[]⟩] → a.eval (.tmp 107) = rv → Below w5.heap.size w5 u → wpAnyH Tryz.prog .any ops Q (fun u => Below w5.heap.size w5 u) 8 (LR 20 [0, 1, 2, 3, 4, 5, 6, 7, 8, 12, 9, 10]) a u := by
    intro a u  hA f105 f107 hS
    refine wpAnyH_all r1F (by simp) ?_
    intro i hi
    rcases List.mem_cons.1 hi with rfl | hi
    · obtain ⟨o11, ho, hg, hop, hd⟩ := isOpG_out q11
      refine wpOp_valG ho (wantedN hg) (run_buildSP _ _ hop u f105) ⟨kS hS (kA _), ?_⟩
      have b1 := kA (u := u) (.cells #[.string nl, .string n0, .int .i8 0, .int .i64 0, .string ⟨#[]⟩] 49)
      rw [hd, ← LR_snoc]
      have A1 := hA.put (i := 106) (by decide) (.slice (some ⟨u.heap.size, 0, none⟩) 1 1)
      have g106 := eval_sameA hA (.slice (some ⟨u.heap.size, 0, none⟩) 1 1) (i := 106) (by omega)
      have f105 := (eval_far a (i := 106) (j := 105) (.slice (some ⟨u.heap.size, 0, none⟩) 1 1) (by decide)).trans f105
      have f107 := (eval_far a (i := 106) (j := 107) (.slice (some ⟨u.heap.size, 0, none⟩) 1 1) (by decide)).trans f107
      generalize a.put (some 106) (.slice (some ⟨u.heap.size, 0, none⟩) 1 1) = a1 at *
      clear ho hg hop hd
      exact P2F _ _ _ A1 g106 f107 (kS hS b1) (C2 u hS)
    · obtain rfl := List.mem_singleton.1 hi
      obtain ⟨o8, ho, hg, hop, hd⟩ := isOpG_out q17
      refine wpOp_valG ho (wantedN hg) (run_allocR _ _ hop u) ⟨kS hS (kA _), ?_⟩
      rw [hd, ← LR_snoc]
      exact P1T _ _ u.heap.size  (hA.put (by decide) _) (by rw [eval_far _ _ (by decide)]; exact f105) (by rw [eval_far _ _ (by decide)]; exact f107) (eval_sameA hA _ (by omega)) (rl_new u _ _) hS.size (by simp) (kS hS (kA _))
  have P0T : ∀ (a : Act) (u : World) (b20 : Nat), Ag js_reg17 a0 a → a.eval (.tmp 100) = .string nl → a.eval (.tmp 103) = .string n0 → a.eval (.tmp 107) = rv → a.eval (.tmp 11) = .pointer (some ⟨b20, 0, none⟩) → RL u b20 25 [.string ⟨#[]⟩, .slice none 0 0, .slice none 0 0] → w5.heap.size ≤ b20 → b20 < u.heap.size → Below w5.heap.size w5 u → wpAnyH Tryz.prog .any ops Q (fun u => Below w5.heap.size w5 u) 9 (LR 20 [0, 1, 2, 3, 4, 5, 6, 7, 8, 12, 17]) a u := by
    intro a u b20  hA f100 f103 f107 h20 hR hb hbl hS
    refine wpAnyH_all r0T (by simp) ?_
    intro i hi
    obtain rfl := List.mem_singleton.1 hi
    obtain ⟨o9, ho, hg, hop, hd⟩ := isOpG_out q9
    refine wpOp_callG ho (wantedN hg) (run_callV 19 Tryz.func19 (by kernel_rfl) (by kernel_rfl) #[.tmp 103] _ hop #[.string n0] (by simp only [List.map_toArray, List.map_cons, List.map_nil, f103])) ?_
    refine (C1 u hS).mono ?_
    rintro e u1 ⟨rfl, b1⟩
    refine ⟨_, rfl, kS hS b1, ?_⟩
    rw [hd, ← LR_snoc]
    have A1 := hA.put (i := 104) (by decide) (.agg #[.string n0, .int .i8 0, .int .i64 0, .string ⟨#[]⟩])
    have g104 := eval_sameA hA (.agg #[.string n0, .int .i8 0, .int .i64 0, .string ⟨#[]⟩]) (i := 104) (by omega)
    have f100 := (eval_far a (i := 104) (j := 100) (.agg #[.string n0, .int .i8 0, .int .i64 0, .string ⟨#[]⟩]) (by decide)).trans f100
    have f103 := (eval_far a (i := 104) (j := 103) (.agg #[.string n0, .int .i8 0, .int .i64 0, .string ⟨#[]⟩]) (by decide)).trans f103
    have f107 := (eval_far a (i := 104) (j := 107) (.agg #[.string n0, .int .i8 0, .int .i64 0, .string ⟨#[]⟩]) (by decide)).trans f107
    have h20 := (eval_far a (i := 104) (j := 11) (.agg #[.string n0, .int .i8 0, .int .i64 0, .string ⟨#[]⟩]) (by decide)).trans h20
    generalize a.put (some 104) (.agg #[.string n0, .int .i8 0, .int .i64 0, .string ⟨#[]⟩]) = a1 at *
    clear ho hg hop hd
    obtain ⟨o10, ho, hg, hop, hd⟩ := isOpG_out q10
    have hfr := hall ([0, 1, 2, 3, 4, 5, 6, 7, 8, 12, 17, 9], 10) (by simp)
    refine wpAnyH_take (listed := LR 20 [0, 1, 2, 3, 4, 5, 6, 7, 8, 12, 17, 9]) (v := .agg #[.string nl, .string n0, .int .i8 0, .int .i64 0, .string ⟨#[]⟩]) ho hs hfr.1 hfr.2 (hQ _ _) (Or.inl ⟨wantedN hg, fun w' _ => run_buildP _ _ hop w' f100 g104⟩) (kS hS b1) ?_
    rw [hd, ← LR_snoc]
    have A2 := A1.put (i := 105) (by decide) (.agg #[.string nl, .string n0, .int .i8 0, .int .i64 0, .string ⟨#[]⟩])
    have g105 := eval_sameA A1 (.agg #[.string nl, .string n0, .int .i8 0, .int .i64 0, .string ⟨#[]⟩]) (i := 105) (by omega)
    have g104 := (eval_far a1 (i := 105) (j := 104) (.agg #[.string nl, .string n0, .int .i8 0, .int .i64 0, .string ⟨#[]⟩]) (by decide)).trans g104
    have f100 := (eval_far a1 (i := 105) (j := 100) (.agg #[.string nl, .string n0, .int .i8 0, .int .i64 0, .string ⟨#[]⟩]) (by decide)).trans f100
    have f103 := (eval_far a1 (i := 105) (j := 103) (.agg #[.string nl, .string n0, .int .i8 0, .int .i64 0, .string ⟨#[]⟩]) (by decide)).trans f103
    have f107 := (eval_far a1 (i := 105) (j := 107) (.agg #[.string nl, .string n0, .int .i8 0, .int .i64 0, .string ⟨#[]⟩]) (by decide)).trans f107
    have h20 := (eval_far a1 (i := 105) (j := 11) (.agg #[.string nl, .string n0, .int .i8 0, .int .i64 0, .string ⟨#[]⟩]) (by decide)).trans h20
    generalize a1.put (some 105) (.agg #[.string nl, .string n0, .int .i8 0, .int .i64 0, .string ⟨#[]⟩]) = a2 at *
    clear ho hg hop hd hfr
    exact P1T _ _ b20  A2 g105 f107 h20 (hR.below b1) hb (Nat.lt_of_lt_of_le hbl b1.size) (kS hS b1) 
  have P0F : ∀ (a : Act) (u : World), Ag js_reg17 a0 a → a.eval (.tmp 100) = .string nl → a.eval (.tmp 103) = .string n0 → a.eval (.tmp 107) = rv → Below w5.heap.size w5 u → wpAnyH Tryz.prog .any ops Q (fun u => Below w5.heap.size w5 u) 10 (LR 20 [0, 1, 2, 3, 4, 5, 6, 7, 8, 12]) a u := by
    intro a u  hA f100 f103 f107 hS
    refine wpAnyH_all r0F (by simp) ?_
    intro i hi
    rcases List.mem_cons.1 hi with rfl | hi
    · obtain ⟨o9, ho, hg, hop, hd⟩ := isOpG_out q9
      refine wpOp_callG ho (wantedN hg) (run_callV 19 Tryz.func19 (by kernel_rfl) (by kernel_rfl) #[.tmp 103] _ hop #[.string n0] (by simp only [List.map_toArray, List.map_cons, List.map_nil, f103])) ?_
      refine (C1 u hS).mono ?_
      rintro e u1 ⟨rfl, b1⟩
      refine ⟨_, rfl, kS hS b1, ?_⟩
      rw [hd, ← LR_snoc]
      have A1 := hA.put (i := 104) (by decide) (.agg #[.string n0, .int .i8 0, .int .i64 0, .string ⟨#[]⟩])
      have g104 := eval_sameA hA (.agg #[.string n0, .int .i8 0, .int .i64 0, .string ⟨#[]⟩]) (i := 104) (by omega)
      have f100 := (eval_far a (i := 104) (j := 100) (.agg #[.string n0, .int .i8 0, .int .i64 0, .string ⟨#[]⟩]) (by decide)).trans f100
      have f103 := (eval_far a (i := 104) (j := 103) (.agg #[.string n0, .int .i8 0, .int .i64 0, .string ⟨#[]⟩]) (by decide)).trans f103
      have f107 := (eval_far a (i := 104) (j := 107) (.agg #[.string n0, .int .i8 0, .int .i64 0, .string ⟨#[]⟩]) (by decide)).trans f107
      generalize a.put (some 104) (.agg #[.string n0, .int .i8 0, .int .i64 0, .string ⟨#[]⟩]) = a1 at *
      clear ho hg hop hd
      obtain ⟨o10, ho, hg, hop, hd⟩ := isOpG_out q10
      have hfr := hall ([0, 1, 2, 3, 4, 5, 6, 7, 8, 12, 9], 10) (by simp)
      refine wpAnyH_take (listed := LR 20 [0, 1, 2, 3, 4, 5, 6, 7, 8, 12, 9]) (v := .agg #[.string nl, .string n0, .int .i8 0, .int .i64 0, .string ⟨#[]⟩]) ho hs hfr.1 hfr.2 (hQ _ _) (Or.inl ⟨wantedN hg, fun w' _ => run_buildP _ _ hop w' f100 g104⟩) (kS hS b1) ?_
      rw [hd, ← LR_snoc]
      have A2 := A1.put (i := 105) (by decide) (.agg #[.string nl, .string n0, .int .i8 0, .int .i64 0, .string ⟨#[]⟩])
      have g105 := eval_sameA A1 (.agg #[.string nl, .string n0, .int .i8 0, .int .i64 0, .string ⟨#[]⟩]) (i := 105) (by omega)
      have g104 := (eval_far a1 (i := 105) (j := 104) (.agg #[.string nl, .string n0, .int .i8 0, .int .i64 0, .string ⟨#[]⟩]) (by decide)).trans g104
      have f100 := (eval_far a1 (i := 105) (j := 100) (.agg #[.string nl, .string n0, .int .i8 0, .int .i64 0, .string ⟨#[]⟩]) (by decide)).trans f100
      have f103 := (eval_far a1 (i := 105) (j := 103) (.agg #[.string nl, .string n0, .int .i8 0, .int .i64 0, .string ⟨#[]⟩]) (by decide)).trans f103
      have f107 := (eval_far a1 (i := 105) (j := 107) (.agg #[.string nl, .string n0, .int .i8 0, .int .i64 0, .string ⟨#[]⟩]) (by decide)).trans f107
      generalize a1.put (some 105) (.agg #[.string nl, .string n0, .int .i8 0, .int .i64 0, .string ⟨#[]⟩]) = a2 at *
      clear ho hg hop hd hfr
      exact P1F _ _  A2 g105 f107 (kS hS b1) 
    · obtain rfl := List.mem_singleton.1 hi
      obtain ⟨o8, ho, hg, hop, hd⟩ := isOpG_out q17
      refine wpOp_valG ho (wantedN hg) (run_allocR _ _ hop u) ⟨kS hS (kA _), ?_⟩
      rw [hd, ← LR_snoc]
      exact P0T _ _ u.heap.size  (hA.put (by decide) _) (by rw [eval_far _ _ (by decide)]; exact f100) (by rw [eval_far _ _ (by decide)]; exact f103) (by rw [eval_far _ _ (by decide)]; exact f107) (eval_sameA hA _ (by omega)) (rl_new u _ _) hS.size (by simp) (kS hS (kA _))
  have hS0 : Below w5.heap.size w5 w5.drew := (Below.refl _ _).drew
  have A0 := Ag.refl js_reg17 a0
  obtain ⟨o0, ho, hg, hop, hd⟩ := isOpG_out q0
  have hfr := hall ([], 0) (by simp)
  refine wpAnyH_take (listed := LR 20 []) (v := vv) ho hs hfr.1 hfr.2 (hQ _ _) (Or.inl ⟨wantedN hg, fun w' hS => run_move _ _ hop w' e10⟩) hS0 ?_
  rw [hd, ← LR_snoc]
  have A1 := A0.put (i := 95) (by decide) (vv)
  have g95 := eval_sameA A0 (vv) (i := 95) (by omega)
  have e2 := (eval_far a0 (i := 95) (j := 2) (vv) (by decide)).trans e2
  have e10 := (eval_far a0 (i := 95) (j := 10) (vv) (by decide)).trans e10
  generalize a0.put (some 95) (vv) = c1 at *
  clear ho hg hop hd hfr
  obtain ⟨o1, ho, hg, hop, hd⟩ := isOpG_out q1
  have hfr := hall ([0], 1) (by simp)
  refine wpAnyH_take (listed := LR 20 [0]) (v := vv) ho hs hfr.1 hfr.2 (hQ _ _) (Or.inl ⟨wantedN hg, fun w' hS => run_move _ _ hop w' e10⟩) hS0 ?_
  rw [hd, ← LR_snoc]
  have A2 := A1.put (i := 96) (by decide) (vv)
  have g96 := eval_sameA A1 (vv) (i := 96) (by omega)
  have e2 := (eval_far c1 (i := 96) (j := 2) (vv) (by decide)).trans e2
  have e10 := (eval_far c1 (i := 96) (j := 10) (vv) (by decide)).trans e10
  have g95 := (eval_far c1 (i := 96) (j := 95) (vv) (by decide)).trans g95
  generalize c1.put (some 96) (vv) = c2 at *
  clear ho hg hop hd hfr
  obtain ⟨o2, ho, hg, hop, hd⟩ := isOpG_out q2
  have hfr := hall ([0, 1], 2) (by simp)
  refine wpAnyH_take (listed := LR 20 [0, 1]) (v := .int .i64 (nn : Int)) ho hs hfr.1 hfr.2 (hQ _ _) (Or.inl ⟨wantedN hg, fun w' hS => run_lenS _ _ hop w' g96 hv⟩) hS0 ?_
  rw [hd, ← LR_snoc]
  have A3 := A2.put (i := 97) (by decide) (.int .i64 (nn : Int))
  have g97 := eval_sameA A2 (.int .i64 (nn : Int)) (i := 97) (by omega)
  have e2 := (eval_far c2 (i := 97) (j := 2) (.int .i64 (nn : Int)) (by decide)).trans e2
  have e10 := (eval_far c2 (i := 97) (j := 10) (.int .i64 (nn : Int)) (by decide)).trans e10
  have g95 := (eval_far c2 (i := 97) (j := 95) (.int .i64 (nn : Int)) (by decide)).trans g95
  have g96 := (eval_far c2 (i := 97) (j := 96) (.int .i64 (nn : Int)) (by decide)).trans g96
  generalize c2.put (some 97) (.int .i64 (nn : Int)) = c3 at *
  clear ho hg hop hd hfr
  obtain ⟨o3, ho, hg, hop, hd⟩ := isOpG_out q3
  have hfr := hall ([0, 1, 2], 3) (by simp)
  refine wpAnyH_take (listed := LR 20 [0, 1, 2]) (v := .int .i64 ((nn : Int) - 1)) ho hs hfr.1 hfr.2 (hQ _ _) (Or.inl ⟨wantedN hg, fun w' hS => run_binV _ _ hop w' g97 rfl (by first | rfl | go_simp) (hsub w')⟩) hS0 ?_
  rw [hd, ← LR_snoc]
  have A4 := A3.put (i := 98) (by decide) (.int .i64 ((nn : Int) - 1))
  have g98 := eval_sameA A3 (.int .i64 ((nn : Int) - 1)) (i := 98) (by omega)
  have e2 := (eval_far c3 (i := 98) (j := 2) (.int .i64 ((nn : Int) - 1)) (by decide)).trans e2
  have e10 := (eval_far c3 (i := 98) (j := 10) (.int .i64 ((nn : Int) - 1)) (by decide)).trans e10
  have g95 := (eval_far c3 (i := 98) (j := 95) (.int .i64 ((nn : Int) - 1)) (by decide)).trans g95
  have g96 := (eval_far c3 (i := 98) (j := 96) (.int .i64 ((nn : Int) - 1)) (by decide)).trans g96
  have g97 := (eval_far c3 (i := 98) (j := 97) (.int .i64 ((nn : Int) - 1)) (by decide)).trans g97
  generalize c3.put (some 98) (.int .i64 ((nn : Int) - 1)) = c4 at *
  clear ho hg hop hd hfr
  obtain ⟨o4, ho, hg, hop, hd⟩ := isOpG_out q4
  have hfr := hall ([0, 1, 2, 3], 4) (by simp)
  refine wpAnyH_take (listed := LR 20 [0, 1, 2, 3]) (v := .pointer (some ⟨g, off + (nn - 1), none⟩)) ho hs hfr.1 hfr.2 (hQ _ _) (Or.inl ⟨wantedN hg, fun w' hS => hix w' g95 g98 hop⟩) hS0 ?_
  rw [hd, ← LR_snoc]
  have A5 := A4.put (i := 99) (by decide) (.pointer (some ⟨g, off + (nn - 1), none⟩))
  have g99 := eval_sameA A4 (.pointer (some ⟨g, off + (nn - 1), none⟩)) (i := 99) (by omega)
  have e2 := (eval_far c4 (i := 99) (j := 2) (.pointer (some ⟨g, off + (nn - 1), none⟩)) (by decide)).trans e2
  have e10 := (eval_far c4 (i := 99) (j := 10) (.pointer (some ⟨g, off + (nn - 1), none⟩)) (by decide)).trans e10
  have g95 := (eval_far c4 (i := 99) (j := 95) (.pointer (some ⟨g, off + (nn - 1), none⟩)) (by decide)).trans g95
  have g96 := (eval_far c4 (i := 99) (j := 96) (.pointer (some ⟨g, off + (nn - 1), none⟩)) (by decide)).trans g96
  have g97 := (eval_far c4 (i := 99) (j := 97) (.pointer (some ⟨g, off + (nn - 1), none⟩)) (by decide)).trans g97
  have g98 := (eval_far c4 (i := 99) (j := 98) (.pointer (some ⟨g, off + (nn - 1), none⟩)) (by decide)).trans g98
  generalize c4.put (some 99) (.pointer (some ⟨g, off + (nn - 1), none⟩)) = c5 at *
  clear ho hg hop hd hfr
  obtain ⟨o5, ho, hg, hop, hd⟩ := isOpG_out q5
  have hfr := hall ([0, 1, 2, 3, 4], 5) (by simp)
  refine wpAnyH_take (listed := LR 20 [0, 1, 2, 3, 4]) (v := .string nl) ho hs hfr.1 hfr.2 (hQ _ _) (Or.inl ⟨wantedN hg, fun w' hS => run_loadG _ _ hop w' g99 (LL w' hS)⟩) hS0 ?_
  rw [hd, ← LR_snoc]
  have A6 := A5.put (i := 100) (by decide) (.string nl)
  have g100 := eval_sameA A5 (.string nl) (i := 100) (by omega)
  have e2 := (eval_far c5 (i := 100) (j := 2) (.string nl) (by decide)).trans e2
  have e10 := (eval_far c5 (i := 100) (j := 10) (.string nl) (by decide)).trans e10
  have g95 := (eval_far c5 (i := 100) (j := 95) (.string nl) (by decide)).trans g95
  have g96 := (eval_far c5 (i := 100) (j := 96) (.string nl) (by decide)).trans g96
  have g97 := (eval_far c5 (i := 100) (j := 97) (.string nl) (by decide)).trans g97
  have g98 := (eval_far c5 (i := 100) (j := 98) (.string nl) (by decide)).trans g98
  have g99 := (eval_far c5 (i := 100) (j := 99) (.string nl) (by decide)).trans g99
  generalize c5.put (some 100) (.string nl) = c6 at *
  clear ho hg hop hd hfr
  obtain ⟨o6, ho, hg, hop, hd⟩ := isOpG_out q6
  have hfr := hall ([0, 1, 2, 3, 4, 5], 6) (by simp)
  refine wpAnyH_take (listed := LR 20 [0, 1, 2, 3, 4, 5]) (v := vv) ho hs hfr.1 hfr.2 (hQ _ _) (Or.inl ⟨wantedN hg, fun w' hS => run_move _ _ hop w' e10⟩) hS0 ?_
  rw [hd, ← LR_snoc]
  have A7 := A6.put (i := 101) (by decide) (vv)
  have g101 := eval_sameA A6 (vv) (i := 101) (by omega)
  have e2 := (eval_far c6 (i := 101) (j := 2) (vv) (by decide)).trans e2
  have e10 := (eval_far c6 (i := 101) (j := 10) (vv) (by decide)).trans e10
  have g95 := (eval_far c6 (i := 101) (j := 95) (vv) (by decide)).trans g95
  have g96 := (eval_far c6 (i := 101) (j := 96) (vv) (by decide)).trans g96
  have g97 := (eval_far c6 (i := 101) (j := 97) (vv) (by decide)).trans g97
  have g98 := (eval_far c6 (i := 101) (j := 98) (vv) (by decide)).trans g98
  have g99 := (eval_far c6 (i := 101) (j := 99) (vv) (by decide)).trans g99
  have g100 := (eval_far c6 (i := 101) (j := 100) (vv) (by decide)).trans g100
  generalize c6.put (some 101) (vv) = c7 at *
  clear ho hg hop hd hfr
  obtain ⟨o7, ho, hg, hop, hd⟩ := isOpG_out q7
  have hfr := hall ([0, 1, 2, 3, 4, 5, 6], 7) (by simp)
  refine wpAnyH_take (listed := LR 20 [0, 1, 2, 3, 4, 5, 6]) (v := .pointer (some ⟨g, off, none⟩)) ho hs hfr.1 hfr.2 (hQ _ _) (Or.inl ⟨wantedN hg, fun w' hS => hiz w' g101 hop (fun _ => rfl)⟩) hS0 ?_
  rw [hd, ← LR_snoc]
  have A8 := A7.put (i := 102) (by decide) (.pointer (some ⟨g, off, none⟩))
  have g102 := eval_sameA A7 (.pointer (some ⟨g, off, none⟩)) (i := 102) (by omega)
  have e2 := (eval_far c7 (i := 102) (j := 2) (.pointer (some ⟨g, off, none⟩)) (by decide)).trans e2
  have e10 := (eval_far c7 (i := 102) (j := 10) (.pointer (some ⟨g, off, none⟩)) (by decide)).trans e10
  have g95 := (eval_far c7 (i := 102) (j := 95) (.pointer (some ⟨g, off, none⟩)) (by decide)).trans g95
  have g96 := (eval_far c7 (i := 102) (j := 96) (.pointer (some ⟨g, off, none⟩)) (by decide)).trans g96
  have g97 := (eval_far c7 (i := 102) (j := 97) (.pointer (some ⟨g, off, none⟩)) (by decide)).trans g97
  have g98 := (eval_far c7 (i := 102) (j := 98) (.pointer (some ⟨g, off, none⟩)) (by decide)).trans g98
  have g99 := (eval_far c7 (i := 102) (j := 99) (.pointer (some ⟨g, off, none⟩)) (by decide)).trans g99
  have g100 := (eval_far c7 (i := 102) (j := 100) (.pointer (some ⟨g, off, none⟩)) (by decide)).trans g100
  have g101 := (eval_far c7 (i := 102) (j := 101) (.pointer (some ⟨g, off, none⟩)) (by decide)).trans g101
  generalize c7.put (some 102) (.pointer (some ⟨g, off, none⟩)) = c8 at *
  clear ho hg hop hd hfr
  obtain ⟨o8, ho, hg, hop, hd⟩ := isOpG_out q8
  have hfr := hall ([0, 1, 2, 3, 4, 5, 6, 7], 8) (by simp)
  refine wpAnyH_take (listed := LR 20 [0, 1, 2, 3, 4, 5, 6, 7]) (v := .string n0) ho hs hfr.1 hfr.2 (hQ _ _) (Or.inl ⟨wantedN hg, fun w' hS => run_loadG _ _ hop w' g102 (L0 w' hS)⟩) hS0 ?_
  rw [hd, ← LR_snoc]
  have A9 := A8.put (i := 103) (by decide) (.string n0)
  have g103 := eval_sameA A8 (.string n0) (i := 103) (by omega)
  have e2 := (eval_far c8 (i := 103) (j := 2) (.string n0) (by decide)).trans e2
  have e10 := (eval_far c8 (i := 103) (j := 10) (.string n0) (by decide)).trans e10
  have g95 := (eval_far c8 (i := 103) (j := 95) (.string n0) (by decide)).trans g95
  have g96 := (eval_far c8 (i := 103) (j := 96) (.string n0) (by decide)).trans g96
  have g97 := (eval_far c8 (i := 103) (j := 97) (.string n0) (by decide)).trans g97
  have g98 := (eval_far c8 (i := 103) (j := 98) (.string n0) (by decide)).trans g98
  have g99 := (eval_far c8 (i := 103) (j := 99) (.string n0) (by decide)).trans g99
  have g100 := (eval_far c8 (i := 103) (j := 100) (.string n0) (by decide)).trans g100
  have g101 := (eval_far c8 (i := 103) (j := 101) (.string n0) (by decide)).trans g101
  have g102 := (eval_far c8 (i := 103) (j := 102) (.string n0) (by decide)).trans g102
  generalize c8.put (some 103) (.string n0) = c9 at *
  clear ho hg hop hd hfr
  obtain ⟨o12, ho, hg, hop, hd⟩ := isOpG_out q12
  have hfr := hall ([0, 1, 2, 3, 4, 5, 6, 7, 8], 12) (by simp)
  refine wpAnyH_take (listed := LR 20 [0, 1, 2, 3, 4, 5, 6, 7, 8]) (v := rv) ho hs hfr.1 hfr.2 (hQ _ _) (Or.inl ⟨wantedN hg, fun w' hS => run_loadG _ _ hop w' e2 (LE w' hS)⟩) hS0 ?_
  rw [hd, ← LR_snoc]
  have A10 := A9.put (i := 107) (by decide) (rv)
  have g107 := eval_sameA A9 (rv) (i := 107) (by omega)
  have e2 := (eval_far c9 (i := 107) (j := 2) (rv) (by decide)).trans e2
  have e10 := (eval_far c9 (i := 107) (j := 10) (rv) (by decide)).trans e10
  have g95 := (eval_far c9 (i := 107) (j := 95) (rv) (by decide)).trans g95
  have g96 := (eval_far c9 (i := 107) (j := 96) (rv) (by decide)).trans g96
  have g97 := (eval_far c9 (i := 107) (j := 97) (rv) (by decide)).trans g97
  have g98 := (eval_far c9 (i := 107) (j := 98) (rv) (by decide)).trans g98
  have g99 := (eval_far c9 (i := 107) (j := 99) (rv) (by decide)).trans g99
  have g100 := (eval_far c9 (i := 107) (j := 100) (rv) (by decide)).trans g100
  have g101 := (eval_far c9 (i := 107) (j := 101) (rv) (by decide)).trans g101
  have g102 := (eval_far c9 (i := 107) (j := 102) (rv) (by decide)).trans g102
  have g103 := (eval_far c9 (i := 107) (j := 103) (rv) (by decide)).trans g103
  generalize c9.put (some 107) (rv) = c10 at *
  clear ho hg hop hd hfr
  exact P0F _ _  A10 g100 g103 g107 hS0
end Go.Proofs.YtgplipfebnigiaaGreatDoor
