import Derived.Test.YtlnioaokpmeioaaGreatDoorG50
section
namespace Go.Proofs.YtlnioaokpmeioaaGreatDoor
open Go.RowKit Go.Maps
set_option linter.unusedVariables false
set_option linter.unusedSimpArgs false

theorem foldl_sets (b : Array Value) (i : Nat) : ∀ (js : List Nat) (t : Array Value), t.size = b.size → (js.foldl (fun t j => t.setIfInBounds j (b.getD j undef)) t)[i]? = if i ∈ js then b[i]? else t[i]?
  | [], t, _ => by simp
  | j :: js, t, h => by
    rw [List.foldl_cons, foldl_sets b i js _ (by simpa using h)]
    by_cases h1 : i ∈ js
    · simp [h1]
    · rw [if_neg h1]
      by_cases h2 : i = j
      · subst h2
        rw [if_pos List.mem_cons_self]
        by_cases h3 : i < t.size
        · rw [Array.getElem?_setIfInBounds_self_of_lt h3, Array.getD_eq_getD_getElem?, Array.getElem?_eq_getElem (by omega)]
          rfl
        · rw [Array.getElem?_eq_none (by simp; omega), Array.getElem?_eq_none (by omega)]
      · rw [if_neg (by simp [h1, h2]), Array.getElem?_setIfInBounds_ne (Ne.symm h2)]
/-- an act that holds what another holds, but for some slots -/
def Ag (js : List Nat) (a0 a : Act) : Prop := a.tmps.size = a0.tmps.size ∧ a.defers = a0.defers ∧ ∀ i, i ∉ js → a.tmps[i]? = a0.tmps[i]?
theorem Ag.refl (js : List Nat) (a : Act) : Ag js a a := ⟨rfl, rfl, fun _ _ => rfl⟩
theorem Ag.put {js : List Nat} {a0 a : Act} (h : Ag js a0 a) {i : Nat} (hi : i ∈ js) (v : Value) : Ag js a0 (a.put (some i) v) :=
  ⟨by simpa [Act.put] using h.1, h.2.1, fun k hk => by
    rw [show (a.put (some i) v).tmps = a.tmps.setIfInBounds i v from rfl, Array.getElem?_setIfInBounds_ne (by rintro rfl; exact hk hi)]
    exact h.2.2 k hk⟩
theorem Ag.put0 {js : List Nat} {a0 a : Act} (h : Ag js a0 a) (v : Value) : Ag js a0 (a.put none v) := h
theorem Ag.eval {js : List Nat} {a0 a : Act} (h : Ag js a0 a) {i : Nat} (hi : i ∉ js) : a.eval (.tmp i) = a0.eval (.tmp i) := by
  have := h.2.2 i hi
  simp only [Act.eval]
  simp [this]
theorem Ag.form {js : List Nat} {a0 a : Act} (h : Ag js a0 a) : a = { a0 with tmps := js.foldl (fun t j => t.setIfInBounds j (a.tmps.getD j undef)) a0.tmps } := by
  obtain ⟨h1, h2, h3⟩ := h
  cases a with
  | mk t ds =>
    simp only at h1 h2 h3 ⊢
    subst h2
    congr 1
    apply Array.ext_getElem?
    intro i
    rw [foldl_sets t i js _ h1.symm]
    by_cases hi : i ∈ js
    · rw [if_pos hi]
    · rw [if_neg hi, h3 i hi]
theorem wpOp_skipG {P : Program} {ops : Array Oper} {Q : Exit → Act → World → Prop} {K : Act → World → Prop} {i : Nat} {a : Act} {w w' : World} {o : Oper} (hi : ops[i]? = some o) (hw : Region.wanted o (yielded ops a.tmps) = true) (hrun : (execOp a.eval o).run P w = .ok .skip w') (hK : K (a.put o.dst undef) w') : wpOp P ops Q i K a w := by
  unfold wpOp
  rw [hi]
  simp only [hw, if_true]
  refine Or.inl ?_
  unfold Oper.wp
  rw [hrun]
  exact hK
theorem run_extrV (ev : Operand → Value) (o : Oper) {x : Operand} (hop : o.op = .extract x 0) (w : World) {u v : Value} (hx : ev x = .tuple #[u, v]) : (execOp ev o).run Tryz.prog w = .ok (.value u) w := by
  simp only [execOp, hop, hx]
  go_simp
theorem run_extrW (ev : Operand → Value) (o : Oper) {x : Operand} (hop : o.op = .extract x 1) (w : World) {u v : Value} (hx : ev x = .tuple #[u, v]) : (execOp ev o).run Tryz.prog w = .ok (.value v) w := by
  simp only [execOp, hop, hx]
  go_simp
theorem run_loadG (ev : Operand → Value) (o : Oper) {ty : TypeId} {x : Operand} (hop : o.op = .load ty x) (w : World) {a : Addr} {v : Value} (hx : ev x = .pointer (some a)) (hl : (loadVar ty a).run Tryz.prog w = .ok v w) : (execOp ev o).run Tryz.prog w = .ok (.value v) w := by
  simp only [execOp, hop, hx]
  simp [Instr.loadAt, Instr.sureAddr, hl, Result.andThen]
theorem eval_sameA {js : List Nat} {a0 a : Act} (h : Ag js a0 a) {i : Nat} (v : Value) (hi : i < a0.tmps.size) : (a.put (some i) v).eval (.tmp i) = v := eval_same a v (by rw [h.1]; exact hi)
def rf3 (w : World) (b : Nat) (p1 p2 p3 : Int) : World := ((w.setCell ⟨b, 0, none⟩ (.int .i8 p1)).setCell ⟨b, 1, none⟩ (.int .i64 p2)).setCell ⟨b, 2, none⟩ (.int .i64 p3)
theorem rf3_below {B : Nat} {w0 w : World} (h : Below B w0 w) {g : Nat} (hg : B ≤ g) (p1 p2 p3 : Int) : Below B w0 (rf3 w g p1 p2 p3) :=
  ((h.setCell (p := ⟨g, 0, none⟩) hg _).setCell (p := ⟨g, 1, none⟩) hg _).setCell (p := ⟨g, 2, none⟩) hg _
theorem rf3_rl {w : World} {g : Nat} {t : TypeId} {a b c : Value} (h : RL w g t [a, b, c]) (p1 p2 p3 : Int) : RL (rf3 w g p1 p2 p3) g t [.int .i8 p1, .int .i64 p2, .int .i64 p3] := ((h.set 0 _).set 1 _).set 2 _
theorem run_allocRf (ev : Operand → Value) (o : Oper) (hop : o.op = .alloc 38) (w : World) : (execOp ev o).run Tryz.prog w = .ok (.value (.pointer (some ⟨w.heap.size, 0, none⟩))) (w.alloc (.cells #[.int .i8 0, .int .i64 0, .int .i64 0] 38)) := by
  simp only [execOp, hop]
  go_simp
theorem run_storeRf (ev : Operand → Value) (o : Oper) {x y : Operand} (hop : o.op = .store 38 x y) (w : World) {b : Nat} {p1 p2 p3 : Int} (hx : ev x = .pointer (some ⟨b, 0, none⟩)) (hy : ev y = .agg #[.int .i8 p1, .int .i64 p2, .int .i64 p3]) (hr : RL w b 38 [.int .i8 0, .int .i64 0, .int .i64 0]) :
    (execOp ev o).run Tryz.prog w = .ok .skip (rf3 w b p1 p2 p3) := by
  have c0 := hr.at (j := 0) rfl
  have c1 := hr.at (j := 1) rfl
  have c2 := hr.at (j := 2) rfl
  have f0 := World.rowIs.frozen hr 0
  have f1 := World.rowIs.frozen hr 1
  have f2 := World.rowIs.frozen hr 2
  unfold rf3
  simp only [execOp, hop, hx, hy]
  go_simp
theorem run_fldRf2 (ev : Operand → Value) (o : Oper) {x : Operand} (hop : o.op = .fieldAddr 38 x 2) (w : World) {b : Nat} (hx : ev x = .pointer (some ⟨b, 0, none⟩)) : (execOp ev o).run Tryz.prog w = .ok (.value (.pointer (some ⟨b, 2, none⟩))) w := by
  simp only [execOp, hop, hx]
  go_simp
theorem run_buildPg (ev : Operand → Value) (o : Oper) {x : Operand} (hop : o.op = .build 41 #[(0, x)]) (w : World) {a : Option Addr} {n c : Nat} (hx : ev x = .slice a n c) : (execOp ev o).run Tryz.prog w = .ok (.value (.agg #[.slice a n c])) w := by
  simp only [execOp, hop]
  simp only [List.map_toArray, List.map_cons, List.map_nil, Array.map, hx]
  go_simp
theorem run_buildPg0 (ev : Operand → Value) (o : Oper) (hop : o.op = .build 41 #[]) (w : World) : (execOp ev o).run Tryz.prog w = .ok (.value (.agg #[.slice none 0 0])) w := by
  simp only [execOp, hop]
  go_simp
theorem run_buildRf0 (ev : Operand → Value) (o : Oper) (hop : o.op = .build 38 #[]) (w : World) : (execOp ev o).run Tryz.prog w = .ok (.value (.agg #[.int .i8 0, .int .i64 0, .int .i64 0])) w := by
  simp only [execOp, hop]
  go_simp
theorem run_add1 {k : Nat} (hk : k ≤ 1000000000) (u : World) : (binOp .add 3 (.int .i64 (k : Int)) (.int .i64 1)).run Tryz.prog u = .ok (.int .i64 ((k : Int) + 1)) u := by
  have hw : IntKind.i64.wrap ((k : Int) + 1) = (k : Int) + 1 := by rw [IntKind.wrap_i64]; omega
  go_simp
theorem run_slHiR {k : Nat} (ev : Operand → Value) (o : Oper) {x y : Operand} (hop : o.op = .slice 22 x none (some y) none) (w : World) {g off nn cc : Nat} (hx : ev x = .slice (some ⟨g, off, none⟩) nn cc) (hy : ev y = .int .i64 (k : Int)) (hk : k ≤ nn) (hc : nn ≤ cc) : (execOp ev o).run Tryz.prog w = .ok (.value (.slice (some ⟨g, off, none⟩) k cc)) w := by
  have h1 : (k : Int) ≤ (cc : Int) := by omega
  have h0 : (0 : Int) ≤ (k : Int) := by omega
  simp only [execOp, hop, hx, Option.map, hy]
  go_simp
theorem run_slHiF {k : Nat} (ev : Operand → Value) (o : Oper) {x y : Operand} (hop : o.op = .slice 23 x none (some y) none) (w : World) {g off nn cc : Nat} (hx : ev x = .slice (some ⟨g, off, none⟩) nn cc) (hy : ev y = .int .i64 (k : Int)) (hk : k ≤ nn) (hc : nn ≤ cc) : (execOp ev o).run Tryz.prog w = .ok (.value (.slice (some ⟨g, off, none⟩) k cc)) w := by
  have h1 : (k : Int) ≤ (cc : Int) := by omega
  have h0 : (0 : Int) ≤ (k : Int) := by omega
  simp only [execOp, hop, hx, Option.map, hy]
  go_simp
theorem run_slOneR {k : Nat} (ev : Operand → Value) (o : Oper) {x y z : Operand} (hop : o.op = .slice 22 x (some y) (some z) none) (w : World) {g off nn cc : Nat} (hx : ev x = .slice (some ⟨g, off, none⟩) nn cc) (hy : ev y = .int .i64 (k : Int)) (hz : ev z = .int .i64 ((k + 1 : Nat) : Int)) (hk : k + 1 ≤ nn) (hc : nn ≤ cc) : (execOp ev o).run Tryz.prog w = .ok (.value (.slice (some ⟨g, off + k * 3, none⟩) 1 (cc - k))) w := by
  have h1 : ((k : Int) + 1) ≤ (cc : Int) := by omega
  have h0 : (0 : Int) ≤ (k : Int) := by omega
  have h2 : ¬ cc = k := by omega
  have h3 : (0 : Int) ≤ (k : Int) + 1 := by omega
  simp only [execOp, hop, hx, Option.map, hy, hz]
  go_simp
theorem run_slHiF1 {k : Nat} (ev : Operand → Value) (o : Oper) {x y : Operand} (hop : o.op = .slice 23 x none (some y) none) (w : World) {g off nn cc : Nat} (hx : ev x = .slice (some ⟨g, off, none⟩) nn cc) (hy : ev y = .int .i64 ((k : Int) + 1)) (hk : k + 1 ≤ nn) (hc : nn ≤ cc) : (execOp ev o).run Tryz.prog w = .ok (.value (.slice (some ⟨g, off, none⟩) (k + 1) cc)) w := run_slHiF ev o hop w hx (hy.trans (by rfl)) hk hc
def js_reg14 : List Nat := [64, 65, 66, 67, 68, 69, 70, 71, 72, 73, 74, 9]
def takes_reg14 : List (List Nat × Nat) := [([], 0), ([0], 1), ([0, 1], 2), ([0, 1, 2], 3), ([0, 1, 2, 3], 4), ([0, 1, 2, 3, 4], 5), ([0, 1, 2, 3, 4, 5], 6), ([0, 1, 2, 3, 4, 5, 6], 7), ([0, 1, 2, 3, 4, 5, 6, 7], 8)]
set_option maxHeartbeats 3200000 in
theorem reg14 {ops : Array Oper} {Q : Exit → Act → World → Prop} {a0 : Act} {w5 : World} {b8 g off nn cc k : Nat} {p1 p2 p3 : Int} {t1 t2 : Array TypeId}
    (q0 : isOpG ops 0 none (.move (.tmp 0)) (some 64))
    (q1 : isOpG ops 1 none (.fieldAddr 38 (.tmp 8) 2) (some 65))
    (q2 : isOpG ops 2 none (.load 3 (.tmp 65)) (some 66))
    (q3 : isOpG ops 3 none (.slice 22 (.tmp 64) none (some (.tmp 66)) none) (some 67))
    (q4 : isOpG ops 4 none (.build 41 #[(0, .tmp 67)]) (some 68))
    (q5 : isOpG ops 5 none (.move (.tmp 0)) (some 69))
    (q6 : isOpG ops 6 none (.fieldAddr 38 (.tmp 8) 2) (some 70))
    (q7 : isOpG ops 7 none (.load 3 (.tmp 70)) (some 71))
    (q8 : isOpG ops 8 none (.slice 22 (.tmp 69) none (some (.tmp 71)) none) (some 72))
    (q9 : isOpG ops 9 none (.call { callee := .value (.func 11), args := #[.tmp 72, .const (.slice none 0 0)], argTypes := t1 }) (some 73))
    (q10 : isOpG ops 10 none (.call { callee := .value (.func 9), args := #[.tmp 68, .const (.slice none 0 0), .tmp 73], argTypes := t2 }) (some 74))
    (q11 : isOpG ops 11 none (.alloc 38) (some 9))
    (q12 : isOpG ops 12 none (.store 38 (.tmp 9) (.tmp 74)) none)
    (hs : Region.noSelect ops = true) (hq : (takes_reg14.all fun p => Region.free .any ops (LR 13 p.1) p.2 && (Region.ready .any ops (LR 13 p.1)).contains p.2) = true)
    (r0F : Region.ready .any ops (LR 13 [0, 1, 2, 3, 4, 5, 6, 7, 8]) = [9, 11]) (r0T : Region.ready .any ops (LR 13 [0, 1, 2, 3, 4, 5, 6, 7, 8, 11]) = [9])
    (r1F : Region.ready .any ops (LR 13 [0, 1, 2, 3, 4, 5, 6, 7, 8, 9]) = [10, 11]) (r1T : Region.ready .any ops (LR 13 [0, 1, 2, 3, 4, 5, 6, 7, 8, 9, 11]) = [10])
    (r2F : Region.ready .any ops (LR 13 [0, 1, 2, 3, 4, 5, 6, 7, 8, 9, 10]) = [11]) (r2T : Region.ready .any ops (LR 13 [0, 1, 2, 3, 4, 5, 6, 7, 8, 9, 10, 11]) = [12])
    (rend : Region.ready .any ops (LR 13 [0, 1, 2, 3, 4, 5, 6, 7, 8, 9, 10, 11, 12]) = [])
    (hQ : ∀ (d : Option Tmp) (v : Value) c a w, Q (.panic c) (a.put d v) w → Q (.panic c) a w)
    (hsz : 74 < a0.tmps.size) (e0 : a0.eval (.tmp 0) = .slice (some ⟨g, off, none⟩) nn cc) (e8 : a0.eval (.tmp 8) = .pointer (some ⟨b8, 0, none⟩))
    (hk1 : k ≤ nn) (hnc : nn ≤ cc) (LK : ∀ u, Below w5.heap.size w5 u → (loadVar 3 ⟨b8, 2, none⟩).run Tryz.prog u = .ok (.int .i64 (k : Int)) u)
    (C1 : ∀ u, Below w5.heap.size w5 u → Calls Tryz.prog 11 #[.slice (some ⟨g, off, none⟩) k cc, .slice none 0 0] u fun e w' => ∃ av, e = .returned av ∧ Below u.heap.size u w' ∧ ∀ u2, Below w'.heap.size w' u2 → Calls Tryz.prog 9 #[.agg #[.slice (some ⟨g, off, none⟩) k cc], .slice none 0 0, av] u2 fun e w'' => e = .returned (.agg #[.int .i8 p1, .int .i64 p2, .int .i64 p3]) ∧ Below u2.heap.size u2 w'')
    (F : ∀ (a : Act) (wc : World) (b20 : Nat), Ag js_reg14 a0 a → a.eval (.tmp 9) = .pointer (some ⟨b20, 0, none⟩) → RL wc b20 38 [.int .i8 p1, .int .i64 p2, .int .i64 p3] → w5.heap.size ≤ b20 → Below w5.heap.size w5 wc → Q .normal a wc) :
    wpAnyH Tryz.prog .any ops Q (fun u => Below w5.heap.size w5 u) 13 (LR 13 []) a0 w5.drew := by
  have hall : ∀ p ∈ takes_reg14, Region.free .any ops (LR 13 p.1) p.2 = true ∧ (Region.ready .any ops (LR 13 p.1)).contains p.2 = true := by
    intro p hp
    have := List.all_eq_true.1 hq p hp
    simpa using this
  unfold takes_reg14 at hall
  have kS : ∀ {u u' : World}, Below w5.heap.size w5 u → Below u.heap.size u u' → Below w5.heap.size w5 u' := fun h b => h.trans (b.mono h.size)
  have kA : ∀ {u : World} (o : Obj), Below u.heap.size u (u.alloc o) := fun o => (Below.refl _ _).alloc (Nat.le_refl _) _
  have P2T : ∀ (a : Act) (u : World) (b20 : Nat), Ag js_reg14 a0 a → a.eval (.tmp 74) = .agg #[.int .i8 p1, .int .i64 p2, .int .i64 p3] → a.eval (.tmp 9) = .pointer (some ⟨b20, 0, none⟩) → RL u b20 38 [.int .i8 0, .int .i64 0, .int .i64 0] → w5.heap.size ≤ b20 → b20 < u.heap.size → Below w5.heap.size w5 u → wpAnyH Tryz.prog .any ops Q (fun u => Below w5.heap.size w5 u) 1 (LR 13 [0, 1, 2, 3, 4, 5, 6, 7, 8, 9, 10, 11]) a u := by
    intro a u b20 hA h0 h20 hR hb hbl hS
    refine wpAnyH_all r2T (by simp) ?_
    intro i hi
    obtain rfl := List.mem_singleton.1 hi
    obtain ⟨o9, ho, hg, hop, hd⟩ := isOpG_out q12
    refine wpOp_skipG ho (wantedN hg) (run_storeRf _ _ hop u h20 h0 hR) ?_
    have hS' : Below w5.heap.size w5 (rf3 u b20 p1 p2 p3) := rf3_below hS hb _ _ _
    refine ⟨hS', ?_⟩
    rw [hd]
    show wpAnyH _ _ _ _ _ 0 (LR 13 [0, 1, 2, 3, 4, 5, 6, 7, 8, 9, 10, 11, 12]) a _
    exact wpAnyH_done rend (F _ _ b20 hA h20 (rf3_rl hR p1 p2 p3) hb hS') _
  have P2F : ∀ (a : Act) (u : World), Ag js_reg14 a0 a → a.eval (.tmp 74) = .agg #[.int .i8 p1, .int .i64 p2, .int .i64 p3] → Below w5.heap.size w5 u → wpAnyH Tryz.prog .any ops Q (fun u => Below w5.heap.size w5 u) 2 (LR 13 [0, 1, 2, 3, 4, 5, 6, 7, 8, 9, 10]) a u := by
    intro a u hA h0 hS
    refine wpAnyH_all r2F (by simp) ?_
    intro i hi
    obtain rfl := List.mem_singleton.1 hi
    obtain ⟨o8, ho, hg, hop, hd⟩ := isOpG_out q11
    refine wpOp_valG ho (wantedN hg) (run_allocRf _ _ hop u) ⟨kS hS (kA _), ?_⟩
    rw [hd, ← LR_snoc]
    exact P2T _ _ u.heap.size (hA.put (by decide) _) (by rw [eval_far _ _ (by decide)]; exact h0) (eval_sameA hA _ (by omega)) (rl_new u _ _) hS.size (by simp) (kS hS (kA _))
  have P1T : ∀ (a : Act) (u : World) (b20 : Nat) (av : Value), Ag js_reg14 a0 a → a.eval (.tmp 68) = .agg #[.slice (some ⟨g, off, none⟩) k cc] → a.eval (.tmp 73) = av → a.eval (.tmp 9) = .pointer (some ⟨b20, 0, none⟩) → RL u b20 38 [.int .i8 0, .int .i64 0, .int .i64 0] → w5.heap.size ≤ b20 → b20 < u.heap.size → Below w5.heap.size w5 u → (∀ u2, Below u.heap.size u u2 → Calls Tryz.prog 9 #[.agg #[.slice (some ⟨g, off, none⟩) k cc], .slice none 0 0, av] u2 fun e w' => e = .returned (.agg #[.int .i8 p1, .int .i64 p2, .int .i64 p3]) ∧ Below u2.heap.size u2 w') → wpAnyH Tryz.prog .any ops Q (fun u => Below w5.heap.size w5 u) 2 (LR 13 [0, 1, 2, 3, 4, 5, 6, 7, 8, 9, 11]) a u := by
    intro a u b20 av hA f68 f73 h20 hR hb hbl hS C
    refine wpAnyH_all r1T (by simp) ?_
    intro i hi
    obtain rfl := List.mem_singleton.1 hi
    obtain ⟨o10, ho, hg, hop, hd⟩ := isOpG_out q10
    refine wpOp_callG ho (wantedN hg) (run_callV 9 Tryz.func9 (by kernel_rfl) (by kernel_rfl) #[.tmp 68, .const (.slice none 0 0), .tmp 73] _ hop #[.agg #[.slice (some ⟨g, off, none⟩) k cc], .slice none 0 0, av] (by simp only [List.map_toArray, List.map_cons, List.map_nil, eval_constV, f68, f73])) ?_
    refine (C u (Below.refl _ _)).mono ?_
    rintro e u1 ⟨rfl, b1⟩
    refine ⟨_, rfl, kS hS b1, ?_⟩
    rw [hd, ← LR_snoc]
    exact P2T _ _ b20  (hA.put (by decide) _) (eval_sameA hA _ (by omega)) (by rw [eval_far _ _ (by decide)]; exact h20) (hR.below b1) hb (Nat.lt_of_lt_of_le hbl b1.size) (kS hS b1) 
  have P1F : ∀ (a : Act) (u : World) (av : Value), Ag js_reg14 a0 a → a.eval (.tmp 68) = .agg #[.slice (some ⟨g, off, none⟩) k cc] → a.eval (.tmp 73) = av → Below w5.heap.size w5 u → (∀ u2, Below u.heap.size u u2 → Calls Tryz.prog 9 #[.agg #[.slice (some ⟨g, off, none⟩) k cc], .slice none 0 0, av] u2 fun e w' => e = .returned (.agg #[.int .i8 p1, .int .i64 p2, .int .i64 p3]) ∧ Below u2.heap.size u2 w') → wpAnyH Tryz.prog .any ops Q (fun u => Below w5.heap.size w5 u) 3 (LR 13 [0, 1, 2, 3, 4, 5, 6, 7, 8, 9]) a u := by
    intro a u av hA f68 f73 hS C
    refine wpAnyH_all r1F (by simp) ?_
    intro i hi
    rcases List.mem_cons.1 hi with rfl | hi
    · obtain ⟨o10, ho, hg, hop, hd⟩ := isOpG_out q10
      refine wpOp_callG ho (wantedN hg) (run_callV 9 Tryz.func9 (by kernel_rfl) (by kernel_rfl) #[.tmp 68, .const (.slice none 0 0), .tmp 73] _ hop #[.agg #[.slice (some ⟨g, off, none⟩) k cc], .slice none 0 0, av] (by simp only [List.map_toArray, List.map_cons, List.map_nil, eval_constV, f68, f73])) ?_
      refine (C u (Below.refl _ _)).mono ?_
      rintro e u1 ⟨rfl, b1⟩
      refine ⟨_, rfl, kS hS b1, ?_⟩
      rw [hd, ← LR_snoc]
      exact P2F _ _  (hA.put (by decide) _) (eval_sameA hA _ (by omega)) (kS hS b1) 
    · obtain rfl := List.mem_singleton.1 hi
      obtain ⟨o8, ho, hg, hop, hd⟩ := isOpG_out q11
      refine wpOp_valG ho (wantedN hg) (run_allocRf _ _ hop u) ⟨kS hS (kA _), ?_⟩
      rw [hd, ← LR_snoc]
      exact P1T _ _ u.heap.size av (hA.put (by decide) _) (by rw [eval_far _ _ (by decide)]; exact f68) (by rw [eval_far _ _ (by decide)]; exact f73) (eval_sameA hA _ (by omega)) (rl_new u _ _) hS.size (by simp) (kS hS (kA _)) (fun u3 h3 => C u3 ((kA _).trans (h3.mono (by simp))))
  have P0T : ∀ (a : Act) (u : World) (b20 : Nat), Ag js_reg14 a0 a → a.eval (.tmp 68) = .agg #[.slice (some ⟨g, off, none⟩) k cc] → a.eval (.tmp 72) = .slice (some ⟨g, off, none⟩) k cc → a.eval (.tmp 9) = .pointer (some ⟨b20, 0, none⟩) → RL u b20 38 [.int .i8 0, .int .i64 0, .int .i64 0] → w5.heap.size ≤ b20 → b20 < u.heap.size → Below w5.heap.size w5 u → wpAnyH Tryz.prog .any ops Q (fun u => Below w5.heap.size w5 u) 3 (LR 13 [0, 1, 2, 3, 4, 5, 6, 7, 8, 11]) a u := by
    intro a u b20  hA f68 f72 h20 hR hb hbl hS
    refine wpAnyH_all r0T (by simp) ?_
    intro i hi
    obtain rfl := List.mem_singleton.1 hi
    obtain ⟨o9, ho, hg, hop, hd⟩ := isOpG_out q9
    refine wpOp_callG ho (wantedN hg) (run_callV 11 Tryz.func11 (by kernel_rfl) (by kernel_rfl) #[.tmp 72, .const (.slice none 0 0)] _ hop #[.slice (some ⟨g, off, none⟩) k cc, .slice none 0 0] (by simp only [List.map_toArray, List.map_cons, List.map_nil, eval_constV, f72])) ?_
    refine (C1 u hS).mono ?_
    rintro e u1 ⟨av, rfl, b1, C⟩
    refine ⟨_, rfl, kS hS b1, ?_⟩
    rw [hd, ← LR_snoc]
    exact P1T _ _ b20 av (hA.put (by decide) _) (by rw [eval_far _ _ (by decide)]; exact f68) (eval_sameA hA _ (by omega)) (by rw [eval_far _ _ (by decide)]; exact h20) (hR.below b1) hb (Nat.lt_of_lt_of_le hbl b1.size) (kS hS b1) C
  have P0F : ∀ (a : Act) (u : World), Ag js_reg14 a0 a → a.eval (.tmp 68) = .agg #[.slice (some ⟨g, off, none⟩) k cc] → a.eval (.tmp 72) = .slice (some ⟨g, off, none⟩) k cc → Below w5.heap.size w5 u → wpAnyH Tryz.prog .any ops Q (fun u => Below w5.heap.size w5 u) 4 (LR 13 [0, 1, 2, 3, 4, 5, 6, 7, 8]) a u := by
    intro a u  hA f68 f72 hS
    refine wpAnyH_all r0F (by simp) ?_
    intro i hi
    rcases List.mem_cons.1 hi with rfl | hi
    · obtain ⟨o9, ho, hg, hop, hd⟩ := isOpG_out q9
      refine wpOp_callG ho (wantedN hg) (run_callV 11 Tryz.func11 (by kernel_rfl) (by kernel_rfl) #[.tmp 72, .const (.slice none 0 0)] _ hop #[.slice (some ⟨g, off, none⟩) k cc, .slice none 0 0] (by simp only [List.map_toArray, List.map_cons, List.map_nil, eval_constV, f72])) ?_
      refine (C1 u hS).mono ?_
      rintro e u1 ⟨av, rfl, b1, C⟩
      refine ⟨_, rfl, kS hS b1, ?_⟩
      rw [hd, ← LR_snoc]
      exact P1F _ _ av (hA.put (by decide) _) (by rw [eval_far _ _ (by decide)]; exact f68) (eval_sameA hA _ (by omega)) (kS hS b1) C
    · obtain rfl := List.mem_singleton.1 hi
      obtain ⟨o8, ho, hg, hop, hd⟩ := isOpG_out q11
      refine wpOp_valG ho (wantedN hg) (run_allocRf _ _ hop u) ⟨kS hS (kA _), ?_⟩
      rw [hd, ← LR_snoc]
      exact P0T _ _ u.heap.size  (hA.put (by decide) _) (by rw [eval_far _ _ (by decide)]; exact f68) (by rw [eval_far _ _ (by decide)]; exact f72) (eval_sameA hA _ (by omega)) (rl_new u _ _) hS.size (by simp) (kS hS (kA _))
  have hS0 : Below w5.heap.size w5 w5.drew := (Below.refl _ _).drew
  have A0 := Ag.refl js_reg14 a0
  obtain ⟨o0, ho, hg, hop, hd⟩ := isOpG_out q0
  have hfr := hall ([], 0) (by simp)
  refine wpAnyH_take (listed := LR 13 []) (v := .slice (some ⟨g, off, none⟩) nn cc) ho hs hfr.1 hfr.2 (hQ _ _) (Or.inl ⟨wantedN hg, fun w' hS => run_move _ _ hop w' e0⟩) hS0 ?_
  rw [hd, ← LR_snoc]
  have A1 := A0.put (i := 64) (by decide) (.slice (some ⟨g, off, none⟩) nn cc)
  have g64 := eval_sameA A0 (.slice (some ⟨g, off, none⟩) nn cc) (i := 64) (by omega)
  have e0 := (eval_far a0 (i := 64) (j := 0) (.slice (some ⟨g, off, none⟩) nn cc) (by decide)).trans e0
  have e8 := (eval_far a0 (i := 64) (j := 8) (.slice (some ⟨g, off, none⟩) nn cc) (by decide)).trans e8
  generalize a0.put (some 64) (.slice (some ⟨g, off, none⟩) nn cc) = c1 at *
  clear ho hg hop hd hfr
  obtain ⟨o1, ho, hg, hop, hd⟩ := isOpG_out q1
  have hfr := hall ([0], 1) (by simp)
  refine wpAnyH_take (listed := LR 13 [0]) (v := .pointer (some ⟨b8, 2, none⟩)) ho hs hfr.1 hfr.2 (hQ _ _) (Or.inl ⟨wantedN hg, fun w' hS => run_fldRf2 _ _ hop w' e8⟩) hS0 ?_
  rw [hd, ← LR_snoc]
  have A2 := A1.put (i := 65) (by decide) (.pointer (some ⟨b8, 2, none⟩))
  have g65 := eval_sameA A1 (.pointer (some ⟨b8, 2, none⟩)) (i := 65) (by omega)
  have e0 := (eval_far c1 (i := 65) (j := 0) (.pointer (some ⟨b8, 2, none⟩)) (by decide)).trans e0
  have e8 := (eval_far c1 (i := 65) (j := 8) (.pointer (some ⟨b8, 2, none⟩)) (by decide)).trans e8
  have g64 := (eval_far c1 (i := 65) (j := 64) (.pointer (some ⟨b8, 2, none⟩)) (by decide)).trans g64
  generalize c1.put (some 65) (.pointer (some ⟨b8, 2, none⟩)) = c2 at *
  clear ho hg hop hd hfr
  obtain ⟨o2, ho, hg, hop, hd⟩ := isOpG_out q2
  have hfr := hall ([0, 1], 2) (by simp)
  refine wpAnyH_take (listed := LR 13 [0, 1]) (v := .int .i64 (k : Int)) ho hs hfr.1 hfr.2 (hQ _ _) (Or.inl ⟨wantedN hg, fun w' hS => run_loadG _ _ hop w' g65 (LK w' hS)⟩) hS0 ?_
  rw [hd, ← LR_snoc]
  have A3 := A2.put (i := 66) (by decide) (.int .i64 (k : Int))
  have g66 := eval_sameA A2 (.int .i64 (k : Int)) (i := 66) (by omega)
  have e0 := (eval_far c2 (i := 66) (j := 0) (.int .i64 (k : Int)) (by decide)).trans e0
  have e8 := (eval_far c2 (i := 66) (j := 8) (.int .i64 (k : Int)) (by decide)).trans e8
  have g64 := (eval_far c2 (i := 66) (j := 64) (.int .i64 (k : Int)) (by decide)).trans g64
  have g65 := (eval_far c2 (i := 66) (j := 65) (.int .i64 (k : Int)) (by decide)).trans g65
  generalize c2.put (some 66) (.int .i64 (k : Int)) = c3 at *
  clear ho hg hop hd hfr
  obtain ⟨o3, ho, hg, hop, hd⟩ := isOpG_out q3
  have hfr := hall ([0, 1, 2], 3) (by simp)
  refine wpAnyH_take (listed := LR 13 [0, 1, 2]) (v := .slice (some ⟨g, off, none⟩) k cc) ho hs hfr.1 hfr.2 (hQ _ _) (Or.inl ⟨wantedN hg, fun w' hS => run_slHiR _ _ hop w' g64 g66 hk1 hnc⟩) hS0 ?_
  rw [hd, ← LR_snoc]
  have A4 := A3.put (i := 67) (by decide) (.slice (some ⟨g, off, none⟩) k cc)
  have g67 := eval_sameA A3 (.slice (some ⟨g, off, none⟩) k cc) (i := 67) (by omega)
  have e0 := (eval_far c3 (i := 67) (j := 0) (.slice (some ⟨g, off, none⟩) k cc) (by decide)).trans e0
  have e8 := (eval_far c3 (i := 67) (j := 8) (.slice (some ⟨g, off, none⟩) k cc) (by decide)).trans e8
  have g64 := (eval_far c3 (i := 67) (j := 64) (.slice (some ⟨g, off, none⟩) k cc) (by decide)).trans g64
  have g65 := (eval_far c3 (i := 67) (j := 65) (.slice (some ⟨g, off, none⟩) k cc) (by decide)).trans g65
  have g66 := (eval_far c3 (i := 67) (j := 66) (.slice (some ⟨g, off, none⟩) k cc) (by decide)).trans g66
  generalize c3.put (some 67) (.slice (some ⟨g, off, none⟩) k cc) = c4 at *
  clear ho hg hop hd hfr
  obtain ⟨o4, ho, hg, hop, hd⟩ := isOpG_out q4
  have hfr := hall ([0, 1, 2, 3], 4) (by simp)
  refine wpAnyH_take (listed := LR 13 [0, 1, 2, 3]) (v := .agg #[.slice (some ⟨g, off, none⟩) k cc]) ho hs hfr.1 hfr.2 (hQ _ _) (Or.inl ⟨wantedN hg, fun w' hS => run_buildPg _ _ hop w' g67⟩) hS0 ?_
  rw [hd, ← LR_snoc]
  have A5 := A4.put (i := 68) (by decide) (.agg #[.slice (some ⟨g, off, none⟩) k cc])
  have g68 := eval_sameA A4 (.agg #[.slice (some ⟨g, off, none⟩) k cc]) (i := 68) (by omega)
  have e0 := (eval_far c4 (i := 68) (j := 0) (.agg #[.slice (some ⟨g, off, none⟩) k cc]) (by decide)).trans e0
  have e8 := (eval_far c4 (i := 68) (j := 8) (.agg #[.slice (some ⟨g, off, none⟩) k cc]) (by decide)).trans e8
  have g64 := (eval_far c4 (i := 68) (j := 64) (.agg #[.slice (some ⟨g, off, none⟩) k cc]) (by decide)).trans g64
  have g65 := (eval_far c4 (i := 68) (j := 65) (.agg #[.slice (some ⟨g, off, none⟩) k cc]) (by decide)).trans g65
  have g66 := (eval_far c4 (i := 68) (j := 66) (.agg #[.slice (some ⟨g, off, none⟩) k cc]) (by decide)).trans g66
  have g67 := (eval_far c4 (i := 68) (j := 67) (.agg #[.slice (some ⟨g, off, none⟩) k cc]) (by decide)).trans g67
  generalize c4.put (some 68) (.agg #[.slice (some ⟨g, off, none⟩) k cc]) = c5 at *
  clear ho hg hop hd hfr
  obtain ⟨o5, ho, hg, hop, hd⟩ := isOpG_out q5
  have hfr := hall ([0, 1, 2, 3, 4], 5) (by simp)
  refine wpAnyH_take (listed := LR 13 [0, 1, 2, 3, 4]) (v := .slice (some ⟨g, off, none⟩) nn cc) ho hs hfr.1 hfr.2 (hQ _ _) (Or.inl ⟨wantedN hg, fun w' hS => run_move _ _ hop w' e0⟩) hS0 ?_
  rw [hd, ← LR_snoc]
  have A6 := A5.put (i := 69) (by decide) (.slice (some ⟨g, off, none⟩) nn cc)
  have g69 := eval_sameA A5 (.slice (some ⟨g, off, none⟩) nn cc) (i := 69) (by omega)
  have e0 := (eval_far c5 (i := 69) (j := 0) (.slice (some ⟨g, off, none⟩) nn cc) (by decide)).trans e0
  have e8 := (eval_far c5 (i := 69) (j := 8) (.slice (some ⟨g, off, none⟩) nn cc) (by decide)).trans e8
  have g64 := (eval_far c5 (i := 69) (j := 64) (.slice (some ⟨g, off, none⟩) nn cc) (by decide)).trans g64
  have g65 := (eval_far c5 (i := 69) (j := 65) (.slice (some ⟨g, off, none⟩) nn cc) (by decide)).trans g65
  have g66 := (eval_far c5 (i := 69) (j := 66) (.slice (some ⟨g, off, none⟩) nn cc) (by decide)).trans g66
  have g67 := (eval_far c5 (i := 69) (j := 67) (.slice (some ⟨g, off, none⟩) nn cc) (by decide)).trans g67
  have g68 := (eval_far c5 (i := 69) (j := 68) (.slice (some ⟨g, off, none⟩) nn cc) (by decide)).trans g68
  generalize c5.put (some 69) (.slice (some ⟨g, off, none⟩) nn cc) = c6 at *
  clear ho hg hop hd hfr
  obtain ⟨o6, ho, hg, hop, hd⟩ := isOpG_out q6
  have hfr := hall ([0, 1, 2, 3, 4, 5], 6) (by simp)
  refine wpAnyH_take (listed := LR 13 [0, 1, 2, 3, 4, 5]) (v := .pointer (some ⟨b8, 2, none⟩)) ho hs hfr.1 hfr.2 (hQ _ _) (Or.inl ⟨wantedN hg, fun w' hS => run_fldRf2 _ _ hop w' e8⟩) hS0 ?_
  rw [hd, ← LR_snoc]
  have A7 := A6.put (i := 70) (by decide) (.pointer (some ⟨b8, 2, none⟩))
  have g70 := eval_sameA A6 (.pointer (some ⟨b8, 2, none⟩)) (i := 70) (by omega)
  have e0 := (eval_far c6 (i := 70) (j := 0) (.pointer (some ⟨b8, 2, none⟩)) (by decide)).trans e0
  have e8 := (eval_far c6 (i := 70) (j := 8) (.pointer (some ⟨b8, 2, none⟩)) (by decide)).trans e8
  have g64 := (eval_far c6 (i := 70) (j := 64) (.pointer (some ⟨b8, 2, none⟩)) (by decide)).trans g64
  have g65 := (eval_far c6 (i := 70) (j := 65) (.pointer (some ⟨b8, 2, none⟩)) (by decide)).trans g65
  have g66 := (eval_far c6 (i := 70) (j := 66) (.pointer (some ⟨b8, 2, none⟩)) (by decide)).trans g66
  have g67 := (eval_far c6 (i := 70) (j := 67) (.pointer (some ⟨b8, 2, none⟩)) (by decide)).trans g67
  have g68 := (eval_far c6 (i := 70) (j := 68) (.pointer (some ⟨b8, 2, none⟩)) (by decide)).trans g68
  have g69 := (eval_far c6 (i := 70) (j := 69) (.pointer (some ⟨b8, 2, none⟩)) (by decide)).trans g69
  generalize c6.put (some 70) (.pointer (some ⟨b8, 2, none⟩)) = c7 at *
  clear ho hg hop hd hfr
  obtain ⟨o7, ho, hg, hop, hd⟩ := isOpG_out q7
  have hfr := hall ([0, 1, 2, 3, 4, 5, 6], 7) (by simp)
  refine wpAnyH_take (listed := LR 13 [0, 1, 2, 3, 4, 5, 6]) (v := .int .i64 (k : Int)) ho hs hfr.1 hfr.2 (hQ _ _) (Or.inl ⟨wantedN hg, fun w' hS => run_loadG _ _ hop w' g70 (LK w' hS)⟩) hS0 ?_
  rw [hd, ← LR_snoc]
  have A8 := A7.put (i := 71) (by decide) (.int .i64 (k : Int))
  have g71 := eval_sameA A7 (.int .i64 (k : Int)) (i := 71) (by omega)
  have e0 := (eval_far c7 (i := 71) (j := 0) (.int .i64 (k : Int)) (by decide)).trans e0
  have e8 := (eval_far c7 (i := 71) (j := 8) (.int .i64 (k : Int)) (by decide)).trans e8
  have g64 := (eval_far c7 (i := 71) (j := 64) (.int .i64 (k : Int)) (by decide)).trans g64
  have g65 := (eval_far c7 (i := 71) (j := 65) (.int .i64 (k : Int)) (by decide)).trans g65
  have g66 := (eval_far c7 (i := 71) (j := 66) (.int .i64 (k : Int)) (by decide)).trans g66
  have g67 := (eval_far c7 (i := 71) (j := 67) (.int .i64 (k : Int)) (by decide)).trans g67
  have g68 := (eval_far c7 (i := 71) (j := 68) (.int .i64 (k : Int)) (by decide)).trans g68
  have g69 := (eval_far c7 (i := 71) (j := 69) (.int .i64 (k : Int)) (by decide)).trans g69
  have g70 := (eval_far c7 (i := 71) (j := 70) (.int .i64 (k : Int)) (by decide)).trans g70
  generalize c7.put (some 71) (.int .i64 (k : Int)) = c8 at *
  clear ho hg hop hd hfr
  obtain ⟨o8, ho, hg, hop, hd⟩ := isOpG_out q8
  have hfr := hall ([0, 1, 2, 3, 4, 5, 6, 7], 8) (by simp)
  refine wpAnyH_take (listed := LR 13 [0, 1, 2, 3, 4, 5, 6, 7]) (v := .slice (some ⟨g, off, none⟩) k cc) ho hs hfr.1 hfr.2 (hQ _ _) (Or.inl ⟨wantedN hg, fun w' hS => run_slHiR _ _ hop w' g69 g71 hk1 hnc⟩) hS0 ?_
  rw [hd, ← LR_snoc]
  have A9 := A8.put (i := 72) (by decide) (.slice (some ⟨g, off, none⟩) k cc)
  have g72 := eval_sameA A8 (.slice (some ⟨g, off, none⟩) k cc) (i := 72) (by omega)
  have e0 := (eval_far c8 (i := 72) (j := 0) (.slice (some ⟨g, off, none⟩) k cc) (by decide)).trans e0
  have e8 := (eval_far c8 (i := 72) (j := 8) (.slice (some ⟨g, off, none⟩) k cc) (by decide)).trans e8
  have g64 := (eval_far c8 (i := 72) (j := 64) (.slice (some ⟨g, off, none⟩) k cc) (by decide)).trans g64
  have g65 := (eval_far c8 (i := 72) (j := 65) (.slice (some ⟨g, off, none⟩) k cc) (by decide)).trans g65
  have g66 := (eval_far c8 (i := 72) (j := 66) (.slice (some ⟨g, off, none⟩) k cc) (by decide)).trans g66
  have g67 := (eval_far c8 (i := 72) (j := 67) (.slice (some ⟨g, off, none⟩) k cc) (by decide)).trans g67
  have g68 := (eval_far c8 (i := 72) (j := 68) (.slice (some ⟨g, off, none⟩) k cc) (by decide)).trans g68
  have g69 := (eval_far c8 (i := 72) (j := 69) (.slice (some ⟨g, off, none⟩) k cc) (by decide)).trans g69
  have g70 := (eval_far c8 (i := 72) (j := 70) (.slice (some ⟨g, off, none⟩) k cc) (by decide)).trans g70
  have g71 := (eval_far c8 (i := 72) (j := 71) (.slice (some ⟨g, off, none⟩) k cc) (by decide)).trans g71
  generalize c8.put (some 72) (.slice (some ⟨g, off, none⟩) k cc) = c9 at *
  clear ho hg hop hd hfr
  exact P0F _ _  A9 g68 g72 hS0
def js_reg15 : List Nat := [75, 76, 77, 78, 79, 80, 81, 82, 10]
def takes_reg15 : List (List Nat × Nat) := [([], 0), ([0], 1), ([0, 1], 2), ([0, 1, 2], 3), ([0, 1, 2, 3], 4), ([0, 1, 2, 3, 4], 5), ([0, 1, 2, 3, 4, 5], 6)]
set_option maxHeartbeats 3200000 in
theorem reg15 {ops : Array Oper} {Q : Exit → Act → World → Prop} {a0 : Act} {w5 : World} {b7 b8 g off nn cc k : Nat} {qv : Value} {p1 p2 p3 : Int} {t1 : Array TypeId}
    (q0 : isOpG ops 0 none (.move (.tmp 0)) (some 75))
    (q1 : isOpG ops 1 none (.fieldAddr 38 (.tmp 8) 2) (some 76))
    (q2 : isOpG ops 2 none (.load 3 (.tmp 76)) (some 77))
    (q3 : isOpG ops 3 none (.binOp .add 3 (.tmp 77) (.const (.int .i64 1)) 3) (some 78))
    (q4 : isOpG ops 4 none (.slice 22 (.tmp 75) none (some (.tmp 78)) none) (some 79))
    (q5 : isOpG ops 5 none (.build 41 #[(0, .tmp 79)]) (some 80))
    (q6 : isOpG ops 6 none (.load 26 (.tmp 7)) (some 81))
    (q7 : isOpG ops 7 none (.call { callee := .value (.func 9), args := #[.tmp 80, .const (.slice none 0 0), .tmp 81], argTypes := t1 }) (some 82))
    (q8 : isOpG ops 8 none (.alloc 38) (some 10))
    (q9 : isOpG ops 9 none (.store 38 (.tmp 10) (.tmp 82)) none)
    (hs : Region.noSelect ops = true) (hq : (takes_reg15.all fun p => Region.free .any ops (LR 10 p.1) p.2 && (Region.ready .any ops (LR 10 p.1)).contains p.2) = true)
    (r0F : Region.ready .any ops (LR 10 [0, 1, 2, 3, 4, 5, 6]) = [7, 8]) (r0T : Region.ready .any ops (LR 10 [0, 1, 2, 3, 4, 5, 6, 8]) = [7])
    (r1F : Region.ready .any ops (LR 10 [0, 1, 2, 3, 4, 5, 6, 7]) = [8]) (r1T : Region.ready .any ops (LR 10 [0, 1, 2, 3, 4, 5, 6, 7, 8]) = [9])
    (rend : Region.ready .any ops (LR 10 [0, 1, 2, 3, 4, 5, 6, 7, 8, 9]) = [])
    (hQ : ∀ (d : Option Tmp) (v : Value) c a w, Q (.panic c) (a.put d v) w → Q (.panic c) a w)
    (hsz : 82 < a0.tmps.size) (e0 : a0.eval (.tmp 0) = .slice (some ⟨g, off, none⟩) nn cc) (e7 : a0.eval (.tmp 7) = .pointer (some ⟨b7, 0, none⟩)) (e8 : a0.eval (.tmp 8) = .pointer (some ⟨b8, 0, none⟩))
    (hk1 : k + 1 ≤ nn) (hnc : nn ≤ cc) (hk2 : k ≤ 1000000000) (LK : ∀ u, Below w5.heap.size w5 u → (loadVar 3 ⟨b8, 2, none⟩).run Tryz.prog u = .ok (.int .i64 (k : Int)) u) (LA : ∀ u, Below w5.heap.size w5 u → (loadVar 26 ⟨b7, 0, none⟩).run Tryz.prog u = .ok qv u)
    (C1 : ∀ u, Below w5.heap.size w5 u → Calls Tryz.prog 9 #[.agg #[.slice (some ⟨g, off, none⟩) (k + 1) cc], .slice none 0 0, qv] u fun e w' => e = .returned (.agg #[.int .i8 p1, .int .i64 p2, .int .i64 p3]) ∧ Below u.heap.size u w')
    (F : ∀ (a : Act) (wc : World) (b20 : Nat), Ag js_reg15 a0 a → a.eval (.tmp 10) = .pointer (some ⟨b20, 0, none⟩) → RL wc b20 38 [.int .i8 p1, .int .i64 p2, .int .i64 p3] → w5.heap.size ≤ b20 → Below w5.heap.size w5 wc → Q .normal a wc) :
    wpAnyH Tryz.prog .any ops Q (fun u => Below w5.heap.size w5 u) 10 (LR 10 []) a0 w5.drew := by
  have hall : ∀ p ∈ takes_reg15, Region.free .any ops (LR 10 p.1) p.2 = true ∧ (Region.ready .any ops (LR 10 p.1)).contains p.2 = true := by
    intro p hp
    have := List.all_eq_true.1 hq p hp
    simpa using this
  unfold takes_reg15 at hall
  have kS : ∀ {u u' : World}, Below w5.heap.size w5 u → Below u.heap.size u u' → Below w5.heap.size w5 u' := fun h b => h.trans (b.mono h.size)
  have kA : ∀ {u : World} (o : Obj), Below u.heap.size u (u.alloc o) := fun o => (Below.refl _ _).alloc (Nat.le_refl _) _
  have P1T : ∀ (a : Act) (u : World) (b20 : Nat), Ag js_reg15 a0 a → a.eval (.tmp 82) = .agg #[.int .i8 p1, .int .i64 p2, .int .i64 p3] → a.eval (.tmp 10) = .pointer (some ⟨b20, 0, none⟩) → RL u b20 38 [.int .i8 0, .int .i64 0, .int .i64 0] → w5.heap.size ≤ b20 → b20 < u.heap.size → Below w5.heap.size w5 u → wpAnyH Tryz.prog .any ops Q (fun u => Below w5.heap.size w5 u) 1 (LR 10 [0, 1, 2, 3, 4, 5, 6, 7, 8]) a u := by
    intro a u b20 hA h0 h20 hR hb hbl hS
    refine wpAnyH_all r1T (by simp) ?_
    intro i hi
    obtain rfl := List.mem_singleton.1 hi
    obtain ⟨o9, ho, hg, hop, hd⟩ := isOpG_out q9
    refine wpOp_skipG ho (wantedN hg) (run_storeRf _ _ hop u h20 h0 hR) ?_
    have hS' : Below w5.heap.size w5 (rf3 u b20 p1 p2 p3) := rf3_below hS hb _ _ _
    refine ⟨hS', ?_⟩
    rw [hd]
    show wpAnyH _ _ _ _ _ 0 (LR 10 [0, 1, 2, 3, 4, 5, 6, 7, 8, 9]) a _
    exact wpAnyH_done rend (F _ _ b20 hA h20 (rf3_rl hR p1 p2 p3) hb hS') _
  have P1F : ∀ (a : Act) (u : World), Ag js_reg15 a0 a → a.eval (.tmp 82) = .agg #[.int .i8 p1, .int .i64 p2, .int .i64 p3] → Below w5.heap.size w5 u → wpAnyH Tryz.prog .any ops Q (fun u => Below w5.heap.size w5 u) 2 (LR 10 [0, 1, 2, 3, 4, 5, 6, 7]) a u := by
    intro a u hA h0 hS
    refine wpAnyH_all r1F (by simp) ?_
    intro i hi
    obtain rfl := List.mem_singleton.1 hi
    obtain ⟨o8, ho, hg, hop, hd⟩ := isOpG_out q8
    refine wpOp_valG ho (wantedN hg) (run_allocRf _ _ hop u) ⟨kS hS (kA _), ?_⟩
    rw [hd, ← LR_snoc]
    exact P1T _ _ u.heap.size (hA.put (by decide) _) (by rw [eval_far _ _ (by decide)]; exact h0) (eval_sameA hA _ (by omega)) (rl_new u _ _) hS.size (by simp) (kS hS (kA _))
  have P0T : ∀ (a : Act) (u : World) (b20 : Nat), Ag js_reg15 a0 a → a.eval (.tmp 80) = .agg #[.slice (some ⟨g, off, none⟩) (k + 1) cc] → a.eval (.tmp 81) = qv → a.eval (.tmp 10) = .pointer (some ⟨b20, 0, none⟩) → RL u b20 38 [.int .i8 0, .int .i64 0, .int .i64 0] → w5.heap.size ≤ b20 → b20 < u.heap.size → Below w5.heap.size w5 u → wpAnyH Tryz.prog .any ops Q (fun u => Below w5.heap.size w5 u) 2 (LR 10 [0, 1, 2, 3, 4, 5, 6, 8]) a u := by
    intro a u b20  hA f80 f81 h20 hR hb hbl hS
    refine wpAnyH_all r0T (by simp) ?_
    intro i hi
    obtain rfl := List.mem_singleton.1 hi
    obtain ⟨o7, ho, hg, hop, hd⟩ := isOpG_out q7
    refine wpOp_callG ho (wantedN hg) (run_callV 9 Tryz.func9 (by kernel_rfl) (by kernel_rfl) #[.tmp 80, .const (.slice none 0 0), .tmp 81] _ hop #[.agg #[.slice (some ⟨g, off, none⟩) (k + 1) cc], .slice none 0 0, qv] (by simp only [List.map_toArray, List.map_cons, List.map_nil, eval_constV, f80, f81])) ?_
    refine (C1 u hS).mono ?_
    rintro e u1 ⟨rfl, b1⟩
    refine ⟨_, rfl, kS hS b1, ?_⟩
    rw [hd, ← LR_snoc]
    exact P1T _ _ b20  (hA.put (by decide) _) (eval_sameA hA _ (by omega)) (by rw [eval_far _ _ (by decide)]; exact h20) (hR.below b1) hb (Nat.lt_of_lt_of_le hbl b1.size) (kS hS b1) 
  have P0F : ∀ (a : Act) (u : World), Ag js_reg15 a0 a → a.eval (.tmp 80) = .agg #[.slice (some ⟨g, off, none⟩) (k + 1) cc] → a.eval (.tmp 81) = qv → Below w5.heap.size w5 u → wpAnyH Tryz.prog .any ops Q (fun u => Below w5.heap.size w5 u) 3 (LR 10 [0, 1, 2, 3, 4, 5, 6]) a u := by
    intro a u  hA f80 f81 hS
    refine wpAnyH_all r0F (by simp) ?_
    intro i hi
    rcases List.mem_cons.1 hi with rfl | hi
    · obtain ⟨o7, ho, hg, hop, hd⟩ := isOpG_out q7
      refine wpOp_callG ho (wantedN hg) (run_callV 9 Tryz.func9 (by kernel_rfl) (by kernel_rfl) #[.tmp 80, .const (.slice none 0 0), .tmp 81] _ hop #[.agg #[.slice (some ⟨g, off, none⟩) (k + 1) cc], .slice none 0 0, qv] (by simp only [List.map_toArray, List.map_cons, List.map_nil, eval_constV, f80, f81])) ?_
      refine (C1 u hS).mono ?_
      rintro e u1 ⟨rfl, b1⟩
      refine ⟨_, rfl, kS hS b1, ?_⟩
      rw [hd, ← LR_snoc]
      exact P1F _ _  (hA.put (by decide) _) (eval_sameA hA _ (by omega)) (kS hS b1) 
    · obtain rfl := List.mem_singleton.1 hi
      obtain ⟨o8, ho, hg, hop, hd⟩ := isOpG_out q8
      refine wpOp_valG ho (wantedN hg) (run_allocRf _ _ hop u) ⟨kS hS (kA _), ?_⟩
      rw [hd, ← LR_snoc]
      exact P0T _ _ u.heap.size  (hA.put (by decide) _) (by rw [eval_far _ _ (by decide)]; exact f80) (by rw [eval_far _ _ (by decide)]; exact f81) (eval_sameA hA _ (by omega)) (rl_new u _ _) hS.size (by simp) (kS hS (kA _))
  have hS0 : Below w5.heap.size w5 w5.drew := (Below.refl _ _).drew
  have A0 := Ag.refl js_reg15 a0
  obtain ⟨o0, ho, hg, hop, hd⟩ := isOpG_out q0
  have hfr := hall ([], 0) (by simp)
  refine wpAnyH_take (listed := LR 10 []) (v := .slice (some ⟨g, off, none⟩) nn cc) ho hs hfr.1 hfr.2 (hQ _ _) (Or.inl ⟨wantedN hg, fun w' hS => run_move _ _ hop w' e0⟩) hS0 ?_
  rw [hd, ← LR_snoc]
  have A1 := A0.put (i := 75) (by decide) (.slice (some ⟨g, off, none⟩) nn cc)
  have g75 := eval_sameA A0 (.slice (some ⟨g, off, none⟩) nn cc) (i := 75) (by omega)
  have e0 := (eval_far a0 (i := 75) (j := 0) (.slice (some ⟨g, off, none⟩) nn cc) (by decide)).trans e0
  have e7 := (eval_far a0 (i := 75) (j := 7) (.slice (some ⟨g, off, none⟩) nn cc) (by decide)).trans e7
  have e8 := (eval_far a0 (i := 75) (j := 8) (.slice (some ⟨g, off, none⟩) nn cc) (by decide)).trans e8
  generalize a0.put (some 75) (.slice (some ⟨g, off, none⟩) nn cc) = c1 at *
  clear ho hg hop hd hfr
  obtain ⟨o1, ho, hg, hop, hd⟩ := isOpG_out q1
  have hfr := hall ([0], 1) (by simp)
  refine wpAnyH_take (listed := LR 10 [0]) (v := .pointer (some ⟨b8, 2, none⟩)) ho hs hfr.1 hfr.2 (hQ _ _) (Or.inl ⟨wantedN hg, fun w' hS => run_fldRf2 _ _ hop w' e8⟩) hS0 ?_
  rw [hd, ← LR_snoc]
  have A2 := A1.put (i := 76) (by decide) (.pointer (some ⟨b8, 2, none⟩))
  have g76 := eval_sameA A1 (.pointer (some ⟨b8, 2, none⟩)) (i := 76) (by omega)
  have e0 := (eval_far c1 (i := 76) (j := 0) (.pointer (some ⟨b8, 2, none⟩)) (by decide)).trans e0
  have e7 := (eval_far c1 (i := 76) (j := 7) (.pointer (some ⟨b8, 2, none⟩)) (by decide)).trans e7
  have e8 := (eval_far c1 (i := 76) (j := 8) (.pointer (some ⟨b8, 2, none⟩)) (by decide)).trans e8
  have g75 := (eval_far c1 (i := 76) (j := 75) (.pointer (some ⟨b8, 2, none⟩)) (by decide)).trans g75
  generalize c1.put (some 76) (.pointer (some ⟨b8, 2, none⟩)) = c2 at *
  clear ho hg hop hd hfr
  obtain ⟨o2, ho, hg, hop, hd⟩ := isOpG_out q2
  have hfr := hall ([0, 1], 2) (by simp)
  refine wpAnyH_take (listed := LR 10 [0, 1]) (v := .int .i64 (k : Int)) ho hs hfr.1 hfr.2 (hQ _ _) (Or.inl ⟨wantedN hg, fun w' hS => run_loadG _ _ hop w' g76 (LK w' hS)⟩) hS0 ?_
  rw [hd, ← LR_snoc]
  have A3 := A2.put (i := 77) (by decide) (.int .i64 (k : Int))
  have g77 := eval_sameA A2 (.int .i64 (k : Int)) (i := 77) (by omega)
  have e0 := (eval_far c2 (i := 77) (j := 0) (.int .i64 (k : Int)) (by decide)).trans e0
  have e7 := (eval_far c2 (i := 77) (j := 7) (.int .i64 (k : Int)) (by decide)).trans e7
  have e8 := (eval_far c2 (i := 77) (j := 8) (.int .i64 (k : Int)) (by decide)).trans e8
  have g75 := (eval_far c2 (i := 77) (j := 75) (.int .i64 (k : Int)) (by decide)).trans g75
  have g76 := (eval_far c2 (i := 77) (j := 76) (.int .i64 (k : Int)) (by decide)).trans g76
  generalize c2.put (some 77) (.int .i64 (k : Int)) = c3 at *
  clear ho hg hop hd hfr
  obtain ⟨o3, ho, hg, hop, hd⟩ := isOpG_out q3
  have hfr := hall ([0, 1, 2], 3) (by simp)
  refine wpAnyH_take (listed := LR 10 [0, 1, 2]) (v := .int .i64 ((k : Int) + 1)) ho hs hfr.1 hfr.2 (hQ _ _) (Or.inl ⟨wantedN hg, fun w' hS => run_binV _ _ hop w' g77 rfl (by first | rfl | go_simp) (run_add1 hk2 w')⟩) hS0 ?_
  rw [hd, ← LR_snoc]
  have A4 := A3.put (i := 78) (by decide) (.int .i64 ((k : Int) + 1))
  have g78 := eval_sameA A3 (.int .i64 ((k : Int) + 1)) (i := 78) (by omega)
  have e0 := (eval_far c3 (i := 78) (j := 0) (.int .i64 ((k : Int) + 1)) (by decide)).trans e0
  have e7 := (eval_far c3 (i := 78) (j := 7) (.int .i64 ((k : Int) + 1)) (by decide)).trans e7
  have e8 := (eval_far c3 (i := 78) (j := 8) (.int .i64 ((k : Int) + 1)) (by decide)).trans e8
  have g75 := (eval_far c3 (i := 78) (j := 75) (.int .i64 ((k : Int) + 1)) (by decide)).trans g75
  have g76 := (eval_far c3 (i := 78) (j := 76) (.int .i64 ((k : Int) + 1)) (by decide)).trans g76
  have g77 := (eval_far c3 (i := 78) (j := 77) (.int .i64 ((k : Int) + 1)) (by decide)).trans g77
  generalize c3.put (some 78) (.int .i64 ((k : Int) + 1)) = c4 at *
  clear ho hg hop hd hfr
  obtain ⟨o4, ho, hg, hop, hd⟩ := isOpG_out q4
  have hfr := hall ([0, 1, 2, 3], 4) (by simp)
  refine wpAnyH_take (listed := LR 10 [0, 1, 2, 3]) (v := .slice (some ⟨g, off, none⟩) (k + 1) cc) ho hs hfr.1 hfr.2 (hQ _ _) (Or.inl ⟨wantedN hg, fun w' hS => run_slHiR (k := k + 1) _ _ hop w' g75 (g78.trans (by rfl)) hk1 hnc⟩) hS0 ?_
  rw [hd, ← LR_snoc]
  have A5 := A4.put (i := 79) (by decide) (.slice (some ⟨g, off, none⟩) (k + 1) cc)
  have g79 := eval_sameA A4 (.slice (some ⟨g, off, none⟩) (k + 1) cc) (i := 79) (by omega)
  have e0 := (eval_far c4 (i := 79) (j := 0) (.slice (some ⟨g, off, none⟩) (k + 1) cc) (by decide)).trans e0
  have e7 := (eval_far c4 (i := 79) (j := 7) (.slice (some ⟨g, off, none⟩) (k + 1) cc) (by decide)).trans e7
  have e8 := (eval_far c4 (i := 79) (j := 8) (.slice (some ⟨g, off, none⟩) (k + 1) cc) (by decide)).trans e8
  have g75 := (eval_far c4 (i := 79) (j := 75) (.slice (some ⟨g, off, none⟩) (k + 1) cc) (by decide)).trans g75
  have g76 := (eval_far c4 (i := 79) (j := 76) (.slice (some ⟨g, off, none⟩) (k + 1) cc) (by decide)).trans g76
  have g77 := (eval_far c4 (i := 79) (j := 77) (.slice (some ⟨g, off, none⟩) (k + 1) cc) (by decide)).trans g77
  have g78 := (eval_far c4 (i := 79) (j := 78) (.slice (some ⟨g, off, none⟩) (k + 1) cc) (by decide)).trans g78
  generalize c4.put (some 79) (.slice (some ⟨g, off, none⟩) (k + 1) cc) = c5 at *
  clear ho hg hop hd hfr
  obtain ⟨o5, ho, hg, hop, hd⟩ := isOpG_out q5
  have hfr := hall ([0, 1, 2, 3, 4], 5) (by simp)
  refine wpAnyH_take (listed := LR 10 [0, 1, 2, 3, 4]) (v := .agg #[.slice (some ⟨g, off, none⟩) (k + 1) cc]) ho hs hfr.1 hfr.2 (hQ _ _) (Or.inl ⟨wantedN hg, fun w' hS => run_buildPg _ _ hop w' g79⟩) hS0 ?_
  rw [hd, ← LR_snoc]
  have A6 := A5.put (i := 80) (by decide) (.agg #[.slice (some ⟨g, off, none⟩) (k + 1) cc])
  have g80 := eval_sameA A5 (.agg #[.slice (some ⟨g, off, none⟩) (k + 1) cc]) (i := 80) (by omega)
  have e0 := (eval_far c5 (i := 80) (j := 0) (.agg #[.slice (some ⟨g, off, none⟩) (k + 1) cc]) (by decide)).trans e0
  have e7 := (eval_far c5 (i := 80) (j := 7) (.agg #[.slice (some ⟨g, off, none⟩) (k + 1) cc]) (by decide)).trans e7
  have e8 := (eval_far c5 (i := 80) (j := 8) (.agg #[.slice (some ⟨g, off, none⟩) (k + 1) cc]) (by decide)).trans e8
  have g75 := (eval_far c5 (i := 80) (j := 75) (.agg #[.slice (some ⟨g, off, none⟩) (k + 1) cc]) (by decide)).trans g75
  have g76 := (eval_far c5 (i := 80) (j := 76) (.agg #[.slice (some ⟨g, off, none⟩) (k + 1) cc]) (by decide)).trans g76
  have g77 := (eval_far c5 (i := 80) (j := 77) (.agg #[.slice (some ⟨g, off, none⟩) (k + 1) cc]) (by decide)).trans g77
  have g78 := (eval_far c5 (i := 80) (j := 78) (.agg #[.slice (some ⟨g, off, none⟩) (k + 1) cc]) (by decide)).trans g78
  have g79 := (eval_far c5 (i := 80) (j := 79) (.agg #[.slice (some ⟨g, off, none⟩) (k + 1) cc]) (by decide)).trans g79
  generalize c5.put (some 80) (.agg #[.slice (some ⟨g, off, none⟩) (k + 1) cc]) = c6 at *
  clear ho hg hop hd hfr
  obtain ⟨o6, ho, hg, hop, hd⟩ := isOpG_out q6
  have hfr := hall ([0, 1, 2, 3, 4, 5], 6) (by simp)
  refine wpAnyH_take (listed := LR 10 [0, 1, 2, 3, 4, 5]) (v := qv) ho hs hfr.1 hfr.2 (hQ _ _) (Or.inl ⟨wantedN hg, fun w' hS => run_loadG _ _ hop w' e7 (LA w' hS)⟩) hS0 ?_
  rw [hd, ← LR_snoc]
  have A7 := A6.put (i := 81) (by decide) (qv)
  have g81 := eval_sameA A6 (qv) (i := 81) (by omega)
  have e0 := (eval_far c6 (i := 81) (j := 0) (qv) (by decide)).trans e0
  have e7 := (eval_far c6 (i := 81) (j := 7) (qv) (by decide)).trans e7
  have e8 := (eval_far c6 (i := 81) (j := 8) (qv) (by decide)).trans e8
  have g75 := (eval_far c6 (i := 81) (j := 75) (qv) (by decide)).trans g75
  have g76 := (eval_far c6 (i := 81) (j := 76) (qv) (by decide)).trans g76
  have g77 := (eval_far c6 (i := 81) (j := 77) (qv) (by decide)).trans g77
  have g78 := (eval_far c6 (i := 81) (j := 78) (qv) (by decide)).trans g78
  have g79 := (eval_far c6 (i := 81) (j := 79) (qv) (by decide)).trans g79
  have g80 := (eval_far c6 (i := 81) (j := 80) (qv) (by decide)).trans g80
  generalize c6.put (some 81) (qv) = c7 at *
  clear ho hg hop hd hfr
  exact P0F _ _  A7 g80 g81 hS0
def js_reg16 : List Nat := [83, 84, 85, 86, 87, 88, 89, 90, 91, 92, 11]
def takes_reg16 : List (List Nat × Nat) := [([], 0), ([0], 1), ([0, 1], 2), ([0, 1, 2], 3), ([0, 1, 2, 3], 4), ([0, 1, 2, 3, 4], 5), ([0, 1, 2, 3, 4, 5], 6), ([0, 1, 2, 3, 4, 5, 6], 7), ([0, 1, 2, 3, 4, 5, 6, 7], 8)]
set_option maxHeartbeats 3200000 in
theorem reg16 {ops : Array Oper} {Q : Exit → Act → World → Prop} {a0 : Act} {w5 : World} {b7 b8 g off nn cc k : Nat} {qv : Value} {p1 p2 p3 : Int} {t1 : Array TypeId}
    (q0 : isOpG ops 0 none (.move (.tmp 0)) (some 83))
    (q1 : isOpG ops 1 none (.fieldAddr 38 (.tmp 8) 2) (some 84))
    (q2 : isOpG ops 2 none (.load 3 (.tmp 84)) (some 85))
    (q3 : isOpG ops 3 none (.fieldAddr 38 (.tmp 8) 2) (some 86))
    (q4 : isOpG ops 4 none (.load 3 (.tmp 86)) (some 87))
    (q5 : isOpG ops 5 none (.binOp .add 3 (.tmp 87) (.const (.int .i64 1)) 3) (some 88))
    (q6 : isOpG ops 6 none (.slice 22 (.tmp 83) (some (.tmp 85)) (some (.tmp 88)) none) (some 89))
    (q7 : isOpG ops 7 none (.build 41 #[(0, .tmp 89)]) (some 90))
    (q8 : isOpG ops 8 none (.load 26 (.tmp 7)) (some 91))
    (q9 : isOpG ops 9 none (.call { callee := .value (.func 9), args := #[.tmp 90, .const (.slice none 0 0), .tmp 91], argTypes := t1 }) (some 92))
    (q10 : isOpG ops 10 none (.alloc 38) (some 11))
    (q11 : isOpG ops 11 none (.store 38 (.tmp 11) (.tmp 92)) none)
    (hs : Region.noSelect ops = true) (hq : (takes_reg16.all fun p => Region.free .any ops (LR 12 p.1) p.2 && (Region.ready .any ops (LR 12 p.1)).contains p.2) = true)
    (r0F : Region.ready .any ops (LR 12 [0, 1, 2, 3, 4, 5, 6, 7, 8]) = [9, 10]) (r0T : Region.ready .any ops (LR 12 [0, 1, 2, 3, 4, 5, 6, 7, 8, 10]) = [9])
    (r1F : Region.ready .any ops (LR 12 [0, 1, 2, 3, 4, 5, 6, 7, 8, 9]) = [10]) (r1T : Region.ready .any ops (LR 12 [0, 1, 2, 3, 4, 5, 6, 7, 8, 9, 10]) = [11])
    (rend : Region.ready .any ops (LR 12 [0, 1, 2, 3, 4, 5, 6, 7, 8, 9, 10, 11]) = [])
    (hQ : ∀ (d : Option Tmp) (v : Value) c a w, Q (.panic c) (a.put d v) w → Q (.panic c) a w)
    (hsz : 92 < a0.tmps.size) (e0 : a0.eval (.tmp 0) = .slice (some ⟨g, off, none⟩) nn cc) (e7 : a0.eval (.tmp 7) = .pointer (some ⟨b7, 0, none⟩)) (e8 : a0.eval (.tmp 8) = .pointer (some ⟨b8, 0, none⟩))
    (hk1 : k + 1 ≤ nn) (hnc : nn ≤ cc) (hk2 : k ≤ 1000000000) (LK : ∀ u, Below w5.heap.size w5 u → (loadVar 3 ⟨b8, 2, none⟩).run Tryz.prog u = .ok (.int .i64 (k : Int)) u) (LA : ∀ u, Below w5.heap.size w5 u → (loadVar 26 ⟨b7, 0, none⟩).run Tryz.prog u = .ok qv u)
    (C1 : ∀ u, Below w5.heap.size w5 u → Calls Tryz.prog 9 #[.agg #[.slice (some ⟨g, off + k * 3, none⟩) 1 (cc - k)], .slice none 0 0, qv] u fun e w' => e = .returned (.agg #[.int .i8 p1, .int .i64 p2, .int .i64 p3]) ∧ Below u.heap.size u w')
    (F : ∀ (a : Act) (wc : World) (b20 : Nat), Ag js_reg16 a0 a → a.eval (.tmp 11) = .pointer (some ⟨b20, 0, none⟩) → RL wc b20 38 [.int .i8 p1, .int .i64 p2, .int .i64 p3] → w5.heap.size ≤ b20 → Below w5.heap.size w5 wc → Q .normal a wc) :
    wpAnyH Tryz.prog .any ops Q (fun u => Below w5.heap.size w5 u) 12 (LR 12 []) a0 w5.drew := by
  have hall : ∀ p ∈ takes_reg16, Region.free .any ops (LR 12 p.1) p.2 = true ∧ (Region.ready .any ops (LR 12 p.1)).contains p.2 = true := by
    intro p hp
    have := List.all_eq_true.1 hq p hp
    simpa using this
  unfold takes_reg16 at hall
  have kS : ∀ {u u' : World}, Below w5.heap.size w5 u → Below u.heap.size u u' → Below w5.heap.size w5 u' := fun h b => h.trans (b.mono h.size)
  have kA : ∀ {u : World} (o : Obj), Below u.heap.size u (u.alloc o) := fun o => (Below.refl _ _).alloc (Nat.le_refl _) _
  have P1T : ∀ (a : Act) (u : World) (b20 : Nat), Ag js_reg16 a0 a → a.eval (.tmp 92) = .agg #[.int .i8 p1, .int .i64 p2, .int .i64 p3] → a.eval (.tmp 11) = .pointer (some ⟨b20, 0, none⟩) → RL u b20 38 [.int .i8 0, .int .i64 0, .int .i64 0] → w5.heap.size ≤ b20 → b20 < u.heap.size → Below w5.heap.size w5 u → wpAnyH Tryz.prog .any ops Q (fun u => Below w5.heap.size w5 u) 1 (LR 12 [0, 1, 2, 3, 4, 5, 6, 7, 8, 9, 10]) a u := by
    intro a u b20 hA h0 h20 hR hb hbl hS
    refine wpAnyH_all r1T (by simp) ?_
    intro i hi
    obtain rfl := List.mem_singleton.1 hi
    obtain ⟨o9, ho, hg, hop, hd⟩ := isOpG_out q11
    refine wpOp_skipG ho (wantedN hg) (run_storeRf _ _ hop u h20 h0 hR) ?_
    have hS' : Below w5.heap.size w5 (rf3 u b20 p1 p2 p3) := rf3_below hS hb _ _ _
    refine ⟨hS', ?_⟩
    rw [hd]
    show wpAnyH _ _ _ _ _ 0 (LR 12 [0, 1, 2, 3, 4, 5, 6, 7, 8, 9, 10, 11]) a _
    exact wpAnyH_done rend (F _ _ b20 hA h20 (rf3_rl hR p1 p2 p3) hb hS') _
  have P1F : ∀ (a : Act) (u : World), Ag js_reg16 a0 a → a.eval (.tmp 92) = .agg #[.int .i8 p1, .int .i64 p2, .int .i64 p3] → Below w5.heap.size w5 u → wpAnyH Tryz.prog .any ops Q (fun u => Below w5.heap.size w5 u) 2 (LR 12 [0, 1, 2, 3, 4, 5, 6, 7, 8, 9]) a u := by
    intro a u hA h0 hS
    refine wpAnyH_all r1F (by simp) ?_
    intro i hi
    obtain rfl := List.mem_singleton.1 hi
    obtain ⟨o8, ho, hg, hop, hd⟩ := isOpG_out q10
    refine wpOp_valG ho (wantedN hg) (run_allocRf _ _ hop u) ⟨kS hS (kA _), ?_⟩
    rw [hd, ← LR_snoc]
    exact P1T _ _ u.heap.size (hA.put (by decide) _) (by rw [eval_far _ _ (by decide)]; exact h0) (eval_sameA hA _ (by omega)) (rl_new u _ _) hS.size (by simp) (kS hS (kA _))
  have P0T : ∀ (a : Act) (u : World) (b20 : Nat), Ag js_reg16 a0 a → a.eval (.tmp 90) = .agg #[.slice (some ⟨g, off + k * 3, none⟩) 1 (cc - k)] → a.eval (.tmp 91) = qv → a.eval (.tmp 11) = .pointer (some ⟨b20, 0, none⟩) → RL u b20 38 [.int .i8 0, .int .i64 0, .int .i64 0] → w5.heap.size ≤ b20 → b20 < u.heap.size → Below w5.heap.size w5 u → wpAnyH Tryz.prog .any ops Q (fun u => Below w5.heap.size w5 u) 2 (LR 12 [0, 1, 2, 3, 4, 5, 6, 7, 8, 10]) a u := by
    intro a u b20  hA f90 f91 h20 hR hb hbl hS
    refine wpAnyH_all r0T (by simp) ?_
    intro i hi
    obtain rfl := List.mem_singleton.1 hi
    obtain ⟨o9, ho, hg, hop, hd⟩ := isOpG_out q9
    refine wpOp_callG ho (wantedN hg) (run_callV 9 Tryz.func9 (by kernel_rfl) (by kernel_rfl) #[.tmp 90, .const (.slice none 0 0), .tmp 91] _ hop #[.agg #[.slice (some ⟨g, off + k * 3, none⟩) 1 (cc - k)], .slice none 0 0, qv] (by simp only [List.map_toArray, List.map_cons, List.map_nil, eval_constV, f90, f91])) ?_
    refine (C1 u hS).mono ?_
    rintro e u1 ⟨rfl, b1⟩
    refine ⟨_, rfl, kS hS b1, ?_⟩
    rw [hd, ← LR_snoc]
    exact P1T _ _ b20  (hA.put (by decide) _) (eval_sameA hA _ (by omega)) (by rw [eval_far _ _ (by decide)]; exact h20) (hR.below b1) hb (Nat.lt_of_lt_of_le hbl b1.size) (kS hS b1) 
  have P0F : ∀ (a : Act) (u : World), Ag js_reg16 a0 a → a.eval (.tmp 90) = .agg #[.slice (some ⟨g, off + k * 3, none⟩) 1 (cc - k)] → a.eval (.tmp 91) = qv → Below w5.heap.size w5 u → wpAnyH Tryz.prog .any ops Q (fun u => Below w5.heap.size w5 u) 3 (LR 12 [0, 1, 2, 3, 4, 5, 6, 7, 8]) a u := by
    intro a u  hA f90 f91 hS
    refine wpAnyH_all r0F (by simp) ?_
    intro i hi
    rcases List.mem_cons.1 hi with rfl | hi
    · obtain ⟨o9, ho, hg, hop, hd⟩ := isOpG_out q9
      refine wpOp_callG ho (wantedN hg) (run_callV 9 Tryz.func9 (by kernel_rfl) (by kernel_rfl) #[.tmp 90, .const (.slice none 0 0), .tmp 91] _ hop #[.agg #[.slice (some ⟨g, off + k * 3, none⟩) 1 (cc - k)], .slice none 0 0, qv] (by simp only [List.map_toArray, List.map_cons, List.map_nil, eval_constV, f90, f91])) ?_
      refine (C1 u hS).mono ?_
      rintro e u1 ⟨rfl, b1⟩
      refine ⟨_, rfl, kS hS b1, ?_⟩
      rw [hd, ← LR_snoc]
      exact P1F _ _  (hA.put (by decide) _) (eval_sameA hA _ (by omega)) (kS hS b1) 
    · obtain rfl := List.mem_singleton.1 hi
      obtain ⟨o8, ho, hg, hop, hd⟩ := isOpG_out q10
      refine wpOp_valG ho (wantedN hg) (run_allocRf _ _ hop u) ⟨kS hS (kA _), ?_⟩
      rw [hd, ← LR_snoc]
      exact P0T _ _ u.heap.size  (hA.put (by decide) _) (by rw [eval_far _ _ (by decide)]; exact f90) (by rw [eval_far _ _ (by decide)]; exact f91) (eval_sameA hA _ (by omega)) (rl_new u _ _) hS.size (by simp) (kS hS (kA _))
  have hS0 : Below w5.heap.size w5 w5.drew := (Below.refl _ _).drew
  have A0 := Ag.refl js_reg16 a0
  obtain ⟨o0, ho, hg, hop, hd⟩ := isOpG_out q0
  have hfr := hall ([], 0) (by simp)
  refine wpAnyH_take (listed := LR 12 []) (v := .slice (some ⟨g, off, none⟩) nn cc) ho hs hfr.1 hfr.2 (hQ _ _) (Or.inl ⟨wantedN hg, fun w' hS => run_move _ _ hop w' e0⟩) hS0 ?_
  rw [hd, ← LR_snoc]
  have A1 := A0.put (i := 83) (by decide) (.slice (some ⟨g, off, none⟩) nn cc)
  have g83 := eval_sameA A0 (.slice (some ⟨g, off, none⟩) nn cc) (i := 83) (by omega)
  have e0 := (eval_far a0 (i := 83) (j := 0) (.slice (some ⟨g, off, none⟩) nn cc) (by decide)).trans e0
  have e7 := (eval_far a0 (i := 83) (j := 7) (.slice (some ⟨g, off, none⟩) nn cc) (by decide)).trans e7
  have e8 := (eval_far a0 (i := 83) (j := 8) (.slice (some ⟨g, off, none⟩) nn cc) (by decide)).trans e8
  generalize a0.put (some 83) (.slice (some ⟨g, off, none⟩) nn cc) = c1 at *
  clear ho hg hop hd hfr
  obtain ⟨o1, ho, hg, hop, hd⟩ := isOpG_out q1
  have hfr := hall ([0], 1) (by simp)
  refine wpAnyH_take (listed := LR 12 [0]) (v := .pointer (some ⟨b8, 2, none⟩)) ho hs hfr.1 hfr.2 (hQ _ _) (Or.inl ⟨wantedN hg, fun w' hS => run_fldRf2 _ _ hop w' e8⟩) hS0 ?_
  rw [hd, ← LR_snoc]
  have A2 := A1.put (i := 84) (by decide) (.pointer (some ⟨b8, 2, none⟩))
  have g84 := eval_sameA A1 (.pointer (some ⟨b8, 2, none⟩)) (i := 84) (by omega)
  have e0 := (eval_far c1 (i := 84) (j := 0) (.pointer (some ⟨b8, 2, none⟩)) (by decide)).trans e0
  have e7 := (eval_far c1 (i := 84) (j := 7) (.pointer (some ⟨b8, 2, none⟩)) (by decide)).trans e7
  have e8 := (eval_far c1 (i := 84) (j := 8) (.pointer (some ⟨b8, 2, none⟩)) (by decide)).trans e8
  have g83 := (eval_far c1 (i := 84) (j := 83) (.pointer (some ⟨b8, 2, none⟩)) (by decide)).trans g83
  generalize c1.put (some 84) (.pointer (some ⟨b8, 2, none⟩)) = c2 at *
  clear ho hg hop hd hfr
  obtain ⟨o2, ho, hg, hop, hd⟩ := isOpG_out q2
  have hfr := hall ([0, 1], 2) (by simp)
  refine wpAnyH_take (listed := LR 12 [0, 1]) (v := .int .i64 (k : Int)) ho hs hfr.1 hfr.2 (hQ _ _) (Or.inl ⟨wantedN hg, fun w' hS => run_loadG _ _ hop w' g84 (LK w' hS)⟩) hS0 ?_
  rw [hd, ← LR_snoc]
  have A3 := A2.put (i := 85) (by decide) (.int .i64 (k : Int))
  have g85 := eval_sameA A2 (.int .i64 (k : Int)) (i := 85) (by omega)
  have e0 := (eval_far c2 (i := 85) (j := 0) (.int .i64 (k : Int)) (by decide)).trans e0
  have e7 := (eval_far c2 (i := 85) (j := 7) (.int .i64 (k : Int)) (by decide)).trans e7
  have e8 := (eval_far c2 (i := 85) (j := 8) (.int .i64 (k : Int)) (by decide)).trans e8
  have g83 := (eval_far c2 (i := 85) (j := 83) (.int .i64 (k : Int)) (by decide)).trans g83
  have g84 := (eval_far c2 (i := 85) (j := 84) (.int .i64 (k : Int)) (by decide)).trans g84
  generalize c2.put (some 85) (.int .i64 (k : Int)) = c3 at *
  clear ho hg hop hd hfr
  obtain ⟨o3, ho, hg, hop, hd⟩ := isOpG_out q3
  have hfr := hall ([0, 1, 2], 3) (by simp)
  refine wpAnyH_take (listed := LR 12 [0, 1, 2]) (v := .pointer (some ⟨b8, 2, none⟩)) ho hs hfr.1 hfr.2 (hQ _ _) (Or.inl ⟨wantedN hg, fun w' hS => run_fldRf2 _ _ hop w' e8⟩) hS0 ?_
  rw [hd, ← LR_snoc]
  have A4 := A3.put (i := 86) (by decide) (.pointer (some ⟨b8, 2, none⟩))
  have g86 := eval_sameA A3 (.pointer (some ⟨b8, 2, none⟩)) (i := 86) (by omega)
  have e0 := (eval_far c3 (i := 86) (j := 0) (.pointer (some ⟨b8, 2, none⟩)) (by decide)).trans e0
  have e7 := (eval_far c3 (i := 86) (j := 7) (.pointer (some ⟨b8, 2, none⟩)) (by decide)).trans e7
  have e8 := (eval_far c3 (i := 86) (j := 8) (.pointer (some ⟨b8, 2, none⟩)) (by decide)).trans e8
  have g83 := (eval_far c3 (i := 86) (j := 83) (.pointer (some ⟨b8, 2, none⟩)) (by decide)).trans g83
  have g84 := (eval_far c3 (i := 86) (j := 84) (.pointer (some ⟨b8, 2, none⟩)) (by decide)).trans g84
  have g85 := (eval_far c3 (i := 86) (j := 85) (.pointer (some ⟨b8, 2, none⟩)) (by decide)).trans g85
  generalize c3.put (some 86) (.pointer (some ⟨b8, 2, none⟩)) = c4 at *
  clear ho hg hop hd hfr
  obtain ⟨o4, ho, hg, hop, hd⟩ := isOpG_out q4
  have hfr := hall ([0, 1, 2, 3], 4) (by simp)
  refine wpAnyH_take (listed := LR 12 [0, 1, 2, 3]) (v := .int .i64 (k : Int)) ho hs hfr.1 hfr.2 (hQ _ _) (Or.inl ⟨wantedN hg, fun w' hS => run_loadG _ _ hop w' g86 (LK w' hS)⟩) hS0 ?_
  rw [hd, ← LR_snoc]
  have A5 := A4.put (i := 87) (by decide) (.int .i64 (k : Int))
  have g87 := eval_sameA A4 (.int .i64 (k : Int)) (i := 87) (by omega)
  have e0 := (eval_far c4 (i := 87) (j := 0) (.int .i64 (k : Int)) (by decide)).trans e0
  have e7 := (eval_far c4 (i := 87) (j := 7) (.int .i64 (k : Int)) (by decide)).trans e7
  have e8 := (eval_far c4 (i := 87) (j := 8) (.int .i64 (k : Int)) (by decide)).trans e8
  have g83 := (eval_far c4 (i := 87) (j := 83) (.int .i64 (k : Int)) (by decide)).trans g83
  have g84 := (eval_far c4 (i := 87) (j := 84) (.int .i64 (k : Int)) (by decide)).trans g84
  have g85 := (eval_far c4 (i := 87) (j := 85) (.int .i64 (k : Int)) (by decide)).trans g85
  have g86 := (eval_far c4 (i := 87) (j := 86) (.int .i64 (k : Int)) (by decide)).trans g86
  generalize c4.put (some 87) (.int .i64 (k : Int)) = c5 at *
  clear ho hg hop hd hfr
  obtain ⟨o5, ho, hg, hop, hd⟩ := isOpG_out q5
  have hfr := hall ([0, 1, 2, 3, 4], 5) (by simp)
  refine wpAnyH_take (listed := LR 12 [0, 1, 2, 3, 4]) (v := .int .i64 ((k : Int) + 1)) ho hs hfr.1 hfr.2 (hQ _ _) (Or.inl ⟨wantedN hg, fun w' hS => run_binV _ _ hop w' g87 rfl (by first | rfl | go_simp) (run_add1 hk2 w')⟩) hS0 ?_
  rw [hd, ← LR_snoc]
  have A6 := A5.put (i := 88) (by decide) (.int .i64 ((k : Int) + 1))
  have g88 := eval_sameA A5 (.int .i64 ((k : Int) + 1)) (i := 88) (by omega)
  have e0 := (eval_far c5 (i := 88) (j := 0) (.int .i64 ((k : Int) + 1)) (by decide)).trans e0
  have e7 := (eval_far c5 (i := 88) (j := 7) (.int .i64 ((k : Int) + 1)) (by decide)).trans e7
  have e8 := (eval_far c5 (i := 88) (j := 8) (.int .i64 ((k : Int) + 1)) (by decide)).trans e8
  have g83 := (eval_far c5 (i := 88) (j := 83) (.int .i64 ((k : Int) + 1)) (by decide)).trans g83
  have g84 := (eval_far c5 (i := 88) (j := 84) (.int .i64 ((k : Int) + 1)) (by decide)).trans g84
  have g85 := (eval_far c5 (i := 88) (j := 85) (.int .i64 ((k : Int) + 1)) (by decide)).trans g85
  have g86 := (eval_far c5 (i := 88) (j := 86) (.int .i64 ((k : Int) + 1)) (by decide)).trans g86
  have g87 := (eval_far c5 (i := 88) (j := 87) (.int .i64 ((k : Int) + 1)) (by decide)).trans g87
  generalize c5.put (some 88) (.int .i64 ((k : Int) + 1)) = c6 at *
  clear ho hg hop hd hfr
  obtain ⟨o6, ho, hg, hop, hd⟩ := isOpG_out q6
  have hfr := hall ([0, 1, 2, 3, 4, 5], 6) (by simp)
  refine wpAnyH_take (listed := LR 12 [0, 1, 2, 3, 4, 5]) (v := .slice (some ⟨g, off + k * 3, none⟩) 1 (cc - k)) ho hs hfr.1 hfr.2 (hQ _ _) (Or.inl ⟨wantedN hg, fun w' hS => run_slOneR _ _ hop w' g83 g85 (g88.trans (by rfl)) hk1 hnc⟩) hS0 ?_
  rw [hd, ← LR_snoc]
  have A7 := A6.put (i := 89) (by decide) (.slice (some ⟨g, off + k * 3, none⟩) 1 (cc - k))
  have g89 := eval_sameA A6 (.slice (some ⟨g, off + k * 3, none⟩) 1 (cc - k)) (i := 89) (by omega)
  have e0 := (eval_far c6 (i := 89) (j := 0) (.slice (some ⟨g, off + k * 3, none⟩) 1 (cc - k)) (by decide)).trans e0
  have e7 := (eval_far c6 (i := 89) (j := 7) (.slice (some ⟨g, off + k * 3, none⟩) 1 (cc - k)) (by decide)).trans e7
  have e8 := (eval_far c6 (i := 89) (j := 8) (.slice (some ⟨g, off + k * 3, none⟩) 1 (cc - k)) (by decide)).trans e8
  have g83 := (eval_far c6 (i := 89) (j := 83) (.slice (some ⟨g, off + k * 3, none⟩) 1 (cc - k)) (by decide)).trans g83
  have g84 := (eval_far c6 (i := 89) (j := 84) (.slice (some ⟨g, off + k * 3, none⟩) 1 (cc - k)) (by decide)).trans g84
  have g85 := (eval_far c6 (i := 89) (j := 85) (.slice (some ⟨g, off + k * 3, none⟩) 1 (cc - k)) (by decide)).trans g85
  have g86 := (eval_far c6 (i := 89) (j := 86) (.slice (some ⟨g, off + k * 3, none⟩) 1 (cc - k)) (by decide)).trans g86
  have g87 := (eval_far c6 (i := 89) (j := 87) (.slice (some ⟨g, off + k * 3, none⟩) 1 (cc - k)) (by decide)).trans g87
  have g88 := (eval_far c6 (i := 89) (j := 88) (.slice (some ⟨g, off + k * 3, none⟩) 1 (cc - k)) (by decide)).trans g88
  generalize c6.put (some 89) (.slice (some ⟨g, off + k * 3, none⟩) 1 (cc - k)) = c7 at *
  clear ho hg hop hd hfr
  obtain ⟨o7, ho, hg, hop, hd⟩ := isOpG_out q7
  have hfr := hall ([0, 1, 2, 3, 4, 5, 6], 7) (by simp)
  refine wpAnyH_take (listed := LR 12 [0, 1, 2, 3, 4, 5, 6]) (v := .agg #[.slice (some ⟨g, off + k * 3, none⟩) 1 (cc - k)]) ho hs hfr.1 hfr.2 (hQ _ _) (Or.inl ⟨wantedN hg, fun w' hS => run_buildPg _ _ hop w' g89⟩) hS0 ?_
  rw [hd, ← LR_snoc]
  have A8 := A7.put (i := 90) (by decide) (.agg #[.slice (some ⟨g, off + k * 3, none⟩) 1 (cc - k)])
  have g90 := eval_sameA A7 (.agg #[.slice (some ⟨g, off + k * 3, none⟩) 1 (cc - k)]) (i := 90) (by omega)
  have e0 := (eval_far c7 (i := 90) (j := 0) (.agg #[.slice (some ⟨g, off + k * 3, none⟩) 1 (cc - k)]) (by decide)).trans e0
  have e7 := (eval_far c7 (i := 90) (j := 7) (.agg #[.slice (some ⟨g, off + k * 3, none⟩) 1 (cc - k)]) (by decide)).trans e7
  have e8 := (eval_far c7 (i := 90) (j := 8) (.agg #[.slice (some ⟨g, off + k * 3, none⟩) 1 (cc - k)]) (by decide)).trans e8
  have g83 := (eval_far c7 (i := 90) (j := 83) (.agg #[.slice (some ⟨g, off + k * 3, none⟩) 1 (cc - k)]) (by decide)).trans g83
  have g84 := (eval_far c7 (i := 90) (j := 84) (.agg #[.slice (some ⟨g, off + k * 3, none⟩) 1 (cc - k)]) (by decide)).trans g84
  have g85 := (eval_far c7 (i := 90) (j := 85) (.agg #[.slice (some ⟨g, off + k * 3, none⟩) 1 (cc - k)]) (by decide)).trans g85
  have g86 := (eval_far c7 (i := 90) (j := 86) (.agg #[.slice (some ⟨g, off + k * 3, none⟩) 1 (cc - k)]) (by decide)).trans g86
  have g87 := (eval_far c7 (i := 90) (j := 87) (.agg #[.slice (some ⟨g, off + k * 3, none⟩) 1 (cc - k)]) (by decide)).trans g87
  have g88 := (eval_far c7 (i := 90) (j := 88) (.agg #[.slice (some ⟨g, off + k * 3, none⟩) 1 (cc - k)]) (by decide)).trans g88
  have g89 := (eval_far c7 (i := 90) (j := 89) (.agg #[.slice (some ⟨g, off + k * 3, none⟩) 1 (cc - k)]) (by decide)).trans g89
  generalize c7.put (some 90) (.agg #[.slice (some ⟨g, off + k * 3, none⟩) 1 (cc - k)]) = c8 at *
  clear ho hg hop hd hfr
  obtain ⟨o8, ho, hg, hop, hd⟩ := isOpG_out q8
  have hfr := hall ([0, 1, 2, 3, 4, 5, 6, 7], 8) (by simp)
  refine wpAnyH_take (listed := LR 12 [0, 1, 2, 3, 4, 5, 6, 7]) (v := qv) ho hs hfr.1 hfr.2 (hQ _ _) (Or.inl ⟨wantedN hg, fun w' hS => run_loadG _ _ hop w' e7 (LA w' hS)⟩) hS0 ?_
  rw [hd, ← LR_snoc]
  have A9 := A8.put (i := 91) (by decide) (qv)
  have g91 := eval_sameA A8 (qv) (i := 91) (by omega)
  have e0 := (eval_far c8 (i := 91) (j := 0) (qv) (by decide)).trans e0
  have e7 := (eval_far c8 (i := 91) (j := 7) (qv) (by decide)).trans e7
  have e8 := (eval_far c8 (i := 91) (j := 8) (qv) (by decide)).trans e8
  have g83 := (eval_far c8 (i := 91) (j := 83) (qv) (by decide)).trans g83
  have g84 := (eval_far c8 (i := 91) (j := 84) (qv) (by decide)).trans g84
  have g85 := (eval_far c8 (i := 91) (j := 85) (qv) (by decide)).trans g85
  have g86 := (eval_far c8 (i := 91) (j := 86) (qv) (by decide)).trans g86
  have g87 := (eval_far c8 (i := 91) (j := 87) (qv) (by decide)).trans g87
  have g88 := (eval_far c8 (i := 91) (j := 88) (qv) (by decide)).trans g88
  have g89 := (eval_far c8 (i := 91) (j := 89) (qv) (by decide)).trans g89
  have g90 := (eval_far c8 (i := 91) (j := 90) (qv) (by decide)).trans g90
  generalize c8.put (some 91) (qv) = c9 at *
  clear ho hg hop hd hfr
  exact P0F _ _  A9 g90 g91 hS0
def cf26_takes : List (List Nat × Nat) := [([], 0), ([0], 1), ([0, 1], 4), ([0, 1, 4, 2, 3], 5), ([0, 1, 4, 2, 3, 5], 6), ([0, 1, 4, 2, 3, 5, 6], 7), ([0, 1, 4, 2, 3, 5, 6, 7], 8), ([0, 1, 4, 2, 3, 5, 6, 7, 8], 9), ([0, 1, 4, 2, 3, 5, 6, 7, 8, 9], 10), ([0, 1, 4, 2, 3, 5, 6, 7, 8, 9, 10], 11), ([0, 1, 4, 2, 3, 5, 6, 7, 8, 9, 10, 11], 12), ([0, 1, 4, 2, 3, 5, 6, 7, 8, 9, 10, 11, 12], 13), ([0, 1, 4, 2, 3, 5, 6, 7, 8, 9, 10, 11, 12, 13], 14), ([0, 1, 4, 2, 3, 5, 6, 7, 8, 9, 10, 11, 12, 13, 14], 15), ([0, 1, 4, 2, 3, 5, 6, 7, 8, 9, 10, 11, 12, 13, 14, 15], 16), ([0, 1, 4, 2, 3, 5, 6, 7, 8, 9, 10, 11, 12, 13, 14, 15, 16], 19), ([0, 1, 4, 2, 3, 5, 6, 7, 8, 9, 10, 11, 12, 13, 14, 15, 16, 19, 17, 18], 20), ([0, 1, 4, 2, 3, 5, 6, 7, 8, 9, 10, 11, 12, 13, 14, 15, 16, 19, 17, 18, 20], 21), ([0, 1, 4, 2, 3, 5, 6, 7, 8, 9, 10, 11, 12, 13, 14, 15, 16, 19, 17, 18, 20, 21], 22), ([0, 1, 4, 2, 3, 5, 6, 7, 8, 9, 10, 11, 12, 13, 14, 15, 16, 19, 17, 18, 20, 21, 22], 23), ([0, 1, 4, 2, 3, 5, 6, 7, 8, 9, 10, 11, 12, 13, 14, 15, 16, 19, 17, 18, 20, 21, 22, 23], 24), ([0, 1, 4, 2, 3, 5, 6, 7, 8, 9, 10, 11, 12, 13, 14, 15, 16, 19, 17, 18, 20, 21, 22, 23, 24], 25), ([0, 1, 4, 2, 3, 5, 6, 7, 8, 9, 10, 11, 12, 13, 14, 15, 16, 19, 17, 18, 20, 21, 22, 23, 24, 25], 26), ([0, 1, 4, 2, 3, 5, 6, 7, 8, 9, 10, 11, 12, 13, 14, 15, 16, 19, 17, 18, 20, 21, 22, 23, 24, 25, 26], 27), ([0, 1, 4, 2, 3, 5, 6, 7, 8, 9, 10, 11, 12, 13, 14, 15, 16, 19, 17, 18, 20, 21, 22, 23, 24, 25, 26, 27], 28), ([0, 1, 4, 2, 3, 5, 6, 7, 8, 9, 10, 11, 12, 13, 14, 15, 16, 19, 17, 18, 20, 21, 22, 23, 24, 25, 26, 27, 28], 29), ([0, 1, 4, 2, 3, 5, 6, 7, 8, 9, 10, 11, 12, 13, 14, 15, 16, 19, 17, 18, 20, 21, 22, 23, 24, 25, 26, 27, 28, 29], 31), ([0, 1, 4, 2, 3, 5, 6, 7, 8, 9, 10, 11, 12, 13, 14, 15, 16, 19, 17, 18, 20, 21, 22, 23, 24, 25, 26, 27, 28, 29, 31, 30], 32), ([0, 1, 4, 2, 3, 5, 6, 7, 8, 9, 10, 11, 12, 13, 14, 15, 16, 19, 17, 18, 20, 21, 22, 23, 24, 25, 26, 27, 28, 29, 31, 30, 32], 33), ([0, 1, 4, 2, 3, 5, 6, 7, 8, 9, 10, 11, 12, 13, 14, 15, 16, 19, 17, 18, 20, 21, 22, 23, 24, 25, 26, 27, 28, 29, 31, 30, 32, 33], 34)]
set_option maxHeartbeats 3200000 in
theorem cf26 {ops : Array Oper} {Q : Exit → Act → World → Prop} {S : World → Prop} {a0 : Act} {w5 : World} {b7 b8 b12 g off nn cc k : Nat} {rv pv qv : Value} {p1 p2 p3 : Int} {ty1 ty2 ty3 ty4 ty5 : Array TypeId}
    (q0 : isOpG ops 0 none (.load 41 (.tmp 12)) (some 162))
    (q1 : isOpG ops 1 none (.move (.tmp 0)) (some 163))
    (q4 : isOpG ops 4 none (.build 38 #[]) (some 166))
    (q2 : isOpG ops 2 none (.call { callee := .value (.func 11), args := #[.tmp 163, .const (.slice none 0 0)], argTypes := ty1 }) (some 164))
    (q3 : isOpG ops 3 none (.call { callee := .value (.func 9), args := #[.tmp 162, .const (.slice none 0 0), .tmp 164], argTypes := ty2 }) (some 165))
    (q5 : isOpG ops 5 none (.binOp .eql 38 (.tmp 165) (.tmp 166) 38) (some 167))
    (q6 : isOpG ops 6 none (.move (.tmp 167)) (some 168))
    (q7 : isOpG ops 7 (some (6, true)) (.load 41 (.tmp 12)) (some 169))
    (q8 : isOpG ops 8 (some (6, true)) (.move (.tmp 1)) (some 170))
    (q9 : isOpG ops 9 (some (6, true)) (.fieldAddr 38 (.tmp 8) 2) (some 171))
    (q10 : isOpG ops 10 (some (6, true)) (.load 3 (.tmp 171)) (some 172))
    (q11 : isOpG ops 11 (some (6, true)) (.slice 23 (.tmp 170) none (some (.tmp 172)) none) (some 173))
    (q12 : isOpG ops 12 (some (6, true)) (.move (.tmp 0)) (some 174))
    (q13 : isOpG ops 13 (some (6, true)) (.move (.tmp 1)) (some 175))
    (q14 : isOpG ops 14 (some (6, true)) (.fieldAddr 38 (.tmp 8) 2) (some 176))
    (q15 : isOpG ops 15 (some (6, true)) (.load 3 (.tmp 176)) (some 177))
    (q16 : isOpG ops 16 (some (6, true)) (.slice 23 (.tmp 175) none (some (.tmp 177)) none) (some 178))
    (q19 : isOpG ops 19 (some (6, true)) (.build 38 #[]) (some 181))
    (q17 : isOpG ops 17 (some (6, true)) (.call { callee := .value (.func 11), args := #[.tmp 174, .tmp 178], argTypes := ty3 }) (some 179))
    (q18 : isOpG ops 18 (some (6, true)) (.call { callee := .value (.func 9), args := #[.tmp 169, .tmp 173, .tmp 179], argTypes := ty4 }) (some 180))
    (q20 : isOpG ops 20 (some (6, true)) (.binOp .eql 38 (.tmp 180) (.tmp 181) 38) (some 182))
    (q21 : isOpG ops 21 none (.pick (.tmp 168) (.tmp 182) (.const (.bool false))) (some 183))
    (q22 : isOpG ops 22 none (.move (.tmp 183)) (some 184))
    (q23 : isOpG ops 23 (some (22, true)) (.load 41 (.tmp 12)) (some 185))
    (q24 : isOpG ops 24 (some (22, true)) (.move (.tmp 1)) (some 186))
    (q25 : isOpG ops 25 (some (22, true)) (.fieldAddr 38 (.tmp 8) 2) (some 187))
    (q26 : isOpG ops 26 (some (22, true)) (.load 3 (.tmp 187)) (some 188))
    (q27 : isOpG ops 27 (some (22, true)) (.binOp .add 3 (.tmp 188) (.const (.int .i64 1)) 3) (some 189))
    (q28 : isOpG ops 28 (some (22, true)) (.slice 23 (.tmp 186) none (some (.tmp 189)) none) (some 190))
    (q29 : isOpG ops 29 (some (22, true)) (.load 26 (.tmp 7)) (some 191))
    (q31 : isOpG ops 31 (some (22, true)) (.load 38 (.tmp 8)) (some 193))
    (q30 : isOpG ops 30 (some (22, true)) (.call { callee := .value (.func 9), args := #[.tmp 185, .tmp 190, .tmp 191], argTypes := ty5 }) (some 192))
    (q32 : isOpG ops 32 (some (22, true)) (.binOp .eql 38 (.tmp 192) (.tmp 193) 38) (some 194))
    (q33 : isOpG ops 33 none (.pick (.tmp 184) (.tmp 194) (.const (.bool false))) (some 195))
    (q34 : isOpG ops 34 none (.assign (.tmp 195)) (some 6))
    (hs : Region.noSelect ops = true) (hq : (cf26_takes.all fun p => Region.free .any ops (LR 35 p.1) p.2 && (Region.ready .any ops (LR 35 p.1)).contains p.2) = true)
    (r2 : Region.ready .any ops (LR 35 [0, 1, 4]) = [2])
    (r3 : Region.ready .any ops (LR 35 [0, 1, 4, 2]) = [3])
    (r17 : Region.ready .any ops (LR 35 [0, 1, 4, 2, 3, 5, 6, 7, 8, 9, 10, 11, 12, 13, 14, 15, 16, 19]) = [17])
    (r18 : Region.ready .any ops (LR 35 [0, 1, 4, 2, 3, 5, 6, 7, 8, 9, 10, 11, 12, 13, 14, 15, 16, 19, 17]) = [18])
    (r30 : Region.ready .any ops (LR 35 [0, 1, 4, 2, 3, 5, 6, 7, 8, 9, 10, 11, 12, 13, 14, 15, 16, 19, 17, 18, 20, 21, 22, 23, 24, 25, 26, 27, 28, 29, 31]) = [30])
    (rend : Region.ready .any ops (LR 35 [0, 1, 4, 2, 3, 5, 6, 7, 8, 9, 10, 11, 12, 13, 14, 15, 16, 19, 17, 18, 20, 21, 22, 23, 24, 25, 26, 27, 28, 29, 31, 30, 32, 33, 34]) = [])
    (hQ : ∀ (d : Option Tmp) (v : Value) c a w, Q (.panic c) (a.put d v) w → Q (.panic c) a w)
    (hsz : 195 < a0.tmps.size) (e0 : a0.eval (.tmp 0) = rv) (e1 : a0.eval (.tmp 1) = .slice (some ⟨g, off, none⟩) nn cc) (e7 : a0.eval (.tmp 7) = .pointer (some ⟨b7, 0, none⟩)) (e8 : a0.eval (.tmp 8) = .pointer (some ⟨b8, 0, none⟩)) (e12 : a0.eval (.tmp 12) = .pointer (some ⟨b12, 0, none⟩))
    (hS0 : S w5.drew)
    (keep : ∀ u u', S u → S u' → S u') (hk : k + 1 ≤ nn) (hnc : nn ≤ cc) (hk2 : k ≤ 1000000000) (LP : ∀ u, S u → (loadVar 41 ⟨b12, 0, none⟩).run Tryz.prog u = .ok (pv) u) (LK : ∀ u, S u → (loadVar 3 ⟨b8, 2, none⟩).run Tryz.prog u = .ok (.int .i64 (k : Int)) u) (LA : ∀ u, S u → (loadVar 26 ⟨b7, 0, none⟩).run Tryz.prog u = .ok (qv) u) (LX : ∀ u, S u → (loadVar 38 ⟨b8, 0, none⟩).run Tryz.prog u = .ok (.agg #[.int .i8 p1, .int .i64 p2, .int .i64 p3]) u)
    (E0 : ∀ u, (binOp .eql 38 (.agg #[.int .i8 0, .int .i64 0, .int .i64 0]) (.agg #[.int .i8 0, .int .i64 0, .int .i64 0])).run Tryz.prog u = .ok (.bool true) u) (EQ1 : ∀ u, (binOp .eql 38 (.agg #[.int .i8 p1, .int .i64 p2, .int .i64 p3]) (.agg #[.int .i8 p1, .int .i64 p2, .int .i64 p3])).run Tryz.prog u = .ok (.bool true) u)
    (C1 : Calls Tryz.prog 11 #[rv, .slice none 0 0] w5.drew fun e u1 => ∃ v1, e = .returned v1 ∧ S u1 ∧ Calls Tryz.prog 9 #[pv, .slice none 0 0, v1] u1 fun e u2 => e = .returned (.agg #[.int .i8 0, .int .i64 0, .int .i64 0]) ∧ S u2 ∧ Calls Tryz.prog 11 #[rv, .slice (some ⟨g, off, none⟩) k cc] u2 fun e u3 => ∃ v2, e = .returned v2 ∧ S u3 ∧ Calls Tryz.prog 9 #[pv, .slice (some ⟨g, off, none⟩) k cc, v2] u3 fun e u4 => e = .returned (.agg #[.int .i8 0, .int .i64 0, .int .i64 0]) ∧ S u4 ∧ Calls Tryz.prog 9 #[pv, .slice (some ⟨g, off, none⟩) (k + 1) cc, qv] u4 fun e u5 => e = .returned (.agg #[.int .i8 p1, .int .i64 p2, .int .i64 p3]) ∧ S u5)
    (F : ∀ (wc : World) (v1 v2 : Value), S wc → Q .normal (((((((((((((((((((((((((((((((((((a0.put (some 162) (pv)).put (some 163) (rv)).put (some 166) (.agg #[.int .i8 0, .int .i64 0, .int .i64 0])).put (some 164) (v1)).put (some 165) (.agg #[.int .i8 0, .int .i64 0, .int .i64 0])).put (some 167) (.bool true)).put (some 168) (.bool true)).put (some 169) (pv)).put (some 170) (.slice (some ⟨g, off, none⟩) nn cc)).put (some 171) (.pointer (some ⟨b8, 2, none⟩))).put (some 172) (.int .i64 (k : Int))).put (some 173) (.slice (some ⟨g, off, none⟩) k cc)).put (some 174) (rv)).put (some 175) (.slice (some ⟨g, off, none⟩) nn cc)).put (some 176) (.pointer (some ⟨b8, 2, none⟩))).put (some 177) (.int .i64 (k : Int))).put (some 178) (.slice (some ⟨g, off, none⟩) k cc)).put (some 181) (.agg #[.int .i8 0, .int .i64 0, .int .i64 0])).put (some 179) (v2)).put (some 180) (.agg #[.int .i8 0, .int .i64 0, .int .i64 0])).put (some 182) (.bool true)).put (some 183) (.bool true)).put (some 184) (.bool true)).put (some 185) (pv)).put (some 186) (.slice (some ⟨g, off, none⟩) nn cc)).put (some 187) (.pointer (some ⟨b8, 2, none⟩))).put (some 188) (.int .i64 (k : Int))).put (some 189) (.int .i64 ((k : Int) + 1))).put (some 190) (.slice (some ⟨g, off, none⟩) (k + 1) cc)).put (some 191) (qv)).put (some 193) (.agg #[.int .i8 p1, .int .i64 p2, .int .i64 p3])).put (some 192) (.agg #[.int .i8 p1, .int .i64 p2, .int .i64 p3])).put (some 194) (.bool true)).put (some 195) (.bool true)).put (some 6) (.bool true)) wc) :
    wpAnyH Tryz.prog .any ops Q S 35 (LR 35 []) a0 w5.drew := by
  have hall : ∀ p ∈ cf26_takes, Region.free .any ops (LR 35 p.1) p.2 = true ∧ (Region.ready .any ops (LR 35 p.1)).contains p.2 = true := by
    intro p hp
    have := List.all_eq_true.1 hq p hp
    simpa using this
  unfold cf26_takes at hall
  obtain ⟨og6, hog6, _, _, dog6⟩ := isOpG_out q6
  obtain ⟨og22, hog22, _, _, dog22⟩ := isOpG_out q22
  obtain ⟨o0, ho, hg, hop, hd⟩ := isOpG_out q0
  have hfr := hall ([], 0) (by simp)
  refine wpAnyH_take (listed := LR 35 []) (v := pv) ho hs hfr.1 hfr.2 (hQ _ _) (Or.inl ⟨(wantedN hg), fun w' hS => run_loadS _ _ hop w' (by (repeat rw [eval_far _ _ (by decide)]); exact e12) (LP _ hS)⟩) hS0 ?_
  rw [hd, ← LR_snoc]
  clear ho hg hop hd hfr
  obtain ⟨o1, ho, hg, hop, hd⟩ := isOpG_out q1
  have hfr := hall ([0], 1) (by simp)
  refine wpAnyH_take (listed := LR 35 [0]) (v := rv) ho hs hfr.1 hfr.2 (hQ _ _) (Or.inl ⟨(wantedN hg), fun w' hS => run_move _ _ hop w' (by (repeat rw [eval_far _ _ (by decide)]); exact e0)⟩) hS0 ?_
  rw [hd, ← LR_snoc]
  clear ho hg hop hd hfr
  obtain ⟨o4, ho, hg, hop, hd⟩ := isOpG_out q4
  have hfr := hall ([0, 1], 4) (by simp)
  refine wpAnyH_take (listed := LR 35 [0, 1]) (v := .agg #[.int .i8 0, .int .i64 0, .int .i64 0]) ho hs hfr.1 hfr.2 (hQ _ _) (Or.inl ⟨(wantedN hg), fun w' hS => run_buildRf0 _ _ hop w'⟩) hS0 ?_
  rw [hd, ← LR_snoc]
  clear ho hg hop hd hfr
  refine wpAnyH_all r2 (by simp) ?_
  intro i hi
  obtain rfl := List.mem_singleton.1 hi
  obtain ⟨o2, ho, hg, hop, hd⟩ := isOpG_out q2
  have x2_0 : ((((a0.put (some 162) (pv)).put (some 163) (rv)).put (some 166) (.agg #[.int .i8 0, .int .i64 0, .int .i64 0]))).eval (.tmp 163) = rv := (by (repeat (first | rw [eval_same _ _ (by (try simp only [put_size]); omega)] | rw [eval_far _ _ (by decide)])))
  have x2_1 : ((((a0.put (some 162) (pv)).put (some 163) (rv)).put (some 166) (.agg #[.int .i8 0, .int .i64 0, .int .i64 0]))).eval (.const (.slice none 0 0)) = .slice none 0 0 := rfl
  refine wpOp_callG ho (wantedN hg) (run_callV 11 Tryz.func11 (by kernel_rfl) (by kernel_rfl) #[.tmp 163, .const (.slice none 0 0)] _ hop #[rv, .slice none 0 0] (by simp only [List.map_toArray, List.map_cons, List.map_nil, x2_0, x2_1])) ?_
  refine (C1).mono ?_
  rintro e u1 ⟨v1, rfl, hS1, C2⟩
  have hS2 := keep _ _ hS0 hS1
  refine ⟨_, rfl, hS2, ?_⟩
  rw [hd]
  clear ho hg hop hd
  rw [← LR_snoc]
  refine wpAnyH_all r3 (by simp) ?_
  intro i hi
  obtain rfl := List.mem_singleton.1 hi
  obtain ⟨o3, ho, hg, hop, hd⟩ := isOpG_out q3
  have x3_0 : (((((a0.put (some 162) (pv)).put (some 163) (rv)).put (some 166) (.agg #[.int .i8 0, .int .i64 0, .int .i64 0])).put (some 164) (v1))).eval (.tmp 162) = pv := (by (repeat (first | rw [eval_same _ _ (by (try simp only [put_size]); omega)] | rw [eval_far _ _ (by decide)])))
  have x3_1 : (((((a0.put (some 162) (pv)).put (some 163) (rv)).put (some 166) (.agg #[.int .i8 0, .int .i64 0, .int .i64 0])).put (some 164) (v1))).eval (.const (.slice none 0 0)) = .slice none 0 0 := rfl
  have x3_2 : (((((a0.put (some 162) (pv)).put (some 163) (rv)).put (some 166) (.agg #[.int .i8 0, .int .i64 0, .int .i64 0])).put (some 164) (v1))).eval (.tmp 164) = v1 := (by (repeat (first | rw [eval_same _ _ (by (try simp only [put_size]); omega)] | rw [eval_far _ _ (by decide)])))
  refine wpOp_callG ho (wantedN hg) (run_callV 9 Tryz.func9 (by kernel_rfl) (by kernel_rfl) #[.tmp 162, .const (.slice none 0 0), .tmp 164] _ hop #[pv, .slice none 0 0, v1] (by simp only [List.map_toArray, List.map_cons, List.map_nil, x3_0, x3_1, x3_2])) ?_
  refine (C2).mono ?_
  rintro e u2 ⟨rfl, hS2, C3⟩
  have hS3 := keep _ _ hS2 hS2
  refine ⟨_, rfl, hS3, ?_⟩
  rw [hd]
  clear ho hg hop hd
  rw [← LR_snoc]
  obtain ⟨o5, ho, hg, hop, hd⟩ := isOpG_out q5
  have hfr := hall ([0, 1, 4, 2, 3], 5) (by simp)
  refine wpAnyH_take (listed := LR 35 [0, 1, 4, 2, 3]) (v := .bool true) ho hs hfr.1 hfr.2 (hQ _ _) (Or.inl ⟨(wantedN hg), fun w' hS => run_binV _ _ hop w' (by (repeat (first | rw [eval_same _ _ (by (try simp only [put_size]); omega)] | rw [eval_far _ _ (by decide)]))) (by (repeat (first | rw [eval_same _ _ (by (try simp only [put_size]); omega)] | rw [eval_far _ _ (by decide)]))) (geRf _ _ _ _ w') (E0 w')⟩) hS3 ?_
  rw [hd, ← LR_snoc]
  clear ho hg hop hd hfr
  obtain ⟨o6, ho, hg, hop, hd⟩ := isOpG_out q6
  have hfr := hall ([0, 1, 4, 2, 3, 5], 6) (by simp)
  refine wpAnyH_take (listed := LR 35 [0, 1, 4, 2, 3, 5]) (v := .bool true) ho hs hfr.1 hfr.2 (hQ _ _) (Or.inl ⟨(wantedN hg), fun w' hS => run_move _ _ hop w' (by (repeat (first | rw [eval_same _ _ (by (try simp only [put_size]); omega)] | rw [eval_far _ _ (by decide)])))⟩) hS3 ?_
  rw [hd, ← LR_snoc]
  clear ho hg hop hd hfr
  obtain ⟨o7, ho, hg, hop, hd⟩ := isOpG_out q7
  have hfr := hall ([0, 1, 4, 2, 3, 5, 6], 7) (by simp)
  refine wpAnyH_take (listed := LR 35 [0, 1, 4, 2, 3, 5, 6]) (v := pv) ho hs hfr.1 hfr.2 (hQ _ _) (Or.inl ⟨((wantedB hog6 dog6 hg (by (repeat (first | rw [tmps_same _ _ (by (try simp only [put_size]); omega)] | rw [tmps_far _ _ (by decide)])))).trans (by decide)), fun w' hS => run_loadS _ _ hop w' (by (repeat rw [eval_far _ _ (by decide)]); exact e12) (LP _ hS)⟩) hS3 ?_
  rw [hd, ← LR_snoc]
  clear ho hg hop hd hfr
  obtain ⟨o8, ho, hg, hop, hd⟩ := isOpG_out q8
  have hfr := hall ([0, 1, 4, 2, 3, 5, 6, 7], 8) (by simp)
  refine wpAnyH_take (listed := LR 35 [0, 1, 4, 2, 3, 5, 6, 7]) (v := .slice (some ⟨g, off, none⟩) nn cc) ho hs hfr.1 hfr.2 (hQ _ _) (Or.inl ⟨((wantedB hog6 dog6 hg (by (repeat (first | rw [tmps_same _ _ (by (try simp only [put_size]); omega)] | rw [tmps_far _ _ (by decide)])))).trans (by decide)), fun w' hS => run_move _ _ hop w' (by (repeat rw [eval_far _ _ (by decide)]); exact e1)⟩) hS3 ?_
  rw [hd, ← LR_snoc]
  clear ho hg hop hd hfr
  obtain ⟨o9, ho, hg, hop, hd⟩ := isOpG_out q9
  have hfr := hall ([0, 1, 4, 2, 3, 5, 6, 7, 8], 9) (by simp)
  refine wpAnyH_take (listed := LR 35 [0, 1, 4, 2, 3, 5, 6, 7, 8]) (v := .pointer (some ⟨b8, 2, none⟩)) ho hs hfr.1 hfr.2 (hQ _ _) (Or.inl ⟨((wantedB hog6 dog6 hg (by (repeat (first | rw [tmps_same _ _ (by (try simp only [put_size]); omega)] | rw [tmps_far _ _ (by decide)])))).trans (by decide)), fun w' hS => run_fldRf2 _ _ hop w' (by (repeat rw [eval_far _ _ (by decide)]); exact e8)⟩) hS3 ?_
  rw [hd, ← LR_snoc]
  clear ho hg hop hd hfr
  obtain ⟨o10, ho, hg, hop, hd⟩ := isOpG_out q10
  have hfr := hall ([0, 1, 4, 2, 3, 5, 6, 7, 8, 9], 10) (by simp)
  refine wpAnyH_take (listed := LR 35 [0, 1, 4, 2, 3, 5, 6, 7, 8, 9]) (v := .int .i64 (k : Int)) ho hs hfr.1 hfr.2 (hQ _ _) (Or.inl ⟨((wantedB hog6 dog6 hg (by (repeat (first | rw [tmps_same _ _ (by (try simp only [put_size]); omega)] | rw [tmps_far _ _ (by decide)])))).trans (by decide)), fun w' hS => run_loadS _ _ hop w' (by (repeat (first | rw [eval_same _ _ (by (try simp only [put_size]); omega)] | rw [eval_far _ _ (by decide)]))) (LK _ hS)⟩) hS3 ?_
  rw [hd, ← LR_snoc]
  clear ho hg hop hd hfr
  obtain ⟨o11, ho, hg, hop, hd⟩ := isOpG_out q11
  have hfr := hall ([0, 1, 4, 2, 3, 5, 6, 7, 8, 9, 10], 11) (by simp)
  refine wpAnyH_take (listed := LR 35 [0, 1, 4, 2, 3, 5, 6, 7, 8, 9, 10]) (v := .slice (some ⟨g, off, none⟩) k cc) ho hs hfr.1 hfr.2 (hQ _ _) (Or.inl ⟨((wantedB hog6 dog6 hg (by (repeat (first | rw [tmps_same _ _ (by (try simp only [put_size]); omega)] | rw [tmps_far _ _ (by decide)])))).trans (by decide)), fun w' hS => run_slHiF _ _ hop w' (by (repeat (first | rw [eval_same _ _ (by (try simp only [put_size]); omega)] | rw [eval_far _ _ (by decide)]))) (by (repeat (first | rw [eval_same _ _ (by (try simp only [put_size]); omega)] | rw [eval_far _ _ (by decide)]))) (Nat.le_of_lt hk) hnc⟩) hS3 ?_
  rw [hd, ← LR_snoc]
  clear ho hg hop hd hfr
  obtain ⟨o12, ho, hg, hop, hd⟩ := isOpG_out q12
  have hfr := hall ([0, 1, 4, 2, 3, 5, 6, 7, 8, 9, 10, 11], 12) (by simp)
  refine wpAnyH_take (listed := LR 35 [0, 1, 4, 2, 3, 5, 6, 7, 8, 9, 10, 11]) (v := rv) ho hs hfr.1 hfr.2 (hQ _ _) (Or.inl ⟨((wantedB hog6 dog6 hg (by (repeat (first | rw [tmps_same _ _ (by (try simp only [put_size]); omega)] | rw [tmps_far _ _ (by decide)])))).trans (by decide)), fun w' hS => run_move _ _ hop w' (by (repeat rw [eval_far _ _ (by decide)]); exact e0)⟩) hS3 ?_
  rw [hd, ← LR_snoc]
  clear ho hg hop hd hfr
  obtain ⟨o13, ho, hg, hop, hd⟩ := isOpG_out q13
  have hfr := hall ([0, 1, 4, 2, 3, 5, 6, 7, 8, 9, 10, 11, 12], 13) (by simp)
  refine wpAnyH_take (listed := LR 35 [0, 1, 4, 2, 3, 5, 6, 7, 8, 9, 10, 11, 12]) (v := .slice (some ⟨g, off, none⟩) nn cc) ho hs hfr.1 hfr.2 (hQ _ _) (Or.inl ⟨((wantedB hog6 dog6 hg (by (repeat (first | rw [tmps_same _ _ (by (try simp only [put_size]); omega)] | rw [tmps_far _ _ (by decide)])))).trans (by decide)), fun w' hS => run_move _ _ hop w' (by (repeat rw [eval_far _ _ (by decide)]); exact e1)⟩) hS3 ?_
  rw [hd, ← LR_snoc]
  clear ho hg hop hd hfr
  obtain ⟨o14, ho, hg, hop, hd⟩ := isOpG_out q14
  have hfr := hall ([0, 1, 4, 2, 3, 5, 6, 7, 8, 9, 10, 11, 12, 13], 14) (by simp)
  refine wpAnyH_take (listed := LR 35 [0, 1, 4, 2, 3, 5, 6, 7, 8, 9, 10, 11, 12, 13]) (v := .pointer (some ⟨b8, 2, none⟩)) ho hs hfr.1 hfr.2 (hQ _ _) (Or.inl ⟨((wantedB hog6 dog6 hg (by (repeat (first | rw [tmps_same _ _ (by (try simp only [put_size]); omega)] | rw [tmps_far _ _ (by decide)])))).trans (by decide)), fun w' hS => run_fldRf2 _ _ hop w' (by (repeat rw [eval_far _ _ (by decide)]); exact e8)⟩) hS3 ?_
  rw [hd, ← LR_snoc]
  clear ho hg hop hd hfr
  obtain ⟨o15, ho, hg, hop, hd⟩ := isOpG_out q15
  have hfr := hall ([0, 1, 4, 2, 3, 5, 6, 7, 8, 9, 10, 11, 12, 13, 14], 15) (by simp)
  refine wpAnyH_take (listed := LR 35 [0, 1, 4, 2, 3, 5, 6, 7, 8, 9, 10, 11, 12, 13, 14]) (v := .int .i64 (k : Int)) ho hs hfr.1 hfr.2 (hQ _ _) (Or.inl ⟨((wantedB hog6 dog6 hg (by (repeat (first | rw [tmps_same _ _ (by (try simp only [put_size]); omega)] | rw [tmps_far _ _ (by decide)])))).trans (by decide)), fun w' hS => run_loadS _ _ hop w' (by (repeat (first | rw [eval_same _ _ (by (try simp only [put_size]); omega)] | rw [eval_far _ _ (by decide)]))) (LK _ hS)⟩) hS3 ?_
  rw [hd, ← LR_snoc]
  clear ho hg hop hd hfr
  obtain ⟨o16, ho, hg, hop, hd⟩ := isOpG_out q16
  have hfr := hall ([0, 1, 4, 2, 3, 5, 6, 7, 8, 9, 10, 11, 12, 13, 14, 15], 16) (by simp)
  refine wpAnyH_take (listed := LR 35 [0, 1, 4, 2, 3, 5, 6, 7, 8, 9, 10, 11, 12, 13, 14, 15]) (v := .slice (some ⟨g, off, none⟩) k cc) ho hs hfr.1 hfr.2 (hQ _ _) (Or.inl ⟨((wantedB hog6 dog6 hg (by (repeat (first | rw [tmps_same _ _ (by (try simp only [put_size]); omega)] | rw [tmps_far _ _ (by decide)])))).trans (by decide)), fun w' hS => run_slHiF _ _ hop w' (by (repeat (first | rw [eval_same _ _ (by (try simp only [put_size]); omega)] | rw [eval_far _ _ (by decide)]))) (by (repeat (first | rw [eval_same _ _ (by (try simp only [put_size]); omega)] | rw [eval_far _ _ (by decide)]))) (Nat.le_of_lt hk) hnc⟩) hS3 ?_
  rw [hd, ← LR_snoc]
  clear ho hg hop hd hfr
  obtain ⟨o19, ho, hg, hop, hd⟩ := isOpG_out q19
  have hfr := hall ([0, 1, 4, 2, 3, 5, 6, 7, 8, 9, 10, 11, 12, 13, 14, 15, 16], 19) (by simp)
  refine wpAnyH_take (listed := LR 35 [0, 1, 4, 2, 3, 5, 6, 7, 8, 9, 10, 11, 12, 13, 14, 15, 16]) (v := .agg #[.int .i8 0, .int .i64 0, .int .i64 0]) ho hs hfr.1 hfr.2 (hQ _ _) (Or.inl ⟨((wantedB hog6 dog6 hg (by (repeat (first | rw [tmps_same _ _ (by (try simp only [put_size]); omega)] | rw [tmps_far _ _ (by decide)])))).trans (by decide)), fun w' hS => run_buildRf0 _ _ hop w'⟩) hS3 ?_
  rw [hd, ← LR_snoc]
  clear ho hg hop hd hfr
  refine wpAnyH_all r17 (by simp) ?_
  intro i hi
  obtain rfl := List.mem_singleton.1 hi
  obtain ⟨o17, ho, hg, hop, hd⟩ := isOpG_out q17
  have x17_0 : (((((((((((((((((((a0.put (some 162) (pv)).put (some 163) (rv)).put (some 166) (.agg #[.int .i8 0, .int .i64 0, .int .i64 0])).put (some 164) (v1)).put (some 165) (.agg #[.int .i8 0, .int .i64 0, .int .i64 0])).put (some 167) (.bool true)).put (some 168) (.bool true)).put (some 169) (pv)).put (some 170) (.slice (some ⟨g, off, none⟩) nn cc)).put (some 171) (.pointer (some ⟨b8, 2, none⟩))).put (some 172) (.int .i64 (k : Int))).put (some 173) (.slice (some ⟨g, off, none⟩) k cc)).put (some 174) (rv)).put (some 175) (.slice (some ⟨g, off, none⟩) nn cc)).put (some 176) (.pointer (some ⟨b8, 2, none⟩))).put (some 177) (.int .i64 (k : Int))).put (some 178) (.slice (some ⟨g, off, none⟩) k cc)).put (some 181) (.agg #[.int .i8 0, .int .i64 0, .int .i64 0]))).eval (.tmp 174) = rv := (by (repeat (first | rw [eval_same _ _ (by (try simp only [put_size]); omega)] | rw [eval_far _ _ (by decide)])))
  have x17_1 : (((((((((((((((((((a0.put (some 162) (pv)).put (some 163) (rv)).put (some 166) (.agg #[.int .i8 0, .int .i64 0, .int .i64 0])).put (some 164) (v1)).put (some 165) (.agg #[.int .i8 0, .int .i64 0, .int .i64 0])).put (some 167) (.bool true)).put (some 168) (.bool true)).put (some 169) (pv)).put (some 170) (.slice (some ⟨g, off, none⟩) nn cc)).put (some 171) (.pointer (some ⟨b8, 2, none⟩))).put (some 172) (.int .i64 (k : Int))).put (some 173) (.slice (some ⟨g, off, none⟩) k cc)).put (some 174) (rv)).put (some 175) (.slice (some ⟨g, off, none⟩) nn cc)).put (some 176) (.pointer (some ⟨b8, 2, none⟩))).put (some 177) (.int .i64 (k : Int))).put (some 178) (.slice (some ⟨g, off, none⟩) k cc)).put (some 181) (.agg #[.int .i8 0, .int .i64 0, .int .i64 0]))).eval (.tmp 178) = .slice (some ⟨g, off, none⟩) k cc := (by (repeat (first | rw [eval_same _ _ (by (try simp only [put_size]); omega)] | rw [eval_far _ _ (by decide)])))
  refine wpOp_callG ho ((wantedB hog6 dog6 hg (by (repeat (first | rw [tmps_same _ _ (by (try simp only [put_size]); omega)] | rw [tmps_far _ _ (by decide)])))).trans (by decide)) (run_callV 11 Tryz.func11 (by kernel_rfl) (by kernel_rfl) #[.tmp 174, .tmp 178] _ hop #[rv, .slice (some ⟨g, off, none⟩) k cc] (by simp only [List.map_toArray, List.map_cons, List.map_nil, x17_0, x17_1])) ?_
  refine (C3).mono ?_
  rintro e u3 ⟨v2, rfl, hS3, C4⟩
  have hS17 := keep _ _ hS3 hS3
  refine ⟨_, rfl, hS17, ?_⟩
  rw [hd]
  clear ho hg hop hd
  rw [← LR_snoc]
  refine wpAnyH_all r18 (by simp) ?_
  intro i hi
  obtain rfl := List.mem_singleton.1 hi
  obtain ⟨o18, ho, hg, hop, hd⟩ := isOpG_out q18
  have x18_0 : ((((((((((((((((((((a0.put (some 162) (pv)).put (some 163) (rv)).put (some 166) (.agg #[.int .i8 0, .int .i64 0, .int .i64 0])).put (some 164) (v1)).put (some 165) (.agg #[.int .i8 0, .int .i64 0, .int .i64 0])).put (some 167) (.bool true)).put (some 168) (.bool true)).put (some 169) (pv)).put (some 170) (.slice (some ⟨g, off, none⟩) nn cc)).put (some 171) (.pointer (some ⟨b8, 2, none⟩))).put (some 172) (.int .i64 (k : Int))).put (some 173) (.slice (some ⟨g, off, none⟩) k cc)).put (some 174) (rv)).put (some 175) (.slice (some ⟨g, off, none⟩) nn cc)).put (some 176) (.pointer (some ⟨b8, 2, none⟩))).put (some 177) (.int .i64 (k : Int))).put (some 178) (.slice (some ⟨g, off, none⟩) k cc)).put (some 181) (.agg #[.int .i8 0, .int .i64 0, .int .i64 0])).put (some 179) (v2))).eval (.tmp 169) = pv := (by (repeat (first | rw [eval_same _ _ (by (try simp only [put_size]); omega)] | rw [eval_far _ _ (by decide)])))
  have x18_1 : ((((((((((((((((((((a0.put (some 162) (pv)).put (some 163) (rv)).put (some 166) (.agg #[.int .i8 0, .int .i64 0, .int .i64 0])).put (some 164) (v1)).put (some 165) (.agg #[.int .i8 0, .int .i64 0, .int .i64 0])).put (some 167) (.bool true)).put (some 168) (.bool true)).put (some 169) (pv)).put (some 170) (.slice (some ⟨g, off, none⟩) nn cc)).put (some 171) (.pointer (some ⟨b8, 2, none⟩))).put (some 172) (.int .i64 (k : Int))).put (some 173) (.slice (some ⟨g, off, none⟩) k cc)).put (some 174) (rv)).put (some 175) (.slice (some ⟨g, off, none⟩) nn cc)).put (some 176) (.pointer (some ⟨b8, 2, none⟩))).put (some 177) (.int .i64 (k : Int))).put (some 178) (.slice (some ⟨g, off, none⟩) k cc)).put (some 181) (.agg #[.int .i8 0, .int .i64 0, .int .i64 0])).put (some 179) (v2))).eval (.tmp 173) = .slice (some ⟨g, off, none⟩) k cc := (by (repeat (first | rw [eval_same _ _ (by (try simp only [put_size]); omega)] | rw [eval_far _ _ (by decide)])))
  have x18_2 : ((((((((((((((((((((a0.put (some 162) (pv)).put (some 163) (rv)).put (some 166) (.agg #[.int .i8 0, .int .i64 0, .int .i64 0])).put (some 164) (v1)).put (some 165) (.agg #[.int .i8 0, .int .i64 0, .int .i64 0])).put (some 167) (.bool true)).put (some 168) (.bool true)).put (some 169) (pv)).put (some 170) (.slice (some ⟨g, off, none⟩) nn cc)).put (some 171) (.pointer (some ⟨b8, 2, none⟩))).put (some 172) (.int .i64 (k : Int))).put (some 173) (.slice (some ⟨g, off, none⟩) k cc)).put (some 174) (rv)).put (some 175) (.slice (some ⟨g, off, none⟩) nn cc)).put (some 176) (.pointer (some ⟨b8, 2, none⟩))).put (some 177) (.int .i64 (k : Int))).put (some 178) (.slice (some ⟨g, off, none⟩) k cc)).put (some 181) (.agg #[.int .i8 0, .int .i64 0, .int .i64 0])).put (some 179) (v2))).eval (.tmp 179) = v2 := (by (repeat (first | rw [eval_same _ _ (by (try simp only [put_size]); omega)] | rw [eval_far _ _ (by decide)])))
  refine wpOp_callG ho ((wantedB hog6 dog6 hg (by (repeat (first | rw [tmps_same _ _ (by (try simp only [put_size]); omega)] | rw [tmps_far _ _ (by decide)])))).trans (by decide)) (run_callV 9 Tryz.func9 (by kernel_rfl) (by kernel_rfl) #[.tmp 169, .tmp 173, .tmp 179] _ hop #[pv, .slice (some ⟨g, off, none⟩) k cc, v2] (by simp only [List.map_toArray, List.map_cons, List.map_nil, x18_0, x18_1, x18_2])) ?_
  refine (C4).mono ?_
  rintro e u4 ⟨rfl, hS4, C5⟩
  have hS18 := keep _ _ hS17 hS4
  refine ⟨_, rfl, hS18, ?_⟩
  rw [hd]
  clear ho hg hop hd
  rw [← LR_snoc]
  obtain ⟨o20, ho, hg, hop, hd⟩ := isOpG_out q20
  have hfr := hall ([0, 1, 4, 2, 3, 5, 6, 7, 8, 9, 10, 11, 12, 13, 14, 15, 16, 19, 17, 18], 20) (by simp)
  refine wpAnyH_take (listed := LR 35 [0, 1, 4, 2, 3, 5, 6, 7, 8, 9, 10, 11, 12, 13, 14, 15, 16, 19, 17, 18]) (v := .bool true) ho hs hfr.1 hfr.2 (hQ _ _) (Or.inl ⟨((wantedB hog6 dog6 hg (by (repeat (first | rw [tmps_same _ _ (by (try simp only [put_size]); omega)] | rw [tmps_far _ _ (by decide)])))).trans (by decide)), fun w' hS => run_binV _ _ hop w' (by (repeat (first | rw [eval_same _ _ (by (try simp only [put_size]); omega)] | rw [eval_far _ _ (by decide)]))) (by (repeat (first | rw [eval_same _ _ (by (try simp only [put_size]); omega)] | rw [eval_far _ _ (by decide)]))) (geRf _ _ _ _ w') (E0 w')⟩) hS18 ?_
  rw [hd, ← LR_snoc]
  clear ho hg hop hd hfr
  obtain ⟨o21, ho, hg, hop, hd⟩ := isOpG_out q21
  have hfr := hall ([0, 1, 4, 2, 3, 5, 6, 7, 8, 9, 10, 11, 12, 13, 14, 15, 16, 19, 17, 18, 20], 21) (by simp)
  refine wpAnyH_take (listed := LR 35 [0, 1, 4, 2, 3, 5, 6, 7, 8, 9, 10, 11, 12, 13, 14, 15, 16, 19, 17, 18, 20]) (v := .bool true) ho hs hfr.1 hfr.2 (hQ _ _) (Or.inl ⟨(wantedN hg), fun w' hS => run_pickT _ _ hop w' (by (repeat (first | rw [eval_same _ _ (by (try simp only [put_size]); omega)] | rw [eval_far _ _ (by decide)]))) (by (repeat (first | rw [eval_same _ _ (by (try simp only [put_size]); omega)] | rw [eval_far _ _ (by decide)])))⟩) hS18 ?_
  rw [hd, ← LR_snoc]
  clear ho hg hop hd hfr
  obtain ⟨o22, ho, hg, hop, hd⟩ := isOpG_out q22
  have hfr := hall ([0, 1, 4, 2, 3, 5, 6, 7, 8, 9, 10, 11, 12, 13, 14, 15, 16, 19, 17, 18, 20, 21], 22) (by simp)
  refine wpAnyH_take (listed := LR 35 [0, 1, 4, 2, 3, 5, 6, 7, 8, 9, 10, 11, 12, 13, 14, 15, 16, 19, 17, 18, 20, 21]) (v := .bool true) ho hs hfr.1 hfr.2 (hQ _ _) (Or.inl ⟨(wantedN hg), fun w' hS => run_move _ _ hop w' (by (repeat (first | rw [eval_same _ _ (by (try simp only [put_size]); omega)] | rw [eval_far _ _ (by decide)])))⟩) hS18 ?_
  rw [hd, ← LR_snoc]
  clear ho hg hop hd hfr
  obtain ⟨o23, ho, hg, hop, hd⟩ := isOpG_out q23
  have hfr := hall ([0, 1, 4, 2, 3, 5, 6, 7, 8, 9, 10, 11, 12, 13, 14, 15, 16, 19, 17, 18, 20, 21, 22], 23) (by simp)
  refine wpAnyH_take (listed := LR 35 [0, 1, 4, 2, 3, 5, 6, 7, 8, 9, 10, 11, 12, 13, 14, 15, 16, 19, 17, 18, 20, 21, 22]) (v := pv) ho hs hfr.1 hfr.2 (hQ _ _) (Or.inl ⟨((wantedB hog22 dog22 hg (by (repeat (first | rw [tmps_same _ _ (by (try simp only [put_size]); omega)] | rw [tmps_far _ _ (by decide)])))).trans (by decide)), fun w' hS => run_loadS _ _ hop w' (by (repeat rw [eval_far _ _ (by decide)]); exact e12) (LP _ hS)⟩) hS18 ?_
  rw [hd, ← LR_snoc]
  clear ho hg hop hd hfr
  obtain ⟨o24, ho, hg, hop, hd⟩ := isOpG_out q24
  have hfr := hall ([0, 1, 4, 2, 3, 5, 6, 7, 8, 9, 10, 11, 12, 13, 14, 15, 16, 19, 17, 18, 20, 21, 22, 23], 24) (by simp)
  refine wpAnyH_take (listed := LR 35 [0, 1, 4, 2, 3, 5, 6, 7, 8, 9, 10, 11, 12, 13, 14, 15, 16, 19, 17, 18, 20, 21, 22, 23]) (v := .slice (some ⟨g, off, none⟩) nn cc) ho hs hfr.1 hfr.2 (hQ _ _) (Or.inl ⟨((wantedB hog22 dog22 hg (by (repeat (first | rw [tmps_same _ _ (by (try simp only [put_size]); omega)] | rw [tmps_far _ _ (by decide)])))).trans (by decide)), fun w' hS => run_move _ _ hop w' (by (repeat rw [eval_far _ _ (by decide)]); exact e1)⟩) hS18 ?_
  rw [hd, ← LR_snoc]
  clear ho hg hop hd hfr
  obtain ⟨o25, ho, hg, hop, hd⟩ := isOpG_out q25
  have hfr := hall ([0, 1, 4, 2, 3, 5, 6, 7, 8, 9, 10, 11, 12, 13, 14, 15, 16, 19, 17, 18, 20, 21, 22, 23, 24], 25) (by simp)
  refine wpAnyH_take (listed := LR 35 [0, 1, 4, 2, 3, 5, 6, 7, 8, 9, 10, 11, 12, 13, 14, 15, 16, 19, 17, 18, 20, 21, 22, 23, 24]) (v := .pointer (some ⟨b8, 2, none⟩)) ho hs hfr.1 hfr.2 (hQ _ _) (Or.inl ⟨((wantedB hog22 dog22 hg (by (repeat (first | rw [tmps_same _ _ (by (try simp only [put_size]); omega)] | rw [tmps_far _ _ (by decide)])))).trans (by decide)), fun w' hS => run_fldRf2 _ _ hop w' (by (repeat rw [eval_far _ _ (by decide)]); exact e8)⟩) hS18 ?_
  rw [hd, ← LR_snoc]
  clear ho hg hop hd hfr
  obtain ⟨o26, ho, hg, hop, hd⟩ := isOpG_out q26
  have hfr := hall ([0, 1, 4, 2, 3, 5, 6, 7, 8, 9, 10, 11, 12, 13, 14, 15, 16, 19, 17, 18, 20, 21, 22, 23, 24, 25], 26) (by simp)
  refine wpAnyH_take (listed := LR 35 [0, 1, 4, 2, 3, 5, 6, 7, 8, 9, 10, 11, 12, 13, 14, 15, 16, 19, 17, 18, 20, 21, 22, 23, 24, 25]) (v := .int .i64 (k : Int)) ho hs hfr.1 hfr.2 (hQ _ _) (Or.inl ⟨((wantedB hog22 dog22 hg (by (repeat (first | rw [tmps_same _ _ (by (try simp only [put_size]); omega)] | rw [tmps_far _ _ (by decide)])))).trans (by decide)), fun w' hS => run_loadS _ _ hop w' (by (repeat (first | rw [eval_same _ _ (by (try simp only [put_size]); omega)] | rw [eval_far _ _ (by decide)]))) (LK _ hS)⟩) hS18 ?_
  rw [hd, ← LR_snoc]
  clear ho hg hop hd hfr
  obtain ⟨o27, ho, hg, hop, hd⟩ := isOpG_out q27
  have hfr := hall ([0, 1, 4, 2, 3, 5, 6, 7, 8, 9, 10, 11, 12, 13, 14, 15, 16, 19, 17, 18, 20, 21, 22, 23, 24, 25, 26], 27) (by simp)
  refine wpAnyH_take (listed := LR 35 [0, 1, 4, 2, 3, 5, 6, 7, 8, 9, 10, 11, 12, 13, 14, 15, 16, 19, 17, 18, 20, 21, 22, 23, 24, 25, 26]) (v := .int .i64 ((k : Int) + 1)) ho hs hfr.1 hfr.2 (hQ _ _) (Or.inl ⟨((wantedB hog22 dog22 hg (by (repeat (first | rw [tmps_same _ _ (by (try simp only [put_size]); omega)] | rw [tmps_far _ _ (by decide)])))).trans (by decide)), fun w' hS => run_binV _ _ hop w' (by (repeat (first | rw [eval_same _ _ (by (try simp only [put_size]); omega)] | rw [eval_far _ _ (by decide)]))) rfl (by first | rfl | go_simp) ((run_add1 hk2) w')⟩) hS18 ?_
  rw [hd, ← LR_snoc]
  clear ho hg hop hd hfr
  obtain ⟨o28, ho, hg, hop, hd⟩ := isOpG_out q28
  have hfr := hall ([0, 1, 4, 2, 3, 5, 6, 7, 8, 9, 10, 11, 12, 13, 14, 15, 16, 19, 17, 18, 20, 21, 22, 23, 24, 25, 26, 27], 28) (by simp)
  refine wpAnyH_take (listed := LR 35 [0, 1, 4, 2, 3, 5, 6, 7, 8, 9, 10, 11, 12, 13, 14, 15, 16, 19, 17, 18, 20, 21, 22, 23, 24, 25, 26, 27]) (v := .slice (some ⟨g, off, none⟩) (k + 1) cc) ho hs hfr.1 hfr.2 (hQ _ _) (Or.inl ⟨((wantedB hog22 dog22 hg (by (repeat (first | rw [tmps_same _ _ (by (try simp only [put_size]); omega)] | rw [tmps_far _ _ (by decide)])))).trans (by decide)), fun w' hS => run_slHiF1 _ _ hop w' (by (repeat (first | rw [eval_same _ _ (by (try simp only [put_size]); omega)] | rw [eval_far _ _ (by decide)]))) (by (repeat (first | rw [eval_same _ _ (by (try simp only [put_size]); omega)] | rw [eval_far _ _ (by decide)]))) hk hnc⟩) hS18 ?_
  rw [hd, ← LR_snoc]
  clear ho hg hop hd hfr
  obtain ⟨o29, ho, hg, hop, hd⟩ := isOpG_out q29
  have hfr := hall ([0, 1, 4, 2, 3, 5, 6, 7, 8, 9, 10, 11, 12, 13, 14, 15, 16, 19, 17, 18, 20, 21, 22, 23, 24, 25, 26, 27, 28], 29) (by simp)
  refine wpAnyH_take (listed := LR 35 [0, 1, 4, 2, 3, 5, 6, 7, 8, 9, 10, 11, 12, 13, 14, 15, 16, 19, 17, 18, 20, 21, 22, 23, 24, 25, 26, 27, 28]) (v := qv) ho hs hfr.1 hfr.2 (hQ _ _) (Or.inl ⟨((wantedB hog22 dog22 hg (by (repeat (first | rw [tmps_same _ _ (by (try simp only [put_size]); omega)] | rw [tmps_far _ _ (by decide)])))).trans (by decide)), fun w' hS => run_loadS _ _ hop w' (by (repeat rw [eval_far _ _ (by decide)]); exact e7) (LA _ hS)⟩) hS18 ?_
  rw [hd, ← LR_snoc]
  clear ho hg hop hd hfr
  obtain ⟨o31, ho, hg, hop, hd⟩ := isOpG_out q31
  have hfr := hall ([0, 1, 4, 2, 3, 5, 6, 7, 8, 9, 10, 11, 12, 13, 14, 15, 16, 19, 17, 18, 20, 21, 22, 23, 24, 25, 26, 27, 28, 29], 31) (by simp)
  refine wpAnyH_take (listed := LR 35 [0, 1, 4, 2, 3, 5, 6, 7, 8, 9, 10, 11, 12, 13, 14, 15, 16, 19, 17, 18, 20, 21, 22, 23, 24, 25, 26, 27, 28, 29]) (v := .agg #[.int .i8 p1, .int .i64 p2, .int .i64 p3]) ho hs hfr.1 hfr.2 (hQ _ _) (Or.inl ⟨((wantedB hog22 dog22 hg (by (repeat (first | rw [tmps_same _ _ (by (try simp only [put_size]); omega)] | rw [tmps_far _ _ (by decide)])))).trans (by decide)), fun w' hS => run_loadS _ _ hop w' (by (repeat rw [eval_far _ _ (by decide)]); exact e8) (LX _ hS)⟩) hS18 ?_
  rw [hd, ← LR_snoc]
  clear ho hg hop hd hfr
  refine wpAnyH_all r30 (by simp) ?_
  intro i hi
  obtain rfl := List.mem_singleton.1 hi
  obtain ⟨o30, ho, hg, hop, hd⟩ := isOpG_out q30
  have x30_0 : ((((((((((((((((((((((((((((((((a0.put (some 162) (pv)).put (some 163) (rv)).put (some 166) (.agg #[.int .i8 0, .int .i64 0, .int .i64 0])).put (some 164) (v1)).put (some 165) (.agg #[.int .i8 0, .int .i64 0, .int .i64 0])).put (some 167) (.bool true)).put (some 168) (.bool true)).put (some 169) (pv)).put (some 170) (.slice (some ⟨g, off, none⟩) nn cc)).put (some 171) (.pointer (some ⟨b8, 2, none⟩))).put (some 172) (.int .i64 (k : Int))).put (some 173) (.slice (some ⟨g, off, none⟩) k cc)).put (some 174) (rv)).put (some 175) (.slice (some ⟨g, off, none⟩) nn cc)).put (some 176) (.pointer (some ⟨b8, 2, none⟩))).put (some 177) (.int .i64 (k : Int))).put (some 178) (.slice (some ⟨g, off, none⟩) k cc)).put (some 181) (.agg #[.int .i8 0, .int .i64 0, .int .i64 0])).put (some 179) (v2)).put (some 180) (.agg #[.int .i8 0, .int .i64 0, .int .i64 0])).put (some 182) (.bool true)).put (some 183) (.bool true)).put (some 184) (.bool true)).put (some 185) (pv)).put (some 186) (.slice (some ⟨g, off, none⟩) nn cc)).put (some 187) (.pointer (some ⟨b8, 2, none⟩))).put (some 188) (.int .i64 (k : Int))).put (some 189) (.int .i64 ((k : Int) + 1))).put (some 190) (.slice (some ⟨g, off, none⟩) (k + 1) cc)).put (some 191) (qv)).put (some 193) (.agg #[.int .i8 p1, .int .i64 p2, .int .i64 p3]))).eval (.tmp 185) = pv := (by (repeat (first | rw [eval_same _ _ (by (try simp only [put_size]); omega)] | rw [eval_far _ _ (by decide)])))
  have x30_1 : ((((((((((((((((((((((((((((((((a0.put (some 162) (pv)).put (some 163) (rv)).put (some 166) (.agg #[.int .i8 0, .int .i64 0, .int .i64 0])).put (some 164) (v1)).put (some 165) (.agg #[.int .i8 0, .int .i64 0, .int .i64 0])).put (some 167) (.bool true)).put (some 168) (.bool true)).put (some 169) (pv)).put (some 170) (.slice (some ⟨g, off, none⟩) nn cc)).put (some 171) (.pointer (some ⟨b8, 2, none⟩))).put (some 172) (.int .i64 (k : Int))).put (some 173) (.slice (some ⟨g, off, none⟩) k cc)).put (some 174) (rv)).put (some 175) (.slice (some ⟨g, off, none⟩) nn cc)).put (some 176) (.pointer (some ⟨b8, 2, none⟩))).put (some 177) (.int .i64 (k : Int))).put (some 178) (.slice (some ⟨g, off, none⟩) k cc)).put (some 181) (.agg #[.int .i8 0, .int .i64 0, .int .i64 0])).put (some 179) (v2)).put (some 180) (.agg #[.int .i8 0, .int .i64 0, .int .i64 0])).put (some 182) (.bool true)).put (some 183) (.bool true)).put (some 184) (.bool true)).put (some 185) (pv)).put (some 186) (.slice (some ⟨g, off, none⟩) nn cc)).put (some 187) (.pointer (some ⟨b8, 2, none⟩))).put (some 188) (.int .i64 (k : Int))).put (some 189) (.int .i64 ((k : Int) + 1))).put (some 190) (.slice (some ⟨g, off, none⟩) (k + 1) cc)).put (some 191) (qv)).put (some 193) (.agg #[.int .i8 p1, .int .i64 p2, .int .i64 p3]))).eval (.tmp 190) = .slice (some ⟨g, off, none⟩) (k + 1) cc := (by (repeat (first | rw [eval_same _ _ (by (try simp only [put_size]); omega)] | rw [eval_far _ _ (by decide)])))
  have x30_2 : ((((((((((((((((((((((((((((((((a0.put (some 162) (pv)).put (some 163) (rv)).put (some 166) (.agg #[.int .i8 0, .int .i64 0, .int .i64 0])).put (some 164) (v1)).put (some 165) (.agg #[.int .i8 0, .int .i64 0, .int .i64 0])).put (some 167) (.bool true)).put (some 168) (.bool true)).put (some 169) (pv)).put (some 170) (.slice (some ⟨g, off, none⟩) nn cc)).put (some 171) (.pointer (some ⟨b8, 2, none⟩))).put (some 172) (.int .i64 (k : Int))).put (some 173) (.slice (some ⟨g, off, none⟩) k cc)).put (some 174) (rv)).put (some 175) (.slice (some ⟨g, off, none⟩) nn cc)).put (some 176) (.pointer (some ⟨b8, 2, none⟩))).put (some 177) (.int .i64 (k : Int))).put (some 178) (.slice (some ⟨g, off, none⟩) k cc)).put (some 181) (.agg #[.int .i8 0, .int .i64 0, .int .i64 0])).put (some 179) (v2)).put (some 180) (.agg #[.int .i8 0, .int .i64 0, .int .i64 0])).put (some 182) (.bool true)).put (some 183) (.bool true)).put (some 184) (.bool true)).put (some 185) (pv)).put (some 186) (.slice (some ⟨g, off, none⟩) nn cc)).put (some 187) (.pointer (some ⟨b8, 2, none⟩))).put (some 188) (.int .i64 (k : Int))).put (some 189) (.int .i64 ((k : Int) + 1))).put (some 190) (.slice (some ⟨g, off, none⟩) (k + 1) cc)).put (some 191) (qv)).put (some 193) (.agg #[.int .i8 p1, .int .i64 p2, .int .i64 p3]))).eval (.tmp 191) = qv := (by (repeat (first | rw [eval_same _ _ (by (try simp only [put_size]); omega)] | rw [eval_far _ _ (by decide)])))
  refine wpOp_callG ho ((wantedB hog22 dog22 hg (by (repeat (first | rw [tmps_same _ _ (by (try simp only [put_size]); omega)] | rw [tmps_far _ _ (by decide)])))).trans (by decide)) (run_callV 9 Tryz.func9 (by kernel_rfl) (by kernel_rfl) #[.tmp 185, .tmp 190, .tmp 191] _ hop #[pv, .slice (some ⟨g, off, none⟩) (k + 1) cc, qv] (by simp only [List.map_toArray, List.map_cons, List.map_nil, x30_0, x30_1, x30_2])) ?_
  refine (C5).mono ?_
  rintro e u5 ⟨rfl, hS5⟩
  have hS30 := keep _ _ hS18 hS5
  refine ⟨_, rfl, hS30, ?_⟩
  rw [hd]
  clear ho hg hop hd
  rw [← LR_snoc]
  obtain ⟨o32, ho, hg, hop, hd⟩ := isOpG_out q32
  have hfr := hall ([0, 1, 4, 2, 3, 5, 6, 7, 8, 9, 10, 11, 12, 13, 14, 15, 16, 19, 17, 18, 20, 21, 22, 23, 24, 25, 26, 27, 28, 29, 31, 30], 32) (by simp)
  refine wpAnyH_take (listed := LR 35 [0, 1, 4, 2, 3, 5, 6, 7, 8, 9, 10, 11, 12, 13, 14, 15, 16, 19, 17, 18, 20, 21, 22, 23, 24, 25, 26, 27, 28, 29, 31, 30]) (v := .bool true) ho hs hfr.1 hfr.2 (hQ _ _) (Or.inl ⟨((wantedB hog22 dog22 hg (by (repeat (first | rw [tmps_same _ _ (by (try simp only [put_size]); omega)] | rw [tmps_far _ _ (by decide)])))).trans (by decide)), fun w' hS => run_binV _ _ hop w' (by (repeat (first | rw [eval_same _ _ (by (try simp only [put_size]); omega)] | rw [eval_far _ _ (by decide)]))) (by (repeat (first | rw [eval_same _ _ (by (try simp only [put_size]); omega)] | rw [eval_far _ _ (by decide)]))) (geRf _ _ _ _ w') (EQ1 w')⟩) hS30 ?_
  rw [hd, ← LR_snoc]
  clear ho hg hop hd hfr
  obtain ⟨o33, ho, hg, hop, hd⟩ := isOpG_out q33
  have hfr := hall ([0, 1, 4, 2, 3, 5, 6, 7, 8, 9, 10, 11, 12, 13, 14, 15, 16, 19, 17, 18, 20, 21, 22, 23, 24, 25, 26, 27, 28, 29, 31, 30, 32], 33) (by simp)
  refine wpAnyH_take (listed := LR 35 [0, 1, 4, 2, 3, 5, 6, 7, 8, 9, 10, 11, 12, 13, 14, 15, 16, 19, 17, 18, 20, 21, 22, 23, 24, 25, 26, 27, 28, 29, 31, 30, 32]) (v := .bool true) ho hs hfr.1 hfr.2 (hQ _ _) (Or.inl ⟨(wantedN hg), fun w' hS => run_pickT _ _ hop w' (by (repeat (first | rw [eval_same _ _ (by (try simp only [put_size]); omega)] | rw [eval_far _ _ (by decide)]))) (by (repeat (first | rw [eval_same _ _ (by (try simp only [put_size]); omega)] | rw [eval_far _ _ (by decide)])))⟩) hS30 ?_
  rw [hd, ← LR_snoc]
  clear ho hg hop hd hfr
  obtain ⟨o34, ho, hg, hop, hd⟩ := isOpG_out q34
  have hfr := hall ([0, 1, 4, 2, 3, 5, 6, 7, 8, 9, 10, 11, 12, 13, 14, 15, 16, 19, 17, 18, 20, 21, 22, 23, 24, 25, 26, 27, 28, 29, 31, 30, 32, 33], 34) (by simp)
  refine wpAnyH_take (listed := LR 35 [0, 1, 4, 2, 3, 5, 6, 7, 8, 9, 10, 11, 12, 13, 14, 15, 16, 19, 17, 18, 20, 21, 22, 23, 24, 25, 26, 27, 28, 29, 31, 30, 32, 33]) (v := .bool true) ho hs hfr.1 hfr.2 (hQ _ _) (Or.inl ⟨(wantedN hg), fun w' hS => run_assignV _ _ hop w' (by (repeat (first | rw [eval_same _ _ (by (try simp only [put_size]); omega)] | rw [eval_far _ _ (by decide)])))⟩) hS30 ?_
  rw [hd, ← LR_snoc]
  clear ho hg hop hd hfr
  exact wpAnyH_done rend (F _ v1 v2 hS30) _
def cf37_takes : List (List Nat × Nat) := [([], 0), ([0], 1), ([0, 1], 3), ([0, 1, 3, 2], 4), ([0, 1, 3, 2, 4], 5), ([0, 1, 3, 2, 4, 5], 6), ([0, 1, 3, 2, 4, 5, 6], 7), ([0, 1, 3, 2, 4, 5, 6, 7], 8), ([0, 1, 3, 2, 4, 5, 6, 7, 8], 9), ([0, 1, 3, 2, 4, 5, 6, 7, 8, 9], 11), ([0, 1, 3, 2, 4, 5, 6, 7, 8, 9, 11, 10], 12), ([0, 1, 3, 2, 4, 5, 6, 7, 8, 9, 11, 10, 12], 13), ([0, 1, 3, 2, 4, 5, 6, 7, 8, 9, 11, 10, 12, 13], 14)]
set_option maxHeartbeats 3200000 in
theorem cf37 {ops : Array Oper} {Q : Exit → Act → World → Prop} {S : World → Prop} {a0 : Act} {w5 : World} {b5 b7 b8 : Nat} {ra : Option Addr} {rn rc : Nat} {fv av qv : Value} {p1 p2 p3 : Int} {ty1 ty2 : Array TypeId}
    (q0 : isOpG ops 0 none (.build 41 #[]) (some 246))
    (q1 : isOpG ops 1 none (.load 26 (.tmp 5)) (some 247))
    (q3 : isOpG ops 3 none (.load 38 (.tmp 8)) (some 249))
    (q2 : isOpG ops 2 none (.call { callee := .value (.func 9), args := #[.tmp 246, .const (.slice none 0 0), .tmp 247], argTypes := ty1 }) (some 248))
    (q4 : isOpG ops 4 none (.binOp .eql 38 (.tmp 248) (.tmp 249) 38) (some 250))
    (q5 : isOpG ops 5 none (.move (.tmp 250)) (some 251))
    (q6 : isOpG ops 6 (some (5, true)) (.move (.tmp 0)) (some 252))
    (q7 : isOpG ops 7 (some (5, true)) (.build 41 #[(0, .tmp 252)]) (some 253))
    (q8 : isOpG ops 8 (some (5, true)) (.move (.tmp 1)) (some 254))
    (q9 : isOpG ops 9 (some (5, true)) (.load 26 (.tmp 7)) (some 255))
    (q11 : isOpG ops 11 (some (5, true)) (.build 38 #[]) (some 257))
    (q10 : isOpG ops 10 (some (5, true)) (.call { callee := .value (.func 9), args := #[.tmp 253, .tmp 254, .tmp 255], argTypes := ty2 }) (some 256))
    (q12 : isOpG ops 12 (some (5, true)) (.binOp .eql 38 (.tmp 256) (.tmp 257) 38) (some 258))
    (q13 : isOpG ops 13 none (.pick (.tmp 251) (.tmp 258) (.const (.bool false))) (some 259))
    (q14 : isOpG ops 14 none (.assign (.tmp 259)) (some 6))
    (hs : Region.noSelect ops = true) (hq : (cf37_takes.all fun p => Region.free .any ops (LR 15 p.1) p.2 && (Region.ready .any ops (LR 15 p.1)).contains p.2) = true)
    (r2 : Region.ready .any ops (LR 15 [0, 1, 3]) = [2])
    (r10 : Region.ready .any ops (LR 15 [0, 1, 3, 2, 4, 5, 6, 7, 8, 9, 11]) = [10])
    (rend : Region.ready .any ops (LR 15 [0, 1, 3, 2, 4, 5, 6, 7, 8, 9, 11, 10, 12, 13, 14]) = [])
    (hQ : ∀ (d : Option Tmp) (v : Value) c a w, Q (.panic c) (a.put d v) w → Q (.panic c) a w)
    (hsz : 259 < a0.tmps.size) (e0 : a0.eval (.tmp 0) = .slice ra rn rc) (e1 : a0.eval (.tmp 1) = fv) (e5 : a0.eval (.tmp 5) = .pointer (some ⟨b5, 0, none⟩)) (e7 : a0.eval (.tmp 7) = .pointer (some ⟨b7, 0, none⟩)) (e8 : a0.eval (.tmp 8) = .pointer (some ⟨b8, 0, none⟩))
    (hS0 : S w5.drew)
    (keep : ∀ u u', S u → S u' → S u') (LQ : ∀ u, S u → (loadVar 26 ⟨b5, 0, none⟩).run Tryz.prog u = .ok (av) u) (LA : ∀ u, S u → (loadVar 26 ⟨b7, 0, none⟩).run Tryz.prog u = .ok (qv) u) (LX : ∀ u, S u → (loadVar 38 ⟨b8, 0, none⟩).run Tryz.prog u = .ok (.agg #[.int .i8 p1, .int .i64 p2, .int .i64 p3]) u)
    (E0 : ∀ u, (binOp .eql 38 (.agg #[.int .i8 0, .int .i64 0, .int .i64 0]) (.agg #[.int .i8 0, .int .i64 0, .int .i64 0])).run Tryz.prog u = .ok (.bool true) u) (EQ1 : ∀ u, (binOp .eql 38 (.agg #[.int .i8 p1, .int .i64 p2, .int .i64 p3]) (.agg #[.int .i8 p1, .int .i64 p2, .int .i64 p3])).run Tryz.prog u = .ok (.bool true) u)
    (C1 : Calls Tryz.prog 9 #[.agg #[.slice none 0 0], .slice none 0 0, av] w5.drew fun e u1 => e = .returned (.agg #[.int .i8 p1, .int .i64 p2, .int .i64 p3]) ∧ S u1 ∧ Calls Tryz.prog 9 #[.agg #[.slice ra rn rc], fv, qv] u1 fun e u2 => e = .returned (.agg #[.int .i8 0, .int .i64 0, .int .i64 0]) ∧ S u2)
    (F : ∀ (wc : World), S wc → Q .normal (((((((((((((((a0.put (some 246) (.agg #[.slice none 0 0])).put (some 247) (av)).put (some 249) (.agg #[.int .i8 p1, .int .i64 p2, .int .i64 p3])).put (some 248) (.agg #[.int .i8 p1, .int .i64 p2, .int .i64 p3])).put (some 250) (.bool true)).put (some 251) (.bool true)).put (some 252) (.slice ra rn rc)).put (some 253) (.agg #[.slice ra rn rc])).put (some 254) (fv)).put (some 255) (qv)).put (some 257) (.agg #[.int .i8 0, .int .i64 0, .int .i64 0])).put (some 256) (.agg #[.int .i8 0, .int .i64 0, .int .i64 0])).put (some 258) (.bool true)).put (some 259) (.bool true)).put (some 6) (.bool true)) wc) :
    wpAnyH Tryz.prog .any ops Q S 15 (LR 15 []) a0 w5.drew := by
  have hall : ∀ p ∈ cf37_takes, Region.free .any ops (LR 15 p.1) p.2 = true ∧ (Region.ready .any ops (LR 15 p.1)).contains p.2 = true := by
    intro p hp
    have := List.all_eq_true.1 hq p hp
    simpa using this
  unfold cf37_takes at hall
  obtain ⟨og5, hog5, _, _, dog5⟩ := isOpG_out q5
  obtain ⟨o0, ho, hg, hop, hd⟩ := isOpG_out q0
  have hfr := hall ([], 0) (by simp)
  refine wpAnyH_take (listed := LR 15 []) (v := .agg #[.slice none 0 0]) ho hs hfr.1 hfr.2 (hQ _ _) (Or.inl ⟨(wantedN hg), fun w' hS => run_buildPg0 _ _ hop w'⟩) hS0 ?_
  rw [hd, ← LR_snoc]
  clear ho hg hop hd hfr
  obtain ⟨o1, ho, hg, hop, hd⟩ := isOpG_out q1
  have hfr := hall ([0], 1) (by simp)
  refine wpAnyH_take (listed := LR 15 [0]) (v := av) ho hs hfr.1 hfr.2 (hQ _ _) (Or.inl ⟨(wantedN hg), fun w' hS => run_loadS _ _ hop w' (by (repeat rw [eval_far _ _ (by decide)]); exact e5) (LQ _ hS)⟩) hS0 ?_
  rw [hd, ← LR_snoc]
  clear ho hg hop hd hfr
  obtain ⟨o3, ho, hg, hop, hd⟩ := isOpG_out q3
  have hfr := hall ([0, 1], 3) (by simp)
  refine wpAnyH_take (listed := LR 15 [0, 1]) (v := .agg #[.int .i8 p1, .int .i64 p2, .int .i64 p3]) ho hs hfr.1 hfr.2 (hQ _ _) (Or.inl ⟨(wantedN hg), fun w' hS => run_loadS _ _ hop w' (by (repeat rw [eval_far _ _ (by decide)]); exact e8) (LX _ hS)⟩) hS0 ?_
  rw [hd, ← LR_snoc]
  clear ho hg hop hd hfr
  refine wpAnyH_all r2 (by simp) ?_
  intro i hi
  obtain rfl := List.mem_singleton.1 hi
  obtain ⟨o2, ho, hg, hop, hd⟩ := isOpG_out q2
  have x2_0 : ((((a0.put (some 246) (.agg #[.slice none 0 0])).put (some 247) (av)).put (some 249) (.agg #[.int .i8 p1, .int .i64 p2, .int .i64 p3]))).eval (.tmp 246) = .agg #[.slice none 0 0] := (by (repeat (first | rw [eval_same _ _ (by (try simp only [put_size]); omega)] | rw [eval_far _ _ (by decide)])))
  have x2_1 : ((((a0.put (some 246) (.agg #[.slice none 0 0])).put (some 247) (av)).put (some 249) (.agg #[.int .i8 p1, .int .i64 p2, .int .i64 p3]))).eval (.const (.slice none 0 0)) = .slice none 0 0 := rfl
  have x2_2 : ((((a0.put (some 246) (.agg #[.slice none 0 0])).put (some 247) (av)).put (some 249) (.agg #[.int .i8 p1, .int .i64 p2, .int .i64 p3]))).eval (.tmp 247) = av := (by (repeat (first | rw [eval_same _ _ (by (try simp only [put_size]); omega)] | rw [eval_far _ _ (by decide)])))
  refine wpOp_callG ho (wantedN hg) (run_callV 9 Tryz.func9 (by kernel_rfl) (by kernel_rfl) #[.tmp 246, .const (.slice none 0 0), .tmp 247] _ hop #[.agg #[.slice none 0 0], .slice none 0 0, av] (by simp only [List.map_toArray, List.map_cons, List.map_nil, x2_0, x2_1, x2_2])) ?_
  refine (C1).mono ?_
  rintro e u1 ⟨rfl, hS1, C2⟩
  have hS2 := keep _ _ hS0 hS1
  refine ⟨_, rfl, hS2, ?_⟩
  rw [hd]
  clear ho hg hop hd
  rw [← LR_snoc]
  obtain ⟨o4, ho, hg, hop, hd⟩ := isOpG_out q4
  have hfr := hall ([0, 1, 3, 2], 4) (by simp)
  refine wpAnyH_take (listed := LR 15 [0, 1, 3, 2]) (v := .bool true) ho hs hfr.1 hfr.2 (hQ _ _) (Or.inl ⟨(wantedN hg), fun w' hS => run_binV _ _ hop w' (by (repeat (first | rw [eval_same _ _ (by (try simp only [put_size]); omega)] | rw [eval_far _ _ (by decide)]))) (by (repeat (first | rw [eval_same _ _ (by (try simp only [put_size]); omega)] | rw [eval_far _ _ (by decide)]))) (geRf _ _ _ _ w') (EQ1 w')⟩) hS2 ?_
  rw [hd, ← LR_snoc]
  clear ho hg hop hd hfr
  obtain ⟨o5, ho, hg, hop, hd⟩ := isOpG_out q5
  have hfr := hall ([0, 1, 3, 2, 4], 5) (by simp)
  refine wpAnyH_take (listed := LR 15 [0, 1, 3, 2, 4]) (v := .bool true) ho hs hfr.1 hfr.2 (hQ _ _) (Or.inl ⟨(wantedN hg), fun w' hS => run_move _ _ hop w' (by (repeat (first | rw [eval_same _ _ (by (try simp only [put_size]); omega)] | rw [eval_far _ _ (by decide)])))⟩) hS2 ?_
  rw [hd, ← LR_snoc]
  clear ho hg hop hd hfr
  obtain ⟨o6, ho, hg, hop, hd⟩ := isOpG_out q6
  have hfr := hall ([0, 1, 3, 2, 4, 5], 6) (by simp)
  refine wpAnyH_take (listed := LR 15 [0, 1, 3, 2, 4, 5]) (v := .slice ra rn rc) ho hs hfr.1 hfr.2 (hQ _ _) (Or.inl ⟨((wantedB hog5 dog5 hg (by (repeat (first | rw [tmps_same _ _ (by (try simp only [put_size]); omega)] | rw [tmps_far _ _ (by decide)])))).trans (by decide)), fun w' hS => run_move _ _ hop w' (by (repeat rw [eval_far _ _ (by decide)]); exact e0)⟩) hS2 ?_
  rw [hd, ← LR_snoc]
  clear ho hg hop hd hfr
  obtain ⟨o7, ho, hg, hop, hd⟩ := isOpG_out q7
  have hfr := hall ([0, 1, 3, 2, 4, 5, 6], 7) (by simp)
  refine wpAnyH_take (listed := LR 15 [0, 1, 3, 2, 4, 5, 6]) (v := .agg #[.slice ra rn rc]) ho hs hfr.1 hfr.2 (hQ _ _) (Or.inl ⟨((wantedB hog5 dog5 hg (by (repeat (first | rw [tmps_same _ _ (by (try simp only [put_size]); omega)] | rw [tmps_far _ _ (by decide)])))).trans (by decide)), fun w' hS => run_buildPg _ _ hop w' (by (repeat (first | rw [eval_same _ _ (by (try simp only [put_size]); omega)] | rw [eval_far _ _ (by decide)])))⟩) hS2 ?_
  rw [hd, ← LR_snoc]
  clear ho hg hop hd hfr
  obtain ⟨o8, ho, hg, hop, hd⟩ := isOpG_out q8
  have hfr := hall ([0, 1, 3, 2, 4, 5, 6, 7], 8) (by simp)
  refine wpAnyH_take (listed := LR 15 [0, 1, 3, 2, 4, 5, 6, 7]) (v := fv) ho hs hfr.1 hfr.2 (hQ _ _) (Or.inl ⟨((wantedB hog5 dog5 hg (by (repeat (first | rw [tmps_same _ _ (by (try simp only [put_size]); omega)] | rw [tmps_far _ _ (by decide)])))).trans (by decide)), fun w' hS => run_move _ _ hop w' (by (repeat rw [eval_far _ _ (by decide)]); exact e1)⟩) hS2 ?_
  rw [hd, ← LR_snoc]
  clear ho hg hop hd hfr
  obtain ⟨o9, ho, hg, hop, hd⟩ := isOpG_out q9
  have hfr := hall ([0, 1, 3, 2, 4, 5, 6, 7, 8], 9) (by simp)
  refine wpAnyH_take (listed := LR 15 [0, 1, 3, 2, 4, 5, 6, 7, 8]) (v := qv) ho hs hfr.1 hfr.2 (hQ _ _) (Or.inl ⟨((wantedB hog5 dog5 hg (by (repeat (first | rw [tmps_same _ _ (by (try simp only [put_size]); omega)] | rw [tmps_far _ _ (by decide)])))).trans (by decide)), fun w' hS => run_loadS _ _ hop w' (by (repeat rw [eval_far _ _ (by decide)]); exact e7) (LA _ hS)⟩) hS2 ?_
  rw [hd, ← LR_snoc]
  clear ho hg hop hd hfr
  obtain ⟨o11, ho, hg, hop, hd⟩ := isOpG_out q11
  have hfr := hall ([0, 1, 3, 2, 4, 5, 6, 7, 8, 9], 11) (by simp)
  refine wpAnyH_take (listed := LR 15 [0, 1, 3, 2, 4, 5, 6, 7, 8, 9]) (v := .agg #[.int .i8 0, .int .i64 0, .int .i64 0]) ho hs hfr.1 hfr.2 (hQ _ _) (Or.inl ⟨((wantedB hog5 dog5 hg (by (repeat (first | rw [tmps_same _ _ (by (try simp only [put_size]); omega)] | rw [tmps_far _ _ (by decide)])))).trans (by decide)), fun w' hS => run_buildRf0 _ _ hop w'⟩) hS2 ?_
  rw [hd, ← LR_snoc]
  clear ho hg hop hd hfr
  refine wpAnyH_all r10 (by simp) ?_
  intro i hi
  obtain rfl := List.mem_singleton.1 hi
  obtain ⟨o10, ho, hg, hop, hd⟩ := isOpG_out q10
  have x10_0 : ((((((((((((a0.put (some 246) (.agg #[.slice none 0 0])).put (some 247) (av)).put (some 249) (.agg #[.int .i8 p1, .int .i64 p2, .int .i64 p3])).put (some 248) (.agg #[.int .i8 p1, .int .i64 p2, .int .i64 p3])).put (some 250) (.bool true)).put (some 251) (.bool true)).put (some 252) (.slice ra rn rc)).put (some 253) (.agg #[.slice ra rn rc])).put (some 254) (fv)).put (some 255) (qv)).put (some 257) (.agg #[.int .i8 0, .int .i64 0, .int .i64 0]))).eval (.tmp 253) = .agg #[.slice ra rn rc] := (by (repeat (first | rw [eval_same _ _ (by (try simp only [put_size]); omega)] | rw [eval_far _ _ (by decide)])))
  have x10_1 : ((((((((((((a0.put (some 246) (.agg #[.slice none 0 0])).put (some 247) (av)).put (some 249) (.agg #[.int .i8 p1, .int .i64 p2, .int .i64 p3])).put (some 248) (.agg #[.int .i8 p1, .int .i64 p2, .int .i64 p3])).put (some 250) (.bool true)).put (some 251) (.bool true)).put (some 252) (.slice ra rn rc)).put (some 253) (.agg #[.slice ra rn rc])).put (some 254) (fv)).put (some 255) (qv)).put (some 257) (.agg #[.int .i8 0, .int .i64 0, .int .i64 0]))).eval (.tmp 254) = fv := (by (repeat (first | rw [eval_same _ _ (by (try simp only [put_size]); omega)] | rw [eval_far _ _ (by decide)])))
  have x10_2 : ((((((((((((a0.put (some 246) (.agg #[.slice none 0 0])).put (some 247) (av)).put (some 249) (.agg #[.int .i8 p1, .int .i64 p2, .int .i64 p3])).put (some 248) (.agg #[.int .i8 p1, .int .i64 p2, .int .i64 p3])).put (some 250) (.bool true)).put (some 251) (.bool true)).put (some 252) (.slice ra rn rc)).put (some 253) (.agg #[.slice ra rn rc])).put (some 254) (fv)).put (some 255) (qv)).put (some 257) (.agg #[.int .i8 0, .int .i64 0, .int .i64 0]))).eval (.tmp 255) = qv := (by (repeat (first | rw [eval_same _ _ (by (try simp only [put_size]); omega)] | rw [eval_far _ _ (by decide)])))
  refine wpOp_callG ho ((wantedB hog5 dog5 hg (by (repeat (first | rw [tmps_same _ _ (by (try simp only [put_size]); omega)] | rw [tmps_far _ _ (by decide)])))).trans (by decide)) (run_callV 9 Tryz.func9 (by kernel_rfl) (by kernel_rfl) #[.tmp 253, .tmp 254, .tmp 255] _ hop #[.agg #[.slice ra rn rc], fv, qv] (by simp only [List.map_toArray, List.map_cons, List.map_nil, x10_0, x10_1, x10_2])) ?_
  refine (C2).mono ?_
  rintro e u2 ⟨rfl, hS2⟩
  have hS10 := keep _ _ hS2 hS2
  refine ⟨_, rfl, hS10, ?_⟩
  rw [hd]
  clear ho hg hop hd
  rw [← LR_snoc]
  obtain ⟨o12, ho, hg, hop, hd⟩ := isOpG_out q12
  have hfr := hall ([0, 1, 3, 2, 4, 5, 6, 7, 8, 9, 11, 10], 12) (by simp)
  refine wpAnyH_take (listed := LR 15 [0, 1, 3, 2, 4, 5, 6, 7, 8, 9, 11, 10]) (v := .bool true) ho hs hfr.1 hfr.2 (hQ _ _) (Or.inl ⟨((wantedB hog5 dog5 hg (by (repeat (first | rw [tmps_same _ _ (by (try simp only [put_size]); omega)] | rw [tmps_far _ _ (by decide)])))).trans (by decide)), fun w' hS => run_binV _ _ hop w' (by (repeat (first | rw [eval_same _ _ (by (try simp only [put_size]); omega)] | rw [eval_far _ _ (by decide)]))) (by (repeat (first | rw [eval_same _ _ (by (try simp only [put_size]); omega)] | rw [eval_far _ _ (by decide)]))) (geRf _ _ _ _ w') (E0 w')⟩) hS10 ?_
  rw [hd, ← LR_snoc]
  clear ho hg hop hd hfr
  obtain ⟨o13, ho, hg, hop, hd⟩ := isOpG_out q13
  have hfr := hall ([0, 1, 3, 2, 4, 5, 6, 7, 8, 9, 11, 10, 12], 13) (by simp)
  refine wpAnyH_take (listed := LR 15 [0, 1, 3, 2, 4, 5, 6, 7, 8, 9, 11, 10, 12]) (v := .bool true) ho hs hfr.1 hfr.2 (hQ _ _) (Or.inl ⟨(wantedN hg), fun w' hS => run_pickT _ _ hop w' (by (repeat (first | rw [eval_same _ _ (by (try simp only [put_size]); omega)] | rw [eval_far _ _ (by decide)]))) (by (repeat (first | rw [eval_same _ _ (by (try simp only [put_size]); omega)] | rw [eval_far _ _ (by decide)])))⟩) hS10 ?_
  rw [hd, ← LR_snoc]
  clear ho hg hop hd hfr
  obtain ⟨o14, ho, hg, hop, hd⟩ := isOpG_out q14
  have hfr := hall ([0, 1, 3, 2, 4, 5, 6, 7, 8, 9, 11, 10, 12, 13], 14) (by simp)
  refine wpAnyH_take (listed := LR 15 [0, 1, 3, 2, 4, 5, 6, 7, 8, 9, 11, 10, 12, 13]) (v := .bool true) ho hs hfr.1 hfr.2 (hQ _ _) (Or.inl ⟨(wantedN hg), fun w' hS => run_assignV _ _ hop w' (by (repeat (first | rw [eval_same _ _ (by (try simp only [put_size]); omega)] | rw [eval_far _ _ (by decide)])))⟩) hS10 ?_
  rw [hd, ← LR_snoc]
  clear ho hg hop hd hfr
  exact wpAnyH_done rend (F _ hS10) _
end Go.Proofs.YtlnioaokpmeioaaGreatDoor
end
