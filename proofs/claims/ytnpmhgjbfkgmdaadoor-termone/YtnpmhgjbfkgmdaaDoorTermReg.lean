import Derived.Test.YtnpmhgjbfkgmdaaDoorTermRes
import Derived.OrdersHeld
namespace Go.Proofs.YtnpmhgjbfkgmdaaDoor
open Go.RowKit Go.Maps
set_option linter.unusedVariables false
set_option linter.unusedSimpArgs false

section
variable {P : Program} {ops : Array Oper} {Q : Exit → Act → World → Prop} {K : Act → World → Prop} {i : Nat} {a : Act} {w : World} {o : Oper}
theorem wpOp_run (hi : ops[i]? = some o) (hg : o.guard = none) (h : Oper.wp P o a w K Q) : wpOp P ops Q i K a w := by
  have hw : Region.wanted o (yielded ops a.tmps) = true := by simp [Region.wanted, hg]
  unfold wpOp
  rw [hi]
  simp only [hw, if_true]
  exact Or.inl h
theorem wpOp_call {f : Nat} {vs : Array Value} (hi : ops[i]? = some o) (hg : o.guard = none) (hrun : (execOp a.eval o).run P w = .ok (.enter f vs) w)
    (hc : Calls P f vs w fun e w' => ∃ u, e = .returned u ∧ K (a.put o.dst u) w') : wpOp P ops Q i K a w := by
  refine wpOp_run hi hg ?_
  unfold Oper.wp
  rw [hrun]
  refine Calls.mono hc ?_
  rintro e w' ⟨u, rfl, hK⟩
  exact hK
theorem wpOp_value {v : Value} {w' : World} (hi : ops[i]? = some o) (hg : o.guard = none) (hrun : (execOp a.eval o).run P w = .ok (.value v) w') (hK : K (a.put o.dst v) w') : wpOp P ops Q i K a w := by
  refine wpOp_run hi hg ?_
  unfold Oper.wp
  rw [hrun]
  exact hK
theorem wpOp_skip {w' : World} (hi : ops[i]? = some o) (hg : o.guard = none) (hd : o.dst = none) (hrun : (execOp a.eval o).run P w = .ok .skip w') (hK : K a w') : wpOp P ops Q i K a w := by
  refine wpOp_run hi hg ?_
  unfold Oper.wp
  rw [hrun]
  show K (a.put o.dst undef) w'
  rw [hd]
  exact hK
end
theorem eval_far (a : Act) {i j : Nat} (v : Value) (h : i ≠ j) : (a.put (some i) v).eval (.tmp j) = a.eval (.tmp j) := Act.eval_put (by intro d hd; cases hd; intro e; exact h (by injection e with e; exact e.symm))
theorem eval_same (a : Act) {i : Nat} (v : Value) (h : i < a.tmps.size) : (a.put (some i) v).eval (.tmp i) = v := by
  simp [Act.eval, Act.put, h]
theorem put_size (a : Act) (i : Nat) (v : Value) : (a.put (some i) v).tmps.size = a.tmps.size := by simp [Act.put]
theorem put_swap (a : Act) {i j : Nat} (u v : Value) (h : i ≠ j) : (a.put (some i) u).put (some j) v = (a.put (some j) v).put (some i) u :=
  Act.put_comm a u v (by intro d hd; cases hd; intro e; exact h (by injection e with e; exact e.symm))

/-- the four cells of a term written into block b -/
def set4 (w : World) (b : Nat) (x0 x1 x2 x3 : Value) : World := (((w.setCell ⟨b, 0, none⟩ x0).setCell ⟨b, 1, none⟩ x1).setCell ⟨b, 2, none⟩ x2).setCell ⟨b, 3, none⟩ x3
theorem set4_heap (w : World) (b : Nat) (x0 x1 x2 x3 : Value) {k : Nat} (h : k ≠ b) : (set4 w b x0 x1 x2 x3).heap[k]? = w.heap[k]? := by
  unfold set4
  rw [heap_setCell_other _ _ _ _ h, heap_setCell_other _ _ _ _ h, heap_setCell_other _ _ _ _ h, heap_setCell_other _ _ _ _ h]
theorem set4_size (w : World) (b : Nat) (x0 x1 x2 x3 : Value) : (set4 w b x0 x1 x2 x3).heap.size = w.heap.size := by
  unfold set4
  simp
theorem Own4.set_far {w : World} {b b' : Nat} (h : Own4 w b) (x0 x1 x2 x3 : Value) (hn : b ≠ b') : Own4 (set4 w b' x0 x1 x2 x3) b := by
  obtain ⟨⟨y0, y1, y2, y3, c0, c1, c2, c3⟩, f0, f1, f2, f3, hl⟩ := h
  have e := set4_heap w b' x0 x1 x2 x3 hn
  have hc : ∀ j, (set4 w b' x0 x1 x2 x3).cell? ⟨b, j, none⟩ = w.cell? ⟨b, j, none⟩ := by
    intro j
    unfold World.cell?
    rw [e]
  have hf : ∀ j, (set4 w b' x0 x1 x2 x3).frozen? ⟨b, j, none⟩ = w.frozen? ⟨b, j, none⟩ := by
    intro j
    unfold World.frozen?
    rw [e]
  exact ⟨⟨y0, y1, y2, y3, (hc 0).trans c0, (hc 1).trans c1, (hc 2).trans c2, (hc 3).trans c3⟩, (hf 0).trans f0, (hf 1).trans f1, (hf 2).trans f2, (hf 3).trans f3, by rw [set4_size]; exact hl⟩
theorem TAt.set4_far {w : World} {b b' : Nat} {t : T} (h : TAt w b 0 t) (x0 x1 x2 x3 : Value) (hn : b ≠ b') : TAt (set4 w b' x0 x1 x2 x3) b 0 t := by
  unfold set4
  exact (((h.set_far ⟨b', 0, none⟩ x0 (Ne.symm hn)).set_far ⟨b', 1, none⟩ x1 (Ne.symm hn)).set_far ⟨b', 2, none⟩ x2 (Ne.symm hn)).set_far ⟨b', 3, none⟩ x3 (Ne.symm hn)
theorem TAt.set4_here {w : World} {b : Nat} (h : Own4 w b) (t : T) : TAt (set4 w b (.string t.v) (.int .i8 t.a.k) (.int .i64 t.a.n) (.string t.a.s)) b 0 t := by
  obtain ⟨⟨y0, y1, y2, y3, c0, c1, c2, c3⟩, f0, f1, f2, f3, hl⟩ := h
  unfold set4
  refine ⟨?_, ?_, ?_, ?_⟩ <;> go_simp
theorem below_set4 {B : Nat} {w0 w : World} (h : Below B w0 w) {b : Nat} (hb : B ≤ b) (x0 x1 x2 x3 : Value) : Below B w0 (set4 w b x0 x1 x2 x3) := by
  unfold set4
  exact (((h.setCell (p := ⟨b, 0, none⟩) hb _).setCell (p := ⟨b, 1, none⟩) hb _).setCell (p := ⟨b, 2, none⟩) hb _).setCell (p := ⟨b, 3, none⟩) hb _
def ptr (b : Nat) : Value := .pointer (some ⟨b, 0, none⟩)
def zeroTerm : Obj := .cells #[.string ⟨#[]⟩, .int .i8 0, .int .i64 0, .string ⟨#[]⟩] 38
theorem own4_new (w : World) : Own4 (w.alloc zeroTerm) w.heap.size := own4 (Below.refl _ _)
theorem run_alloc_term (ev : Operand → Value) (o : Oper) (hop : o.op = .alloc 38) (w : World) : (execOp ev o).run Tryd.prog w = .ok (.value (ptr w.heap.size)) (w.alloc zeroTerm) := by
  unfold ptr zeroTerm
  simp only [execOp, hop]
  go_simp
theorem run_store_term (ev : Operand → Value) (o : Oper) {x y : Operand} (hop : o.op = .store 38 x y) (w : World) {b : Nat} (t : T) (hx : ev x = ptr b) (hy : ev y = .agg #[.string t.v, .int .i8 t.a.k, .int .i64 t.a.n, .string t.a.s]) (ho : Own4 w b) :
    (execOp ev o).run Tryd.prog w = .ok .skip (set4 w b (.string t.v) (.int .i8 t.a.k) (.int .i64 t.a.n) (.string t.a.s)) := by
  obtain ⟨⟨y0, y1, y2, y3, c0, c1, c2, c3⟩, f0, f1, f2, f3, hl⟩ := ho
  unfold ptr at hx
  unfold set4
  simp only [execOp, hop, hx, hy]
  go_simp
theorem run_call_resolve (ev : Operand → Value) (o : Oper) {x y : Operand} {ts : Array TypeId} (hop : o.op = .call { callee := .value (.func 17), args := #[x, y], argTypes := ts }) (w : World) {u v : Value} (hf : ev (.func 17) = .func (.func 17) #[] #[]) (hx : ev x = u) (hy : ev y = v) :
    (execOp ev o).run Tryd.prog w = .ok (.enter 17 #[u, v]) w := by
  simp only [execOp, hop]
  go_simp
def L8 (x6 x13 x14 x15 x16 x17 : Bool) : Array Bool := #[true, true, true, true, true, true, x6, true, true, true, true, true, true, x13, x14, x15, x16, x17]
/-- a block of its own: a term's cells, that may be written, at or behind B -/
def OwnB (B : Nat) (w : World) (b : Nat) : Prop := Own4 w b ∧ B ≤ b
theorem OwnB.below {B : Nat} {w w1 : World} {b : Nat} (h : OwnB B w b) (hb : Below w.heap.size w w1) : OwnB B w1 b := ⟨h.1.below hb, h.2⟩
set_option maxHeartbeats 1600000 in
/-- two terms are resolved, two variables are laid, in whatever order; then both are stored -/
theorem two_res {ops : Array Oper} {Q : Exit → Act → World → Prop} {S : World → Prop} {wr w : World} {aR : Act} {X Y : T} {sv : Value} {x y : T} {o6 o13 o14 o15 o16 o17 : Oper} {ts : Array TypeId}
    (h6 : ops[6]? = some o6) (h13 : ops[13]? = some o13) (h14 : ops[14]? = some o14) (h15 : ops[15]? = some o15) (h16 : ops[16]? = some o16) (h17 : ops[17]? = some o17)
    (g6 : o6.guard = none) (g13 : o13.guard = none) (g14 : o14.guard = none) (g15 : o15.guard = none) (g16 : o16.guard = none) (g17 : o17.guard = none)
    (p6 : o6.op = .call { callee := .value (.func 17), args := #[.tmp 56, .tmp 61], argTypes := ts }) (p13 : o13.op = .call { callee := .value (.func 17), args := #[.tmp 63, .tmp 68], argTypes := ts })
    (p14 : o14.op = .alloc 38) (p15 : o15.op = .alloc 38) (p16 : o16.op = .store 38 (.tmp 8) (.tmp 62)) (p17 : o17.op = .store 38 (.tmp 9) (.tmp 69))
    (d6 : o6.dst = some 62) (d13 : o13.dst = some 69) (d14 : o14.dst = some 8) (d15 : o15.dst = some 9) (d16 : o16.dst = none) (d17 : o17.dst = none)
    (r000 : Region.ready .any ops (L8 false false false false false false) = [6, 14, 15]) (r100 : Region.ready .any ops (L8 true false false false false false) = [13, 14, 15])
    (r010 : Region.ready .any ops (L8 false false true false false false) = [6, 15]) (r001 : Region.ready .any ops (L8 false false false true false false) = [6, 14])
    (r200 : Region.ready .any ops (L8 true true false false false false) = [14, 15]) (r110 : Region.ready .any ops (L8 true false true false false false) = [13, 15]) (r101 : Region.ready .any ops (L8 true false false true false false) = [13, 14]) (r011 : Region.ready .any ops (L8 false false true true false false) = [6])
    (r210 : Region.ready .any ops (L8 true true true false false false) = [15]) (r201 : Region.ready .any ops (L8 true true false true false false) = [14]) (r111 : Region.ready .any ops (L8 true false true true false false) = [13])
    (r211 : Region.ready .any ops (L8 true true true true false false) = [16]) (rs16 : Region.ready .any ops (L8 true true true true true false) = [17]) (rend : Region.ready .any ops (L8 true true true true true true) = [])
    (hsz : 69 < aR.tmps.size) (e56 : aR.eval (.tmp 56) = sv) (e61 : aR.eval (.tmp 61) = .agg #[.string x.v, .int .i8 x.a.k, .int .i64 x.a.n, .string x.a.s]) (e63 : aR.eval (.tmp 63) = sv) (e68 : aR.eval (.tmp 68) = .agg #[.string y.v, .int .i8 y.a.k, .int .i64 y.a.n, .string y.a.s])
    (KS : ∀ w', Below wr.heap.size wr w' → S w')
    (KR : ∀ w', Below wr.heap.size wr w' → Calls Tryd.prog 17 #[sv, .agg #[.string x.v, .int .i8 x.a.k, .int .i64 x.a.n, .string x.a.s]] w' fun e w2 => e = .returned (.agg #[.string X.v, .int .i8 X.a.k, .int .i64 X.a.n, .string X.a.s]) ∧ Below w'.heap.size w' w2)
    (KR' : ∀ w', Below wr.heap.size wr w' → Calls Tryd.prog 17 #[sv, .agg #[.string y.v, .int .i8 y.a.k, .int .i64 y.a.n, .string y.a.s]] w' fun e w2 => e = .returned (.agg #[.string Y.v, .int .i8 Y.a.k, .int .i64 Y.a.n, .string Y.a.s]) ∧ Below w'.heap.size w' w2)
    (hw : Below wr.heap.size wr w)
    (F : ∀ b8 b9 wc, Below wr.heap.size wr wc → TAt wc b8 0 X → TAt wc b9 0 Y → Q .normal ((((aR.put (some 62) (.agg #[.string X.v, .int .i8 X.a.k, .int .i64 X.a.n, .string X.a.s])).put (some 69) (.agg #[.string Y.v, .int .i8 Y.a.k, .int .i64 Y.a.n, .string Y.a.s])).put (some 8) (ptr b8)).put (some 9) (ptr b9)) wc) :
    wpAnyH Tryd.prog .any ops Q S 6 (L8 false false false false false false) aR w := by
  obtain ⟨vX, hvX⟩ : ∃ v, Value.agg #[.string X.v, .int .i8 X.a.k, .int .i64 X.a.n, .string X.a.s] = v := ⟨_, rfl⟩
  obtain ⟨vY, hvY⟩ : ∃ v, Value.agg #[.string Y.v, .int .i8 Y.a.k, .int .i64 Y.a.n, .string Y.a.s] = v := ⟨_, rfl⟩
  rw [hvX] at KR
  rw [hvY] at KR'
  rw [hvX, hvY] at F
  have f211 : ∀ b8 b9 w', Below wr.heap.size wr w' → OwnB wr.heap.size w' b8 → OwnB wr.heap.size w' b9 → b8 ≠ b9 → wpAnyH Tryd.prog .any ops Q S 2 (L8 true true true true false false) ((((aR.put (some 62) vX).put (some 69) vY).put (some 8) (ptr b8)).put (some 9) (ptr b9)) w' := by
    intro b8 b9 w' hb o8 o9 hne
    refine wpAnyH_all r211 (by simp) ?_
    intro i hi
    obtain rfl := List.mem_singleton.1 hi
    have e1 : ((((aR.put (some 62) vX).put (some 69) vY).put (some 8) (ptr b8)).put (some 9) (ptr b9)).eval (.tmp 8) = ptr b8 := by
      rw [eval_far _ _ (by decide), eval_same _ _ (by simp only [put_size]; omega)]
    have e2 : ((((aR.put (some 62) vX).put (some 69) vY).put (some 8) (ptr b8)).put (some 9) (ptr b9)).eval (.tmp 62) = vX := by
      rw [eval_far _ _ (by decide), eval_far _ _ (by decide), eval_far _ _ (by decide), eval_same _ _ (by omega)]
    have e3 : ((((aR.put (some 62) vX).put (some 69) vY).put (some 8) (ptr b8)).put (some 9) (ptr b9)).eval (.tmp 9) = ptr b9 := by
      rw [eval_same _ _ (by simp only [put_size]; omega)]
    have e4 : ((((aR.put (some 62) vX).put (some 69) vY).put (some 8) (ptr b8)).put (some 9) (ptr b9)).eval (.tmp 69) = vY := by
      rw [eval_far _ _ (by decide), eval_far _ _ (by decide), eval_same _ _ (by simp only [put_size]; omega)]
    refine wpOp_skip h16 g16 d16 (run_store_term _ o16 p16 w' X e1 (e2.trans hvX.symm) o8.1) ⟨KS _ (below_set4 hb o8.2 _ _ _ _), ?_⟩
    refine wpAnyH_all (listed := L8 true true true true true false) rs16 (by simp) ?_
    intro i hi
    obtain rfl := List.mem_singleton.1 hi
    refine wpOp_skip h17 g17 d17 (run_store_term _ o17 p17 _ Y e3 (e4.trans hvY.symm) (o9.1.set_far _ _ _ _ (Ne.symm hne))) ⟨KS _ (below_set4 (below_set4 hb o8.2 _ _ _ _) o9.2 _ _ _ _), ?_⟩
    refine wpAnyH_done (listed := L8 true true true true true true) rend ?_ _
    exact F b8 b9 _ (below_set4 (below_set4 hb o8.2 _ _ _ _) o9.2 _ _ _ _) ((TAt.set4_here o8.1 X).set4_far _ _ _ _ hne) (TAt.set4_here (o9.1.set_far _ _ _ _ (Ne.symm hne)) Y)
  have own_new : ∀ w', Below wr.heap.size wr w' → OwnB wr.heap.size (w'.alloc zeroTerm) w'.heap.size := fun w' hb => ⟨own4_new w', hb.size⟩
  have own_old : ∀ w' b, OwnB wr.heap.size w' b → OwnB wr.heap.size (w'.alloc zeroTerm) b := fun w' b h => h.below ((Below.refl _ _).alloc (Nat.le_refl _) _)
  have bel_new : ∀ w', Below wr.heap.size wr w' → Below wr.heap.size wr (w'.alloc zeroTerm) := fun w' hb => hb.alloc hb.size _
  have lt_of : ∀ w' b, OwnB wr.heap.size w' b → b ≠ w'.heap.size := fun w' b h => Nat.ne_of_lt h.1.2.2.2.2.2
  have c6 : ∀ (a : Act) (L : Array Bool) fuel w', Below wr.heap.size wr w' → a.eval (.tmp 56) = sv → a.eval (.tmp 61) = .agg #[.string x.v, .int .i8 x.a.k, .int .i64 x.a.n, .string x.a.s] → (∀ w2, Below wr.heap.size wr w2 → Below w'.heap.size w' w2 → wpAnyH Tryd.prog .any ops Q S fuel (L.setIfInBounds 6 true) (a.put (some 62) vX) w2) → wpOp Tryd.prog ops Q 6 (fun a' w' => S w' ∧ wpAnyH Tryd.prog .any ops Q S fuel (L.setIfInBounds 6 true) a' w') a w' := by
    intro a L fuel w' hb ea eb hK
    refine wpOp_call h6 g6 (run_call_resolve _ o6 p6 w' rfl ea eb) ((KR w' hb).mono ?_)
    rintro e w2 ⟨rfl, hb2⟩
    have hb' := hb.trans (hb2.mono hb.size)
    exact ⟨_, rfl, KS _ hb', by rw [d6]; exact hK w2 hb' hb2⟩
  have c13 : ∀ (a : Act) (L : Array Bool) fuel w', Below wr.heap.size wr w' → a.eval (.tmp 63) = sv → a.eval (.tmp 68) = .agg #[.string y.v, .int .i8 y.a.k, .int .i64 y.a.n, .string y.a.s] → (∀ w2, Below wr.heap.size wr w2 → Below w'.heap.size w' w2 → wpAnyH Tryd.prog .any ops Q S fuel (L.setIfInBounds 13 true) (a.put (some 69) vY) w2) → wpOp Tryd.prog ops Q 13 (fun a' w' => S w' ∧ wpAnyH Tryd.prog .any ops Q S fuel (L.setIfInBounds 13 true) a' w') a w' := by
    intro a L fuel w' hb ea eb hK
    refine wpOp_call h13 g13 (run_call_resolve _ o13 p13 w' rfl ea eb) ((KR' w' hb).mono ?_)
    rintro e w2 ⟨rfl, hb2⟩
    have hb' := hb.trans (hb2.mono hb.size)
    exact ⟨_, rfl, KS _ hb', by rw [d13]; exact hK w2 hb' hb2⟩
  have a14 : ∀ (a : Act) (L : Array Bool) fuel w', Below wr.heap.size wr w' → wpAnyH Tryd.prog .any ops Q S fuel (L.setIfInBounds 14 true) (a.put (some 8) (ptr w'.heap.size)) (w'.alloc zeroTerm) → wpOp Tryd.prog ops Q 14 (fun a' w' => S w' ∧ wpAnyH Tryd.prog .any ops Q S fuel (L.setIfInBounds 14 true) a' w') a w' := by
    intro a L fuel w' hb hK
    exact wpOp_value h14 g14 (run_alloc_term _ o14 p14 w') ⟨KS _ (bel_new w' hb), by rw [d14]; exact hK⟩
  have a15 : ∀ (a : Act) (L : Array Bool) fuel w', Below wr.heap.size wr w' → wpAnyH Tryd.prog .any ops Q S fuel (L.setIfInBounds 15 true) (a.put (some 9) (ptr w'.heap.size)) (w'.alloc zeroTerm) → wpOp Tryd.prog ops Q 15 (fun a' w' => S w' ∧ wpAnyH Tryd.prog .any ops Q S fuel (L.setIfInBounds 15 true) a' w') a w' := by
    intro a L fuel w' hb hK
    exact wpOp_value h15 g15 (run_alloc_term _ o15 p15 w') ⟨KS _ (bel_new w' hb), by rw [d15]; exact hK⟩
  clear KR KR' F
  have f210 : ∀ b8 w', Below wr.heap.size wr w' → OwnB wr.heap.size w' b8 → wpAnyH Tryd.prog .any ops Q S 3 (L8 true true true false false false) (((aR.put (some 62) vX).put (some 69) vY).put (some 8) (ptr b8)) w' := by
    intro b8 w' hb o8
    refine wpAnyH_all r210 (by simp) ?_
    intro i hi
    obtain rfl := List.mem_singleton.1 hi
    exact a15 _ _ _ _ hb (f211 b8 _ _ (bel_new _ hb) (own_old _ _ o8) (own_new _ hb) (lt_of _ _ o8))
  have f201 : ∀ b9 w', Below wr.heap.size wr w' → OwnB wr.heap.size w' b9 → wpAnyH Tryd.prog .any ops Q S 3 (L8 true true false true false false) (((aR.put (some 62) vX).put (some 69) vY).put (some 9) (ptr b9)) w' := by
    intro b9 w' hb o9
    refine wpAnyH_all r201 (by simp) ?_
    intro i hi
    obtain rfl := List.mem_singleton.1 hi
    refine a14 _ _ _ _ hb ?_
    rw [put_swap _ _ _ (by decide)]
    exact f211 _ b9 _ (bel_new _ hb) (own_new _ hb) (own_old _ _ o9) (Ne.symm (lt_of _ _ o9))
  have f200 : ∀ w', Below wr.heap.size wr w' → wpAnyH Tryd.prog .any ops Q S 4 (L8 true true false false false false) ((aR.put (some 62) vX).put (some 69) vY) w' := by
    intro w' hb
    refine wpAnyH_all r200 (by simp) ?_
    intro i hi
    simp only [List.mem_cons, List.not_mem_nil, or_false] at hi
    rcases hi with rfl | rfl
    · exact a14 _ _ _ _ hb (f210 _ _ (bel_new _ hb) (own_new _ hb))
    · exact a15 _ _ _ _ hb (f201 _ _ (bel_new _ hb) (own_new _ hb))
  have f111 : ∀ b8 b9 w', Below wr.heap.size wr w' → OwnB wr.heap.size w' b8 → OwnB wr.heap.size w' b9 → b8 ≠ b9 → wpAnyH Tryd.prog .any ops Q S 3 (L8 true false true true false false) (((aR.put (some 62) vX).put (some 8) (ptr b8)).put (some 9) (ptr b9)) w' := by
    intro b8 b9 w' hb o8 o9 hne
    refine wpAnyH_all r111 (by simp) ?_
    intro i hi
    obtain rfl := List.mem_singleton.1 hi
    refine c13 _ _ _ _ hb (by rw [eval_far _ _ (by decide), eval_far _ _ (by decide), eval_far _ _ (by decide)]; exact e63) (by rw [eval_far _ _ (by decide), eval_far _ _ (by decide), eval_far _ _ (by decide)]; exact e68) ?_
    intro w2 hb2 hs
    rw [put_swap _ _ _ (by decide), put_swap (aR.put (some 62) vX) _ _ (by decide)]
    exact f211 b8 b9 w2 hb2 (o8.below hs) (o9.below hs) hne
  have f110 : ∀ b8 w', Below wr.heap.size wr w' → OwnB wr.heap.size w' b8 → wpAnyH Tryd.prog .any ops Q S 4 (L8 true false true false false false) ((aR.put (some 62) vX).put (some 8) (ptr b8)) w' := by
    intro b8 w' hb o8
    refine wpAnyH_all r110 (by simp) ?_
    intro i hi
    simp only [List.mem_cons, List.not_mem_nil, or_false] at hi
    rcases hi with rfl | rfl
    · refine c13 _ _ _ _ hb (by rw [eval_far _ _ (by decide), eval_far _ _ (by decide)]; exact e63) (by rw [eval_far _ _ (by decide), eval_far _ _ (by decide)]; exact e68) ?_
      intro w2 hb2 hs
      rw [put_swap (aR.put (some 62) vX) _ _ (by decide)]
      exact f210 b8 w2 hb2 (o8.below hs)
    · exact a15 _ _ _ _ hb (f111 b8 _ _ (bel_new _ hb) (own_old _ _ o8) (own_new _ hb) (lt_of _ _ o8))
  have f101 : ∀ b9 w', Below wr.heap.size wr w' → OwnB wr.heap.size w' b9 → wpAnyH Tryd.prog .any ops Q S 4 (L8 true false false true false false) ((aR.put (some 62) vX).put (some 9) (ptr b9)) w' := by
    intro b9 w' hb o9
    refine wpAnyH_all r101 (by simp) ?_
    intro i hi
    simp only [List.mem_cons, List.not_mem_nil, or_false] at hi
    rcases hi with rfl | rfl
    · refine c13 _ _ _ _ hb (by rw [eval_far _ _ (by decide), eval_far _ _ (by decide)]; exact e63) (by rw [eval_far _ _ (by decide), eval_far _ _ (by decide)]; exact e68) ?_
      intro w2 hb2 hs
      rw [put_swap (aR.put (some 62) vX) _ _ (by decide)]
      exact f201 b9 w2 hb2 (o9.below hs)
    · refine a14 _ _ _ _ hb ?_
      rw [put_swap _ _ _ (by decide)]
      exact f111 _ b9 _ (bel_new _ hb) (own_new _ hb) (own_old _ _ o9) (Ne.symm (lt_of _ _ o9))
  have f100 : ∀ w', Below wr.heap.size wr w' → wpAnyH Tryd.prog .any ops Q S 5 (L8 true false false false false false) (aR.put (some 62) vX) w' := by
    intro w' hb
    refine wpAnyH_all r100 (by simp) ?_
    intro i hi
    simp only [List.mem_cons, List.not_mem_nil, or_false] at hi
    rcases hi with rfl | rfl | rfl
    · exact c13 _ _ _ _ hb (by rw [eval_far _ _ (by decide)]; exact e63) (by rw [eval_far _ _ (by decide)]; exact e68) (fun w2 hb2 hs => f200 w2 hb2)
    · exact a14 _ _ _ _ hb (f110 _ _ (bel_new _ hb) (own_new _ hb))
    · exact a15 _ _ _ _ hb (f101 _ _ (bel_new _ hb) (own_new _ hb))
  have f011 : ∀ b8 b9 w', Below wr.heap.size wr w' → OwnB wr.heap.size w' b8 → OwnB wr.heap.size w' b9 → b8 ≠ b9 → wpAnyH Tryd.prog .any ops Q S 4 (L8 false false true true false false) ((aR.put (some 8) (ptr b8)).put (some 9) (ptr b9)) w' := by
    intro b8 b9 w' hb o8 o9 hne
    refine wpAnyH_all r011 (by simp) ?_
    intro i hi
    obtain rfl := List.mem_singleton.1 hi
    refine c6 _ _ _ _ hb (by rw [eval_far _ _ (by decide), eval_far _ _ (by decide)]; exact e56) (by rw [eval_far _ _ (by decide), eval_far _ _ (by decide)]; exact e61) ?_
    intro w2 hb2 hs
    rw [put_swap _ _ _ (by decide), put_swap aR _ _ (by decide)]
    exact f111 b8 b9 w2 hb2 (o8.below hs) (o9.below hs) hne
  have f010 : ∀ b8 w', Below wr.heap.size wr w' → OwnB wr.heap.size w' b8 → wpAnyH Tryd.prog .any ops Q S 5 (L8 false false true false false false) (aR.put (some 8) (ptr b8)) w' := by
    intro b8 w' hb o8
    refine wpAnyH_all r010 (by simp) ?_
    intro i hi
    simp only [List.mem_cons, List.not_mem_nil, or_false] at hi
    rcases hi with rfl | rfl
    · refine c6 _ _ _ _ hb (by rw [eval_far _ _ (by decide)]; exact e56) (by rw [eval_far _ _ (by decide)]; exact e61) ?_
      intro w2 hb2 hs
      rw [put_swap aR _ _ (by decide)]
      exact f110 b8 w2 hb2 (o8.below hs)
    · exact a15 _ _ _ _ hb (f011 b8 _ _ (bel_new _ hb) (own_old _ _ o8) (own_new _ hb) (lt_of _ _ o8))
  have f001 : ∀ b9 w', Below wr.heap.size wr w' → OwnB wr.heap.size w' b9 → wpAnyH Tryd.prog .any ops Q S 5 (L8 false false false true false false) (aR.put (some 9) (ptr b9)) w' := by
    intro b9 w' hb o9
    refine wpAnyH_all r001 (by simp) ?_
    intro i hi
    simp only [List.mem_cons, List.not_mem_nil, or_false] at hi
    rcases hi with rfl | rfl
    · refine c6 _ _ _ _ hb (by rw [eval_far _ _ (by decide)]; exact e56) (by rw [eval_far _ _ (by decide)]; exact e61) ?_
      intro w2 hb2 hs
      rw [put_swap aR _ _ (by decide)]
      exact f101 b9 w2 hb2 (o9.below hs)
    · refine a14 _ _ _ _ hb ?_
      rw [put_swap _ _ _ (by decide)]
      exact f011 _ b9 _ (bel_new _ hb) (own_new _ hb) (own_old _ _ o9) (Ne.symm (lt_of _ _ o9))
  refine wpAnyH_all r000 (by simp) ?_
  intro i hi
  simp only [List.mem_cons, List.not_mem_nil, or_false] at hi
  rcases hi with rfl | rfl | rfl
  · exact c6 _ _ _ _ hw e56 e61 (fun w2 hb2 hs => f100 w2 hb2)
  · exact a14 _ _ _ _ hw (f010 _ _ (bel_new _ hw) (own_new _ hw))
  · exact a15 _ _ _ _ hw (f001 _ _ (bel_new _ hw) (own_new _ hw))
theorem run_move (ev : Operand → Value) (o : Oper) {x : Operand} (hop : o.op = .move x) (w : World) {v : Value} (hx : ev x = v) : (execOp ev o).run Tryd.prog w = .ok (.value v) w := by
  simp only [execOp, hop, hx]
  go_simp
theorem run_field (ev : Operand → Value) (o : Oper) {x : Operand} (hop : o.op = .fieldAddr 24 x 1) (w : World) {b : Nat} (hx : ev x = .pointer (some ⟨b, 0, none⟩)) : (execOp ev o).run Tryd.prog w = .ok (.value (.pointer (some ⟨b, 1, none⟩))) w := by
  simp only [execOp, hop, hx]
  go_simp
theorem run_loadS (ev : Operand → Value) (o : Oper) {x : Operand} (hop : o.op = .load 22 x) (w : World) {b : Nat} {a : Option Addr} {n c : Nat} (hx : ev x = .pointer (some ⟨b, 1, none⟩)) (hc : w.cell? ⟨b, 1, none⟩ = some (.slice a n c)) : (execOp ev o).run Tryd.prog w = .ok (.value (.slice a n c)) w := by
  simp only [execOp, hop, hx]
  go_simp
theorem run_index (ev : Operand → Value) (o : Oper) {x y : Operand} (hop : o.op = .indexAddr 22 x y) (w : World) {g off n c k : Nat} (hx : ev x = .slice (some ⟨g, off, none⟩) n c) (hy : ev y = .int .i64 k) (hk : k < n) : (execOp ev o).run Tryd.prog w = .ok (.value (.pointer (some ⟨g, off + k * 4, none⟩))) w := by
  have h1 : (k : Int) < (n : Int) := by omega
  have h0 : (0 : Int) ≤ (k : Int) := by omega
  simp only [execOp, hop, hx, hy]
  go_simp
theorem run_loadT (ev : Operand → Value) (o : Oper) {x : Operand} (hop : o.op = .load 38 x) (w : World) {g q : Nat} {t : T} (hx : ev x = .pointer (some ⟨g, q, none⟩)) (hc : TAt w g q t) : (execOp ev o).run Tryd.prog w = .ok (.value (.agg #[.string t.v, .int .i8 t.a.k, .int .i64 t.a.n, .string t.a.s])) w := by
  obtain ⟨c0, c1, c2, c3⟩ := hc
  simp only [execOp, hop, hx]
  go_simp
def isOp (ops : Array Oper) (i : Nat) (op : Op) (dst : Option Tmp) : Prop := ops[i]?.map (fun o => (o.guard, o.op, o.dst)) = some (none, op, dst)
theorem isOp_out {ops : Array Oper} {i : Nat} {op : Op} {dst : Option Tmp} (h : isOp ops i op dst) : ∃ o, ops[i]? = some o ∧ o.guard = none ∧ o.op = op ∧ o.dst = dst := by
  obtain ⟨o, h1, h2⟩ := Option.map_eq_some_iff.1 h
  simp only [Prod.mk.injEq] at h2
  exact ⟨o, h1, h2.1, h2.2.1, h2.2.2⟩
def LRd (l : List Nat) : Array Bool := l.foldl (fun a i => a.setIfInBounds i true) (Array.replicate 18 false)
theorem LRd_snoc (l : List Nat) (i : Nat) : LRd (l ++ [i]) = (LRd l).setIfInBounds i true := by simp [LRd]
def reads8 : List (List Nat × Nat) := [([], 0), ([0], 1), ([0, 1], 2), ([0, 1, 2], 3), ([0, 1, 2, 3], 4), ([0, 1, 2, 3, 4], 5), ([0, 1, 2, 3, 4, 5], 7), ([0, 1, 2, 3, 4, 5, 7], 8), ([0, 1, 2, 3, 4, 5, 7, 8], 9), ([0, 1, 2, 3, 4, 5, 7, 8, 9], 10), ([0, 1, 2, 3, 4, 5, 7, 8, 9, 10], 11), ([0, 1, 2, 3, 4, 5, 7, 8, 9, 10, 11], 12)]
set_option maxHeartbeats 1600000 in
theorem region8 {ops : Array Oper} {Q : Exit → Act → World → Prop} {wr : World} {a0 : Act} {X Y : T} {sv : Value} {x y : T} {ts : Array TypeId} {ba bb g off g' off' n ca cb k : Nat}
    (q0 : isOp ops 0 (.move (.tmp 6)) (some 56))
    (q1 : isOp ops 1 (.fieldAddr 24 (.tmp 2) 1) (some 57))
    (q2 : isOp ops 2 (.load 22 (.tmp 57)) (some 58))
    (q3 : isOp ops 3 (.move (.tmp 7)) (some 59))
    (q4 : isOp ops 4 (.indexAddr 22 (.tmp 58) (.tmp 59)) (some 60))
    (q5 : isOp ops 5 (.load 38 (.tmp 60)) (some 61))
    (q6 : isOp ops 6 (.call { callee := .value (.func 17), args := #[.tmp 56, .tmp 61], argTypes := ts }) (some 62))
    (q7 : isOp ops 7 (.move (.tmp 6)) (some 63))
    (q8 : isOp ops 8 (.fieldAddr 24 (.tmp 3) 1) (some 64))
    (q9 : isOp ops 9 (.load 22 (.tmp 64)) (some 65))
    (q10 : isOp ops 10 (.move (.tmp 7)) (some 66))
    (q11 : isOp ops 11 (.indexAddr 22 (.tmp 65) (.tmp 66)) (some 67))
    (q12 : isOp ops 12 (.load 38 (.tmp 67)) (some 68))
    (q13 : isOp ops 13 (.call { callee := .value (.func 17), args := #[.tmp 63, .tmp 68], argTypes := ts }) (some 69))
    (q14 : isOp ops 14 (.alloc 38) (some 8))
    (q15 : isOp ops 15 (.alloc 38) (some 9))
    (q16 : isOp ops 16 (.store 38 (.tmp 8) (.tmp 62)) (none))
    (q17 : isOp ops 17 (.store 38 (.tmp 9) (.tmp 69)) (none))
    (hs : Region.noSelect ops = true) (hq : (reads8.all fun p => Region.free .any ops (LRd p.1) p.2 && (Region.ready .any ops (LRd p.1)).contains p.2) = true)
    (r000 : Region.ready .any ops (L8 false false false false false false) = [6, 14, 15])
    (r100 : Region.ready .any ops (L8 true false false false false false) = [13, 14, 15])
    (r010 : Region.ready .any ops (L8 false false true false false false) = [6, 15])
    (r001 : Region.ready .any ops (L8 false false false true false false) = [6, 14])
    (r200 : Region.ready .any ops (L8 true true false false false false) = [14, 15])
    (r110 : Region.ready .any ops (L8 true false true false false false) = [13, 15])
    (r101 : Region.ready .any ops (L8 true false false true false false) = [13, 14])
    (r011 : Region.ready .any ops (L8 false false true true false false) = [6])
    (r210 : Region.ready .any ops (L8 true true true false false false) = [15])
    (r201 : Region.ready .any ops (L8 true true false true false false) = [14])
    (r111 : Region.ready .any ops (L8 true false true true false false) = [13])
    (r211 : Region.ready .any ops (L8 true true true true false false) = [16])
    (rs16 : Region.ready .any ops (L8 true true true true true false) = [17])
    (rend : Region.ready .any ops (L8 true true true true true true) = [])
    (hQ : ∀ (d : Option Tmp) (v : Value) c a w, Q (.panic c) (a.put d v) w → Q (.panic c) a w)
    (hsz : 69 < a0.tmps.size) (e6 : a0.eval (.tmp 6) = sv) (e2 : a0.eval (.tmp 2) = .pointer (some ⟨ba, 0, none⟩)) (e3 : a0.eval (.tmp 3) = .pointer (some ⟨bb, 0, none⟩)) (e7 : a0.eval (.tmp 7) = .int .i64 k) (hk : k < n)
    (KA : ∀ w', Below wr.heap.size wr w' → w'.cell? ⟨ba, 1, none⟩ = some (.slice (some ⟨g, off, none⟩) n ca)) (KC : ∀ w', Below wr.heap.size wr w' → w'.cell? ⟨bb, 1, none⟩ = some (.slice (some ⟨g', off', none⟩) n cb))
    (KX : ∀ w', Below wr.heap.size wr w' → TAt w' g (off + k * 4) x) (KY : ∀ w', Below wr.heap.size wr w' → TAt w' g' (off' + k * 4) y)
    (KR : ∀ w', Below wr.heap.size wr w' → Calls Tryd.prog 17 #[sv, .agg #[.string x.v, .int .i8 x.a.k, .int .i64 x.a.n, .string x.a.s]] w' fun e w2 => e = .returned (.agg #[.string X.v, .int .i8 X.a.k, .int .i64 X.a.n, .string X.a.s]) ∧ Below w'.heap.size w' w2)
    (KR' : ∀ w', Below wr.heap.size wr w' → Calls Tryd.prog 17 #[sv, .agg #[.string y.v, .int .i8 y.a.k, .int .i64 y.a.n, .string y.a.s]] w' fun e w2 => e = .returned (.agg #[.string Y.v, .int .i8 Y.a.k, .int .i64 Y.a.n, .string Y.a.s]) ∧ Below w'.heap.size w' w2)
    (F : ∀ b8 b9 wc, Below wr.heap.size wr wc → TAt wc b8 0 X → TAt wc b9 0 Y → Q .normal (((((((((((((((((a0.put (some 56) (sv)).put (some 57) (.pointer (some ⟨ba, 1, none⟩))).put (some 58) (.slice (some ⟨g, off, none⟩) n ca)).put (some 59) (.int .i64 k)).put (some 60) (.pointer (some ⟨g, off + k * 4, none⟩))).put (some 61) (.agg #[.string x.v, .int .i8 x.a.k, .int .i64 x.a.n, .string x.a.s])).put (some 63) (sv)).put (some 64) (.pointer (some ⟨bb, 1, none⟩))).put (some 65) (.slice (some ⟨g', off', none⟩) n cb)).put (some 66) (.int .i64 k)).put (some 67) (.pointer (some ⟨g', off' + k * 4, none⟩))).put (some 68) (.agg #[.string y.v, .int .i8 y.a.k, .int .i64 y.a.n, .string y.a.s]))).put (some 62) (.agg #[.string X.v, .int .i8 X.a.k, .int .i64 X.a.n, .string X.a.s])).put (some 69) (.agg #[.string Y.v, .int .i8 Y.a.k, .int .i64 Y.a.n, .string Y.a.s])).put (some 8) (ptr b8)).put (some 9) (ptr b9)) wc) :
    wpAnyH Tryd.prog .any ops Q (fun w' => Below wr.heap.size wr w') 18 (LRd []) a0 wr.drew := by
  have hall : ∀ p ∈ reads8, Region.free .any ops (LRd p.1) p.2 = true ∧ (Region.ready .any ops (LRd p.1)).contains p.2 = true := by
    intro p hp
    have := List.all_eq_true.1 hq p hp
    simpa using this
  unfold reads8 at hall
  obtain ⟨o0, ho, hg, hop, hd⟩ := isOp_out q0
  have hfr := hall ([], 0) (by simp)
  refine wpAnyH_take (listed := LRd []) (v := sv) ho hs hfr.1 hfr.2 (hQ _ _) (Or.inl ⟨by simp [Region.wanted, hg], fun w' hS => run_move _ _ hop w' (by exact e6)⟩) (Below.refl _ _).drew ?_
  rw [hd, ← LRd_snoc]
  clear ho hg hop hd hfr
  obtain ⟨o1, ho, hg, hop, hd⟩ := isOp_out q1
  have hfr := hall ([0], 1) (by simp)
  refine wpAnyH_take (listed := LRd [0]) (v := .pointer (some ⟨ba, 1, none⟩)) ho hs hfr.1 hfr.2 (hQ _ _) (Or.inl ⟨by simp [Region.wanted, hg], fun w' hS => run_field _ _ hop w' (by rw [eval_far _ _ (by decide)]; exact e2)⟩) (Below.refl _ _).drew ?_
  rw [hd, ← LRd_snoc]
  clear ho hg hop hd hfr
  obtain ⟨o2, ho, hg, hop, hd⟩ := isOp_out q2
  have hfr := hall ([0, 1], 2) (by simp)
  refine wpAnyH_take (listed := LRd [0, 1]) (v := .slice (some ⟨g, off, none⟩) n ca) ho hs hfr.1 hfr.2 (hQ _ _) (Or.inl ⟨by simp [Region.wanted, hg], fun w' hS => run_loadS _ _ hop w' (by rw [eval_same _ _ (by (try simp only [put_size]); omega)]) (KA w' hS)⟩) (Below.refl _ _).drew ?_
  rw [hd, ← LRd_snoc]
  clear ho hg hop hd hfr
  obtain ⟨o3, ho, hg, hop, hd⟩ := isOp_out q3
  have hfr := hall ([0, 1, 2], 3) (by simp)
  refine wpAnyH_take (listed := LRd [0, 1, 2]) (v := .int .i64 k) ho hs hfr.1 hfr.2 (hQ _ _) (Or.inl ⟨by simp [Region.wanted, hg], fun w' hS => run_move _ _ hop w' (by rw [eval_far _ _ (by decide), eval_far _ _ (by decide), eval_far _ _ (by decide)]; exact e7)⟩) (Below.refl _ _).drew ?_
  rw [hd, ← LRd_snoc]
  clear ho hg hop hd hfr
  obtain ⟨o4, ho, hg, hop, hd⟩ := isOp_out q4
  have hfr := hall ([0, 1, 2, 3], 4) (by simp)
  refine wpAnyH_take (listed := LRd [0, 1, 2, 3]) (v := .pointer (some ⟨g, off + k * 4, none⟩)) ho hs hfr.1 hfr.2 (hQ _ _) (Or.inl ⟨by simp [Region.wanted, hg], fun w' hS => run_index _ _ hop w' (by rw [eval_far _ _ (by decide), eval_same _ _ (by (try simp only [put_size]); omega)]) (by rw [eval_same _ _ (by (try simp only [put_size]); omega)]) hk⟩) (Below.refl _ _).drew ?_
  rw [hd, ← LRd_snoc]
  clear ho hg hop hd hfr
  obtain ⟨o5, ho, hg, hop, hd⟩ := isOp_out q5
  have hfr := hall ([0, 1, 2, 3, 4], 5) (by simp)
  refine wpAnyH_take (listed := LRd [0, 1, 2, 3, 4]) (v := .agg #[.string x.v, .int .i8 x.a.k, .int .i64 x.a.n, .string x.a.s]) ho hs hfr.1 hfr.2 (hQ _ _) (Or.inl ⟨by simp [Region.wanted, hg], fun w' hS => run_loadT _ _ hop w' (by rw [eval_same _ _ (by (try simp only [put_size]); omega)]) (KX w' hS)⟩) (Below.refl _ _).drew ?_
  rw [hd, ← LRd_snoc]
  clear ho hg hop hd hfr
  obtain ⟨o7, ho, hg, hop, hd⟩ := isOp_out q7
  have hfr := hall ([0, 1, 2, 3, 4, 5], 7) (by simp)
  refine wpAnyH_take (listed := LRd [0, 1, 2, 3, 4, 5]) (v := sv) ho hs hfr.1 hfr.2 (hQ _ _) (Or.inl ⟨by simp [Region.wanted, hg], fun w' hS => run_move _ _ hop w' (by rw [eval_far _ _ (by decide), eval_far _ _ (by decide), eval_far _ _ (by decide), eval_far _ _ (by decide), eval_far _ _ (by decide), eval_far _ _ (by decide)]; exact e6)⟩) (Below.refl _ _).drew ?_
  rw [hd, ← LRd_snoc]
  clear ho hg hop hd hfr
  obtain ⟨o8, ho, hg, hop, hd⟩ := isOp_out q8
  have hfr := hall ([0, 1, 2, 3, 4, 5, 7], 8) (by simp)
  refine wpAnyH_take (listed := LRd [0, 1, 2, 3, 4, 5, 7]) (v := .pointer (some ⟨bb, 1, none⟩)) ho hs hfr.1 hfr.2 (hQ _ _) (Or.inl ⟨by simp [Region.wanted, hg], fun w' hS => run_field _ _ hop w' (by rw [eval_far _ _ (by decide), eval_far _ _ (by decide), eval_far _ _ (by decide), eval_far _ _ (by decide), eval_far _ _ (by decide), eval_far _ _ (by decide), eval_far _ _ (by decide)]; exact e3)⟩) (Below.refl _ _).drew ?_
  rw [hd, ← LRd_snoc]
  clear ho hg hop hd hfr
  obtain ⟨o9, ho, hg, hop, hd⟩ := isOp_out q9
  have hfr := hall ([0, 1, 2, 3, 4, 5, 7, 8], 9) (by simp)
  refine wpAnyH_take (listed := LRd [0, 1, 2, 3, 4, 5, 7, 8]) (v := .slice (some ⟨g', off', none⟩) n cb) ho hs hfr.1 hfr.2 (hQ _ _) (Or.inl ⟨by simp [Region.wanted, hg], fun w' hS => run_loadS _ _ hop w' (by rw [eval_same _ _ (by (try simp only [put_size]); omega)]) (KC w' hS)⟩) (Below.refl _ _).drew ?_
  rw [hd, ← LRd_snoc]
  clear ho hg hop hd hfr
  obtain ⟨o10, ho, hg, hop, hd⟩ := isOp_out q10
  have hfr := hall ([0, 1, 2, 3, 4, 5, 7, 8, 9], 10) (by simp)
  refine wpAnyH_take (listed := LRd [0, 1, 2, 3, 4, 5, 7, 8, 9]) (v := .int .i64 k) ho hs hfr.1 hfr.2 (hQ _ _) (Or.inl ⟨by simp [Region.wanted, hg], fun w' hS => run_move _ _ hop w' (by rw [eval_far _ _ (by decide), eval_far _ _ (by decide), eval_far _ _ (by decide), eval_far _ _ (by decide), eval_far _ _ (by decide), eval_far _ _ (by decide), eval_far _ _ (by decide), eval_far _ _ (by decide), eval_far _ _ (by decide)]; exact e7)⟩) (Below.refl _ _).drew ?_
  rw [hd, ← LRd_snoc]
  clear ho hg hop hd hfr
  obtain ⟨o11, ho, hg, hop, hd⟩ := isOp_out q11
  have hfr := hall ([0, 1, 2, 3, 4, 5, 7, 8, 9, 10], 11) (by simp)
  refine wpAnyH_take (listed := LRd [0, 1, 2, 3, 4, 5, 7, 8, 9, 10]) (v := .pointer (some ⟨g', off' + k * 4, none⟩)) ho hs hfr.1 hfr.2 (hQ _ _) (Or.inl ⟨by simp [Region.wanted, hg], fun w' hS => run_index _ _ hop w' (by rw [eval_far _ _ (by decide), eval_same _ _ (by (try simp only [put_size]); omega)]) (by rw [eval_same _ _ (by (try simp only [put_size]); omega)]) hk⟩) (Below.refl _ _).drew ?_
  rw [hd, ← LRd_snoc]
  clear ho hg hop hd hfr
  obtain ⟨o12, ho, hg, hop, hd⟩ := isOp_out q12
  have hfr := hall ([0, 1, 2, 3, 4, 5, 7, 8, 9, 10, 11], 12) (by simp)
  refine wpAnyH_take (listed := LRd [0, 1, 2, 3, 4, 5, 7, 8, 9, 10, 11]) (v := .agg #[.string y.v, .int .i8 y.a.k, .int .i64 y.a.n, .string y.a.s]) ho hs hfr.1 hfr.2 (hQ _ _) (Or.inl ⟨by simp [Region.wanted, hg], fun w' hS => run_loadT _ _ hop w' (by rw [eval_same _ _ (by (try simp only [put_size]); omega)]) (KY w' hS)⟩) (Below.refl _ _).drew ?_
  rw [hd, ← LRd_snoc]
  clear ho hg hop hd hfr
  obtain ⟨o6, h6, g6, p6, d6⟩ := isOp_out q6
  obtain ⟨o13, h13, g13, p13, d13⟩ := isOp_out q13
  obtain ⟨o14, h14, g14, p14, d14⟩ := isOp_out q14
  obtain ⟨o15, h15, g15, p15, d15⟩ := isOp_out q15
  obtain ⟨o16, h16, g16, p16, d16⟩ := isOp_out q16
  obtain ⟨o17, h17, g17, p17, d17⟩ := isOp_out q17
  exact two_res h6 h13 h14 h15 h16 h17 g6 g13 g14 g15 g16 g17 p6 p13 p14 p15 p16 p17 d6 d13 d14 d15 d16 d17 r000 r100 r010 r001 r200 r110 r101 r011 r210 r201 r111 r211 rs16 rend (by simp only [put_size]; omega) (by rw [eval_far _ _ (by decide), eval_far _ _ (by decide), eval_far _ _ (by decide), eval_far _ _ (by decide), eval_far _ _ (by decide), eval_far _ _ (by decide), eval_far _ _ (by decide), eval_far _ _ (by decide), eval_far _ _ (by decide), eval_far _ _ (by decide), eval_far _ _ (by decide), eval_same _ _ (by (try simp only [put_size]); omega)]) (by rw [eval_far _ _ (by decide), eval_far _ _ (by decide), eval_far _ _ (by decide), eval_far _ _ (by decide), eval_far _ _ (by decide), eval_far _ _ (by decide), eval_same _ _ (by (try simp only [put_size]); omega)]) (by rw [eval_far _ _ (by decide), eval_far _ _ (by decide), eval_far _ _ (by decide), eval_far _ _ (by decide), eval_far _ _ (by decide), eval_same _ _ (by (try simp only [put_size]); omega)]) (by rw [eval_same _ _ (by (try simp only [put_size]); omega)]) (fun _ h => h) KR KR' (Below.refl _ _).drew F
end Go.Proofs.YtnpmhgjbfkgmdaaDoor
