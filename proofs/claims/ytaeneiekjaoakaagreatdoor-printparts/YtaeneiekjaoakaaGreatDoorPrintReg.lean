import Derived.Test.YtaeneiekjaoakaaGreatDoorPrintPartsB
import Derived.OrdersHeld
namespace Go.Proofs.YtaeneiekjaoakaaGreatDoor
open Go.RowKit Go.Maps
set_option linter.unusedVariables false
set_option linter.unusedSimpArgs false

section
variable {P : Program} {ops : Array Oper} {Q : Exit → Act → World → Prop} {K : Act → World → Prop} {i : Nat} {a : Act} {w : World} {o : Oper}
theorem wpOp_run (hi : ops[i]? = some o) (hg : o.guard = none) (h : Oper.wp P o a w K Q) : wpOp P ops Q i K a w := by
  have hw : Region.wanted o (yielded ops a.tmps) = true := by simp [Region.wanted, hg]
  unfold wpOp
  rw [hi]
  simp only [hw, if_true]
  exact Or.inl h
theorem wpOp_call {f : Nat} {vs : Array Value} (hi : ops[i]? = some o) (hg : o.guard = none) (hrun : (execOp a.eval o).run P w = .ok (.enter f vs) w)
    (hc : Calls P f vs w fun e w' => ∃ u, e = .returned u ∧ K (a.put o.dst u) w') : wpOp P ops Q i K a w := by
  refine wpOp_run hi hg ?_
  unfold Oper.wp
  rw [hrun]
  refine Calls.mono hc ?_
  rintro e w' ⟨u, rfl, hK⟩
  exact hK
theorem wpOp_value {v : Value} {w' : World} (hi : ops[i]? = some o) (hg : o.guard = none) (hrun : (execOp a.eval o).run P w = .ok (.value v) w') (hK : K (a.put o.dst v) w') : wpOp P ops Q i K a w := by
  refine wpOp_run hi hg ?_
  unfold Oper.wp
  rw [hrun]
  exact hK
theorem wpOp_skip {w' : World} (hi : ops[i]? = some o) (hg : o.guard = none) (hd : o.dst = none) (hrun : (execOp a.eval o).run P w = .ok .skip w') (hK : K a w') : wpOp P ops Q i K a w := by
  refine wpOp_run hi hg ?_
  unfold Oper.wp
  rw [hrun]
  show K (a.put o.dst undef) w'
  rw [hd]
  exact hK
end
theorem eval_far (a : Act) {i j : Nat} (v : Value) (h : i ≠ j) : (a.put (some i) v).eval (.tmp j) = a.eval (.tmp j) := Act.eval_put (by intro d hd; cases hd; intro e; exact h (by injection e with e; exact e.symm))
theorem eval_same (a : Act) {i : Nat} (v : Value) (h : i < a.tmps.size) : (a.put (some i) v).eval (.tmp i) = v := by
  simp [Act.eval, Act.put, h]
theorem put_size (a : Act) (i : Nat) (v : Value) : (a.put (some i) v).tmps.size = a.tmps.size := by simp [Act.put]
theorem put_swap (a : Act) {i j : Nat} (u v : Value) (h : i ≠ j) : (a.put (some i) u).put (some j) v = (a.put (some j) v).put (some i) u :=
  Act.put_comm a u v (by intro d hd; cases hd; intro e; exact h (by injection e with e; exact e.symm))
def ptr (b : Nat) : Value := .pointer (some ⟨b, 0, none⟩)
def isOp (ops : Array Oper) (i : Nat) (op : Op) (dst : Option Tmp) : Prop := ops[i]?.map (fun o => (o.guard, o.op, o.dst)) = some (none, op, dst)
theorem isOp_out {ops : Array Oper} {i : Nat} {op : Op} {dst : Option Tmp} (h : isOp ops i op dst) : ∃ o, ops[i]? = some o ∧ o.guard = none ∧ o.op = op ∧ o.dst = dst := by
  obtain ⟨o, h1, h2⟩ := Option.map_eq_some_iff.1 h
  simp only [Prod.mk.injEq] at h2
  exact ⟨o, h1, h2.1, h2.2.1, h2.2.2⟩

theorem RL.block {w w' : World} {b : Nat} {t : TypeId} {l : List Value} (h : RL w b t l) (e : w'.heap[b]? = w.heap[b]?) : RL w' b t l := World.rowIs.of_block h e
/-- a slot that has its value, or not yet -/
def putO (a : Act) (i : Nat) : Option Value → Act
  | none => a
  | some v => a.put (some i) v
theorem putO_swap (a : Act) {i j : Nat} (o : Option Value) (v : Value) (h : i ≠ j) : (putO a i o).put (some j) v = putO (a.put (some j) v) i o := by
  cases o with
  | none => rfl
  | some u => exact put_swap a u v h
theorem putO_far (a : Act) {i j : Nat} (o : Option Value) (h : i ≠ j) : (putO a i o).eval (.tmp j) = a.eval (.tmp j) := by
  cases o with
  | none => rfl
  | some u => exact eval_far a u h
theorem putO_size (a : Act) (i : Nat) (o : Option Value) : (putO a i o).tmps.size = a.tmps.size := by
  cases o with
  | none => rfl
  | some u => exact put_size a i u
def N4 (a : Act) (oa ob o5 o6 : Option Value) : Act := putO (putO (putO (putO a 17 oa) 19 ob) 5 o5) 6 o6
theorem N4_a (a : Act) (v : Value) (ob o5 o6 : Option Value) : (N4 a none ob o5 o6).put (some 17) v = N4 a (some v) ob o5 o6 := by
  unfold N4
  rw [putO_swap _ _ _ (by decide), putO_swap _ _ _ (by decide), putO_swap _ _ _ (by decide)]
  rfl
theorem N4_b (a : Act) (v : Value) (oa o5 o6 : Option Value) : (N4 a oa none o5 o6).put (some 19) v = N4 a oa (some v) o5 o6 := by
  unfold N4
  rw [putO_swap _ _ _ (by decide), putO_swap _ _ _ (by decide)]
  rfl
theorem N4_5 (a : Act) (v : Value) (oa ob o6 : Option Value) : (N4 a oa ob none o6).put (some 5) v = N4 a oa ob (some v) o6 := by
  unfold N4
  rw [putO_swap _ _ _ (by decide)]
  rfl
theorem N4_6 (a : Act) (v : Value) (oa ob o5 : Option Value) : (N4 a oa ob o5 none).put (some 6) v = N4 a oa ob o5 (some v) := rfl
theorem N4_far (a : Act) (oa ob o5 o6 : Option Value) {j : Nat} (h1 : 17 ≠ j) (h2 : 19 ≠ j) (h3 : 5 ≠ j) (h4 : 6 ≠ j) : (N4 a oa ob o5 o6).eval (.tmp j) = a.eval (.tmp j) := by
  unfold N4
  rw [putO_far _ _ h4, putO_far _ _ h3, putO_far _ _ h2, putO_far _ _ h1]
theorem N4_at17 (a : Act) (v : Value) (ob o5 o6 : Option Value) (h : 19 < a.tmps.size) : (N4 a (some v) ob o5 o6).eval (.tmp 17) = v := by
  unfold N4
  rw [putO_far _ _ (by decide), putO_far _ _ (by decide), putO_far _ _ (by decide)]
  exact eval_same _ _ (by omega)
theorem N4_at19 (a : Act) (v : Value) (oa o5 o6 : Option Value) (h : 19 < a.tmps.size) : (N4 a oa (some v) o5 o6).eval (.tmp 19) = v := by
  unfold N4
  rw [putO_far _ _ (by decide), putO_far _ _ (by decide)]
  exact eval_same _ _ (by rw [putO_size]; omega)
theorem N4_at5 (a : Act) (v : Value) (oa ob o6 : Option Value) (h : 19 < a.tmps.size) : (N4 a oa ob (some v) o6).eval (.tmp 5) = v := by
  unfold N4
  rw [putO_far _ _ (by decide)]
  exact eval_same _ _ (by rw [putO_size, putO_size]; omega)
theorem N4_at6 (a : Act) (v : Value) (oa ob o5 : Option Value) (h : 19 < a.tmps.size) : (N4 a oa ob o5 (some v)).eval (.tmp 6) = v := by
  unfold N4
  exact eval_same _ _ (by rw [putO_size, putO_size, putO_size]; omega)

/-- what a call made (in the blocks from lo on, as they lay behind it), in a world that has kept these blocks; none of the blocks of A is among them -/
def Copy (R : Value → World → Nat → Prop) (lo0 : Nat) (v : Value) (u : World) (A : Nat → Prop) : Prop :=
  ∃ w0 lo, R v w0 lo ∧ lo0 ≤ lo ∧ w0.heap.size ≤ u.heap.size ∧ (∀ k, lo ≤ k → k < w0.heap.size → u.heap[k]? = w0.heap[k]?) ∧ ∀ b, A b → b < lo ∨ w0.heap.size ≤ b
section
variable {R : Value → World → Nat → Prop} {lo0 : Nat} {v : Value} {u u' : World} {A B : Nat → Prop}
theorem Copy.below (h : Copy R lo0 v u A) (hb : Below u.heap.size u u') : Copy R lo0 v u' A := by
  obtain ⟨w0, lo, h1, h2, h3, h4, h5⟩ := h
  exact ⟨w0, lo, h1, h2, Nat.le_trans h3 hb.size, fun k hk hk' => (hb.block k (Nat.lt_of_lt_of_le hk' h3)).trans (h4 k hk hk'), h5⟩
theorem Copy.more (h : Copy R lo0 v u A) (hB : ∀ b, B b → A b ∨ u.heap.size ≤ b) : Copy R lo0 v u B := by
  obtain ⟨w0, lo, h1, h2, h3, h4, h5⟩ := h
  exact ⟨w0, lo, h1, h2, h3, h4, fun b hb => (hB b hb).elim (h5 b) (fun h => Or.inr (Nat.le_trans h3 h))⟩
theorem Copy.keep (h : Copy R lo0 v u A) {b : Nat} (hA : A b) (hs : u.heap.size ≤ u'.heap.size) (hk : ∀ k, k ≠ b → u'.heap[k]? = u.heap[k]?) : Copy R lo0 v u' A := by
  obtain ⟨w0, lo, h1, h2, h3, h4, h5⟩ := h
  refine ⟨w0, lo, h1, h2, Nat.le_trans h3 hs, fun k hk1 hk2 => (hk k ?_).trans (h4 k hk1 hk2), h5⟩
  rcases h5 b hA with h | h <;> omega
end
structure Inv4 (wr : World) (tA tB : TypeId) (zA zB : List Value) (RA RB : Value → World → Nat → Prop) (oa ob : Option Value) (o5 o6 : Option Nat) (u : World) : Prop where
  bel : Below wr.heap.size wr u
  l5 : ∀ b, o5 = some b → wr.heap.size ≤ b ∧ RL u b tA zA
  l6 : ∀ b, o6 = some b → wr.heap.size ≤ b ∧ RL u b tB zB
  ne : ∀ b b', o5 = some b → o6 = some b' → b ≠ b'
  ca : ∀ v, oa = some v → Copy RA wr.heap.size v u (fun b => o5 = some b ∨ o6 = some b)
  cb : ∀ v, ob = some v → Copy RB wr.heap.size v u (fun b => o5 = some b ∨ o6 = some b)
section
variable {wr : World} {tA tB : TypeId} {zA zB : List Value} {RA RB : Value → World → Nat → Prop} {oa ob : Option Value} {o5 o6 : Option Nat} {u u' : World}
theorem Inv4.low (h : Inv4 wr tA tB zA zB RA RB oa ob o5 o6 u) : ∀ b, o5 = some b ∨ o6 = some b → b < u.heap.size := by
  rintro b (e | e)
  · exact World.rowIs.lt (h.l5 b e).2
  · exact World.rowIs.lt (h.l6 b e).2
theorem Inv4.stepA (h : Inv4 wr tA tB zA zB RA RB none ob o5 o6 u) (hb : Below u.heap.size u u') {v : Value} (hR : RA v u' u.heap.size) : Inv4 wr tA tB zA zB RA RB (some v) ob o5 o6 u' :=
  ⟨h.bel.trans (hb.mono h.bel.size), fun b e => ⟨(h.l5 b e).1, (h.l5 b e).2.below hb⟩, fun b e => ⟨(h.l6 b e).1, (h.l6 b e).2.below hb⟩, h.ne,
    fun x e => by cases e; exact ⟨u', u.heap.size, hR, h.bel.size, Nat.le_refl _, fun _ _ _ => rfl, fun b hb' => Or.inl (h.low b hb')⟩, fun x e => (h.cb x e).below hb⟩
theorem Inv4.stepB (h : Inv4 wr tA tB zA zB RA RB oa none o5 o6 u) (hb : Below u.heap.size u u') {v : Value} (hR : RB v u' u.heap.size) : Inv4 wr tA tB zA zB RA RB oa (some v) o5 o6 u' :=
  ⟨h.bel.trans (hb.mono h.bel.size), fun b e => ⟨(h.l5 b e).1, (h.l5 b e).2.below hb⟩, fun b e => ⟨(h.l6 b e).1, (h.l6 b e).2.below hb⟩, h.ne,
    fun x e => (h.ca x e).below hb, fun x e => by cases e; exact ⟨u', u.heap.size, hR, h.bel.size, Nat.le_refl _, fun _ _ _ => rfl, fun b hb' => Or.inl (h.low b hb')⟩⟩
theorem Inv4.step5 (h : Inv4 wr tA tB zA zB RA RB oa ob none o6 u) {c : Array Value} (hc : c.toList = zA) : Inv4 wr tA tB zA zB RA RB oa ob (some u.heap.size) o6 (u.alloc (.cells c tA)) := by
  have hb : Below u.heap.size u (u.alloc (.cells c tA)) := (Below.refl _ _).alloc (Nat.le_refl _) _
  have hm : ∀ b, (some u.heap.size = some b ∨ o6 = some b) → (none = some b ∨ o6 = some b) ∨ u.heap.size ≤ b := by
    rintro b (e | e)
    · cases e; exact Or.inr (Nat.le_refl _)
    · exact Or.inl (Or.inr e)
  refine ⟨h.bel.alloc h.bel.size _, fun b e => ?_, fun b e => ⟨(h.l6 b e).1, (h.l6 b e).2.below hb⟩, fun b b' e e' => ?_, fun x e => ((h.ca x e).more hm).below hb, fun x e => ((h.cb x e).more hm).below hb⟩
  · cases e
    subst hc
    exact ⟨h.bel.size, rl_new _ _ _⟩
  · cases e
    exact Ne.symm (Nat.ne_of_lt (h.low b' (Or.inr e')))
theorem Inv4.step6 (h : Inv4 wr tA tB zA zB RA RB oa ob o5 none u) {c : Array Value} (hc : c.toList = zB) : Inv4 wr tA tB zA zB RA RB oa ob o5 (some u.heap.size) (u.alloc (.cells c tB)) := by
  have hb : Below u.heap.size u (u.alloc (.cells c tB)) := (Below.refl _ _).alloc (Nat.le_refl _) _
  have hm : ∀ b, (o5 = some b ∨ some u.heap.size = some b) → (o5 = some b ∨ none = some b) ∨ u.heap.size ≤ b := by
    rintro b (e | e)
    · exact Or.inl (Or.inl e)
    · cases e; exact Or.inr (Nat.le_refl _)
  refine ⟨h.bel.alloc h.bel.size _, fun b e => ⟨(h.l5 b e).1, (h.l5 b e).2.below hb⟩, fun b e => ?_, fun b b' e e' => ?_, fun x e => ((h.ca x e).more hm).below hb, fun x e => ((h.cb x e).more hm).below hb⟩
  · cases e
    subst hc
    exact ⟨h.bel.size, rl_new _ _ _⟩
  · cases e'
    exact Nat.ne_of_lt (h.low b (Or.inl e))
end
def L4 (la lb l5 l6 s6 s7 : Bool) : Array Bool := #[true, la, true, lb, l5, l6, s6, s7]
def rd4 (la lb l5 l6 : Bool) : List Nat := (if la then [] else [1]) ++ (if la && !lb then [3] else []) ++ (if l5 then [] else [4]) ++ (if l6 then [] else [5]) ++ (if la && lb && l5 && l6 then [6] else [])
def all4 : List (Bool × Bool × Bool × Bool) := [(false, false, false, false), (false, false, false, true), (false, false, true, false), (false, false, true, true), (true, false, false, false), (true, false, false, true), (true, false, true, false), (true, false, true, true), (true, true, false, false), (true, true, false, true), (true, true, true, false), (true, true, true, true)]
theorem mem_all4 {la lb l5 l6 : Bool} (h : lb = true → la = true) : (la, lb, l5, l6) ∈ all4 := by
  cases la <;> cases lb <;> cases l5 <;> cases l6 <;> simp [all4] at h ⊢
theorem mem_rd4 {la lb l5 l6 : Bool} {i : Nat} (h : i ∈ rd4 la lb l5 l6) : (i = 1 ∧ la = false) ∨ (i = 3 ∧ la = true ∧ lb = false) ∨ (i = 4 ∧ l5 = false) ∨ (i = 5 ∧ l6 = false) ∨ (i = 6 ∧ la = true ∧ lb = true ∧ l5 = true ∧ l6 = true) := by
  cases la <;> cases lb <;> cases l5 <;> cases l6 <;> simp [rd4] at h ⊢ <;> omega
theorem rd4_ne {la lb l5 l6 : Bool} : rd4 la lb l5 l6 ≠ [] := by
  cases la <;> cases lb <;> cases l5 <;> cases l6 <;> simp [rd4]
def cn {α : Type} : Option α → Nat
  | none => 1
  | some _ => 0
theorem run_call1 (ev : Operand → Value) (o : Oper) {f : Nat} {x : Operand} {ts : Array TypeId} (hop : o.op = .call { callee := .value (.func f), args := #[x], argTypes := ts }) (w : World) {u : Value} (hf : ev (.func f) = .func (.func f) #[] #[]) (hx : ev x = u) (he : Sem.run Tryz.prog (callFunc f #[u]) w = .ok (.enter f #[u]) w) :
    (execOp ev o).run Tryz.prog w = .ok (.enter f #[u]) w := by
  simp only [execOp, hop]
  go_simp
set_option maxHeartbeats 1600000 in
/-- two calls one behind the other, two variables laid, in whatever order; then both are stored -/
theorem four_states {ops : Array Oper} {Q : Exit → Act → World → Prop} {wr : World} {aR : Act} {tA tB : TypeId} {cA cB : Array Value} {RA RB : Value → World → Nat → Prop} {DA DB : Value → List Value} {vA vB : Value} {fA fB : Nat} {tsA tsB : Array TypeId}
    (q1 : isOp ops 1 (.call { callee := .value (.func fA), args := #[.tmp 16], argTypes := tsA }) (some 17)) (q3 : isOp ops 3 (.call { callee := .value (.func fB), args := #[.tmp 18], argTypes := tsB }) (some 19))
    (q4 : isOp ops 4 (.alloc tA) (some 5)) (q5 : isOp ops 5 (.alloc tB) (some 6)) (q6 : isOp ops 6 (.store tA (.tmp 5) (.tmp 17)) none) (q7 : isOp ops 7 (.store tB (.tmp 6) (.tmp 19)) none)
    (hr : (all4.all fun p => Region.ready .any ops (L4 p.1 p.2.1 p.2.2.1 p.2.2.2 false false) == rd4 p.1 p.2.1 p.2.2.1 p.2.2.2) = true)
    (hr6 : Region.ready .any ops (L4 true true true true true false) = [7]) (hr7 : Region.ready .any ops (L4 true true true true true true) = [])
    (hsz : 19 < aR.tmps.size) (eA : aR.eval (.tmp 16) = vA) (eB : aR.eval (.tmp 18) = vB)
    (EA : ∀ u w', Sem.run Tryz.prog (callFunc fA #[u]) w' = .ok (.enter fA #[u]) w') (EB : ∀ u w', Sem.run Tryz.prog (callFunc fB #[u]) w' = .ok (.enter fB #[u]) w')
    (KA : ∀ w', Below wr.heap.size wr w' → Calls Tryz.prog fA #[vA] w' fun e w2 => ∃ v, e = .returned v ∧ Below w'.heap.size w' w2 ∧ RA v w2 w'.heap.size)
    (KB : ∀ w', Below wr.heap.size wr w' → Calls Tryz.prog fB #[vB] w' fun e w2 => ∃ v, e = .returned v ∧ Below w'.heap.size w' w2 ∧ RB v w2 w'.heap.size)
    (MA : ∀ (ev : Operand → Value) (o : Oper) w', o.op = .alloc tA → (execOp ev o).run Tryz.prog w' = .ok (.value (ptr w'.heap.size)) (w'.alloc (.cells cA tA)))
    (MB : ∀ (ev : Operand → Value) (o : Oper) w', o.op = .alloc tB → (execOp ev o).run Tryz.prog w' = .ok (.value (ptr w'.heap.size)) (w'.alloc (.cells cB tB)))
    (SA : ∀ (ev : Operand → Value) (o : Oper) (x y : Operand) w' b v w0 lo, o.op = .store tA x y → ev x = ptr b → ev y = v → RA v w0 lo → RL w' b tA cA.toList → ∃ w2, (execOp ev o).run Tryz.prog w' = .ok .skip w2 ∧ w'.heap.size = w2.heap.size ∧ (∀ k, k ≠ b → w2.heap[k]? = w'.heap[k]?) ∧ RL w2 b tA (DA v) ∧ ∀ B, B ≤ b → ∀ x, Below B x w' → Below B x w2)
    (SB : ∀ (ev : Operand → Value) (o : Oper) (x y : Operand) w' b v w0 lo, o.op = .store tB x y → ev x = ptr b → ev y = v → RB v w0 lo → RL w' b tB cB.toList → ∃ w2, (execOp ev o).run Tryz.prog w' = .ok .skip w2 ∧ w'.heap.size = w2.heap.size ∧ (∀ k, k ≠ b → w2.heap[k]? = w'.heap[k]?) ∧ RL w2 b tB (DB v) ∧ ∀ B, B ≤ b → ∀ x, Below B x w' → Below B x w2)
    (F : ∀ xA xB b5 b6 wc, Below wr.heap.size wr wc → RL wc b5 tA (DA xA) → RL wc b6 tB (DB xB) → (∃ A, Copy RA wr.heap.size xA wc A) → (∃ A, Copy RB wr.heap.size xB wc A) → Q .normal (N4 aR (some xA) (some xB) (some (ptr b5)) (some (ptr b6))) wc) :
    ∀ (n : Nat) (oa ob : Option Value) (o5 o6 : Option Nat) (u : World), cn oa + cn ob + cn o5 + cn o6 = n → (ob.isSome = true → oa.isSome = true) → Inv4 wr tA tB cA.toList cB.toList RA RB oa ob o5 o6 u →
      wpAnyH Tryz.prog .any ops Q (fun w' => Below wr.heap.size wr w') (n + 2) (L4 oa.isSome ob.isSome o5.isSome o6.isSome false false) (N4 aR oa ob (o5.map ptr) (o6.map ptr)) u := by
  obtain ⟨p1, h1, g1, r1, d1⟩ := isOp_out q1
  obtain ⟨p3, h3, g3, r3, d3⟩ := isOp_out q3
  obtain ⟨p4, h4, g4, r4, d4⟩ := isOp_out q4
  obtain ⟨p5, h5, g5, r5, d5⟩ := isOp_out q5
  obtain ⟨p6, h6, g6, r6, d6⟩ := isOp_out q6
  obtain ⟨p7, h7, g7, r7, d7⟩ := isOp_out q7
  have rdy : ∀ la lb l5 l6 : Bool, (lb = true → la = true) → Region.ready .any ops (L4 la lb l5 l6 false false) = rd4 la lb l5 l6 := by
    intro la lb l5 l6 h
    have := List.all_eq_true.1 hr (la, lb, l5, l6) (mem_all4 h)
    simpa using this
  intro n
  induction n with
  | zero =>
    intro oa ob o5 o6 u hn hab hI
    cases oa with
    | none => simp [cn] at hn
    | some xA =>
    cases ob with
    | none => simp [cn] at hn
    | some xB =>
    cases o5 with
    | none => simp [cn] at hn
    | some b5 =>
    cases o6 with
    | none => simp [cn] at hn
    | some b6 =>
    refine wpAnyH_all (rs := [6]) (rdy true true true true (fun h => h)) (by simp) ?_
    intro i hi
    obtain rfl := List.mem_singleton.1 hi
    obtain ⟨w0, lo, hRA, -⟩ := hI.ca xA rfl
    obtain ⟨w0', lo', hRB, -⟩ := hI.cb xB rfl
    have hne := hI.ne b5 b6 rfl rfl
    obtain ⟨u1, e1, s1, k1, l1, B1⟩ := SA (N4 aR (some xA) (some xB) (some (ptr b5)) (some (ptr b6))).eval p6 _ _ u b5 xA w0 lo r6 (N4_at5 _ _ _ _ _ hsz) (N4_at17 _ _ _ _ _ hsz) hRA (hI.l5 b5 rfl).2
    have bel1 := B1 _ (hI.l5 b5 rfl).1 _ hI.bel
    refine wpOp_skip h6 g6 d6 e1 ⟨bel1, ?_⟩
    refine wpAnyH_all (rs := [7]) hr6 (by simp) ?_
    intro i hi
    obtain rfl := List.mem_singleton.1 hi
    have l6 : RL u1 b6 tB cB.toList := RL.block (hI.l6 b6 rfl).2 (k1 b6 (Ne.symm hne))
    obtain ⟨u2, e2, s2, k2, l2, B2⟩ := SB (N4 aR (some xA) (some xB) (some (ptr b5)) (some (ptr b6))).eval p7 _ _ u1 b6 xB w0' lo' r7 (N4_at6 _ _ _ _ _ hsz) (N4_at19 _ _ _ _ _ hsz) hRB l6
    have bel2 := B2 _ (hI.l6 b6 rfl).1 _ bel1
    refine wpOp_skip h7 g7 d7 e2 ⟨bel2, ?_⟩
    refine wpAnyH_done (listed := L4 true true true true true true) hr7 ?_ _
    refine F xA xB b5 b6 u2 bel2 (l1.block (k2 b5 hne)) l2 ⟨fun b => some b5 = some b ∨ some b6 = some b, ?_⟩ ⟨fun b => some b5 = some b ∨ some b6 = some b, ?_⟩
    · exact ((hI.ca xA rfl).keep (b := b5) (Or.inl rfl) (Nat.le_of_eq s1) k1).keep (b := b6) (Or.inr rfl) (Nat.le_of_eq s2) k2
    · exact ((hI.cb xB rfl).keep (b := b5) (Or.inl rfl) (Nat.le_of_eq s1) k1).keep (b := b6) (Or.inr rfl) (Nat.le_of_eq s2) k2
  | succ n ih =>
    intro oa ob o5 o6 u hn hab hI
    show wpAnyH Tryz.prog .any ops Q _ (n + 2 + 1) _ _ u
    refine wpAnyH_all (rdy _ _ _ _ hab) rd4_ne ?_
    intro i hi
    rcases mem_rd4 hi with ⟨rfl, e⟩ | ⟨rfl, e', e⟩ | ⟨rfl, e⟩ | ⟨rfl, e⟩ | ⟨rfl, e1, e2, e3, e4⟩
    · cases oa with
      | some x => simp at e
      | none =>
        refine wpOp_call h1 g1 (run_call1 _ p1 r1 u rfl ((N4_far _ _ _ _ _ (by decide) (by decide) (by decide) (by decide)).trans eA) (EA _ _)) (Calls.mono (KA u hI.bel) ?_)
        rintro r u' ⟨v, rfl, hb, hR⟩
        have hI' := hI.stepA hb hR
        refine ⟨v, rfl, hI'.bel, ?_⟩
        rw [d1, N4_a]
        exact ih (some v) ob o5 o6 u' (by simp only [cn] at hn ⊢; omega) (fun _ => rfl) hI'
    · cases ob with
      | some x => simp at e
      | none =>
        refine wpOp_call h3 g3 (run_call1 _ p3 r3 u rfl ((N4_far _ _ _ _ _ (by decide) (by decide) (by decide) (by decide)).trans eB) (EB _ _)) (Calls.mono (KB u hI.bel) ?_)
        rintro r u' ⟨v, rfl, hb, hR⟩
        have hI' := hI.stepB hb hR
        refine ⟨v, rfl, hI'.bel, ?_⟩
        rw [d3, N4_b]
        exact ih oa (some v) o5 o6 u' (by simp only [cn] at hn ⊢; omega) (fun _ => e') hI'
    · cases o5 with
      | some x => simp at e
      | none =>
        have hI' := hI.step5 (c := cA) rfl
        refine wpOp_value h4 g4 (MA _ p4 u r4) ⟨hI'.bel, ?_⟩
        rw [d4]
        show wpAnyH _ _ _ _ _ _ _ ((N4 aR oa ob none (o6.map ptr)).put (some 5) _) _
        rw [N4_5]
        exact ih oa ob (some u.heap.size) o6 _ (by simp only [cn] at hn ⊢; omega) hab hI'
    · cases o6 with
      | some x => simp at e
      | none =>
        have hI' := hI.step6 (c := cB) rfl
        refine wpOp_value h5 g5 (MB _ p5 u r5) ⟨hI'.bel, ?_⟩
        rw [d5]
        exact ih oa ob o5 (some u.heap.size) _ (by simp only [cn] at hn ⊢; omega) hab hI'
    · exfalso
      cases oa <;> cases ob <;> cases o5 <;> cases o6 <;> simp [cn] at hn e1 e2 e3 e4
set_option maxHeartbeats 1600000 in
/-- the whole region: the two loads first -/
theorem region_two {ops : Array Oper} {Q : Exit → Act → World → Prop} {wr : World} {a0 : Act} {tA tB : TypeId} {cA cB : Array Value} {RA RB : Value → World → Nat → Prop} {DA DB : Value → List Value} {vA vB : Value} {fA fB : Nat} {tsA tsB : Array TypeId} {ba bb : Nat}
    (q0 : isOp ops 0 (.load tA (.tmp 2)) (some 16)) (q2 : isOp ops 2 (.load tB (.tmp 3)) (some 18))
    (q1 : isOp ops 1 (.call { callee := .value (.func fA), args := #[.tmp 16], argTypes := tsA }) (some 17)) (q3 : isOp ops 3 (.call { callee := .value (.func fB), args := #[.tmp 18], argTypes := tsB }) (some 19))
    (q4 : isOp ops 4 (.alloc tA) (some 5)) (q5 : isOp ops 5 (.alloc tB) (some 6)) (q6 : isOp ops 6 (.store tA (.tmp 5) (.tmp 17)) none) (q7 : isOp ops 7 (.store tB (.tmp 6) (.tmp 19)) none)
    (hsel : Region.noSelect ops = true)
    (f0 : Region.free .any ops #[false, false, false, false, false, false, false, false] 0 = true) (c0 : (Region.ready .any ops #[false, false, false, false, false, false, false, false]).contains 0 = true)
    (f2 : Region.free .any ops #[true, false, false, false, false, false, false, false] 2 = true) (c2 : (Region.ready .any ops #[true, false, false, false, false, false, false, false]).contains 2 = true)
    (hr : (all4.all fun p => Region.ready .any ops (L4 p.1 p.2.1 p.2.2.1 p.2.2.2 false false) == rd4 p.1 p.2.1 p.2.2.1 p.2.2.2) = true)
    (hr6 : Region.ready .any ops (L4 true true true true true false) = [7]) (hr7 : Region.ready .any ops (L4 true true true true true true) = [])
    (hQ : ∀ (d : Option Tmp) (v : Value) c a w, Q (.panic c) (a.put d v) w → Q (.panic c) a w)
    (hsz : 19 < a0.tmps.size) (e2 : a0.eval (.tmp 2) = ptr ba) (e3 : a0.eval (.tmp 3) = ptr bb)
    (LA : ∀ (ev : Operand → Value) (o : Oper) w', o.op = .load tA (.tmp 2) → ev (.tmp 2) = ptr ba → Below wr.heap.size wr w' → (execOp ev o).run Tryz.prog w' = .ok (.value vA) w')
    (LB : ∀ (ev : Operand → Value) (o : Oper) w', o.op = .load tB (.tmp 3) → ev (.tmp 3) = ptr bb → Below wr.heap.size wr w' → (execOp ev o).run Tryz.prog w' = .ok (.value vB) w')
    (EA : ∀ u w', Sem.run Tryz.prog (callFunc fA #[u]) w' = .ok (.enter fA #[u]) w') (EB : ∀ u w', Sem.run Tryz.prog (callFunc fB #[u]) w' = .ok (.enter fB #[u]) w')
    (KA : ∀ w', Below wr.heap.size wr w' → Calls Tryz.prog fA #[vA] w' fun e w2 => ∃ v, e = .returned v ∧ Below w'.heap.size w' w2 ∧ RA v w2 w'.heap.size)
    (KB : ∀ w', Below wr.heap.size wr w' → Calls Tryz.prog fB #[vB] w' fun e w2 => ∃ v, e = .returned v ∧ Below w'.heap.size w' w2 ∧ RB v w2 w'.heap.size)
    (MA : ∀ (ev : Operand → Value) (o : Oper) w', o.op = .alloc tA → (execOp ev o).run Tryz.prog w' = .ok (.value (ptr w'.heap.size)) (w'.alloc (.cells cA tA)))
    (MB : ∀ (ev : Operand → Value) (o : Oper) w', o.op = .alloc tB → (execOp ev o).run Tryz.prog w' = .ok (.value (ptr w'.heap.size)) (w'.alloc (.cells cB tB)))
    (SA : ∀ (ev : Operand → Value) (o : Oper) (x y : Operand) w' b v w0 lo, o.op = .store tA x y → ev x = ptr b → ev y = v → RA v w0 lo → RL w' b tA cA.toList → ∃ w2, (execOp ev o).run Tryz.prog w' = .ok .skip w2 ∧ w'.heap.size = w2.heap.size ∧ (∀ k, k ≠ b → w2.heap[k]? = w'.heap[k]?) ∧ RL w2 b tA (DA v) ∧ ∀ B, B ≤ b → ∀ x, Below B x w' → Below B x w2)
    (SB : ∀ (ev : Operand → Value) (o : Oper) (x y : Operand) w' b v w0 lo, o.op = .store tB x y → ev x = ptr b → ev y = v → RB v w0 lo → RL w' b tB cB.toList → ∃ w2, (execOp ev o).run Tryz.prog w' = .ok .skip w2 ∧ w'.heap.size = w2.heap.size ∧ (∀ k, k ≠ b → w2.heap[k]? = w'.heap[k]?) ∧ RL w2 b tB (DB v) ∧ ∀ B, B ≤ b → ∀ x, Below B x w' → Below B x w2)
    (F : ∀ xA xB b5 b6 wc, Below wr.heap.size wr wc → RL wc b5 tA (DA xA) → RL wc b6 tB (DB xB) → (∃ A, Copy RA wr.heap.size xA wc A) → (∃ A, Copy RB wr.heap.size xB wc A) → Q .normal (((((((a0.put (some 16) vA).put (some 18) vB).put (some 17) xA).put (some 19) xB).put (some 5) (ptr b5)).put (some 6) (ptr b6))) wc) :
    wpAnyH Tryz.prog .any ops Q (fun w' => Below wr.heap.size wr w') 8 #[false, false, false, false, false, false, false, false] a0 wr.drew := by
  have hd0 : Below wr.heap.size wr wr.drew := (Below.refl _ _).drew
  obtain ⟨p0, ho, hg, hop, hd⟩ := isOp_out q0
  refine wpAnyH_take (v := vA) ho hsel f0 c0 (hQ _ _) (Or.inl ⟨by simp [Region.wanted, hg], fun w' hS => LA _ _ w' hop e2 hS⟩) hd0 ?_
  rw [hd]
  clear ho hg hop hd
  obtain ⟨p2, ho, hg, hop, hd⟩ := isOp_out q2
  refine wpAnyH_take (listed := #[true, false, false, false, false, false, false, false]) (v := vB) ho hsel f2 c2 (hQ _ _) (Or.inl ⟨by simp [Region.wanted, hg], fun w' hS => LB _ _ w' hop ((eval_far _ _ (by decide)).trans e3) hS⟩) hd0 ?_
  rw [hd]
  exact four_states (aR := (a0.put (some 16) vA).put (some 18) vB) q1 q3 q4 q5 q6 q7 hr hr6 hr7 (by rw [put_size, put_size]; exact hsz) ((eval_far _ _ (by decide)).trans (eval_same _ _ (by omega))) (eval_same _ _ (by rw [put_size]; omega)) EA EB KA KB MA MB SA SB F 4 none none none none wr.drew rfl (fun h => by cases h) ⟨hd0, fun _ e => (by cases e), fun _ e => (by cases e), fun _ _ e => (by cases e), fun _ e => (by cases e), fun _ e => (by cases e)⟩
end Go.Proofs.YtaeneiekjaoakaaGreatDoor
