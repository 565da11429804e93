import Derived.Test.YtdchfmokicfmnaaDoorPlNx
section
namespace Go.Proofs.YtdchfmokicfmnaaDoor
open Go.RowKit Go.Maps Go.Shelf
set_option linter.unusedVariables false
set_option linter.unusedSimpArgs false
attribute [local go_sem ↓] Go.wp_at_zero Go.wp_at_succ

/-- the steps that are taken, from a turn on -/
inductive Gt (d : Nat) (l : List XL) : List ByteArray → Nat → St × Bool → List St → Prop where
  | done (ss : List ByteArray) (left : Nat) (s : St) : Gt d l ss left (s, false) []
  | more (ss : List ByteArray) (left : Nat) (s : St) (xs : List St) : Gt d l (ss ++ s.g) (clrN left s.i.toNat) (nextM d (ss ++ s.g) l (clrN left s.i.toNat)) xs → Gt d l ss left (s, true) (s :: xs)
def firstM (d : Nat) (ss : List ByteArray) (l : List XL) (left : Nat) (first : Int) : St × Bool :=
  if first = -1 then nextM d ss l left else (stL d ss l first.toNat, (stL d ss l first.toNat).k != 0)
/-- what is at hand is the step of a literal that is left -/
def FitM (d : Nat) (ss : List ByteArray) (l : List XL) (left : Nat) (c : St × Bool) : Prop := c.2 = true → hasB left c.1.i = true ∧ c.1 = stL d ss l c.1.i.toNat
theorem stL_i (d : Nat) (ss : List ByteArray) (l : List XL) (k : Nat) : (stL d ss l k).i = (k : Int) := stM_i _ _ _ _
theorem fit_of (d : Nat) (ss : List ByteArray) (l : List XL) (left : Nat) {i : Nat} (hi : i ∈ bitsL left) (b : Bool) : FitM d ss l left (stL d ss l i, b) := by
  intro _
  show hasB left (stL d ss l i).i = true ∧ stL d ss l i = stL d ss l (stL d ss l i).i.toNat
  rw [stL_i, Int.toNat_natCast]
  refine ⟨?_, rfl⟩
  unfold hasB
  rw [Int.toNat_natCast, (bitsL_mem hi).1]
  simp
theorem nextM_fit (d : Nat) (ss : List ByteArray) (l : List XL) (left : Nat) : FitM d ss l left (nextM d ss l left) := by
  unfold nextM
  split
  · next i hi => exact fit_of d ss l left (List.mem_of_find?_eq_some hi) true
  · split
    · next i hi => exact fit_of d ss l left (List.mem_of_find?_eq_some hi) _
    · intro h
      cases h
theorem firstM_fit (d : Nat) (ss : List ByteArray) (l : List XL) (left : Nat) (first : Int) (hf : first = -1 ∨ hasB left first = true) : FitM d ss l left (firstM d ss l left first) := by
  unfold firstM
  split
  · exact nextM_fit d ss l left
  · next hn =>
    intro _
    rcases hf with h | h
    · exact absurd h hn
    · have h0 : 0 ≤ first := by
        unfold hasB at h
        simp only [Bool.and_eq_true, decide_eq_true_eq] at h
        exact h.1
      show hasB left (stL d ss l first.toNat).i = true ∧ stL d ss l first.toNat = stL d ss l (stL d ss l first.toNat).i.toNat
      rw [stL_i, Int.toNat_natCast, Int.toNat_of_nonneg h0]
      exact ⟨h, rfl⟩
theorem clrN_lt {left k : Nat} (hk : k < 32) (hb : left.testBit k = true) : clrN left k < left := by
  have h1 := clrN_le left k
  rcases Nat.lt_or_eq_of_le h1 with h | h
  · exact h
  · exfalso
    have hp : (2 : Nat) ^ k < 2 ^ 32 := Nat.pow_lt_pow_right (by decide) hk
    have h2 : (clrN left k).testBit k = false := by
      unfold clrN
      rw [Nat.testBit_and, show (4294967295 : Nat) - 2 ^ k = 2 ^ 32 - (2 ^ k + 1) by omega, Nat.testBit_two_pow_sub_succ hp, Nat.testBit_two_pow_self]
      simp
    rw [h, hb] at h2
    cases h2
/-- a list lies elsewhere than a block of another type -/
theorem own_ne {w : World} {B : Nat} {e : TypeId} {k : Nat} {v : Value} {n : Nat} {xs : List Value} (h : w.ownsRow B e k v n xs) {b : Nat} {cs : Array Value} {e' : TypeId} {z : Nat × Nat} (hc : w.heap[b]? = some (Obj.cells cs e' z)) (hne : e ≠ e') : ∀ g, v.ownBlock = some g → g ≠ b := by
  intro g hg hgb
  obtain ⟨_, ⟨e2, _⟩ | ⟨g', cap', cur, e3, _, hh, _⟩⟩ := h
  · rw [e2] at hg
    cases hg
  · rw [e3] at hg
    cases hg
    have h' : g' = b := hgb
    rw [h', hc] at hh
    cases hh
    exact hne rfl
theorem own_block {w : World} {B : Nat} {e : TypeId} {k : Nat} {v : Value} {n : Nat} {xs : List Value} (h : w.ownsRow B e k v n xs) {g : Nat} (hg : v.ownBlock = some g) : ∃ cs, w.heap[g]? = some (Obj.cells cs e (0, 0)) := by
  obtain ⟨_, ⟨e2, _⟩ | ⟨g', cap', cur, e3, _, hh, _⟩⟩ := h
  · rw [e2] at hg
    cases hg
  · rw [e3] at hg
    cases hg
    exact ⟨_, hh⟩
theorem infoStepP : (Tryd.prog.info? 38).map (fun i => (i.zero, i.size, i.bytes)) = some (some (.agg #[.int .i8 0, .int .i64 0, .int .u32 0, .slice none 0 0]), 4, 48) := by kernel_rfl
theorem step_push {u : World} {B : Nat} {a : Option Addr} {c : Nat} {out : List SX} (y : SX) (own : u.ownsRow B 38 4 (.slice a out.length c) out.length (out.flatMap SX.cells)) (hB : B ≤ u.heap.size) (hl : out.length ≤ 1000000000) :
    ∃ a6 c6 w5, (Builtin.append_ #[26, 26] 26 #[.slice a out.length c, .slice (some ⟨u.heap.size, 0, none⟩) 1 1]).run Tryd.prog (u.alloc (.cells #[.int .i8 y.s.k, .int .i64 y.s.i, .int .u32 y.s.m, .slice y.a y.s.g.length y.c] 38)) = .ok (.slice a6 (out.length + 1) c6) w5 ∧ w5.ownsRow B 38 4 (.slice a6 (out ++ [y]).length c6) (out ++ [y]).length ((out ++ [y]).flatMap SX.cells) ∧ (u.alloc (.cells #[.int .i8 y.s.k, .int .i64 y.s.i, .int .u32 y.s.m, .slice y.a y.s.g.length y.c] 38)).grownBy w5 ((.slice a out.length c : Value).ownBlock) := by
  obtain ⟨i0, hi0, hz0, hz1, hz2⟩ := info_parts infoStepP
  have hA := belowA (w := u) (.cells #[.int .i8 y.s.k, .int .i64 y.s.i, .int .u32 y.s.m, .slice y.a y.s.g.length y.c] 38)
  have hz5 : B ≤ (u.alloc (.cells #[.int .i8 y.s.k, .int .i64 y.s.i, .int .u32 y.s.m, .slice y.a y.s.g.length y.c] 38)).heap.size := Nat.le_trans hB hA.size
  have ho := own_below own hA
  obtain ⟨v', w5, hrun, hown', hgrow, hnil, hloc⟩ := run_append_own_at (P := Tryd.prog) (u.alloc (.cells #[.int .i8 y.s.k, .int .i64 y.s.i, .int .u32 y.s.m, .slice y.a y.s.g.length y.c] 38)) B 26 26 38 i0 _ 4 48 Tryd.underlying26 hi0 hz0 hz1 hz2 rfl (by decide) _ _ _ ho ⟨_, 0, none⟩ 1 1 [.int .i8 y.s.k, .int .i64 y.s.i, .int .u32 y.s.m, .slice y.a y.s.g.length y.c] rfl (lit_news _ #[.int .i8 y.s.k, .int .i64 y.s.i, .int .u32 y.s.m, .slice y.a y.s.g.length y.c] _) (by simp [Value.oneCell']) (by unfold maxLen; omega) (by omega) hz5
  obtain ⟨a6, c6, rfl, _⟩ := own_form hown'
  refine ⟨a6, c6, w5, hrun, ?_, hgrow⟩
  rw [List.length_append, List.flatMap_append]
  exact hown'
theorem sliceStep (k i m : Int) (a : Option Addr) (n c : Nat) (u : World) : (Instr.buildSlice 26 1 #[(0, .agg #[.int .i8 k, .int .i64 i, .int .u32 m, .slice a n c])]).run Tryd.prog u = .ok (.slice (some ⟨u.heap.size, 0, none⟩) 1 1) (u.alloc (.cells #[.int .i8 k, .int .i64 i, .int .u32 m, .slice a n c] 38)) := by
  simp [Instr.buildSlice, Instr.fill, go_sem]
def leftOf (tb : Nat) (w : World) : Nat := match w.cell? ⟨tb, 2, none⟩ with
  | some v => (intOf v).toNat
  | none => 0
theorem leftOf_is {w : World} {tb kb : Nat} {v : Value} {ss : List ByteArray} {left : Nat} (h : TuIs w tb kb v ss left) : leftOf tb w = left := by
  unfold leftOf
  rw [RL.at h.rl (j := 2) rfl]
  simp [intOf]
/-- amid goThrough -/
structure GtS (w : World) (d : Nat) (l : List XL) (v : Value) (tb kb b6 : Nat) (G : List St → Prop) (wr : World) (xs : List SX) (oa : Option Addr) (oc : Nat) (ss : List ByteArray) (left : Nat) (t : St) (b : Bool) (ta : Option Addr) (tc : Nat) : Prop where
  tu : TuIs wr tb kb v ss left
  lt : left < 2 ^ l.length
  box : RL wr b6 38 [.int .i8 t.k, .int .i64 t.i, .int .u32 t.m, .slice ta t.g.length tc]
  own : wr.ownsRow w.heap.size 9 1 (.slice ta t.g.length tc) t.g.length (t.g.flatMap strB)
  out : wr.ownsRow (b6 + 1) 38 4 (.slice oa xs.length oc) xs.length (xs.flatMap SX.cells)
  giv : ∀ y ∈ xs, wr.ownsRow w.heap.size 9 1 (.slice y.a y.s.g.length y.c) y.s.g.length (y.s.g.flatMap strB)
  px : Px tb kb w wr
  fit : FitM d ss l left (t, b)
  gt : ∀ ys, Gt d l ss left (t, b) ys → G (xs.map SX.s ++ ys)
  len : xs.length + left ≤ 65536
theorem SetIs.own {w : World} {b : Nat} {ss : List ByteArray} (h : SetIs w b ss) : ∃ es c, w.heap[b]? = some (Obj.map es c) := by
  obtain ⟨es, c, hb, _⟩ := h
  exact ⟨es, c, hb⟩
/-- the blocks that goThrough's things lie in -/
structure GtN (w : World) (tb kb b6 : Nat) : Prop where
  t : tb < w.heap.size
  k : kb < w.heap.size
  b : w.heap.size ≤ b6
theorem GtS.taken {w : World} {d : Nat} {l : List XL} {v : Value} {tb kb b6 : Nat} {G : List St → Prop} {wr w1 : World} {xs : List SX} {oa : Option Addr} {oc : Nat} {ss : List ByteArray} {left : Nat} {t : St} {b : Bool} {ta : Option Addr} {tc : Nat} (h : GtS w d l v tb kb b6 G wr xs oa oc ss left t b ta tc) (hn : GtN w tb kb b6) (hp : Px tb kb wr w1) :
    RL w1 b6 38 [.int .i8 t.k, .int .i64 t.i, .int .u32 t.m, .slice ta t.g.length tc] ∧ w1.ownsRow w.heap.size 9 1 (.slice ta t.g.length tc) t.g.length (t.g.flatMap strB) ∧ w1.ownsRow (b6 + 1) 38 4 (.slice oa xs.length oc) xs.length (xs.flatMap SX.cells) ∧ (∀ y ∈ xs, w1.ownsRow w.heap.size 9 1 (.slice y.a y.s.g.length y.c) y.s.g.length (y.s.g.flatMap strB)) ∧ Px tb kb w w1 := by
  have e1 := hn.t
  have e2 := hn.k
  have e3 := hn.b
  refine ⟨World.rowIs.of_block h.box (hp.block b6 h.box.lt (by omega) (by omega)), own_of_block h.own (fun g hg => ?_), own_of_block h.out (fun g hg => ?_), fun y hy => own_of_block (h.giv y hy) (fun g hg => ?_), h.px.trans hp⟩
  · have := h.own.lt g hg
    exact hp.block g this.2 (by omega) (by omega)
  · have := h.out.lt g hg
    exact hp.block g this.2 (by omega) (by omega)
  · have := (h.giv y hy).lt g hg
    exact hp.block g this.2 (by omega) (by omega)
end Go.Proofs.YtdchfmokicfmnaaDoor
end
section
namespace Go.Proofs.YtdchfmokicfmnaaDoor
open Go.RowKit Go.Maps Go.Shelf
set_option linter.unusedVariables false
set_option linter.unusedSimpArgs false
attribute [local go_sem ↓] Go.wp_at_zero Go.wp_at_succ
attribute [-go_sem] loadVar Builtin.append_ Instr.buildSlice

theorem px_below {t k : Nat} {w w' : World} (h : Below w.heap.size w w') : Px t k w w' := Px.of_below h
theorem GtS.start {w w1 : World} {d : Nat} {l : List XL} {v : Value} {tb kb : Nat} {ss : List ByteArray} {left : Nat} {t : St} {b : Bool} {ta : Option Addr} {tc : Nat} {G : List St → Prop} {b6 : Nat} (hb : Below w.heap.size w w1) (hT : TuIs w tb kb v ss left) (hl : left < 2 ^ l.length) (hn : l.length ≤ 16) (hbx : RL w1 b6 38 [.int .i8 t.k, .int .i64 t.i, .int .u32 t.m, .slice ta t.g.length tc]) (ho : w1.ownsRow w.heap.size 9 1 (.slice ta t.g.length tc) t.g.length (t.g.flatMap strB)) (hf : FitM d ss l left (t, b)) (hG : ∀ ys, Gt d l ss left (t, b) ys → G ys) : GtS w d l v tb kb b6 G w1 [] none 0 ss left t b ta tc :=
  ⟨⟨RL.below hT.rl hb, hT.set.of_block (hb.block kb hT.set.lt), hT.ne⟩, hl, hbx, ho, World.ownsRow_nil _ _ _ _, fun y hy => absurd hy (by simp), Px.of_below hb, hf, hG, by
    have : (2 : Nat) ^ l.length ≤ 65536 := Nat.le_trans (Nat.pow_le_pow_right (by omega) hn) (by decide)
    simp only [List.length_nil]
    omega⟩
/-- behind the append -/
structure GtU (w : World) (tb kb b6 : Nat) (v : Value) (ss : List ByteArray) (left : Nat) (u : World) (xs : List SX) (bx : List Value) : Prop where
  tu : TuIs u tb kb v ss left
  box : RL u b6 38 bx
  giv : ∀ y ∈ xs, u.ownsRow w.heap.size 9 1 (.slice y.a y.s.g.length y.c) y.s.g.length (y.s.g.flatMap strB)
  px : Px tb kb w u
theorem gt_pushed {w : World} {tb kb b6 : Nat} {v : Value} {ss : List ByteArray} {left : Nat} {u1 u2 V : World} {xs : List SX} {oa : Option Addr} {oc : Nat} {t : St} {ta : Option Addr} {tc : Nat} (hn : GtN w tb kb b6)
    (hbx : RL u1 b6 38 [.int .i8 t.k, .int .i64 t.i, .int .u32 t.m, .slice ta t.g.length tc]) (how : u1.ownsRow w.heap.size 9 1 (.slice ta t.g.length tc) t.g.length (t.g.flatMap strB)) (hou : u1.ownsRow (b6 + 1) 38 4 (.slice oa xs.length oc) xs.length (xs.flatMap SX.cells)) (hgi : ∀ y ∈ xs, u1.ownsRow w.heap.size 9 1 (.slice y.a y.s.g.length y.c) y.s.g.length (y.s.g.flatMap strB)) (hpw : Px tb kb w u1) (htu : TuIs u1 tb kb v ss left)
    (hV : Below u1.heap.size u1 V) (hg : V.grownBy u2 ((.slice oa xs.length oc : Value).ownBlock)) : GtU w tb kb b6 v ss left u2 (xs ++ [⟨t, ta, tc⟩]) [.int .i8 t.k, .int .i64 t.i, .int .u32 t.m, .slice ta t.g.length tc] := by
  have e1 := hn.t
  have e2 := hn.k
  have e3 := hn.b
  have hou' := own_below hou hV
  have hr : ∀ g, (.slice oa xs.length oc : Value).ownBlock = some g → b6 + 1 ≤ g := fun g hg' => (hou.lt g hg').1
  have hlow : ∀ b, b < u1.heap.size → b ≤ b6 → u2.heap[b]? = u1.heap[b]? := fun b hb hb6 => (hg.block b (Nat.lt_of_lt_of_le hb hV.size) (fun e => by have := hr b e.symm; omega)).trans (hV.block b hb)
  have hstr : ∀ {v' : Value} {n : Nat} {ys : List Value}, u1.ownsRow w.heap.size 9 1 v' n ys → u2.ownsRow w.heap.size 9 1 v' n ys := fun {v' n ys} h => by
    refine own_of_block h (fun g hg' => ?_)
    have hlt := (h.lt g hg').2
    refine (hg.block g (Nat.lt_of_lt_of_le hlt hV.size) (fun e => ?_)).trans (hV.block g hlt)
    obtain ⟨cs, hcs⟩ := own_block hou (g := g) e.symm
    exact own_ne h hcs (by decide) g hg' rfl
  refine ⟨⟨World.rowIs.of_block htu.rl (hlow tb htu.rl.lt (by omega)), htu.set.of_block (hlow kb htu.set.lt (by omega)), htu.ne⟩, World.rowIs.of_block hbx (hlow b6 hbx.lt (Nat.le_refl _)), fun y hy => ?_, ?_⟩
  · rcases List.mem_append.1 hy with h | h
    · exact hstr (hgi y h)
    · obtain rfl := List.mem_singleton.1 h
      exact hstr how
  · have hs : w.heap.size ≤ u1.heap.size := hpw.size
    refine ⟨(hg.os.trans hV.os).trans hpw.os, (hg.tape.trans hV.tape).trans hpw.tape, (hg.output.trans hV.output).trans hpw.output, Nat.le_trans hs (Nat.le_trans hV.size hg.size), fun b hb h1 h2 => ?_⟩
    exact (hlow b (by omega) (by omega)).trans (hpw.block b hb h1 h2)
theorem gt_len {xs : List SX} {left left' : Nat} (x : SX) (h : xs.length + left ≤ 65536) (hl : left' < left) : (xs ++ [x]).length + left' ≤ 65536 := by
  rw [List.length_append, List.length_singleton]
  omega
theorem gt_more {d : Nat} {l : List XL} {ss : List ByteArray} {left k : Nat} {t : St} {G : List St → Prop} {xs : List SX} {ta : Option Addr} {tc : Nat} {c : St × Bool} (hk : t.i = (k : Int)) (hgt : ∀ ys, Gt d l ss left (t, true) ys → G (xs.map SX.s ++ ys)) (hc : c = nextM d (ss ++ t.g) l (clrN left k)) : ∀ ys, Gt d l (ss ++ t.g) (clrN left k) c ys → G ((xs ++ [SX.mk t ta tc]).map SX.s ++ ys) := by
  intro ys hy
  have h0 : Gt d l (ss ++ t.g) (clrN left t.i.toNat) (nextM d (ss ++ t.g) l (clrN left t.i.toNat)) ys := by
    rw [hk, Int.toNat_natCast, ← hc]
    exact hy
  have h1 := hgt _ (Gt.more ss left t ys h0)
  rw [List.map_append, List.append_assoc]
  exact h1
theorem gt_next {w : World} {d : Nat} {l : List XL} {tb kb b6 : Nat} {v : Value} {ss : List ByteArray} {left : Nat} {u2 u3 : World} {xs : List SX} {n : St} {nb : Bool} {a3 : Option Addr} {c3 : Nat} {oa : Option Addr} {oc : Nat} {G : List St → Prop} {x0 x1 x2 x3 : Value} (hn : GtN w tb kb b6) (hu : GtU w tb kb b6 v ss left u2 xs [x0, x1, x2, x3]) (ho : u2.ownsRow (b6 + 1) 38 4 (.slice oa xs.length oc) xs.length (xs.flatMap SX.cells)) (hl : left < 2 ^ l.length) (hf : FitM d ss l left (n, nb)) (hb : Below u2.heap.size u2 u3) (h3 : u3.ownsRow u2.heap.size 9 1 (.slice a3 n.g.length c3) n.g.length (n.g.flatMap strB)) (hG : ∀ ys, Gt d l ss left (n, nb) ys → G (xs.map SX.s ++ ys)) (hlen : xs.length + left ≤ 65536) :
    GtS w d l v tb kb b6 G (st4 u3 b6 n.k n.i n.m (.slice a3 n.g.length c3)) xs oa oc ss left n nb a3 c3 := by
  have e1 := hn.t
  have e2 := hn.k
  have e3 := hn.b
  have hlt := hu.box.lt
  have hbx := RL.below hu.box hb
  have hs3 : w.heap.size ≤ u2.heap.size := hu.px.size
  refine ⟨⟨World.rowIs.of_block (RL.below hu.tu.rl hb) (st4_block _ _ _ _ _ _ (by omega)), (hu.tu.set.of_block (hb.block kb hu.tu.set.lt)).of_block (st4_block _ _ _ _ _ _ (by omega)), hu.tu.ne⟩, hl, st4_rl hbx _ _ _ _, own_base (own_st5 h3 b6 hlt _ _ _ _) hs3, own_of_block (own_below ho hb) (fun g hg => st4_block _ _ _ _ _ _ (by have := (ho.lt g hg).1; omega)), fun y hy => ?_, ?_, hf, hG, hlen⟩
  · have h1 := own_below (hu.giv y hy) hb
    obtain ⟨cs, hcs, _⟩ := hbx
    exact own_of_block h1 (fun g hg => st4_block _ _ _ _ _ _ (own_ne h1 hcs (by decide) g hg))
  · have hp : Px tb kb w u3 := hu.px.trans (Px.of_below hb)
    have hz : (st4 u3 b6 n.k n.i n.m (.slice a3 n.g.length c3)).heap.size = u3.heap.size := by simp [st4, World.setCell]
    refine ⟨hp.os, hp.tape, hp.output, by rw [hz]; exact hp.size, fun b hb' h1 h2 => ?_⟩
    rw [st4_block _ _ _ _ _ _ (by omega)]
    exact hp.block b hb' h1 h2
set_option maxRecDepth 100000 in
set_option maxHeartbeats 1600000 in
theorem goThrough_any {w : World} {tb kb d : Nat} {v : Value} {ss : List ByteArray} {left : Nat} {l : List XL} (hT : TuIs w tb kb v ss left) (hL : ∀ u, Px tb kb w u → Lb u v d l) (hB : BdR d l) (hl : left < 2 ^ l.length) (hD : ∀ u, Px tb kb w u → DT u) (hS : ∀ x ∈ l, ∀ k ss, ∀ y ∈ (stM d ss x.x k).g, y.size ≤ maxLen) (first : Int) (hf : first = -1 ∨ hasB left first = true) :
    Calls Tryd.prog 34 #[.pointer (some ⟨tb, 0, none⟩), .int .i64 first] w fun e w' => Px tb kb w w' ∧ ∃ (xs : List SX) (a : Option Addr) (c : Nat), e = .returned (.slice a xs.length c) ∧ Gt d l ss left (firstM d ss l left first) (xs.map SX.s) ∧ w'.ownsRow w.heap.size 38 4 (.slice a xs.length c) xs.length (xs.flatMap SX.cells) ∧ ∀ y ∈ xs, w'.ownsRow w.heap.size 9 1 (.slice y.a y.s.g.length y.c) y.s.g.length (y.s.g.flatMap strB) := by
  have P0 : Px tb kb w w := Px.of_below (Below.refl _ _)
  have HT := Lib.hid hT
  have HL := Lib.hid hL
  have HB := Lib.hid hB
  have HLT := Lib.hid hl
  have HDT := Lib.hid hD
  have HZ := Lib.hid hS
  have HF := Lib.hid hf
  have HNX := Lib.hid (next_any hT (hL _ P0) hB hl (hD _ P0))
  clear hT hL hB hl hD hS hf P0
  go_enter Tryd.func34, Tryd.ntmps34
  go_wp2_with fail
  refine HNX.out.mono ?_
  rintro e w1 ⟨b1, a1, c1, rfl, hown⟩
  have HQ := Lib.hid (nextM_fit d ss l left)
  obtain ⟨nx, hnx⟩ : ∃ nx, nx = nextM d ss l left := ⟨_, rfl⟩
  rw [← hnx] at HQ hown ⊢
  have HNE := Lib.hid hnx
  clear hnx HNX
  obtain ⟨⟨tk, ti, tm, tg⟩, tf⟩ := nx
  unfold St.val
  simp only at hown ⊢
  have HB1 := Lib.hid b1
  have HO1 := Lib.hid hown
  have HRB := Lib.hid (rl_new w1 #[.int .i8 tk, .int .i64 ti, .int .u32 tm, .slice a1 tg.length c1] 38)
  have HBV : Hid (Below w1.heap.size w1 (w1.alloc (.cells #[.int .i8 tk, .int .i64 ti, .int .u32 tm, .slice a1 tg.length c1] 38))) := belowA _
  clear b1 hown
  by_cases hfi : first = -1
  · have dfi : (first != -1) = false := by rw [hfi]; rfl
    have HFM : Hid (firstM d ss l left first = (⟨tk, ti, tm, tg⟩, tf)) := by
      show _ = _
      unfold firstM
      rw [if_pos hfi, HNE.out]
    have HGS : Hid (GtS w d l v tb kb w1.heap.size (Gt d l ss left (firstM d ss l left first)) (w1.alloc (.cells #[.int .i8 tk, .int .i64 ti, .int .u32 tm, .slice a1 tg.length c1] 38)) [] none 0 ss left ⟨tk, ti, tm, tg⟩ tf a1 c1) := GtS.start (HB1.out.trans (HBV.out.mono HB1.out.size)) HT.out HLT.out HB.out.bn HRB.out (own_below HO1.out HBV.out) HQ.out (fun ys hy => by rw [HFM.out]; exact hy)
    have HN : Hid (GtN w tb kb w1.heap.size) := ⟨HT.out.rl.lt, HT.out.set.lt, HB1.out.size⟩
    clear hfi HRB HBV HO1
    go_wp2
    go_loopw [5, 7] (fun o ok wr => ∃ (xs : List SX) (oa : Option Addr) (oc : Nat) (ss' : List ByteArray) (left' : Nat) (t : St) (b : Bool) (ta : Option Addr) (tc : Nat), o = .slice oa xs.length oc ∧ ok = .bool b ∧ Hid (GtS w d l v tb kb w1.heap.size (Gt d l ss left (firstM d ss l left first)) wr xs oa oc ss' left' t b ta tc)) (fun _ _ wr => leftOf tb wr)
    case atStart => exact ⟨[], none, 0, ss, left, _, _, _, _, rfl, rfl, HGS⟩
    case round =>
      clear HGS
      obtain ⟨xs, oa, oc, ss', left', t, b, ta, tc, rfl, rfl, HS⟩ := hrel
      cases b
      · go_wp2
        go_ret
        have hs := HS.out
        have hG := hs.gt [] (Gt.done _ _ _)
        rw [List.append_nil] at hG
        exact ⟨hs.px, xs, oa, oc, rfl, hG, own_base hs.out (Nat.le_trans HN.out.b (Nat.le_succ _)), hs.giv⟩
      · obtain ⟨hbt, htq⟩ := HS.out.fit rfl
        obtain ⟨h0, hi⟩ := hasB_lt HS.out.lt hbt
        obtain ⟨tk', ti', tm', tg'⟩ := t
        simp only at hbt htq h0 hi
        obtain ⟨k', rfl⟩ : ∃ k' : Nat, ti' = (k' : Int) := ⟨ti'.toNat, by omega⟩
        rw [Int.toNat_natCast] at hi htq
        have HTQ := Lib.hid htq
        have HBT : Hid (left'.testBit k' = true) := by
          unfold hasB at hbt
          simp only [Bool.and_eq_true, decide_eq_true_eq, Int.toNat_natCast] at hbt
          exact hbt.2
        have hbn := HB.out.bn
        have h32 : left' < 4294967296 := Nat.lt_of_lt_of_le HS.out.lt (Nat.le_trans (Nat.pow_le_pow_right (by omega) hbn) (by decide))
        have l6 := load_StP HS.out.box
        have HNW : NewL ss' tg' := by
          have := stM_new d ss' (atL l k').x k'
          rw [show stM d ss' (atL l k').x k' = stL d ss' l k' from rfl, ← htq] at this
          exact this
        have HSZ : ∀ y ∈ tg', y.size ≤ maxLen := by
          have := HZ.out (atL l k') (by rw [atL_eq hi]; exact List.getElem_mem hi) k' ss'
          rw [show stM d ss' (atL l k').x k' = stL d ss' l k' from rfl, ← htq] at this
          exact this
        have HGL : tg'.length ≤ 1048576 := by
          have := stM_glen d ss' (atL l k').x k' (HB.out.bc k' hi) (HB.out.bl k' hi) (HB.out.br k' hi)
          rw [show stM d ss' (atL l k').x k' = stL d ss' l k' from rfl, ← htq] at this
          exact this
        have HTA := Lib.hid (take_any (B := w.heap.size) HS.out.tu ⟨tk', (k' : Int), tm', tg'⟩ (a := ta) (c := tc) (k := k') rfl (by omega) h32 HS.out.own HN.out.t HN.out.k (szAt HSZ) HNW HGL)
        unfold St.val at HTA
        simp only at HTA
        have HCL : Hid (clrN left' k' < left') := clrN_lt (by omega) HBT.out
        have hxl : xs.length ≤ 65536 := by have := HS.out.len; omega
        clear hbt htq h0 hi HNW HSZ HGL h32
        go_wp2_with fail
        refine HTA.out.mono ?_
        rintro e u1 ⟨⟨y, rfl⟩, htu, hpx⟩
        obtain ⟨hbx, how, hou, hgi, hpw⟩ := HS.out.taken HN.out hpx
        have l7 := load_StP hbx
        have hsl := sliceStep tk' (k' : Int) tm' ta tg'.length tc u1
        have HLE : Hid (leftOf tb wr = left') := leftOf_is HS.out.tu
        obtain ⟨a6, c6, u2, hap, how2, hgr⟩ := step_push ⟨⟨tk', (k' : Int), tm', tg'⟩, ta, tc⟩ hou (by have := hbx.lt; omega) (by omega)
        have HAL := Lib.hid (belowA (w := u1) (.cells #[.int .i8 tk', .int .i64 (k' : Int), .int .u32 tm', .slice ta tg'.length tc] 38))
        have HU := Lib.hid (gt_pushed HN.out hbx how hou hgi hpw htu HAL.out hgr)
        have HO2 := Lib.hid how2
        have HGT := Lib.hid HS.out.gt
        have HLN := Lib.hid HS.out.len
        have HLL : Hid (clrN left' k' < 2 ^ l.length) := Nat.lt_trans HCL.out HS.out.lt
        clear HTA l6 how hou hgi hpw htu hpx hbx how2 hgr HS
        simp only at hap
        have HNY := Lib.hid (next_any HU.out.tu (HL.out _ HU.out.px) HB.out HLL.out (HDT.out _ HU.out.px))
        have HFT := Lib.hid (nextM_fit d (ss' ++ tg') l (clrN left' k'))
        obtain ⟨ny, hny⟩ : ∃ ny, ny = nextM d (ss' ++ tg') l (clrN left' k') := ⟨_, rfl⟩
        rw [← hny] at HFT HNY
        have HNYE := Lib.hid hny
        clear hny
        obtain ⟨⟨nk, ni, nm, ng⟩, nb⟩ := ny
        unfold St.val at HNY
        simp only at HNY
        go_wp2_with fail
        refine HNY.out.mono ?_
        rintro e u3 ⟨b3, a3, c3, rfl, hown3⟩
        have HBX3 := Lib.hid (RL.below HU.out.box b3)
        have z0 := RL.at HBX3.out (j := 0) rfl
        have z1 := RL.at HBX3.out (j := 1) rfl
        have z2 := RL.at HBX3.out (j := 2) rfl
        have z3 := RL.at HBX3.out (j := 3) rfl
        have y0 := World.rowIs.frozen HBX3.out 0
        have y1 := World.rowIs.frozen HBX3.out 1
        have y2 := World.rowIs.frozen HBX3.out 2
        have y3 := World.rowIs.frozen HBX3.out 3
        have HGM := Lib.hid (gt_more (ta := ta) (tc := tc) (t := ⟨tk', (k' : Int), tm', tg'⟩) (k := k') rfl HGT.out HNYE.out)
        have HLM : Hid ((xs ++ [SX.mk ⟨tk', (k' : Int), tm', tg'⟩ ta tc]).length + clrN left' k' ≤ 65536) := gt_len _ HLN.out HCL.out
        have hns : (GtS w d l v tb kb w1.heap.size (Gt d l ss left (firstM d ss l left first)) (st4 u3 w1.heap.size nk ni nm (.slice a3 ng.length c3)) (xs ++ [⟨⟨tk', (k' : Int), tm', tg'⟩, ta, tc⟩]) a6 c6 (ss' ++ tg') (clrN left' k') ⟨nk, ni, nm, ng⟩ nb a3 c3) :=
          gt_next (n := ⟨nk, ni, nm, ng⟩) (nb := nb) (xs := xs ++ [⟨⟨tk', (k' : Int), tm', tg'⟩, ta, tc⟩]) (left := clrN left' k') (ss := ss' ++ tg') HN.out HU.out HO2.out HLL.out HFT.out b3 hown3 HGM.out HLM.out
        have HNS := Lib.hid hns
        clear hns
        have HML : Hid (leftOf tb (st4 u3 w1.heap.size nk ni nm (.slice a3 ng.length c3)) < left') := by
          show _ < _
          rw [leftOf_is HNS.out.tu]
          exact HCL.out
        unfold st4 at HNS HML
        clear HNY b3 hown3 HBX3 HU HO2 HGT HLN HLL HFT hap hsl l7
        go_wp2
        go_roundw
        case rel => exact ⟨_, a6, c6, ss' ++ tg', clrN left' k', ⟨nk, ni, nm, ng⟩, nb, a3, c3, by rw [List.length_append]; rfl, rfl, HNS⟩
        case measure =>
          have h1 := HML.out
          have h2 := HLE.out
          rw [h2]
          exact h1
  · have dfi : (first != -1) = true := by rw [bne_iff_ne]; exact hfi
    have hfb : hasB left first = true := by
      rcases HF.out with h | h
      · exact absurd h hfi
      · exact h
    obtain ⟨h0, hi⟩ := hasB_lt HLT.out hfb
    obtain ⟨k, rfl⟩ : ∃ k : Nat, first = (k : Int) := ⟨first.toNat, by omega⟩
    rw [Int.toNat_natCast] at hi
    have HP1 : Hid (Px tb kb w (w1.alloc (.cells #[.int .i8 tk, .int .i64 ti, .int .u32 tm, .slice a1 tg.length c1] 38))) := Px.of_below (HB1.out.trans (HBV.out.mono HB1.out.size))
    have HT1 : Hid (TuIs (w1.alloc (.cells #[.int .i8 tk, .int .i64 ti, .int .u32 tm, .slice a1 tg.length c1] 38)) tb kb v ss left) := by
      have hb := HB1.out.trans (HBV.out.mono HB1.out.size)
      exact ⟨RL.below HT.out.rl hb, HT.out.set.of_block (hb.block kb HT.out.set.lt), HT.out.ne⟩
    have HST := Lib.hid (step_any HT1.out (HL.out _ HP1.out) hi HB.out.bn (HB.out.bc k hi) (HB.out.bl k hi) (HB.out.br k hi))
    have HFM : Hid (firstM d ss l left (k : Int) = (stL d ss l k, (stL d ss l k).k != 0)) := by
      show _ = _
      unfold firstM
      rw [if_neg hfi, Int.toNat_natCast]
    have HQ2 := Lib.hid (firstM_fit d ss l left (k : Int) (.inr hfb))
    clear hfi hfb h0 hi HF
    rw [HFM.out] at HQ2
    obtain ⟨t2, ht2⟩ : ∃ t2, t2 = stL d ss l k := ⟨_, rfl⟩
    rw [← ht2] at HST HFM HQ2
    clear ht2
    obtain ⟨tk2, ti2, tm2, tg2⟩ := t2
    unfold St.val at HST
    simp only at HST HFM HQ2
    go_wp2_with fail
    refine HST.out.mono ?_
    rintro e w2 ⟨b2, a2, c2, rfl, hown2⟩
    have HRX := Lib.hid (RL.below HRB.out b2)
    have HBW : Hid (Below w.heap.size w w2) := (HB1.out.trans (HBV.out.mono HB1.out.size)).trans (b2.mono (Nat.le_trans HB1.out.size HBV.out.size))
    have z0 := RL.at HRX.out (j := 0) rfl
    have z1 := RL.at HRX.out (j := 1) rfl
    have z2 := RL.at HRX.out (j := 2) rfl
    have z3 := RL.at HRX.out (j := 3) rfl
    have y0 := World.rowIs.frozen HRX.out 0
    have y1 := World.rowIs.frozen HRX.out 1
    have y2 := World.rowIs.frozen HRX.out 2
    have y3 := World.rowIs.frozen HRX.out 3
    have hlt6 : w1.heap.size < (w1.alloc (.cells #[.int .i8 tk, .int .i64 ti, .int .u32 tm, .slice a1 tg.length c1] 38)).heap.size := by simp
    have HGS : Hid (GtS w d l v tb kb w1.heap.size (Gt d l ss left (firstM d ss l left (k : Int))) (st4 w2 w1.heap.size tk2 ti2 tm2 (.slice a2 tg2.length c2)) [] none 0 ss left ⟨tk2, ti2, tm2, tg2⟩ (tk2 != 0) a2 c2) := GtS.start (st4_below HBW.out HB1.out.size _ _ _ _) HT.out HLT.out HB.out.bn (st4_rl HRX.out _ _ _ _) (own_base (own_st5 hown2 _ hlt6 _ _ _ _) (Nat.le_trans HB1.out.size HBV.out.size)) HQ2.out (fun ys hy => by rw [HFM.out]; exact hy)
    have HN : Hid (GtN w tb kb w1.heap.size) := ⟨HT.out.rl.lt, HT.out.set.lt, HB1.out.size⟩
    unfold st4 at HGS
    clear HST b2 hown2 HRX hlt6 HRB HBV HO1
    go_wp2
    clear z0 z1 z2 z3 y0 y1 y2 y3
    go_loopw [5, 7] (fun o ok wr => ∃ (xs : List SX) (oa : Option Addr) (oc : Nat) (ss' : List ByteArray) (left' : Nat) (t : St) (b : Bool) (ta : Option Addr) (tc : Nat), o = .slice oa xs.length oc ∧ ok = .bool b ∧ Hid (GtS w d l v tb kb w1.heap.size (Gt d l ss left (firstM d ss l left (k : Int))) wr xs oa oc ss' left' t b ta tc)) (fun _ _ wr => leftOf tb wr)
    case atStart => exact ⟨[], none, 0, ss, left, _, _, _, _, rfl, rfl, HGS⟩
    case round =>
      clear HGS
      obtain ⟨xs, oa, oc, ss', left', t, b, ta, tc, rfl, rfl, HS⟩ := hrel
      cases b
      · go_wp2
        go_ret
        have hs := HS.out
        have hG := hs.gt [] (Gt.done _ _ _)
        rw [List.append_nil] at hG
        exact ⟨hs.px, xs, oa, oc, rfl, hG, own_base hs.out (Nat.le_trans HN.out.b (Nat.le_succ _)), hs.giv⟩
      · obtain ⟨hbt, htq⟩ := HS.out.fit rfl
        obtain ⟨h0, hi⟩ := hasB_lt HS.out.lt hbt
        obtain ⟨tk', ti', tm', tg'⟩ := t
        simp only at hbt htq h0 hi
        obtain ⟨k', rfl⟩ : ∃ k' : Nat, ti' = (k' : Int) := ⟨ti'.toNat, by omega⟩
        rw [Int.toNat_natCast] at hi htq
        have HTQ := Lib.hid htq
        have HBT : Hid (left'.testBit k' = true) := by
          unfold hasB at hbt
          simp only [Bool.and_eq_true, decide_eq_true_eq, Int.toNat_natCast] at hbt
          exact hbt.2
        have hbn := HB.out.bn
        have h32 : left' < 4294967296 := Nat.lt_of_lt_of_le HS.out.lt (Nat.le_trans (Nat.pow_le_pow_right (by omega) hbn) (by decide))
        have l6 := load_StP HS.out.box
        have HNW : NewL ss' tg' := by
          have := stM_new d ss' (atL l k').x k'
          rw [show stM d ss' (atL l k').x k' = stL d ss' l k' from rfl, ← htq] at this
          exact this
        have HSZ : ∀ y ∈ tg', y.size ≤ maxLen := by
          have := HZ.out (atL l k') (by rw [atL_eq hi]; exact List.getElem_mem hi) k' ss'
          rw [show stM d ss' (atL l k').x k' = stL d ss' l k' from rfl, ← htq] at this
          exact this
        have HGL : tg'.length ≤ 1048576 := by
          have := stM_glen d ss' (atL l k').x k' (HB.out.bc k' hi) (HB.out.bl k' hi) (HB.out.br k' hi)
          rw [show stM d ss' (atL l k').x k' = stL d ss' l k' from rfl, ← htq] at this
          exact this
        have HTA := Lib.hid (take_any (B := w.heap.size) HS.out.tu ⟨tk', (k' : Int), tm', tg'⟩ (a := ta) (c := tc) (k := k') rfl (by omega) h32 HS.out.own HN.out.t HN.out.k (szAt HSZ) HNW HGL)
        unfold St.val at HTA
        simp only at HTA
        have HCL : Hid (clrN left' k' < left') := clrN_lt (by omega) HBT.out
        have hxl : xs.length ≤ 65536 := by have := HS.out.len; omega
        clear hbt htq h0 hi HNW HSZ HGL h32
        go_wp2_with fail
        refine HTA.out.mono ?_
        rintro e u1 ⟨⟨y, rfl⟩, htu, hpx⟩
        obtain ⟨hbx, how, hou, hgi, hpw⟩ := HS.out.taken HN.out hpx
        have l7 := load_StP hbx
        have hsl := sliceStep tk' (k' : Int) tm' ta tg'.length tc u1
        have HLE : Hid (leftOf tb wr = left') := leftOf_is HS.out.tu
        obtain ⟨a6, c6, u2, hap, how2, hgr⟩ := step_push ⟨⟨tk', (k' : Int), tm', tg'⟩, ta, tc⟩ hou (by have := hbx.lt; omega) (by omega)
        have HAL := Lib.hid (belowA (w := u1) (.cells #[.int .i8 tk', .int .i64 (k' : Int), .int .u32 tm', .slice ta tg'.length tc] 38))
        have HU := Lib.hid (gt_pushed HN.out hbx how hou hgi hpw htu HAL.out hgr)
        have HO2 := Lib.hid how2
        have HGT := Lib.hid HS.out.gt
        have HLN := Lib.hid HS.out.len
        have HLL : Hid (clrN left' k' < 2 ^ l.length) := Nat.lt_trans HCL.out HS.out.lt
        clear HTA l6 how hou hgi hpw htu hpx hbx how2 hgr HS
        simp only at hap
        have HNY := Lib.hid (next_any HU.out.tu (HL.out _ HU.out.px) HB.out HLL.out (HDT.out _ HU.out.px))
        have HFT := Lib.hid (nextM_fit d (ss' ++ tg') l (clrN left' k'))
        obtain ⟨ny, hny⟩ : ∃ ny, ny = nextM d (ss' ++ tg') l (clrN left' k') := ⟨_, rfl⟩
        rw [← hny] at HFT HNY
        have HNYE := Lib.hid hny
        clear hny
        obtain ⟨⟨nk, ni, nm, ng⟩, nb⟩ := ny
        unfold St.val at HNY
        simp only at HNY
        go_wp2_with fail
        refine HNY.out.mono ?_
        rintro e u3 ⟨b3, a3, c3, rfl, hown3⟩
        have HBX3 := Lib.hid (RL.below HU.out.box b3)
        have z0 := RL.at HBX3.out (j := 0) rfl
        have z1 := RL.at HBX3.out (j := 1) rfl
        have z2 := RL.at HBX3.out (j := 2) rfl
        have z3 := RL.at HBX3.out (j := 3) rfl
        have y0 := World.rowIs.frozen HBX3.out 0
        have y1 := World.rowIs.frozen HBX3.out 1
        have y2 := World.rowIs.frozen HBX3.out 2
        have y3 := World.rowIs.frozen HBX3.out 3
        have HGM := Lib.hid (gt_more (ta := ta) (tc := tc) (t := ⟨tk', (k' : Int), tm', tg'⟩) (k := k') rfl HGT.out HNYE.out)
        have HLM : Hid ((xs ++ [SX.mk ⟨tk', (k' : Int), tm', tg'⟩ ta tc]).length + clrN left' k' ≤ 65536) := gt_len _ HLN.out HCL.out
        have hns : (GtS w d l v tb kb w1.heap.size (Gt d l ss left (firstM d ss l left (k : Int))) (st4 u3 w1.heap.size nk ni nm (.slice a3 ng.length c3)) (xs ++ [⟨⟨tk', (k' : Int), tm', tg'⟩, ta, tc⟩]) a6 c6 (ss' ++ tg') (clrN left' k') ⟨nk, ni, nm, ng⟩ nb a3 c3) :=
          gt_next (n := ⟨nk, ni, nm, ng⟩) (nb := nb) (xs := xs ++ [⟨⟨tk', (k' : Int), tm', tg'⟩, ta, tc⟩]) (left := clrN left' k') (ss := ss' ++ tg') HN.out HU.out HO2.out HLL.out HFT.out b3 hown3 HGM.out HLM.out
        have HNS := Lib.hid hns
        clear hns
        have HML : Hid (leftOf tb (st4 u3 w1.heap.size nk ni nm (.slice a3 ng.length c3)) < left') := by
          show _ < _
          rw [leftOf_is HNS.out.tu]
          exact HCL.out
        unfold st4 at HNS HML
        clear HNY b3 hown3 HBX3 HU HO2 HGT HLN HLL HFT hap hsl l7
        go_wp2
        go_roundw
        case rel => exact ⟨_, a6, c6, ss' ++ tg', clrN left' k', ⟨nk, ni, nm, ng⟩, nb, a3, c3, by rw [List.length_append]; rfl, rfl, HNS⟩
        case measure =>
          have h1 := HML.out
          have h2 := HLE.out
          rw [h2]
          exact h1
end Go.Proofs.YtdchfmokicfmnaaDoor
end
