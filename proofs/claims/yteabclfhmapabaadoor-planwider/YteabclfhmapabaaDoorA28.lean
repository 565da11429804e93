import Derived.Test.YteabclfhmapabaaDoorPlNx
import Derived.Test.YteabclfhmapabaaDoorA25
import Derived.Test.YteabclfhmapabaaDoorA8
import Derived.Deep.RegionHeld3
import Derived.Test.YteabclfhmapabaaDoorA17
import Derived.Test.YteabclfhmapabaaDoorA9
import Derived.Test.YteabclfhmapabaaDoorRgGen
import Derived.Test.YteabclfhmapabaaDoorLmSvR
section
namespace Go.Proofs.YteabclfhmapabaaDoor
open Go.RowKit Go.Maps Go.Shelf
set_option linter.unusedVariables false
set_option linter.unusedSimpArgs false
attribute [local go_sem ↓] Go.wp_at_zero Go.wp_at_succ

/-- the steps that are taken, from a turn on -/
inductive Gt (d : Nat) (l : List XL) : List ByteArray → Nat → St × Bool → List St → Prop where
  | done (ss : List ByteArray) (left : Nat) (s : St) : Gt d l ss left (s, false) []
  | more (ss : List ByteArray) (left : Nat) (s : St) (xs : List St) : Gt d l (ss ++ s.g) (clrN left s.i.toNat) (nextM d (ss ++ s.g) l (clrN left s.i.toNat)) xs → Gt d l ss left (s, true) (s :: xs)
def firstM (d : Nat) (ss : List ByteArray) (l : List XL) (left : Nat) (first : Int) : St × Bool :=
  if first = -1 then nextM d ss l left else (stL d ss l first.toNat, (stL d ss l first.toNat).k != 0)
/-- what is at hand is the step of a literal that is left -/
def FitM (d : Nat) (ss : List ByteArray) (l : List XL) (left : Nat) (c : St × Bool) : Prop := c.2 = true → hasB left c.1.i = true ∧ c.1 = stL d ss l c.1.i.toNat
theorem stL_i (d : Nat) (ss : List ByteArray) (l : List XL) (k : Nat) : (stL d ss l k).i = (k : Int) := stM_i _ _ _ _
theorem fit_of (d : Nat) (ss : List ByteArray) (l : List XL) (left : Nat) {i : Nat} (hi : i ∈ bitsL left) (b : Bool) : FitM d ss l left (stL d ss l i, b) := by
  intro _
  show hasB left (stL d ss l i).i = true ∧ stL d ss l i = stL d ss l (stL d ss l i).i.toNat
  rw [stL_i, Int.toNat_natCast]
  refine ⟨?_, rfl⟩
  unfold hasB
  rw [Int.toNat_natCast, (bitsL_mem hi).1]
  simp
theorem nextM_fit (d : Nat) (ss : List ByteArray) (l : List XL) (left : Nat) : FitM d ss l left (nextM d ss l left) := by
  unfold nextM
  split
  · next i hi => exact fit_of d ss l left (List.mem_of_find?_eq_some hi) true
  · split
    · next i hi => exact fit_of d ss l left (List.mem_of_find?_eq_some hi) _
    · intro h
      cases h
theorem firstM_fit (d : Nat) (ss : List ByteArray) (l : List XL) (left : Nat) (first : Int) (hf : first = -1 ∨ hasB left first = true) : FitM d ss l left (firstM d ss l left first) := by
  unfold firstM
  split
  · exact nextM_fit d ss l left
  · next hn =>
    intro _
    rcases hf with h | h
    · exact absurd h hn
    · have h0 : 0 ≤ first := by
        unfold hasB at h
        simp only [Bool.and_eq_true, decide_eq_true_eq] at h
        exact h.1
      show hasB left (stL d ss l first.toNat).i = true ∧ stL d ss l first.toNat = stL d ss l (stL d ss l first.toNat).i.toNat
      rw [stL_i, Int.toNat_natCast, Int.toNat_of_nonneg h0]
      exact ⟨h, rfl⟩
theorem clrN_lt {left k : Nat} (hk : k < 32) (hb : left.testBit k = true) : clrN left k < left := by
  have h1 := clrN_le left k
  rcases Nat.lt_or_eq_of_le h1 with h | h
  · exact h
  · exfalso
    have hp : (2 : Nat) ^ k < 2 ^ 32 := Nat.pow_lt_pow_right (by decide) hk
    have h2 : (clrN left k).testBit k = false := by
      unfold clrN
      rw [Nat.testBit_and, show (4294967295 : Nat) - 2 ^ k = 2 ^ 32 - (2 ^ k + 1) by omega, Nat.testBit_two_pow_sub_succ hp, Nat.testBit_two_pow_self]
      simp
    rw [h, hb] at h2
    cases h2
/-- a list lies elsewhere than a block of another type -/
theorem own_ne {w : World} {B : Nat} {e : TypeId} {k : Nat} {v : Value} {n : Nat} {xs : List Value} (h : w.ownsRow B e k v n xs) {b : Nat} {cs : Array Value} {e' : TypeId} {z : Nat × Nat} (hc : w.heap[b]? = some (Obj.cells cs e' z)) (hne : e ≠ e') : ∀ g, v.ownBlock = some g → g ≠ b := by
  intro g hg hgb
  obtain ⟨_, ⟨e2, _⟩ | ⟨g', cap', cur, e3, _, hh, _⟩⟩ := h
  · rw [e2] at hg
    cases hg
  · rw [e3] at hg
    cases hg
    have h' : g' = b := hgb
    rw [h', hc] at hh
    cases hh
    exact hne rfl
theorem own_block {w : World} {B : Nat} {e : TypeId} {k : Nat} {v : Value} {n : Nat} {xs : List Value} (h : w.ownsRow B e k v n xs) {g : Nat} (hg : v.ownBlock = some g) : ∃ cs, w.heap[g]? = some (Obj.cells cs e (0, 0)) := by
  obtain ⟨_, ⟨e2, _⟩ | ⟨g', cap', cur, e3, _, hh, _⟩⟩ := h
  · rw [e2] at hg
    cases hg
  · rw [e3] at hg
    cases hg
    exact ⟨_, hh⟩
theorem infoStepP : (Tryd.prog.info? 40).map (fun i => (i.zero, i.size, i.bytes)) = some (some (.agg #[.int .i8 0, .int .i64 0, .int .u32 0, .slice none 0 0]), 4, 48) := by kernel_rfl
theorem step_push {u : World} {B : Nat} {a : Option Addr} {c : Nat} {out : List SX} (y : SX) (own : u.ownsRow B 40 4 (.slice a out.length c) out.length (out.flatMap SX.cells)) (hB : B ≤ u.heap.size) (hl : out.length ≤ 1000000000) :
    ∃ a6 c6 w5, (Builtin.append_ #[28, 28] 28 #[.slice a out.length c, .slice (some ⟨u.heap.size, 0, none⟩) 1 1]).run Tryd.prog (u.alloc (.cells #[.int .i8 y.s.k, .int .i64 y.s.i, .int .u32 y.s.m, .slice y.a y.s.g.length y.c] 40)) = .ok (.slice a6 (out.length + 1) c6) w5 ∧ w5.ownsRow B 40 4 (.slice a6 (out ++ [y]).length c6) (out ++ [y]).length ((out ++ [y]).flatMap SX.cells) ∧ (u.alloc (.cells #[.int .i8 y.s.k, .int .i64 y.s.i, .int .u32 y.s.m, .slice y.a y.s.g.length y.c] 40)).grownBy w5 ((.slice a out.length c : Value).ownBlock) := by
  obtain ⟨i0, hi0, hz0, hz1, hz2⟩ := info_parts infoStepP
  have hA := belowA (w := u) (.cells #[.int .i8 y.s.k, .int .i64 y.s.i, .int .u32 y.s.m, .slice y.a y.s.g.length y.c] 40)
  have hz5 : B ≤ (u.alloc (.cells #[.int .i8 y.s.k, .int .i64 y.s.i, .int .u32 y.s.m, .slice y.a y.s.g.length y.c] 40)).heap.size := Nat.le_trans hB hA.size
  have ho := own_below own hA
  obtain ⟨v', w5, hrun, hown', hgrow, hnil, hloc⟩ := run_append_own_at (P := Tryd.prog) (u.alloc (.cells #[.int .i8 y.s.k, .int .i64 y.s.i, .int .u32 y.s.m, .slice y.a y.s.g.length y.c] 40)) B 28 28 40 i0 _ 4 48 Tryd.underlying28 hi0 hz0 hz1 hz2 rfl (by decide) _ _ _ ho ⟨_, 0, none⟩ 1 1 [.int .i8 y.s.k, .int .i64 y.s.i, .int .u32 y.s.m, .slice y.a y.s.g.length y.c] rfl (lit_news _ #[.int .i8 y.s.k, .int .i64 y.s.i, .int .u32 y.s.m, .slice y.a y.s.g.length y.c] _) (by simp [Value.oneCell']) (by unfold maxLen; omega) (by omega) hz5
  obtain ⟨a6, c6, rfl, _⟩ := own_form hown'
  refine ⟨a6, c6, w5, hrun, ?_, hgrow⟩
  rw [List.length_append, List.flatMap_append]
  exact hown'
theorem sliceStep (k i m : Int) (a : Option Addr) (n c : Nat) (u : World) : (Instr.buildSlice 28 1 #[(0, .agg #[.int .i8 k, .int .i64 i, .int .u32 m, .slice a n c])]).run Tryd.prog u = .ok (.slice (some ⟨u.heap.size, 0, none⟩) 1 1) (u.alloc (.cells #[.int .i8 k, .int .i64 i, .int .u32 m, .slice a n c] 40)) := by
  simp [Instr.buildSlice, Instr.fill, go_sem]
def leftOf (tb : Nat) (w : World) : Nat := match w.cell? ⟨tb, 2, none⟩ with
  | some v => (intOf v).toNat
  | none => 0
theorem leftOf_is {w : World} {tb kb : Nat} {v : Value} {ss : List ByteArray} {left : Nat} (h : TuIs w tb kb v ss left) : leftOf tb w = left := by
  unfold leftOf
  rw [RL.at h.rl (j := 2) rfl]
  simp [intOf]
/-- amid goThrough -/
structure GtS (w : World) (d : Nat) (l : List XL) (v : Value) (tb kb b6 : Nat) (G : List St → Prop) (wr : World) (xs : List SX) (oa : Option Addr) (oc : Nat) (ss : List ByteArray) (left : Nat) (t : St) (b : Bool) (ta : Option Addr) (tc : Nat) : Prop where
  tu : TuIs wr tb kb v ss left
  lt : left < 2 ^ l.length
  box : RL wr b6 40 [.int .i8 t.k, .int .i64 t.i, .int .u32 t.m, .slice ta t.g.length tc]
  own : wr.ownsRow w.heap.size 9 1 (.slice ta t.g.length tc) t.g.length (t.g.flatMap strB)
  out : wr.ownsRow (b6 + 1) 40 4 (.slice oa xs.length oc) xs.length (xs.flatMap SX.cells)
  giv : ∀ y ∈ xs, wr.ownsRow w.heap.size 9 1 (.slice y.a y.s.g.length y.c) y.s.g.length (y.s.g.flatMap strB)
  px : Px tb kb w wr
  fit : FitM d ss l left (t, b)
  gt : ∀ ys, Gt d l ss left (t, b) ys → G (xs.map SX.s ++ ys)
  len : xs.length + left ≤ 65536
theorem SetIs.own {w : World} {b : Nat} {ss : List ByteArray} (h : SetIs w b ss) : ∃ es c, w.heap[b]? = some (Obj.map es c) := by
  obtain ⟨es, c, hb, _⟩ := h
  exact ⟨es, c, hb⟩
/-- the blocks that goThrough's things lie in -/
structure GtN (w : World) (tb kb b6 : Nat) : Prop where
  t : tb < w.heap.size
  k : kb < w.heap.size
  b : w.heap.size ≤ b6
theorem GtS.taken {w : World} {d : Nat} {l : List XL} {v : Value} {tb kb b6 : Nat} {G : List St → Prop} {wr w1 : World} {xs : List SX} {oa : Option Addr} {oc : Nat} {ss : List ByteArray} {left : Nat} {t : St} {b : Bool} {ta : Option Addr} {tc : Nat} (h : GtS w d l v tb kb b6 G wr xs oa oc ss left t b ta tc) (hn : GtN w tb kb b6) (hp : Px tb kb wr w1) :
    RL w1 b6 40 [.int .i8 t.k, .int .i64 t.i, .int .u32 t.m, .slice ta t.g.length tc] ∧ w1.ownsRow w.heap.size 9 1 (.slice ta t.g.length tc) t.g.length (t.g.flatMap strB) ∧ w1.ownsRow (b6 + 1) 40 4 (.slice oa xs.length oc) xs.length (xs.flatMap SX.cells) ∧ (∀ y ∈ xs, w1.ownsRow w.heap.size 9 1 (.slice y.a y.s.g.length y.c) y.s.g.length (y.s.g.flatMap strB)) ∧ Px tb kb w w1 := by
  have e1 := hn.t
  have e2 := hn.k
  have e3 := hn.b
  refine ⟨World.rowIs.of_block h.box (hp.block b6 h.box.lt (by omega) (by omega)), own_of_block h.own (fun g hg => ?_), own_of_block h.out (fun g hg => ?_), fun y hy => own_of_block (h.giv y hy) (fun g hg => ?_), h.px.trans hp⟩
  · have := h.own.lt g hg
    exact hp.block g this.2 (by omega) (by omega)
  · have := h.out.lt g hg
    exact hp.block g this.2 (by omega) (by omega)
  · have := (h.giv y hy).lt g hg
    exact hp.block g this.2 (by omega) (by omega)
end Go.Proofs.YteabclfhmapabaaDoor
end
section
namespace Go.Proofs.YteabclfhmapabaaDoor
open Go.RowKit Go.Maps Go.Shelf
set_option linter.unusedVariables false
set_option linter.unusedSimpArgs false

/-! what is made is right, takes each literal once (PlanSound) -/
theorem sameSt_refl (s : St) : sameSt s s = true := by simp [sameSt]
/-- what is at hand is the step of a literal that is left, and may be taken -/
def FitS (d : Nat) (ss : List ByteArray) (l : List XL) (left : Nat) (c : St × Bool) : Prop := c.2 = true → hasB left c.1.i = true ∧ c.1 = stL d ss l c.1.i.toNat ∧ (c.1.k != 0) = true
theorem nextM_fitS (d : Nat) (ss : List ByteArray) (l : List XL) (left : Nat) : FitS d ss l left (nextM d ss l left) := by
  intro h
  obtain ⟨h1, h2⟩ := nextM_fit d ss l left h
  refine ⟨h1, h2, ?_⟩
  unfold nextM at h ⊢
  split
  · next i hi =>
    have h3 := List.find?_some hi
    unfold tryN at h3
    rw [Bool.and_eq_true] at h3
    exact h3.2
  · next hn =>
    rw [hn] at h
    simp only at h
    split
    · next i hi =>
      rw [hi] at h
      exact h
    · next hi =>
      rw [hi] at h
      cases h
theorem okW_fit {d : Nat} {l : List XL} {ss : List ByteArray} {left : Nat} {s : St} (h : FitS d ss l left (s, true)) : okW d l ss left s = true := by
  obtain ⟨h1, h2, h3⟩ := h rfl
  simp only at h1 h2 h3
  unfold okW
  rw [h1, ← h2, h3, sameSt_refl]
  rfl
/-- what goThrough finds Right goes through, and then nothing is next -/
theorem gt_goR {d : Nat} {l : List XL} {ss : List ByteArray} {left : Nat} {c : St × Bool} {xs : List St} (h : Gt d l ss left c xs) (hf : FitS d ss l left c) (hn : c.2 = false → (nextM d ss l left).2 = false) : ∃ ss' left', goR d l ss left xs = some (ss', left') ∧ (nextM d ss' l left').2 = false := by
  induction h with
  | done ss left s => exact ⟨ss, left, rfl, hn rfl⟩
  | more ss left s xs _ ih =>
    obtain ⟨ss', left', h1, h2⟩ := ih (nextM_fitS _ _ _ _) (fun h => h)
    refine ⟨ss', left', ?_, h2⟩
    rw [goR, if_pos (okW_fit hf), ← (hf rfl).2.1]
    exact h1
/-- the literals that are taken: each once, all that were left and are not -/
theorem goR_lits {d : Nat} {l : List XL} (hl : l.length ≤ 16) : ∀ (xs : List St) {ss ss' : List ByteArray} {left left' : Nat}, left < 2 ^ l.length → goR d l ss left xs = some (ss', left') → (xs.map (fun s => s.i.toNat)).Nodup ∧ (∀ s ∈ xs, 0 ≤ s.i) ∧ ∀ i, i < l.length → (i ∈ xs.map (fun s => s.i.toNat) ↔ left.testBit i = true ∧ left'.testBit i = false)
  | [], ss, ss', left, left', hb, h => by
    injection h with h
    injection h with h1 h2
    subst h2
    refine ⟨List.nodup_nil, ?_, ?_⟩
    · intro s hs
      cases hs
    · intro i _
      constructor
      · intro hi
        cases hi
      · rintro ⟨q1, q2⟩
        rw [q1] at q2
        cases q2
  | s :: xs, ss, ss', left, left', hb, h => by
    rw [goR] at h
    split at h
    · next ho =>
      obtain ⟨k, e1, e2, e3, e4, e5⟩ := okW_out hb ho
      have e6 : s.i.toNat = k := by omega
      rw [e6] at h
      obtain ⟨a1, a2, a3⟩ := goR_lits hl xs (Nat.lt_of_le_of_lt (clrN_le _ _) hb) h
      have hk : (clrN left k).testBit k = false := by
        rw [clrN_bit (by omega) (by omega)]
        simp
      have hnot : k ∉ xs.map (fun s => s.i.toNat) := fun hm => by
        have := ((a3 k e2).1 hm).1
        rw [hk] at this
        cases this
      have hlow : left'.testBit k = false := by
        rcases hb2 : left'.testBit k with _ | _
        · rfl
        · exfalso
          exact goR_keeps hl xs (Nat.lt_of_le_of_lt (clrN_le _ _) hb) h k e2 hk hb2
      refine ⟨?_, fun t ht => ?_, fun i hi => ?_⟩
      · rw [List.map_cons, e6]
        exact List.nodup_cons.2 ⟨hnot, a1⟩
      · rcases List.mem_cons.1 ht with rfl | ht
        · omega
        · exact a2 t ht
      · rw [List.map_cons, e6, List.mem_cons, a3 i hi, clrN_bit (by omega) (by omega)]
        by_cases hik : k = i
        · subst hik
          simp [e3, hlow]
        · have : ¬ i = k := fun e => hik e.symm
          simp [hik, this]
    · cases h
where
  goR_keeps {d : Nat} {l : List XL} (hl : l.length ≤ 16) : ∀ (xs : List St) {ss ss' : List ByteArray} {left left' : Nat}, left < 2 ^ l.length → goR d l ss left xs = some (ss', left') → ∀ k, k < l.length → left.testBit k = false → left'.testBit k = true → False
    | [], ss, ss', left, left', hb, h, k, hk, h1, h2 => by
      injection h with h
      injection h with _ h3
      rw [h3, h2] at h1
      cases h1
    | s :: xs, ss, ss', left, left', hb, h, k, hk, h1, h2 => by
      rw [goR] at h
      split at h
      · next ho =>
        obtain ⟨k2, e1, e2, e3, e4, e5⟩ := okW_out hb ho
        have e6 : s.i.toNat = k2 := by omega
        rw [e6] at h
        exact goR_keeps hl xs (Nat.lt_of_le_of_lt (clrN_le _ _) hb) h k hk (by rw [clrN_bit (by omega) (by omega), h1]; rfl) h2
      · cases h
/-- where nothing is left, as many were taken as there are -/
theorem goR_all {d : Nat} {l : List XL} (hl : l.length ≤ 16) {xs : List St} {ss ss' : List ByteArray} (h : goR d l ss (2 ^ l.length - 1) xs = some (ss', 0)) : xs.length = l.length ∧ (xs.map (fun s => s.i.toNat)).Nodup ∧ ∀ s ∈ xs, 0 ≤ s.i := by
  have hb : 2 ^ l.length - 1 < 2 ^ l.length := by have := Nat.two_pow_pos l.length; omega
  obtain ⟨h1, h2, h3⟩ := goR_lits hl xs hb h
  refine ⟨?_, h1, h2⟩
  have hlt : ∀ i ∈ xs.map (fun s => s.i.toNat), i < l.length := goR_lt xs hb h
  have hp : (xs.map (fun s => s.i.toNat)).Perm (List.range l.length) := (List.perm_ext_iff_of_nodup h1 List.nodup_range).2 (fun i => by
    rw [List.mem_range]
    refine ⟨hlt i, fun hi => (h3 i hi).2 ⟨?_, Nat.zero_testBit i⟩⟩
    rw [Nat.testBit_two_pow_sub_one]
    exact decide_eq_true hi)
  have := hp.length_eq
  rw [List.length_map, List.length_range] at this
  exact this
where
  goR_lt {d : Nat} {l : List XL} : ∀ (xs : List St) {ss ss' : List ByteArray} {left left' : Nat}, left < 2 ^ l.length → goR d l ss left xs = some (ss', left') → ∀ i ∈ xs.map (fun s => s.i.toNat), i < l.length
    | [], ss, ss', left, left', hb, h, i, hi => by cases hi
    | s :: xs, ss, ss', left, left', hb, h, i, hi => by
      rw [goR] at h
      split at h
      · next ho =>
        obtain ⟨k, e1, e2, e3, e4, e5⟩ := okW_out hb ho
        have e6 : s.i.toNat = k := by omega
        rw [e6] at h
        rw [List.map_cons, e6] at hi
        rcases List.mem_cons.1 hi with rfl | hi
        · exact e2
        · exact goR_lt xs (Nat.lt_of_le_of_lt (clrN_le _ _) hb) h i hi
      · cases h
end Go.Proofs.YteabclfhmapabaaDoor
end
section
namespace Go.Proofs.YteabclfhmapabaaDoor
open Go.RowKit Go.Maps Go.Shelf
set_option linter.unusedVariables false
set_option linter.unusedSimpArgs false

/-! where all variables are limited, nothing is next only where nothing is left -/
theorem kd_of_litB {x : Lit4} (h : litB x = true) : x.k = 1 ∨ x.k = 2 ∨ x.k = 3 := by
  unfold litB at h
  split at h
  · next h1 => rcases h1 with h1 | h1 <;> simp [h1]
  · split at h
    · next h3 => simp [h3]
    · cases h
theorem lackL_nil {ss l : List ByteArray} (h : ∀ n ∈ l, n ∈ ss) : (lackL ss l).length = 0 := by
  have : lackL ss l = [] := by
    unfold lackL
    rw [List.filter_eq_nil_iff]
    intro n hn
    rw [inB_iff.2 (h n hn)]
    decide
  rw [this]
  rfl
/-- what an equation gives lies in a set that is shut -/
def ShutQ (S : List ByteArray) (q : Qn) : Prop := (∀ v, q.1.lone = some v → (∀ m ∈ q.2.vars, m ∈ S) → v ∈ S) ∧ (∀ v, q.2.lone = some v → (∀ m ∈ q.1.vars, m ∈ S) → v ∈ S)
theorem gives_shut {S fs : List ByteArray} {a : Option ByteArray} {o : List ByteArray} (hf : ∀ x ∈ fs, x ∈ S) (h : ∀ v, a = some v → (∀ m ∈ o, m ∈ S) → v ∈ S) {v : ByteArray} (hv : givesO a o fs = some v) : v ∈ S := by
  unfold givesO at hv
  split at hv
  · next u =>
    split at hv
    · next hc =>
      injection hv with hv
      subst hv
      rw [Bool.and_eq_true, List.all_eq_true] at hc
      exact h u rfl (fun m hm => hf m (inB_iff.1 (hc.2 m hm)))
    · cases hv
  · cases hv
theorem step_shut {S : List ByteArray} {q : Qn} (hq : ShutQ S q) {fs : List ByteArray} (hf : ∀ x ∈ fs, x ∈ S) : ∀ x ∈ stepQ fs q, x ∈ S := by
  intro x hx
  unfold stepQ at hx
  split at hx
  · next v hv =>
    rcases List.mem_append.1 hx with h1 | h1
    · exact hf x h1
    · obtain rfl := List.mem_singleton.1 h1
      unfold gaveO at hv
      split at hv
      · next u hu =>
        injection hv with hv
        subst hv
        exact gives_shut hf hq.1 hu
      · exact gives_shut hf hq.2 hv
  · exact hf x hx
theorem rnd_shut {S : List ByteArray} : ∀ (qs : List Qn), (∀ q ∈ qs, ShutQ S q) → ∀ fs : List ByteArray, (∀ x ∈ fs, x ∈ S) → ∀ x ∈ rndQ qs fs, x ∈ S
  | [], _, fs, hf, x, hx => hf x hx
  | q :: qs, hq, fs, hf, x, hx => rnd_shut qs (fun p hp => hq p (List.mem_cons_of_mem _ hp)) (stepQ fs q) (step_shut (hq q (by simp)) hf) x hx
theorem it_shut {S : List ByteArray} (qs : List Qn) (hq : ∀ q ∈ qs, ShutQ S q) : ∀ (k : Nat) (fs : List ByteArray), (∀ x ∈ fs, x ∈ S) → ∀ x ∈ itQ qs k fs, x ∈ S
  | 0, fs, hf, x, hx => hf x hx
  | k + 1, fs, hf, x, hx => it_shut qs hq k (rndQ qs fs) (rnd_shut qs hq fs hf) x hx
theorem next_no {d : Nat} {ss : List ByteArray} {l : List XL} {left : Nat} (h : (nextM d ss l left).2 = false) {i : Nat} (hi : i < 32) (hb : left.testBit i = true) : (atL l i).x.k ≠ 1 ∧ (stL d ss l i).k = 0 := by
  have hm : i ∈ bitsL left := List.mem_filter.2 ⟨List.mem_range.2 hi, hb⟩
  unfold nextM at h
  split at h
  · cases h
  · next hn =>
    have h1 := List.find?_eq_none.1 hn i hm
    split at h
    · next j hj =>
      exfalso
      have h2 := List.find?_some hj
      unfold atN1 at h2
      have h3 := of_decide_eq_true h2
      have h4 : (stL d ss l j).k = 0 := by simpa using h
      unfold stL stM at h4
      rw [if_pos h3] at h4
      simp only at h4
      unfold kindA at h4
      split at h4
      · cases h4
      · split at h4 <;> cases h4
    · next hn2 =>
      have h2 := List.find?_eq_none.1 hn2 i hm
      unfold atN1 at h2
      unfold tryN at h1
      have h3 : (atL l i).x.k ≠ 1 := fun e => h2 (decide_eq_true e)
      refine ⟨h3, ?_⟩
      simpa [h3] using h1
theorem next_whole {d : Nat} {r : R3} {l ss fs : List ByteArray} {left : Nat} (hx : r.bd.all (fun y => litB y.x) = true) (hn : r.bd.length ≤ 16) (hL : LimK (d + 1) l r fs) (hlen : fs.length = (vsT [] (termsR (d + 1) r)).length) (hs : ∀ n ∈ l, n ∈ ss) (hT : TakM (d + 1) r.bd ss left) (hlt : left < 2 ^ r.bd.length) (h : (nextM (d + 1) ss r.bd left).2 = false) : left = 0 := by
  apply Classical.byContradiction
  intro h0
  have hlit : ∀ i, i < r.bd.length → litB (atL r.bd i).x = true := fun i hi => by
    rw [List.all_eq_true] at hx
    rw [atL_eq hi]
    exact hx _ (List.getElem_mem hi)
  have hidx : ∀ y ∈ r.bd, ∃ i, i < r.bd.length ∧ atL r.bd i = y := fun y hy => by
    obtain ⟨i, hi, e⟩ := List.getElem_of_mem hy
    exact ⟨i, hi, (atL_eq hi).trans e⟩
  have hno : ∀ i, i < r.bd.length → left.testBit i = true → (atL r.bd i).x.k ≠ 1 ∧ (stL (d + 1) ss r.bd i).k = 0 := fun i hi hb => next_no h (by omega) hb
  have hbody : ∀ y ∈ r.bd, ∀ m ∈ vsT [] (termsL (d + 1) y.x), m ∈ vsT [] (termsR (d + 1) r) := fun y hy => vsT_sub (fun t ht => by
    unfold termsR
    exact List.mem_append.2 (.inr (List.mem_flatMap.2 ⟨y, hy, ht⟩)))
  have hshut : ∀ q ∈ eqL (d + 1) (kbL (d + 1) l r), ShutQ ss q := fun q hq => by
    unfold eqL at hq
    obtain ⟨y, hy, hqy⟩ := List.mem_flatMap.1 hq
    rcases List.mem_cons.1 hy with rfl | hy
    · cases hqy
    · obtain ⟨i, hi, rfl⟩ := hidx y hy
      unfold eqX at hqy
      split at hqy
      · next hc =>
        obtain rfl := List.mem_singleton.1 hqy
        have e3 : ¬ (atL r.bd i).x.k = 1 := by rw [hc.1]; decide
        have e2 : ¬ (atL r.bd i).x.k = 2 := by rw [hc.1]; decide
        rcases hb : left.testBit i with _ | _
        · have ht := hT i hi hb
          exact ⟨fun v hv _ => ht v (vsT_sub (fun t ht => mem_termsL.2 (.inr (.inl ht))) v (sd_ok (d + 1) _ v hv)), fun v hv _ => ht v (vsT_sub (fun t ht => mem_termsL.2 (.inr (.inr ht))) v (sd_ok (d + 1) _ v hv))⟩
        · have hk := (hno i hi hb).2
          unfold stL stM at hk
          rw [if_neg e3, if_neg e2] at hk
          simp only at hk
          unfold cmpM at hk
          constructor
          · intro v hv hm
            exfalso
            have hop : (atL r.bd i).x.l.op = 0 := by
              unfold sdE at hv
              simp only at hv
              split at hv
              · next hh => exact hh.1
              · cases hv
            have hB := lackL_nil (ss := ss) (l := vsT [] (termsD (d + 1) (atL r.bd i).x.r)) hm
            split at hk
            · cases hk
            · rw [if_neg (by simp [hc.2]), if_pos ⟨hB, hop⟩] at hk
              cases hk
          · intro v hv hm
            exfalso
            have hop : (atL r.bd i).x.r.op = 0 := by
              unfold sdE at hv
              simp only at hv
              split at hv
              · next hh => exact hh.1
              · cases hv
            have hA := lackL_nil (ss := ss) (l := vsT [] (termsD (d + 1) (atL r.bd i).x.l)) hm
            split at hk
            · cases hk
            · rw [if_neg (by simp [hc.2])] at hk
              split at hk
              · cases hk
              · rw [if_pos ⟨hA, hop⟩] at hk
                cases hk
      · cases hqy
  have hat : ∀ x ∈ atN (kbL (d + 1) l r), x ∈ ss ∧ x ∈ vsT [] (termsR (d + 1) r) := fun x hx2 => by
    unfold atN at hx2
    rcases foldN_memG _ _ x hx2 with h1 | h1
    · cases h1
    · unfold avL at h1
      obtain ⟨y, hy, hxy⟩ := List.mem_flatMap.1 h1
      rcases List.mem_cons.1 hy with rfl | hy
      · obtain ⟨_, _, t, ht, e⟩ := mem_vsT.1 (show x ∈ vsT [] (aheadT l (vsT [] (termsR (d + 1) r))) from hxy)
        unfold aheadT at ht
        obtain ⟨m, hm, rfl⟩ := List.mem_map.1 ht
        have hm2 := List.mem_filter.1 hm
        have e' : m = x := e
        subst e'
        exact ⟨hs m (inB_iff.1 hm2.2), hm2.1⟩
      · unfold avX at hxy
        split at hxy
        · next hk1 =>
          have h3 := vsT_sub (fun t ht => mem_termsL.2 (.inl ht)) x hxy (us := termsL (d + 1) y.x)
          refine ⟨?_, hbody y hy x h3⟩
          obtain ⟨i, hi, rfl⟩ := hidx y hy
          rcases hb : left.testBit i with _ | _
          · exact hT i hi hb x h3
          · exact absurd hk1 (hno i hi hb).1
        · cases hxy
  have hlone : ∀ x ∈ loneL (eqL (d + 1) (kbL (d + 1) l r)), x ∈ vsT [] (termsR (d + 1) r) := fun x hx2 => by
    unfold loneL at hx2
    obtain ⟨q, hq, hxq⟩ := List.mem_flatMap.1 hx2
    unfold eqL at hq
    obtain ⟨y, hy, hqy⟩ := List.mem_flatMap.1 hq
    rcases List.mem_cons.1 hy with rfl | hy
    · cases hqy
    · unfold eqX at hqy
      split at hqy
      · obtain rfl := List.mem_singleton.1 hqy
        rcases List.mem_append.1 hxq with h1 | h1
        · exact hbody y hy x (vsT_sub (fun t ht => mem_termsL.2 (.inr (.inl ht))) x (sd_ok (d + 1) y.x.l x (Option.mem_toList.1 h1)))
        · exact hbody y hy x (vsT_sub (fun t ht => mem_termsL.2 (.inr (.inr ht))) x (sd_ok (d + 1) y.x.r x (Option.mem_toList.1 h1)))
      · cases hqy
  obtain ⟨⟨k, rfl⟩, _⟩ := hL
  obtain ⟨hin, hnd⟩ := itQ_inG _ hlone k _ (fun x hx2 => (hat x hx2).2) (foldN_nodup _ _ List.nodup_nil)
  have hsh := it_shut _ hshut k _ (fun x hx2 => (hat x hx2).1)
  have hall : ∀ n ∈ vsT [] (termsR (d + 1) r), n ∈ ss := fun n hn2 => by
    apply Classical.byContradiction
    intro hnS
    have hle := nodupN_le _ ((vsT [] (termsR (d + 1) r)).filter (fun m => decide (m ≠ n))) hnd (fun x hx2 => List.mem_filter.2 ⟨hin x hx2, decide_eq_true (fun e => hnS (e ▸ hsh x hx2))⟩)
    have hl2 : ((vsT [] (termsR (d + 1) r)).filter (fun m => decide (m ≠ n))).length < (vsT [] (termsR (d + 1) r)).length := by
      refine List.length_filter_lt_length_iff_exists.2 ⟨n, hn2, by simp⟩
    omega
  have h32 : left < 4294967296 := Nat.lt_of_lt_of_le hlt (Nat.le_trans (Nat.pow_le_pow_right (by omega) hn) (by decide))
  obtain ⟨hb, _, _, _⟩ := low_bits h0 h32
  generalize Lib.ctz 32 left = i at hb
  have hi : i < r.bd.length := by
    apply Classical.byContradiction
    intro hge
    rw [Nat.testBit_lt_two_pow (Nat.lt_of_lt_of_le hlt (Nat.pow_le_pow_right (by omega) (by omega)))] at hb
    cases hb
  obtain ⟨h1, h2⟩ := hno i hi hb
  have hmem : atL r.bd i ∈ r.bd := by
    rw [atL_eq hi]
    exact List.getElem_mem hi
  have hv : ∀ n ∈ vsT [] (termsL (d + 1) (atL r.bd i).x), n ∈ ss := fun n hn2 => hall n (hbody _ hmem n hn2)
  unfold stL stM at h2
  rw [if_neg h1] at h2
  rcases kd_of_litB (hlit i hi) with e | e | e
  · exact h1 e
  · rw [if_pos e, if_pos (lackL_nil (fun n hn2 => hv n (vsT_sub (fun t ht => mem_termsL.2 (.inl ht)) n hn2)))] at h2
    cases h2
  · rw [if_neg (by rw [e]; decide)] at h2
    simp only at h2
    unfold cmpM at h2
    rw [if_pos ⟨lackL_nil (fun n hn2 => hv n (vsT_sub (fun t ht => mem_termsL.2 (.inr (.inl ht))) n hn2)), lackL_nil (fun n hn2 => hv n (vsT_sub (fun t ht => mem_termsL.2 (.inr (.inr ht))) n hn2))⟩] at h2
    cases h2
end Go.Proofs.YteabclfhmapabaaDoor
end
section
namespace Go.Proofs.YteabclfhmapabaaDoor
open Go.RowKit Go.Maps Go.Shelf
set_option linter.unusedVariables false
set_option linter.unusedSimpArgs false

/-! Make's plan is right -/
theorem goR_tak {d : Nat} {l : List XL} (hl : l.length ≤ 16) (hx : l.all (fun y => litB y.x) = true) : ∀ (xs : List St) {ss ss' : List ByteArray} {left left' : Nat}, left < 2 ^ l.length → TakM d l ss left → goR d l ss left xs = some (ss', left') → TakM d l ss' left' ∧ left' < 2 ^ l.length ∧ ∀ n ∈ ss, n ∈ ss'
  | [], ss, ss', left, left', hb, ht, h => by
    injection h with h
    injection h with h1 h2
    subst h1 h2
    exact ⟨ht, hb, fun n hn => hn⟩
  | s :: xs, ss, ss', left, left', hb, ht, h => by
    rw [goR] at h
    split at h
    · next ho =>
      obtain ⟨k, e1, e2, e3, e4, e5⟩ := okW_out hb ho
      have e6 : s.i.toNat = k := by omega
      rw [e6] at h
      obtain ⟨h1, h2, h3⟩ := goR_tak hl hx xs (Nat.lt_of_le_of_lt (clrN_le _ _) hb) (takM_step hl hx e2 e4 ht) h
      exact ⟨h1, h2, fun n hn => h3 n (List.mem_append.2 (.inl hn))⟩
    · cases h
theorem firstM_fitS {d : Nat} {ss : List ByteArray} {l : List XL} {left : Nat} {first : Int} (hf : first = -1 ∨ isAtM l left first = true) : FitS d ss l left (firstM d ss l left first) ∧ ((firstM d ss l left first).2 = false → (nextM d ss l left).2 = false) ∧ (first ≠ -1 → (firstM d ss l left first).2 = true ∧ (firstM d ss l left first).1.i = first) := by
  by_cases h1 : first = -1
  · unfold firstM
    rw [if_pos h1]
    exact ⟨nextM_fitS _ _ _ _, fun h => h, fun h => absurd h1 h⟩
  · rcases hf with hf | hf
    · exact absurd hf h1
    · unfold isAtM at hf
      simp only [Bool.and_eq_true, decide_eq_true_eq] at hf
      have hb : hasB left first = true := hf.1
      have h0 : 0 ≤ first := by
        unfold hasB at hb
        simp only [Bool.and_eq_true, decide_eq_true_eq] at hb
        exact hb.1
      have hk : (stL d ss l first.toNat).k ≠ 0 := by
        unfold stL stM
        rw [if_pos (by first | exact hf.2 | simpa using hf.2)]
        simp only
        unfold kindA
        split
        · decide
        · split <;> decide
      have hk2 : ((stL d ss l first.toNat).k != 0) = true := by simpa using hk
      unfold firstM
      rw [if_neg h1]
      have hi : (stL d ss l first.toNat).i = first := by
        rw [stL_i]
        omega
      refine ⟨fun _ => ⟨?_, ?_, hk2⟩, fun h => ?_, fun _ => ⟨hk2, hi⟩⟩
      · show hasB left (stL d ss l first.toNat).i = true
        rw [hi]
        exact hb
      · show stL d ss l first.toNat = stL d ss l (stL d ss l first.toNat).i.toNat
        rw [hi]
      · have h2 : ((stL d ss l first.toNat).k != 0) = false := h
        rw [hk2] at h2
        cases h2
theorem made_right {d : Nat} {r : R3} {l fs : List ByteArray} {first : Int} {xs : List St} (hx : r.bd.all (fun y => litB y.x) = true) (hn : r.bd.length ≤ 16) (hL : LimK (d + 1) l r fs) (hlen : fs.length = (vsT [] (termsR (d + 1) r)).length) (hf : first = -1 ∨ isAtM r.bd (2 ^ r.bd.length - 1) first = true) (hG : Gt (d + 1) r.bd l (2 ^ r.bd.length - 1) (firstM (d + 1) l r.bd (2 ^ r.bd.length - 1) first) xs) :
    (∃ ss', goR (d + 1) r.bd l (2 ^ r.bd.length - 1) xs = some (ss', 0)) ∧ xs.length = r.bd.length ∧ (xs.map (fun s => s.i.toNat)).Nodup ∧ (∀ s ∈ xs, 0 ≤ s.i) ∧ (first ≠ -1 → ∃ s ys, xs = s :: ys ∧ s.i = first) := by
  obtain ⟨f1, f2, f3⟩ := firstM_fitS (d := d + 1) (ss := l) hf
  have hb : 2 ^ r.bd.length - 1 < 2 ^ r.bd.length := by have := Nat.two_pow_pos r.bd.length; omega
  obtain ⟨ss', left', h1, h2⟩ := gt_goR hG f1 f2
  obtain ⟨t1, t2, t3⟩ := goR_tak hn hx xs hb (takM_start2 _ _ _) h1
  obtain rfl := next_whole hx hn hL hlen t3 t1 t2 h2
  obtain ⟨a1, a2, a3⟩ := goR_all hn h1
  refine ⟨⟨ss', h1⟩, a1, a2, a3, fun hne => ?_⟩
  obtain ⟨g1, g2⟩ := f3 hne
  generalize firstM (d + 1) l r.bd (2 ^ r.bd.length - 1) first = c at hG g1 g2
  cases hG with
  | done => cases g1
  | more ss left s ys _ => exact ⟨s, ys, rfl, g2⟩
where
  takM_start2 (d : Nat) (l : List XL) (ss : List ByteArray) : TakM d l ss (2 ^ l.length - 1) := by
    intro i hi hb
    rw [Nat.testBit_two_pow_sub_one, decide_eq_true hi] at hb
    cases hb
end Go.Proofs.YteabclfhmapabaaDoor
end
section
namespace Go.Proofs.YteabclfhmapabaaDoor
open Go.RowKit Go.Maps
set_option linter.unusedVariables false
set_option linter.unusedSimpArgs false
attribute [local go_sem ↓] Go.wp_at_zero Go.wp_at_succ

end Go.Proofs.YteabclfhmapabaaDoor
end
section
namespace Go.Proofs.YteabclfhmapabaaDoor
open Go.RowKit Go.Maps
set_option linter.unusedVariables false
set_option linter.unusedSimpArgs false
attribute [local go_sem ↓] Go.wp_at_zero Go.wp_at_succ
attribute [-go_sem] loadVar storeVar

end Go.Proofs.YteabclfhmapabaaDoor
end
section
namespace Go.Proofs.YteabclfhmapabaaDoor
open Go.RowKit Go.Maps
set_option linter.unusedVariables false
set_option linter.unusedSimpArgs false
attribute [local go_sem ↓] Go.wp_at_zero Go.wp_at_succ
attribute [-go_sem] loadVar storeVar

theorem avL_lenC (d : Nat) : ∀ l : List XL, (avL l).length ≤ (l.flatMap (fun y => termsL d y.x)).length
  | [] => Nat.le_refl _
  | y :: l => by
    have h1 := avL_lenC d l
    unfold avL at h1 ⊢
    rw [List.flatMap_cons, List.flatMap_cons, List.length_append, List.length_append]
    have h2 : (avX y).length ≤ (termsL d y.x).length := by
      unfold avX termsL
      split
      · have := vsT_len y.x.ts []
        simp only [List.length_nil, List.length_append] at this ⊢
        omega
      · exact Nat.zero_le _
    omega
theorem loneL_len : ∀ qs : List Qn, (loneL qs).length ≤ 2 * qs.length
  | [] => Nat.le_refl _
  | q :: qs => by
    have h1 := loneL_len qs
    unfold loneL at h1 ⊢
    rw [List.flatMap_cons, List.length_append, List.length_append, List.length_cons]
    have h2 : ∀ o : Option ByteArray, o.toList.length ≤ 1 := fun o => by cases o <;> simp
    have := h2 q.1.lone
    have := h2 q.2.lone
    omega
end Go.Proofs.YteabclfhmapabaaDoor
end
section
namespace Go.Proofs.YteabclfhmapabaaDoor
open Go.RowKit Go.Maps
set_option linter.unusedVariables false
set_option linter.unusedSimpArgs false
attribute [local go_sem ↓] Go.wp_at_zero Go.wp_at_succ

end Go.Proofs.YteabclfhmapabaaDoor
end
section
namespace Go.Proofs.YteabclfhmapabaaDoor
open Go.RowKit Go.Maps
set_option linter.unusedVariables false
set_option linter.unusedSimpArgs false

end Go.Proofs.YteabclfhmapabaaDoor
end
