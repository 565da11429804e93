import Derived.Test.YteabclfhmapabaaDoorA28
import Derived.Test.YteabclfhmapabaaDoorA8
section
namespace Go.Proofs.YteabclfhmapabaaDoor
open Go.RowKit Go.Maps
set_option linter.unusedVariables false
set_option linter.unusedSimpArgs false
attribute [local go_sem ↓] Go.wp_at_zero Go.wp_at_succ
attribute [-go_sem] loadVar storeVar

/-- what a body limits: where the rounds stand still -/
structure Lim (qs : List Qn) (f0 fs : List ByteArray) : Prop where
  it : ∃ k, fs = itQ qs k f0
  st : rndQ qs fs = fs
theorem Lim.one {qs : List Qn} {f0 fs fs' : List ByteArray} (h : Lim qs f0 fs) (h' : Lim qs f0 fs') : fs = fs' := by
  obtain ⟨⟨k, e⟩, hs⟩ := h
  obtain ⟨⟨k', e'⟩, hs'⟩ := h'
  rw [e] at hs ⊢
  rw [e'] at hs' ⊢
  exact itQ_one hs hs'
/-- the bounds of a body -/
structure SmB (d : Nat) (l : List XL) : Prop where
  ts : ∀ i, i < l.length → (atL l i).x.ts.length ≤ 1048576
  av : (avL l).length ≤ 1048576
  ln : l.length ≤ 1048576
  sz : ∀ i, i < l.length → szD d (atL l i).x.l ≤ 1048576 ∧ szD d (atL l i).x.r ≤ 1048576
  lo : (loneL (eqL d l)).length ≤ 4194304
theorem smallR.body {d : Nat} {r : R3} (h : smallR d r) : SmB d r.bd := by
  refine ⟨fun i hi => by rw [atL_eq hi]; exact (h.each _ (List.getElem_mem hi)).1, ?_, h.bd, fun i hi => ?_, ?_⟩
  · have h1 := h.terms
    have h2 := avL_lenC d r.bd
    unfold termsR at h1
    rw [List.length_append] at h1
    omega
  · rw [atL_eq hi]
    have := h.each _ (List.getElem_mem hi)
    exact ⟨this.2.1.2, this.2.2.2⟩
  · have h1 := loneL_len (eqL d r.bd)
    have h2 := eqL_len d r.bd
    have h3 := h.bd
    omega
end Go.Proofs.YteabclfhmapabaaDoor
end
section
namespace Go.Proofs.YteabclfhmapabaaDoor
open Go.RowKit Go.Maps
set_option linter.unusedVariables false
set_option linter.unusedSimpArgs false

/-- an equation gives this variable, these being found -/
def hitQ (fs : List ByteArray) (v : ByteArray) (q : Qn) : Bool := (decide (q.1.lone = some v) && q.2.vars.all (inB fs)) || (decide (q.2.lone = some v) && q.1.vars.all (inB fs))
def eqdB (qs : List Qn) (v : ByteArray) (fs : List ByteArray) : Bool := qs.any (hitQ fs v)
theorem gave_hit {fs : List ByteArray} {q : Qn} {v : ByteArray} (h : gaveO fs q = some v) : hitQ fs v q = true := by
  unfold gaveO at h
  unfold hitQ
  cases h1 : givesO q.1.lone q.2.vars fs with
  | some x =>
    rw [h1] at h
    injection h with h
    subst h
    obtain ⟨e1, _, e3⟩ := givesO_some h1
    rw [decide_eq_true e1, List.all_eq_true.2 (fun y hy => inB_iff.2 (e3 y hy))]
    rfl
  | none =>
    rw [h1] at h
    obtain ⟨e1, _, e3⟩ := givesO_some h
    rw [decide_eq_true e1, List.all_eq_true.2 (fun y hy => inB_iff.2 (e3 y hy)), Bool.or_eq_true]
    exact .inr rfl
theorem hit_gave {fs : List ByteArray} {q : Qn} {v : ByteArray} (hv : ¬ v ∈ fs) (h : hitQ fs v q = true) : gaveO fs q ≠ none := by
  unfold hitQ at h
  have hb : inB fs v = false := by rw [← Bool.not_eq_true]; exact fun e => hv (inB_iff.1 e)
  rw [Bool.or_eq_true, Bool.and_eq_true, Bool.and_eq_true, decide_eq_true_eq, decide_eq_true_eq] at h
  unfold gaveO
  rcases h with ⟨h1, h2⟩ | ⟨h1, h2⟩
  · have : givesO q.1.lone q.2.vars fs = some v := by unfold givesO; rw [h1]; simp only; rw [hb, h2]; rfl
    rw [this]
    simp
  · have : givesO q.2.lone q.1.vars fs = some v := by unfold givesO; rw [h1]; simp only; rw [hb, h2]; rfl
    cases givesO q.1.lone q.2.vars fs with
    | some x => simp
    | none => simp only; rw [this]; simp
theorem still_none : ∀ (qs : List Qn) (fs : List ByteArray), rndQ qs fs = fs → ∀ q ∈ qs, gaveO fs q = none
  | [], fs, _, q, hq => by cases hq
  | p :: qs, fs, h, q, hq => by
    have h' : rndQ qs (stepQ fs p) = fs := h
    have hp : gaveO fs p = none := by
      cases hg : gaveO fs p with
      | none => rfl
      | some v =>
        obtain ⟨m, hm⟩ := rndQ_grow qs (stepQ fs p)
        have e : stepQ fs p = fs ++ [v] := by unfold stepQ; rw [hg]
        rw [h', e] at hm
        have := congrArg List.length hm
        simp only [List.length_append, List.length_cons, List.length_nil] at this
        omega
    have e : stepQ fs p = fs := by unfold stepQ; rw [hp]
    rw [e] at h'
    rcases List.mem_cons.1 hq with rfl | hq
    · exact hp
    · exact still_none qs fs h' q hq
/-- no equation gives one more -/
theorem Lim.no {qs : List Qn} {f0 fs : List ByteArray} (h : Lim qs f0 fs) {v : ByteArray} (hv : ¬ v ∈ fs) : eqdB qs v fs = false := by
  unfold eqdB
  rw [← Bool.not_eq_true]
  intro ha
  obtain ⟨q, hq, hh⟩ := List.any_eq_true.1 ha
  exact hit_gave hv hh (still_none qs fs h.st q hq)
theorem itQ_grow (qs : List Qn) : ∀ (k : Nat) (fs : List ByteArray), ∃ more, itQ qs k fs = fs ++ more
  | 0, fs => ⟨[], by simp [itQ]⟩
  | k + 1, fs => by
    obtain ⟨m, hm⟩ := rndQ_grow qs fs
    obtain ⟨m2, hm2⟩ := itQ_grow qs k (rndQ qs fs)
    exact ⟨m ++ m2, by rw [itQ, hm2, hm, List.append_assoc]⟩
theorem itQ_nodup (qs : List Qn) : ∀ (k : Nat) (fs : List ByteArray), fs.Nodup → (itQ qs k fs).Nodup
  | 0, fs, h => h
  | k + 1, fs, h => itQ_nodup qs k _ (rndQ_nodup qs fs h)
theorem Lim.grow {qs : List Qn} {f0 fs : List ByteArray} (h : Lim qs f0 fs) : ∃ more, fs = f0 ++ more := by
  obtain ⟨⟨k, e⟩, _⟩ := h
  rw [e]
  exact itQ_grow qs k f0
theorem Lim.nodup {qs : List Qn} {f0 fs : List ByteArray} (h : Lim qs f0 fs) (hn : f0.Nodup) : fs.Nodup := by
  obtain ⟨⟨k, e⟩, _⟩ := h
  rw [e]
  exact itQ_nodup qs k f0 hn
theorem Lim.sub {qs : List Qn} {f0 fs : List ByteArray} (h : Lim qs f0 fs) : ∀ x ∈ f0, x ∈ fs := fun x hx => by
  obtain ⟨m, e⟩ := h.grow
  rw [e]
  exact List.mem_append.2 (.inl hx)
/-- each has its reason ahead -/
def Rea (qs : List Qn) (n : Nat) (fs : List ByteArray) : Prop := ∀ i, n ≤ i → i < fs.length → eqdB qs (atS fs i) (fs.take i) = true
theorem Rea.step {qs : List Qn} {n : Nat} {fs : List ByteArray} {q : Qn} (hq : q ∈ qs) (h : Rea qs n fs) : Rea qs n (stepQ fs q) := by
  unfold stepQ
  cases hg : gaveO fs q with
  | none => exact h
  | some v =>
    intro i hi hl
    simp only [List.length_append, List.length_cons, List.length_nil] at hl
    by_cases hlt : i < fs.length
    · have e1 : atS (fs ++ [v]) i = atS fs i := by rw [atS_eq hlt, atS_eq (by simp; omega), List.getElem_append_left hlt]
      have e2 : (fs ++ [v]).take i = fs.take i := by rw [List.take_append_of_le_length (by omega)]
      rw [e1, e2]
      exact h i hi hlt
    · obtain rfl : i = fs.length := by omega
      have e1 : atS (fs ++ [v]) fs.length = v := by rw [atS_eq (by simp)]; simp
      have e2 : (fs ++ [v]).take fs.length = fs := by simp
      rw [e1, e2]
      exact List.any_eq_true.2 ⟨q, hq, gave_hit hg⟩
theorem Rea.round {qs : List Qn} {n : Nat} : ∀ (ps : List Qn) (fs : List ByteArray), (∀ q ∈ ps, q ∈ qs) → Rea qs n fs → Rea qs n (rndQ ps fs)
  | [], fs, _, h => h
  | p :: ps, fs, hs, h => Rea.round ps (stepQ fs p) (fun q hq => hs q (List.mem_cons_of_mem _ hq)) (h.step (hs p List.mem_cons_self))
theorem Rea.it {qs : List Qn} {n : Nat} : ∀ (k : Nat) (fs : List ByteArray), Rea qs n fs → Rea qs n (itQ qs k fs)
  | 0, fs, h => h
  | k + 1, fs, h => Rea.it k _ (Rea.round qs fs (fun _ hq => hq) h)
theorem Lim.rea {qs : List Qn} {f0 fs : List ByteArray} (h : Lim qs f0 fs) : Rea qs f0.length fs := by
  obtain ⟨⟨k, e⟩, _⟩ := h
  rw [e]
  exact Rea.it k f0 (fun i h1 h2 => by omega)
theorem Lim.first {qs : List Qn} {f0 fs : List ByteArray} (h : Lim qs f0 fs) {i : Nat} (hi : i < fs.length) : atS fs i ∈ f0 ∨ eqdB qs (atS fs i) (fs.take i) = true := by
  by_cases hl : i < f0.length
  · left
    obtain ⟨m, e⟩ := h.grow
    rw [atS_eq hi]
    have : fs[i] = f0[i] := by simp only [e]; rw [List.getElem_append_left hl]
    rw [this]
    exact List.getElem_mem hl
  · exact .inr (h.rea i (by omega) hi)
theorem Lim.ahead {qs : List Qn} {f0 fs : List ByteArray} (h : Lim qs f0 fs) (hn : f0.Nodup) {i : Nat} (hi : i < fs.length) : inB (fs.take i) (atS fs i) = false := by
  rw [← Bool.not_eq_true]
  intro hb
  have hm := inB_iff.1 hb
  have hnd := h.nodup hn
  obtain ⟨j, hj, e⟩ := List.getElem_of_mem hm
  rw [List.length_take] at hj
  rw [List.getElem_take, atS_eq hi] at e
  exact List.pairwise_iff_getElem.1 hnd j i (by omega) hi (by omega) e
theorem hit_mono {fs fs' : List ByteArray} {v : ByteArray} {q : Qn} (hs : ∀ x ∈ fs, x ∈ fs') (h : hitQ fs v q = true) : hitQ fs' v q = true := by
  unfold hitQ at h ⊢
  have ha : ∀ l : List ByteArray, l.all (inB fs) = true → l.all (inB fs') = true := fun l hl => List.all_eq_true.2 (fun x hx => inB_iff.2 (hs x (inB_iff.1 (List.all_eq_true.1 hl x hx))))
  rw [Bool.or_eq_true, Bool.and_eq_true, Bool.and_eq_true] at h ⊢
  rcases h with ⟨h1, h2⟩ | ⟨h1, h2⟩
  · exact .inl ⟨h1, ha _ h2⟩
  · exact .inr ⟨h1, ha _ h2⟩
/-- more atoms and more equations limit no less -/
theorem Lim.mono {qs qs' : List Qn} {f0 f0' fs fs' : List ByteArray} (h : Lim qs f0 fs) (h' : Lim qs' f0' fs') (hq : ∀ q ∈ qs, q ∈ qs') (hf : ∀ x ∈ f0, x ∈ f0') : ∀ x ∈ fs, x ∈ fs' := by
  have key : ∀ i, i ≤ fs.length → ∀ x ∈ fs.take i, x ∈ fs' := by
    intro i
    induction i with
    | zero => intro _ x hx; simp at hx
    | succ i ih =>
      intro hi x hx
      have hlt : i < fs.length := by omega
      rw [takeS hlt] at hx
      rcases List.mem_append.1 hx with hx | hx
      · exact ih (by omega) x hx
      · rw [List.mem_singleton.1 hx]
        rcases h.first hlt with k | k
        · exact h'.sub _ (hf _ k)
        · cases hno' : inB fs' (atS fs i) with
          | true => exact inB_iff.1 hno'
          | false =>
          have hno : ¬ atS fs i ∈ fs' := fun e => by rw [inB_iff.2 e] at hno'; cases hno'
          obtain ⟨q, hqm, hh⟩ := List.any_eq_true.1 k
          have h2 := h'.no hno
          have : eqdB qs' (atS fs i) fs' = true := List.any_eq_true.2 ⟨q, hq q hqm, hit_mono (ih (by omega)) hh⟩
          rw [h2] at this
          cases this
  intro x hx
  exact key fs.length (Nat.le_refl _) x (by rw [List.take_length]; exact hx)
end Go.Proofs.YteabclfhmapabaaDoor
end
section
namespace Go.Proofs.YteabclfhmapabaaDoor
open Go.RowKit Go.Maps Go.Shelf
set_option linter.unusedVariables false
set_option linter.unusedSimpArgs false
attribute [local go_sem ↓] Go.wp_at_zero Go.wp_at_succ
attribute [-go_sem] loadVar Builtin.append_ Instr.buildSlice

theorem GtS.start {w w1 : World} {d : Nat} {l : List XL} {v : Value} {tb kb : Nat} {ss : List ByteArray} {left : Nat} {t : St} {b : Bool} {ta : Option Addr} {tc : Nat} {G : List St → Prop} {b6 : Nat} (hb : Below w.heap.size w w1) (hT : TuIs w tb kb v ss left) (hl : left < 2 ^ l.length) (hn : l.length ≤ 16) (hbx : RL w1 b6 40 [.int .i8 t.k, .int .i64 t.i, .int .u32 t.m, .slice ta t.g.length tc]) (ho : w1.ownsRow w.heap.size 9 1 (.slice ta t.g.length tc) t.g.length (t.g.flatMap strB)) (hf : FitM d ss l left (t, b)) (hG : ∀ ys, Gt d l ss left (t, b) ys → G ys) : GtS w d l v tb kb b6 G w1 [] none 0 ss left t b ta tc :=
  ⟨⟨RL.below hT.rl hb, hT.set.of_block (hb.block kb hT.set.lt), hT.ne⟩, hl, hbx, ho, World.ownsRow_nil _ _ _ _, fun y hy => absurd hy (by simp), Px.of_below hb, hf, hG, by
    have : (2 : Nat) ^ l.length ≤ 65536 := Nat.le_trans (Nat.pow_le_pow_right (by omega) hn) (by decide)
    simp only [List.length_nil]
    omega⟩
/-- behind the append -/
structure GtU (w : World) (tb kb b6 : Nat) (v : Value) (ss : List ByteArray) (left : Nat) (u : World) (xs : List SX) (bx : List Value) : Prop where
  tu : TuIs u tb kb v ss left
  box : RL u b6 40 bx
  giv : ∀ y ∈ xs, u.ownsRow w.heap.size 9 1 (.slice y.a y.s.g.length y.c) y.s.g.length (y.s.g.flatMap strB)
  px : Px tb kb w u
theorem gt_pushed {w : World} {tb kb b6 : Nat} {v : Value} {ss : List ByteArray} {left : Nat} {u1 u2 V : World} {xs : List SX} {oa : Option Addr} {oc : Nat} {t : St} {ta : Option Addr} {tc : Nat} (hn : GtN w tb kb b6)
    (hbx : RL u1 b6 40 [.int .i8 t.k, .int .i64 t.i, .int .u32 t.m, .slice ta t.g.length tc]) (how : u1.ownsRow w.heap.size 9 1 (.slice ta t.g.length tc) t.g.length (t.g.flatMap strB)) (hou : u1.ownsRow (b6 + 1) 40 4 (.slice oa xs.length oc) xs.length (xs.flatMap SX.cells)) (hgi : ∀ y ∈ xs, u1.ownsRow w.heap.size 9 1 (.slice y.a y.s.g.length y.c) y.s.g.length (y.s.g.flatMap strB)) (hpw : Px tb kb w u1) (htu : TuIs u1 tb kb v ss left)
    (hV : Below u1.heap.size u1 V) (hg : V.grownBy u2 ((.slice oa xs.length oc : Value).ownBlock)) : GtU w tb kb b6 v ss left u2 (xs ++ [⟨t, ta, tc⟩]) [.int .i8 t.k, .int .i64 t.i, .int .u32 t.m, .slice ta t.g.length tc] := by
  have e1 := hn.t
  have e2 := hn.k
  have e3 := hn.b
  have hou' := own_below hou hV
  have hr : ∀ g, (.slice oa xs.length oc : Value).ownBlock = some g → b6 + 1 ≤ g := fun g hg' => (hou.lt g hg').1
  have hlow : ∀ b, b < u1.heap.size → b ≤ b6 → u2.heap[b]? = u1.heap[b]? := fun b hb hb6 => (hg.block b (Nat.lt_of_lt_of_le hb hV.size) (fun e => by have := hr b e.symm; omega)).trans (hV.block b hb)
  have hstr : ∀ {v' : Value} {n : Nat} {ys : List Value}, u1.ownsRow w.heap.size 9 1 v' n ys → u2.ownsRow w.heap.size 9 1 v' n ys := fun {v' n ys} h => by
    refine own_of_block h (fun g hg' => ?_)
    have hlt := (h.lt g hg').2
    refine (hg.block g (Nat.lt_of_lt_of_le hlt hV.size) (fun e => ?_)).trans (hV.block g hlt)
    obtain ⟨cs, hcs⟩ := own_block hou (g := g) e.symm
    exact own_ne h hcs (by decide) g hg' rfl
  refine ⟨⟨World.rowIs.of_block htu.rl (hlow tb htu.rl.lt (by omega)), htu.set.of_block (hlow kb htu.set.lt (by omega)), htu.ne⟩, World.rowIs.of_block hbx (hlow b6 hbx.lt (Nat.le_refl _)), fun y hy => ?_, ?_⟩
  · rcases List.mem_append.1 hy with h | h
    · exact hstr (hgi y h)
    · obtain rfl := List.mem_singleton.1 h
      exact hstr how
  · have hs : w.heap.size ≤ u1.heap.size := hpw.size
    refine ⟨(hg.os.trans hV.os).trans hpw.os, (hg.tape.trans hV.tape).trans hpw.tape, (hg.output.trans hV.output).trans hpw.output, Nat.le_trans hs (Nat.le_trans hV.size hg.size), fun b hb h1 h2 => ?_⟩
    exact (hlow b (by omega) (by omega)).trans (hpw.block b hb h1 h2)
theorem gt_len {xs : List SX} {left left' : Nat} (x : SX) (h : xs.length + left ≤ 65536) (hl : left' < left) : (xs ++ [x]).length + left' ≤ 65536 := by
  rw [List.length_append, List.length_singleton]
  omega
theorem gt_more {d : Nat} {l : List XL} {ss : List ByteArray} {left k : Nat} {t : St} {G : List St → Prop} {xs : List SX} {ta : Option Addr} {tc : Nat} {c : St × Bool} (hk : t.i = (k : Int)) (hgt : ∀ ys, Gt d l ss left (t, true) ys → G (xs.map SX.s ++ ys)) (hc : c = nextM d (ss ++ t.g) l (clrN left k)) : ∀ ys, Gt d l (ss ++ t.g) (clrN left k) c ys → G ((xs ++ [SX.mk t ta tc]).map SX.s ++ ys) := by
  intro ys hy
  have h0 : Gt d l (ss ++ t.g) (clrN left t.i.toNat) (nextM d (ss ++ t.g) l (clrN left t.i.toNat)) ys := by
    rw [hk, Int.toNat_natCast, ← hc]
    exact hy
  have h1 := hgt _ (Gt.more ss left t ys h0)
  rw [List.map_append, List.append_assoc]
  exact h1
theorem gt_next {w : World} {d : Nat} {l : List XL} {tb kb b6 : Nat} {v : Value} {ss : List ByteArray} {left : Nat} {u2 u3 : World} {xs : List SX} {n : St} {nb : Bool} {a3 : Option Addr} {c3 : Nat} {oa : Option Addr} {oc : Nat} {G : List St → Prop} {x0 x1 x2 x3 : Value} (hn : GtN w tb kb b6) (hu : GtU w tb kb b6 v ss left u2 xs [x0, x1, x2, x3]) (ho : u2.ownsRow (b6 + 1) 40 4 (.slice oa xs.length oc) xs.length (xs.flatMap SX.cells)) (hl : left < 2 ^ l.length) (hf : FitM d ss l left (n, nb)) (hb : Below u2.heap.size u2 u3) (h3 : u3.ownsRow u2.heap.size 9 1 (.slice a3 n.g.length c3) n.g.length (n.g.flatMap strB)) (hG : ∀ ys, Gt d l ss left (n, nb) ys → G (xs.map SX.s ++ ys)) (hlen : xs.length + left ≤ 65536) :
    GtS w d l v tb kb b6 G (st4 u3 b6 n.k n.i n.m (.slice a3 n.g.length c3)) xs oa oc ss left n nb a3 c3 := by
  have e1 := hn.t
  have e2 := hn.k
  have e3 := hn.b
  have hlt := hu.box.lt
  have hbx := RL.below hu.box hb
  have hs3 : w.heap.size ≤ u2.heap.size := hu.px.size
  refine ⟨⟨World.rowIs.of_block (RL.below hu.tu.rl hb) (st4_block _ _ _ _ _ _ (by omega)), (hu.tu.set.of_block (hb.block kb hu.tu.set.lt)).of_block (st4_block _ _ _ _ _ _ (by omega)), hu.tu.ne⟩, hl, st4_rl hbx _ _ _ _, own_base (own_st5 h3 b6 hlt _ _ _ _) hs3, own_of_block (own_below ho hb) (fun g hg => st4_block _ _ _ _ _ _ (by have := (ho.lt g hg).1; omega)), fun y hy => ?_, ?_, hf, hG, hlen⟩
  · have h1 := own_below (hu.giv y hy) hb
    obtain ⟨cs, hcs, _⟩ := hbx
    exact own_of_block h1 (fun g hg => st4_block _ _ _ _ _ _ (own_ne h1 hcs (by decide) g hg))
  · have hp : Px tb kb w u3 := hu.px.trans (Px.of_below hb)
    have hz : (st4 u3 b6 n.k n.i n.m (.slice a3 n.g.length c3)).heap.size = u3.heap.size := by simp [st4, World.setCell]
    refine ⟨hp.os, hp.tape, hp.output, by rw [hz]; exact hp.size, fun b hb' h1 h2 => ?_⟩
    rw [st4_block _ _ _ _ _ _ (by omega)]
    exact hp.block b hb' h1 h2
set_option maxRecDepth 100000 in
set_option maxHeartbeats 1600000 in
theorem goThrough_any {w : World} {tb kb d : Nat} {v : Value} {ss : List ByteArray} {left : Nat} {l : List XL} (hT : TuIs w tb kb v ss left) (hL : ∀ u, Px tb kb w u → Lb u v d l) (hB : BdR d l) (hl : left < 2 ^ l.length) (hD : ∀ u, Px tb kb w u → DT u) (hS : ∀ x ∈ l, ∀ k ss, ∀ y ∈ (stM d ss x.x k).g, y.size ≤ maxLen) (first : Int) (hf : first = -1 ∨ hasB left first = true) :
    Calls Tryd.prog 15 #[.pointer (some ⟨tb, 0, none⟩), .int .i64 first] w fun e w' => Px tb kb w w' ∧ ∃ (xs : List SX) (a : Option Addr) (c : Nat), e = .returned (.slice a xs.length c) ∧ Gt d l ss left (firstM d ss l left first) (xs.map SX.s) ∧ w'.ownsRow w.heap.size 40 4 (.slice a xs.length c) xs.length (xs.flatMap SX.cells) ∧ ∀ y ∈ xs, w'.ownsRow w.heap.size 9 1 (.slice y.a y.s.g.length y.c) y.s.g.length (y.s.g.flatMap strB) := by
  have P0 : Px tb kb w w := Px.of_below (Below.refl _ _)
  have HT := Lib.hid hT
  have HL := Lib.hid hL
  have HB := Lib.hid hB
  have HLT := Lib.hid hl
  have HDT := Lib.hid hD
  have HZ := Lib.hid hS
  have HF := Lib.hid hf
  have HNX := Lib.hid (next_any hT (hL _ P0) hB hl (hD _ P0))
  clear hT hL hB hl hD hS hf P0
  go_enter Tryd.func15, Tryd.ntmps15
  go_wp2_with fail
  refine HNX.out.mono ?_
  rintro e w1 ⟨b1, a1, c1, rfl, hown⟩
  have HQ := Lib.hid (nextM_fit d ss l left)
  obtain ⟨nx, hnx⟩ : ∃ nx, nx = nextM d ss l left := ⟨_, rfl⟩
  rw [← hnx] at HQ hown ⊢
  have HNE := Lib.hid hnx
  clear hnx HNX
  obtain ⟨⟨tk, ti, tm, tg⟩, tf⟩ := nx
  unfold St.val
  simp only at hown ⊢
  have HB1 := Lib.hid b1
  have HO1 := Lib.hid hown
  have HRB := Lib.hid (rl_new w1 #[.int .i8 tk, .int .i64 ti, .int .u32 tm, .slice a1 tg.length c1] 40)
  have HBV : Hid (Below w1.heap.size w1 (w1.alloc (.cells #[.int .i8 tk, .int .i64 ti, .int .u32 tm, .slice a1 tg.length c1] 40))) := belowA _
  clear b1 hown
  by_cases hfi : first = -1
  · have dfi : (first != -1) = false := by rw [hfi]; rfl
    have HFM : Hid (firstM d ss l left first = (⟨tk, ti, tm, tg⟩, tf)) := by
      show _ = _
      unfold firstM
      rw [if_pos hfi, HNE.out]
    have HGS : Hid (GtS w d l v tb kb w1.heap.size (Gt d l ss left (firstM d ss l left first)) (w1.alloc (.cells #[.int .i8 tk, .int .i64 ti, .int .u32 tm, .slice a1 tg.length c1] 40)) [] none 0 ss left ⟨tk, ti, tm, tg⟩ tf a1 c1) := GtS.start (HB1.out.trans (HBV.out.mono HB1.out.size)) HT.out HLT.out HB.out.bn HRB.out (own_below HO1.out HBV.out) HQ.out (fun ys hy => by rw [HFM.out]; exact hy)
    have HN : Hid (GtN w tb kb w1.heap.size) := ⟨HT.out.rl.lt, HT.out.set.lt, HB1.out.size⟩
    clear hfi HRB HBV HO1
    go_wp2
    go_loopw [5, 7] (fun o ok wr => ∃ (xs : List SX) (oa : Option Addr) (oc : Nat) (ss' : List ByteArray) (left' : Nat) (t : St) (b : Bool) (ta : Option Addr) (tc : Nat), o = .slice oa xs.length oc ∧ ok = .bool b ∧ Hid (GtS w d l v tb kb w1.heap.size (Gt d l ss left (firstM d ss l left first)) wr xs oa oc ss' left' t b ta tc)) (fun _ _ wr => leftOf tb wr)
    case atStart => exact ⟨[], none, 0, ss, left, _, _, _, _, rfl, rfl, HGS⟩
    case round =>
      clear HGS
      obtain ⟨xs, oa, oc, ss', left', t, b, ta, tc, rfl, rfl, HS⟩ := hrel
      cases b
      · go_wp2
        go_ret
        have hs := HS.out
        have hG := hs.gt [] (Gt.done _ _ _)
        rw [List.append_nil] at hG
        exact ⟨hs.px, xs, oa, oc, rfl, hG, own_base hs.out (Nat.le_trans HN.out.b (Nat.le_succ _)), hs.giv⟩
      · obtain ⟨hbt, htq⟩ := HS.out.fit rfl
        obtain ⟨h0, hi⟩ := hasB_lt HS.out.lt hbt
        obtain ⟨tk', ti', tm', tg'⟩ := t
        simp only at hbt htq h0 hi
        obtain ⟨k', rfl⟩ : ∃ k' : Nat, ti' = (k' : Int) := ⟨ti'.toNat, by omega⟩
        rw [Int.toNat_natCast] at hi htq
        have HTQ := Lib.hid htq
        have HBT : Hid (left'.testBit k' = true) := by
          unfold hasB at hbt
          simp only [Bool.and_eq_true, decide_eq_true_eq, Int.toNat_natCast] at hbt
          exact hbt.2
        have hbn := HB.out.bn
        have h32 : left' < 4294967296 := Nat.lt_of_lt_of_le HS.out.lt (Nat.le_trans (Nat.pow_le_pow_right (by omega) hbn) (by decide))
        have l6 := load_StP HS.out.box
        have HNW : NewL ss' tg' := by
          have := stM_new d ss' (atL l k').x k'
          rw [show stM d ss' (atL l k').x k' = stL d ss' l k' from rfl, ← htq] at this
          exact this
        have HSZ : ∀ y ∈ tg', y.size ≤ maxLen := by
          have := HZ.out (atL l k') (by rw [atL_eq hi]; exact List.getElem_mem hi) k' ss'
          rw [show stM d ss' (atL l k').x k' = stL d ss' l k' from rfl, ← htq] at this
          exact this
        have HGL : tg'.length ≤ 1048576 := by
          have := stM_glen d ss' (atL l k').x k' (HB.out.bc k' hi) (HB.out.bl k' hi) (HB.out.br k' hi)
          rw [show stM d ss' (atL l k').x k' = stL d ss' l k' from rfl, ← htq] at this
          exact this
        have HTA := Lib.hid (take_any (B := w.heap.size) HS.out.tu ⟨tk', (k' : Int), tm', tg'⟩ (a := ta) (c := tc) (k := k') rfl (by omega) h32 HS.out.own HN.out.t HN.out.k (szAt HSZ) HNW HGL)
        unfold St.val at HTA
        simp only at HTA
        have HCL : Hid (clrN left' k' < left') := clrN_lt (by omega) HBT.out
        have hxl : xs.length ≤ 65536 := by have := HS.out.len; omega
        clear hbt htq h0 hi HNW HSZ HGL h32
        go_wp2_with fail
        refine HTA.out.mono ?_
        rintro e u1 ⟨⟨y, rfl⟩, htu, hpx⟩
        obtain ⟨hbx, how, hou, hgi, hpw⟩ := HS.out.taken HN.out hpx
        have l7 := load_StP hbx
        have hsl := sliceStep tk' (k' : Int) tm' ta tg'.length tc u1
        have HLE : Hid (leftOf tb wr = left') := leftOf_is HS.out.tu
        obtain ⟨a6, c6, u2, hap, how2, hgr⟩ := step_push ⟨⟨tk', (k' : Int), tm', tg'⟩, ta, tc⟩ hou (by have := hbx.lt; omega) (by omega)
        have HAL := Lib.hid (belowA (w := u1) (.cells #[.int .i8 tk', .int .i64 (k' : Int), .int .u32 tm', .slice ta tg'.length tc] 40))
        have HU := Lib.hid (gt_pushed HN.out hbx how hou hgi hpw htu HAL.out hgr)
        have HO2 := Lib.hid how2
        have HGT := Lib.hid HS.out.gt
        have HLN := Lib.hid HS.out.len
        have HLL : Hid (clrN left' k' < 2 ^ l.length) := Nat.lt_trans HCL.out HS.out.lt
        clear HTA l6 how hou hgi hpw htu hpx hbx how2 hgr HS
        simp only at hap
        have HNY := Lib.hid (next_any HU.out.tu (HL.out _ HU.out.px) HB.out HLL.out (HDT.out _ HU.out.px))
        have HFT := Lib.hid (nextM_fit d (ss' ++ tg') l (clrN left' k'))
        obtain ⟨ny, hny⟩ : ∃ ny, ny = nextM d (ss' ++ tg') l (clrN left' k') := ⟨_, rfl⟩
        rw [← hny] at HFT HNY
        have HNYE := Lib.hid hny
        clear hny
        obtain ⟨⟨nk, ni, nm, ng⟩, nb⟩ := ny
        unfold St.val at HNY
        simp only at HNY
        go_wp2_with fail
        refine HNY.out.mono ?_
        rintro e u3 ⟨b3, a3, c3, rfl, hown3⟩
        have HBX3 := Lib.hid (RL.below HU.out.box b3)
        have z0 := RL.at HBX3.out (j := 0) rfl
        have z1 := RL.at HBX3.out (j := 1) rfl
        have z2 := RL.at HBX3.out (j := 2) rfl
        have z3 := RL.at HBX3.out (j := 3) rfl
        have y0 := World.rowIs.frozen HBX3.out 0
        have y1 := World.rowIs.frozen HBX3.out 1
        have y2 := World.rowIs.frozen HBX3.out 2
        have y3 := World.rowIs.frozen HBX3.out 3
        have HGM := Lib.hid (gt_more (ta := ta) (tc := tc) (t := ⟨tk', (k' : Int), tm', tg'⟩) (k := k') rfl HGT.out HNYE.out)
        have HLM : Hid ((xs ++ [SX.mk ⟨tk', (k' : Int), tm', tg'⟩ ta tc]).length + clrN left' k' ≤ 65536) := gt_len _ HLN.out HCL.out
        have hns : (GtS w d l v tb kb w1.heap.size (Gt d l ss left (firstM d ss l left first)) (st4 u3 w1.heap.size nk ni nm (.slice a3 ng.length c3)) (xs ++ [⟨⟨tk', (k' : Int), tm', tg'⟩, ta, tc⟩]) a6 c6 (ss' ++ tg') (clrN left' k') ⟨nk, ni, nm, ng⟩ nb a3 c3) :=
          gt_next (n := ⟨nk, ni, nm, ng⟩) (nb := nb) (xs := xs ++ [⟨⟨tk', (k' : Int), tm', tg'⟩, ta, tc⟩]) (left := clrN left' k') (ss := ss' ++ tg') HN.out HU.out HO2.out HLL.out HFT.out b3 hown3 HGM.out HLM.out
        have HNS := Lib.hid hns
        clear hns
        have HML : Hid (leftOf tb (st4 u3 w1.heap.size nk ni nm (.slice a3 ng.length c3)) < left') := by
          show _ < _
          rw [leftOf_is HNS.out.tu]
          exact HCL.out
        unfold st4 at HNS HML
        clear HNY b3 hown3 HBX3 HU HO2 HGT HLN HLL HFT hap hsl l7
        go_wp2
        go_roundw
        case rel => exact ⟨_, a6, c6, ss' ++ tg', clrN left' k', ⟨nk, ni, nm, ng⟩, nb, a3, c3, by rw [List.length_append]; rfl, rfl, HNS⟩
        case measure =>
          have h1 := HML.out
          have h2 := HLE.out
          rw [h2]
          exact h1
  · have dfi : (first != -1) = true := by rw [bne_iff_ne]; exact hfi
    have hfb : hasB left first = true := by
      rcases HF.out with h | h
      · exact absurd h hfi
      · exact h
    obtain ⟨h0, hi⟩ := hasB_lt HLT.out hfb
    obtain ⟨k, rfl⟩ : ∃ k : Nat, first = (k : Int) := ⟨first.toNat, by omega⟩
    rw [Int.toNat_natCast] at hi
    have HP1 : Hid (Px tb kb w (w1.alloc (.cells #[.int .i8 tk, .int .i64 ti, .int .u32 tm, .slice a1 tg.length c1] 40))) := Px.of_below (HB1.out.trans (HBV.out.mono HB1.out.size))
    have HT1 : Hid (TuIs (w1.alloc (.cells #[.int .i8 tk, .int .i64 ti, .int .u32 tm, .slice a1 tg.length c1] 40)) tb kb v ss left) := by
      have hb := HB1.out.trans (HBV.out.mono HB1.out.size)
      exact ⟨RL.below HT.out.rl hb, HT.out.set.of_block (hb.block kb HT.out.set.lt), HT.out.ne⟩
    have HST := Lib.hid (step_any HT1.out (HL.out _ HP1.out) hi HB.out.bn (HB.out.bc k hi) (HB.out.bl k hi) (HB.out.br k hi))
    have HFM : Hid (firstM d ss l left (k : Int) = (stL d ss l k, (stL d ss l k).k != 0)) := by
      show _ = _
      unfold firstM
      rw [if_neg hfi, Int.toNat_natCast]
    have HQ2 := Lib.hid (firstM_fit d ss l left (k : Int) (.inr hfb))
    clear hfi hfb h0 hi HF
    rw [HFM.out] at HQ2
    obtain ⟨t2, ht2⟩ : ∃ t2, t2 = stL d ss l k := ⟨_, rfl⟩
    rw [← ht2] at HST HFM HQ2
    clear ht2
    obtain ⟨tk2, ti2, tm2, tg2⟩ := t2
    unfold St.val at HST
    simp only at HST HFM HQ2
    go_wp2_with fail
    refine HST.out.mono ?_
    rintro e w2 ⟨b2, a2, c2, rfl, hown2⟩
    have HRX := Lib.hid (RL.below HRB.out b2)
    have HBW : Hid (Below w.heap.size w w2) := (HB1.out.trans (HBV.out.mono HB1.out.size)).trans (b2.mono (Nat.le_trans HB1.out.size HBV.out.size))
    have z0 := RL.at HRX.out (j := 0) rfl
    have z1 := RL.at HRX.out (j := 1) rfl
    have z2 := RL.at HRX.out (j := 2) rfl
    have z3 := RL.at HRX.out (j := 3) rfl
    have y0 := World.rowIs.frozen HRX.out 0
    have y1 := World.rowIs.frozen HRX.out 1
    have y2 := World.rowIs.frozen HRX.out 2
    have y3 := World.rowIs.frozen HRX.out 3
    have hlt6 : w1.heap.size < (w1.alloc (.cells #[.int .i8 tk, .int .i64 ti, .int .u32 tm, .slice a1 tg.length c1] 40)).heap.size := by simp
    have HGS : Hid (GtS w d l v tb kb w1.heap.size (Gt d l ss left (firstM d ss l left (k : Int))) (st4 w2 w1.heap.size tk2 ti2 tm2 (.slice a2 tg2.length c2)) [] none 0 ss left ⟨tk2, ti2, tm2, tg2⟩ (tk2 != 0) a2 c2) := GtS.start (st4_below HBW.out HB1.out.size _ _ _ _) HT.out HLT.out HB.out.bn (st4_rl HRX.out _ _ _ _) (own_base (own_st5 hown2 _ hlt6 _ _ _ _) (Nat.le_trans HB1.out.size HBV.out.size)) HQ2.out (fun ys hy => by rw [HFM.out]; exact hy)
    have HN : Hid (GtN w tb kb w1.heap.size) := ⟨HT.out.rl.lt, HT.out.set.lt, HB1.out.size⟩
    unfold st4 at HGS
    clear HST b2 hown2 HRX hlt6 HRB HBV HO1
    go_wp2
    clear z0 z1 z2 z3 y0 y1 y2 y3
    go_loopw [5, 7] (fun o ok wr => ∃ (xs : List SX) (oa : Option Addr) (oc : Nat) (ss' : List ByteArray) (left' : Nat) (t : St) (b : Bool) (ta : Option Addr) (tc : Nat), o = .slice oa xs.length oc ∧ ok = .bool b ∧ Hid (GtS w d l v tb kb w1.heap.size (Gt d l ss left (firstM d ss l left (k : Int))) wr xs oa oc ss' left' t b ta tc)) (fun _ _ wr => leftOf tb wr)
    case atStart => exact ⟨[], none, 0, ss, left, _, _, _, _, rfl, rfl, HGS⟩
    case round =>
      clear HGS
      obtain ⟨xs, oa, oc, ss', left', t, b, ta, tc, rfl, rfl, HS⟩ := hrel
      cases b
      · go_wp2
        go_ret
        have hs := HS.out
        have hG := hs.gt [] (Gt.done _ _ _)
        rw [List.append_nil] at hG
        exact ⟨hs.px, xs, oa, oc, rfl, hG, own_base hs.out (Nat.le_trans HN.out.b (Nat.le_succ _)), hs.giv⟩
      · obtain ⟨hbt, htq⟩ := HS.out.fit rfl
        obtain ⟨h0, hi⟩ := hasB_lt HS.out.lt hbt
        obtain ⟨tk', ti', tm', tg'⟩ := t
        simp only at hbt htq h0 hi
        obtain ⟨k', rfl⟩ : ∃ k' : Nat, ti' = (k' : Int) := ⟨ti'.toNat, by omega⟩
        rw [Int.toNat_natCast] at hi htq
        have HTQ := Lib.hid htq
        have HBT : Hid (left'.testBit k' = true) := by
          unfold hasB at hbt
          simp only [Bool.and_eq_true, decide_eq_true_eq, Int.toNat_natCast] at hbt
          exact hbt.2
        have hbn := HB.out.bn
        have h32 : left' < 4294967296 := Nat.lt_of_lt_of_le HS.out.lt (Nat.le_trans (Nat.pow_le_pow_right (by omega) hbn) (by decide))
        have l6 := load_StP HS.out.box
        have HNW : NewL ss' tg' := by
          have := stM_new d ss' (atL l k').x k'
          rw [show stM d ss' (atL l k').x k' = stL d ss' l k' from rfl, ← htq] at this
          exact this
        have HSZ : ∀ y ∈ tg', y.size ≤ maxLen := by
          have := HZ.out (atL l k') (by rw [atL_eq hi]; exact List.getElem_mem hi) k' ss'
          rw [show stM d ss' (atL l k').x k' = stL d ss' l k' from rfl, ← htq] at this
          exact this
        have HGL : tg'.length ≤ 1048576 := by
          have := stM_glen d ss' (atL l k').x k' (HB.out.bc k' hi) (HB.out.bl k' hi) (HB.out.br k' hi)
          rw [show stM d ss' (atL l k').x k' = stL d ss' l k' from rfl, ← htq] at this
          exact this
        have HTA := Lib.hid (take_any (B := w.heap.size) HS.out.tu ⟨tk', (k' : Int), tm', tg'⟩ (a := ta) (c := tc) (k := k') rfl (by omega) h32 HS.out.own HN.out.t HN.out.k (szAt HSZ) HNW HGL)
        unfold St.val at HTA
        simp only at HTA
        have HCL : Hid (clrN left' k' < left') := clrN_lt (by omega) HBT.out
        have hxl : xs.length ≤ 65536 := by have := HS.out.len; omega
        clear hbt htq h0 hi HNW HSZ HGL h32
        go_wp2_with fail
        refine HTA.out.mono ?_
        rintro e u1 ⟨⟨y, rfl⟩, htu, hpx⟩
        obtain ⟨hbx, how, hou, hgi, hpw⟩ := HS.out.taken HN.out hpx
        have l7 := load_StP hbx
        have hsl := sliceStep tk' (k' : Int) tm' ta tg'.length tc u1
        have HLE : Hid (leftOf tb wr = left') := leftOf_is HS.out.tu
        obtain ⟨a6, c6, u2, hap, how2, hgr⟩ := step_push ⟨⟨tk', (k' : Int), tm', tg'⟩, ta, tc⟩ hou (by have := hbx.lt; omega) (by omega)
        have HAL := Lib.hid (belowA (w := u1) (.cells #[.int .i8 tk', .int .i64 (k' : Int), .int .u32 tm', .slice ta tg'.length tc] 40))
        have HU := Lib.hid (gt_pushed HN.out hbx how hou hgi hpw htu HAL.out hgr)
        have HO2 := Lib.hid how2
        have HGT := Lib.hid HS.out.gt
        have HLN := Lib.hid HS.out.len
        have HLL : Hid (clrN left' k' < 2 ^ l.length) := Nat.lt_trans HCL.out HS.out.lt
        clear HTA l6 how hou hgi hpw htu hpx hbx how2 hgr HS
        simp only at hap
        have HNY := Lib.hid (next_any HU.out.tu (HL.out _ HU.out.px) HB.out HLL.out (HDT.out _ HU.out.px))
        have HFT := Lib.hid (nextM_fit d (ss' ++ tg') l (clrN left' k'))
        obtain ⟨ny, hny⟩ : ∃ ny, ny = nextM d (ss' ++ tg') l (clrN left' k') := ⟨_, rfl⟩
        rw [← hny] at HFT HNY
        have HNYE := Lib.hid hny
        clear hny
        obtain ⟨⟨nk, ni, nm, ng⟩, nb⟩ := ny
        unfold St.val at HNY
        simp only at HNY
        go_wp2_with fail
        refine HNY.out.mono ?_
        rintro e u3 ⟨b3, a3, c3, rfl, hown3⟩
        have HBX3 := Lib.hid (RL.below HU.out.box b3)
        have z0 := RL.at HBX3.out (j := 0) rfl
        have z1 := RL.at HBX3.out (j := 1) rfl
        have z2 := RL.at HBX3.out (j := 2) rfl
        have z3 := RL.at HBX3.out (j := 3) rfl
        have y0 := World.rowIs.frozen HBX3.out 0
        have y1 := World.rowIs.frozen HBX3.out 1
        have y2 := World.rowIs.frozen HBX3.out 2
        have y3 := World.rowIs.frozen HBX3.out 3
        have HGM := Lib.hid (gt_more (ta := ta) (tc := tc) (t := ⟨tk', (k' : Int), tm', tg'⟩) (k := k') rfl HGT.out HNYE.out)
        have HLM : Hid ((xs ++ [SX.mk ⟨tk', (k' : Int), tm', tg'⟩ ta tc]).length + clrN left' k' ≤ 65536) := gt_len _ HLN.out HCL.out
        have hns : (GtS w d l v tb kb w1.heap.size (Gt d l ss left (firstM d ss l left (k : Int))) (st4 u3 w1.heap.size nk ni nm (.slice a3 ng.length c3)) (xs ++ [⟨⟨tk', (k' : Int), tm', tg'⟩, ta, tc⟩]) a6 c6 (ss' ++ tg') (clrN left' k') ⟨nk, ni, nm, ng⟩ nb a3 c3) :=
          gt_next (n := ⟨nk, ni, nm, ng⟩) (nb := nb) (xs := xs ++ [⟨⟨tk', (k' : Int), tm', tg'⟩, ta, tc⟩]) (left := clrN left' k') (ss := ss' ++ tg') HN.out HU.out HO2.out HLL.out HFT.out b3 hown3 HGM.out HLM.out
        have HNS := Lib.hid hns
        clear hns
        have HML : Hid (leftOf tb (st4 u3 w1.heap.size nk ni nm (.slice a3 ng.length c3)) < left') := by
          show _ < _
          rw [leftOf_is HNS.out.tu]
          exact HCL.out
        unfold st4 at HNS HML
        clear HNY b3 hown3 HBX3 HU HO2 HGT HLN HLL HFT hap hsl l7
        go_wp2
        go_roundw
        case rel => exact ⟨_, a6, c6, ss' ++ tg', clrN left' k', ⟨nk, ni, nm, ng⟩, nb, a3, c3, by rw [List.length_append]; rfl, rfl, HNS⟩
        case measure =>
          have h1 := HML.out
          have h2 := HLE.out
          rw [h2]
          exact h1
end Go.Proofs.YteabclfhmapabaaDoor
end
