import Derived.Test.YtgfnijhhhgjabaaGreatDoorG4
import Derived.Test.YtgfnijhhhgjabaaGreatDoorG42
import Derived.Test.YtgfnijhhhgjabaaGreatDoorG38
import Derived.Maps.RangeRun
section
namespace Go.Proofs.YtgfnijhhhgjabaaGreatDoor
open Go.RowKit Go.Maps
set_option linter.unusedVariables false
set_option linter.unusedSimpArgs false

/-! the mathematics of predicates (P7.5): names and numbers of columns -/
/-- a name and its number of columns -/
structure Pd where
  n : ByteArray
  a : Nat
def Pd.cells (p : Pd) : List Value := [.string p.n, .int .i64 (p.a : Int)]
def Pd0 : Pd := ⟨noS, 0⟩
def atPd (l : List Pd) (i : Nat) : Pd := l.getD i Pd0
theorem atPd_eq {l : List Pd} {i : Nat} (h : i < l.length) : atPd l i = l[i] := by simp [atPd, List.getD, List.getElem?_eq_getElem h]
theorem takePd {l : List Pd} {k : Nat} (h : k < l.length) : l.take (k + 1) = l.take k ++ [atPd l k] := by rw [List.take_add_one, List.getElem?_eq_getElem h, atPd_eq h]; rfl
theorem ltL_irr : ∀ l : List UInt8, Op.bytesLess l l = false
  | [] => rfl
  | a :: l => by
    simp only [Op.bytesLess, ltL_irr l]
    simp
theorem ltL_trans : ∀ a b c : List UInt8, Op.bytesLess a b = true → Op.bytesLess b c = true → Op.bytesLess a c = true
  | _, [], _, h, _ => by simp [Op.bytesLess] at h
  | _, _ :: _, [], _, h => by simp [Op.bytesLess] at h
  | [], _ :: _, _ :: _, _, _ => by simp [Op.bytesLess]
  | x :: a, y :: b, z :: c, h1, h2 => by
    simp only [Op.bytesLess, Bool.or_eq_true, Bool.and_eq_true, decide_eq_true_eq, beq_iff_eq] at h1 h2 ⊢
    rcases h1 with h1 | ⟨h1, h1'⟩
    · rcases h2 with h2 | ⟨h2, _⟩
      · exact .inl (UInt8.lt_trans h1 h2)
      · rw [← h2]; exact .inl h1
    · rcases h2 with h2 | ⟨h2, h2'⟩
      · rw [h1]; exact .inl h2
      · exact .inr ⟨h1.trans h2, ltL_trans a b c h1' h2'⟩
theorem ltL_tri : ∀ a b : List UInt8, Op.bytesLess a b = false → Op.bytesLess b a = false → a = b
  | [], [], _, _ => rfl
  | [], _ :: _, h, _ => by simp [Op.bytesLess] at h
  | _ :: _, [], _, h => by simp [Op.bytesLess] at h
  | x :: a, y :: b, h1, h2 => by
    simp only [Op.bytesLess, Bool.or_eq_false_iff, Bool.and_eq_false_iff, decide_eq_false_iff_not, beq_eq_false_iff_ne] at h1 h2
    have e : x = y := by
      have h3 := h1.1
      have h4 := h2.1
      rw [UInt8.lt_iff_toNat_lt] at h3 h4
      exact UInt8.toNat_inj.1 (by omega)
    subst e
    rw [ltL_tri a b (h1.2.resolve_left (fun k => k rfl)) (h2.2.resolve_left (fun k => k rfl))]
/-- the order of names -/
def ltS (a b : ByteArray) : Bool := Op.bytesLess a.toList b.toList
theorem ltS_irr (a : ByteArray) : ltS a a = false := ltL_irr _
theorem ltS_trans {a b c : ByteArray} (h1 : ltS a b = true) (h2 : ltS b c = true) : ltS a c = true := ltL_trans _ _ _ h1 h2
theorem ltS_tri {a b : ByteArray} (h1 : ltS a b = false) (h2 : ltS b a = false) : a = b := toList_inj (ltL_tri _ _ h1 h2)
theorem ltS_asym {a b : ByteArray} (h : ltS a b = true) : ltS b a = false := by
  cases hq : ltS b a with
  | false => rfl
  | true => rw [← ltS_irr a]; exact (ltS_trans h hq).symm
/-- names rise -/
def Up (l : List Pd) : Prop := l.Pairwise (fun x y => ltS x.n y.n = true)
theorem up_unique : ∀ l m : List Pd, l.Perm m → Up l → Up m → l = m
  | [], m, hp, _, _ => (List.nil_perm.1 hp).symm
  | x :: l, [], hp, _, _ => absurd hp.length_eq (by simp)
  | x :: l, y :: m, hp, h1, h2 => by
    have h1' := List.pairwise_cons.1 h1
    have h2' := List.pairwise_cons.1 h2
    have e : x = y := by
      rcases List.mem_cons.1 (hp.subset (List.mem_cons_self (a := x) (l := l))) with e | hx
      · exact e
      · rcases List.mem_cons.1 (hp.symm.subset (List.mem_cons_self (a := y) (l := m))) with e | hy
        · exact e.symm
        · have k1 := h1'.1 y hy
          have k2 := h2'.1 x hx
          have := ltS_trans k1 k2
          rw [ltS_irr] at this
          cases this
    subst e
    rw [up_unique l m ((List.perm_cons x).1 hp) h1'.2 h2'.2]
/-- the predicate of a name -/
def seekP (s : List Pd) (n : ByteArray) : Option Pd := s.find? (fun p => decide (p.n = n))
theorem seekP_some {s : List Pd} {n : ByteArray} {x : Pd} (h : seekP s n = some x) : x ∈ s ∧ x.n = n := ⟨List.mem_of_find?_eq_some h, by simpa using List.find?_some h⟩
theorem seekP_none {s : List Pd} {n : ByteArray} (h : seekP s n = none) : ∀ x ∈ s, x.n ≠ n := fun x hx => by simpa using List.find?_eq_none.1 h x hx
theorem nodup_inj {s : List Pd} (hs : (s.map Pd.n).Nodup) {x y : Pd} (hx : x ∈ s) (hy : y ∈ s) (e : x.n = y.n) : x = y := by
  induction s with
  | nil => cases hx
  | cons a l ih =>
    rw [List.map_cons, List.nodup_cons] at hs
    rcases List.mem_cons.1 hx with hx1 | hx1
    · rcases List.mem_cons.1 hy with hy1 | hy1
      · rw [hx1, hy1]
      · exact absurd (List.mem_map.2 ⟨y, hy1, by rw [← e, hx1]⟩) hs.1
    · rcases List.mem_cons.1 hy with hy1 | hy1
      · exact absurd (List.mem_map.2 ⟨x, hx1, by rw [e, hy1]⟩) hs.1
      · exact ih hs.2 hx1 hy1
theorem seekP_perm {s t : List Pd} (hp : s.Perm t) (hs : (s.map Pd.n).Nodup) (n : ByteArray) : seekP s n = seekP t n := by
  cases h1 : seekP s n with
  | none =>
    cases h2 : seekP t n with
    | none => rfl
    | some y =>
      obtain ⟨hy, e⟩ := seekP_some h2
      exact absurd e (seekP_none h1 y (hp.symm.subset hy))
  | some x =>
    obtain ⟨hx, ex⟩ := seekP_some h1
    cases h2 : seekP t n with
    | none => exact absurd ex (seekP_none h2 x (hp.subset hx))
    | some y =>
      obtain ⟨hy, ey⟩ := seekP_some h2
      rw [nodup_inj hs hx (hp.symm.subset hy) (ex.trans ey.symm)]
/-- predicates let in, one behind the other; none: a name has another number of columns -/
def letL : List Pd → List Pd → Option (List Pd)
  | s, [] => some s
  | s, p :: l => match seekP s p.n with
    | some q => if q.a = p.a then letL s l else none
    | none => letL (s ++ [p]) l
theorem letL_append : ∀ (l m s : List Pd), letL s (l ++ m) = (letL s l).bind (fun t => letL t m)
  | [], m, s => rfl
  | p :: l, m, s => by
    rw [List.cons_append, letL, letL]
    cases seekP s p.n with
    | none => exact letL_append l m _
    | some q =>
      simp only
      split
      · exact letL_append l m s
      · rfl
theorem nodup_more {s : List Pd} {p : Pd} (hs : (s.map Pd.n).Nodup) (hn : seekP s p.n = none) : ((s ++ [p]).map Pd.n).Nodup := by
  rw [List.map_append, List.nodup_append]
  refine ⟨hs, by simp, fun a ha b hb => ?_⟩
  obtain ⟨x, hx, rfl⟩ := List.mem_map.1 ha
  simp only [List.map_cons, List.map_nil, List.mem_singleton] at hb
  rw [hb]
  exact seekP_none hn x hx
/-- one more, in its place -/
def insP (known : List Pd) (p : Pd) : List Pd := known.takeWhile (fun x => ltS x.n p.n) ++ p :: known.dropWhile (fun x => ltS x.n p.n)
theorem insP_perm (known : List Pd) (p : Pd) : (insP known p).Perm (known ++ [p]) := by
  unfold insP
  refine List.perm_middle.trans ?_
  rw [List.takeWhile_append_dropWhile]
  exact (List.perm_append_singleton p known).symm
theorem insP_up : ∀ (known : List Pd) (p : Pd), Up known → (∀ x ∈ known, x.n ≠ p.n) → Up (insP known p)
  | [], p, _, _ => by simp [insP, Up]
  | x :: l, p, hu, hn => by
    have hu' := List.pairwise_cons.1 hu
    cases hq : ltS x.n p.n with
    | true =>
      have e : insP (x :: l) p = x :: insP l p := by
        unfold insP
        rw [List.takeWhile_cons_of_pos (by simpa using hq), List.dropWhile_cons_of_pos (by simpa using hq), List.cons_append]
      rw [e]
      refine List.pairwise_cons.2 ⟨fun y hy => ?_, insP_up l p hu'.2 (fun z hz => hn z (List.mem_cons_of_mem _ hz))⟩
      rcases List.mem_append.1 ((insP_perm l p).subset hy) with hy | hy
      · exact hu'.1 y hy
      · rw [List.mem_singleton.1 hy]; exact hq
    | false =>
      have e : insP (x :: l) p = p :: x :: l := by
        unfold insP
        rw [List.takeWhile_cons_of_neg (by simp [hq]), List.dropWhile_cons_of_neg (by simp [hq])]
        rfl
      rw [e]
      have hpx : ltS p.n x.n = true := by
        cases h2 : ltS p.n x.n with
        | true => rfl
        | false => exact absurd (ltS_tri hq h2) (hn x List.mem_cons_self)
      refine List.pairwise_cons.2 ⟨fun y hy => ?_, hu⟩
      rcases List.mem_cons.1 hy with rfl | hy
      · exact hpx
      · exact ltS_trans hpx (hu'.1 y hy)
/-- the reference's way -/
def meetL : List Pd → List Pd → Option (List Pd)
  | s, [] => some s
  | s, p :: l => match seekP s p.n with
    | some q => if q.a = p.a then meetL s l else none
    | none => meetL (insP s p) l
theorem up_nodup : ∀ (l : List Pd), Up l → (l.map Pd.n).Nodup
  | [], _ => by simp
  | x :: l, h => by
    have h' := List.pairwise_cons.1 h
    rw [List.map_cons, List.nodup_cons]
    refine ⟨fun hm => ?_, up_nodup l h'.2⟩
    obtain ⟨y, hy, e⟩ := List.mem_map.1 hm
    have := h'.1 y hy
    rw [e, ltS_irr] at this
    cases this
/-- what both come to -/
inductive Both : Option (List Pd) → Option (List Pd) → Prop where
  | none : Both none none
  | some {s k : List Pd} : s.Perm k → Up k → Both (some s) (some k)
theorem both_meet : ∀ (l s k : List Pd), s.Perm k → Up k → Both (letL s l) (meetL k l)
  | [], s, k, hp, hu => .some hp hu
  | p :: l, s, k, hp, hu => by
    have hs : (s.map Pd.n).Nodup := (hp.map Pd.n).nodup_iff.2 (up_nodup k hu)
    rw [letL, meetL, ← seekP_perm hp hs p.n]
    cases hq : seekP s p.n with
    | none =>
      have hq2 : seekP k p.n = none := by rw [← seekP_perm hp hs p.n, hq]
      exact both_meet l _ _ ((hp.append_right [p]).trans (insP_perm k p).symm) (insP_up k p hu (seekP_none hq2))
    | some q =>
      simp only
      split
      · exact both_meet l s k hp hu
      · exact .none
theorem meetL_append : ∀ (l m s : List Pd), meetL s (l ++ m) = (meetL s l).bind (fun t => meetL t m)
  | [], m, s => rfl
  | p :: l, m, s => by
    rw [List.cons_append, meetL, meetL]
    cases seekP s p.n with
    | none => exact meetL_append l m _
    | some q =>
      simp only
      split
      · exact meetL_append l m s
      · rfl
/-- the predicates of a rule, as they stand there -/
def stX (y : XL) : List Pd := if y.x.k = 1 ∨ y.x.k = 2 then [⟨y.x.pr, y.x.ts.length⟩] else []
def stR (r : R3) : List Pd := ⟨r.pr, r.hd.length⟩ :: r.bd.flatMap stX
end Go.Proofs.YtgfnijhhhgjabaaGreatDoor
end
section
namespace Go.Proofs.YtgfnijhhhgjabaaGreatDoor
open Go.RowKit Go.Maps Go.ChangeMaps
set_option linter.unusedVariables false
set_option linter.unusedSimpArgs false

/-- an entry of the map: a predicate, and when it came -/
abbrev Pn := Pd × Nat
def entP (x : Pn) : MapEntry := ⟨.string x.1.n, .int .i64 (x.1.a : Int), x.2⟩
/-- entries that are still to come -/
def lfP (ps : List Pn) (seen : Array Nat) : List Pn := ps.filter (fun x => !seen.contains x.2)
theorem lfP_left (ps : List Pn) (seen : Array Nat) : leftOf (ps.map entP).toArray seen = ((lfP ps seen).map entP).toArray := by
  unfold leftOf lfP
  apply Array.toList_inj.1
  simp only [Array.toList_filter, List.filter_map]
  rfl
theorem lfP_step : ∀ (ps : List Pn) (seen : Array Nat) (x : Pn), (ps.map Prod.snd).Nodup → x ∈ lfP ps seen → (lfP ps seen).Perm (x :: lfP ps (seen.push x.2))
  | [], seen, x, _, hx => by cases hx
  | y :: ps, seen, x, hn, hx => by
    rw [List.map_cons, List.nodup_cons] at hn
    have hpush : ∀ z : Pn, (seen.push x.2).contains z.2 = (seen.contains z.2 || z.2 == x.2) := fun z => by
      rw [Array.contains_push]
    have hmem := List.mem_filter.1 hx
    by_cases e : y = x
    · subst e
      have h1 : seen.contains y.2 = false := by simpa using hmem.2
      have h2 : lfP (y :: ps) seen = y :: lfP ps seen := by unfold lfP; rw [List.filter_cons_of_pos (by rw [h1]; rfl)]
      have h3 : lfP (y :: ps) (seen.push y.2) = lfP ps (seen.push y.2) := by unfold lfP; rw [List.filter_cons_of_neg (by rw [hpush]; simp)]
      have h4 : lfP ps (seen.push y.2) = lfP ps seen := by
        unfold lfP
        refine List.filter_congr fun z hz => ?_
        rw [hpush]
        have : (z.2 == y.2) = false := by
          rw [beq_eq_false_iff_ne]
          intro h
          exact hn.1 (List.mem_map.2 ⟨z, hz, h⟩)
        rw [this, Bool.or_false]
      rw [h2, h3, h4]
    · have hxp : x ∈ ps := (List.mem_cons.1 hmem.1).resolve_left (fun h => e h.symm)
      have hx2 : x ∈ lfP ps seen := List.mem_filter.2 ⟨hxp, hmem.2⟩
      have ih := lfP_step ps seen x hn.2 hx2
      have hyx : (y.2 == x.2) = false := by
        rw [beq_eq_false_iff_ne]
        intro h
        exact hn.1 (List.mem_map.2 ⟨x, hxp, h.symm⟩)
      cases hq : seen.contains y.2 with
      | true =>
        have h2 : lfP (y :: ps) seen = lfP ps seen := by unfold lfP; rw [List.filter_cons_of_neg (by rw [hq]; simp)]
        have h3 : lfP (y :: ps) (seen.push x.2) = lfP ps (seen.push x.2) := by unfold lfP; rw [List.filter_cons_of_neg (by rw [hpush, hq]; simp)]
        rw [h2, h3]
        exact ih
      | false =>
        have h2 : lfP (y :: ps) seen = y :: lfP ps seen := by unfold lfP; rw [List.filter_cons_of_pos (by rw [hq]; rfl)]
        have h3 : lfP (y :: ps) (seen.push x.2) = y :: lfP ps (seen.push x.2) := by unfold lfP; rw [List.filter_cons_of_pos (by rw [hpush, hq, hyx]; simp)]
        rw [h2, h3]
        exact (ih.cons y).trans (List.Perm.swap x y _)
/-- block b is the map of these predicates -/
def MapP (w : World) (b : Nat) (s : List Pd) : Prop :=
  ∃ (ps : List Pn) (clock : Nat), w.heap[b]? = some (.map (ps.map entP).toArray clock) ∧ ps.map Prod.fst = s ∧ (ps.map Prod.snd).Nodup ∧ (∀ x ∈ ps, x.2 < clock) ∧ ∀ p ∈ s, p.n.size ≤ maxLen
theorem MapP.lt {w : World} {b : Nat} {s : List Pd} (h : MapP w b s) : b < w.heap.size := by
  obtain ⟨es, c, hb, _⟩ := h
  exact (Array.getElem?_eq_some_iff.1 hb).1
theorem MapP.of_block {w w' : World} {b : Nat} {s : List Pd} (h : MapP w b s) (e : w'.heap[b]? = w.heap[b]?) : MapP w' b s := by
  obtain ⟨es, c, hb, r⟩ := h
  exact ⟨es, c, e.trans hb, r⟩
theorem MapP.made (w : World) : MapP (w.alloc (.map #[] 0)) w.heap.size [] := ⟨[], 0, Go.heap_alloc_new w _, rfl, by simp, by simp, by simp⟩
theorem zeroIt (w : World) : (zeroValue 3).run Tryz.prog w = .ok (.int .i64 0) w := by kernel_rfl
theorem pents_keys {ps : List Pn} (hw : ∀ p ∈ ps.map Prod.fst, p.n.size ≤ maxLen) : ∀ e ∈ (ps.map entP).toArray.toList, ∃ l, keyOf Tryz.prog 9 e.key = some l := by
  intro e he
  simp only [List.toList_toArray] at he
  obtain ⟨x, hx, rfl⟩ := List.mem_map.1 he
  exact ⟨_, keyOf_s _ (hw x.1 (List.mem_map.2 ⟨x, hx, rfl⟩))⟩
/-- what a look-up answers -/
def lookP (s : List Pd) (n : ByteArray) : Value := match seekP s n with
  | some p => .tuple #[.int .i64 (p.a : Int), .bool true]
  | none => .tuple #[.int .i64 0, .bool false]
theorem MapP.look {w : World} {b : Nat} {s : List Pd} (h : MapP w b s) (nd : (s.map Pd.n).Nodup) {n : ByteArray} (hn : n.size ≤ maxLen) :
    (Instr.lookup 124 (.map (some b)) (.string n) true).run Tryz.prog w = .ok (lookP s n) w := by
  obtain ⟨ps, c, hb, rfl, _, _, hw⟩ := h
  have hl := keyOf_s n hn
  rcases keyedS.find w hl (ps.map entP).toArray.toList (pents_keys hw) with ⟨h1, h2⟩ | ⟨j, e, h1, h2, h3⟩
  · have : lookP (ps.map Prod.fst) n = .tuple #[.int .i64 0, .bool false] := by
      unfold lookP seekP
      rw [List.find?_eq_none.2 (fun p hp => by
        obtain ⟨x, hx, rfl⟩ := List.mem_map.1 hp
        have := h2 (entP x) (by simp only [List.toList_toArray]; exact List.mem_map.2 ⟨x, hx, rfl⟩)
        simp only [decide_eq_true_eq]
        intro e
        exact this (by unfold entP; rw [e]))]
    rw [this]
    simp only [List.toList_toArray] at h1
    simp [Instr.lookup, run_underlying Tryz.underlying124, MapKept.run_getObj_map hb, keyedS.check w _ hl, h1, Result.andThen, zeroIt]
  · simp only [List.toList_toArray] at h2
    rw [List.getElem?_map] at h2
    obtain ⟨x, hx, rfl⟩ := Option.map_eq_some_iff.1 h2
    have ex : x.1.n = n := by
      have : Value.string x.1.n = .string n := h3
      injection this
    have hxm : x.1 ∈ ps.map Prod.fst := List.mem_map.2 ⟨x, List.mem_of_getElem? hx, rfl⟩
    have hf : seekP (ps.map Prod.fst) n = some x.1 := by
      cases hq : seekP (ps.map Prod.fst) n with
      | none => exact absurd ex (seekP_none hq x.1 hxm)
      | some y =>
        obtain ⟨hy, ey⟩ := seekP_some hq
        rw [nodup_inj nd hy hxm (ey.trans ex.symm)]
    unfold lookP
    rw [hf]
    simp only [List.toList_toArray] at h1
    have hj : (ps.map entP).toArray[j]? = some (entP x) := by simp [hx]
    simp [Instr.lookup, run_underlying Tryz.underlying124, MapKept.run_getObj_map hb, keyedS.check w _ hl, h1, hj, hx, entP, Result.andThen]
/-- a predicate more -/
theorem MapP.put {w : World} {b : Nat} {s : List Pd} (h : MapP w b s) {p : Pd} (hs : p.n.size ≤ maxLen) (hn : seekP s p.n = none) :
    ∃ w', (Instr.mapUpdate 124 (.map (some b)) (.string p.n) (.int .i64 (p.a : Int))).run Tryz.prog w = .ok () w' ∧ MapP w' b (s ++ [p]) ∧ Tz (fun k => k = b) w w' := by
  obtain ⟨ps, c, hb, rfl, hnd, hlt, hw⟩ := h
  have hl := keyOf_s p.n hs
  rcases keyedS.find w hl (ps.map entP).toArray.toList (pents_keys hw) with ⟨h1, h2⟩ | ⟨j, e, h1, h2, h3⟩
  · have e0 : (ps.map entP).toArray.push ⟨.string p.n, .int .i64 (p.a : Int), c⟩ = ((ps ++ [(p, c)]).map entP).toArray := by simp [entP]
    refine ⟨setBlock w b (.map ((ps ++ [(p, c)]).map entP).toArray (c + 1)), ?_, ⟨ps ++ [(p, c)], c + 1, heap_setBlock_same hb _, by simp, ?_, ?_, ?_⟩, ⟨rfl, rfl, rfl, by simp [setBlock], fun k _ hk => heap_setBlock_other hb _ hk⟩⟩
    · simp only [List.toList_toArray] at h1
      rw [← e0]
      simp [Instr.mapUpdate, run_underlying Tryz.underlying124, MapKept.run_getObj_map hb, keyedS.check w false hl, h1, MapKept.run_setObj_map _ hb, Result.andThen, setBlock]
    · rw [List.map_append, List.nodup_append]
      refine ⟨hnd, by simp, fun a ha d hd => ?_⟩
      obtain ⟨x, hx, rfl⟩ := List.mem_map.1 ha
      simp only [List.map_cons, List.map_nil, List.mem_singleton] at hd
      have := hlt x hx
      omega
    · intro x hx
      rcases List.mem_append.1 hx with hx | hx
      · have := hlt x hx
        omega
      · rw [List.mem_singleton.1 hx]
        show c < c + 1
        omega
    · intro q hq
      rcases List.mem_append.1 hq with hq | hq
      · exact hw q hq
      · rw [List.mem_singleton.1 hq]; exact hs
  · simp only [List.toList_toArray] at h2
    rw [List.getElem?_map] at h2
    obtain ⟨x, hx, rfl⟩ := Option.map_eq_some_iff.1 h2
    have ex : x.1.n = p.n := by
      have : Value.string x.1.n = .string p.n := h3
      injection this
    exact absurd ex (seekP_none hn x.1 (List.mem_map.2 ⟨x, List.mem_of_getElem? hx, rfl⟩))
end Go.Proofs.YtgfnijhhhgjabaaGreatDoor
end
