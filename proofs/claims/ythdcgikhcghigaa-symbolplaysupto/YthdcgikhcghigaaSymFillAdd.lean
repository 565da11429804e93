import Derived.Test.YthdcgikhcghigaaSymCuts
import Derived.Defers
namespace Go.Proofs.Ythdcgikhcghigaa
open Go.RowKit Go.Maps Go.ChangeMaps
set_option linter.unusedVariables false
set_option linter.unusedSimpArgs false
attribute [local go_sem ↓] Go.wp_at_zero Go.wp_at_succ

/-- what Add answers: its number, its error; and the values behind it -/
def addE (most : Int) (vs : List V) (v : V) : Int := if chk v.k v.n v.s = 0 then (if v ∈ vs then 0 else if most ≤ vs.length then 20 else 0) else chk v.k v.n v.s
def addS (most : Int) (vs : List V) (v : V) : Nat := if chk v.k v.n v.s = 0 then (if v ∈ vs then symOf vs v else if most ≤ vs.length then 0 else vs.length) else 0
def addV (most : Int) (vs : List V) (v : V) : List V := if chk v.k v.n v.s = 0 then (if v ∈ vs then vs else if most ≤ vs.length then vs else vs ++ [v]) else vs

theorem Touch.of_below {w w' : World} {t m : Nat} {sv : Value} (h : Below w.heap.size w w') : Touch w w' t m sv sv :=
  ⟨h.mono (Nat.zero_le _), fun k hk _ _ _ => h.block k hk, fun g hg => .inl hg⟩

set_option maxHeartbeats 1600000 in
theorem add_bad {w : World} {t m : Nat} {sv : Value} {vs : List V} {most : Int} (h : Tbl w t m sv vs most) {v : V} (hv : v.wf) (hc : ¬ chk v.k v.n v.s = 0) :
    Calls Try.prog 13 #[.pointer (some ⟨t, 0, none⟩), .agg #[.int .i8 v.k, .int .i64 v.n, .string v.s]] w fun e w' => e = .returned (.tuple #[.int .i32 0, .int .i64 (chk v.k v.n v.s)]) ∧ Below w.heap.size w w' := by
  have h1 := h.below ((Below.refl _ _).alloc (Nat.le_refl _) (.cells #[.int .i8 v.k, .int .i64 v.n, .string v.s] 39))
  have hc' : (chk v.k v.n v.s != 0) = true := by simpa using hc
  go_enter Try.func13, Try.ntmps13
  go_wp2_with (first
    | (go_at_call 21; refine (there_any h1).mono ?_; rintro e w' ⟨rfl, rfl⟩)
    | fail)
  refine (vcheck_any _ _ _ _ hv.text).mono ?_
  rintro e w1 ⟨rfl, hb1⟩
  have bl := ((Below.refl _ _).alloc (Nat.le_refl _) (.cells #[.int .i8 v.k, .int .i64 v.n, .string v.s] 39)).trans (hb1.mono (by simp) : Below w.heap.size _ _)
  clear h1 hb1
  go_wp2
  go_ret2
  exact ⟨rfl, bl⟩

theorem add_any {w : World} {t m : Nat} {sv : Value} {vs : List V} {most : Int} (h : Tbl w t m sv vs most) {v : V} (hv : v.wf) (hb : vs.length ≤ 2147483646) :
    Calls Try.prog 13 #[.pointer (some ⟨t, 0, none⟩), .agg #[.int .i8 v.k, .int .i64 v.n, .string v.s]] w fun e w' => e = .returned (.tuple #[.int .i32 (addS most vs v), .int .i64 (addE most vs v)]) ∧ ∃ sv', Tbl w' t m sv' (addV most vs v) most ∧ Touch w w' t m sv sv' := by
  unfold addS addE addV
  by_cases hc : chk v.k v.n v.s = 0
  · rw [if_pos hc, if_pos hc, if_pos hc]
    by_cases hm : v ∈ vs
    · rw [if_pos hm, if_pos hm, if_pos hm]
      exact (add_has h hv hc hm).mono fun e w' ⟨h1, h2⟩ => ⟨h1, sv, h.below h2, .of_below h2⟩
    · rw [if_neg hm, if_neg hm, if_neg hm]
      by_cases hf : most ≤ vs.length
      · rw [if_pos hf, if_pos hf, if_pos hf]
        exact (add_full h hv hc hm hf).mono fun e w' ⟨h1, h2⟩ => ⟨h1, sv, h.below h2, .of_below h2⟩
      · rw [if_neg hf, if_neg hf, if_neg hf]
        exact add_new h hv hc hm (by omega) hb
  · rw [if_neg hc, if_neg hc, if_neg hc]
    exact (add_bad h hv hc).mono fun e w' ⟨h1, h2⟩ => ⟨h1, sv, h.below h2, .of_below h2⟩

/-- a row that is filled: the numbers so far, the values so far, the error -/
structure RowSt where
  ss : List Nat
  vs : List V
  err : Int

def rowStep (most : Int) (st : RowSt) (x : V) : RowSt :=
  if st.err = 0 then (if addE most st.vs x = 0 then ⟨st.ss ++ [addS most st.vs x], addV most st.vs x, 0⟩ else ⟨st.ss, addV most st.vs x, addE most st.vs x⟩) else st
def rowAll (most : Int) (vs xs : List V) : RowSt := xs.foldl (rowStep most) ⟨[], vs, 0⟩

theorem rowAll_take {most : Int} {vs xs : List V} {k : Nat} (h : k < xs.length) : rowAll most vs (xs.take (k + 1)) = rowStep most (rowAll most vs (xs.take k)) (atV xs k) := by
  unfold rowAll
  rw [take_snoc h, List.foldl_append]
  rfl
theorem rowFold_err {most : Int} {st : RowSt} (h : ¬ st.err = 0) : ∀ xs : List V, xs.foldl (rowStep most) st = st
  | [] => rfl
  | x :: xs => by rw [List.foldl_cons, show rowStep most st x = st from if_neg h, rowFold_err h xs]
theorem rowAll_stop {most : Int} {vs xs : List V} {k : Nat} (h : ¬ (rowAll most vs (xs.take k)).err = 0) : rowAll most vs xs = rowAll most vs (xs.take k) := by
  conv => lhs; rw [← List.take_append_drop k xs]
  unfold rowAll
  rw [List.foldl_append]
  exact rowFold_err h _

theorem addV_length (most : Int) (vs : List V) (v : V) : vs.length ≤ (addV most vs v).length ∧ (addV most vs v).length ≤ vs.length + 1 := by
  unfold addV
  repeat' split
  all_goals simp
theorem addV_prefix (most : Int) (vs : List V) (v : V) : ∃ r, addV most vs v = vs ++ r := by
  unfold addV
  repeat' split
  all_goals first | exact ⟨[], (List.append_nil _).symm⟩ | exact ⟨_, rfl⟩

theorem rowAll_facts (most : Int) (vs : List V) : ∀ xs : List V, (rowAll most vs xs).vs.length ≤ vs.length + xs.length ∧ (rowAll most vs xs).ss.length ≤ xs.length ∧ (∃ r, (rowAll most vs xs).vs = vs ++ r) ∧ ((rowAll most vs xs).err = 0 → (rowAll most vs xs).ss.length = xs.length) := by
  have key : ∀ (xs : List V) (st : RowSt), (xs.foldl (rowStep most) st).vs.length ≤ st.vs.length + xs.length ∧ (xs.foldl (rowStep most) st).ss.length ≤ st.ss.length + xs.length ∧ (∃ r, (xs.foldl (rowStep most) st).vs = st.vs ++ r) ∧ ((xs.foldl (rowStep most) st).err = 0 → (xs.foldl (rowStep most) st).ss.length = st.ss.length + xs.length) := by
    intro xs
    induction xs with
    | nil => intro st; exact ⟨by simp, by simp, ⟨[], by simp⟩, fun _ => by simp⟩
    | cons x xs ih =>
      intro st
      obtain ⟨h1, h2, ⟨r, h3⟩, h4⟩ := ih (rowStep most st x)
      have a1 := addV_length most st.vs x
      obtain ⟨r0, a2⟩ := addV_prefix most st.vs x
      simp only [List.foldl_cons, List.length_cons]
      by_cases e : st.err = 0
      · by_cases e2 : addE most st.vs x = 0
        · have es : rowStep most st x = ⟨st.ss ++ [addS most st.vs x], addV most st.vs x, 0⟩ := by unfold rowStep; rw [if_pos e, if_pos e2]
          rw [es] at h1 h2 h3 h4 ⊢
          simp only [List.length_append, List.length_cons, List.length_nil] at h1 h2 h4
          refine ⟨by omega, by omega, ⟨r0 ++ r, by rw [h3, a2, List.append_assoc]⟩, fun h => by have := h4 h; omega⟩
        · have es : rowStep most st x = ⟨st.ss, addV most st.vs x, addE most st.vs x⟩ := by unfold rowStep; rw [if_pos e, if_neg e2]
          rw [es, rowFold_err (st := ⟨st.ss, addV most st.vs x, addE most st.vs x⟩) e2]
          exact ⟨by simp only; omega, by simp only; omega, ⟨r0, a2⟩, fun h => absurd h e2⟩
      · have es : rowStep most st x = st := if_neg e
        rw [es, rowFold_err e]
        exact ⟨by omega, by omega, ⟨[], by simp⟩, fun h => absurd h e⟩
  intro xs
  simpa [rowAll] using key xs ⟨[], vs, 0⟩

/-- a row's cells: the numbers, and behind them what was there -/
def rowN (ss : List Nat) (f : Nat → Value) : Nat → Value := fun i => if i < ss.length then .int .i32 (ss.getD i 0) else f i
theorem rowN_nil (f : Nat → Value) : rowN [] f = f := by funext i; simp [rowN]
theorem rowN_snoc (ss : List Nat) (s : Nat) (f : Nat → Value) (i : Nat) : (if i = ss.length then Value.int .i32 s else rowN ss f i) = rowN (ss ++ [s]) f i := by
  unfold rowN
  by_cases h : i = ss.length
  · subst h
    simp [List.getD_eq_getElem?_getD]
  · rw [if_neg h]
    by_cases h2 : i < ss.length
    · rw [if_pos h2, if_pos (by simp; omega)]
      simp [List.getD_eq_getElem?_getD, List.getElem?_append_left h2]
    · rw [if_neg h2, if_neg (by simp; omega)]

/-- what a call that fills a row out of a table may have turned -/
structure Fil (w w' : World) (t m b : Nat) (sv sv' : Value) : Prop where
  low : Below 0 w w'
  block : ∀ k, k < w.heap.size → k ≠ t → k ≠ m → k ≠ b → sv.ownBlock ≠ some k → w'.heap[k]? = w.heap[k]?
  new : ∀ g, sv'.ownBlock = some g → sv.ownBlock = some g ∨ w.heap.size ≤ g

theorem Fil.refl (w : World) (t m b : Nat) (sv : Value) : Fil w w t m b sv sv := ⟨Below.refl _ _, fun _ _ _ _ _ _ => rfl, fun _ h => .inl h⟩
theorem Fil.alloc {w w' : World} {t m b : Nat} {sv sv' : Value} (h : Fil w w' t m b sv sv') (o : Obj) : Fil w (w'.alloc o) t m b sv sv' :=
  ⟨h.low.alloc (Nat.zero_le _) o, fun k hk h1 h2 h3 h4 => (Below.heap_alloc w' o k (Nat.lt_of_lt_of_le hk h.low.size)).trans (h.block k hk h1 h2 h3 h4), h.new⟩
theorem Fil.touch {w w' w'' : World} {t m b : Nat} {sv sv' sv'' : Value} (h : Fil w w' t m b sv sv') (u : Touch w' w'' t m sv' sv'') : Fil w w'' t m b sv sv'' := by
  have hs := h.low.size
  refine ⟨h.low.trans u.low, fun k hk h1 h2 h3 h4 => ?_, fun g hg => ?_⟩
  · rw [u.block k (by omega) h1 h2 (fun e => by
      rcases h.new k e with e' | e'
      · exact h4 e'
      · omega), h.block k hk h1 h2 h3 h4]
  · rcases u.new g hg with e | e
    · exact h.new g e
    · exact .inr (by omega)
theorem Fil.set {w w' : World} {t m b : Nat} {sv sv' : Value} (h : Fil w w' t m b sv sv') (i : Nat) (v : Value) : Fil w (w'.setCell ⟨b, i, none⟩ v) t m b sv sv' :=
  ⟨h.low.setCell (Nat.zero_le _) v, fun k hk h1 h2 h3 h4 => (Below.heap_setCell w' ⟨b, i, none⟩ v k h3).trans (h.block k hk h1 h2 h3 h4), h.new⟩

theorem rowIs_kind {w : World} {b : Nat} {t : TypeId} {n : Nat} {f : Nat → Value} (h : w.rowIs b t n f) : ∃ c, w.heap[b]? = some (.cells c t (0, 0)) := by
  obtain ⟨c, hc, _⟩ := h
  exact ⟨c, hc⟩
theorem Tbl.away {w : World} {t m : Nat} {sv : Value} {vs : List V} {most : Int} (h : Tbl w t m sv vs most) {b : Nat} {f : Nat → Value} (hr : w.rowIs b 43 24 f) : b ≠ t ∧ b ≠ m ∧ sv.ownBlock ≠ some b := by
  obtain ⟨c, hc⟩ := rowIs_kind hr
  obtain ⟨c1, hc1⟩ := rowIs_kind h.row
  obtain ⟨es, k, hm, _⟩ := h.map
  refine ⟨fun e => ?_, fun e => ?_, fun e => ?_⟩
  · subst e; rw [hc] at hc1; cases hc1
  · subst e; rw [hc] at hm; cases hm
  · obtain ⟨cur, h3⟩ := ownsRow_kind h.own e
    rw [hc] at h3; cases h3
end Go.Proofs.Ythdcgikhcghigaa
