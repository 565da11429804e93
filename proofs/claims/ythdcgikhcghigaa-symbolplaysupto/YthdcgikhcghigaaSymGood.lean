import Derived.Test.YthdcgikhcghigaaSymLives
import Derived.OwnWalk
namespace Go.Proofs.Ythdcgikhcghigaa
open Go.RowKit Go.Maps Go.ChangeMaps
set_option linter.unusedVariables false
set_option linter.unusedSimpArgs false
attribute [local go_sem ↓] Go.wp_at_zero Go.wp_at_succ

theorem toList_ne {a b : ByteArray} (h : ¬ a = b) : ¬ a.toList = b.toList := fun e => h (by
  rw [ByteArray.toList_eq, ByteArray.toList_eq] at e
  exact ByteArray.ext (Array.toList_inj.mp e))

theorem run_eql (a b : V) (w : World) : (binOp .eql 39 (.agg #[.int .i8 a.k, .int .i64 a.n, .string a.s]) (.agg #[.int .i8 b.k, .int .i64 b.n, .string b.s])).run Try.prog w = .ok (.bool (decide (a = b))) w := by
  cases a with | mk k1 n1 s1 =>
  cases b with | mk k2 n2 s2 =>
  simp only [V.mk.injEq]
  by_cases hk : k1 = k2
  · by_cases hn : n1 = n2
    · by_cases hs : s1 = s2
      · subst hk hn hs
        rw [decide_eq_true ⟨rfl, rfl, rfl⟩]
        go_simp
      · have hs' := toList_ne hs
        rw [decide_eq_false (fun h => hs h.2.2)]
        go_simp
    · rw [decide_eq_false (fun h => hn h.2.1)]
      go_simp
  · rw [decide_eq_false (fun h => hk h.1)]
    go_simp

theorem run_neq (a b : V) (w : World) : (binOp .neq 39 (.agg #[.int .i8 a.k, .int .i64 a.n, .string a.s]) (.agg #[.int .i8 b.k, .int .i64 b.n, .string b.s])).run Try.prog w = .ok (.bool (!decide (a = b))) w := by
  cases a with | mk k1 n1 s1 =>
  cases b with | mk k2 n2 s2 =>
  simp only [V.mk.injEq]
  by_cases hk : k1 = k2
  · by_cases hn : n1 = n2
    · by_cases hs : s1 = s2
      · subst hk hn hs
        rw [decide_eq_true ⟨rfl, rfl, rfl⟩]
        go_simp
      · have hs' := toList_ne hs
        rw [decide_eq_false (fun h => hs h.2.2)]
        go_simp
    · rw [decide_eq_false (fun h => hn h.2.1)]
      go_simp
  · rw [decide_eq_false (fun h => hk h.1)]
    go_simp

/-- a list of values that lies somewhere -/
def Lv (w : World) (v : Value) (us : List V) : Prop :=
  (∀ u ∈ us, u.wf) ∧ us.length ≤ maxLen ∧ ∃ a c, v = .slice a us.length c ∧ ∀ i, i < us.length → ∃ g off, a = some ⟨g, off, none⟩ ∧ g < w.heap.size ∧
    w.cell? ⟨g, off + i * 3, none⟩ = some (.int .i8 (atV us i).k) ∧ w.cell? ⟨g, off + i * 3 + 1, none⟩ = some (.int .i64 (atV us i).n) ∧ w.cell? ⟨g, off + i * 3 + 2, none⟩ = some (.string (atV us i).s)

theorem Lv.blocks {w w' : World} {v : Value} {us : List V} (h : Lv w v us) (hb : ∀ g off, (∃ n c, v = .slice (some ⟨g, off, none⟩) n c) → w'.heap[g]? = w.heap[g]?) (hs : w.heap.size ≤ w'.heap.size) : Lv w' v us := by
  obtain ⟨hw, hl, a, c, rfl, hc⟩ := h
  refine ⟨hw, hl, a, c, rfl, fun i hi => ?_⟩
  obtain ⟨g, off, rfl, hg, h0, h1, h2⟩ := hc i hi
  have e := hb g off ⟨_, _, rfl⟩
  exact ⟨g, off, rfl, Nat.lt_of_lt_of_le hg hs, (World.cell?_of_block (a := ⟨g, _, none⟩) e).trans h0, (World.cell?_of_block (a := ⟨g, _, none⟩) e).trans h1, (World.cell?_of_block (a := ⟨g, _, none⟩) e).trans h2⟩

theorem Lv.below {w w' : World} {v : Value} {us : List V} (h : Lv w v us) (hb : Below w.heap.size w w') : Lv w' v us := by
  obtain ⟨hw, hl, a, c, rfl, hc⟩ := h
  refine ⟨hw, hl, a, c, rfl, fun i hi => ?_⟩
  obtain ⟨g, off, rfl, hg, h0, h1, h2⟩ := hc i hi
  have e := hb.block g hg
  exact ⟨g, off, rfl, Nat.lt_of_lt_of_le hg hb.size, (World.cell?_of_block (a := ⟨g, _, none⟩) e).trans h0, (World.cell?_of_block (a := ⟨g, _, none⟩) e).trans h1, (World.cell?_of_block (a := ⟨g, _, none⟩) e).trans h2⟩

theorem Lv.at {w : World} {a : Option Addr} {n c : Nat} {us : List V} (h : Lv w (.slice a n c) us) {i : Nat} (hi : i < us.length) : ∃ g off, a = some ⟨g, off, none⟩ ∧ g < w.heap.size ∧
    w.cell? ⟨g, off + i * 3, none⟩ = some (.int .i8 (atV us i).k) ∧ w.cell? ⟨g, off + i * 3 + 1, none⟩ = some (.int .i64 (atV us i).n) ∧ w.cell? ⟨g, off + i * 3 + 2, none⟩ = some (.string (atV us i).s) := by
  obtain ⟨_, _, a', c', e, hc⟩ := h
  cases e
  exact hc i hi

theorem lv_of_row {w : World} {base : Nat} {sv : Value} {vs : List V} (h : w.ownsRow base 39 3 sv vs.length (vs.flatMap V.cells)) (hw : ∀ v ∈ vs, v.wf) : Lv w sv vs := by
  obtain ⟨a, c, rfl, hl, _⟩ := ownsRow_form h
  refine ⟨hw, hl, a, c, rfl, fun i hi => ?_⟩
  obtain ⟨g, c', e, h0, h1, h2⟩ := row_at h hi
  cases e
  exact ⟨g, 0, rfl, (h.lt g rfl).2, by simpa using h0, by simpa using h1, by simpa using h2⟩

theorem atV_eq {us : List V} {i : Nat} (h : i < us.length) : atV us i = us[i] := by
  simp [atV, List.getD_eq_getElem?_getD, List.getElem?_eq_getElem h]
theorem atV_mem {us : List V} {i : Nat} (h : i < us.length) : atV us i ∈ us := by
  rw [atV_eq h]
  exact List.getElem_mem h

/-- the values that may be, each once, so many at most -/
def goodStep (most : Nat) (out : List V) (u : V) : List V := if out.length < most then (if chk u.k u.n u.s = 0 ∧ u ∉ out then out ++ [u] else out) else out
def goodL (most : Nat) (us : List V) : List V := us.foldl (goodStep most) []

theorem foldl_stop {most : Nat} {out : List V} (h : ¬ out.length < most) : ∀ us : List V, us.foldl (goodStep most) out = out
  | [] => rfl
  | u :: us => by rw [List.foldl_cons, show goodStep most out u = out from if_neg h, foldl_stop h us]

theorem goodL_take {most : Nat} {us : List V} {k : Nat} (h : k < us.length) : goodL most (us.take (k + 1)) = goodStep most (goodL most (us.take k)) (atV us k) := by
  unfold goodL
  rw [atV_eq h, List.take_add_one, List.getElem?_eq_getElem h]
  simp only [Option.toList_some, List.foldl_append, List.foldl_cons, List.foldl_nil]

theorem goodL_stop {most : Nat} {us : List V} {k : Nat} (h : ¬ (goodL most (us.take k)).length < most) : goodL most us = goodL most (us.take k) := by
  conv => lhs; rw [← List.take_append_drop k us]
  unfold goodL
  rw [List.foldl_append]
  exact foldl_stop h _

theorem goodL_length (most : Nat) (us : List V) : (goodL most us).length ≤ us.length := by
  have : ∀ (us out : List V), (us.foldl (goodStep most) out).length ≤ out.length + us.length := by
    intro us
    induction us with
    | nil => intro out; simp
    | cons u us ih =>
      intro out
      have h1 := ih (goodStep most out u)
      have h2 : (goodStep most out u).length ≤ out.length + 1 := by
        unfold goodStep
        split
        · split <;> simp
        · omega
      simp only [List.foldl_cons, List.length_cons]
      omega
  simpa [goodL] using this us []

structure GoodOf (us vs : List V) : Prop where
  nodup : vs.Nodup
  mem : ∀ v ∈ vs, v ∈ us
  ok : ∀ v ∈ vs, chk v.k v.n v.s = 0

theorem goodL_good (most : Nat) (us : List V) : GoodOf us (goodL most us) := by
  have : ∀ (rest out : List V), (∀ u ∈ rest, u ∈ us) → GoodOf us out → GoodOf us (rest.foldl (goodStep most) out) := by
    intro rest
    induction rest with
    | nil => intro out _ h; exact h
    | cons u rest ih =>
      intro out hr h
      refine ih _ (fun x hx => hr x (List.mem_cons_of_mem _ hx)) ?_
      unfold goodStep
      split
      · split
        · rename_i h1 h2
          refine ⟨List.nodup_append.2 ⟨h.nodup, by simp, fun a ha b hb => by simp at hb; subst hb; exact fun e => h2.2 (e ▸ ha)⟩, ?_, ?_⟩
          · intro v hv
            rcases List.mem_append.1 hv with hv | hv
            · exact h.mem v hv
            · simp at hv; subst hv; exact hr _ List.mem_cons_self
          · intro v hv
            rcases List.mem_append.1 hv with hv | hv
            · exact h.ok v hv
            · simp at hv; subst hv; exact h2.1
        · exact h
      · exact h
  exact this us [] (fun u hu => hu) ⟨List.nodup_nil, by simp, by simp⟩
end Go.Proofs.Ythdcgikhcghigaa
