import Derived.Test.YtfkggabdjcabcaaRelSplA
namespace Go.Proofs.Ytfkggabdjcabcaa
open Go.RowKit Go.Maps
set_option linter.unusedVariables false
set_option linter.unusedSimpArgs false

theorem fold_off : ∀ (l : List Value) (off k : Nat) (A : Array Value) (i : Nat), ((l.zipIdx k).foldl (fun (cs : Array Value) (x : Value × Nat) => cs.setIfInBounds (off + x.2) x.1) A)[i]? = if off + k ≤ i ∧ i < off + k + l.length ∧ i < A.size then l[i - (off + k)]? else A[i]?
  | [], off, k, A, i => by
    rw [if_neg (by simp; omega)]
    rfl
  | a :: l, off, k, A, i => by
    rw [List.zipIdx_cons, List.foldl_cons, fold_off l off (k + 1) _ i]
    simp only [Array.size_setIfInBounds, List.length_cons]
    by_cases h1 : off + (k + 1) ≤ i ∧ i < off + (k + 1) + l.length ∧ i < A.size
    · rw [if_pos h1, if_pos (by omega), show i - (off + k) = (i - (off + (k + 1))) + 1 by omega, List.getElem?_cons_succ]
    · rw [if_neg h1]
      by_cases hk : off + k = i
      · subst hk
        by_cases hs : off + k < A.size
        · rw [if_pos (by omega), Array.getElem?_setIfInBounds_self_of_lt hs, Nat.sub_self]
          rfl
        · rw [if_neg (by omega), Array.getElem?_eq_none (by simp; omega), Array.getElem?_eq_none (by omega)]
      · rw [Array.getElem?_setIfInBounds_ne hk, if_neg (by omega)]
theorem fold_turn {r : List Int} (h : r.length = 24) {A : Array Value} (hs : A.size = 25) (h0 : A[0]? = some (.bool false)) : ((r.map cellI).zipIdx).foldl (fun (cs : Array Value) (x : Value × Nat) => cs.setIfInBounds (1 + x.2) x.1) A = (Tn.cells (false, r)).toArray := by
  apply Array.ext_getElem?
  intro i
  rw [fold_off, hs]
  by_cases hi : 1 ≤ i ∧ i < 25
  · rw [if_pos (by rw [List.length_map]; omega)]
    obtain ⟨j, rfl⟩ : ∃ j, i = j + 1 := ⟨i - 1, by omega⟩
    simp [Tn.cells]
  · rw [if_neg (by rw [List.length_map]; omega)]
    by_cases e : i = 0
    · subst e
      rw [h0]
      simp [Tn.cells]
    · rw [Array.getElem?_eq_none (by omega), Array.getElem?_eq_none (by simp [Tn.cells, h]; omega)]
theorem fold_turnB {r : List Int} (h : r.length = 24) {A : Array Value} (hs : A.size = 25) (h0 : A[0]? = some (.bool false)) : ((r.map cellI).zipIdx 1).foldl (fun (cs : Array Value) (x : Value × Nat) => cs.setIfInBounds x.2 x.1) A = (.bool false :: r.map cellI).toArray := by
  apply Array.ext_getElem?
  intro i
  rw [fold_at, hs]
  by_cases hi : 1 ≤ i ∧ i < 25
  · rw [if_pos (by rw [List.length_map]; omega)]
    obtain ⟨j, rfl⟩ : ∃ j, i = j + 1 := ⟨i - 1, by omega⟩
    simp
  · rw [if_neg (by rw [List.length_map]; omega)]
    by_cases e : i = 0
    · subst e
      rw [h0]
      simp
    · rw [Array.getElem?_eq_none (by omega), Array.getElem?_eq_none (by simp [h]; omega)]
set_option maxRecDepth 100000 in
theorem run_buildTurn {r : List Int} (h : r.length = 24) (w : World) : (Instr.build 41 #[(1, rowV r)]).run Try.prog w = .ok (.agg (Tn.cells (false, r)).toArray) w := by
  simp [Instr.build, Instr.fill, go_sem, rowV, h]
  exact fold_turn h rfl rfl
set_option maxRecDepth 100000 in
theorem run_sliceTurn {r : List Int} (h : r.length = 24) (w : World) : (Instr.buildSlice 22 1 #[(0, .agg (Tn.cells (false, r)).toArray)]).run Try.prog w = .ok (.slice (some ⟨w.heap.size, 0, none⟩) 1 1) (w.alloc (.cells (Tn.cells (false, r)).toArray 41)) := by
  simp [Instr.buildSlice, Instr.fill, go_sem, h, Tn.cells]
  congr 2
  exact fold_turnB h rfl rfl
/-- a turn that was laid just now, as a list of one -/
theorem LtC_new (w : World) {r : List Int} (hr : RowOk r) : LtC (w.alloc (.cells (Tn.cells (false, r)).toArray 41)) (.slice (some ⟨w.heap.size, 0, none⟩) [((false, r) : Tn)].length 1) [(false, r)] := by
  refine ⟨fun x hx => by rw [List.mem_singleton.1 hx]; exact hr, _, _, rfl, fun _ => ⟨w.heap.size, 0, rfl, by simp, fun j u hu => ?_⟩⟩
  have := lit_news w (Tn.cells (false, r)).toArray 41 j u (by simpa [flatT] using hu)
  rw [Nat.zero_add]
  rw [show (⟨w.heap.size, 0, none⟩ : Addr).add j = ⟨w.heap.size, j, none⟩ from by simp [Addr.add]; omega] at this
  exact this
/-- one row more -/
theorem again_push {w0 wr : World} {aa : Option Addr} {ca k : Nat} {rs : List (List Int)} {y : List Int} (hk : k = rs.length) (own : wr.ownsRow w0.heap.size 41 25 (.slice aa k ca) k (flatT (againT rs))) (hb : Below w0.heap.size w0 wr) (hy : RowOk y) (hl : k + 1 ≤ 1000000000) (ty : TypeId) :
    ∃ a' c' w3, (Builtin.append_ #[22, 22] ty #[.slice aa k ca, .slice (some ⟨wr.heap.size, 0, none⟩) 1 1]).run Try.prog (wr.alloc (.cells (Tn.cells (false, y)).toArray 41)) = .ok (.slice a' (k + 1) c') w3 ∧ w3.ownsRow w0.heap.size 41 25 (.slice a' (k + 1) c') (k + 1) (flatT (againT (rs ++ [y]))) ∧ Below w0.heap.size w0 w3 := by
  have ha := (Below.refl wr.heap.size wr).alloc (Nat.le_refl _) (.cells (Tn.cells (false, y)).toArray 41)
  have hb2 := hb.trans (ha.mono hb.size)
  obtain ⟨o', w3, h1, h2, h3, _⟩ := app_turns (ts1 := againT rs) (by simp [againT, hk]) (own_below own ha) hb2 hb2.size (LtC_new wr hy) (by simpa using hl) ty
  obtain ⟨a', c', rfl, _⟩ := own_form h2
  exact ⟨a', c', w3, h1, by simpa [againT] using h2, h3⟩
/-- a turn of a list that came in, loaded -/
theorem Lt.loads {w : World} {a : Option Addr} {c : Nat} {ts : List Tn} (h : LtC w (.slice a ts.length c) ts) {k : Nat} {x : Tn} (hx : ts[k]? = some x) : ∃ g off, a = some ⟨g, off, none⟩ ∧ RowOk x.2 ∧ ∀ u, Below w.heap.size w u → (loadVar 4 ⟨g, off + k * 25, none⟩).run Try.prog u = .ok (.bool x.1) u ∧ (loadVar 27 ⟨g, off + k * 25 + 1, none⟩).run Try.prog u = .ok (rowV x.2) u := by
  obtain ⟨ok, a', c', e, h2⟩ := h.lt
  cases e
  obtain ⟨g, off, rfl, hg, hc, hr⟩ := h2 k x hx
  have hro := ok x (List.mem_of_getElem? hx)
  exact ⟨g, off, rfl, hro, fun u hu => ⟨run_loadBoolB ((hu.cell (p := ⟨g, _, none⟩) hg).trans hc), run_loadTurn hro.len (fun j v hv => (hu.cell (p := ⟨g, off + k * 25 + 1 + j, none⟩) hg).trans (hr j v hv))⟩⟩
end Go.Proofs.Ytfkggabdjcabcaa
