import Derived.Test.YtekjoccbbamehaaProg
import Derived.Maps.OwnSet
import Derived.Maps.AppendAt
import Derived.Deep.OwnRows
import Derived.DeepKeys4
import Derived.WalkKit
import Derived.Lib.Hide
namespace Go.Proofs.Ytekjoccbbamehaa
open Go.RowKit Go.Maps Go.ChangeMaps
set_option linter.unusedVariables false
set_option linter.unusedSimpArgs false

/-! rows: 24 numbers of 32 bits -/
structure RowOk (r : List Int) : Prop where
  len : r.length = 24
  num : ∀ x ∈ r, (Lit.int .i32 x).wf = true
def cellI (x : Int) : Value := .int .i32 x
def rowV (r : List Int) : Value := .agg (r.map cellI).toArray
theorem cellI_inj {a b : Int} (h : cellI a = cellI b) : a = b := by
  unfold cellI at h
  injection h
theorem map_cellI_inj : ∀ {a b : List Int}, a.map cellI = b.map cellI → a = b
  | [], [], _ => rfl
  | [], _ :: _, h => by simp at h
  | _ :: _, [], h => by simp at h
  | x :: a, y :: b, h => by
    simp only [List.map_cons, List.cons.injEq] at h
    rw [cellI_inj h.1, map_cellI_inj h.2]
theorem rowV_inj {a b : List Int} (h : rowV a = rowV b) : a = b := by
  unfold rowV at h
  injection h with h
  exact map_cellI_inj (by simpa using congrArg Array.toList h)
theorem laidOutR : laidOutB Try.prog = true := by kernel_rfl
theorem rowRow : (34 : TypeId) < Try.prog.types.size := of_decide_eq_true (by kernel_rfl)
theorem rowWide : (match Try.prog.underlying 34 with | some (.array _ _) | some (.struct _) => true | _ => false) = true := by rw [Try.underlying34]
set_option maxRecDepth 100000 in
theorem keyedR : Keyed Try.prog 34 := Keyed.of_law (deep_law_laid laidOutR (m := 3) (by omega) rowRow (by kernel_rfl) rowWide)
theorem rowFit : Try.prog.keyType 34 = true := by kernel_rfl
theorem rowFuel : ∃ f, Try.prog.types.size + 1 = f + 2 := by
  have h : 0 < Try.prog.types.size := Nat.lt_of_le_of_lt (Nat.zero_le _) rowRow
  generalize Try.prog.types.size = n at h
  exact ⟨n - 1, by omega⟩
theorem cellsRow : Try.prog.cellsOf 34 = 24 := by kernel_rfl
theorem cellsSym : Try.prog.cellsOf 32 = 1 := by kernel_rfl
theorem mapM_some {α β : Type} (f : α → Option β) (g : α → β) : ∀ (l : List α), (∀ x ∈ l, f x = some (g x)) → l.mapM f = some (l.map g)
  | [], _ => rfl
  | x :: l, h => by
    rw [List.mapM_cons, h x (by simp), mapM_some f g l (fun y hy => h y (by simp [hy]))]
    rfl
theorem keyOf_row (r : List Int) (h : RowOk r) : ∃ l, keyOf Try.prog 34 (rowV r) = some l := by
  have hlen : (r.map cellI).length = 24 := by rw [List.length_map, h.len]
  have hf : (rowV r).formed Try.prog 34 = true := by simp [rowV, Value.formed, Try.underlying34, cellsRow, hlen, h.len]
  obtain ⟨f, hfu⟩ := rowFuel
  have hl : Try.prog.keyLits (Try.prog.types.size + 1) 34 (rowV r).cells.toList = some (((List.range 24).map fun i => [Lit.int .i32 (r.getD i 0)]).flatten) := by
    rw [hfu]
    have hc : (rowV r).cells.toList = r.map cellI := by simp [rowV, Value.cells]
    rw [hc]
    unfold Program.keyLits
    rw [Try.underlying34]
    simp only [hlen, cellsRow, if_true, cellsSym]
    rw [mapM_some _ (fun i => [Lit.int .i32 (r.getD i 0)])]
    · rfl
    · intro i hi
      have hi24 : i < 24 := List.mem_range.1 hi
      have e : ((r.map cellI).drop (i * 1)).take 1 = [cellI (r.getD i 0)] := by
        rw [Nat.mul_one, List.drop_eq_getElem_cons (by rw [hlen]; exact hi24)]
        simp [List.getD, List.getElem?_eq_getElem (show i < r.length by rw [h.len]; exact hi24)]
      rw [e]
      have hw := h.num (r.getD i 0) (by simp [List.getD, List.getElem?_eq_getElem (show i < r.length by rw [h.len]; exact hi24)])
      unfold Program.keyLits cellI
      rw [Try.underlying32]
      exact if_pos ⟨rfl, hw⟩
  refine ⟨.string (keyBytes (((List.range 24).map fun i => [Lit.int .i32 (r.getD i 0)]).flatten)), ?_⟩
  unfold keyOf
  rw [Try.underlying34]
  simp only [rowFit, hf, hl]
  rfl
/-- block b is the map from these rows to their numbers -/
def entR (p : List Int × Nat) : Value × Value := (rowV p.1, .int .i64 (p.2 : Int))
def MapR (w : World) (b : Nat) (rows : List (List Int)) : Prop :=
  ∃ es clock, w.heap[b]? = some (.map es clock) ∧ es.toList.map (fun e => (e.key, e.val)) = rows.zipIdx.map entR ∧ ∀ r ∈ rows, RowOk r
theorem MapR.lt {w : World} {b : Nat} {rows : List (List Int)} (h : MapR w b rows) : b < w.heap.size := by
  obtain ⟨es, c, hb, _⟩ := h
  exact (Array.getElem?_eq_some_iff.1 hb).1
theorem MapR.of_block {w w' : World} {b : Nat} {rows : List (List Int)} (h : MapR w b rows) (e : w'.heap[b]? = w.heap[b]?) : MapR w' b rows := by
  obtain ⟨es, c, hb, r⟩ := h
  exact ⟨es, c, e.trans hb, r⟩
theorem MapR.below {w w' : World} {b : Nat} {rows : List (List Int)} (h : MapR w b rows) (hb : Below w.heap.size w w') : MapR w' b rows := h.of_block (hb.block b h.lt)
theorem MapR.made (w : World) : MapR (w.alloc (.map #[] 0)) w.heap.size [] := ⟨#[], 0, heap_alloc_new w _, rfl, by simp⟩
theorem rents_at {es : Array MapEntry} {rows : List (List Int)} (h : es.toList.map (fun e => (e.key, e.val)) = rows.zipIdx.map entR) {j : Nat} {e : MapEntry} (hj : es.toList[j]? = some e) : ∃ r, rows[j]? = some r ∧ e.key = rowV r ∧ e.val = .int .i64 (j : Int) := by
  have h1 := congrArg (fun l => l[j]?) h
  simp only [List.getElem?_map, hj, Option.map_some, List.getElem?_zipIdx] at h1
  cases hr : rows[j]? with
  | none => rw [hr] at h1; cases h1
  | some r =>
    rw [hr] at h1
    simp only [Option.map_some, entR, Option.some.injEq, Prod.mk.injEq] at h1
    refine ⟨r, rfl, h1.1, ?_⟩
    rw [h1.2]
    simp
theorem rents_keys {es : Array MapEntry} {rows : List (List Int)} (h : es.toList.map (fun e => (e.key, e.val)) = rows.zipIdx.map entR) (hw : ∀ r ∈ rows, RowOk r) : ∀ e ∈ es.toList, ∃ l, keyOf Try.prog 34 e.key = some l := by
  intro e he
  obtain ⟨j, hj⟩ := List.getElem?_of_mem he
  obtain ⟨r, hr, hk, _⟩ := rents_at h hj
  rw [hk]
  exact keyOf_row r (hw r (List.mem_of_getElem? hr))
theorem rents_no {es : Array MapEntry} {rows : List (List Int)} (h : es.toList.map (fun e => (e.key, e.val)) = rows.zipIdx.map entR) {r : List Int} (hn : ∀ e ∈ es.toList, e.key ≠ rowV r) : r ∉ rows := by
  intro hr
  obtain ⟨j, hj⟩ := List.getElem?_of_mem hr
  have hl := congrArg List.length h
  rw [List.length_map, List.length_map, List.length_zipIdx] at hl
  have hj' : j < es.toList.length := by rw [hl]; exact (List.getElem?_eq_some_iff.1 hj).1
  obtain ⟨x, hx, hk, _⟩ := rents_at h (List.getElem?_eq_getElem hj')
  rw [hj] at hx
  cases hx
  exact hn _ (List.getElem_mem hj') hk
theorem zeroIdx (w : World) : (zeroValue 3).run Try.prog w = .ok (.int .i64 0) w := by kernel_rfl
/-- 'i, ok := m[r]' where r is not there, and where it is -/
theorem MapR.look_no {w : World} {b : Nat} {rows : List (List Int)} (h : MapR w b rows) {r : List Int} (hr : RowOk r) (hn : r ∉ rows) :
    (Instr.lookup 61 (.map (some b)) (rowV r) true).run Try.prog w = .ok (.tuple #[.int .i64 0, .bool false]) w := by
  obtain ⟨es, c, hb, hes, hw⟩ := h
  obtain ⟨l, hl⟩ := keyOf_row r hr
  rcases keyedR.find w hl es.toList (rents_keys hes hw) with ⟨h1, h2⟩ | ⟨j, e, h1, h2, h3⟩
  · simp [Instr.lookup, run_underlying Try.underlying61, MapKept.run_getObj_map hb, keyedR.check w _ hl, h1, Result.andThen, zeroIdx]
  · obtain ⟨q, hq, hk, _⟩ := rents_at hes h2
    exact absurd (List.mem_of_getElem? hq) (by rw [rowV_inj (hk.symm.trans h3)]; exact hn)
theorem MapR.look_yes {w : World} {b : Nat} {rows : List (List Int)} (h : MapR w b rows) (nd : rows.Nodup) {r : List Int} {i : Nat} (hi : rows[i]? = some r) :
    (Instr.lookup 61 (.map (some b)) (rowV r) true).run Try.prog w = .ok (.tuple #[.int .i64 (i : Int), .bool true]) w := by
  obtain ⟨es, c, hb, hes, hw⟩ := h
  obtain ⟨l, hl⟩ := keyOf_row r (hw r (List.mem_of_getElem? hi))
  rcases keyedR.find w hl es.toList (rents_keys hes hw) with ⟨h1, h2⟩ | ⟨j, e, h1, h2, h3⟩
  · exact absurd (List.mem_of_getElem? hi) (rents_no hes h2)
  · obtain ⟨q, hq, hk, hv⟩ := rents_at hes h2
    have e0 : q = r := rowV_inj (hk.symm.trans h3)
    subst e0
    obtain ⟨i1, i2⟩ := List.getElem?_eq_some_iff.1 hi
    obtain ⟨j1, j2⟩ := List.getElem?_eq_some_iff.1 hq
    have nd' := List.pairwise_iff_getElem.1 nd
    have : j = i := by
      rcases Nat.lt_trichotomy i j with h | h | h
      · exact absurd (i2.trans j2.symm) (nd' i j i1 j1 h)
      · exact h.symm
      · exact absurd (j2.trans i2.symm) (nd' j i j1 i1 h)
    subst this
    simp [Instr.lookup, run_underlying Try.underlying61, MapKept.run_getObj_map hb, keyedR.check w _ hl, h1, hv, Result.andThen]
/-- 'm[r] = len(rows)' where r is not there -/
theorem MapR.put {w : World} {b : Nat} {rows : List (List Int)} (h : MapR w b rows) {r : List Int} (hr : RowOk r) (hn : r ∉ rows) :
    ∃ w', (Instr.mapUpdate 61 (.map (some b)) (rowV r) (.int .i64 (rows.length : Int))).run Try.prog w = .ok () w' ∧ MapR w' b (rows ++ [r]) ∧ w.mapTurned w' b := by
  obtain ⟨es, c, hb, hes, hw⟩ := h
  obtain ⟨l, hl⟩ := keyOf_row r hr
  rcases keyedR.find w hl es.toList (rents_keys hes hw) with ⟨h1, h2⟩ | ⟨j, e, h1, h2, h3⟩
  · refine ⟨setBlock w b (.map (es.push ⟨rowV r, .int .i64 (rows.length : Int), c⟩) (c + 1)), by simp [Instr.mapUpdate, run_underlying Try.underlying61, MapKept.run_getObj_map hb, keyedR.check w false hl, h1, MapKept.run_setObj_map _ hb, Result.andThen, setBlock], ⟨_, _, heap_setBlock_same hb _, ?_, ?_⟩, ?_⟩
    · rw [List.zipIdx_append]
      simp [hes, entR]
    · intro q hq
      rcases List.mem_append.1 hq with hq | hq
      · exact hw q hq
      · rw [List.mem_singleton.1 hq]; exact hr
    · exact ⟨es, c, _, _, hb, rfl⟩
  · obtain ⟨q, hq, hk, _⟩ := rents_at hes h2
    exact absurd (List.mem_of_getElem? hq) (by rw [rowV_inj (hk.symm.trans h3)]; exact hn)
end Go.Proofs.Ytekjoccbbamehaa
