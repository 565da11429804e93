import Derived.Test.YtlnhnpfgmiffpaaProg
import Derived.Maps.OwnSet
import Derived.Maps.AppendAt
import Derived.Deep.OwnRows
import Derived.DeepKeys4
import Derived.WalkKit
import Derived.Lib.Hide
import Derived.WalkSpells
import Derived.WalkLawsBesides
import Derived.Below
import Derived.OwnWalk
import Derived.Deep.RegionHeld3
import Derived.Deep.DrawnRows
import Derived.Deep.Light
import Derived.Deep.DeepCutAuto
import Derived.BigQuiet
import Derived.Deep.QuietTactic
import Derived.Deep.WholeRow
import Derived.Deep.MidRow
section
namespace Go.Proofs.Ytlnhnpfgmiffpaa
open Go.RowKit Go.Maps Go.ChangeMaps
set_option linter.unusedVariables false
set_option linter.unusedSimpArgs false

/-! rows: 24 numbers of 32 bits -/
structure RowOk (r : List Int) : Prop where
  len : r.length = 24
  num : ∀ x ∈ r, (Lit.int .i32 x).wf = true
def cellI (x : Int) : Value := .int .i32 x
def rowV (r : List Int) : Value := .agg (r.map cellI).toArray
theorem cellI_inj {a b : Int} (h : cellI a = cellI b) : a = b := by
  unfold cellI at h
  injection h
theorem map_cellI_inj : ∀ {a b : List Int}, a.map cellI = b.map cellI → a = b
  | [], [], _ => rfl
  | [], _ :: _, h => by simp at h
  | _ :: _, [], h => by simp at h
  | x :: a, y :: b, h => by
    simp only [List.map_cons, List.cons.injEq] at h
    rw [cellI_inj h.1, map_cellI_inj h.2]
theorem rowV_inj {a b : List Int} (h : rowV a = rowV b) : a = b := by
  unfold rowV at h
  injection h with h
  exact map_cellI_inj (by simpa using congrArg Array.toList h)
theorem laidOutR : laidOutB Try.prog = true := by kernel_rfl
theorem rowRow : (40 : TypeId) < Try.prog.types.size := of_decide_eq_true (by kernel_rfl)
theorem rowWide : (match Try.prog.underlying 40 with | some (.array _ _) | some (.struct _) => true | _ => false) = true := by rw [Try.underlying40]
set_option maxRecDepth 100000 in
theorem keyedR : Keyed Try.prog 40 := Keyed.of_law (deep_law_laid laidOutR (m := 3) (by omega) rowRow (by kernel_rfl) rowWide)
theorem rowFit : Try.prog.keyType 40 = true := by kernel_rfl
theorem rowFuel : ∃ f, Try.prog.types.size + 1 = f + 2 := by
  have h : 0 < Try.prog.types.size := Nat.lt_of_le_of_lt (Nat.zero_le _) rowRow
  generalize Try.prog.types.size = n at h
  exact ⟨n - 1, by omega⟩
theorem cellsRow : Try.prog.cellsOf 40 = 24 := by kernel_rfl
theorem cellsSym : Try.prog.cellsOf 38 = 1 := by kernel_rfl
theorem mapM_some {α β : Type} (f : α → Option β) (g : α → β) : ∀ (l : List α), (∀ x ∈ l, f x = some (g x)) → l.mapM f = some (l.map g)
  | [], _ => rfl
  | x :: l, h => by
    rw [List.mapM_cons, h x (by simp), mapM_some f g l (fun y hy => h y (by simp [hy]))]
    rfl
theorem keyOf_row (r : List Int) (h : RowOk r) : ∃ l, keyOf Try.prog 40 (rowV r) = some l := by
  have hlen : (r.map cellI).length = 24 := by rw [List.length_map, h.len]
  have hf : (rowV r).formed Try.prog 40 = true := by simp [rowV, Value.formed, Try.underlying40, cellsRow, hlen, h.len]
  obtain ⟨f, hfu⟩ := rowFuel
  have hl : Try.prog.keyLits (Try.prog.types.size + 1) 40 (rowV r).cells.toList = some (((List.range 24).map fun i => [Lit.int .i32 (r.getD i 0)]).flatten) := by
    rw [hfu]
    have hc : (rowV r).cells.toList = r.map cellI := by simp [rowV, Value.cells]
    rw [hc]
    unfold Program.keyLits
    rw [Try.underlying40]
    simp only [hlen, cellsRow, if_true, cellsSym]
    rw [mapM_some _ (fun i => [Lit.int .i32 (r.getD i 0)])]
    · rfl
    · intro i hi
      have hi24 : i < 24 := List.mem_range.1 hi
      have e : ((r.map cellI).drop (i * 1)).take 1 = [cellI (r.getD i 0)] := by
        rw [Nat.mul_one, List.drop_eq_getElem_cons (by rw [hlen]; exact hi24)]
        simp [List.getD, List.getElem?_eq_getElem (show i < r.length by rw [h.len]; exact hi24)]
      rw [e]
      have hw := h.num (r.getD i 0) (by simp [List.getD, List.getElem?_eq_getElem (show i < r.length by rw [h.len]; exact hi24)])
      unfold Program.keyLits cellI
      rw [Try.underlying38]
      exact if_pos ⟨rfl, hw⟩
  refine ⟨.string (keyBytes (((List.range 24).map fun i => [Lit.int .i32 (r.getD i 0)]).flatten)), ?_⟩
  unfold keyOf
  rw [Try.underlying40]
  simp only [rowFit, hf, hl]
  rfl
/-- block b is the map from these rows to their numbers -/
def entR (p : List Int × Nat) : Value × Value := (rowV p.1, .int .i64 (p.2 : Int))
def MapR (w : World) (b : Nat) (rows : List (List Int)) : Prop :=
  ∃ es clock, w.heap[b]? = some (.map es clock) ∧ es.toList.map (fun e => (e.key, e.val)) = rows.zipIdx.map entR ∧ ∀ r ∈ rows, RowOk r
theorem MapR.lt {w : World} {b : Nat} {rows : List (List Int)} (h : MapR w b rows) : b < w.heap.size := by
  obtain ⟨es, c, hb, _⟩ := h
  exact (Array.getElem?_eq_some_iff.1 hb).1
theorem MapR.of_block {w w' : World} {b : Nat} {rows : List (List Int)} (h : MapR w b rows) (e : w'.heap[b]? = w.heap[b]?) : MapR w' b rows := by
  obtain ⟨es, c, hb, r⟩ := h
  exact ⟨es, c, e.trans hb, r⟩
theorem MapR.below {w w' : World} {b : Nat} {rows : List (List Int)} (h : MapR w b rows) (hb : Below w.heap.size w w') : MapR w' b rows := h.of_block (hb.block b h.lt)
theorem MapR.made (w : World) : MapR (w.alloc (.map #[] 0)) w.heap.size [] := ⟨#[], 0, heap_alloc_new w _, rfl, by simp⟩
theorem rents_at {es : Array MapEntry} {rows : List (List Int)} (h : es.toList.map (fun e => (e.key, e.val)) = rows.zipIdx.map entR) {j : Nat} {e : MapEntry} (hj : es.toList[j]? = some e) : ∃ r, rows[j]? = some r ∧ e.key = rowV r ∧ e.val = .int .i64 (j : Int) := by
  have h1 := congrArg (fun l => l[j]?) h
  simp only [List.getElem?_map, hj, Option.map_some, List.getElem?_zipIdx] at h1
  cases hr : rows[j]? with
  | none => rw [hr] at h1; cases h1
  | some r =>
    rw [hr] at h1
    simp only [Option.map_some, entR, Option.some.injEq, Prod.mk.injEq] at h1
    refine ⟨r, rfl, h1.1, ?_⟩
    rw [h1.2]
    simp
theorem rents_keys {es : Array MapEntry} {rows : List (List Int)} (h : es.toList.map (fun e => (e.key, e.val)) = rows.zipIdx.map entR) (hw : ∀ r ∈ rows, RowOk r) : ∀ e ∈ es.toList, ∃ l, keyOf Try.prog 40 e.key = some l := by
  intro e he
  obtain ⟨j, hj⟩ := List.getElem?_of_mem he
  obtain ⟨r, hr, hk, _⟩ := rents_at h hj
  rw [hk]
  exact keyOf_row r (hw r (List.mem_of_getElem? hr))
theorem rents_no {es : Array MapEntry} {rows : List (List Int)} (h : es.toList.map (fun e => (e.key, e.val)) = rows.zipIdx.map entR) {r : List Int} (hn : ∀ e ∈ es.toList, e.key ≠ rowV r) : r ∉ rows := by
  intro hr
  obtain ⟨j, hj⟩ := List.getElem?_of_mem hr
  have hl := congrArg List.length h
  rw [List.length_map, List.length_map, List.length_zipIdx] at hl
  have hj' : j < es.toList.length := by rw [hl]; exact (List.getElem?_eq_some_iff.1 hj).1
  obtain ⟨x, hx, hk, _⟩ := rents_at h (List.getElem?_eq_getElem hj')
  rw [hj] at hx
  cases hx
  exact hn _ (List.getElem_mem hj') hk
theorem zeroIdx (w : World) : (zeroValue 3).run Try.prog w = .ok (.int .i64 0) w := by kernel_rfl
/-- 'i, ok := m[r]' where r is not there, and where it is -/
theorem MapR.look_no {w : World} {b : Nat} {rows : List (List Int)} (h : MapR w b rows) {r : List Int} (hr : RowOk r) (hn : r ∉ rows) :
    (Instr.lookup 50 (.map (some b)) (rowV r) true).run Try.prog w = .ok (.tuple #[.int .i64 0, .bool false]) w := by
  obtain ⟨es, c, hb, hes, hw⟩ := h
  obtain ⟨l, hl⟩ := keyOf_row r hr
  rcases keyedR.find w hl es.toList (rents_keys hes hw) with ⟨h1, h2⟩ | ⟨j, e, h1, h2, h3⟩
  · simp [Instr.lookup, run_underlying Try.underlying50, MapKept.run_getObj_map hb, keyedR.check w _ hl, h1, Result.andThen, zeroIdx]
  · obtain ⟨q, hq, hk, _⟩ := rents_at hes h2
    exact absurd (List.mem_of_getElem? hq) (by rw [rowV_inj (hk.symm.trans h3)]; exact hn)
theorem MapR.look_yes {w : World} {b : Nat} {rows : List (List Int)} (h : MapR w b rows) (nd : rows.Nodup) {r : List Int} {i : Nat} (hi : rows[i]? = some r) :
    (Instr.lookup 50 (.map (some b)) (rowV r) true).run Try.prog w = .ok (.tuple #[.int .i64 (i : Int), .bool true]) w := by
  obtain ⟨es, c, hb, hes, hw⟩ := h
  obtain ⟨l, hl⟩ := keyOf_row r (hw r (List.mem_of_getElem? hi))
  rcases keyedR.find w hl es.toList (rents_keys hes hw) with ⟨h1, h2⟩ | ⟨j, e, h1, h2, h3⟩
  · exact absurd (List.mem_of_getElem? hi) (rents_no hes h2)
  · obtain ⟨q, hq, hk, hv⟩ := rents_at hes h2
    have e0 : q = r := rowV_inj (hk.symm.trans h3)
    subst e0
    obtain ⟨i1, i2⟩ := List.getElem?_eq_some_iff.1 hi
    obtain ⟨j1, j2⟩ := List.getElem?_eq_some_iff.1 hq
    have nd' := List.pairwise_iff_getElem.1 nd
    have : j = i := by
      rcases Nat.lt_trichotomy i j with h | h | h
      · exact absurd (i2.trans j2.symm) (nd' i j i1 j1 h)
      · exact h.symm
      · exact absurd (j2.trans i2.symm) (nd' j i j1 i1 h)
    subst this
    simp [Instr.lookup, run_underlying Try.underlying50, MapKept.run_getObj_map hb, keyedR.check w _ hl, h1, hv, Result.andThen]
/-- 'm[r] = len(rows)' where r is not there -/
theorem MapR.put {w : World} {b : Nat} {rows : List (List Int)} (h : MapR w b rows) {r : List Int} (hr : RowOk r) (hn : r ∉ rows) :
    ∃ w', (Instr.mapUpdate 50 (.map (some b)) (rowV r) (.int .i64 (rows.length : Int))).run Try.prog w = .ok () w' ∧ MapR w' b (rows ++ [r]) ∧ w.mapTurned w' b := by
  obtain ⟨es, c, hb, hes, hw⟩ := h
  obtain ⟨l, hl⟩ := keyOf_row r hr
  rcases keyedR.find w hl es.toList (rents_keys hes hw) with ⟨h1, h2⟩ | ⟨j, e, h1, h2, h3⟩
  · refine ⟨setBlock w b (.map (es.push ⟨rowV r, .int .i64 (rows.length : Int), c⟩) (c + 1)), by simp [Instr.mapUpdate, run_underlying Try.underlying50, MapKept.run_getObj_map hb, keyedR.check w false hl, h1, MapKept.run_setObj_map _ hb, Result.andThen, setBlock], ⟨_, _, heap_setBlock_same hb _, ?_, ?_⟩, ?_⟩
    · rw [List.zipIdx_append]
      simp [hes, entR]
    · intro q hq
      rcases List.mem_append.1 hq with hq | hq
      · exact hw q hq
      · rw [List.mem_singleton.1 hq]; exact hr
    · exact ⟨es, c, _, _, hb, rfl⟩
  · obtain ⟨q, hq, hk, _⟩ := rents_at hes h2
    exact absurd (List.mem_of_getElem? hq) (by rw [rowV_inj (hk.symm.trans h3)]; exact hn)
end Go.Proofs.Ytlnhnpfgmiffpaa
end
section
namespace Go.Proofs.Ytlnhnpfgmiffpaa
open Go.RowKit Go.Maps
set_option linter.unusedVariables false
set_option linter.unusedSimpArgs false
attribute [local go_sem ↓] Go.wp_at_zero Go.wp_at_succ

theorem infoRow : (Try.prog.info? 40).map (·.size) = some 24 := by kernel_rfl
abbrev rowC (r : List Int) : Array Value := (r.map cellI).toArray
theorem rowC_size {r : List Int} (h : r.length = 24) : (rowC r).size = 24 := by simp [rowC, h]
/-- block b holds this row -/
def RowAt (w : World) (b : Nat) (r : List Int) : Prop := w.heap[b]? = some (.cells (rowC r) 40 (0, 0))
theorem RowAt.lt {w : World} {b : Nat} {r : List Int} (h : RowAt w b r) : b < w.heap.size := (Array.getElem?_eq_some_iff.1 h).1
theorem RowAt.below {w w' : World} {b : Nat} {r : List Int} (h : RowAt w b r) (hb : Below w.heap.size w w') : RowAt w' b r := (hb.block b h.lt).trans h
theorem rowAt_new (w : World) (r : List Int) : RowAt (w.alloc (.cells (rowC r) 40)) w.heap.size r := heap_alloc_new w _
theorem run_loadRow {w : World} {b : Nat} {r : List Int} (h : RowAt w b r) (hl : r.length = 24) : (loadVar 40 ⟨b, 0, none⟩).run Try.prog w = .ok (rowV r) w :=
  run_loadVar_row _ _ 40 40 (rowC r) (0, 0) _ h Try.underlying40 rfl (by rw [rowC_size hl]; exact infoRow)
/-- may a row be one of this many columns? -/
def fitAt (r : List Int) (n : Int) (i : Nat) : Bool := decide (0 ≤ r.getD i 0) && (decide ((i : Int) < n) || decide (r.getD i 0 = 0))
def fitB (r : List Int) (n : Int) : Bool := (List.range 24).all (fitAt r n)
theorem run_indexRow {r : List Int} (hl : r.length = 24) {k : Nat} (hk : k < 24) (w : World) : (Instr.index 40 (.agg (List.map cellI r).toArray) (.int .i64 (k : Int))).run Try.prog w = .ok (.int .i32 (r.getD k 0)) w := by
  have h1 : (k : Int) < 24 := by omega
  have h0 : (0 : Int) ≤ (k : Int) := by omega
  have h2 : k < r.length := by omega
  have hg : (List.map cellI r)[k]? = some (.int .i32 (r.getD k 0)) := by simp [cellI, List.getD, List.getElem?_eq_getElem h2]
  unfold Instr.index
  simp [run_underlying Try.underlying40, h0, h1, go_sem, hk, List.getElem?_eq_getElem h2, cellI]
attribute [-go_sem] loadVar
set_option maxHeartbeats 1600000 in
set_option maxRecDepth 100000 in
theorem fits_any (r : List Int) (hl : r.length = 24) (n : Int) (w : World) : Calls Try.prog 39 #[rowV r, .int .i64 n] w fun e w' => e = .returned (.bool (fitB r n)) ∧ Below w.heap.size w w' := by
  have HB := Lib.hid ((Below.refl w.heap.size w).alloc (Nat.le_refl _) (.cells (rowC r) 40))
  have HL := run_loadRow (rowAt_new w r) hl
  have HW : Hid (∀ i, i < 24 → (rowC r)[i]? = some (.int .i32 (r.getD i 0))) := fun i hi => by
    have h2 : i < r.length := by omega
    simp [rowC, cellI, List.getD, List.getElem?_eq_getElem h2]
  have hsz : (List.map cellI r).length = 24 := by simp [hl]
  unfold rowV at *
  go_enter Try.func39, Try.ntmps39
  go_upto_region 1 with fail
  generalize w.alloc (.cells (rowC r) 40) = W at HB HL ⊢
  go_wp2
  clear HL
  go_loopw [8] (fun i wr => ∃ k : Nat, k ≤ 24 ∧ i = .int .i64 k ∧ wr = W ∧ Hid ((List.range k).all (fitAt r n) = true)) (fun i _ => 24 - (intOf i).toNat)
  case atStart => exact ⟨0, by omega, rfl, rfl, rfl⟩
  case round =>
    obtain ⟨k, hk, rfl, hwr, HA⟩ := hrel
    by_cases hlt : k < 24
    · have hlt' : (k : Int) < 24 := by omega
      have hk0 : (0 : Int) ≤ (k : Int) := by omega
      have hg := run_indexRow hl hlt
      have HN : Hid ((List.range (k + 1)).all (fitAt r n) = (decide (0 ≤ r.getD k 0) && (decide ((k : Int) < n) || decide (r.getD k 0 = 0)))) := by
        show _ = _
        rw [List.range_succ, List.all_append, HA.out, Bool.true_and]
        show (fitAt r n k && true) = _
        rw [Bool.and_true]
        rfl
      have HX : Hid ((decide (0 ≤ r.getD k 0) && (decide ((k : Int) < n) || decide (r.getD k 0 = 0))) = false → fitB r n = false) := fun h => by
        unfold fitB
        rw [List.all_eq_false]
        exact ⟨k, List.mem_range.2 hlt, by rw [show fitAt r n k = false from h]; simp⟩
      generalize r.getD k 0 = x at hg HN HX
      by_cases hx : x < 0
      · have HF : Hid (fitB r n = false) := HX.out (by simp; intro h; omega)
        clear HN HX
        go_wp2
        go_ret
        exact ⟨by rw [HF.out]; rfl, HB.out⟩
      · by_cases hkn : n ≤ (k : Int)
        · by_cases hx0 : x = 0
          · have hb : (x != 0) = false := by rw [hx0]; rfl
            have HK : Hid ((List.range (k + 1)).all (fitAt r n) = true) := by show _ = _; rw [HN.out]; simp [hx0]
            clear HN HX
            go_wp2
            go_roundw
            case rel => exact ⟨k + 1, by omega, by go_num, by first | rfl | trivial, HK⟩
            case measure => simp [intOf]; omega
          · have hb : (x != 0) = true := by simpa using hx0
            have HF : Hid (fitB r n = false) := HX.out (by simp; intro _; exact ⟨hkn, hx0⟩)
            clear HN HX
            go_wp2
            go_ret
            exact ⟨by rw [HF.out]; rfl, HB.out⟩
        · have HK : Hid ((List.range (k + 1)).all (fitAt r n) = true) := by show _ = _; rw [HN.out]; simp; omega
          clear HN HX
          go_wp2
          go_roundw
          case rel => exact ⟨k + 1, by omega, by go_num, by first | rfl | trivial, HK⟩
          case measure => simp [intOf]; omega
    · obtain rfl : k = 24 := by omega
      have HF : Hid (fitB r n = true) := HA.out
      go_wp2
      go_ret
      exact ⟨by rw [HF.out]; rfl, HB.out⟩
end Go.Proofs.Ytlnhnpfgmiffpaa
end
section
namespace Go.Proofs.Ytlnhnpfgmiffpaa
open Go.RowKit Go.Maps
set_option linter.unusedVariables false
set_option linter.unusedSimpArgs false
attribute [local go_sem ↓] Go.wp_at_zero Go.wp_at_succ

theorem RowAt.cellF {w : World} {b : Nat} {r : List Int} (h : RowAt w b r) (hl : r.length = 24) {k : Nat} (hk : k < 24) : w.cell? ⟨b, k, none⟩ = some (.int .i32 (r.getD k 0)) := by
  have h1 : w.heap[b]? = some (.cells (rowC r) 40 (0, 0)) := h
  have h2 : k < r.length := by omega
  simp [World.cell?, h1, rowC, cellI, List.getD, List.getElem?_eq_getElem h2]
set_option maxHeartbeats 1600000 in
set_option maxRecDepth 100000 in
theorem right_any (r : List Int) (hl : r.length = 24) (n : Int) (w : World) : Calls Try.prog 41 #[rowV r, .int .i64 n] w fun e w' => e = .returned (.bool (fitB r n)) ∧ Below w.heap.size w w' := by
  have HB := Lib.hid ((Below.refl w.heap.size w).alloc (Nat.le_refl _) (.cells (rowC r) 40))
  have HL := Lib.hid (rowAt_new w r)
  have HW : Hid (∀ i, i < 24 → (rowC r)[i]? = some (.int .i32 (r.getD i 0))) := fun i hi => by
    have h2 : i < r.length := by omega
    simp [rowC, cellI, List.getD, List.getElem?_eq_getElem h2]
  have hsz : (List.map cellI r).length = 24 := by simp [hl]
  unfold rowV
  go_enter Try.func41, Try.ntmps41
  go_upto_region 1 with fail
  generalize w.alloc (.cells (rowC r) 40) = W at HB HL ⊢
  go_wp2
  go_loopw [5] (fun i wr => ∃ k : Nat, k ≤ 24 ∧ i = .int .i64 k ∧ wr = W ∧ Hid ((List.range k).all (fitAt r n) = true)) (fun i _ => 24 - (intOf i).toNat)
  case atStart => exact ⟨0, by omega, rfl, rfl, rfl⟩
  case round =>
    obtain ⟨k, hk, rfl, hwr, HA⟩ := hrel
    by_cases hlt : k < 24
    · have hlt' : (k : Int) < 24 := by omega
      have hk0 : (0 : Int) ≤ (k : Int) := by omega
      have hg := RowAt.cellF HL.out hl hlt
      have HN : Hid ((List.range (k + 1)).all (fitAt r n) = (decide (0 ≤ r.getD k 0) && (decide ((k : Int) < n) || decide (r.getD k 0 = 0)))) := by
        show _ = _
        rw [List.range_succ, List.all_append, HA.out, Bool.true_and]
        show (fitAt r n k && true) = _
        rw [Bool.and_true]
        rfl
      have HX : Hid ((decide (0 ≤ r.getD k 0) && (decide ((k : Int) < n) || decide (r.getD k 0 = 0))) = false → fitB r n = false) := fun h => by
        unfold fitB
        rw [List.all_eq_false]
        exact ⟨k, List.mem_range.2 hlt, by rw [show fitAt r n k = false from h]; simp⟩
      generalize r.getD k 0 = x at hg HN HX
      by_cases hx : x < 0
      · have HF : Hid (fitB r n = false) := HX.out (by simp; intro h; omega)
        clear HN HX
        go_wp2
        go_ret
        exact ⟨by rw [HF.out]; rfl, HB.out⟩
      · by_cases hkn : n ≤ (k : Int)
        · by_cases hx0 : x = 0
          · have hb : (x != 0) = false := by rw [hx0]; rfl
            have HK : Hid ((List.range (k + 1)).all (fitAt r n) = true) := by show _ = _; rw [HN.out]; simp [hx0]
            clear HN HX
            go_wp2
            go_roundw
            case rel => exact ⟨k + 1, by omega, by go_num, by first | rfl | trivial, HK⟩
            case measure => simp [intOf]; omega
          · have hb : (x != 0) = true := by simpa using hx0
            have HF : Hid (fitB r n = false) := HX.out (by simp; intro _; exact ⟨hkn, hx0⟩)
            clear HN HX
            go_wp2
            go_ret
            exact ⟨by rw [HF.out]; rfl, HB.out⟩
        · have HK : Hid ((List.range (k + 1)).all (fitAt r n) = true) := by show _ = _; rw [HN.out]; simp; omega
          clear HN HX
          go_wp2
          go_roundw
          case rel => exact ⟨k + 1, by omega, by go_num, by first | rfl | trivial, HK⟩
          case measure => simp [intOf]; omega
    · obtain rfl : k = 24 := by omega
      have HF : Hid (fitB r n = true) := HA.out
      go_wp2
      go_ret
      exact ⟨by rw [HF.out]; rfl, HB.out⟩
end Go.Proofs.Ytlnhnpfgmiffpaa
end
section
namespace Go.Proofs.Ytlnhnpfgmiffpaa
open Go.RowKit Go.Maps
set_option linter.unusedVariables false
set_option linter.unusedSimpArgs false
attribute [local go_sem ↓] Go.wp_at_zero Go.wp_at_succ

theorem below_drewV {B : Nat} {a w : World} (h : Below B a w) (n : Nat) : Below B a (w.drewN n) := ⟨h.os, h.tape, h.output, h.size, h.block⟩
/-- a block that holds these cells -/
def RL (w : World) (b : Nat) (t : TypeId) (l : List Value) : Prop := w.rowIs b t l.length (fun j => l.getD j .nilIface)
theorem RL.set {w : World} {b : Nat} {t : TypeId} {l : List Value} (h : RL w b t l) (i : Nat) (v : Value) : RL (w.setCell ⟨b, i, none⟩ v) b t (l.set i v) := by
  unfold RL
  rw [List.length_set]
  refine (World.rowIs.set h i v).congr fun j hj => ?_
  by_cases e : j = i
  · subst e
    rw [if_pos rfl]
    simp [List.getD, List.getElem?_set_self hj]
  · rw [if_neg e]
    simp [List.getD, List.getElem?_set_ne (Ne.symm e)]
theorem RL.other {w : World} {b g i : Nat} {t : TypeId} {l : List Value} (h : RL w b t l) (e : b ≠ g) (v : Value) : RL (w.setCell ⟨g, i, none⟩ v) b t l := World.rowIs.setOther h e v
theorem RL.at {w : World} {b : Nat} {t : TypeId} {l : List Value} (h : RL w b t l) {j : Nat} {v : Value} (e : l[j]? = some v) : w.cell? ⟨b, j, none⟩ = some v := by
  obtain ⟨hj, hv⟩ := List.getElem?_eq_some_iff.1 e
  rw [World.rowIs.cell h hj]
  simp [List.getD, e]
theorem RL.below {w w' : World} {b : Nat} {t : TypeId} {l : List Value} (h : RL w b t l) (hb : Below w.heap.size w w') : RL w' b t l := World.rowIs.of_block h (hb.block b (World.rowIs.lt h))
theorem rl_new (w : World) (c : Array Value) (t : TypeId) : RL (w.alloc (.cells c t)) w.heap.size t c.toList := by
  have := World.rowIs_alloc w c t (fun j => c.toList.getD j .nilIface) (fun i hi => by simp [List.getD, hi])
  unfold RL
  rw [Array.length_toList]
  exact this
theorem rl_results {fn : Func} {sl : Nat} {ty : TypeId} (hr : fn.results = #[.cell sl ty]) {W : World} {tmps : Array Value} {b : Nat} {v : Value} (h2 : tmps.getD sl undef = .pointer (some ⟨b, 0, none⟩)) (hl : (loadVar ty ⟨b, 0, none⟩).run Try.prog W = .ok v W) :
    (results fn tmps).run Try.prog W = .ok v W := by
  have e0 : results fn tmps = (do
      let x ← asAddr (tmps.getD sl undef)
      loadVar ty x) := by
    simp [results, hr]
  rw [e0, h2]
  simp [asAddr, hl, Result.andThen]
theorem RL.range {w : World} {b : Nat} {t : TypeId} {l : List Value} (h : RL w b t l) : ∀ j v, l[j]? = some v → w.cell? ⟨b, 0 + j, none⟩ = some v := fun j v e => by
  rw [Nat.zero_add]
  exact h.at e
end Go.Proofs.Ytlnhnpfgmiffpaa
end
section
namespace Go.Proofs.Ytlnhnpfgmiffpaa
open Go.RowKit Go.Maps
set_option linter.unusedVariables false
set_option linter.unusedSimpArgs false
attribute [local go_sem ↓] Go.wp_at_zero Go.wp_at_succ

theorem own_of_block {w w' : World} {base : Nat} {e : TypeId} {k : Nat} {sv : Value} {n : Nat} {xs : List Value} (h : w.ownsRow base e k sv n xs) (hg : ∀ g, sv.ownBlock = some g → w'.heap[g]? = w.heap[g]?) : w'.ownsRow base e k sv n xs := by
  obtain ⟨hl, h1 | ⟨g, cap, cur, rfl, h0, hb, r⟩⟩ := h
  · exact ⟨hl, .inl h1⟩
  · exact ⟨hl, .inr ⟨g, cap, cur, rfl, h0, (hg g rfl).trans hb, r⟩⟩
theorem own_form {w : World} {base : Nat} {e : TypeId} {k : Nat} {sv : Value} {n : Nat} {xs : List Value} (h : w.ownsRow base e k sv n xs) : ∃ a c, sv = .slice a n c ∧ n ≤ maxLen := by
  obtain ⟨hl, ⟨rfl, rfl⟩ | ⟨g, cap, cur, rfl, _, hb, hn, hc, hs, ht⟩⟩ := h
  · exact ⟨none, 0, rfl, Nat.zero_le _⟩
  · exact ⟨_, cap, rfl, Nat.le_trans hn hc⟩
theorem own_below {w w' : World} {B : Nat} {e : TypeId} {k : Nat} {v : Value} {n : Nat} {xs : List Value} (h : w.ownsRow B e k v n xs) (hb : Below w.heap.size w w') : w'.ownsRow B e k v n xs := own_of_block h (fun g hg => hb.block g (h.lt g hg).2)
/-- a relation in memory: its block t, its map m, its list sv; all of its own from B on -/
structure Rel (w : World) (B t m : Nat) (sv : Value) (rows : List (List Int)) (ar gone : Int) : Prop where
  rl : RL w t 55 [sv, .map (some m), .int .i64 ar, .int .i64 gone]
  own : w.ownsRow B 40 24 sv rows.length (rows.flatMap (fun r => r.map cellI))
  map : MapR w m rows
  nd : rows.Nodup
  ok : ∀ r ∈ rows, RowOk r
  lo : B ≤ t ∧ B ≤ m
  ne : t ≠ m ∧ ∀ g, sv.ownBlock = some g → g ≠ t ∧ g ≠ m
theorem Rel.keep {w w' : World} {B t m : Nat} {sv : Value} {rows : List (List Int)} {ar gone : Int} (h : Rel w B t m sv rows ar gone) (hb : Below w.heap.size w w') : Rel w' B t m sv rows ar gone :=
  ⟨h.rl.below hb, own_below h.own hb, h.map.below hb, h.nd, h.ok, h.lo, h.ne⟩
theorem run_loadMap {w : World} {a : Addr} {v : Value} (h : w.cell? a = some v) : (loadVar 50 a).run Try.prog w = .ok v w := by
  simp [loadVar, go_sem, h]
theorem map_there (m : Nat) (w : World) : (binOp .neq 50 (.map (some m)) (.map none)).run Try.prog w = .ok (.bool true) w := by kernel_rfl
theorem map_gone (w : World) : (binOp .neq 50 (.map none) (.map none)).run Try.prog w = .ok (.bool false) w := by kernel_rfl
set_option maxHeartbeats 800000 in
set_option maxRecDepth 100000 in
theorem there_yes {w : World} {B t m : Nat} {sv : Value} {rows : List (List Int)} {ar gone : Int} (h : Rel w B t m sv rows ar gone) : Calls Try.prog 14 #[.pointer (some ⟨t, 0, none⟩)] w fun e w' => e = .returned (.bool true) ∧ w' = w := by
  have c1 := h.rl.at (j := 1) rfl
  have hm := map_there m w
  clear h
  go_enter Try.func14, Try.ntmps14
  go_wp2
  go_ret
  exact ⟨rfl, rfl⟩
set_option maxHeartbeats 800000 in
set_option maxRecDepth 100000 in
theorem there_nil (w : World) : Calls Try.prog 14 #[.pointer none] w fun e w' => e = .returned (.bool false) ∧ w' = w := by
  go_enter Try.func14, Try.ntmps14
  go_wp2
  go_ret
  exact ⟨rfl, rfl⟩
set_option maxHeartbeats 800000 in
set_option maxRecDepth 100000 in
theorem len_yes {w : World} {B t m : Nat} {sv : Value} {rows : List (List Int)} {ar gone : Int} (h : Rel w B t m sv rows ar gone) : Calls Try.prog 9 #[.pointer (some ⟨t, 0, none⟩)] w fun e w' => e = .returned (.int .i64 (rows.length : Int)) ∧ w' = w := by
  have c0 := h.rl.at (j := 0) rfl
  obtain ⟨a, c, rfl, _⟩ := own_form h.own
  have HT := Lib.hid (there_yes h)
  clear h
  go_enter Try.func9, Try.ntmps9
  go_wp2_with fail
  refine HT.out.mono ?_
  rintro e w1 ⟨rfl, rfl⟩
  go_wp2
  go_ret
  exact ⟨rfl, rfl⟩
set_option maxHeartbeats 800000 in
set_option maxRecDepth 100000 in
theorem arity_yes {w : World} {B t m : Nat} {sv : Value} {rows : List (List Int)} {ar gone : Int} (h : Rel w B t m sv rows ar gone) : Calls Try.prog 36 #[.pointer (some ⟨t, 0, none⟩)] w fun e w' => e = .returned (.int .i64 ar) ∧ w' = w := by
  have c2 := h.rl.at (j := 2) rfl
  have HT := Lib.hid (there_yes h)
  clear h
  go_enter Try.func36, Try.ntmps36
  go_wp2_with fail
  refine HT.out.mono ?_
  rintro e w1 ⟨rfl, rfl⟩
  go_wp2
  go_ret
  exact ⟨rfl, rfl⟩
end Go.Proofs.Ytlnhnpfgmiffpaa
end
