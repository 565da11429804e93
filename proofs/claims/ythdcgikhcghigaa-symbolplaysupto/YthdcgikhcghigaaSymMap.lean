import Derived.Test.YthdcgikhcghigaaVal
import Derived.Maps.OwnSet
import Derived.Maps.AppendAt
import Derived.Deep.OwnRows
import Derived.DeepKeys4
namespace Go.Proofs.Ythdcgikhcghigaa
open Go.RowKit Go.Maps Go.ChangeMaps
set_option linter.unusedVariables false
set_option linter.unusedSimpArgs false

/-- a value: its kind, its number, its text -/
structure V where
  k : Int
  n : Int
  s : ByteArray
deriving DecidableEq

def V.val (v : V) : Value := .agg #[.int .i8 v.k, .int .i64 v.n, .string v.s]
def V.cells (v : V) : List Value := [.int .i8 v.k, .int .i64 v.n, .string v.s]
structure V.wf (v : V) : Prop where
  kind : (Lit.int .i8 v.k).wf = true
  num : (Lit.int .i64 v.n).wf = true
  text : v.s.size ≤ maxLen

theorem V.val_inj {a b : V} (h : a.val = b.val) : a = b := by
  cases a; cases b
  simp only [V.val, Value.agg.injEq] at h
  have h' := congrArg Array.toList h
  simp at h'
  obtain ⟨rfl, rfl, rfl⟩ := h'
  rfl

theorem laidOutP : laidOutB Try.prog = true := by kernel_rfl
theorem keyRow : (39 : TypeId) < Try.prog.types.size := of_decide_eq_true (by kernel_rfl)
theorem keyWide : (match Try.prog.underlying 39 with | some (.array _ _) | some (.struct _) => true | _ => false) = true := by rw [Try.underlying39]
theorem keyed : Keyed Try.prog 39 := Keyed.of_law (deep_law_laid laidOutP (m := 3) (by omega) keyRow (by kernel_rfl) keyWide)
theorem keyFit : Try.prog.keyType 39 = true := by kernel_rfl
theorem keyFuel : ∃ f, Try.prog.types.size + 1 = f + 2 := by
  have h : 0 < Try.prog.types.size := Nat.lt_of_le_of_lt (Nat.zero_le _) keyRow
  generalize Try.prog.types.size = n at h
  exact ⟨n - 1, by omega⟩
theorem cellsKV : Try.prog.cellsOf 39 = 3 := by kernel_rfl
theorem cellsKK : Try.prog.cellsOf 37 = 1 := by kernel_rfl
theorem cellsKN : Try.prog.cellsOf 2 = 1 := by kernel_rfl
theorem cellsKS : Try.prog.cellsOf 9 = 1 := by kernel_rfl

theorem keyOf_v (v : V) (h : v.wf) : ∃ l, keyOf Try.prog 39 v.val = some l := by
  have hf : (v.val).formed Try.prog 39 = true := by simp [V.val, Value.formed, Try.underlying39, cellsKV]
  have hl : Try.prog.keyLits (Try.prog.types.size + 1) 39 v.val.cells.toList = some [.int .i8 v.k, .int .i64 v.n, .string v.s.data.toList] := by
    obtain ⟨f, hf⟩ := keyFuel
    rw [hf]
    simp [Program.keyLits, V.val, Value.cells, Try.underlying39, Try.underlying37, Try.underlying2, Try.underlying9, cellsKV, cellsKK, cellsKN, cellsKS, h.kind, h.num, h.text]
  refine ⟨.string (keyBytes [.int .i8 v.k, .int .i64 v.n, .string v.s.data.toList]), ?_⟩
  unfold keyOf
  rw [Try.underlying39]
  simp only [keyFit, hf, hl]
  rfl

/-- block b is a map from these values to these numbers -/
def MapIs (w : World) (b : Nat) (ps : List (V × Nat)) : Prop :=
  ∃ es clock, w.heap[b]? = some (.map es clock) ∧ es.toList.map (fun e => (e.key, e.val)) = ps.map (fun p => (p.1.val, Value.int .i32 p.2)) ∧ ∀ p ∈ ps, p.1.wf

theorem MapIs.lt {w : World} {b : Nat} {ps : List (V × Nat)} (h : MapIs w b ps) : b < w.heap.size := by
  obtain ⟨es, c, hb, _⟩ := h
  exact (Array.getElem?_eq_some_iff.1 hb).1
theorem MapIs.of_block {w w' : World} {b : Nat} {ps : List (V × Nat)} (h : MapIs w b ps) (e : w'.heap[b]? = w.heap[b]?) : MapIs w' b ps := by
  obtain ⟨es, c, hb, r⟩ := h
  exact ⟨es, c, e.trans hb, r⟩
theorem MapIs.made (w : World) : MapIs (w.alloc (.map #[] 0)) w.heap.size [] := ⟨#[], 0, heap_alloc_new w _, rfl, by simp⟩

theorem ents_at {es : Array MapEntry} {ps : List (V × Nat)} (h : es.toList.map (fun e => (e.key, e.val)) = ps.map (fun p => (p.1.val, Value.int .i32 p.2))) {j : Nat} {e : MapEntry} (hj : es.toList[j]? = some e) :
    ∃ p, ps[j]? = some p ∧ e.key = p.1.val ∧ e.val = .int .i32 p.2 := by
  have h1 := congrArg (fun l => l[j]?) h
  simp only [List.getElem?_map, hj, Option.map_some] at h1
  obtain ⟨p, hp, he⟩ := Option.map_eq_some_iff.1 h1.symm
  simp only [Prod.mk.injEq] at he
  exact ⟨p, hp, he.1.symm, he.2.symm⟩

theorem ents_keys {es : Array MapEntry} {ps : List (V × Nat)} (h : es.toList.map (fun e => (e.key, e.val)) = ps.map (fun p => (p.1.val, Value.int .i32 p.2))) (hw : ∀ p ∈ ps, p.1.wf) : ∀ e ∈ es.toList, ∃ l, keyOf Try.prog 39 e.key = some l := by
  intro e he
  obtain ⟨j, hj⟩ := List.getElem?_of_mem he
  obtain ⟨p, hp, hk, _⟩ := ents_at h hj
  rw [hk]
  exact keyOf_v _ (hw p (List.mem_of_getElem? hp))

theorem ents_no {es : Array MapEntry} {ps : List (V × Nat)} (h : es.toList.map (fun e => (e.key, e.val)) = ps.map (fun p => (p.1.val, Value.int .i32 p.2))) {v : V} (hn : ∀ e ∈ es.toList, e.key ≠ v.val) : ∀ p ∈ ps, p.1 ≠ v := by
  intro p hp e
  obtain ⟨j, hj⟩ := List.getElem?_of_mem hp
  have h1 := congrArg (fun l => l[j]?) h
  simp only [List.getElem?_map, hj, Option.map_some] at h1
  obtain ⟨x, hx, he⟩ := Option.map_eq_some_iff.1 h1
  simp only [Prod.mk.injEq] at he
  exact hn x (List.mem_of_getElem? hx) (by rw [he.1, e])

theorem zeroSym (w : World) : (zeroValue 41).run Try.prog w = .ok (.int .i32 0) w := by kernel_rfl

/-- 'n, ok := m[v]' -/
theorem MapIs.look {w : World} {b : Nat} {ps : List (V × Nat)} (h : MapIs w b ps) {v : V} (hv : v.wf) :
    ((Instr.lookup 54 (.map (some b)) v.val true).run Try.prog w = .ok (.tuple #[.int .i32 0, .bool false]) w ∧ ∀ p ∈ ps, p.1 ≠ v) ∨
    ∃ p ∈ ps, p.1 = v ∧ (Instr.lookup 54 (.map (some b)) v.val true).run Try.prog w = .ok (.tuple #[.int .i32 p.2, .bool true]) w := by
  obtain ⟨es, c, hb, hes, hw⟩ := h
  obtain ⟨l, hl⟩ := keyOf_v v hv
  rcases keyed.find w hl es.toList (ents_keys hes hw) with ⟨h1, h2⟩ | ⟨j, e, h1, h2, h3⟩
  · exact .inl ⟨by simp [Instr.lookup, run_underlying Try.underlying54, MapKept.run_getObj_map hb, keyed.check w _ hl, h1, Result.andThen], ents_no hes h2⟩
  · obtain ⟨p, hp, hk, hval⟩ := ents_at hes h2
    exact .inr ⟨p, List.mem_of_getElem? hp, V.val_inj (hk.symm.trans h3), by simp [Instr.lookup, run_underlying Try.underlying54, MapKept.run_getObj_map hb, keyed.check w _ hl, h1, hval, Result.andThen]⟩

/-- 'm[v] = n' where v has no number yet -/
theorem MapIs.put {w : World} {b : Nat} {ps : List (V × Nat)} (h : MapIs w b ps) {v : V} (hv : v.wf) (hn : ∀ p ∈ ps, p.1 ≠ v) (n : Nat) :
    ∃ w', (Instr.mapUpdate 54 (.map (some b)) v.val (.int .i32 n)).run Try.prog w = .ok () w' ∧ MapIs w' b (ps ++ [(v, n)]) ∧ w.mapTurned w' b := by
  obtain ⟨es, c, hb, hes, hw⟩ := h
  obtain ⟨l, hl⟩ := keyOf_v v hv
  rcases keyed.find w hl es.toList (ents_keys hes hw) with ⟨h1, h2⟩ | ⟨j, e, h1, h2, h3⟩
  · refine ⟨setBlock w b (.map (es.push ⟨v.val, .int .i32 n, c⟩) (c + 1)), by simp [Instr.mapUpdate, run_underlying Try.underlying54, MapKept.run_getObj_map hb, keyed.check w false hl, h1, MapKept.run_setObj_map _ hb, Result.andThen, setBlock], ⟨_, _, heap_setBlock_same hb _, by simp [hes], ?_⟩, ⟨es, c, _, _, hb, rfl⟩⟩
    intro p hp
    rcases List.mem_append.1 hp with hp | hp
    · exact hw p hp
    · simp at hp
      subst hp
      exact hv
  · obtain ⟨p, hp, hk, hval⟩ := ents_at hes h2
    exact absurd (V.val_inj (hk.symm.trans h3)) (hn p (List.mem_of_getElem? hp))

theorem erase_filter {v : V} : ∀ {ps : List (V × Nat)} {j : Nat} {p : V × Nat}, ps[j]? = some p → p.1 = v → (ps.map Prod.fst).Nodup → ps.eraseIdx j = ps.filter (fun q => decide (q.1 ≠ v))
  | [], j, p, h, _, _ => by simp at h
  | q :: ps, 0, p, h, e, nd => by
    simp at h
    subst h
    subst e
    simp only [List.map_cons, List.nodup_cons] at nd
    simp only [List.eraseIdx_cons_zero, List.filter_cons, ne_eq, not_true_eq_false, decide_false]
    symm
    apply List.filter_eq_self.2
    intro a ha
    simp only [decide_eq_true_eq]
    intro e
    exact nd.1 (e ▸ List.mem_map_of_mem ha)
  | q :: ps, j + 1, p, h, e, nd => by
    simp at h
    simp only [List.map_cons, List.nodup_cons] at nd
    have hq : q.1 ≠ v := fun e' => nd.1 (by rw [e', ← e]; exact List.mem_map_of_mem (List.mem_of_getElem? h))
    simp [List.eraseIdx_cons_succ, hq, erase_filter h e nd.2]

/-- 'delete(m, v)' -/
theorem MapIs.del {w : World} {b : Nat} {ps : List (V × Nat)} (h : MapIs w b ps) {v : V} (hv : v.wf) (nd : (ps.map Prod.fst).Nodup) (ty : TypeId) :
    ∃ w', (Builtin.delete_ #[54, 39] ty #[.map (some b), v.val]).run Try.prog w = .ok (.tuple #[]) w' ∧ MapIs w' b (ps.filter (fun q => decide (q.1 ≠ v))) ∧ w.mapTurned w' b := by
  obtain ⟨es, c, hb, hes, hw⟩ := h
  obtain ⟨l, hl⟩ := keyOf_v v hv
  rcases keyed.find w hl es.toList (ents_keys hes hw) with ⟨h1, h2⟩ | ⟨j, e, h1, h2, h3⟩
  · have hno := ents_no hes h2
    have e1 : ps.filter (fun q => decide (q.1 ≠ v)) = ps := List.filter_eq_self.2 fun a ha => by simpa using hno a ha
    exact ⟨setBlock w b (.map es c), by simp [Builtin.delete_, run_underlying Try.underlying54, MapKept.run_getObj_map hb, keyed.check w _ hl, h1, MapKept.run_setObj_map _ hb, Result.andThen, setBlock], ⟨_, _, heap_setBlock_same hb _, by rw [e1]; exact hes, by rw [e1]; exact hw⟩, ⟨es, c, _, _, hb, rfl⟩⟩
  · obtain ⟨p, hp, hk, hval⟩ := ents_at hes h2
    have hjs : j < es.size := by simpa using (List.getElem?_eq_some_iff.1 h2).1
    have e1 := erase_filter hp (V.val_inj (hk.symm.trans h3)) nd
    refine ⟨setBlock w b (.map (es.eraseIdxIfInBounds j) c), by simp [Builtin.delete_, run_underlying Try.underlying54, MapKept.run_getObj_map hb, keyed.check w _ hl, h1, MapKept.run_setObj_map _ hb, Result.andThen, setBlock], ⟨_, _, heap_setBlock_same hb _, ?_, fun q hq => hw q (List.mem_filter.1 hq).1⟩, ⟨es, c, _, _, hb, rfl⟩⟩
    rw [← e1, show (es.eraseIdxIfInBounds j).toList = es.toList.eraseIdx j by simp [Array.eraseIdxIfInBounds, hjs], map_eraseIdx, hes, map_eraseIdx]
end Go.Proofs.Ythdcgikhcghigaa
