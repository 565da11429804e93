import Derived.Test.YtmblkafejhbffaaGreatDoorTermIn
import Derived.Maps.OwnSet
import Derived.Maps.AppendAt
import Derived.Deep.OwnRows
import Derived.DeepKeys4
namespace Go.Proofs.YtmblkafejhbffaaGreatDoor
open Go.RowKit Go.Maps Go.ChangeMaps
set_option linter.unusedVariables false
set_option linter.unusedSimpArgs false

theorem keyedS : Keyed Tryz.prog 9 := string_keyed Tryz.underlying9
theorem keyOf_s (s : ByteArray) (h : s.size ≤ maxLen) : keyOf Tryz.prog 9 (.string s) = some (.string s.data.toList) := by
  unfold keyOf mapKey
  rw [Tryz.underlying9]
  simp [h]
/-- block b is a set of these names -/
def SetIs (w : World) (b : Nat) (ss : List ByteArray) : Prop :=
  ∃ es clock, w.heap[b]? = some (.map es clock) ∧ es.toList.map (fun e => (e.key, e.val)) = ss.map (fun s => (Value.string s, Value.agg #[])) ∧ ∀ s ∈ ss, s.size ≤ maxLen
theorem SetIs.lt {w : World} {b : Nat} {ss : List ByteArray} (h : SetIs w b ss) : b < w.heap.size := by
  obtain ⟨es, c, hb, _⟩ := h
  exact (Array.getElem?_eq_some_iff.1 hb).1
theorem SetIs.of_block {w w' : World} {b : Nat} {ss : List ByteArray} (h : SetIs w b ss) (e : w'.heap[b]? = w.heap[b]?) : SetIs w' b ss := by
  obtain ⟨es, c, hb, r⟩ := h
  exact ⟨es, c, e.trans hb, r⟩
theorem SetIs.made (w : World) : SetIs (w.alloc (.map #[] 0)) w.heap.size [] := ⟨#[], 0, heap_alloc_new w _, rfl, by simp⟩
theorem sents_at {es : Array MapEntry} {ss : List ByteArray} (h : es.toList.map (fun e => (e.key, e.val)) = ss.map (fun s => (Value.string s, Value.agg #[]))) {j : Nat} {e : MapEntry} (hj : es.toList[j]? = some e) :
    ∃ s, ss[j]? = some s ∧ e.key = .string s ∧ e.val = .agg #[] := by
  have h1 := congrArg (fun l => l[j]?) h
  simp only [List.getElem?_map, hj, Option.map_some] at h1
  obtain ⟨p, hp, he⟩ := Option.map_eq_some_iff.1 h1.symm
  simp only [Prod.mk.injEq] at he
  exact ⟨p, hp, he.1.symm, he.2.symm⟩
theorem sents_keys {es : Array MapEntry} {ss : List ByteArray} (h : es.toList.map (fun e => (e.key, e.val)) = ss.map (fun s => (Value.string s, Value.agg #[]))) (hw : ∀ s ∈ ss, s.size ≤ maxLen) : ∀ e ∈ es.toList, ∃ l, keyOf Tryz.prog 9 e.key = some l := by
  intro e he
  obtain ⟨j, hj⟩ := List.getElem?_of_mem he
  obtain ⟨p, hp, hk, _⟩ := sents_at h hj
  rw [hk]
  exact ⟨_, keyOf_s _ (hw p (List.mem_of_getElem? hp))⟩
theorem sents_no {es : Array MapEntry} {ss : List ByteArray} (h : es.toList.map (fun e => (e.key, e.val)) = ss.map (fun s => (Value.string s, Value.agg #[]))) {s : ByteArray} (hn : ∀ e ∈ es.toList, e.key ≠ .string s) : s ∉ ss := by
  intro hp
  obtain ⟨j, hj⟩ := List.getElem?_of_mem hp
  have h1 := congrArg (fun l => l[j]?) h
  simp only [List.getElem?_map, hj, Option.map_some] at h1
  obtain ⟨x, hx, he⟩ := Option.map_eq_some_iff.1 h1
  simp only [Prod.mk.injEq] at he
  exact hn x (List.mem_of_getElem? hx) he.1
theorem zeroNone (w : World) : (zeroValue 160).run Tryz.prog w = .ok (.agg #[]) w := by kernel_rfl
/-- '_, ok := m[s]' -/
theorem SetIs.look {w : World} {b : Nat} {ss : List ByteArray} (h : SetIs w b ss) {s : ByteArray} (hs : s.size ≤ maxLen) :
    (Instr.lookup 157 (.map (some b)) (.string s) true).run Tryz.prog w = .ok (.tuple #[.agg #[], .bool (inB ss s)]) w := by
  obtain ⟨es, c, hb, hes, hw⟩ := h
  have hl := keyOf_s s hs
  rcases keyedS.find w hl es.toList (sents_keys hes hw) with ⟨h1, h2⟩ | ⟨j, e, h1, h2, h3⟩
  · have hi : inB ss s = false := Bool.eq_false_iff.2 (fun hh => sents_no hes h2 (inB_iff.1 hh))
    rw [hi]
    simp [Instr.lookup, run_underlying Tryz.underlying157, MapKept.run_getObj_map hb, keyedS.check w _ hl, h1, Result.andThen, zeroNone]
  · obtain ⟨p, hp, hk, hval⟩ := sents_at hes h2
    have e : p = s := by
      have := hk.symm.trans h3
      injection this
    have hi : inB ss s = true := inB_iff.2 (e ▸ List.mem_of_getElem? hp)
    rw [hi]
    simp [Instr.lookup, run_underlying Tryz.underlying157, MapKept.run_getObj_map hb, keyedS.check w _ hl, h1, hval, Result.andThen]
/-- 'm[s] = struct{}{}' where s is not there -/
theorem SetIs.put {w : World} {b : Nat} {ss : List ByteArray} (h : SetIs w b ss) {s : ByteArray} (hs : s.size ≤ maxLen) (hn : s ∉ ss) :
    ∃ w', (Instr.mapUpdate 157 (.map (some b)) (.string s) (.agg #[])).run Tryz.prog w = .ok () w' ∧ SetIs w' b (ss ++ [s]) ∧ w.mapTurned w' b := by
  obtain ⟨es, c, hb, hes, hw⟩ := h
  have hl := keyOf_s s hs
  rcases keyedS.find w hl es.toList (sents_keys hes hw) with ⟨h1, h2⟩ | ⟨j, e, h1, h2, h3⟩
  · refine ⟨setBlock w b (.map (es.push ⟨.string s, .agg #[], c⟩) (c + 1)), by simp [Instr.mapUpdate, run_underlying Tryz.underlying157, MapKept.run_getObj_map hb, keyedS.check w false hl, h1, MapKept.run_setObj_map _ hb, Result.andThen, setBlock], ⟨_, _, heap_setBlock_same hb _, by simp [hes], ?_⟩, ?_⟩
    · intro p hp
      rcases List.mem_append.1 hp with hp | hp
      · exact hw p hp
      · simp at hp
        subst hp
        exact hs
    · exact ⟨es, c, _, _, hb, rfl⟩
  · obtain ⟨p, hp, hk, hval⟩ := sents_at hes h2
    refine absurd (List.mem_of_getElem? hp) ?_
    have e : p = s := by
      have := hk.symm.trans h3
      injection this
    rw [e]
    exact hn
end Go.Proofs.YtmblkafejhbffaaGreatDoor
