import Derived.Test.YtnpmhgjbfkgmdaaDoorOnMu
import Derived.Test.YtnpmhgjbfkgmdaaDoorOnStep
import Derived.Maps.OwnSet
import Derived.Maps.AppendAt
import Derived.Deep.OwnRows
import Derived.DeepKeys4
namespace Go.Proofs.YtnpmhgjbfkgmdaaDoor
open Go.RowKit Go.Maps Go.ChangeMaps
set_option linter.unusedVariables false
set_option linter.unusedSimpArgs false
attribute [local go_sem ↓] Go.wp_at_zero Go.wp_at_succ

theorem keyedS : Keyed Tryd.prog 9 := string_keyed Tryd.underlying9
theorem keyOf_s (s : ByteArray) (h : s.size ≤ maxLen) : keyOf Tryd.prog 9 (.string s) = some (.string s.data.toList) := by
  unfold keyOf mapKey
  rw [Tryd.underlying9]
  simp [h]
def entP (p : P) : Value × Value := (.string p.v, p.t.val)
/-- block b is the map from these variables to these terms -/
def MapT (w : World) (b : Nat) (s : List P) : Prop :=
  ∃ es clock, w.heap[b]? = some (.map es clock) ∧ es.toList.map (fun e => (e.key, e.val)) = s.map entP ∧ ∀ p ∈ s, p.v.size ≤ maxLen
theorem MapT.lt {w : World} {b : Nat} {s : List P} (h : MapT w b s) : b < w.heap.size := by
  obtain ⟨es, c, hb, _⟩ := h
  exact (Array.getElem?_eq_some_iff.1 hb).1
theorem MapT.of_block {w w' : World} {b : Nat} {s : List P} (h : MapT w b s) (e : w'.heap[b]? = w.heap[b]?) : MapT w' b s := by
  obtain ⟨es, c, hb, r⟩ := h
  exact ⟨es, c, e.trans hb, r⟩
theorem MapT.below {w w' : World} {b : Nat} {s : List P} (h : MapT w b s) (hb : Below w.heap.size w w') : MapT w' b s := h.of_block (hb.block b h.lt)
theorem MapT.made (w : World) : MapT (w.alloc (.map #[] 0)) w.heap.size [] := ⟨#[], 0, heap_alloc_new w _, rfl, by simp⟩
theorem ments_at {es : Array MapEntry} {s : List P} (h : es.toList.map (fun e => (e.key, e.val)) = s.map entP) {j : Nat} {e : MapEntry} (hj : es.toList[j]? = some e) :
    ∃ p, s[j]? = some p ∧ e.key = .string p.v ∧ e.val = p.t.val := by
  have h1 := congrArg (fun l => l[j]?) h
  simp only [List.getElem?_map, hj, Option.map_some] at h1
  obtain ⟨p, hp, he⟩ := Option.map_eq_some_iff.1 h1.symm
  simp only [entP, Prod.mk.injEq] at he
  exact ⟨p, hp, he.1.symm, he.2.symm⟩
theorem ments_keys {es : Array MapEntry} {s : List P} (h : es.toList.map (fun e => (e.key, e.val)) = s.map entP) (hw : ∀ p ∈ s, p.v.size ≤ maxLen) : ∀ e ∈ es.toList, ∃ l, keyOf Tryd.prog 9 e.key = some l := by
  intro e he
  obtain ⟨j, hj⟩ := List.getElem?_of_mem he
  obtain ⟨p, hp, hk, _⟩ := ments_at h hj
  rw [hk]
  exact ⟨_, keyOf_s _ (hw p (List.mem_of_getElem? hp))⟩
theorem ments_no {es : Array MapEntry} {s : List P} (h : es.toList.map (fun e => (e.key, e.val)) = s.map entP) {n : ByteArray} (hn : ∀ e ∈ es.toList, e.key ≠ .string n) : ∀ p ∈ s, p.v ≠ n := by
  intro p hp e
  obtain ⟨j, hj⟩ := List.getElem?_of_mem hp
  have h1 := congrArg (fun l => l[j]?) h
  simp only [List.getElem?_map, hj, Option.map_some] at h1
  obtain ⟨x, hx, he⟩ := Option.map_eq_some_iff.1 h1
  simp only [entP, Prod.mk.injEq] at he
  exact hn x (List.mem_of_getElem? hx) (by rw [he.1, e])
theorem zeroTm (w : World) : (zeroValue 38).run Tryd.prog w = .ok (.agg #[.string ⟨#[]⟩, .int .i8 0, .int .i64 0, .string ⟨#[]⟩]) w := by kernel_rfl
/-- what the map has for a name -/
def lookP (s : List P) (n : ByteArray) : Value := match s.find? (fun p => decide (p.v = n)) with
  | some p => .tuple #[p.t.val, .bool true]
  | none => .tuple #[.agg #[.string ⟨#[]⟩, .int .i8 0, .int .i64 0, .string ⟨#[]⟩], .bool false]
theorem lookP_no {s : List P} {n : ByteArray} (h : ∀ p ∈ s, p.v ≠ n) : lookP s n = .tuple #[.agg #[.string ⟨#[]⟩, .int .i8 0, .int .i64 0, .string ⟨#[]⟩], .bool false] := by
  unfold lookP
  rw [List.find?_eq_none.2 (fun p hp => by simpa using h p hp)]
theorem MapT.look {w : World} {b : Nat} {s : List P} (h : MapT w b s) (nd : (s.map P.v).Nodup) {n : ByteArray} (hn : n.size ≤ maxLen) :
    (Instr.lookup 69 (.map (some b)) (.string n) true).run Tryd.prog w = .ok (lookP s n) w := by
  obtain ⟨es, c, hb, hes, hw⟩ := h
  have hl := keyOf_s n hn
  rcases keyedS.find w hl es.toList (ments_keys hes hw) with ⟨h1, h2⟩ | ⟨j, e, h1, h2, h3⟩
  · rw [lookP_no (ments_no hes h2)]
    simp [Instr.lookup, run_underlying Tryd.underlying69, MapKept.run_getObj_map hb, keyedS.check w _ hl, h1, Result.andThen, zeroTm]
  · obtain ⟨p, hp, hk, hval⟩ := ments_at hes h2
    have e : p.v = n := by
      have := hk.symm.trans h3
      injection this
    have hf : s.find? (fun p => decide (p.v = n)) = some p := by
      cases hf : s.find? (fun p => decide (p.v = n)) with
      | none => exact absurd e (by simpa using List.find?_eq_none.1 hf p (List.mem_of_getElem? hp))
      | some q =>
        have hq : q.v = n := by simpa using List.find?_some hf
        obtain ⟨i, hi⟩ := List.getElem?_of_mem (List.mem_of_find?_eq_some hf)
        have e1 : (s.map P.v)[i]? = some n := by rw [List.getElem?_map, hi, ← hq]; rfl
        have e2 : (s.map P.v)[j]? = some n := by rw [List.getElem?_map, hp, ← e]; rfl
        obtain ⟨i1, i2⟩ := List.getElem?_eq_some_iff.1 e1
        obtain ⟨j1, j2⟩ := List.getElem?_eq_some_iff.1 e2
        have nd' := List.pairwise_iff_getElem.1 nd
        have : i = j := by
          rcases Nat.lt_trichotomy i j with h | h | h
          · exact absurd (i2.trans j2.symm) (nd' i j i1 j1 h)
          · exact h
          · exact absurd (j2.trans i2.symm) (nd' j i j1 i1 h)
        rw [this, hp] at hi
        rw [Option.some.inj hi]
    unfold lookP
    rw [hf]
    simp [Instr.lookup, run_underlying Tryd.underlying69, MapKept.run_getObj_map hb, keyedS.check w _ hl, h1, hval, Result.andThen]
/-- 'm[n] = t' where n is not there -/
theorem MapT.put {w : World} {b : Nat} {s : List P} (h : MapT w b s) {p : P} (hs : p.v.size ≤ maxLen) (hn : ∀ q ∈ s, q.v ≠ p.v) :
    ∃ w', (Instr.mapUpdate 69 (.map (some b)) (.string p.v) p.t.val).run Tryd.prog w = .ok () w' ∧ MapT w' b (s ++ [p]) ∧ w.mapTurned w' b := by
  obtain ⟨es, c, hb, hes, hw⟩ := h
  have hl := keyOf_s p.v hs
  rcases keyedS.find w hl es.toList (ments_keys hes hw) with ⟨h1, h2⟩ | ⟨j, e, h1, h2, h3⟩
  · refine ⟨setBlock w b (.map (es.push ⟨.string p.v, p.t.val, c⟩) (c + 1)), by simp [Instr.mapUpdate, run_underlying Tryd.underlying69, MapKept.run_getObj_map hb, keyedS.check w false hl, h1, MapKept.run_setObj_map _ hb, Result.andThen, setBlock], ⟨_, _, heap_setBlock_same hb _, by simp [hes, entP], ?_⟩, ?_⟩
    · intro q hq
      rcases List.mem_append.1 hq with hq | hq
      · exact hw q hq
      · simp at hq
        subst hq
        exact hs
    · exact ⟨es, c, _, _, hb, rfl⟩
  · obtain ⟨q, hp, hk, hval⟩ := ments_at hes h2
    refine absurd ?_ (hn q (List.mem_of_getElem? hp))
    have := hk.symm.trans h3
    injection this
end Go.Proofs.YtnpmhgjbfkgmdaaDoor
