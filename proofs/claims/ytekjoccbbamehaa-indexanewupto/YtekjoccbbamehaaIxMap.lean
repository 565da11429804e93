import Derived.Test.YtekjoccbbamehaaRelMap
namespace Go.Proofs.Ytekjoccbbamehaa
open Go.RowKit Go.Maps Go.ChangeMaps
set_option linter.unusedVariables false
set_option linter.unusedSimpArgs false

/-! a map from rows to lists of numbers -/
/-- a row, its list, and when it came -/
abbrev Kx := (List Int × Value) × Nat
def entX (x : Kx) : MapEntry := ⟨rowV x.1.1, x.1.2, x.2⟩
/-- block b is the map of these rows and lists; entry i has this stamp -/
structure MapX (w : World) (b : Nat) (s : List (List Int × Value)) (ps : List Kx) (clock : Nat) : Prop where
  at_ : w.heap[b]? = some (.map (ps.map entX).toArray clock)
  is : ps.map Prod.fst = s
  nd : (ps.map Prod.snd).Nodup
  lt : ∀ x ∈ ps, x.2 < clock
  ok : ∀ p ∈ s, RowOk p.1
def MapS (w : World) (b : Nat) (s : List (List Int × Value)) : Prop := ∃ ps clock, MapX w b s ps clock
def MapE (w : World) (b : Nat) (s : List (List Int × Value)) (i st : Nat) : Prop := ∃ ps clock, MapX w b s ps clock ∧ (ps.map Prod.snd)[i]? = some st
theorem MapX.blt {w : World} {b : Nat} {s : List (List Int × Value)} {ps : List Kx} {c : Nat} (h : MapX w b s ps c) : b < w.heap.size := (Array.getElem?_eq_some_iff.1 h.at_).1
theorem MapX.of_block {w w' : World} {b : Nat} {s : List (List Int × Value)} {ps : List Kx} {c : Nat} (h : MapX w b s ps c) (e : w'.heap[b]? = w.heap[b]?) : MapX w' b s ps c := ⟨e.trans h.at_, h.is, h.nd, h.lt, h.ok⟩
theorem MapS.blt {w : World} {b : Nat} {s : List (List Int × Value)} (h : MapS w b s) : b < w.heap.size := by
  obtain ⟨ps, c, h⟩ := h
  exact h.blt
theorem MapS.of_block {w w' : World} {b : Nat} {s : List (List Int × Value)} (h : MapS w b s) (e : w'.heap[b]? = w.heap[b]?) : MapS w' b s := by
  obtain ⟨ps, c, h⟩ := h
  exact ⟨ps, c, h.of_block e⟩
theorem MapS.below {w w' : World} {b : Nat} {s : List (List Int × Value)} (h : MapS w b s) (hb : Below w.heap.size w w') : MapS w' b s := h.of_block (hb.block b h.blt)
theorem MapE.blt {w : World} {b : Nat} {s : List (List Int × Value)} {i st : Nat} (h : MapE w b s i st) : b < w.heap.size := by
  obtain ⟨ps, c, h, _⟩ := h
  exact h.blt
theorem MapE.of_block {w w' : World} {b : Nat} {s : List (List Int × Value)} {i st : Nat} (h : MapE w b s i st) (e : w'.heap[b]? = w.heap[b]?) : MapE w' b s i st := by
  obtain ⟨ps, c, h, hi⟩ := h
  exact ⟨ps, c, h.of_block e, hi⟩
theorem MapS.made (w : World) : MapS (w.alloc (.map #[] 0)) w.heap.size [] := ⟨[], 0, heap_alloc_new w _, rfl, by simp, by simp, by simp⟩
theorem xents_keys {ps : List Kx} (hw : ∀ p ∈ ps.map Prod.fst, RowOk p.1) : ∀ e ∈ (ps.map entX).toArray.toList, ∃ l, keyOf Try.prog 34 e.key = some l := by
  intro e he
  simp only [List.toList_toArray] at he
  obtain ⟨x, hx, rfl⟩ := List.mem_map.1 he
  exact keyOf_row _ (hw x.1 (List.mem_map.2 ⟨x, hx, rfl⟩))
/-- the place of a row -/
theorem key_place {s : List (List Int × Value)} (nd : (s.map Prod.fst).Nodup) {i j : Nat} {r : List Int} {u v : Value} (hi : s[i]? = some (r, u)) (hj : s[j]? = some (r, v)) : i = j := by
  obtain ⟨i1, i2⟩ := List.getElem?_eq_some_iff.1 hi
  obtain ⟨j1, j2⟩ := List.getElem?_eq_some_iff.1 hj
  have nd' := List.pairwise_iff_getElem.1 nd
  have e1 : (s.map Prod.fst)[i]'(by simpa using i1) = r := by simp [i2]
  have e2 : (s.map Prod.fst)[j]'(by simpa using j1) = r := by simp [j2]
  rcases Nat.lt_trichotomy i j with h | h | h
  · exact absurd (e1.trans e2.symm) (nd' i j (by simpa using i1) (by simpa using j1) h)
  · exact h
  · exact absurd (e2.trans e1.symm) (nd' j i (by simpa using j1) (by simpa using i1) h)
theorem MapX.place {w : World} {b : Nat} {s : List (List Int × Value)} {ps : List Kx} {c : Nat} (h : MapX w b s ps c) {j : Nat} {e : MapEntry} (hj : (ps.map entX).toArray.toList[j]? = some e) : ∃ x, ps[j]? = some x ∧ e = entX x ∧ s[j]? = some x.1 := by
  simp only [List.toList_toArray, List.getElem?_map] at hj
  obtain ⟨x, hx, rfl⟩ := Option.map_eq_some_iff.1 hj
  refine ⟨x, hx, rfl, ?_⟩
  rw [← h.is, List.getElem?_map, hx]
  rfl
theorem MapX.no {w : World} {b : Nat} {s : List (List Int × Value)} {ps : List Kx} {c : Nat} (h : MapX w b s ps c) {r : List Int} (hn : ∀ e ∈ (ps.map entX).toArray.toList, e.key ≠ rowV r) : r ∉ s.map Prod.fst := by
  intro hr
  obtain ⟨p, hp, rfl⟩ := List.mem_map.1 hr
  rw [← h.is] at hp
  obtain ⟨x, hx, rfl⟩ := List.mem_map.1 hp
  exact hn (entX x) (by simp only [List.toList_toArray]; exact List.mem_map.2 ⟨x, hx, rfl⟩) rfl
theorem zeroInts (w : World) : (zeroValue 38).run Try.prog w = .ok (.slice none 0 0) w := by kernel_rfl
/-- 'm[r]' where r is not there, and where it is -/
theorem MapS.look_no {w : World} {b : Nat} {s : List (List Int × Value)} (h : MapS w b s) {r : List Int} (hr : RowOk r) (hn : r ∉ s.map Prod.fst) :
    (Instr.lookup 72 (.map (some b)) (rowV r) false).run Try.prog w = .ok (.slice none 0 0) w := by
  obtain ⟨ps, c, h⟩ := h
  obtain ⟨l, hl⟩ := keyOf_row r hr
  rcases keyedR.find w hl _ (xents_keys (by rw [h.is]; exact h.ok)) with ⟨h1, h2⟩ | ⟨j, e, h1, h2, h3⟩
  · simp [Instr.lookup, run_underlying Try.underlying72, MapKept.run_getObj_map h.at_, keyedR.check w _ hl, h1, Result.andThen, zeroInts]
  · obtain ⟨x, hx, rfl, hs⟩ := h.place h2
    exact absurd (List.mem_map.2 ⟨x.1, List.mem_of_getElem? hs, rowV_inj h3⟩) hn
theorem MapS.look_yes {w : World} {b : Nat} {s : List (List Int × Value)} (h : MapS w b s) (nd : (s.map Prod.fst).Nodup) {r : List Int} {v : Value} {i : Nat} (hi : s[i]? = some (r, v)) :
    (Instr.lookup 72 (.map (some b)) (rowV r) false).run Try.prog w = .ok v w := by
  obtain ⟨ps, c, h⟩ := h
  obtain ⟨l, hl⟩ := keyOf_row r (h.ok _ (List.mem_of_getElem? hi))
  rcases keyedR.find w hl _ (xents_keys (by rw [h.is]; exact h.ok)) with ⟨h1, h2⟩ | ⟨j, e, h1, h2, h3⟩
  · exact absurd (List.mem_map.2 ⟨_, List.mem_of_getElem? hi, rfl⟩) (h.no h2)
  · obtain ⟨x, hx, rfl, hs⟩ := h.place h2
    have e0 : x.1.1 = r := rowV_inj h3
    have e1 : i = j := key_place nd hi (v := x.1.2) (by rw [hs, ← e0])
    subst e1
    rw [hi] at hs
    have hs := Option.some.inj hs
    have e2 : (entX x).val = v := by show x.1.2 = v; rw [← hs]
    simp [Instr.lookup, run_underlying Try.underlying72, MapKept.run_getObj_map h.at_, keyedR.check w _ hl, h1, e2, Result.andThen]
/-- the entry of 'm[r] = append(m[r], ..)' where r is not there -/
theorem MapS.entry_no {w : World} {b : Nat} {s : List (List Int × Value)} (h : MapS w b s) {r : List Int} (hr : RowOk r) (hn : r ∉ s.map Prod.fst) :
    ∃ st w', (Instr.mapEntry 72 (.map (some b)) (rowV r)).run Try.prog w = .ok (.tuple #[.slice none 0 0, .int .i64 (st : Nat)]) w' ∧ MapE w' b (s ++ [(r, .slice none 0 0)]) s.length st ∧ w.mapTurned w' b := by
  obtain ⟨ps, c, h⟩ := h
  obtain ⟨l, hl⟩ := keyOf_row r hr
  rcases keyedR.find w hl _ (xents_keys (by rw [h.is]; exact h.ok)) with ⟨h1, h2⟩ | ⟨j, e, h1, h2, h3⟩
  · refine ⟨c, setBlock w b (.map ((ps.map entX).toArray.push ⟨rowV r, .slice none 0 0, c⟩) (c + 1)), ?_, ⟨ps ++ [((r, .slice none 0 0), c)], c + 1, ⟨?_, ?_, ?_, ?_, ?_⟩, ?_⟩, ⟨_, _, _, _, h.at_, rfl⟩⟩
    · simp [Instr.mapEntry, run_underlying Try.underlying72, MapKept.run_getObj_map h.at_, keyedR.check w false hl, h1, zeroInts, MapKept.run_setObj_map _ h.at_, Result.andThen, setBlock, goInt]
    · rw [heap_setBlock_same h.at_]
      simp [entX]
    · rw [List.map_append, h.is]
      rfl
    · rw [List.map_append, List.nodup_append]
      refine ⟨h.nd, by simp, fun a ha b hb e => ?_⟩
      obtain ⟨x, hx, rfl⟩ := List.mem_map.1 ha
      have := h.lt x hx
      simp at hb
      omega
    · intro x hx
      rcases List.mem_append.1 hx with hx | hx
      · have := h.lt x hx
        omega
      · rw [List.mem_singleton.1 hx]
        exact Nat.lt_succ_self c
    · intro p hp
      rcases List.mem_append.1 hp with hp | hp
      · exact h.ok p hp
      · rw [List.mem_singleton.1 hp]
        exact hr
    · have e : s.length = ps.length := by rw [← h.is, List.length_map]
      rw [List.map_append, e, List.getElem?_append_right (by simp)]
      simp
  · obtain ⟨x, hx, rfl, hs⟩ := h.place h2
    exact absurd (List.mem_map.2 ⟨x.1, List.mem_of_getElem? hs, rowV_inj h3⟩) hn
theorem modify_same {α : Type} (l : List α) (i : Nat) (f : α → α) (h : ∀ x, l[i]? = some x → f x = x) : l.modify i f = l := by
  apply List.ext_getElem?
  intro j
  rw [List.getElem?_modify]
  by_cases e : i = j
  · subst e
    cases hx : l[i]? with
    | none => simp
    | some x => simp [h x hx]
  · simp [e]
/-- and where it is -/
theorem MapS.entry_yes {w : World} {b : Nat} {s : List (List Int × Value)} (h : MapS w b s) (nd : (s.map Prod.fst).Nodup) {r : List Int} {v : Value} {i : Nat} (hi : s[i]? = some (r, v)) :
    ∃ st w', (Instr.mapEntry 72 (.map (some b)) (rowV r)).run Try.prog w = .ok (.tuple #[v, .int .i64 (st : Nat)]) w' ∧ MapE w' b s i st ∧ w.mapTurned w' b := by
  obtain ⟨ps, c, h⟩ := h
  obtain ⟨l, hl⟩ := keyOf_row r (h.ok _ (List.mem_of_getElem? hi))
  rcases keyedR.find w hl _ (xents_keys (by rw [h.is]; exact h.ok)) with ⟨h1, h2⟩ | ⟨j, e, h1, h2, h3⟩
  · exact absurd (List.mem_map.2 ⟨_, List.mem_of_getElem? hi, rfl⟩) (h.no h2)
  · obtain ⟨x, hx, rfl, hs⟩ := h.place h2
    have e0 : x.1.1 = r := rowV_inj h3
    have e1 : i = j := key_place nd hi (v := x.1.2) (by rw [hs, ← e0])
    subst e1
    rw [hi] at hs
    have hs := Option.some.inj hs
    have e2 : (entX x).val = v := by show x.1.2 = v; rw [← hs]
    have h4 : (ps.map entX).toArray[i]? = some (entX x) := by
      rw [← Array.getElem?_toList]
      exact h2
    have hm : (ps.map entX).modify i (fun e => { e with key := rowV r }) = ps.map entX := by
      refine modify_same _ _ _ (fun y hy => ?_)
      rw [List.getElem?_map, hx] at hy
      rw [← Option.some.inj hy]
      show ({ entX x with key := rowV r } : MapEntry) = entX x
      rw [← e0]
      rfl
    refine ⟨x.2, setBlock w b (.map (ps.map entX).toArray c), ?_, ⟨ps, c, ⟨?_, h.is, h.nd, h.lt, h.ok⟩, by rw [List.getElem?_map, hx]; rfl⟩, ⟨_, _, _, _, h.at_, rfl⟩⟩
    · have hb : (entX x).born = x.2 := rfl
      simp only [Instr.mapEntry]
      simp [run_underlying Try.underlying72, MapKept.run_getObj_map h.at_, keyedR.check w false hl, h1, hx, h3, keyedR.stays w hl, hm, MapKept.run_setObj_map _ h.at_, Result.andThen, setBlock, goInt, e2, hb]
    · exact heap_setBlock_same h.at_ _
/-- the list is stored into the entry -/
theorem MapE.store {w : World} {b : Nat} {s : List (List Int × Value)} {i st : Nat} (h : MapE w b s i st) {r : List Int} {u : Value} (hi : s[i]? = some (r, u)) (v : Value) :
    ∃ w', (Instr.entryStore 72 (.map (some b)) (.int .i64 (st : Nat)) v).run Try.prog w = .ok () w' ∧ MapS w' b (s.set i (r, v)) ∧ w.mapTurned w' b := by
  obtain ⟨ps, c, h, hst⟩ := h
  rw [List.getElem?_map] at hst
  obtain ⟨x, hx, hx2⟩ := Option.map_eq_some_iff.1 hst
  have hxs : x.1 = (r, u) := by
    have : s[i]? = some x.1 := by rw [← h.is, List.getElem?_map, hx]; rfl
    rw [hi] at this
    exact (Option.some.inj this).symm
  have hil : i < ps.length := (List.getElem?_eq_some_iff.1 hx).1
  have hf : List.findIdx? ((fun e : MapEntry => ((e.born : Int) == (st : Int))) ∘ entX) ps = some i := by
    rw [List.findIdx?_eq_some_iff_getElem]
    refine ⟨hil, ?_, fun j hj => ?_⟩
    · rw [(List.getElem?_eq_some_iff.1 hx).2]
      show (((x.2 : Nat) : Int) == (st : Int)) = true
      rw [hx2]
      simp
    · have hjl : j < ps.length := by omega
      show ¬ ((((ps[j]).2 : Nat) : Int) == (st : Int)) = true
      intro e
      have e' : (ps[j]).2 = x.2 := by
        have : (((ps[j]).2 : Nat) : Int) = (st : Int) := by simpa using e
        omega
      have nd' := List.pairwise_iff_getElem.1 h.nd
      have := nd' j i (by simpa using hjl) (by simpa using hil) hj
      simp only [List.getElem_map] at this
      rw [(List.getElem?_eq_some_iff.1 hx).2] at this
      exact this e'
  have hm : (ps.map entX).modify i (fun e => { e with val := v }) = (ps.map entX).set i (entX ((r, v), x.2)) := by
    apply List.ext_getElem?
    intro j
    rw [List.getElem?_modify, List.getElem?_set]
    by_cases e : i = j
    · subst e
      rw [if_pos rfl, if_pos (by simpa using hil), List.getElem?_map, hx]
      simp [entX, hxs]
    · rw [if_neg e]
      simp [e]
  refine ⟨setBlock w b (.map ((ps.set i ((r, v), x.2)).map entX).toArray c), ?_, ⟨ps.set i ((r, v), x.2), c, ⟨heap_setBlock_same h.at_ _, ?_, ?_, ?_, ?_⟩⟩, ⟨_, _, _, _, h.at_, rfl⟩⟩
  · simp only [Instr.entryStore]
    simp [MapKept.run_getObj_map h.at_, asInt, asIntOf, hf, hm, MapKept.run_setObj_map _ h.at_, Result.andThen, setBlock]
  · rw [List.map_set, h.is]
  · rw [List.map_set]
    have : (ps.map Prod.snd).set i x.2 = ps.map Prod.snd := by
      apply List.ext_getElem?
      intro j
      rw [List.getElem?_set]
      split
      · rename_i e
        subst e
        rw [if_pos (by simpa using hil), List.getElem?_map, hx]
        rfl
      · rfl
    show ((ps.map Prod.snd).set i x.2).Nodup
    rw [this]
    exact h.nd
  · intro y hy
    rcases List.mem_or_eq_of_mem_set hy with hy | rfl
    · exact h.lt y hy
    · exact h.lt x (List.mem_of_getElem? hx)
  · intro p hp
    rcases List.mem_or_eq_of_mem_set hp with hp | rfl
    · exact h.ok p hp
    · exact h.ok (r, u) (List.mem_of_getElem? hi)
theorem MapS.cleared {w : World} {b : Nat} {s : List (List Int × Value)} (h : MapS w b s) (ty : TypeId) : ∃ w', (Builtin.clear_ #[72] ty #[.map (some b)]).run Try.prog w = .ok (.tuple #[]) w' ∧ MapS w' b [] ∧ w.mapTurned w' b := by
  obtain ⟨ps, c, h⟩ := h
  refine ⟨setBlock w b (.map #[] c), ?_, ⟨[], c, heap_setBlock_same h.at_ _, rfl, by simp, by simp, by simp⟩, ⟨_, _, _, _, h.at_, rfl⟩⟩
  simp [Builtin.clear_, run_underlying Try.underlying72, MapKept.run_getObj_map h.at_, MapKept.run_setObj_map _ h.at_, Result.andThen, setBlock]
end Go.Proofs.Ytekjoccbbamehaa
