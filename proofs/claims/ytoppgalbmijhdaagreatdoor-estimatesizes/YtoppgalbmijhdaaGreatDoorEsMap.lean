import Derived.Maps.OwnSet
import Derived.Maps.AppendAt
import Derived.Deep.OwnRows
import Derived.DeepKeys4
import Derived.MapViews
namespace Go.Proofs.YtoppgalbmijhdaaGreatDoor
open Go.RowKit Go.Maps Go.ChangeMaps
set_option linter.unusedVariables false
set_option linter.unusedSimpArgs false

/-! a map of any kind of keys in memory -/
structure MK {α : Type} (P : Program) (mt kt vt : TypeId) (z : Value) (kv : α → Value) (ok : α → Prop) : Prop where
  under : P.underlying mt = some (.map kt vt)
  zero : ∀ w, (zeroValue vt).run P w = .ok z w
  keyed : Keyed P kt
  key : ∀ a, ok a → ∃ l, keyOf P kt (kv a) = some l
  inj : ∀ a b, kv a = kv b → a = b
section
variable {α : Type} {P : Program} {mt kt vt : TypeId} {z : Value} {kv : α → Value} {ok : α → Prop}
/-- an entry with its stamp -/
def entG (kv : α → Value) (x : (α × Value) × Nat) : MapEntry := ⟨kv x.1.1, x.1.2, x.2⟩
structure MapX (kv : α → Value) (ok : α → Prop) (w : World) (b : Nat) (s : List (α × Value)) (ps : List ((α × Value) × Nat)) (clock : Nat) : Prop where
  at_ : w.heap[b]? = some (.map (ps.map (entG kv)).toArray clock)
  is : ps.map Prod.fst = s
  nd : (ps.map Prod.snd).Nodup
  lt : ∀ x ∈ ps, x.2 < clock
  ok : ∀ p ∈ s, ok p.1
  kd : (s.map Prod.fst).Nodup
def MapG (kv : α → Value) (ok : α → Prop) (w : World) (b : Nat) (s : List (α × Value)) : Prop := ∃ ps clock, MapX kv ok w b s ps clock
def MapN (kv : α → Value) (ok : α → Prop) (w : World) (b : Nat) (s : List (α × Value)) (i st : Nat) : Prop := ∃ ps clock, MapX kv ok w b s ps clock ∧ (ps.map Prod.snd)[i]? = some st
theorem MapX.blt {w : World} {b : Nat} {s : List (α × Value)} {ps : List ((α × Value) × Nat)} {c : Nat} (h : MapX kv ok w b s ps c) : b < w.heap.size := (Array.getElem?_eq_some_iff.1 h.at_).1
theorem MapX.of_block {w w' : World} {b : Nat} {s : List (α × Value)} {ps : List ((α × Value) × Nat)} {c : Nat} (h : MapX kv ok w b s ps c) (e : w'.heap[b]? = w.heap[b]?) : MapX kv ok w' b s ps c := ⟨e.trans h.at_, h.is, h.nd, h.lt, h.ok, h.kd⟩
theorem MapG.blt {w : World} {b : Nat} {s : List (α × Value)} (h : MapG kv ok w b s) : b < w.heap.size := by
  obtain ⟨ps, c, h⟩ := h
  exact h.blt
theorem MapG.of_block {w w' : World} {b : Nat} {s : List (α × Value)} (h : MapG kv ok w b s) (e : w'.heap[b]? = w.heap[b]?) : MapG kv ok w' b s := by
  obtain ⟨ps, c, h⟩ := h
  exact ⟨ps, c, h.of_block e⟩
theorem MapG.below {w w' : World} {b : Nat} {s : List (α × Value)} (h : MapG kv ok w b s) (hb : Below w.heap.size w w') : MapG kv ok w' b s := h.of_block (hb.block b h.blt)
theorem MapG.kd {w : World} {b : Nat} {s : List (α × Value)} (h : MapG kv ok w b s) : (s.map Prod.fst).Nodup := by
  obtain ⟨ps, c, h⟩ := h
  exact h.kd
theorem MapN.of_block {w w' : World} {b : Nat} {s : List (α × Value)} {i st : Nat} (h : MapN kv ok w b s i st) (e : w'.heap[b]? = w.heap[b]?) : MapN kv ok w' b s i st := by
  obtain ⟨ps, c, h, hi⟩ := h
  exact ⟨ps, c, h.of_block e, hi⟩
theorem MapN.blt {w : World} {b : Nat} {s : List (α × Value)} {i st : Nat} (h : MapN kv ok w b s i st) : b < w.heap.size := by
  obtain ⟨ps, c, h, _⟩ := h
  exact h.blt
theorem MapG.made (w : World) : MapG kv ok (w.alloc (.map #[] 0)) w.heap.size [] := ⟨[], 0, heap_alloc_new w _, rfl, by simp, by simp, by simp, by simp⟩
theorem MapX.place {w : World} {b : Nat} {s : List (α × Value)} {ps : List ((α × Value) × Nat)} {c : Nat} (h : MapX kv ok w b s ps c) {j : Nat} {e : MapEntry} (hj : (ps.map (entG kv)).toArray.toList[j]? = some e) : ∃ x, ps[j]? = some x ∧ e = entG kv x ∧ s[j]? = some x.1 := by
  simp only [List.toList_toArray, List.getElem?_map] at hj
  obtain ⟨x, hx, rfl⟩ := Option.map_eq_some_iff.1 hj
  refine ⟨x, hx, rfl, ?_⟩
  rw [← h.is, List.getElem?_map, hx]
  rfl
theorem MapX.keys (K : MK P mt kt vt z kv ok) {w : World} {b : Nat} {s : List (α × Value)} {ps : List ((α × Value) × Nat)} {c : Nat} (h : MapX kv ok w b s ps c) : ∀ e ∈ (ps.map (entG kv)).toArray.toList, ∃ l, keyOf P kt e.key = some l := by
  intro e he
  simp only [List.toList_toArray] at he
  obtain ⟨x, hx, rfl⟩ := List.mem_map.1 he
  exact K.key _ (h.ok x.1 (h.is ▸ List.mem_map_of_mem hx))
theorem key_place {s : List (α × Value)} (nd : (s.map Prod.fst).Nodup) {i j : Nat} {r : α} {u v : Value} (hi : s[i]? = some (r, u)) (hj : s[j]? = some (r, v)) : i = j := by
  obtain ⟨i1, i2⟩ := List.getElem?_eq_some_iff.1 hi
  obtain ⟨j1, j2⟩ := List.getElem?_eq_some_iff.1 hj
  have nd' := List.pairwise_iff_getElem.1 nd
  have e1 : (s.map Prod.fst)[i]'(by simpa using i1) = r := by simp [i2]
  have e2 : (s.map Prod.fst)[j]'(by simpa using j1) = r := by simp [j2]
  rcases Nat.lt_trichotomy i j with h | h | h
  · exact absurd (e1.trans e2.symm) (nd' i j (by simpa using i1) (by simpa using j1) h)
  · exact h
  · exact absurd (e2.trans e1.symm) (nd' j i (by simpa using j1) (by simpa using i1) h)
/-- a key is looked for: it is not there; it is, at its place -/
theorem MapX.find (K : MK P mt kt vt z kv ok) {w : World} {b : Nat} {s : List (α × Value)} {ps : List ((α × Value) × Nat)} {c : Nat} (h : MapX kv ok w b s ps c) (w' : World) {r : α} {l : Lit} (hl : keyOf P kt (kv r) = some l) :
    ((Instr.findKey kt (kv r) (ps.map (entG kv))).run P w' = .ok none w' ∧ r ∉ s.map Prod.fst) ∨
    ∃ i v st, s[i]? = some (r, v) ∧ ps[i]? = some ((r, v), st) ∧ (Instr.findKey kt (kv r) (ps.map (entG kv))).run P w' = .ok (some (i, v)) w' := by
  rcases K.keyed.find w' hl _ (h.keys K) with ⟨h1, h2⟩ | ⟨j, e, h1, h2, h3⟩
  · refine .inl ⟨by simpa using h1, fun hr => ?_⟩
    obtain ⟨p, hp, rfl⟩ := List.mem_map.1 hr
    rw [← h.is] at hp
    obtain ⟨x, hx, rfl⟩ := List.mem_map.1 hp
    exact h2 (entG kv x) (by simp only [List.toList_toArray]; exact List.mem_map.2 ⟨x, hx, rfl⟩) rfl
  · obtain ⟨x, hx, rfl, hs⟩ := h.place h2
    have e0 : x.1.1 = r := K.inj _ _ h3
    refine .inr ⟨j, x.1.2, x.2, by rw [hs, ← e0], by rw [hx, ← e0], ?_⟩
    simpa [entG] using h1
theorem MapG.look_no (K : MK P mt kt vt z kv ok) {w : World} {b : Nat} {s : List (α × Value)} (h : MapG kv ok w b s) {r : α} (hr : ok r) (hn : r ∉ s.map Prod.fst) (o : Bool) :
    (Instr.lookup mt (.map (some b)) (kv r) o).run P w = .ok (if o then .tuple #[z, .bool false] else z) w := by
  obtain ⟨ps, c, h⟩ := h
  obtain ⟨l, hl⟩ := K.key r hr
  rcases h.find K w hl with ⟨h1, h2⟩ | ⟨i, v, st, h1, h2, h3⟩
  · simp [Instr.lookup, run_underlying K.under, MapKept.run_getObj_map h.at_, K.keyed.check w _ hl, h1, Result.andThen, K.zero]
  · exact absurd (List.mem_map.2 ⟨_, List.mem_of_getElem? h1, rfl⟩) hn
theorem MapG.look_yes (K : MK P mt kt vt z kv ok) {w : World} {b : Nat} {s : List (α × Value)} (h : MapG kv ok w b s) {r : α} {v : Value} {i : Nat} (hi : s[i]? = some (r, v)) (o : Bool) :
    (Instr.lookup mt (.map (some b)) (kv r) o).run P w = .ok (if o then .tuple #[v, .bool true] else v) w := by
  obtain ⟨ps, c, h⟩ := h
  obtain ⟨l, hl⟩ := K.key r (h.ok _ (List.mem_of_getElem? hi))
  rcases h.find K w hl with ⟨h1, h2⟩ | ⟨j, v', st, h1, h2, h3⟩
  · exact absurd (List.mem_map.2 ⟨_, List.mem_of_getElem? hi, rfl⟩) h2
  · have e : i = j := key_place h.kd hi h1
    subst e
    rw [hi] at h1
    have e2 : v = v' := (Prod.mk.inj (Option.some.inj h1)).2
    subst e2
    simp [Instr.lookup, run_underlying K.under, MapKept.run_getObj_map h.at_, K.keyed.check w _ hl, h3, Result.andThen]
theorem MapX.push {w : World} {b : Nat} {s : List (α × Value)} {ps : List ((α × Value) × Nat)} {c : Nat} (h : MapX kv ok w b s ps c) {r : α} (hr : ok r) (hn : r ∉ s.map Prod.fst) (v : Value) :
    MapX kv ok (setBlock w b (.map ((ps.map (entG kv)).toArray.push ⟨kv r, v, c⟩) (c + 1))) b (s ++ [(r, v)]) (ps ++ [((r, v), c)]) (c + 1) := by
  refine ⟨?_, by rw [List.map_append, h.is]; rfl, ?_, ?_, ?_, ?_⟩
  · rw [heap_setBlock_same h.at_]
    simp [entG]
  · rw [List.map_append, List.nodup_append]
    refine ⟨h.nd, by simp, fun a ha b hb e => ?_⟩
    obtain ⟨x, hx, rfl⟩ := List.mem_map.1 ha
    have := h.lt x hx
    simp at hb
    omega
  · intro x hx
    rcases List.mem_append.1 hx with hx | hx
    · have := h.lt x hx
      omega
    · rw [List.mem_singleton.1 hx]
      exact Nat.lt_succ_self c
  · intro p hp
    rcases List.mem_append.1 hp with hp | hp
    · exact h.ok p hp
    · rw [List.mem_singleton.1 hp]
      exact hr
  · rw [List.map_append, List.nodup_append]
    refine ⟨h.kd, by simp, fun a ha b hb e => ?_⟩
    simp at hb
    exact hn (hb ▸ e ▸ ha)
/-- 'm[r] = v' where r is not there -/
theorem MapG.put (K : MK P mt kt vt z kv ok) {w : World} {b : Nat} {s : List (α × Value)} (h : MapG kv ok w b s) {r : α} (hr : ok r) (hn : r ∉ s.map Prod.fst) (v : Value) :
    ∃ w', (Instr.mapUpdate mt (.map (some b)) (kv r) v).run P w = .ok () w' ∧ MapG kv ok w' b (s ++ [(r, v)]) ∧ w.mapTurned w' b := by
  obtain ⟨ps, c, h⟩ := h
  obtain ⟨l, hl⟩ := K.key r hr
  rcases h.find K w hl with ⟨h1, h2⟩ | ⟨i, v, st, h1, h2, h3⟩
  · exact ⟨_, by simp [Instr.mapUpdate, run_underlying K.under, MapKept.run_getObj_map h.at_, K.keyed.check w false hl, h1, MapKept.run_setObj_map _ h.at_, Result.andThen, setBlock], ⟨_, _, h.push hr hn v⟩, ⟨_, _, _, _, h.at_, rfl⟩⟩
  · exact absurd (List.mem_map.2 ⟨_, List.mem_of_getElem? h1, rfl⟩) hn
theorem modify_same {β : Type} (l : List β) (i : Nat) (f : β → β) (h : ∀ x, l[i]? = some x → f x = x) : l.modify i f = l := by
  apply List.ext_getElem?
  intro j
  rw [List.getElem?_modify]
  by_cases e : i = j
  · subst e
    cases hx : l[i]? with
    | none => simp
    | some x => simp [h x hx]
  · simp [e]
theorem modify_set {β : Type} (l : List β) (i : Nat) (f : β → β) (y : β) (h : ∀ x, l[i]? = some x → f x = y) : l.modify i f = l.set i y := by
  apply List.ext_getElem?
  intro j
  rw [List.getElem?_modify, List.getElem?_set]
  by_cases e : i = j
  · subst e
    rw [if_pos rfl]
    cases hx : l[i]? with
    | none => rw [if_neg (by simpa using hx)]; rfl
    | some x => rw [if_pos (List.getElem?_eq_some_iff.1 hx).1]; simp [h x hx]
  · simp [e]
theorem MapX.set {w : World} {b : Nat} {s : List (α × Value)} {ps : List ((α × Value) × Nat)} {c : Nat} (h : MapX kv ok w b s ps c) {i st : Nat} {r : α} {u : Value} (hx : ps[i]? = some ((r, u), st)) (v : Value) :
    MapX kv ok (setBlock w b (.map ((ps.set i ((r, v), st)).map (entG kv)).toArray c)) b (s.set i (r, v)) (ps.set i ((r, v), st)) c := by
  have hi : s[i]? = some (r, u) := by rw [← h.is, List.getElem?_map, hx]; rfl
  have same : ∀ {γ : Type} (l : List γ) (y : γ), l[i]? = some y → l.set i y = l := by
    intro γ l y hy
    apply List.ext_getElem?
    intro j
    rw [List.getElem?_set]
    split
    · rename_i e
      subst e
      rw [if_pos (List.getElem?_eq_some_iff.1 hy).1, hy]
    · rfl
  refine ⟨heap_setBlock_same h.at_ _, by rw [List.map_set, h.is], ?_, ?_, ?_, ?_⟩
  · rw [List.map_set, same _ _ (by rw [List.getElem?_map, hx]; rfl)]
    exact h.nd
  · intro y hy
    rcases List.mem_or_eq_of_mem_set hy with hy | rfl
    · exact h.lt y hy
    · exact h.lt ((r, u), st) (List.mem_of_getElem? hx)
  · intro p hp
    rcases List.mem_or_eq_of_mem_set hp with hp | rfl
    · exact h.ok p hp
    · exact h.ok (r, u) (List.mem_of_getElem? hi)
  · rw [List.map_set, same _ _ (by rw [List.getElem?_map, hi]; rfl)]
    exact h.kd
/-- 'm[r] = v' where r is there -/
theorem MapG.over (K : MK P mt kt vt z kv ok) {w : World} {b : Nat} {s : List (α × Value)} (h : MapG kv ok w b s) {r : α} {u : Value} {i : Nat} (hi : s[i]? = some (r, u)) (v : Value) :
    ∃ w', (Instr.mapUpdate mt (.map (some b)) (kv r) v).run P w = .ok () w' ∧ MapG kv ok w' b (s.set i (r, v)) ∧ w.mapTurned w' b := by
  obtain ⟨ps, c, h⟩ := h
  obtain ⟨l, hl⟩ := K.key r (h.ok _ (List.mem_of_getElem? hi))
  rcases h.find K w hl with ⟨h1, h2⟩ | ⟨j, v', st, h1, h2, h3⟩
  · exact absurd (List.mem_map.2 ⟨_, List.mem_of_getElem? hi, rfl⟩) h2
  · have e : i = j := key_place h.kd hi h1
    subst e
    have hm : (ps.map (entG kv)).modify i (fun e => { e with key := kv r, val := v }) = (ps.set i ((r, v), st)).map (entG kv) := by
      rw [modify_set _ _ _ (entG kv ((r, v), st)), List.map_set]
      intro x hx
      rw [List.getElem?_map, h2] at hx
      rw [← Option.some.inj hx]
      rfl
    refine ⟨_, ?_, ⟨_, _, h.set h2 v⟩, ⟨_, _, _, _, h.at_, rfl⟩⟩
    have hk : ((((ps.map (entG kv)).toArray[i]?).map (·.key)).getD (kv r)) = kv r := by
      simp [h2, entG]
    simp only [Instr.mapUpdate]
    simp [run_underlying K.under, MapKept.run_getObj_map h.at_, K.keyed.check w false hl, h3, h2, entG, K.keyed.stays w hl, MapKept.run_setObj_map _ h.at_, Result.andThen, setBlock, ← hm]
/-- the entry of 'm[r] = append(m[r], ..)' where r is not there -/
theorem MapG.entry_no (K : MK P mt kt vt z kv ok) {w : World} {b : Nat} {s : List (α × Value)} (h : MapG kv ok w b s) {r : α} (hr : ok r) (hn : r ∉ s.map Prod.fst) :
    ∃ st w', (Instr.mapEntry mt (.map (some b)) (kv r)).run P w = .ok (.tuple #[z, .int .i64 (st : Nat)]) w' ∧ MapN kv ok w' b (s ++ [(r, z)]) s.length st ∧ w.mapTurned w' b := by
  obtain ⟨ps, c, h⟩ := h
  obtain ⟨l, hl⟩ := K.key r hr
  rcases h.find K w hl with ⟨h1, h2⟩ | ⟨i, v, st, h1, h2, h3⟩
  · refine ⟨c, _, ?_, ⟨_, _, h.push hr hn z, ?_⟩, ⟨_, _, _, _, h.at_, rfl⟩⟩
    · simp [Instr.mapEntry, run_underlying K.under, MapKept.run_getObj_map h.at_, K.keyed.check w false hl, h1, K.zero, MapKept.run_setObj_map _ h.at_, Result.andThen, setBlock, goInt]
    · have e : s.length = ps.length := by rw [← h.is, List.length_map]
      rw [List.map_append, e, List.getElem?_append_right (by simp)]
      simp
  · exact absurd (List.mem_map.2 ⟨_, List.mem_of_getElem? h1, rfl⟩) hn
/-- and where it is -/
theorem MapG.entry_yes (K : MK P mt kt vt z kv ok) {w : World} {b : Nat} {s : List (α × Value)} (h : MapG kv ok w b s) {r : α} {v : Value} {i : Nat} (hi : s[i]? = some (r, v)) :
    ∃ st w', (Instr.mapEntry mt (.map (some b)) (kv r)).run P w = .ok (.tuple #[v, .int .i64 (st : Nat)]) w' ∧ MapN kv ok w' b s i st ∧ w.mapTurned w' b := by
  obtain ⟨ps, c, h⟩ := h
  obtain ⟨l, hl⟩ := K.key r (h.ok _ (List.mem_of_getElem? hi))
  rcases h.find K w hl with ⟨h1, h2⟩ | ⟨j, v', st, h1, h2, h3⟩
  · exact absurd (List.mem_map.2 ⟨_, List.mem_of_getElem? hi, rfl⟩) h2
  · have e : i = j := key_place h.kd hi h1
    subst e
    rw [hi] at h1
    have e2 : v = v' := (Prod.mk.inj (Option.some.inj h1)).2
    subst e2
    have hm : (ps.map (entG kv)).modify i (fun e => { e with key := kv r }) = ps.map (entG kv) := by
      refine modify_same _ _ _ (fun y hy => ?_)
      rw [List.getElem?_map, h2] at hy
      rw [← Option.some.inj hy]
      rfl
    refine ⟨st, setBlock w b (.map (ps.map (entG kv)).toArray c), ?_, ⟨ps, c, ⟨heap_setBlock_same h.at_ _, h.is, h.nd, h.lt, h.ok, h.kd⟩, by rw [List.getElem?_map, h2]; rfl⟩, ⟨_, _, _, _, h.at_, rfl⟩⟩
    simp only [Instr.mapEntry]
    simp [run_underlying K.under, MapKept.run_getObj_map h.at_, K.keyed.check w false hl, h3, h2, entG, K.keyed.stays w hl, MapKept.run_setObj_map _ h.at_, Result.andThen, setBlock, goInt]
    simp only [hm]
/-- the value is stored into the entry -/
theorem MapN.store {w : World} {b : Nat} {s : List (α × Value)} {i st : Nat} (h : MapN kv ok w b s i st) {r : α} {u : Value} (hi : s[i]? = some (r, u)) (v : Value) :
    ∃ w', (Instr.entryStore mt (.map (some b)) (.int .i64 (st : Nat)) v).run P w = .ok () w' ∧ MapG kv ok w' b (s.set i (r, v)) ∧ w.mapTurned w' b := by
  obtain ⟨ps, c, h, hst⟩ := h
  rw [List.getElem?_map] at hst
  obtain ⟨x, hx, hx2⟩ := Option.map_eq_some_iff.1 hst
  have hxs : x.1 = (r, u) := by
    have : s[i]? = some x.1 := by rw [← h.is, List.getElem?_map, hx]; rfl
    rw [hi] at this
    exact (Option.some.inj this).symm
  have hx' : ps[i]? = some ((r, u), st) := by rw [hx, ← hxs, ← hx2]
  have hil : i < ps.length := (List.getElem?_eq_some_iff.1 hx).1
  have hf : List.findIdx? ((fun e : MapEntry => ((e.born : Int) == (st : Int))) ∘ entG kv) ps = some i := by
    rw [List.findIdx?_eq_some_iff_getElem]
    refine ⟨hil, ?_, fun j hj => ?_⟩
    · rw [(List.getElem?_eq_some_iff.1 hx).2]
      show (((x.2 : Nat) : Int) == (st : Int)) = true
      rw [hx2]
      simp
    · have hjl : j < ps.length := by omega
      show ¬ ((((ps[j]).2 : Nat) : Int) == (st : Int)) = true
      intro e
      have e' : (ps[j]).2 = x.2 := by
        have : (((ps[j]).2 : Nat) : Int) = (st : Int) := by simpa using e
        omega
      have nd' := List.pairwise_iff_getElem.1 h.nd
      have := nd' j i (by simpa using hjl) (by simpa using hil) hj
      simp only [List.getElem_map] at this
      rw [(List.getElem?_eq_some_iff.1 hx).2] at this
      exact this e'
  have hm : (ps.map (entG kv)).modify i (fun e => { e with val := v }) = (ps.set i ((r, v), st)).map (entG kv) := by
    rw [modify_set _ _ _ (entG kv ((r, v), st)), List.map_set]
    intro y hy
    rw [List.getElem?_map, hx'] at hy
    rw [← Option.some.inj hy]
    rfl
  refine ⟨_, ?_, ⟨_, _, h.set hx' v⟩, ⟨_, _, _, _, h.at_, rfl⟩⟩
  simp only [Instr.entryStore]
  simp [MapKept.run_getObj_map h.at_, asInt, asIntOf, hf, hm, MapKept.run_setObj_map _ h.at_, Result.andThen, setBlock]
theorem MapG.len (K : MK P mt kt vt z kv ok) {w : World} {b : Nat} {s : List (α × Value)} (h : MapG kv ok w b s) (ty : TypeId) :
    (Builtin.len_ #[mt] ty #[.map (some b)]).run P w = .ok (.int .i64 (s.length : Nat)) w := by
  obtain ⟨ps, c, h⟩ := h
  have e : s.length = ps.length := by rw [← h.is, List.length_map]
  simp [Builtin.len_, run_underlying K.under, MapKept.run_getObj_map h.at_, Result.andThen, goInt, e]
end
end Go.Proofs.YtoppgalbmijhdaaGreatDoor
