import Derived.Test.YtekjoccbbamehaaIxCol
namespace Go.Proofs.Ytekjoccbbamehaa
open Go.RowKit Go.Maps Go.ChangeMaps
set_option linter.unusedVariables false
set_option linter.unusedSimpArgs false

theorem keyedM : Keyed Try.prog 24 := int_keyed Try.underlying24
/-- a mask and the block of its index -/
structure Mb where
  v : Int
  b : Nat
def ptrM (x : Mb) : Value := .pointer (some ⟨x.b, 0, none⟩)
def entM (x : Mb) : Value × Value := (.int .u32 x.v, ptrM x)
/-- block b is the map from these masks to these indexes -/
def MapM (w : World) (b : Nat) (s : List Mb) : Prop :=
  ∃ es clock, w.heap[b]? = some (.map es clock) ∧ es.toList.map (fun e => (e.key, e.val)) = s.map entM ∧ (∀ p ∈ s, (Lit.int .u32 p.v).wf = true) ∧ ∀ e ∈ es.toList, e.born < clock
theorem MapM.lt {w : World} {b : Nat} {s : List Mb} (h : MapM w b s) : b < w.heap.size := by
  obtain ⟨es, c, hb, _⟩ := h
  exact (Array.getElem?_eq_some_iff.1 hb).1
theorem MapM.of_block {w w' : World} {b : Nat} {s : List Mb} (h : MapM w b s) (e : w'.heap[b]? = w.heap[b]?) : MapM w' b s := by
  obtain ⟨es, c, hb, r⟩ := h
  exact ⟨es, c, e.trans hb, r⟩
theorem MapM.made (w : World) : MapM (w.alloc (.map #[] 0)) w.heap.size [] := ⟨#[], 0, heap_alloc_new w _, rfl, by simp, by simp⟩
theorem ments_at {es : Array MapEntry} {s : List Mb} (h : es.toList.map (fun e => (e.key, e.val)) = s.map entM) {j : Nat} {e : MapEntry} (hj : es.toList[j]? = some e) :
    ∃ p, s[j]? = some p ∧ e.key = .int .u32 p.v ∧ e.val = ptrM p := by
  have h1 := congrArg (fun l => l[j]?) h
  simp only [List.getElem?_map, hj, Option.map_some] at h1
  obtain ⟨p, hp, he⟩ := Option.map_eq_some_iff.1 h1.symm
  simp only [entM, Prod.mk.injEq] at he
  exact ⟨p, hp, he.1.symm, he.2.symm⟩
theorem ments_keys {es : Array MapEntry} {s : List Mb} (h : es.toList.map (fun e => (e.key, e.val)) = s.map entM) (hw : ∀ p ∈ s, (Lit.int .u32 p.v).wf = true) : ∀ e ∈ es.toList, ∃ l, keyOf Try.prog 24 e.key = some l := by
  intro e he
  obtain ⟨j, hj⟩ := List.getElem?_of_mem he
  obtain ⟨p, hp, hk, _⟩ := ments_at h hj
  rw [hk]
  exact ⟨_, keyOf_int_mk Try.underlying24 (hw p (List.mem_of_getElem? hp))⟩
theorem ments_no {es : Array MapEntry} {s : List Mb} (h : es.toList.map (fun e => (e.key, e.val)) = s.map entM) {n : Int} (hn : ∀ e ∈ es.toList, e.key ≠ .int .u32 n) : ∀ p ∈ s, p.v ≠ n := by
  intro p hp e
  obtain ⟨j, hj⟩ := List.getElem?_of_mem hp
  have h1 := congrArg (fun l => l[j]?) h
  simp only [List.getElem?_map, hj, Option.map_some] at h1
  obtain ⟨x, hx, he⟩ := Option.map_eq_some_iff.1 h1
  simp only [entM, Prod.mk.injEq] at he
  exact hn x (List.mem_of_getElem? hx) (by rw [he.1, e])
theorem zeroPx (w : World) : (zeroValue 66).run Try.prog w = .ok (.pointer none) w := by kernel_rfl
/-- where a mask's index lies; none -/
def seekM (s : List Mb) (n : Int) : Option Mb := s.find? (fun p => decide (p.v = n))
def lookM (s : List Mb) (n : Int) : Value := match seekM s n with
  | some p => ptrM p
  | none => .pointer none
theorem MapM.look {w : World} {b : Nat} {s : List Mb} (h : MapM w b s) (nd : (s.map Mb.v).Nodup) {n : Int} (hn : (Lit.int .u32 n).wf = true) :
    (Instr.lookup 78 (.map (some b)) (.int .u32 n) false).run Try.prog w = .ok (lookM s n) w := by
  obtain ⟨es, c, hb, hes, hw, hst⟩ := h
  have hl := keyOf_int_mk Try.underlying24 hn
  rcases keyedM.find w hl es.toList (ments_keys hes hw) with ⟨h1, h2⟩ | ⟨j, e, h1, h2, h3⟩
  · have : lookM s n = .pointer none := by
      unfold lookM seekM
      rw [List.find?_eq_none.2 (fun p hp => by simpa using ments_no hes h2 p hp)]
    rw [this]
    simp [Instr.lookup, run_underlying Try.underlying78, MapKept.run_getObj_map hb, keyedM.check w _ hl, h1, Result.andThen, zeroPx]
  · obtain ⟨p, hp, hk, hval⟩ := ments_at hes h2
    have e : p.v = n := by
      have := hk.symm.trans h3
      injection this
    have hf : s.find? (fun p => decide (p.v = n)) = some p := by
      cases hf : s.find? (fun p => decide (p.v = n)) with
      | none => exact absurd e (by simpa using List.find?_eq_none.1 hf p (List.mem_of_getElem? hp))
      | some q =>
        have hq : q.v = n := by simpa using List.find?_some hf
        obtain ⟨i, hi⟩ := List.getElem?_of_mem (List.mem_of_find?_eq_some hf)
        have e1 : (s.map Mb.v)[i]? = some n := by rw [List.getElem?_map, hi, ← hq]; rfl
        have e2 : (s.map Mb.v)[j]? = some n := by rw [List.getElem?_map, hp, ← e]; rfl
        obtain ⟨i1, i2⟩ := List.getElem?_eq_some_iff.1 e1
        obtain ⟨j1, j2⟩ := List.getElem?_eq_some_iff.1 e2
        have nd' := List.pairwise_iff_getElem.1 nd
        have : i = j := by
          rcases Nat.lt_trichotomy i j with h | h | h
          · exact absurd (i2.trans j2.symm) (nd' i j i1 j1 h)
          · exact h
          · exact absurd (j2.trans i2.symm) (nd' j i j1 i1 h)
        rw [this, hp] at hi
        rw [Option.some.inj hi]
    unfold lookM seekM
    rw [hf]
    simp [Instr.lookup, run_underlying Try.underlying78, MapKept.run_getObj_map hb, keyedM.check w _ hl, h1, hval, Result.andThen]
/-- 'm[n] = v' where n is not there -/
theorem MapM.put {w : World} {b : Nat} {s : List Mb} (h : MapM w b s) {p : Mb} (hs : (Lit.int .u32 p.v).wf = true) (hn : ∀ q ∈ s, q.v ≠ p.v) :
    ∃ w', (Instr.mapUpdate 78 (.map (some b)) (.int .u32 p.v) (ptrM p)).run Try.prog w = .ok () w' ∧ MapM w' b (s ++ [p]) ∧ w.mapTurned w' b := by
  obtain ⟨es, c, hb, hes, hw, hst⟩ := h
  have hl := keyOf_int_mk Try.underlying24 hs
  rcases keyedM.find w hl es.toList (ments_keys hes hw) with ⟨h1, h2⟩ | ⟨j, e, h1, h2, h3⟩
  · refine ⟨setBlock w b (.map (es.push ⟨.int .u32 p.v, ptrM p, c⟩) (c + 1)), by simp [Instr.mapUpdate, run_underlying Try.underlying78, MapKept.run_getObj_map hb, keyedM.check w false hl, h1, MapKept.run_setObj_map _ hb, Result.andThen, setBlock], ⟨_, _, heap_setBlock_same hb _, by simp [hes, entM], ?_, ?_⟩, ?_⟩
    · intro q hq
      rcases List.mem_append.1 hq with hq | hq
      · exact hw q hq
      · simp at hq
        subst hq
        exact hs
    · intro e he
      rw [Array.toList_push] at he
      rcases List.mem_append.1 he with he | he
      · have := hst e he
        omega
      · rw [List.mem_singleton.1 he]
        exact Nat.lt_succ_self c
    · exact ⟨es, c, _, _, hb, rfl⟩
  · obtain ⟨q, hp, hk, hval⟩ := ments_at hes h2
    refine absurd ?_ (hn q (List.mem_of_getElem? hp))
    have := hk.symm.trans h3
    injection this
/-- an index of a book -/
structure Ie where
  m : Int
  x : Nat
  b : Nat
  vs : List Value
  G : Grp
  seen : Nat
  gone : Int
def Ie.fx (i : Ie) (k : Nat) : Prop := FX i.x i.b i.vs k
def Ie.mb (i : Ie) : Mb := ⟨i.m, i.x⟩
/-- the blocks of a book -/
def BX (bk mb : Nat) (is : List Ie) (k : Nat) : Prop := k = bk ∨ k = mb ∨ ∃ i ∈ is, i.fx k
/-- a book in memory: its struct bk, its map mb, its relation tt, its indexes -/
structure Ibk (w : World) (B bk mb tt : Nat) (is : List Ie) : Prop where
  rl : RL w bk 80 [.pointer (some ⟨tt, 0, none⟩), .map (some mb)]
  map : MapM w mb (is.map Ie.mb)
  nd : (is.map Ie.m).Nodup
  ix : ∀ i ∈ is, Ix w B i.x i.b i.m i.G i.vs i.seen i.gone
  lo : bk ≠ mb ∧ B ≤ bk ∧ B ≤ mb
  ne : ∀ i ∈ is, ¬ i.fx bk ∧ ¬ i.fx mb
  dj : ∀ (p q : Nat) (i j : Ie), is[p]? = some i → is[q]? = some j → p ≠ q → ∀ k, i.fx k → ¬ j.fx k
section
variable {w w' : World} {B bk mb tt : Nat} {is : List Ie}
theorem Ibk.flt (h : Ibk w B bk mb tt is) {k : Nat} (hk : BX bk mb is k) : B ≤ k ∧ k < w.heap.size := by
  rcases hk with rfl | rfl | ⟨i, hi, hk⟩
  · exact ⟨h.lo.2.1, World.rowIs.lt h.rl⟩
  · exact ⟨h.lo.2.2, h.map.lt⟩
  · exact (h.ix i hi).flt hk
theorem Ibk.of_blocks (h : Ibk w B bk mb tt is) (hb : ∀ k, BX bk mb is k → w'.heap[k]? = w.heap[k]?) : Ibk w' B bk mb tt is :=
  ⟨World.rowIs.of_block h.rl (hb bk (.inl rfl)), h.map.of_block (hb mb (.inr (.inl rfl))), h.nd, fun i hi => (h.ix i hi).of_blocks (fun k hk => hb k (.inr (.inr ⟨i, hi, hk⟩))), h.lo, h.ne, h.dj⟩
theorem Ibk.keep (h : Ibk w B bk mb tt is) (hb : Below w.heap.size w w') : Ibk w' B bk mb tt is := h.of_blocks (fun k hk => hb.block k (h.flt hk).2)
/-- one index turns -/
theorem Ibk.turn (h : Ibk w B bk mb tt is) {p : Nat} {i j : Ie} (hp : is[p]? = some i) (hm : j.m = i.m) (hx : j.x = i.x) (hj : Ix w' B j.x j.b j.m j.G j.vs j.seen j.gone) (ht : Tx i.fx w w') (hn : ∀ k, j.fx k → i.fx k ∨ w.heap.size ≤ k) : Ibk w' B bk mb tt (is.set p j) := by
  have hi := List.mem_of_getElem? hp
  have hlt : p < is.length := (List.getElem?_eq_some_iff.1 hp).1
  have hmb : (is.set p j).map Ie.mb = is.map Ie.mb := by
    apply List.ext_getElem?
    intro q
    rw [List.getElem?_map, List.getElem?_map, List.getElem?_set]
    by_cases e : p = q
    · subst e
      rw [if_pos rfl, if_pos hlt, hp]
      simp [Ie.mb, hm, hx]
    · rw [if_neg e]
  have hms : (is.set p j).map Ie.m = is.map Ie.m := by
    have := congrArg (List.map Mb.v) hmb
    simpa [List.map_map, Function.comp_def, Ie.mb] using this
  have hbk : w'.heap[bk]? = w.heap[bk]? := ht.block bk (h.flt (.inl rfl)).2 (h.ne i hi).1
  have hmbk : w'.heap[mb]? = w.heap[mb]? := ht.block mb (h.flt (.inr (.inl rfl))).2 (h.ne i hi).2
  have hget : ∀ (q : Nat) (a : Ie), (is.set p j)[q]? = some a → (q = p ∧ a = j) ∨ (q ≠ p ∧ is[q]? = some a) := fun q a ha => by
    rw [List.getElem?_set] at ha
    by_cases e : p = q
    · subst e
      rw [if_pos rfl, if_pos hlt] at ha
      exact .inl ⟨rfl, (Option.some.inj ha).symm⟩
    · rw [if_neg e] at ha
      exact .inr ⟨fun e' => e e'.symm, ha⟩
  refine ⟨World.rowIs.of_block h.rl hbk, by rw [hmb]; exact h.map.of_block hmbk, by rw [hms]; exact h.nd, fun a ha => ?_, h.lo, fun a ha => ?_, fun q r a c ha hc hqr k hk hk' => ?_⟩
  · obtain ⟨q, hq⟩ := List.getElem?_of_mem ha
    rcases hget q a hq with ⟨rfl, rfl⟩ | ⟨hne, hq'⟩
    · exact hj
    · exact (h.ix a (List.mem_of_getElem? hq')).of_blocks (fun k hk => ht.block k ((h.ix a (List.mem_of_getElem? hq')).flt hk).2 (h.dj q p a i hq' hp hne k hk))
  · obtain ⟨q, hq⟩ := List.getElem?_of_mem ha
    rcases hget q a hq with ⟨rfl, rfl⟩ | ⟨hne, hq'⟩
    · refine ⟨fun e => ?_, fun e => ?_⟩
      · rcases hn bk e with e | e
        · exact (h.ne i hi).1 e
        · have := (h.flt (.inl rfl)).2; omega
      · rcases hn mb e with e | e
        · exact (h.ne i hi).2 e
        · have := (h.flt (.inr (.inl rfl))).2; omega
    · exact h.ne a (List.mem_of_getElem? hq')
  · rcases hget q a ha with ⟨rfl, rfl⟩ | ⟨hne, hq'⟩
    · rcases hget r c hc with ⟨rfl, rfl⟩ | ⟨hne', hr'⟩
      · exact hqr rfl
      · rcases hn k hk with e | e
        · exact h.dj q r i c hp hr' hqr k e hk'
        · have := ((h.ix c (List.mem_of_getElem? hr')).flt hk').2; omega
    · rcases hget r c hc with ⟨rfl, rfl⟩ | ⟨hne', hr'⟩
      · rcases hn k hk' with e | e
        · exact h.dj q r a i hq' hp hqr k hk e
        · have := ((h.ix a (List.mem_of_getElem? hq')).flt hk).2; omega
      · exact h.dj q r a c hq' hr' hqr k hk hk'
/-- one index more -/
theorem Ibk.push (h : Ibk w B bk mb tt is) {j : Ie} (hm : j.m ∉ is.map Ie.m) (hmap : MapM w' mb (is.map Ie.mb ++ [j.mb])) (hj : Ix w' B j.x j.b j.m j.G j.vs j.seen j.gone) (hnew : ∀ k, j.fx k → w.heap.size ≤ k) (hb : ∀ k, k < w.heap.size → k ≠ mb → w'.heap[k]? = w.heap[k]?) : Ibk w' B bk mb tt (is ++ [j]) := by
  have hget : ∀ (q : Nat) (a : Ie), (is ++ [j])[q]? = some a → (q = is.length ∧ a = j) ∨ (q < is.length ∧ is[q]? = some a) := fun q a ha => by
    by_cases e : q < is.length
    · rw [List.getElem?_append_left e] at ha
      exact .inr ⟨e, ha⟩
    · have hl : q < (is ++ [j]).length := (List.getElem?_eq_some_iff.1 ha).1
      have e2 : q = is.length := by simp at hl; omega
      subst e2
      simp at ha
      exact .inl ⟨rfl, ha.symm⟩
  refine ⟨World.rowIs.of_block h.rl (hb bk (h.flt (.inl rfl)).2 h.lo.1), by rw [List.map_append]; exact hmap, ?_, fun a ha => ?_, h.lo, fun a ha => ?_, fun q r a c ha hc hqr k hk hk' => ?_⟩
  · rw [List.map_append, List.nodup_append]
    exact ⟨h.nd, by simp, fun a ha b hb e => hm (by simp at hb; rw [← hb, ← e]; exact ha)⟩
  · rcases List.mem_append.1 ha with ha | ha
    · exact (h.ix a ha).of_blocks (fun k hk => hb k ((h.ix a ha).flt hk).2 (fun e => (h.ne a ha).2 (e ▸ hk)))
    · rw [List.mem_singleton.1 ha]
      exact hj
  · rcases List.mem_append.1 ha with ha | ha
    · exact h.ne a ha
    · rw [List.mem_singleton.1 ha]
      exact ⟨fun e => by have := hnew _ e; have := (h.flt (.inl rfl)).2; omega, fun e => by have := hnew _ e; have := (h.flt (.inr (.inl rfl))).2; omega⟩
  · rcases hget q a ha with ⟨rfl, rfl⟩ | ⟨hq, hq'⟩
    · rcases hget r c hc with ⟨rfl, rfl⟩ | ⟨hr, hr'⟩
      · exact hqr rfl
      · have := hnew k hk
        have := ((h.ix c (List.mem_of_getElem? hr')).flt hk').2
        omega
    · rcases hget r c hc with ⟨rfl, rfl⟩ | ⟨hr, hr'⟩
      · have := hnew k hk'
        have := ((h.ix a (List.mem_of_getElem? hq')).flt hk).2
        omega
      · exact h.dj q r a c hq' hr' hqr k hk hk'
end
end Go.Proofs.Ytekjoccbbamehaa
