import Derived.Test.YtfklpedcigdlmaaDoorG3
import Derived.Lib.SmallJoins
import Derived.Maps.OwnSet
import Derived.Maps.AppendAt
import Derived.Deep.OwnRows
import Derived.DeepKeys4
section
namespace Go.Proofs.YtfklpedcigdlmaaDoor
open Go.RowKit Go.Maps
set_option linter.unusedVariables false
set_option linter.unusedSimpArgs false
attribute [local go_sem ↓] Go.wp_at_zero Go.wp_at_succ

/-- lists of names in memory -/
def strB (s : ByteArray) : List Value := [.string s]
def atS (l : List ByteArray) (i : Nat) : ByteArray := l.getD i noS
theorem atS_eq {l : List ByteArray} {i : Nat} (h : i < l.length) : atS l i = l[i] := by simp [atS, List.getD, List.getElem?_eq_getElem h]
theorem ls_str {w : World} {v : Value} {l : List ByteArray} (h : Ls w v l.length (l.flatMap strB)) : ∃ a c, v = .slice a l.length c ∧ l.length ≤ c ∧ c ≤ maxLen ∧ (0 < l.length → ∃ g off, a = some ⟨g, off, none⟩ ∧ g < w.heap.size ∧ ∀ i, i < l.length → w.cell? ⟨g, off + i, none⟩ = some (.string (atS l i))) := by
  obtain ⟨hn, a, c, hv, h1, h2, hc⟩ := h
  refine ⟨a, c, hv, h1, h2, fun h0 => ?_⟩
  obtain ⟨g, off, ha, hg, hf⟩ := hc h0
  refine ⟨g, off, ha, hg, fun i hi => ?_⟩
  have := hf.elem (k := 1) (fun _ => rfl) noS hi (j := 0) (by omega) rfl
  rw [Nat.mul_one, Nat.add_zero] at this
  exact this
def inB (l : List ByteArray) (s : ByteArray) : Bool := l.any (fun x => decide (x = s))
theorem inB_iff {l : List ByteArray} {s : ByteArray} : inB l s = true ↔ s ∈ l := by
  unfold inB
  rw [List.any_eq_true]
  constructor
  · rintro ⟨x, hx, e⟩
    rw [← of_decide_eq_true e]
    exact hx
  · exact fun h => ⟨s, h, decide_eq_true rfl⟩
/-- the names of variables among terms, as they first stand there -/
def vsT : List ByteArray → List T → List ByteArray
  | out, [] => out
  | out, t :: ts => if t.v = noS ∨ t.v = blankS ∨ inB out t.v = true then vsT out ts else vsT (out ++ [t.v]) ts
theorem vsT_len : ∀ (ts : List T) (out : List ByteArray), (vsT out ts).length ≤ out.length + ts.length
  | [], out => by simp [vsT]
  | t :: ts, out => by
    unfold vsT
    split
    · have := vsT_len ts out; simp only [List.length_cons]; omega
    · have := vsT_len ts (out ++ [t.v]); simp only [List.length_cons, List.length_append, List.length_nil] at this ⊢; omega
theorem vsT_mem : ∀ (ts : List T) (out : List ByteArray) (n : ByteArray), n ∈ vsT out ts → n ∈ out ∨ ∃ t ∈ ts, t.v = n
  | [], out, n, h => .inl (by simpa [vsT] using h)
  | t :: ts, out, n, h => by
    unfold vsT at h
    split at h
    · rcases vsT_mem ts out n h with h1 | ⟨x, h1, h2⟩
      · exact .inl h1
      · exact .inr ⟨x, List.mem_cons_of_mem _ h1, h2⟩
    · rcases vsT_mem ts _ n h with h1 | ⟨x, h1, h2⟩
      · rcases List.mem_append.1 h1 with h3 | h3
        · exact .inl h3
        · exact .inr ⟨t, List.mem_cons_self, (List.mem_singleton.1 h3).symm⟩
      · exact .inr ⟨x, List.mem_cons_of_mem _ h1, h2⟩
theorem vsT_keeps : ∀ (ts : List T) (out : List ByteArray) (n : ByteArray), n ∈ out → n ∈ vsT out ts
  | [], out, n, h => by simpa [vsT] using h
  | t :: ts, out, n, h => by
    unfold vsT
    split
    · exact vsT_keeps ts out n h
    · exact vsT_keeps ts _ n (List.mem_append.2 (.inl h))
theorem vsT_has : ∀ (ts : List T) (out : List ByteArray), ∀ t ∈ ts, t.v ≠ noS → t.v ≠ blankS → t.v ∈ vsT out ts
  | [], out, t, h, _, _ => by cases h
  | x :: ts, out, t, h, h1, h2 => by
    unfold vsT
    rcases List.mem_cons.1 h with rfl | h3
    · split
      · rename_i hc
        rcases hc with hc | hc | hc
        · exact absurd hc h1
        · exact absurd hc h2
        · exact vsT_keeps ts out _ (inB_iff.1 hc)
      · exact vsT_keeps ts _ _ (List.mem_append.2 (.inr (List.mem_singleton.2 rfl)))
    · split
      · exact vsT_has ts out t h3 h1 h2
      · exact vsT_has ts _ t h3 h1 h2

theorem mem_of_atS {l : List ByteArray} {k : Nat} {s : ByteArray} (h : k < l.length) (e : atS l k = s) : s ∈ l := by
  rw [← e, atS_eq h]
  exact List.getElem_mem h
theorem not_mem_atS {l : List ByteArray} {s : ByteArray} (h : ∀ j, j < l.length → atS l j ≠ s) : s ∉ l := by
  intro hm
  obtain ⟨j, hj, e⟩ := List.getElem_of_mem hm
  exact h j hj (by rw [atS_eq hj]; exact e)
end Go.Proofs.YtfklpedcigdlmaaDoor
end
section
namespace Go.Proofs.YtfklpedcigdlmaaDoor
open Go.RowKit Go.Maps Go.ChangeMaps
set_option linter.unusedVariables false
set_option linter.unusedSimpArgs false

theorem keyedS : Keyed Tryd.prog 9 := string_keyed Tryd.underlying9
theorem keyOf_s (s : ByteArray) (h : s.size ≤ maxLen) : keyOf Tryd.prog 9 (.string s) = some (.string s.data.toList) := by
  unfold keyOf mapKey
  rw [Tryd.underlying9]
  simp [h]
/-- block b is a set of these names -/
def SetIs (w : World) (b : Nat) (ss : List ByteArray) : Prop :=
  ∃ es clock, w.heap[b]? = some (.map es clock) ∧ es.toList.map (fun e => (e.key, e.val)) = ss.map (fun s => (Value.string s, Value.agg #[])) ∧ ∀ s ∈ ss, s.size ≤ maxLen
theorem SetIs.lt {w : World} {b : Nat} {ss : List ByteArray} (h : SetIs w b ss) : b < w.heap.size := by
  obtain ⟨es, c, hb, _⟩ := h
  exact (Array.getElem?_eq_some_iff.1 hb).1
theorem SetIs.of_block {w w' : World} {b : Nat} {ss : List ByteArray} (h : SetIs w b ss) (e : w'.heap[b]? = w.heap[b]?) : SetIs w' b ss := by
  obtain ⟨es, c, hb, r⟩ := h
  exact ⟨es, c, e.trans hb, r⟩
theorem SetIs.made (w : World) : SetIs (w.alloc (.map #[] 0)) w.heap.size [] := ⟨#[], 0, heap_alloc_new w _, rfl, by simp⟩
theorem sents_at {es : Array MapEntry} {ss : List ByteArray} (h : es.toList.map (fun e => (e.key, e.val)) = ss.map (fun s => (Value.string s, Value.agg #[]))) {j : Nat} {e : MapEntry} (hj : es.toList[j]? = some e) :
    ∃ s, ss[j]? = some s ∧ e.key = .string s ∧ e.val = .agg #[] := by
  have h1 := congrArg (fun l => l[j]?) h
  simp only [List.getElem?_map, hj, Option.map_some] at h1
  obtain ⟨p, hp, he⟩ := Option.map_eq_some_iff.1 h1.symm
  simp only [Prod.mk.injEq] at he
  exact ⟨p, hp, he.1.symm, he.2.symm⟩
theorem sents_keys {es : Array MapEntry} {ss : List ByteArray} (h : es.toList.map (fun e => (e.key, e.val)) = ss.map (fun s => (Value.string s, Value.agg #[]))) (hw : ∀ s ∈ ss, s.size ≤ maxLen) : ∀ e ∈ es.toList, ∃ l, keyOf Tryd.prog 9 e.key = some l := by
  intro e he
  obtain ⟨j, hj⟩ := List.getElem?_of_mem he
  obtain ⟨p, hp, hk, _⟩ := sents_at h hj
  rw [hk]
  exact ⟨_, keyOf_s _ (hw p (List.mem_of_getElem? hp))⟩
theorem sents_no {es : Array MapEntry} {ss : List ByteArray} (h : es.toList.map (fun e => (e.key, e.val)) = ss.map (fun s => (Value.string s, Value.agg #[]))) {s : ByteArray} (hn : ∀ e ∈ es.toList, e.key ≠ .string s) : s ∉ ss := by
  intro hp
  obtain ⟨j, hj⟩ := List.getElem?_of_mem hp
  have h1 := congrArg (fun l => l[j]?) h
  simp only [List.getElem?_map, hj, Option.map_some] at h1
  obtain ⟨x, hx, he⟩ := Option.map_eq_some_iff.1 h1
  simp only [Prod.mk.injEq] at he
  exact hn x (List.mem_of_getElem? hx) he.1
end Go.Proofs.YtfklpedcigdlmaaDoor
end
