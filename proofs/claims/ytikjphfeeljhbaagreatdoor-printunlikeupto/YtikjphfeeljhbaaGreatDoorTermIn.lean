import Derived.Test.YtikjphfeeljhbaaGreatDoorTermAtom
import Derived.Lib.SmallJoins
namespace Go.Proofs.YtikjphfeeljhbaaGreatDoor
open Go.RowKit Go.Maps
set_option linter.unusedVariables false
set_option linter.unusedSimpArgs false
attribute [local go_sem ↓] Go.wp_at_zero Go.wp_at_succ

/-- lists of names in memory -/
def strB (s : ByteArray) : List Value := [.string s]
def atS (l : List ByteArray) (i : Nat) : ByteArray := l.getD i noS
theorem atS_eq {l : List ByteArray} {i : Nat} (h : i < l.length) : atS l i = l[i] := by simp [atS, List.getD, List.getElem?_eq_getElem h]
theorem ls_str {w : World} {v : Value} {l : List ByteArray} (h : Ls w v l.length (l.flatMap strB)) : ∃ a c, v = .slice a l.length c ∧ l.length ≤ c ∧ c ≤ maxLen ∧ (0 < l.length → ∃ g off, a = some ⟨g, off, none⟩ ∧ g < w.heap.size ∧ ∀ i, i < l.length → w.cell? ⟨g, off + i, none⟩ = some (.string (atS l i))) := by
  obtain ⟨hn, a, c, hv, h1, h2, hc⟩ := h
  refine ⟨a, c, hv, h1, h2, fun h0 => ?_⟩
  obtain ⟨g, off, ha, hg, hf⟩ := hc h0
  refine ⟨g, off, ha, hg, fun i hi => ?_⟩
  have := hf.elem (k := 1) (fun _ => rfl) noS hi (j := 0) (by omega) rfl
  rw [Nat.mul_one, Nat.add_zero] at this
  exact this
def inB (l : List ByteArray) (s : ByteArray) : Bool := l.any (fun x => decide (x = s))
theorem inB_iff {l : List ByteArray} {s : ByteArray} : inB l s = true ↔ s ∈ l := by
  unfold inB
  rw [List.any_eq_true]
  constructor
  · rintro ⟨x, hx, e⟩
    rw [← of_decide_eq_true e]
    exact hx
  · exact fun h => ⟨s, h, decide_eq_true rfl⟩
/-- the names of variables among terms, as they first stand there -/
def vsT : List ByteArray → List T → List ByteArray
  | out, [] => out
  | out, t :: ts => if t.v = noS ∨ t.v = blankS ∨ inB out t.v = true then vsT out ts else vsT (out ++ [t.v]) ts
theorem vsT_len : ∀ (ts : List T) (out : List ByteArray), (vsT out ts).length ≤ out.length + ts.length
  | [], out => by simp [vsT]
  | t :: ts, out => by
    unfold vsT
    split
    · have := vsT_len ts out; simp only [List.length_cons]; omega
    · have := vsT_len ts (out ++ [t.v]); simp only [List.length_cons, List.length_append, List.length_nil] at this ⊢; omega
theorem vsT_mem : ∀ (ts : List T) (out : List ByteArray) (n : ByteArray), n ∈ vsT out ts → n ∈ out ∨ ∃ t ∈ ts, t.v = n
  | [], out, n, h => .inl (by simpa [vsT] using h)
  | t :: ts, out, n, h => by
    unfold vsT at h
    split at h
    · rcases vsT_mem ts out n h with h1 | ⟨x, h1, h2⟩
      · exact .inl h1
      · exact .inr ⟨x, List.mem_cons_of_mem _ h1, h2⟩
    · rcases vsT_mem ts _ n h with h1 | ⟨x, h1, h2⟩
      · rcases List.mem_append.1 h1 with h3 | h3
        · exact .inl h3
        · exact .inr ⟨t, List.mem_cons_self, (List.mem_singleton.1 h3).symm⟩
      · exact .inr ⟨x, List.mem_cons_of_mem _ h1, h2⟩
theorem vsT_keeps : ∀ (ts : List T) (out : List ByteArray) (n : ByteArray), n ∈ out → n ∈ vsT out ts
  | [], out, n, h => by simpa [vsT] using h
  | t :: ts, out, n, h => by
    unfold vsT
    split
    · exact vsT_keeps ts out n h
    · exact vsT_keeps ts _ n (List.mem_append.2 (.inl h))
theorem vsT_has : ∀ (ts : List T) (out : List ByteArray), ∀ t ∈ ts, t.v ≠ noS → t.v ≠ blankS → t.v ∈ vsT out ts
  | [], out, t, h, _, _ => by cases h
  | x :: ts, out, t, h, h1, h2 => by
    unfold vsT
    rcases List.mem_cons.1 h with rfl | h3
    · split
      · rename_i hc
        rcases hc with hc | hc | hc
        · exact absurd hc h1
        · exact absurd hc h2
        · exact vsT_keeps ts out _ (inB_iff.1 hc)
      · exact vsT_keeps ts _ _ (List.mem_append.2 (.inr (List.mem_singleton.2 rfl)))
    · split
      · exact vsT_has ts out t h3 h1 h2
      · exact vsT_has ts _ t h3 h1 h2

theorem mem_of_atS {l : List ByteArray} {k : Nat} {s : ByteArray} (h : k < l.length) (e : atS l k = s) : s ∈ l := by
  rw [← e, atS_eq h]
  exact List.getElem_mem h
theorem not_mem_atS {l : List ByteArray} {s : ByteArray} (h : ∀ j, j < l.length → atS l j ≠ s) : s ∉ l := by
  intro hm
  obtain ⟨j, hj, e⟩ := List.getElem_of_mem hm
  exact h j hj (by rw [atS_eq hj]; exact e)
theorem infoStr : (Tryz.prog.info? 9).map (fun i => (i.zero, i.size, i.bytes)) = some (some (.string ⟨#[]⟩), 1, 16) := by kernel_rfl
end Go.Proofs.YtikjphfeeljhbaaGreatDoor
