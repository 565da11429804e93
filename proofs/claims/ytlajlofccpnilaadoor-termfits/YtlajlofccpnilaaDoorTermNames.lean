import Derived.Test.YtlajlofccpnilaaDoorTermIn
import Derived.Test.YtlajlofccpnilaaDoorTermMatch
namespace Go.Proofs.YtlajlofccpnilaaDoor
open Go.RowKit Go.Maps
set_option linter.unusedVariables false
set_option linter.unusedSimpArgs false

theorem gath_names : ∀ (ts : List T) (vs : List V) (out : List B), ts.length = vs.length → (gath out ts vs).map B.v = vsT (out.map B.v) ts
  | [], _, out, _ => by simp [gath, vsT]
  | t :: ts, [], out, h => by simp at h
  | t :: ts, v :: vs, out, h => by
    have h' : ts.length = vs.length := by simpa using h
    have hs : (seek out t.v).isSome = true ↔ inB (out.map B.v) t.v = true := by
      rw [inB_iff]
      constructor
      · intro hh
        obtain ⟨a, ha⟩ := Option.isSome_iff_exists.1 hh
        exact List.mem_map.2 ⟨_, seek_mem ha, rfl⟩
      · intro hh
        obtain ⟨b, hb, e⟩ := List.mem_map.1 hh
        cases hn : seek out t.v with
        | none => exact absurd e (seek_none.1 hn b hb)
        | some a => rfl
    unfold gath vsT
    by_cases hc : t.v = noS ∨ t.v = blankS ∨ inB (out.map B.v) t.v = true
    · rw [if_pos hc, if_pos (by rcases hc with h1 | h1 | h1; · exact .inl h1
                                · exact .inr (.inl h1)
                                · exact .inr (.inr (hs.2 h1)))]
      exact gath_names ts vs out h'
    · rw [if_neg hc, if_neg (by rintro (h1 | h1 | h1)
                                · exact hc (.inl h1)
                                · exact hc (.inr (.inl h1))
                                · exact hc (.inr (.inr (hs.1 h1))))]
      have := gath_names ts vs (out ++ [⟨t.v, v⟩]) h'
      rw [this, List.map_append]
      rfl
/-- what stands in the first column of a name -/
def firstV (ts : List T) (vs : List V) (n : ByteArray) : V := atV vs (ts.findIdx (fun t => decide (t.v = n)))
theorem firstV_here {t : T} {ts : List T} {v : V} {vs : List V} : firstV (t :: ts) (v :: vs) t.v = v := by
  simp [firstV, List.findIdx_cons, atV]
theorem firstV_next {t : T} {ts : List T} {v : V} {vs : List V} {n : ByteArray} (h : t.v ≠ n) : firstV (t :: ts) (v :: vs) n = firstV ts vs n := by
  simp [firstV, List.findIdx_cons, h, atV]
theorem gath_first : ∀ (ts : List T) (vs : List V) (out : List B), ts.length = vs.length → ∀ b ∈ gath out ts vs, b ∈ out ∨ (firstV ts vs b.v = b.a ∧ ∀ c ∈ out, c.v ≠ b.v)
  | [], _, out, _, b, hb => by simp [gath] at hb; exact .inl hb
  | t :: ts, [], out, h, b, hb => by simp at h
  | t :: ts, v :: vs, out, h, b, hb => by
    have h' : ts.length = vs.length := by simpa using h
    by_cases hc : t.v = noS ∨ t.v = blankS ∨ (seek out t.v).isSome
    · rw [gath, if_pos hc] at hb
      rcases gath_first ts vs out h' b hb with h1 | ⟨h1, h2⟩
      · exact .inl h1
      · by_cases e : t.v = b.v
        · exfalso
          have hn : (gath out ts vs).map B.v = vsT (out.map B.v) ts := gath_names ts vs out h'
          rcases hc with h3 | h3 | h3
          · have : ∀ (ts : List T) (o : List ByteArray), noS ∉ o → noS ∉ vsT o ts := by
              intro ts
              induction ts with
              | nil => intro o ho; simpa [vsT] using ho
              | cons x xs ih =>
                intro o ho
                unfold vsT
                split
                · exact ih o ho
                · rename_i hx
                  refine ih _ ?_
                  simp only [List.mem_append, List.mem_singleton, not_or]
                  exact ⟨ho, fun e => hx (.inl e.symm)⟩
            have hm : b.v ∈ (gath out ts vs).map B.v := List.mem_map.2 ⟨b, hb, rfl⟩
            rw [hn, ← e, h3] at hm
            refine this ts (out.map B.v) ?_ hm
            intro ho
            obtain ⟨c, hc1, hc2⟩ := List.mem_map.1 ho
            exact h2 c hc1 (by rw [hc2, ← e, h3])
          · have : ∀ (ts : List T) (o : List ByteArray), blankS ∉ o → blankS ∉ vsT o ts := by
              intro ts
              induction ts with
              | nil => intro o ho; simpa [vsT] using ho
              | cons x xs ih =>
                intro o ho
                unfold vsT
                split
                · exact ih o ho
                · rename_i hx
                  refine ih _ ?_
                  simp only [List.mem_append, List.mem_singleton, not_or]
                  exact ⟨ho, fun e => hx (.inr (.inl e.symm))⟩
            have hm : b.v ∈ (gath out ts vs).map B.v := List.mem_map.2 ⟨b, hb, rfl⟩
            rw [hn, ← e, h3] at hm
            refine this ts (out.map B.v) ?_ hm
            intro ho
            obtain ⟨c, hc1, hc2⟩ := List.mem_map.1 ho
            exact h2 c hc1 (by rw [hc2, ← e, h3])
          · obtain ⟨a, ha⟩ := Option.isSome_iff_exists.1 h3
            exact h2 _ (seek_mem ha) e
        · exact .inr ⟨by rw [firstV_next e]; exact h1, h2⟩
    · rw [gath, if_neg hc] at hb
      rcases gath_first ts vs _ h' b hb with h1 | ⟨h1, h2⟩
      · rcases List.mem_append.1 h1 with h3 | h3
        · exact .inl h3
        · rw [List.mem_singleton.1 h3]
          refine .inr ⟨firstV_here, fun c hcm e => ?_⟩
          refine hc (.inr (.inr ?_))
          cases hn : seek out t.v with
          | none => exact absurd e (seek_none.1 hn c hcm)
          | some a => rfl
      · have e : t.v ≠ b.v := h2 ⟨t.v, v⟩ (by simp)
        exact .inr ⟨by rw [firstV_next e]; exact h1, fun c hcm => h2 c (List.mem_append.2 (.inl hcm))⟩
/-- the names with what stands in their first columns are what is gathered -/
theorem names_gath {ts : List T} {vs : List V} (h : ts.length = vs.length) : (vsT [] ts).map (fun n => (⟨n, firstV ts vs n⟩ : B)) = gath [] ts vs := by
  have h1 := gath_names ts vs [] h
  rw [List.map_nil] at h1
  rw [← h1, List.map_map]
  have : ∀ b ∈ gath [] ts vs, ((fun n => (⟨n, firstV ts vs n⟩ : B)) ∘ B.v) b = b := by
    intro b hb
    rcases gath_first ts vs [] h b hb with h2 | ⟨h2, _⟩
    · cases h2
    · show (⟨b.v, firstV ts vs b.v⟩ : B) = b
      rw [h2]
  exact (List.map_congr_left this).trans (List.map_id _)
end Go.Proofs.YtlajlofccpnilaaDoor
