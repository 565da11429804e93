import Derived.Test.YtlajlofccpnilaaDoorTmMostB
import Derived.Test.YtlajlofccpnilaaDoorTermNames
namespace Go.Proofs.YtlajlofccpnilaaDoor
open Go.RowKit Go.Maps
set_option linter.unusedVariables false
set_option linter.unusedSimpArgs false

/-- what an atom's columns ask of a fact's -/
def ColOK (ts : List T) (vs : List V) (i : Nat) : Prop := okV (atV vs i) = true ∧ ((atT ts i).v = blankS ∨ ((atT ts i).v = noS ∧ (atT ts i).a = atV vs i) ∨ (((atT ts i).v ≠ noS ∧ (atT ts i).v ≠ blankS) ∧ firstV ts vs (atT ts i).v = atV vs i))
def Fit (ts : List T) (vs : List V) : Prop := ∀ i, i < ts.length → ColOK ts vs i
theorem fitsB_iff (fin : List B) : ∀ (ts : List T) (vs : List V), ts.length = vs.length → (fitsB fin ts vs = true ↔ ∀ i, i < ts.length → fitB fin (atT ts i) (atV vs i) = true)
  | [], [], _ => ⟨fun _ i hi => absurd hi (by simp), fun _ => rfl⟩
  | [], _ :: _, h => by simp at h
  | _ :: _, [], h => by simp at h
  | t :: ts, v :: vs, h => by
    have ih := fitsB_iff fin ts vs (by simpa using h)
    rw [fitsB, Bool.and_eq_true]
    constructor
    · rintro ⟨h1, h2⟩ i hi
      cases i with
      | zero => exact h1
      | succ i => exact ih.1 h2 i (by simpa using hi)
    · intro hh
      exact ⟨hh 0 (by simp), ih.2 (fun i hi => hh (i + 1) (by simpa using hi))⟩
theorem seek_map (g : ByteArray → V) : ∀ {ns : List ByteArray} {n : ByteArray}, n ∈ ns → seek (ns.map (fun n => (⟨n, g n⟩ : B))) n = some (g n)
  | [], n, h => by cases h
  | m :: ns, n, h => by
    unfold seek
    rw [List.map_cons, List.find?_cons]
    by_cases e : m = n
    · subst e; simp
    · have ih := seek_map g (List.mem_of_ne_of_mem (Ne.symm e) h)
      unfold seek at ih
      simp only [decide_eq_false e]
      exact ih
theorem isV_map (g : ByteArray → V) : ∀ {ns : List ByteArray} {n : ByteArray}, n ∈ ns → okV (g n) = true → isV (ns.map (fun n => (⟨n, g n⟩ : B))) n = g n
  | [], n, h, _ => by cases h
  | m :: ns, n, h, ho => by
    unfold isV
    rw [List.map_cons, List.find?_cons]
    by_cases e : m = n
    · subst e; simp [ho]
    · have ih := isV_map g (List.mem_of_ne_of_mem (Ne.symm e) h) ho
      unfold isV at ih
      simp only [decide_eq_false e, Bool.false_and]
      exact ih
theorem vsT_good : ∀ (ts : List T) (out : List ByteArray) (n : ByteArray), n ∈ vsT out ts → n ∈ out ∨ (n ≠ noS ∧ n ≠ blankS ∧ ∃ t ∈ ts, t.v = n)
  | [], out, n, h => .inl h
  | t :: ts, out, n, h => by
    by_cases c : t.v = noS ∨ t.v = blankS ∨ inB out t.v = true
    · rw [vsT_skip c] at h
      rcases vsT_good ts out n h with h | ⟨h1, h2, u, hu, h3⟩
      · exact .inl h
      · exact .inr ⟨h1, h2, u, by simp [hu], h3⟩
    · have c1 : ¬ t.v = noS := fun e => c (.inl e)
      have c2 : ¬ t.v = blankS := fun e => c (.inr (.inl e))
      have c3 : ¬ inB out t.v = true := fun e => c (.inr (.inr e))
      rw [vsT_take c1 c2 c3] at h
      rcases vsT_good ts _ n h with h | ⟨h1, h2, u, hu, h3⟩
      · rcases List.mem_append.1 h with h | h
        · exact .inl h
        · rw [List.mem_singleton.1 h]
          exact .inr ⟨c1, c2, t, by simp, rfl⟩
      · exact .inr ⟨h1, h2, u, by simp [hu], h3⟩
theorem mem_vs {ts : List T} {i : Nat} (h : i < ts.length) (h1 : (atT ts i).v ≠ noS) (h2 : (atT ts i).v ≠ blankS) : (atT ts i).v ∈ vsT [] ts := by
  rw [atT_eq h] at *
  exact vsT_has ts [] _ (List.getElem_mem h) h1 h2
theorem fit_col {ts : List T} {vs : List V} (hl : ts.length = vs.length) {i : Nat} (h : i < ts.length) : fitB (gath [] ts vs) (atT ts i) (atV vs i) = true ↔ ColOK ts vs i := by
  unfold fitB ColOK
  rw [Bool.and_eq_true, Bool.or_eq_true, decide_eq_true_eq]
  refine and_congr_right fun _ => ?_
  by_cases b : (atT ts i).v = blankS
  · exact ⟨fun _ => .inl b, fun _ => .inl b⟩
  · by_cases n : (atT ts i).v = noS
    · rw [if_pos n, decide_eq_true_eq]
      constructor
      · rintro (h | h)
        · exact absurd h b
        · exact .inr (.inl ⟨n, h⟩)
      · rintro (h | ⟨_, h⟩ | ⟨⟨h, _⟩, _⟩)
        · exact absurd h b
        · exact .inr h
        · exact absurd n h
    · rw [if_neg n, decide_eq_true_eq, ← names_gath hl, seek_map _ (mem_vs h n b)]
      constructor
      · rintro (h | h)
        · exact absurd h b
        · injection h with h
          exact .inr (.inr ⟨⟨n, b⟩, h⟩)
      · rintro (h | ⟨h, _⟩ | ⟨_, h⟩)
        · exact absurd h b
        · exact absurd h n
        · exact .inr (by rw [h])
theorem mat_fit {ts : List T} {vs : List V} (hl : ts.length = vs.length) (h : Fit ts vs) : mat [] ts vs = some ((vsT [] ts).map (fun n => (⟨n, firstV ts vs n⟩ : B))) := by
  rw [mat_gath ts vs [] (fun b hb => by cases hb), if_pos ((fitsB_iff _ ts vs hl).2 (fun i hi => (fit_col hl hi).2 (h i hi))), names_gath hl]
theorem mat_not {ts : List T} {vs : List V} (hl : ts.length = vs.length) (h : ¬ Fit ts vs) : mat [] ts vs = none := by
  rw [mat_gath ts vs [] (fun b hb => by cases hb), if_neg (fun e => h (fun i hi => (fit_col hl hi).1 ((fitsB_iff _ ts vs hl).1 e i hi)))]
theorem fit_of_mat {ts : List T} {vs : List V} (hl : ts.length = vs.length) {s : List B} (h : mat [] ts vs = some s) : Fit ts vs ∧ s = (vsT [] ts).map (fun n => (⟨n, firstV ts vs n⟩ : B)) := by
  by_cases c : Fit ts vs
  · rw [mat_fit hl c] at h
    injection h with h
    exact ⟨c, h.symm⟩
  · rw [mat_not hl c] at h
    cases h
/-- the first column of a name -/
theorem first_at {ts : List T} {vs : List V} {i : Nat} (h : i < ts.length) : ∃ j, j ≤ i ∧ (atT ts j).v = (atT ts i).v ∧ firstV ts vs (atT ts i).v = atV vs j := by
  have hm : ts[i] ∈ ts := List.getElem_mem h
  have hlt : ts.findIdx (fun t => decide (t.v = (atT ts i).v)) < ts.length := List.findIdx_lt_length_of_exists ⟨ts[i], hm, by rw [atT_eq h]; simp⟩
  have hp := List.findIdx_getElem (w := hlt)
  refine ⟨ts.findIdx (fun t => decide (t.v = (atT ts i).v)), ?_, ?_, rfl⟩
  · refine Nat.le_of_not_lt fun hh => ?_
    have := List.not_of_lt_findIdx hh
    rw [← atT_eq h] at this
    simp at this
  · rw [atT_eq hlt]
    simpa using hp
theorem okV_grT {l : List B} {t : T} (h : termB t = true) : okV (grT l t) = true := by
  unfold grT
  split
  · rename_i e
    unfold termB at h
    rw [if_pos e] at h
    exact h
  · split
    · decide +kernel
    · rcases isV_cases l t.v with e | ⟨b, _, e, ho⟩
      · rw [e]; decide +kernel
      · rw [e]; exact ho
theorem atT_ok {ts : List T} (h : ts.all termB = true) {i : Nat} (hi : i < ts.length) : termB (atT ts i) = true := by
  rw [atT_eq hi]
  exact List.all_eq_true.1 h _ (List.getElem_mem hi)
theorem grT_var (l : List B) {t : T} (h1 : t.v ≠ noS) (h2 : t.v ≠ blankS) : grT l t = isV l t.v := by unfold grT; rw [if_neg h1, if_neg h2]
theorem fit_gr (l : List B) {ts : List T} (h : ts.all termB = true) : Fit ts (gr l ts) := fun i hi => by
  refine ⟨by rw [atV_gr l ts hi]; exact okV_grT (atT_ok h hi), ?_⟩
  by_cases b : (atT ts i).v = blankS
  · exact .inl b
  · by_cases n : (atT ts i).v = noS
    · refine .inr (.inl ⟨n, ?_⟩)
      rw [atV_gr l ts hi]
      unfold grT
      rw [if_pos n]
    · refine .inr (.inr ⟨⟨n, b⟩, ?_⟩)
      obtain ⟨j, hj, e, hf⟩ := first_at (ts := ts) (vs := gr l ts) hi
      rw [hf, atV_gr l ts (by omega : j < ts.length), atV_gr l ts hi, grT_var l n b, grT_var l (by rw [e]; exact n) (by rw [e]; exact b), e]
theorem mat_gr (l : List B) {ts : List T} (h : ts.all termB = true) : mat [] ts (gr l ts) = some ((vsT [] ts).map (fun n => (⟨n, isV l n⟩ : B))) := by
  rw [mat_fit (gr_len l ts).symm (fit_gr l h)]
  congr 1
  refine List.map_congr_left fun n hn => ?_
  rcases vsT_good ts [] n hn with hh | ⟨h1, h2, t, ht, rfl⟩
  · cases hh
  · obtain ⟨i, hi, rfl⟩ := List.getElem_of_mem ht
    obtain ⟨j, hj, e, hf⟩ := first_at (ts := ts) (vs := gr l ts) hi
    rw [atT_eq hi] at e hf
    rw [hf, atV_gr l ts (by omega : j < ts.length), grT_var l (by rw [e]; exact h1) (by rw [e]; exact h2), e]
/-- what is found makes the atom that fact, but for blanks -/
theorem back_fit {ts : List T} {vs : List V} (hl : ts.length = vs.length) {s : List B} (h : mat [] ts vs = some s) {i : Nat} (hi : i < ts.length) (hb : (atT ts i).v ≠ blankS) : atV vs i = grT s (atT ts i) := by
  obtain ⟨hf, rfl⟩ := fit_of_mat hl h
  obtain ⟨ho, h1 | ⟨h1, h2⟩ | ⟨⟨h1, h2⟩, h3⟩⟩ := hf i hi
  · exact absurd h1 hb
  · unfold grT
    rw [if_pos h1, h2]
  · rw [grT_var _ h1 hb, isV_map _ (mem_vs hi h1 hb) (by rw [h3]; exact ho), h3]
/-- how often a name stands among the first columns -/
def cnt (ts : List T) (n : ByteArray) : Nat → Nat
  | 0 => 0
  | k + 1 => cnt ts n k + (if (atT ts k).v = n then 1 else 0)
theorem cnt_le (ts : List T) (n : ByteArray) : ∀ k, cnt ts n k ≤ k
  | 0 => Nat.le_refl _
  | k + 1 => by have := cnt_le ts n k; unfold cnt; split <;> omega
theorem cnt_mono (ts : List T) (n : ByteArray) (k : Nat) : ∀ j, cnt ts n k ≤ cnt ts n (k + j)
  | 0 => Nat.le_refl _
  | j + 1 => by have := cnt_mono ts n k j; rw [← Nat.add_assoc, cnt]; omega
theorem cnt_one (ts : List T) (n : ByteArray) {k i : Nat} (h : i < k) (e : (atT ts i).v = n) : 1 ≤ cnt ts n k := by
  have h1 : cnt ts n (i + 1) = cnt ts n i + 1 := by rw [cnt, if_pos e]
  have h2 := cnt_mono ts n (i + 1) (k - (i + 1))
  rw [show i + 1 + (k - (i + 1)) = k by omega] at h2
  omega
theorem cnt_two (ts : List T) (n : ByteArray) {k i j : Nat} (hij : i < j) (h : j < k) (e1 : (atT ts i).v = n) (e2 : (atT ts j).v = n) : 2 ≤ cnt ts n k := by
  have h0 := cnt_one ts n hij e1
  have h1 : cnt ts n (j + 1) = cnt ts n j + 1 := by rw [cnt, if_pos e2]
  have h2 := cnt_mono ts n (j + 1) (k - (j + 1))
  rw [show j + 1 + (k - (j + 1)) = k by omega] at h2
  omega
theorem cnt_lone (ts : List T) (n : ByteArray) (a : Nat) : ∀ k, (∀ i, i < k → i ≠ a → (atT ts i).v ≠ n) → cnt ts n k ≤ 1 ∧ (k ≤ a → cnt ts n k = 0)
  | 0, _ => ⟨by simp [cnt], fun _ => rfl⟩
  | k + 1, h => by
    have ih := cnt_lone ts n a k (fun i hi => h i (by omega))
    rw [cnt]
    by_cases e : k = a
    · have := ih.2 (by omega)
      constructor
      · split <;> omega
      · intro; omega
    · rw [if_neg (h k (by omega) e)]
      exact ⟨by omega, fun hh => by have := ih.2 (by omega); omega⟩
theorem atV_set {vs : List V} {k i : Nat} {v : V} (h : i < vs.length) : atV (vs.set k v) i = if i = k then v else atV vs i := by
  by_cases e : i = k
  · subst e
    simp [atV, List.getD, h]
  · rw [if_neg e]
    simp [atV, List.getD, List.getElem?_set_ne (Ne.symm e)]
/-- a fact that is otherwise in one column -/
theorem mat_turned (l : List B) {ts : List T} (h : ts.all termB = true) {k : Nat} (hk : k < ts.length) (hb : (atT ts k).v ≠ blankS) {v : V} (hv : okV v = true) (hne : v ≠ grT l (atT ts k)) :
    (mat [] ts ((gr l ts).set k v)).isSome = (!decide ((atT ts k).v = noS) && decide (cnt ts (atT ts k).v ts.length = 1)) := by
  have hl : ts.length = ((gr l ts).set k v).length := by rw [List.length_set, gr_len]
  have at1 : ∀ i, i < ts.length → atV ((gr l ts).set k v) i = if i = k then v else grT l (atT ts i) := fun i hi => by
    rw [atV_set (by rw [gr_len]; exact hi), atV_gr l ts hi]
  by_cases n : (atT ts k).v = noS
  · rw [mat_not hl (fun hf => ?_), decide_eq_true n]
    · rfl
    · obtain ⟨_, h1 | ⟨_, h2⟩ | ⟨⟨h1, _⟩, _⟩⟩ := hf k hk
      · exact hb h1
      · rw [at1 k hk, if_pos rfl] at h2
        apply hne
        rw [← h2]
        unfold grT
        rw [if_pos n]
      · exact h1 n
  · by_cases o : ∀ i, i < ts.length → i ≠ k → (atT ts i).v ≠ (atT ts k).v
    · have c1 : cnt ts (atT ts k).v ts.length = 1 := by
        have := (cnt_lone ts (atT ts k).v k ts.length o).1
        have := cnt_one ts (atT ts k).v hk rfl
        omega
      rw [mat_fit hl (fun i hi => ?_), decide_eq_false n, c1]
      · rfl
      · refine ⟨?_, ?_⟩
        · rw [at1 i hi]
          split
          · exact hv
          · exact okV_grT (atT_ok h hi)
        · by_cases b : (atT ts i).v = blankS
          · exact .inl b
          · by_cases n' : (atT ts i).v = noS
            · refine .inr (.inl ⟨n', ?_⟩)
              have : i ≠ k := fun e => n (by rw [← e]; exact n')
              rw [at1 i hi, if_neg this]
              unfold grT
              rw [if_pos n']
            · refine .inr (.inr ⟨⟨n', b⟩, ?_⟩)
              obtain ⟨j, hj, e, hf⟩ := first_at (ts := ts) (vs := (gr l ts).set k v) hi
              rw [hf, at1 j (by omega), at1 i hi]
              by_cases ik : i = k
              · have jk : j = k := by
                  refine Decidable.by_contra fun jk => o j (by omega) jk ?_
                  rw [e, ik]
                rw [if_pos jk, if_pos ik]
              · have jk : j ≠ k := fun jk => o i hi ik (by rw [← e, jk])
                rw [if_neg jk, if_neg ik, grT_var l n' b, grT_var l (by rw [e]; exact n') (by rw [e]; exact b), e]
    · have ⟨i, hi, ik, e⟩ : ∃ i, i < ts.length ∧ i ≠ k ∧ (atT ts i).v = (atT ts k).v := by
        refine Classical.byContradiction fun c => o fun i hi ik e => c ⟨i, hi, ik, e⟩
      have c2 : 2 ≤ cnt ts (atT ts k).v ts.length := by
        by_cases lt : i < k
        · exact cnt_two ts _ lt hk e rfl
        · exact cnt_two ts _ (by omega : k < i) hi rfl e
      rw [mat_not hl (fun hf => ?_), decide_eq_false (by omega : ¬ cnt ts (atT ts k).v ts.length = 1), Bool.and_false]
      · rfl
      · obtain ⟨_, h1 | ⟨h1, _⟩ | ⟨_, h3⟩⟩ := hf k hk
        · exact hb h1
        · exact n h1
        · obtain ⟨_, g1 | ⟨g1, _⟩ | ⟨_, g3⟩⟩ := hf i hi
          · exact hb (by rw [← e]; exact g1)
          · exact n (by rw [← e]; exact g1)
          · rw [at1 k hk, if_pos rfl] at h3
            rw [e, h3, at1 i hi, if_neg ik] at g3
            apply hne
            rw [g3, grT_var l (by rw [e]; exact n) (by rw [e]; exact hb), grT_var l n hb, e]
end Go.Proofs.YtlajlofccpnilaaDoor
