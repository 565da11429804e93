import Derived.Test.YtfkggabdjcabcaaRelTurnL
namespace Go.Proofs.Ytfkggabdjcabcaa
open Go.RowKit Go.Maps
set_option linter.unusedVariables false
set_option linter.unusedSimpArgs false

/-! the mathematics of RelationSplits -/
theorem turnL_append (ar : Int) (l r : List Tn) : turnL ar (l ++ r) = r.foldl (stepT ar) (turnL ar l) := by
  unfold turnL
  rw [List.foldl_append]
theorem stepT_fits {ar : Int} {s : List (List Int) × Nat} (h : ∀ r ∈ s.1, fitB r ar = true) (x : Tn) : ∀ r ∈ (stepT ar s x).1, fitB r ar = true := by
  unfold stepT
  split
  · split
    · exact fun r hr => h r (List.mem_of_mem_eraseIdx hr)
    · exact h
  · split
    · rename_i hx
      intro r hr
      rcases List.mem_append.1 hr with hr | hr
      · exact h r hr
      · rw [List.mem_singleton.1 hr]; exact hx.1
    · exact h
theorem stepT_nodup {ar : Int} {s : List (List Int) × Nat} (h : s.1.Nodup) (x : Tn) : (stepT ar s x).1.Nodup := by
  unfold stepT
  split
  · split
    · exact h.sublist (List.eraseIdx_sublist _ _)
    · exact h
  · split
    · rename_i hx
      rw [List.nodup_append]
      exact ⟨h, by simp, fun a ha b hb => by rw [List.mem_singleton.1 hb]; exact fun e => hx.2 (e ▸ ha)⟩
    · exact h
theorem foldT_fits {ar : Int} : ∀ (ts : List Tn) {s : List (List Int) × Nat}, (∀ r ∈ s.1, fitB r ar = true) → ∀ r ∈ (ts.foldl (stepT ar) s).1, fitB r ar = true
  | [], _, h => h
  | x :: r, _, h => foldT_fits r (stepT_fits h x)
theorem foldT_nodup {ar : Int} : ∀ (ts : List Tn) {s : List (List Int) × Nat}, s.1.Nodup → (ts.foldl (stepT ar) s).1.Nodup
  | [], _, h => h
  | x :: r, _, h => foldT_nodup r (stepT_nodup h x)
theorem turnL_fits (ar : Int) (ts : List Tn) : ∀ r ∈ (turnL ar ts).1, fitB r ar = true := foldT_fits ts (fun _ h => absurd h (by simp))
theorem turnL_nodup (ar : Int) (ts : List Tn) : (turnL ar ts).1.Nodup := foldT_nodup ts (by simp)
/-- the rows once more, as they came -/
def againT (rows : List (List Int)) : List Tn := rows.map (fun r => (false, r))
theorem fold_again {ar : Int} : ∀ (rows pre : List (List Int)) (n : Nat), (∀ r ∈ rows, fitB r ar = true) → (pre ++ rows).Nodup → (againT rows).foldl (stepT ar) (pre, n) = (pre ++ rows, n)
  | [], pre, n, _, _ => by simp [againT]
  | x :: r, pre, n, hf, nd => by
    have h1 : stepT ar (pre, n) (false, x) = (pre ++ [x], n) := by
      have hx : x ∉ pre := fun hm => by
        rw [List.nodup_append] at nd
        exact nd.2.2 x hm x (List.mem_cons_self) rfl
      simp [stepT, hf x (List.mem_cons_self), hx]
    have ih := fold_again r (pre ++ [x]) n (fun y hy => hf y (List.mem_cons_of_mem _ hy)) (by simpa using nd)
    simp only [againT, List.map_cons, List.foldl_cons] at ih ⊢
    rw [h1, ih]
    simp
theorem turnL_again {ar : Int} {rows : List (List Int)} (hf : ∀ r ∈ rows, fitB r ar = true) (nd : rows.Nodup) : turnL ar (againT rows) = (rows, 0) := by
  have := fold_again (ar := ar) rows [] 0 hf (by simpa using nd)
  simpa [turnL] using this
/-- what the clone comes to: the rows of the old one once more, then the others' turns -/
theorem turnL_clone (ar : Int) (l others : List Tn) : turnL ar (againT (turnL ar l).1 ++ others) = others.foldl (stepT ar) ((turnL ar l).1, 0) := by
  rw [turnL_append, turnL_again (turnL_fits ar l) (turnL_nodup ar l)]
end Go.Proofs.Ytfkggabdjcabcaa
