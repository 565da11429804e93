import Derived.Test.YtekjoccbbamehaaRelAt
namespace Go.Proofs.Ytekjoccbbamehaa
open Go.RowKit Go.Maps
set_option linter.unusedVariables false
set_option linter.unusedSimpArgs false

/-- a mask that leaves a column out -/
def offB (m : Int) (k : Nat) : Bool := bits BinOp.and IntKind.u32 m (2 ^ k % 4294967296) == 0
/-- the first n columns under a mask -/
def underN (m : Int) (r : List Int) : Nat → List Int
  | 0 => r
  | k + 1 => if offB m k = true then (underN m r k).set k 0 else underN m r k
def underL (m : Int) (r : List Int) : List Int := underN m r 24
theorem underN_len (m : Int) (r : List Int) : ∀ n, (underN m r n).length = r.length
  | 0 => rfl
  | n + 1 => by
    unfold underN
    split
    · rw [List.length_set]; exact underN_len m r n
    · exact underN_len m r n
theorem underN_at (m : Int) (r : List Int) (i : Nat) : ∀ n, (underN m r n)[i]? = if i < n ∧ offB m i = true then r[i]?.map (fun _ => 0) else r[i]?
  | 0 => by simp [underN]
  | n + 1 => by
    unfold underN
    by_cases h : offB m n = true
    · rw [if_pos h, List.getElem?_set]
      by_cases e : n = i
      · subst e
        have hl := underN_len m r n
        simp only [if_true, h, and_true, hl, Nat.lt_succ_self]
        by_cases hr : n < r.length
        · simp [hr]
        · simp [hr]
      · rw [if_neg e, underN_at m r i n]
        have : (i < n + 1 ∧ offB m i = true) ↔ (i < n ∧ offB m i = true) := ⟨fun ⟨a, b⟩ => ⟨by omega, b⟩, fun ⟨a, b⟩ => ⟨by omega, b⟩⟩
        simp only [this]
    · rw [if_neg h, underN_at m r i n]
      have : (i < n + 1 ∧ offB m i = true) ↔ (i < n ∧ offB m i = true) := ⟨fun ⟨a, b⟩ => ⟨by
        rcases Nat.lt_succ_iff_lt_or_eq.1 a with a | a
        · exact a
        · subst a; exact absurd b h, b⟩, fun ⟨a, b⟩ => ⟨by omega, b⟩⟩
      simp only [this]
/-- two rows are one under a mask -/
theorem underL_eq {m : Int} {x y : List Int} (hx : x.length = 24) (hy : y.length = 24) : underL m y = underL m x ↔ ∀ i, i < 24 → offB m i = true ∨ y[i]? = x[i]? := by
  unfold underL
  constructor
  · intro h i hi
    have h1 := congrArg (fun l => l[i]?) h
    simp only [underN_at] at h1
    by_cases ho : offB m i = true
    · exact .inl ho
    · simp only [hi, ho, and_false, if_false] at h1
      exact .inr h1
  · intro h
    apply List.ext_getElem?
    intro i
    rw [underN_at, underN_at]
    by_cases hi : i < 24
    · rcases h i hi with ho | he
      · simp only [hi, ho, and_self, if_true]
        rw [List.getElem?_eq_getElem (by omega), List.getElem?_eq_getElem (by omega)]
        rfl
      · rw [he]
    · rw [if_neg (fun e => hi e.1), if_neg (fun e => hi e.1), List.getElem?_eq_none (by omega), List.getElem?_eq_none (by omega)]
theorem underL_len (m : Int) (r : List Int) : (underL m r).length = r.length := underN_len m r 24
theorem RowAt.cellU {w : World} {b : Nat} {r : List Int} (h : RowAt w b r) (hl : r.length = 24) {k : Nat} (hk : k < 24) : w.cell? ⟨b, k, none⟩ = some (.int .i32 (r.getD k 0)) := by
  have h1 : w.heap[b]? = some (.cells (rowC r) 34 (0, 0)) := h
  have h2 : k < r.length := by omega
  simp [World.cell?, h1, rowC, cellI, List.getD, List.getElem?_eq_getElem h2]
theorem RowAt.frozenU {w : World} {b : Nat} {r : List Int} (h : RowAt w b r) (k : Nat) : w.frozen? ⟨b, k, none⟩ = false := by
  have h1 : w.heap[b]? = some (.cells (rowC r) 34 (0, 0)) := h
  simp [World.frozen?, h1]
theorem RowAt.setU {w : World} {b : Nat} {r : List Int} (h : RowAt w b r) (k : Nat) (x : Int) : RowAt (w.setCell ⟨b, k, none⟩ (.int .i32 x)) b (r.set k x) := by
  have h1 : w.heap[b]? = some (.cells (rowC r) 34 (0, 0)) := h
  have h2 : b < w.heap.size := RowAt.lt h
  unfold RowAt
  simp [World.setCell, h1, rowC, List.map_set, cellI, Array.getElem?_modify]
/-- the first k columns of a key -/
def keyN (m : Int) (r : List Int) : Nat → List Int
  | 0 => zeroL
  | k + 1 => if offB m k = true then keyN m r k else (keyN m r k).set k (r.getD k 0)
theorem keyN_len (m : Int) (r : List Int) : ∀ k, (keyN m r k).length = 24
  | 0 => by simp [keyN, zeroL]
  | k + 1 => by
    unfold keyN
    split
    · exact keyN_len m r k
    · rw [List.length_set]; exact keyN_len m r k
theorem keyN_at (m : Int) (r : List Int) (i : Nat) (hi : i < 24) : ∀ k, (keyN m r k)[i]? = some (if i < k ∧ offB m i = false then r.getD i 0 else 0)
  | 0 => by
    rw [if_neg (fun e => absurd e.1 (Nat.not_lt_zero _))]
    show (List.replicate 24 (0 : Int))[i]? = _
    rw [List.getElem?_replicate, if_pos hi]
  | k + 1 => by
    have hl := keyN_len m r k
    unfold keyN
    by_cases h : offB m k = true
    · rw [if_pos h, keyN_at m r i hi k]
      by_cases e : i = k
      · subst e
        simp [h]
      · have : (i < k + 1 ∧ offB m i = false) ↔ (i < k ∧ offB m i = false) := ⟨fun ⟨a, b⟩ => ⟨by omega, b⟩, fun ⟨a, b⟩ => ⟨by omega, b⟩⟩
        simp only [this]
    · have h' : offB m k = false := by simpa using h
      rw [if_neg h, List.getElem?_set]
      by_cases e : k = i
      · subst e
        simp [h', hl, hi]
      · rw [if_neg e, keyN_at m r i hi k]
        have : (i < k + 1 ∧ offB m i = false) ↔ (i < k ∧ offB m i = false) := ⟨fun ⟨a, b⟩ => ⟨by omega, b⟩, fun ⟨a, b⟩ => ⟨by omega, b⟩⟩
        simp only [this]
theorem keyN_under (m : Int) (r : List Int) (hl : r.length = 24) : keyN m r 24 = underL m r := by
  apply List.ext_getElem?
  intro i
  by_cases hi : i < 24
  · rw [keyN_at m r i hi 24]
    unfold underL
    rw [underN_at]
    have hr : r[i]? = some (r.getD i 0) := by rw [List.getElem?_eq_getElem (by omega)]; simp [List.getD, List.getElem?_eq_getElem (show i < r.length by omega)]
    cases offB m i
    · rw [if_pos ⟨hi, rfl⟩, if_neg (fun e => by cases e.2), hr]
    · rw [if_neg (fun e => by cases e.2), if_pos ⟨hi, rfl⟩, hr]
      rfl
  · rw [List.getElem?_eq_none (by rw [keyN_len]; omega), List.getElem?_eq_none (by rw [underL_len, hl]; omega)]
theorem underL_ok {m : Int} {r : List Int} (h : RowOk r) : RowOk (underL m r) := by
  refine ⟨by rw [underL_len]; exact h.len, fun x hx => ?_⟩
  obtain ⟨i, hi, rfl⟩ := List.getElem_of_mem hx
  have h1 := List.getElem?_eq_getElem hi
  have e : (underL m r)[i]? = some ((underL m r)[i]) := h1
  unfold underL at e
  rw [underN_at] at e
  split at e
  · obtain ⟨y, _, hy⟩ := Option.map_eq_some_iff.1 e
    have : (underL m r)[i] = 0 := hy.symm
    rw [this]
    decide
  · exact h.num _ (List.mem_of_getElem? e)
end Go.Proofs.Ytekjoccbbamehaa
