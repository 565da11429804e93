import Derived.Test.YtekjoccbbamehaaIxFill
namespace Go.Proofs.Ytekjoccbbamehaa
set_option linter.unusedVariables false
set_option linter.unusedSimpArgs false

/-! the mathematics of IndexFinds -/
theorem sel_mem {m : Int} {rows : List (List Int)} {r : List Int} {i : Nat} : i ∈ selX m rows r ↔ i < rows.length ∧ underL m (rows.getD i []) = underL m r := by
  unfold selX
  rw [List.mem_filter, List.mem_range, decide_eq_true_eq]
theorem sel_sorted (m : Int) (rows : List (List Int)) (r : List Int) : (selX m rows r).Pairwise (· < ·) := List.Pairwise.filter _ List.pairwise_lt_range
theorem sel_rise {m : Int} {rows : List (List Int)} {r : List Int} {k a b : Nat} (ha : (selX m rows r)[k]? = some a) (hb : (selX m rows r)[k + 1]? = some b) : a < b := by
  obtain ⟨h1, e1⟩ := List.getElem?_eq_some_iff.1 ha
  obtain ⟨h2, e2⟩ := List.getElem?_eq_some_iff.1 hb
  have := List.pairwise_iff_getElem.1 (sel_sorted m rows r) k (k + 1) h1 h2 (by omega)
  omega
/-- the first of its key -/
theorem sel_head {m : Int} {rows : List (List Int)} {i : Nat} (hi : i < rows.length) : ∃ f, (selX m rows (rows.getD i []))[0]? = some f ∧ f ≤ i ∧ underL m (rows.getD f []) = underL m (rows.getD i []) ∧ ∀ j, j < f → underL m (rows.getD j []) ≠ underL m (rows.getD i []) := by
  have hm : i ∈ selX m rows (rows.getD i []) := sel_mem.2 ⟨hi, rfl⟩
  have hs := sel_sorted m rows (rows.getD i [])
  have hl : ∀ x, x ∈ selX m rows (rows.getD i []) ↔ _ := fun x => sel_mem
  generalize selX m rows (rows.getD i []) = l at hm hs hl
  match l, hm, hs, hl with
  | f :: r, hm, hs, hl =>
    rw [List.pairwise_cons] at hs
    have hf := (hl f).1 (by simp)
    refine ⟨f, rfl, ?_, hf.2, fun j hj e => ?_⟩
    · rcases List.mem_cons.1 hm with h | h
      · omega
      · have := hs.1 i h
        omega
    · rcases List.mem_cons.1 ((hl j).2 ⟨by omega, e⟩) with h | h
      · omega
      · have := hs.1 j h
        omega
def keysN (m : Int) (rows : List (List Int)) (i : Nat) : List (List Int) := (grpN m rows i).map Prod.fst
theorem keysN_len (m : Int) (rows : List (List Int)) (i : Nat) : (keysN m rows i).length = (grpN m rows i).length := List.length_map ..
theorem keysN_succ (m : Int) (rows : List (List Int)) (i : Nat) : keysN m rows (i + 1) = if underL m (rows.getD i []) ∈ keysN m rows i then keysN m rows i else keysN m rows i ++ [underL m (rows.getD i [])] := by
  unfold keysN
  rw [grpN, addK_keys]
theorem keysN_mem (m : Int) (rows : List (List Int)) (q : List Int) : ∀ i, q ∈ keysN m rows i ↔ ∃ j, j < i ∧ underL m (rows.getD j []) = q
  | 0 => by
    constructor
    · intro h
      simp [keysN, grpN] at h
    · rintro ⟨j, hj, _⟩
      omega
  | i + 1 => by
    have ih := keysN_mem m rows q i
    have h2 : (∃ j, j < i + 1 ∧ underL m (rows.getD j []) = q) ↔ (∃ j, j < i ∧ underL m (rows.getD j []) = q) ∨ underL m (rows.getD i []) = q := by
      constructor
      · rintro ⟨j, hj, e⟩
        by_cases h : j = i
        · subst h
          exact .inr e
        · exact .inl ⟨j, by omega, e⟩
      · rintro (⟨j, hj, e⟩ | e)
        · exact ⟨j, by omega, e⟩
        · exact ⟨i, by omega, e⟩
    rw [h2, ← ih, keysN_succ]
    by_cases h : underL m (rows.getD i []) ∈ keysN m rows i
    · rw [if_pos h]
      exact ⟨.inl, fun h' => h'.elim id (fun e => e ▸ h)⟩
    · rw [if_neg h, List.mem_append, List.mem_singleton]
      exact ⟨fun h' => h'.imp id Eq.symm, fun h' => h'.imp id Eq.symm⟩
theorem keysN_nodup (m : Int) (rows : List (List Int)) (i : Nat) : (keysN m rows i).Nodup := grpN_nodup m rows i
theorem keysN_le (m : Int) (rows : List (List Int)) : ∀ i, (keysN m rows i).length ≤ i
  | 0 => by simp [keysN, grpN]
  | i + 1 => by
    have ih := keysN_le m rows i
    rw [keysN_succ]
    split
    · omega
    · rw [List.length_append, List.length_singleton]
      omega
theorem keysN_first {m : Int} {rows : List (List Int)} {i f : Nat} (hi : i < rows.length) (hf : (selX m rows (rows.getD i []))[0]? = some f) : keysN m rows (i + 1) = if f = i then keysN m rows i ++ [underL m (rows.getD i [])] else keysN m rows i := by
  obtain ⟨f', e, hle, h1, h2⟩ := sel_head (m := m) hi
  obtain rfl : f = f' := Option.some.inj (hf.symm.trans e)
  rw [keysN_succ]
  by_cases h : f = i
  · rw [if_pos h, if_neg]
    intro hm
    obtain ⟨j, hj, e'⟩ := (keysN_mem m rows _ i).1 hm
    exact h2 j (by omega) e'
  · rw [if_neg h, if_pos]
    exact (keysN_mem m rows _ i).2 ⟨f, by omega, h1⟩
/-- how many rows have one of the first keys -/
def cntK (m : Int) (rows : List (List Int)) (q : List Int) : Nat := ((List.range rows.length).filter (fun j => decide (underL m (rows.getD j []) = q))).length
def sumN (m : Int) (rows : List (List Int)) (i : Nat) : Nat := ((keysN m rows i).map (cntK m rows)).sum
theorem sumN_first {m : Int} {rows : List (List Int)} {i f : Nat} (hi : i < rows.length) (hf : (selX m rows (rows.getD i []))[0]? = some f) : sumN m rows (i + 1) = if f = i then sumN m rows i + (selX m rows (rows.getD i [])).length else sumN m rows i := by
  unfold sumN
  rw [keysN_first hi hf]
  by_cases h : f = i
  · rw [if_pos h, if_pos h, List.map_append, List.sum_append]
    simp [cntK, selX]
  · rw [if_neg h, if_neg h]
theorem sum_hit {α : Type} [DecidableEq α] (f : α → Nat) (x : α) : ∀ ks : List α, ks.Nodup → (ks.map (fun q => f q + if x = q then 1 else 0)).sum = (ks.map f).sum + if x ∈ ks then 1 else 0
  | [], _ => by simp
  | k :: ks, nd => by
    rw [List.nodup_cons] at nd
    have ih := sum_hit f x ks nd.2
    rw [List.map_cons, List.sum_cons, ih, List.map_cons, List.sum_cons]
    by_cases h : x = k
    · subst h
      simp [nd.1]
      omega
    · simp [h]
      omega
theorem sum_zeros (ks : List (List Int)) : (ks.map (fun _ => 0)).sum = 0 := by
  induction ks with
  | nil => rfl
  | cons k ks ih => simpa using ih
theorem count_all (key : Nat → List Int) : ∀ (n : Nat) (ks : List (List Int)), ks.Nodup → (∀ j, j < n → key j ∈ ks) → (ks.map (fun q => ((List.range n).filter (fun j => decide (key j = q))).length)).sum = n
  | 0, ks, _, _ => by simpa using sum_zeros ks
  | n + 1, ks, nd, h => by
    have ih := count_all key n ks nd (fun j hj => h j (by omega))
    have e : (fun q => ((List.range (n + 1)).filter (fun j => decide (key j = q))).length) = fun q => ((List.range n).filter (fun j => decide (key j = q))).length + if key n = q then 1 else 0 := by
      funext q
      rw [List.range_succ, List.filter_append, List.length_append]
      by_cases hq : key n = q
      · simp [hq]
      · simp [hq]
    rw [e, sum_hit _ _ _ nd, ih, if_pos (h n (by omega))]
theorem sumN_all (m : Int) (rows : List (List Int)) : sumN m rows rows.length = rows.length :=
  count_all (fun j => underL m (rows.getD j [])) rows.length (keysN m rows rows.length) (keysN_nodup m rows _) (fun j hj => (keysN_mem m rows _ _).2 ⟨j, hj, rfl⟩)
theorem sum_bound {α : Type} (f : α → Nat) (B : Nat) (hf : ∀ x, f x ≤ B) : ∀ ks : List α, (ks.map f).sum ≤ ks.length * B
  | [] => by simp
  | k :: ks => by
    have := sum_bound f B hf ks
    have := hf k
    rw [List.map_cons, List.sum_cons, List.length_cons, Nat.succ_mul]
    omega
theorem cntK_le (m : Int) (rows : List (List Int)) (q : List Int) : cntK m rows q ≤ rows.length := by
  have := List.length_filter_le (fun j => decide (underL m (rows.getD j []) = q)) (List.range rows.length)
  simpa [cntK] using this
theorem sumN_le (m : Int) (rows : List (List Int)) {i : Nat} (hi : i ≤ 1048576) (hr : rows.length ≤ 1048576) : sumN m rows i ≤ 1099511627776 := by
  have h1 := sum_bound (cntK m rows) rows.length (cntK_le m rows) (keysN m rows i)
  have h2 := keysN_le m rows i
  have h3 : (keysN m rows i).length * rows.length ≤ 1048576 * 1048576 := Nat.mul_le_mul (by omega) hr
  unfold sumN
  omega
/-! more columns -/
def MoreB (m m' : Int) : Prop := ∀ k, k < 24 → offB m' k = true → offB m k = true
theorem MoreB.under {m m' : Int} (h : MoreB m m') {x y : List Int} (hx : x.length = 24) (hy : y.length = 24) (e : underL m' y = underL m' x) : underL m y = underL m x :=
  (underL_eq hx hy).2 (fun i hi => ((underL_eq hx hy).1 e i hi).imp (h i hi) id)
theorem getD_len {rows : List (List Int)} (hr : ∀ r ∈ rows, r.length = 24) {i : Nat} (hi : i < rows.length) : (rows.getD i []).length = 24 := by
  rw [List.getD, List.getElem?_eq_getElem hi]
  exact hr _ (List.getElem_mem hi)
theorem MoreB.sel {m m' : Int} (h : MoreB m m') {rows : List (List Int)} (hr : ∀ r ∈ rows, r.length = 24) {x : List Int} (hx : x.length = 24) : (selX m' rows x).length ≤ (selX m rows x).length := by
  unfold selX
  rw [← List.countP_eq_length_filter, ← List.countP_eq_length_filter]
  apply List.countP_mono_left
  intro i hi hd
  have hi' := List.mem_range.1 hi
  exact decide_eq_true (h.under hx (getD_len hr hi') (of_decide_eq_true hd))
theorem MoreB.keys {m m' : Int} (h : MoreB m m') {rows : List (List Int)} (hr : ∀ r ∈ rows, r.length = 24) : ∀ i, i ≤ rows.length → (keysN m rows i).length ≤ (keysN m' rows i).length
  | 0, _ => by simp [keysN, grpN]
  | i + 1, hi => by
    have ih := h.keys hr i (by omega)
    rw [keysN_succ, keysN_succ]
    by_cases h1 : underL m' (rows.getD i []) ∈ keysN m' rows i
    · have h2 : underL m (rows.getD i []) ∈ keysN m rows i := by
        obtain ⟨j, hj, e⟩ := (keysN_mem m' rows _ i).1 h1
        exact (keysN_mem m rows _ i).2 ⟨j, hj, h.under (getD_len hr (by omega)) (getD_len hr (by omega)) e⟩
      rw [if_pos h1, if_pos h2]
      exact ih
    · rw [if_neg h1, List.length_append, List.length_singleton]
      split
      · omega
      · rw [List.length_append, List.length_singleton]
        omega
theorem MoreB.or {a b : Nat} (ha : a < 4294967296) (hb : b < 4294967296) : MoreB (a : Int) ((a ||| b : Nat) : Int) := by
  intro k hk h
  have h3 : a ||| b < 4294967296 := Nat.or_lt_two_pow (n := 32) ha hb
  rw [offB_bit _ k h3 hk, Nat.testBit_or] at h
  rw [offB_bit _ k ha hk]
  cases hb : a.testBit k
  · rfl
  · rw [hb] at h
    simp at h
/-- rows of one key -/
theorem same_bits {M : Nat} (hM : M < 4294967296) {x y : List Int} (hx : x.length = 24) (hy : y.length = 24) (e : underL (M : Int) y = underL (M : Int) x) : ∀ k, k < 24 → M.testBit k = true → x.getD k 0 = y.getD k 0 := by
  intro k hk hb
  rcases (underL_eq hx hy).1 e k hk with h | h
  · rw [offB_bit M k hM hk, hb] at h
    simp at h
  · rw [List.getD, List.getD, h]
end Go.Proofs.Ytekjoccbbamehaa
