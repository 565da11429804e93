import Derived.Test.YtnpmhgjbfkgmdaaDoorOnM
namespace Go.Proofs.YtnpmhgjbfkgmdaaDoor
open Go.RowKit
set_option linter.unusedVariables false
set_option linter.unusedSimpArgs false

/-! names: a letter and some '_' behind it -/
def nm (c : UInt8) (k : Nat) : ByteArray := ⟨(c :: List.replicate k 95).toArray⟩
theorem nm_list (c : UInt8) (k : Nat) : (nm c k).data.toList = c :: List.replicate k 95 := rfl
theorem nm_size (c : UInt8) (k : Nat) : (nm c k).size = k + 1 := by
  show (c :: List.replicate k 95).toArray.size = _
  simp
theorem nm_inj {c d : UInt8} {k j : Nat} (h : nm c k = nm d j) : c = d ∧ k = j := by
  have h1 := congrArg ByteArray.size h
  rw [nm_size, nm_size] at h1
  have h2 := congrArg (fun x : ByteArray => x.data.toList.head?) h
  simp only [nm_list, List.head?_cons, Option.some.injEq] at h2
  exact ⟨h2, by omega⟩
theorem nm_no (c : UInt8) (k : Nat) : nm c k ≠ noS := fun h => by
  have := congrArg ByteArray.size h
  rw [nm_size] at this
  cases this
theorem nm_blank {c : UInt8} (hc : c ≠ 95) (k : Nat) : nm c k ≠ blankS := fun h => by
  have h2 := congrArg (fun x : ByteArray => x.data.toList.head?) h
  simp only [nm_list, List.head?_cons] at h2
  exact hc (Option.some.inj h2)
theorem nm_byte (c : UInt8) (k i : Nat) (h : i ≤ k) : byteAt (nm c k) i = if i = 0 then (c.toNat : Int) else 95 := by
  have hs : i < (nm c k).size := by rw [nm_size]; omega
  rw [byteAt_eq hs]
  have : (nm c k)[i] = (nm c k).data.toList[i]'(by rw [nm_list]; simp; omega) := by simp [ByteArray.getElem_eq_getElem_data]
  rw [this]
  simp only [nm_list]
  cases i with
  | zero => rfl
  | succ i => simp
theorem nm_letters (c : UInt8) (hc : 65 ≤ c.toNat ∧ c.toNat ≤ 90) (k : Nat) : ∀ n, n ≤ k + 1 → lettersB (nm c k) n = true
  | 0, _ => rfl
  | n + 1, h => by
    rw [lettersB, nm_letters c hc k n (by omega), nm_byte c k n (by omega)]
    split
    · simp only [Bool.true_and, letterB, capitalB, Bool.or_eq_true, decide_eq_true_eq]
      exact .inl (.inl (.inr (by omega)))
    · rfl
theorem nm_var {c : UInt8} (hc : 65 ≤ c.toNat ∧ c.toNat ≤ 90) {k : Nat} (h : k ≤ 119) : varB (nm c k) = true := by
  unfold varB wordB
  rw [nm_size, nm_byte c k 0 (by omega), nm_letters c hc k (k + 1) (by omega), if_pos rfl, decide_eq_true (show k + 1 ≠ 0 by omega), decide_eq_true (show k + 1 ≤ 120 by omega), decide_eq_true (show (65 : Int) ≤ (c.toNat : Int) ∧ (c.toNat : Int) ≤ 90 by omega)]
  rfl
/-- how many names below a number are in a list -/
def cn (c : UInt8) (L : List ByteArray) : Nat → Nat
  | 0 => 0
  | n + 1 => cn c L n + (if inB L (nm c n) = true then 1 else 0)
theorem cn_cons (c : UInt8) (a : ByteArray) (L : List ByteArray) : ∀ n, cn c (a :: L) n ≤ cn c L n + 1 ∧ ((∀ j, j < n → nm c j ≠ a) → cn c (a :: L) n = cn c L n)
  | 0 => ⟨by simp [cn], fun _ => rfl⟩
  | n + 1 => by
    obtain ⟨h1, h2⟩ := cn_cons c a L n
    by_cases e : nm c n = a
    · have hz := h2 (fun j hj x => by have := (nm_inj (x.trans e.symm)).2; omega)
      refine ⟨?_, fun h => absurd e (h n (by omega))⟩
      rw [cn, cn, hz]
      split <;> split <;> omega
    · have em : inB (a :: L) (nm c n) = true ↔ inB L (nm c n) = true := by rw [inB_iff, inB_iff]; simp [e]
      refine ⟨?_, fun h => ?_⟩
      · rw [cn, cn]
        simp only [em]
        omega
      · rw [cn, cn, h2 (fun j hj => h j (by omega))]
        simp only [em]
theorem cn_le (c : UInt8) : ∀ (L : List ByteArray) (n : Nat), cn c L n ≤ L.length
  | [], n => by
    induction n with
    | zero => simp [cn]
    | succ n ih => rw [cn, if_neg (fun h => by have := inB_iff.1 h; cases this)]; exact ih
  | a :: L, n => by
    have h1 := (cn_cons c a L n).1
    have h2 := cn_le c L n
    rw [List.length_cons]
    omega
theorem cn_mono (c : UInt8) (L : List ByteArray) (n : Nat) : cn c L n ≤ cn c L (n + 1) := by rw [cn]; omega

/-- what mute has made of the first i columns: the blanks are variables of their own -/
structure Mu (c : UInt8) (L : List ByteArray) (xs : List T) (i K : Nat) (o : List T) : Prop where
  len : o.length = i
  ks : ∃ ks : Nat → Nat, (∀ j, j < i → o[j]? = some (if (atT xs j).v = blankS then ⟨nm c (ks j), V0⟩ else atT xs j)) ∧ (∀ j, j < i → (atT xs j).v = blankS → ks j ≤ K ∧ nm c (ks j) ∉ L) ∧ ∀ j j', j < j' → j' < i → (atT xs j).v = blankS → (atT xs j').v = blankS → ks j < ks j'
  num : K ≤ i + cn c L (K + 1)
theorem mu_start (c : UInt8) (L : List ByteArray) (xs : List T) : Mu c L xs 0 0 [] := ⟨rfl, ⟨fun _ => 0, by simp, by simp, by simp⟩, by omega⟩
theorem Mu.plain {c : UInt8} {L : List ByteArray} {xs o : List T} {i K : Nat} (h : Mu c L xs i K o) (hb : (atT xs i).v ≠ blankS) : Mu c L xs (i + 1) K (o ++ [atT xs i]) := by
  obtain ⟨hl, ⟨ks, h1, h2, h3⟩, hn⟩ := h
  have lt_of : ∀ j, j < i + 1 → (atT xs j).v = blankS → j < i := fun j hj e => by
    rcases Nat.lt_or_ge j i with h | h
    · exact h
    · obtain rfl : j = i := by omega
      exact absurd e hb
  refine ⟨by simp [hl], ⟨ks, fun j hj => ?_, fun j hj e => h2 j (lt_of j hj e) e, fun j j' hjj hj' e e' => h3 j j' hjj (lt_of j' hj' e') e e'⟩, by omega⟩
  rcases Nat.lt_or_ge j i with h | h
  · rw [List.getElem?_append_left (by omega)]
    exact h1 j h
  · obtain rfl : j = i := by omega
    rw [List.getElem?_append_right (by omega), if_neg hb, hl]
    simp
theorem Mu.blank {c : UInt8} {L : List ByteArray} {xs o : List T} {i K k : Nat} (h : Mu c L xs i K o) (hb : (atT xs i).v = blankS) (hk : K < k) (hL : nm c k ∉ L) (hn : k ≤ i + 1 + cn c L k) : Mu c L xs (i + 1) k (o ++ [⟨nm c k, V0⟩]) := by
  obtain ⟨hl, ⟨ks, h1, h2, h3⟩, _⟩ := h
  refine ⟨by simp [hl], ⟨fun j => if j = i then k else ks j, fun j hj => ?_, fun j hj e => ?_, fun j j' hjj hj' e e' => ?_⟩, by have := cn_mono c L k; omega⟩
  · rcases Nat.lt_or_ge j i with h | h
    · rw [List.getElem?_append_left (by omega)]
      simp only [show ¬ j = i by omega, if_false]
      exact h1 j h
    · obtain rfl : j = i := by omega
      rw [List.getElem?_append_right (by omega), if_pos hb, hl]
      simp
  · by_cases h : j = i
    · simp only [h, if_pos]
      exact ⟨Nat.le_refl _, hL⟩
    · simp only [h, if_false]
      have := h2 j (by omega) e
      exact ⟨by omega, this.2⟩
  · have hji : ¬ j = i := by omega
    by_cases h : j' = i
    · simp only [h, hji, if_false, if_pos]
      have := (h2 j (by omega) e).1
      omega
    · simp only [h, hji, if_false]
      exact h3 j j' hjj (by omega) e e'

/-! an atom with its blanks muted -/
structure Muted (c : UInt8) (L : List ByteArray) (xs o : List T) : Prop where
  len : o.length = xs.length
  ks : ∃ ks : Nat → Nat, (∀ j, j < xs.length → atT o j = if (atT xs j).v = blankS then ⟨nm c (ks j), V0⟩ else atT xs j) ∧ (∀ j, j < xs.length → (atT xs j).v = blankS → ks j ≤ 119 ∧ nm c (ks j) ∉ L) ∧ ∀ j j', j < xs.length → j' < xs.length → (atT xs j).v = blankS → (atT xs j').v = blankS → ks j = ks j' → j = j'
theorem Mu.done {c : UInt8} {L : List ByteArray} {xs o : List T} {K : Nat} (h : Mu c L xs xs.length K o) (hL : L.length ≤ 48) (hx : xs.length ≤ 24) : Muted c L xs o := by
  obtain ⟨hl, ⟨ks, h1, h2, h3⟩, hn⟩ := h
  have := cn_le c L (K + 1)
  refine ⟨hl, ⟨ks, fun j hj => ?_, fun j hj e => ⟨by have := (h2 j hj e).1; omega, (h2 j hj e).2⟩, fun j j' hj hj' e e' hk => ?_⟩⟩
  · have h4 := h1 j hj
    rw [atT_eq (by omega)]
    obtain ⟨_, h5⟩ := List.getElem?_eq_some_iff.1 h4
    exact h5
  · rcases Nat.lt_trichotomy j j' with h | h | h
    · have := h3 j j' h hj' e e'; omega
    · exact h
    · have := h3 j' j h hj e' e; omega
theorem Muted.tn {c : UInt8} {L : List ByteArray} {xs o : List T} (h : Muted c L xs o) (hx : ∀ t ∈ xs, Tn t) : ∀ t ∈ o, Tn t := fun t ht => by
  obtain ⟨j, hj, rfl⟩ := List.getElem_of_mem ht
  obtain ⟨hl, ks, h1, _⟩ := h
  have e := h1 j (by omega)
  rw [atT_eq hj] at e
  rw [e]
  split
  · exact fun _ => rfl
  · rw [atT_eq (by omega)]; exact hx _ (List.getElem_mem _)
theorem Muted.atom {c : UInt8} {L : List ByteArray} {xs o : List T} {p : ByteArray} (h : Muted c L xs o) (hc : 65 ≤ c.toNat ∧ c.toNat ≤ 90) (hx : atomB p xs = true) : atomB p o = true := by
  obtain ⟨hl, ks, h1, h2, _⟩ := h
  unfold atomB at hx ⊢
  simp only [Bool.and_eq_true, List.all_eq_true, decide_eq_true_eq] at hx ⊢
  refine ⟨⟨hx.1.1, by omega⟩, fun t ht => ?_⟩
  obtain ⟨j, hj, rfl⟩ := List.getElem_of_mem ht
  have e := h1 j (by omega)
  rw [atT_eq hj] at e
  rw [e]
  split
  · rename_i hb
    unfold termB
    rw [if_neg (nm_no _ _), nm_var hc (h2 j (by omega) hb).1]
    simp
  · rw [atT_eq (by omega)]; exact hx.2 _ (List.getElem_mem _)
theorem zip_at {xs ys : List T} (hl : xs.length = ys.length) {p : T × T} (h : p ∈ xs.zip ys) : ∃ j, j < xs.length ∧ p = (atT xs j, atT ys j) := by
  obtain ⟨j, hj, e⟩ := List.getElem_of_mem h
  have hj' : j < xs.length := by rw [List.length_zip] at hj; omega
  refine ⟨j, hj', ?_⟩
  rw [← e, List.getElem_zip, atT_eq hj', atT_eq (by omega)]
theorem zip_of {xs ys : List T} (hl : xs.length = ys.length) {j : Nat} (h : j < xs.length) : (atT xs j, atT ys j) ∈ xs.zip ys := by
  have : (xs.zip ys)[j]'(by rw [List.length_zip]; omega) = (atT xs j, atT ys j) := by rw [List.getElem_zip, atT_eq h, atT_eq (by omega)]
  rw [← this]
  exact List.getElem_mem _
open Classical in
/-- with a variable of its own for each blank two lists can be made one just if they can with the blanks -/
theorem uni_mute {c d : UInt8} {L : List ByteArray} {xs ys xo yo : List T} (hl : xs.length = ys.length) (hx : ∀ t ∈ xs, Tn t) (hy : ∀ t ∈ ys, Tn t) (hcd : c ≠ d) (hc : c ≠ 95) (hd : d ≠ 95)
    (hLx : ∀ t ∈ xs, t.v ≠ noS → t.v ≠ blankS → t.v ∈ L) (hLy : ∀ t ∈ ys, t.v ≠ noS → t.v ≠ blankS → t.v ∈ L) (hX : Muted c L xs xo) (hY : Muted d L ys yo) : (uni [] xo yo).isSome = (uni [] xs ys).isSome := by
  have hxo := hX.tn hx
  have hyo := hY.tn hy
  have this : (uni [] xo yo).isSome = true ↔ (uni [] xs ys).isSome = true := by
    rw [uni_iff hxo hyo, uni_iff hx hy]
    obtain ⟨lx, ks, a1, a2, a3⟩ := hX
    obtain ⟨ly, js, b1, b2, b3⟩ := hY
    have hlo : xo.length = yo.length := by omega
    constructor
    · rintro ⟨σ, h⟩
      refine ⟨σ, fun p hp => ?_⟩
      obtain ⟨j, hj, rfl⟩ := zip_at hl hp
      by_cases e1 : (atT xs j).v = blankS
      · exact .inl e1
      by_cases e2 : (atT ys j).v = blankS
      · exact .inr (.inl e2)
      have := h _ (zip_of hlo (j := j) (by omega))
      rw [a1 j hj, b1 j (by omega), if_neg e1, if_neg e2] at this
      exact this
    · rintro ⟨σ, h⟩
      let E : Nat → V := fun j => if (atT ys j).v = blankS then V0 else ev σ (atT ys j)
      let F : Nat → V := fun j => if (atT xs j).v = blankS then V0 else ev σ (atT xs j)
      let τ : ByteArray → V := fun v => if hh : ∃ j, j < xs.length ∧ (atT xs j).v = blankS ∧ nm c (ks j) = v then E hh.choose else if hh : ∃ j, j < ys.length ∧ (atT ys j).v = blankS ∧ nm d (js j) = v then F hh.choose else σ v
      have tc : ∀ j, j < xs.length → (atT xs j).v = blankS → τ (nm c (ks j)) = E j := fun j hj hb => by
        have hh : ∃ i, i < xs.length ∧ (atT xs i).v = blankS ∧ nm c (ks i) = nm c (ks j) := ⟨j, hj, hb, rfl⟩
        show (if hh : _ then _ else _) = _
        rw [dif_pos hh]
        obtain ⟨q1, q2, q3⟩ := hh.choose_spec
        rw [a3 _ _ q1 hj q2 hb (nm_inj q3).2]
      have td : ∀ j, j < ys.length → (atT ys j).v = blankS → τ (nm d (js j)) = F j := fun j hj hb => by
        have hh : ∃ i, i < ys.length ∧ (atT ys i).v = blankS ∧ nm d (js i) = nm d (js j) := ⟨j, hj, hb, rfl⟩
        show (if hh : _ then _ else _) = _
        rw [dif_neg (fun ⟨i, _, _, e⟩ => hcd (nm_inj e).1), dif_pos hh]
        obtain ⟨q1, q2, q3⟩ := hh.choose_spec
        rw [b3 _ _ q1 hj q2 hb (nm_inj q3).2]
      have te : ∀ t : T, (t.v ≠ noS → t.v ∈ L) → ev τ t = ev σ t := fun t ht => by
        unfold ev
        by_cases h0 : t.v = noS
        · rw [if_pos h0, if_pos h0]
        · rw [if_neg h0, if_neg h0]
          show (if hh : _ then _ else _) = _
          rw [dif_neg (fun ⟨i, hi, hb, e⟩ => (a2 i hi hb).2 (by rw [e]; exact ht h0)), dif_neg (fun ⟨i, hi, hb, e⟩ => (b2 i hi hb).2 (by rw [e]; exact ht h0))]
      refine ⟨τ, fun p hp => ?_⟩
      obtain ⟨j, hj, rfl⟩ := zip_at hlo hp
      have hjx : j < xs.length := by omega
      have hjy : j < ys.length := by omega
      have mx : atT xs j ∈ xs := by rw [atT_eq hjx]; exact List.getElem_mem _
      have my : atT ys j ∈ ys := by rw [atT_eq hjy]; exact List.getElem_mem _
      refine .inr (.inr ?_)
      show ev τ (atT xo j) = ev τ (atT yo j)
      rw [a1 j hjx, b1 j hjy]
      have evc' : ∀ k, ev τ ⟨nm c k, V0⟩ = τ (nm c k) := fun k => by unfold ev; rw [if_neg (nm_no c k)]
      have evd' : ∀ k, ev τ ⟨nm d k, V0⟩ = τ (nm d k) := fun k => by unfold ev; rw [if_neg (nm_no d k)]
      by_cases e1 : (atT xs j).v = blankS <;> by_cases e2 : (atT ys j).v = blankS
      · rw [if_pos e1, if_pos e2, evc', evd', tc j hjx e1, td j hjy e2]
        show (if _ then _ else _) = (if _ then _ else _)
        rw [if_pos e1, if_pos e2]
      · rw [if_pos e1, if_neg e2, evc', tc j hjx e1, te _ (fun h0 => hLy _ my h0 e2)]
        show (if _ then _ else _) = _
        rw [if_neg e2]
      · rw [if_neg e1, if_pos e2, evd', td j hjy e2, te _ (fun h0 => hLx _ mx h0 e1)]
        show _ = (if _ then _ else _)
        rw [if_neg e1]
      · rw [if_neg e1, if_neg e2, te _ (fun h0 => hLx _ mx h0 e1), te _ (fun h0 => hLy _ my h0 e2)]
        rcases h _ (zip_of hl hjx) with e | e | e
        · exact absurd e e1
        · exact absurd e e2
        · exact e
  cases h1 : (uni [] xo yo).isSome <;> cases h2 : (uni [] xs ys).isSome <;> simp_all
end Go.Proofs.YtnpmhgjbfkgmdaaDoor
