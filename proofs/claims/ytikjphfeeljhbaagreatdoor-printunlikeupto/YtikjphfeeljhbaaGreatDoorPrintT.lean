import Derived.Test.YtikjphfeeljhbaaGreatDoorPrintA
namespace Go.Proofs.YtikjphfeeljhbaaGreatDoor
open Go.RowKit Go.Maps
set_option linter.unusedVariables false
set_option linter.unusedSimpArgs false
attribute [local go_sem ↓] Go.wp_at_zero Go.wp_at_succ

/-! what is written is no empty text, and not long -/
theorem itoa_len (n : Int) (h0 : -9223372036854775808 ≤ n) (h1 : n ≤ 9223372036854775807) : 1 ≤ (Lib.itoa n).length ∧ (Lib.itoa n).length ≤ 21 := by
  unfold Lib.itoa
  split
  · rw [List.length_cons, Lib.decDigits_length]
    have := nDig_le 19 n.natAbs (by omega)
    omega
  · rw [Lib.decDigits_length]
    have := nDig_le 19 n.toNat (by omega)
    have := Lib.nDigits_pos n.toNat
    omega
theorem flat_le4 : ∀ l : List UInt8, (l.flatMap pieceQ).length ≤ 4 * l.length
  | [] => by simp
  | c :: r => by
    have := flat_le4 r
    have := (pieceQ_len c).2
    rw [List.flatMap_cons, List.length_append, List.length_cons]
    omega
theorem quoteQ_len (s : ByteArray) : (quoteQ s).data.toList.length ≤ 4 * s.size + 2 := by
  have := flat_le4 s.data.toList
  rw [len_toList] at this
  unfold quoteQ
  simp only [List.length_append, List.length_cons, List.length_nil]
  omega
theorem showB_len {v : V} (hv : v.wf) (hok : okV v = true) : 1 ≤ (showB v).length ∧ (showB v).length ≤ 1000 := by
  have hc : chk v.k v.n v.s = 0 := by simpa [okV, chkV] using hok
  unfold showB
  by_cases h1 : v.k = 1
  · rw [if_pos h1]
    have := itoa_len v.n hv.num0.1 hv.num0.2
    omega
  · rw [if_neg h1]
    obtain ⟨_, _, hs⟩ := chk_two hc h1
    cases hn : nameB v.s
    · simp only [Bool.false_eq_true, if_false]
      have h2 := quoteQ_len v.s
      have h3 := quoteQ_size v.s
      rw [← len_toList (quoteQ v.s)] at h3
      omega
    · simp only [if_true]
      rw [len_toList]
      unfold nameB at hn
      simp only [Bool.and_eq_true, decide_eq_true_eq] at hn
      omega
theorem termT_len {t : T} (ht : t.wf) (hok : termB t = true) : 1 ≤ (termT t).length ∧ (termT t).length ≤ 1000 := by
  unfold termT
  unfold termB at hok
  by_cases h : t.v = noS
  · rw [if_pos h] at hok ⊢
    exact showB_len ht.val hok
  · rw [if_neg h] at hok ⊢
    rw [len_toList]
    simp only [Bool.and_eq_true, Bool.or_eq_true, decide_eq_true_eq] at hok
    rcases hok.2 with e | e
    · rw [e]; decide
    · unfold varB wordB at e
      simp only [Bool.and_eq_true, decide_eq_true_eq] at e
      omega
theorem kidT_len (b : Bool) (t : List UInt8) : t.length ≤ (kidT b t).length ∧ (kidT b t).length ≤ t.length + 2 := by
  cases b
  · exact ⟨Nat.le_refl _, by show t.length ≤ _; omega⟩
  · show t.length ≤ (40 :: (t ++ [41])).length ∧ (40 :: (t ++ [41])).length ≤ _
    simp only [List.length_cons, List.length_append, List.length_nil]
    omega
theorem opT_len (p : Nat) : (opT p).length ≤ 5 := by
  by_cases h : p < 11
  · exact (by decide : ∀ p : Fin 11, (opT p.val).length ≤ 5) ⟨p, h⟩
  · unfold opT
    rw [List.getD, List.getElem?_eq_none (by simp [opTab]; omega)]
    simp
theorem textE_len : ∀ (r d : Nat) (e : E) (a : Option Addr) (c : Nat) (w : World), EIs w d e a c → exprB r e = true → 1 ≤ (textE r e).length ∧ (textE r e).length ≤ 4 ^ r * 1000
  | 0, _, _, _, _, _, _, h => by cases h
  | r + 1, 0, _, _, _, _, h, _ => h.elim
  | r + 1, d + 1, e, a, c, w, hE, he => by
    obtain ⟨hop, htw, hc1, hc2, hk⟩ := hE
    obtain ⟨f1, f2, f3, f4, f5⟩ := exprB_form he
    obtain ⟨op, t, kids⟩ := e
    simp only [op_mk, t_mk, kids_mk] at *
    obtain ⟨p, rfl⟩ : ∃ p : Nat, op = p := ⟨op.toNat, by omega⟩
    rw [Int.toNat_natCast] at f3
    rw [textE_mk]
    have h4 : 1 ≤ 4 ^ r := Nat.one_le_pow _ _ (by omega)
    rw [Nat.pow_succ]
    by_cases h0 : (p : Int) = 0
    · rw [if_pos h0]
      have hok : termB t = true := by
        have := f4 h0
        unfold namedB at this
        simp only [Bool.and_eq_true] at this
        exact this.2
      have := termT_len htw hok
      omega
    · rw [if_neg h0]
      have hkid : ∀ i, i < kids.length → 1 ≤ (textE r (atE kids i)).length ∧ (textE r (atE kids i)).length ≤ 4 ^ r * 1000 := fun i hi => by
        obtain ⟨g, off, _, _, hKS⟩ := hk (by omega)
        obtain ⟨a', c', _, he'⟩ := hKS i hi
        exact textE_len r d _ a' c' w he' (f5 h0 i hi)
      have hk0 : 0 < kids.length := by
        rw [f3]
        exact (by decide : ∀ q : Fin 11, q.val ≠ 0 → 0 < kidsOf q.val) ⟨p, by omega⟩ (by show p ≠ 0; omega)
      have A := hkid 0 hk0
      by_cases h1 : (p : Int) = 1
      · rw [if_pos h1, List.length_append]
        have := kidT_len (decide (holdT (atE kids 0).op.toNat < holdT 1) || unsB (atE kids 0)) (textE r (atE kids 0))
        have := opT_len 1
        omega
      · rw [if_neg h1]
        by_cases h8 : 8 ≤ (p : Int)
        · rw [if_pos h8, List.length_append]
          have := kidT_len true (textE r (atE kids 0))
          have := opT_len p
          omega
        · rw [if_neg h8]
          have hk1 : 1 < kids.length := by
            rw [f3, (by decide : ∀ q : Fin 11, q.val ≠ 0 → q.val ≠ 1 → ¬ 8 ≤ q.val → kidsOf q.val = 2) ⟨p, by omega⟩ (by show p ≠ 0; omega) (by show p ≠ 1; omega) (by show ¬ 8 ≤ p; omega)]
            omega
          have A1 := hkid 1 hk1
          simp only [List.length_append, List.length_cons, List.length_nil]
          have := kidT_len (decide (holdT (atE kids 0).op.toNat < holdT p)) (textE r (atE kids 0))
          have := kidT_len (decide (holdT (atE kids 1).op.toNat ≤ holdT p)) (textE r (atE kids 1))
          have := opT_len p
          omega
theorem upT_len {ts : List T} (hwf : ∀ t ∈ ts, t.wf) (hok : ts.all termB = true) : ∀ k, k ≤ ts.length → (upT ts k).length ≤ k * 1002
  | 0, _ => by simp [upT]
  | k + 1, h => by
    have h1 := upT_len hwf hok k (by omega)
    have h2 := (termT_len (atT_wf hwf k) (by rw [atT_eq (by omega)]; exact List.all_eq_true.1 hok _ (List.getElem_mem _))).2
    rw [upT, List.length_append, List.length_append]
    have h3 : (if k = 0 then ([] : List UInt8) else [44, 32]).length ≤ 2 := by split <;> simp
    omega
theorem atomT_len {p : ByteArray} {ts : List T} (hwf : ∀ t ∈ ts, t.wf) (hok : atomB p ts = true) : 1 ≤ (atomT p ts).length ∧ (atomT p ts).length ≤ 30000 := by
  unfold atomB at hok
  simp only [Bool.and_eq_true, decide_eq_true_eq] at hok
  obtain ⟨⟨h1, h2⟩, h3⟩ := hok
  unfold nameB at h1
  simp only [Bool.and_eq_true, decide_eq_true_eq] at h1
  have h4 := upT_len hwf h3 ts.length (Nat.le_refl _)
  unfold atomT colT
  rw [List.length_append, len_toList]
  split
  · simp only [List.length_nil]; omega
  · simp only [List.length_append, List.length_cons, List.length_nil]
    omega

/-- what print's calls give: a text and no error, or an error and no text -/
def toldV (ok : Bool) (t : List UInt8) : Value := if ok then .tuple #[.string ⟨t.toArray⟩, .int .i64 0] else .tuple #[.string ⟨#[]⟩, .int .i64 40]
theorem bldA_new (w : World) : BldA w.heap.size w.heap.size [] (w.alloc (.cells #[.pointer none, .slice none 0 0] 87)) :=
  .inl ⟨Nat.le_refl _, .slice none 0 0, heap_alloc_new w _, ⟨rfl, .inl ⟨rfl, rfl⟩⟩, by intro h; cases h⟩

end Go.Proofs.YtikjphfeeljhbaaGreatDoor
