import Derived.Test.YtmpiecfikcklpaaDoorPrintA
namespace Go.Proofs.YtmpiecfikcklpaaDoor
open Go.RowKit Go.Maps
set_option linter.unusedVariables false
set_option linter.unusedSimpArgs false
attribute [local go_sem ↓] Go.wp_at_zero Go.wp_at_succ

/-! what is written is no empty text, and not long -/
theorem itoa_len (n : Int) (h0 : -9223372036854775808 ≤ n) (h1 : n ≤ 9223372036854775807) : 1 ≤ (Lib.itoa n).length ∧ (Lib.itoa n).length ≤ 21 := by
  unfold Lib.itoa
  split
  · rw [List.length_cons, Lib.decDigits_length]
    have := nDig_le 19 n.natAbs (by omega)
    omega
  · rw [Lib.decDigits_length]
    have := nDig_le 19 n.toNat (by omega)
    have := Lib.nDigits_pos n.toNat
    omega
theorem flat_le4 : ∀ l : List UInt8, (l.flatMap pieceQ).length ≤ 4 * l.length
  | [] => by simp
  | c :: r => by
    have := flat_le4 r
    have := (pieceQ_len c).2
    rw [List.flatMap_cons, List.length_append, List.length_cons]
    omega
theorem quoteQ_len (s : ByteArray) : (quoteQ s).data.toList.length ≤ 4 * s.size + 2 := by
  have := flat_le4 s.data.toList
  rw [len_toList] at this
  unfold quoteQ
  simp only [List.length_append, List.length_cons, List.length_nil]
  omega
theorem showB_len {v : V} (hv : v.wf) (hok : okV v = true) : 1 ≤ (showB v).length ∧ (showB v).length ≤ 1000 := by
  have hc : chk v.k v.n v.s = 0 := by simpa [okV, chkV] using hok
  unfold showB
  by_cases h1 : v.k = 1
  · rw [if_pos h1]
    have := itoa_len v.n hv.num0.1 hv.num0.2
    omega
  · rw [if_neg h1]
    obtain ⟨_, _, hs⟩ := chk_two hc h1
    cases hn : nameB v.s
    · simp only [Bool.false_eq_true, if_false]
      have h2 := quoteQ_len v.s
      have h3 := quoteQ_size v.s
      rw [← len_toList (quoteQ v.s)] at h3
      omega
    · simp only [if_true]
      rw [len_toList]
      unfold nameB at hn
      simp only [Bool.and_eq_true, decide_eq_true_eq] at hn
      omega
theorem termT_len {t : T} (ht : t.wf) (hok : termB t = true) : 1 ≤ (termT t).length ∧ (termT t).length ≤ 1000 := by
  unfold termT
  unfold termB at hok
  by_cases h : t.v = noS
  · rw [if_pos h] at hok ⊢
    exact showB_len ht.val hok
  · rw [if_neg h] at hok ⊢
    rw [len_toList]
    simp only [Bool.and_eq_true, Bool.or_eq_true, decide_eq_true_eq] at hok
    rcases hok.2 with e | e
    · rw [e]; decide
    · unfold varB wordB at e
      simp only [Bool.and_eq_true, decide_eq_true_eq] at e
      omega
theorem kidT_len (b : Bool) (t : List UInt8) : t.length ≤ (kidT b t).length ∧ (kidT b t).length ≤ t.length + 2 := by
  cases b
  · exact ⟨Nat.le_refl _, by show t.length ≤ _; omega⟩
  · show t.length ≤ (40 :: (t ++ [41])).length ∧ (40 :: (t ++ [41])).length ≤ _
    simp only [List.length_cons, List.length_append, List.length_nil]
    omega
theorem opT_len (p : Nat) : (opT p).length ≤ 5 := by
  by_cases h : p < 11
  · exact (by decide : ∀ p : Fin 11, (opT p.val).length ≤ 5) ⟨p, h⟩
  · unfold opT
    rw [List.getD, List.getElem?_eq_none (by simp [opTab]; omega)]
    simp
theorem textE_len : ∀ (r d : Nat) (e : E) (a : Option Addr) (c : Nat) (w : World), EIs w d e a c → exprB r e = true → 1 ≤ (textE r e).length ∧ (textE r e).length ≤ 4 ^ r * 1000
  | 0, _, _, _, _, _, _, h => by cases h
  | r + 1, 0, _, _, _, _, h, _ => h.elim
  | r + 1, d + 1, e, a, c, w, hE, he => by
    obtain ⟨hop, htw, hc1, hc2, hk⟩ := hE
    obtain ⟨f1, f2, f3, f4, f5⟩ := exprB_form he
    obtain ⟨op, t, kids⟩ := e
    simp only [op_mk, t_mk, kids_mk] at *
    obtain ⟨p, rfl⟩ : ∃ p : Nat, op = p := ⟨op.toNat, by omega⟩
    rw [Int.toNat_natCast] at f3
    rw [textE_mk]
    have h4 : 1 ≤ 4 ^ r := Nat.one_le_pow _ _ (by omega)
    rw [Nat.pow_succ]
    by_cases h0 : (p : Int) = 0
    · rw [if_pos h0]
      have hok : termB t = true := by
        have := f4 h0
        unfold namedB at this
        simp only [Bool.and_eq_true] at this
        exact this.2
      have := termT_len htw hok
      omega
    · rw [if_neg h0]
      have hkid : ∀ i, i < kids.length → 1 ≤ (textE r (atE kids i)).length ∧ (textE r (atE kids i)).length ≤ 4 ^ r * 1000 := fun i hi => by
        obtain ⟨g, off, _, _, hKS⟩ := hk (by omega)
        obtain ⟨a', c', _, he'⟩ := hKS i hi
        exact textE_len r d _ a' c' w he' (f5 h0 i hi)
      have hk0 : 0 < kids.length := by
        rw [f3]
        exact (by decide : ∀ q : Fin 11, q.val ≠ 0 → 0 < kidsOf q.val) ⟨p, by omega⟩ (by show p ≠ 0; omega)
      have A := hkid 0 hk0
      by_cases h1 : (p : Int) = 1
      · rw [if_pos h1, List.length_append]
        have := kidT_len (decide (holdT (atE kids 0).op.toNat < holdT 1) || unsB (atE kids 0)) (textE r (atE kids 0))
        have := opT_len 1
        omega
      · rw [if_neg h1]
        by_cases h8 : 8 ≤ (p : Int)
        · rw [if_pos h8, List.length_append]
          have := kidT_len true (textE r (atE kids 0))
          have := opT_len p
          omega
        · rw [if_neg h8]
          have hk1 : 1 < kids.length := by
            rw [f3, (by decide : ∀ q : Fin 11, q.val ≠ 0 → q.val ≠ 1 → ¬ 8 ≤ q.val → kidsOf q.val = 2) ⟨p, by omega⟩ (by show p ≠ 0; omega) (by show p ≠ 1; omega) (by show ¬ 8 ≤ p; omega)]
            omega
          have A1 := hkid 1 hk1
          simp only [List.length_append, List.length_cons, List.length_nil]
          have := kidT_len (decide (holdT (atE kids 0).op.toNat < holdT p)) (textE r (atE kids 0))
          have := kidT_len (decide (holdT (atE kids 1).op.toNat ≤ holdT p)) (textE r (atE kids 1))
          have := opT_len p
          omega
theorem upT_len {ts : List T} (hwf : ∀ t ∈ ts, t.wf) (hok : ts.all termB = true) : ∀ k, k ≤ ts.length → (upT ts k).length ≤ k * 1002
  | 0, _ => by simp [upT]
  | k + 1, h => by
    have h1 := upT_len hwf hok k (by omega)
    have h2 := (termT_len (atT_wf hwf k) (by rw [atT_eq (by omega)]; exact List.all_eq_true.1 hok _ (List.getElem_mem _))).2
    rw [upT, List.length_append, List.length_append]
    have h3 : (if k = 0 then ([] : List UInt8) else [44, 32]).length ≤ 2 := by split <;> simp
    omega
theorem atomT_len {p : ByteArray} {ts : List T} (hwf : ∀ t ∈ ts, t.wf) (hok : atomB p ts = true) : 1 ≤ (atomT p ts).length ∧ (atomT p ts).length ≤ 30000 := by
  unfold atomB at hok
  simp only [Bool.and_eq_true, decide_eq_true_eq] at hok
  obtain ⟨⟨h1, h2⟩, h3⟩ := hok
  unfold nameB at h1
  simp only [Bool.and_eq_true, decide_eq_true_eq] at h1
  have h4 := upT_len hwf h3 ts.length (Nat.le_refl _)
  unfold atomT colT
  rw [List.length_append, len_toList]
  split
  · simp only [List.length_nil]; omega
  · simp only [List.length_append, List.length_cons, List.length_nil]
    omega

/-- what print's calls give: a text and no error, or an error and no text -/
def toldV (ok : Bool) (t : List UInt8) : Value := if ok then .tuple #[.string ⟨t.toArray⟩, .int .i64 0] else .tuple #[.string ⟨#[]⟩, .int .i64 40]
theorem bldA_new (w : World) : BldA w.heap.size w.heap.size [] (w.alloc (.cells #[.pointer none, .slice none 0 0] 53)) :=
  .inl ⟨Nat.le_refl _, .slice none 0 0, heap_alloc_new w _, ⟨rfl, .inl ⟨rfl, rfl⟩⟩, by intro h; cases h⟩

set_option maxHeartbeats 1600000 in
theorem oneT_any (t : T) (w : World) (ht : t.wf) (hp : PW w) :
    Calls Tryd.prog 7 #[t.val, .func (.func 8) #[] #[], .func (.func 9) #[] #[]] w fun e w' => e = .returned (toldV (termB t) (termT t)) ∧ Below w.heap.size w w' := by
  have BA := (Below.refl w.heap.size w).alloc (Nat.le_refl _) (.cells #[.string t.v, .int .i8 t.a.k, .int .i64 t.a.n, .string t.a.s] 27)
  have HP : Hid _ := hp
  clear hp
  unfold T.val
  go_enter Tryd.func7, Tryd.ntmps7
  go_wp2_with fail
  refine (checkTerm_any t _ ht).mono ?_
  rintro e w1 ⟨rfl, b1⟩
  have B1 : Hid (Below w.heap.size w w1) := BA.trans (b1.mono BA.size)
  have y0 : w1.cell? ⟨w.heap.size, 0, none⟩ = some (.string t.v) := by rw [b1.cell (p := ⟨w.heap.size, 0, none⟩) (by simp)]; go_simp
  have y1 : w1.cell? ⟨w.heap.size, 1, none⟩ = some (.int .i8 t.a.k) := by rw [b1.cell (p := ⟨w.heap.size, 1, none⟩) (by simp)]; go_simp
  have y2 : w1.cell? ⟨w.heap.size, 2, none⟩ = some (.int .i64 t.a.n) := by rw [b1.cell (p := ⟨w.heap.size, 2, none⟩) (by simp)]; go_simp
  have y3 : w1.cell? ⟨w.heap.size, 3, none⟩ = some (.string t.a.s) := by rw [b1.cell (p := ⟨w.heap.size, 3, none⟩) (by simp)]; go_simp
  clear b1 BA
  cases hok : termB t
  · unfold errB
    simp only [Bool.false_eq_true, if_false]
    go_wp2
    go_ret2
    exact ⟨by first | rfl | (rw [hok]; rfl), B1.out⟩
  · unfold errB
    simp only [if_true]
    have BA2 := (Below.refl w1.heap.size w1).alloc (Nat.le_refl _) (.cells #[.pointer none, .slice none 0 0] 53)
    have hbn := bldA_new w1
    have HLn : Hid _ := termT_len ht hok
    have HP2 : Hid (PW _) := tab_below HP.out (B1.out.trans (BA2.mono B1.out.size))
    have HB2 : Hid (Below w.heap.size w _) := B1.out.trans (BA2.mono B1.out.size)
    have hlt := World.block_lt_of_cell? _ _ y0
    have z0 := (BA2.cell (p := ⟨w.heap.size, 0, none⟩) hlt).trans y0
    have z1 := (BA2.cell (p := ⟨w.heap.size, 1, none⟩) hlt).trans y1
    have z2 := (BA2.cell (p := ⟨w.heap.size, 2, none⟩) hlt).trans y2
    have z3 := (BA2.cell (p := ⟨w.heap.size, 3, none⟩) hlt).trans y3
    go_wp2_with fail
    refine (wterm_any t ht hok HP2.out hbn BA2.size (by have := HLn.out; simp only [List.length_nil]; omega)).mono ?_
    rintro e w2 ⟨rfl, k1, k2, k3⟩
    rw [List.nil_append] at k1
    have HB3 : Hid (Below w.heap.size w w2) := HB2.out.trans (k2.mono B1.out.size)
    have hB3 := k1
    clear hbn k1 k2 k3 y0 y1 y2 y3 z0 z1 z2 z3 BA2 HB2 HP2
    go_wp2_with fail
    refine (String_any hB3 (by have := HLn.out; intro e; rw [e] at this; simp at this)).mono ?_
    rintro e w3 ⟨rfl, b3⟩
    obtain ⟨S, hS⟩ : ∃ S, (⟨(termT t).toArray⟩ : ByteArray) = S := ⟨_, rfl⟩
    rw [hS]
    have HSS : Hid _ := hS
    clear hS
    go_wp2
    go_ret2
    exact ⟨by first | (rw [← HSS.out]; rfl) | (rw [hok, ← HSS.out]; rfl), HB3.out.trans (b3.mono B1.out.size)⟩
theorem pTerm_any (t : T) (w : World) (ht : t.wf) (hp : PW w) :
    Calls Tryd.prog 4 #[t.val] w fun e w' => e = .returned (toldV (termB t) (termT t)) ∧ Below w.heap.size w w' := by
  have BA := (Below.refl w.heap.size w).alloc (Nat.le_refl _) (.cells #[.string t.v, .int .i8 t.a.k, .int .i64 t.a.n, .string t.a.s] 27)
  have HP : Hid (PW _) := tab_below hp BA
  obtain ⟨s, er, hs⟩ : ∃ s er, toldV (termB t) (termT t) = .tuple #[.string s, .int .i64 er] := by unfold toldV; split <;> exact ⟨_, _, rfl⟩
  clear hp
  unfold T.val
  go_enter Tryd.func4, Tryd.ntmps4
  go_wp2_with fail
  refine (oneT_any t _ ht HP.out).mono ?_
  rintro e w1 ⟨rfl, b1⟩
  rw [hs]
  have B1 := BA.trans (b1.mono BA.size)
  clear b1 BA
  have HS : Hid _ := hs
  clear hs
  go_wp2
  go_ret2
  exact ⟨by rw [HS.out]; rfl, B1⟩
end Go.Proofs.YtmpiecfikcklpaaDoor
