import Derived.Test.YtkgoceomkkohmaaDoorTermQuote
namespace Go.Proofs.YtkgoceomkkohmaaDoor
open Go.RowKit Go.Maps
set_option linter.unusedVariables false
set_option linter.unusedSimpArgs false
attribute [local go_sem ↓] Go.wp_at_zero Go.wp_at_succ

theorem TAt.below {w w' : World} {g o : Nat} {t : T} (h : TAt w g o t) (b : Below w.heap.size w w') (hg : g < w.heap.size) : TAt w' g o t :=
  ⟨by rw [b.cell (p := ⟨g, o, none⟩) hg]; exact h.c0, by rw [b.cell (p := ⟨g, o + 1, none⟩) hg]; exact h.c1, by rw [b.cell (p := ⟨g, o + 2, none⟩) hg]; exact h.c2, by rw [b.cell (p := ⟨g, o + 3, none⟩) hg]; exact h.c3⟩
theorem PAt.below {w w' : World} {g o : Nat} {t : P} (h : PAt w g o t) (b : Below w.heap.size w w') (hg : g < w.heap.size) : PAt w' g o t :=
  ⟨by rw [b.cell (p := ⟨g, o, none⟩) hg]; exact h.c0, by rw [b.cell (p := ⟨g, o + 1, none⟩) hg]; exact h.c1, by rw [b.cell (p := ⟨g, o + 2, none⟩) hg]; exact h.c2, by rw [b.cell (p := ⟨g, o + 3, none⟩) hg]; exact h.c3, by rw [b.cell (p := ⟨g, o + 4, none⟩) hg]; exact h.c4⟩
theorem VAt.below {w w' : World} {g o : Nat} {t : V} (h : VAt w g o t) (b : Below w.heap.size w w') (hg : g < w.heap.size) : VAt w' g o t :=
  ⟨by rw [b.cell (p := ⟨g, o, none⟩) hg]; exact h.c0, by rw [b.cell (p := ⟨g, o + 1, none⟩) hg]; exact h.c1, by rw [b.cell (p := ⟨g, o + 2, none⟩) hg]; exact h.c2⟩
theorem all_take {l : List T} {k : Nat} (h : k < l.length) : (l.take (k + 1)).all termB = ((l.take k).all termB && termB (atT l k)) := by
  have e : l.take (k + 1) = l.take k ++ [l[k]] := by rw [List.take_add_one, List.getElem?_eq_getElem h]; rfl
  rw [e, List.all_append, atT_eq h]
  simp
theorem all_not {l : List T} {k : Nat} (h : k < l.length) (hn : termB (atT l k) = false) : l.all termB = false := by
  rw [← Bool.not_eq_true]
  intro ha
  rw [List.all_eq_true] at ha
  rw [atT_eq h] at hn
  rw [ha _ (List.getElem_mem h)] at hn
  cases hn
theorem atT_wf {l : List T} (h : ∀ t ∈ l, t.wf) (i : Nat) : (atT l i).wf := by
  by_cases hi : i < l.length
  · rw [atT_eq hi]; exact h _ (List.getElem_mem hi)
  · unfold atT
    rw [List.getD, List.getElem?_eq_none (by omega)]
    exact T0.ok

def showT (s : ByteArray) : Value := if s.size ≤ 200 then .tuple #[.string (if nameB s then s else quoteQ s), .int .i64 0] else .tuple #[.string noS, .int .i64 10]
theorem chk_text (s : ByteArray) : chk 2 0 s = if s.size ≤ 200 then 0 else 10 := by
  unfold chk
  by_cases h : s.size ≤ 200
  · rw [if_pos h, if_pos (.inr ⟨rfl, rfl, by omega⟩)]
  · rw [if_neg h, if_neg]
    rintro (⟨h1, _⟩ | ⟨_, _, h1⟩)
    · cases h1
    · omega
set_option maxHeartbeats 800000 in
theorem show_text (s : ByteArray) (w : World) (hs : s.size ≤ maxLen) : Calls Tryd.prog 51 #[.agg #[.int .i8 2, .int .i64 0, .string s]] w fun e w' => e = .returned (showT s) ∧ Below w.heap.size w w' := by
  unfold showT
  have hc := chk_text s
  by_cases h : s.size ≤ 200
  · rw [if_pos h] at hc ⊢
    go_enter Tryd.func51, Tryd.ntmps51
    go_wp2_with fail
    refine (vcheck_any 2 0 s _ hs).mono ?_
    rintro e w1 ⟨rfl, b1⟩
    rw [hc]
    have b1' := ((Below.refl w.heap.size w).alloc (Nat.le_refl _) (.cells #[.int .i8 2, .int .i64 0, .string s] 26)).trans (b1.mono (by simp))
    have c0 : w1.cell? ⟨w.heap.size, 0, none⟩ = some (.int .i8 2) := by rw [b1.cell (p := ⟨w.heap.size, 0, none⟩) (by simp)]; go_simp
    have c2 : w1.cell? ⟨w.heap.size, 2, none⟩ = some (.string s) := by rw [b1.cell (p := ⟨w.heap.size, 2, none⟩) (by simp)]; go_simp
    clear b1 hc
    cases hn : nameB s
    · go_wp2_with (first
        | (go_at_call 56; refine (isName_any s _ hs).mono ?_; rw [hn]; rintro e w' ⟨rfl, rfl⟩)
        | (go_at_call 57; refine (quote_any s _ h).mono ?_; rintro e w2 ⟨rfl, b2⟩))
      all_goals
        go_ret2
        exact ⟨rfl, b1'.trans (b2.mono b1'.size)⟩
    · go_wp2_with (go_at_call 56; refine (isName_any s _ hs).mono ?_; rw [hn]; rintro e w' ⟨rfl, rfl⟩)
      go_ret2
      exact ⟨rfl, b1'⟩
  · rw [if_neg h] at hc ⊢
    go_enter Tryd.func51, Tryd.ntmps51
    go_wp2_with fail
    refine (vcheck_any 2 0 s _ hs).mono ?_
    rintro e w1 ⟨rfl, b1⟩
    rw [hc]
    have b1' := ((Below.refl w.heap.size w).alloc (Nat.le_refl _) (.cells #[.int .i8 2, .int .i64 0, .string s] 26)).trans (b1.mono (by simp))
    go_wp2
    go_ret2
    exact ⟨rfl, b1'⟩

theorem name_short {s : ByteArray} (h : ¬ s.size ≤ 200) : nameB s = false := by
  unfold nameB
  have : decide (s.size ≤ 120) = false := decide_eq_false (by omega)
  rw [this]
  simp
theorem quote_not (s : ByteArray) : ((quoteQ s).toList == s.toList) = false := by
  rw [beq_eq_false_iff_ne]
  intro e
  have := toList_inj e
  have h := quoteQ_size s
  rw [this] at h
  omega
set_option maxHeartbeats 800000 in
theorem tName_any (s : ByteArray) (w : World) (hs : s.size ≤ maxLen) : Calls Tryd.prog 44 #[.string s] w fun e w' => e = .returned (.bool (nameB s)) ∧ Below w.heap.size w w' := by
  have hq := quote_not s
  go_enter Tryd.func44, Tryd.ntmps44
  go_wp2_with fail
  refine (show_text s _ hs).mono ?_
  rintro e w1 ⟨rfl, b1⟩
  unfold showT
  by_cases h : s.size ≤ 200
  · rw [if_pos h]
    cases hn : nameB s
    · simp only [Bool.false_eq_true, if_false]
      generalize quoteQ s = q at hq
      go_wp2
      go_ret
      exact ⟨ret_bool hn.symm, b1⟩
    · simp only [if_true]
      go_wp2
      go_ret
      exact ⟨ret_bool hn.symm, b1⟩
  · rw [if_neg h]
    go_wp2
    go_ret
    exact ⟨ret_bool (name_short h).symm, b1⟩

set_option maxHeartbeats 1600000 in
theorem isAtom_any (pred : ByteArray) (v : Value) (l : List T) (w : World) (hp : pred.size ≤ maxLen) (hl : Lt w v l) : Calls Tryd.prog 33 #[.agg #[.string pred, v]] w fun e w' => e = .returned (.bool (atomB pred l)) ∧ Below w.heap.size w w' := by
  obtain ⟨a, c, rfl, hc1, hc2, hat⟩ := hl.form
  have hwf := hl.wf
  have hmax : l.length ≤ maxLen := Nat.le_trans hc1 hc2
  unfold maxLen at hmax
  have HA : Hid (atomB pred l = (nameB pred && decide (l.length ≤ 24) && l.all termB)) := rfl
  go_enter Tryd.func33, Tryd.ntmps33
  go_wp2_with fail
  refine (tName_any pred _ hp).mono ?_
  rintro e w1 ⟨rfl, b1⟩
  have b1' := ((Below.refl w.heap.size w).alloc (Nat.le_refl _) (.cells #[.string pred, .slice a l.length c] 55)).trans (b1.mono (by simp))
  have c1 : w1.cell? ⟨w.heap.size, 1, none⟩ = some (.slice a l.length c) := by rw [b1.cell (p := ⟨w.heap.size, 1, none⟩) (by simp)]; go_simp
  clear b1
  cases hn : nameB pred
  · have HF : Hid (atomB pred l = false) := by show atomB pred l = false; rw [HA.out, hn]; rfl
    go_wp2
    go_ret
    exact ⟨ret_bool HF.out.symm, b1'⟩
  · by_cases h24 : l.length ≤ 24
    · have h24' : (l.length : Int) ≤ 24 := by omega
      have HB : Hid (atomB pred l = l.all termB) := by show atomB pred l = _; rw [HA.out, hn, decide_eq_true h24]; simp
      go_wp2
      go_loopw [18] (fun i wr => ∃ k : Nat, k ≤ l.length ∧ i = .int .i64 k ∧ Below w.heap.size w wr ∧ Hid ((l.take k).all termB = true)) (fun i _ => l.length - (intOf i).toNat)
      case atStart => exact ⟨0, Nat.zero_le _, rfl, b1', by simp [Hid]⟩
      case round =>
        obtain ⟨k, hk, rfl, bel, HS⟩ := hrel
        by_cases hlt : k < l.length
        · have hlt' : (k : Int) < (l.length : Int) := by omega
          obtain ⟨g, off, rfl, hg, hT⟩ := hat (by omega)
          obtain ⟨x0, x1, x2, x3⟩ := (hT k hlt).below bel hg
          have htw := atT_wf hwf k
          have HN : Hid (termB (atT l k) = false → atomB pred l = false) := fun h => by rw [HB.out]; exact all_not hlt h
          have HY : Hid (termB (atT l k) = true → (l.take (k + 1)).all termB = true) := fun h => by rw [all_take hlt, HS.out, h]; rfl
          generalize atT l k = t at x0 x1 x2 x3 htw HN HY
          clear hat hT
          go_wp2_with fail
          refine (isTerm_any t _ htw).mono ?_
          rintro e w2 ⟨rfl, b2⟩
          have b2' := (bel.alloc bel.size (.cells #[.string t.v, .int .i8 t.a.k, .int .i64 t.a.n, .string t.a.s] 28)).trans (b2.mono (by have := bel.size; simp; omega))
          cases ht : termB t
          · go_wp2
            go_ret
            exact ⟨ret_bool (HN.out ht).symm, b2'⟩
          · go_wp2
            go_roundw
            case rel => exact ⟨k + 1, by omega, by go_num, b2', HY.out ht⟩
            case measure => simp [intOf]; omega
        · obtain rfl : k = l.length := by omega
          go_wp2
          go_ret
          exact ⟨ret_bool (by rw [HB.out, ← HS.out, List.take_length]), bel⟩
    · have h24' : (24 : Int) < (l.length : Int) := by omega
      have HF : Hid (atomB pred l = false) := by show atomB pred l = false; rw [HA.out, decide_eq_false h24]; simp
      go_wp2
      go_ret
      exact ⟨ret_bool HF.out.symm, b1'⟩

end Go.Proofs.YtkgoceomkkohmaaDoor
