import Derived.Test.YtoagnkbmeafmoaaGreatDoorTermQuote
namespace Go.Proofs.YtoagnkbmeafmoaaGreatDoor
open Go.RowKit Go.Maps
set_option linter.unusedVariables false
set_option linter.unusedSimpArgs false
attribute [local go_sem ↓] Go.wp_at_zero Go.wp_at_succ

theorem TAt.below {w w' : World} {g o : Nat} {t : T} (h : TAt w g o t) (b : Below w.heap.size w w') (hg : g < w.heap.size) : TAt w' g o t :=
  ⟨by rw [b.cell (p := ⟨g, o, none⟩) hg]; exact h.c0, by rw [b.cell (p := ⟨g, o + 1, none⟩) hg]; exact h.c1, by rw [b.cell (p := ⟨g, o + 2, none⟩) hg]; exact h.c2, by rw [b.cell (p := ⟨g, o + 3, none⟩) hg]; exact h.c3⟩
theorem PAt.below {w w' : World} {g o : Nat} {t : P} (h : PAt w g o t) (b : Below w.heap.size w w') (hg : g < w.heap.size) : PAt w' g o t :=
  ⟨by rw [b.cell (p := ⟨g, o, none⟩) hg]; exact h.c0, by rw [b.cell (p := ⟨g, o + 1, none⟩) hg]; exact h.c1, by rw [b.cell (p := ⟨g, o + 2, none⟩) hg]; exact h.c2, by rw [b.cell (p := ⟨g, o + 3, none⟩) hg]; exact h.c3, by rw [b.cell (p := ⟨g, o + 4, none⟩) hg]; exact h.c4⟩
theorem VAt.below {w w' : World} {g o : Nat} {t : V} (h : VAt w g o t) (b : Below w.heap.size w w') (hg : g < w.heap.size) : VAt w' g o t :=
  ⟨by rw [b.cell (p := ⟨g, o, none⟩) hg]; exact h.c0, by rw [b.cell (p := ⟨g, o + 1, none⟩) hg]; exact h.c1, by rw [b.cell (p := ⟨g, o + 2, none⟩) hg]; exact h.c2⟩
theorem all_take {l : List T} {k : Nat} (h : k < l.length) : (l.take (k + 1)).all termB = ((l.take k).all termB && termB (atT l k)) := by
  have e : l.take (k + 1) = l.take k ++ [l[k]] := by rw [List.take_add_one, List.getElem?_eq_getElem h]; rfl
  rw [e, List.all_append, atT_eq h]
  simp
theorem all_not {l : List T} {k : Nat} (h : k < l.length) (hn : termB (atT l k) = false) : l.all termB = false := by
  rw [← Bool.not_eq_true]
  intro ha
  rw [List.all_eq_true] at ha
  rw [atT_eq h] at hn
  rw [ha _ (List.getElem_mem h)] at hn
  cases hn
theorem atT_wf {l : List T} (h : ∀ t ∈ l, t.wf) (i : Nat) : (atT l i).wf := by
  by_cases hi : i < l.length
  · rw [atT_eq hi]; exact h _ (List.getElem_mem hi)
  · unfold atT
    rw [List.getD, List.getElem?_eq_none (by omega)]
    exact T0.ok

def showT (s : ByteArray) : Value := if s.size ≤ 200 then .tuple #[.string (if nameB s then s else quoteQ s), .int .i64 0] else .tuple #[.string noS, .int .i64 10]
theorem chk_text (s : ByteArray) : chk 2 0 s = if s.size ≤ 200 then 0 else 10 := by
  unfold chk
  by_cases h : s.size ≤ 200
  · rw [if_pos h, if_pos (.inr ⟨rfl, rfl, by omega⟩)]
  · rw [if_neg h, if_neg]
    rintro (⟨h1, _⟩ | ⟨_, _, h1⟩)
    · cases h1
    · omega
set_option maxHeartbeats 800000 in
theorem show_text (s : ByteArray) (w : World) (hs : s.size ≤ maxLen) : Calls Tryz.prog 20 #[.agg #[.int .i8 2, .int .i64 0, .string s]] w fun e w' => e = .returned (showT s) ∧ Below w.heap.size w w' := by
  unfold showT
  have hc := chk_text s
  by_cases h : s.size ≤ 200
  · rw [if_pos h] at hc ⊢
    go_enter Tryz.func20, Tryz.ntmps20
    go_wp2_with fail
    refine (vcheck_any 2 0 s _ hs).mono ?_
    rintro e w1 ⟨rfl, b1⟩
    rw [hc]
    have b1' := ((Below.refl w.heap.size w).alloc (Nat.le_refl _) (.cells #[.int .i8 2, .int .i64 0, .string s] 69)).trans (b1.mono (by simp))
    have c0 : w1.cell? ⟨w.heap.size, 0, none⟩ = some (.int .i8 2) := by rw [b1.cell (p := ⟨w.heap.size, 0, none⟩) (by simp)]; go_simp
    have c2 : w1.cell? ⟨w.heap.size, 2, none⟩ = some (.string s) := by rw [b1.cell (p := ⟨w.heap.size, 2, none⟩) (by simp)]; go_simp
    clear b1 hc
    cases hn : nameB s
    · go_wp2_with (first
        | (go_at_call 82; refine (isName_any s _ hs).mono ?_; rw [hn]; rintro e w' ⟨rfl, rfl⟩)
        | (go_at_call 83; refine (quote_any s _ h).mono ?_; rintro e w2 ⟨rfl, b2⟩))
      all_goals
        go_ret2
        exact ⟨rfl, b1'.trans (b2.mono b1'.size)⟩
    · go_wp2_with (go_at_call 82; refine (isName_any s _ hs).mono ?_; rw [hn]; rintro e w' ⟨rfl, rfl⟩)
      go_ret2
      exact ⟨rfl, b1'⟩
  · rw [if_neg h] at hc ⊢
    go_enter Tryz.func20, Tryz.ntmps20
    go_wp2_with fail
    refine (vcheck_any 2 0 s _ hs).mono ?_
    rintro e w1 ⟨rfl, b1⟩
    rw [hc]
    have b1' := ((Below.refl w.heap.size w).alloc (Nat.le_refl _) (.cells #[.int .i8 2, .int .i64 0, .string s] 69)).trans (b1.mono (by simp))
    go_wp2
    go_ret2
    exact ⟨rfl, b1'⟩

end Go.Proofs.YtoagnkbmeafmoaaGreatDoor
