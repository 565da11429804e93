import Derived.Test.YtgplipfebnigiaaGreatDoorG3
import Derived.Deep.MidRow
section
namespace Go.Proofs.YtgplipfebnigiaaGreatDoor
open Go.RowKit Go.Maps
set_option linter.unusedVariables false
set_option linter.unusedSimpArgs false
attribute [local go_sem ↓] Go.wp_at_zero Go.wp_at_succ

theorem TAt.below {w w' : World} {g o : Nat} {t : T} (h : TAt w g o t) (b : Below w.heap.size w w') (hg : g < w.heap.size) : TAt w' g o t :=
  ⟨by rw [b.cell (p := ⟨g, o, none⟩) hg]; exact h.c0, by rw [b.cell (p := ⟨g, o + 1, none⟩) hg]; exact h.c1, by rw [b.cell (p := ⟨g, o + 2, none⟩) hg]; exact h.c2, by rw [b.cell (p := ⟨g, o + 3, none⟩) hg]; exact h.c3⟩
theorem PAt.below {w w' : World} {g o : Nat} {t : P} (h : PAt w g o t) (b : Below w.heap.size w w') (hg : g < w.heap.size) : PAt w' g o t :=
  ⟨by rw [b.cell (p := ⟨g, o, none⟩) hg]; exact h.c0, by rw [b.cell (p := ⟨g, o + 1, none⟩) hg]; exact h.c1, by rw [b.cell (p := ⟨g, o + 2, none⟩) hg]; exact h.c2, by rw [b.cell (p := ⟨g, o + 3, none⟩) hg]; exact h.c3, by rw [b.cell (p := ⟨g, o + 4, none⟩) hg]; exact h.c4⟩
theorem VAt.below {w w' : World} {g o : Nat} {t : V} (h : VAt w g o t) (b : Below w.heap.size w w') (hg : g < w.heap.size) : VAt w' g o t :=
  ⟨by rw [b.cell (p := ⟨g, o, none⟩) hg]; exact h.c0, by rw [b.cell (p := ⟨g, o + 1, none⟩) hg]; exact h.c1, by rw [b.cell (p := ⟨g, o + 2, none⟩) hg]; exact h.c2⟩
theorem all_take {l : List T} {k : Nat} (h : k < l.length) : (l.take (k + 1)).all termB = ((l.take k).all termB && termB (atT l k)) := by
  have e : l.take (k + 1) = l.take k ++ [l[k]] := by rw [List.take_add_one, List.getElem?_eq_getElem h]; rfl
  rw [e, List.all_append, atT_eq h]
  simp
theorem all_not {l : List T} {k : Nat} (h : k < l.length) (hn : termB (atT l k) = false) : l.all termB = false := by
  rw [← Bool.not_eq_true]
  intro ha
  rw [List.all_eq_true] at ha
  rw [atT_eq h] at hn
  rw [ha _ (List.getElem_mem h)] at hn
  cases hn
theorem atT_wf {l : List T} (h : ∀ t ∈ l, t.wf) (i : Nat) : (atT l i).wf := by
  by_cases hi : i < l.length
  · rw [atT_eq hi]; exact h _ (List.getElem_mem hi)
  · unfold atT
    rw [List.getD, List.getElem?_eq_none (by omega)]
    exact T0.ok

def showT (s : ByteArray) : Value := if s.size ≤ 200 then .tuple #[.string (if nameB s then s else quoteQ s), .int .i64 0] else .tuple #[.string noS, .int .i64 10]
theorem chk_text (s : ByteArray) : chk 2 0 s = if s.size ≤ 200 then 0 else 10 := by
  unfold chk
  by_cases h : s.size ≤ 200
  · rw [if_pos h, if_pos (.inr ⟨rfl, rfl, by omega⟩)]
  · rw [if_neg h, if_neg]
    rintro (⟨h1, _⟩ | ⟨_, _, h1⟩)
    · cases h1
    · omega
set_option maxHeartbeats 800000 in
theorem show_text (s : ByteArray) (w : World) (hs : s.size ≤ maxLen) : Calls Tryz.prog 95 #[.agg #[.int .i8 2, .int .i64 0, .string s]] w fun e w' => e = .returned (showT s) ∧ Below w.heap.size w w' := by
  unfold showT
  have hc := chk_text s
  by_cases h : s.size ≤ 200
  · rw [if_pos h] at hc ⊢
    go_enter Tryz.func95, Tryz.ntmps95
    go_wp2_with fail
    refine (vcheck_any 2 0 s _ hs).mono ?_
    rintro e w1 ⟨rfl, b1⟩
    rw [hc]
    have b1' := ((Below.refl w.heap.size w).alloc (Nat.le_refl _) (.cells #[.int .i8 2, .int .i64 0, .string s] 44)).trans (b1.mono (by simp))
    have c0 : w1.cell? ⟨w.heap.size, 0, none⟩ = some (.int .i8 2) := by rw [b1.cell (p := ⟨w.heap.size, 0, none⟩) (by simp)]; go_simp
    have c2 : w1.cell? ⟨w.heap.size, 2, none⟩ = some (.string s) := by rw [b1.cell (p := ⟨w.heap.size, 2, none⟩) (by simp)]; go_simp
    clear b1 hc
    cases hn : nameB s
    · go_wp2_with (first
        | (go_at_call 121; refine (isName_any s _ hs).mono ?_; rw [hn]; rintro e w' ⟨rfl, rfl⟩)
        | (go_at_call 122; refine (quote_any s _ h).mono ?_; rintro e w2 ⟨rfl, b2⟩))
      all_goals
        go_ret2
        exact ⟨rfl, b1'.trans (b2.mono b1'.size)⟩
    · go_wp2_with (go_at_call 121; refine (isName_any s _ hs).mono ?_; rw [hn]; rintro e w' ⟨rfl, rfl⟩)
      go_ret2
      exact ⟨rfl, b1'⟩
  · rw [if_neg h] at hc ⊢
    go_enter Tryz.func95, Tryz.ntmps95
    go_wp2_with fail
    refine (vcheck_any 2 0 s _ hs).mono ?_
    rintro e w1 ⟨rfl, b1⟩
    rw [hc]
    have b1' := ((Below.refl w.heap.size w).alloc (Nat.le_refl _) (.cells #[.int .i8 2, .int .i64 0, .string s] 44)).trans (b1.mono (by simp))
    go_wp2
    go_ret2
    exact ⟨rfl, b1'⟩

theorem name_short {s : ByteArray} (h : ¬ s.size ≤ 200) : nameB s = false := by
  unfold nameB
  have : decide (s.size ≤ 120) = false := decide_eq_false (by omega)
  rw [this]
  simp
theorem quote_not (s : ByteArray) : ((quoteQ s).toList == s.toList) = false := by
  rw [beq_eq_false_iff_ne]
  intro e
  have := toList_inj e
  have h := quoteQ_size s
  rw [this] at h
  omega
set_option maxHeartbeats 800000 in
theorem tName_any (s : ByteArray) (w : World) (hs : s.size ≤ maxLen) : Calls Tryz.prog 57 #[.string s] w fun e w' => e = .returned (.bool (nameB s)) ∧ Below w.heap.size w w' := by
  have hq := quote_not s
  go_enter Tryz.func57, Tryz.ntmps57
  go_wp2_with fail
  refine (show_text s _ hs).mono ?_
  rintro e w1 ⟨rfl, b1⟩
  unfold showT
  by_cases h : s.size ≤ 200
  · rw [if_pos h]
    cases hn : nameB s
    · simp only [Bool.false_eq_true, if_false]
      generalize quoteQ s = q at hq
      go_wp2
      go_ret
      exact ⟨ret_bool hn.symm, b1⟩
    · simp only [if_true]
      go_wp2
      go_ret
      exact ⟨ret_bool hn.symm, b1⟩
  · rw [if_neg h]
    go_wp2
    go_ret
    exact ⟨ret_bool (name_short h).symm, b1⟩

set_option maxHeartbeats 1600000 in
theorem isAtom_any (pred : ByteArray) (v : Value) (l : List T) (w : World) (hp : pred.size ≤ maxLen) (hl : Lt w v l) : Calls Tryz.prog 70 #[.agg #[.string pred, v]] w fun e w' => e = .returned (.bool (atomB pred l)) ∧ Below w.heap.size w w' := by
  obtain ⟨a, c, rfl, hc1, hc2, hat⟩ := hl.form
  have hwf := hl.wf
  have hmax : l.length ≤ maxLen := Nat.le_trans hc1 hc2
  unfold maxLen at hmax
  have HA : Hid (atomB pred l = (nameB pred && decide (l.length ≤ 24) && l.all termB)) := rfl
  go_enter Tryz.func70, Tryz.ntmps70
  go_wp2_with fail
  refine (tName_any pred _ hp).mono ?_
  rintro e w1 ⟨rfl, b1⟩
  have b1' := ((Below.refl w.heap.size w).alloc (Nat.le_refl _) (.cells #[.string pred, .slice a l.length c] 61)).trans (b1.mono (by simp))
  have c1 : w1.cell? ⟨w.heap.size, 1, none⟩ = some (.slice a l.length c) := by rw [b1.cell (p := ⟨w.heap.size, 1, none⟩) (by simp)]; go_simp
  clear b1
  cases hn : nameB pred
  · have HF : Hid (atomB pred l = false) := by show atomB pred l = false; rw [HA.out, hn]; rfl
    go_wp2
    go_ret
    exact ⟨ret_bool HF.out.symm, b1'⟩
  · by_cases h24 : l.length ≤ 24
    · have h24' : (l.length : Int) ≤ 24 := by omega
      have HB : Hid (atomB pred l = l.all termB) := by show atomB pred l = _; rw [HA.out, hn, decide_eq_true h24]; simp
      go_wp2
      go_loopw [18] (fun i wr => ∃ k : Nat, k ≤ l.length ∧ i = .int .i64 k ∧ Below w.heap.size w wr ∧ Hid ((l.take k).all termB = true)) (fun i _ => l.length - (intOf i).toNat)
      case atStart => exact ⟨0, Nat.zero_le _, rfl, b1', by simp [Hid]⟩
      case round =>
        obtain ⟨k, hk, rfl, bel, HS⟩ := hrel
        by_cases hlt : k < l.length
        · have hlt' : (k : Int) < (l.length : Int) := by omega
          obtain ⟨g, off, rfl, hg, hT⟩ := hat (by omega)
          obtain ⟨x0, x1, x2, x3⟩ := (hT k hlt).below bel hg
          have htw := atT_wf hwf k
          have HN : Hid (termB (atT l k) = false → atomB pred l = false) := fun h => by rw [HB.out]; exact all_not hlt h
          have HY : Hid (termB (atT l k) = true → (l.take (k + 1)).all termB = true) := fun h => by rw [all_take hlt, HS.out, h]; rfl
          generalize atT l k = t at x0 x1 x2 x3 htw HN HY
          clear hat hT
          go_wp2_with fail
          refine (isTerm_any t _ htw).mono ?_
          rintro e w2 ⟨rfl, b2⟩
          have b2' := (bel.alloc bel.size (.cells #[.string t.v, .int .i8 t.a.k, .int .i64 t.a.n, .string t.a.s] 46)).trans (b2.mono (by have := bel.size; simp; omega))
          cases ht : termB t
          · go_wp2
            go_ret
            exact ⟨ret_bool (HN.out ht).symm, b2'⟩
          · go_wp2
            go_roundw
            case rel => exact ⟨k + 1, by omega, by go_num, b2', HY.out ht⟩
            case measure => simp [intOf]; omega
        · obtain rfl : k = l.length := by omega
          go_wp2
          go_ret
          exact ⟨ret_bool (by rw [HB.out, ← HS.out, List.take_length]), bel⟩
    · have h24' : (24 : Int) < (l.length : Int) := by omega
      have HF : Hid (atomB pred l = false) := by show atomB pred l = false; rw [HA.out, decide_eq_false h24]; simp
      go_wp2
      go_ret
      exact ⟨ret_bool HF.out.symm, b1'⟩

theorem rKeyword_any (s : ByteArray) (w : World) : Calls Tryz.prog 84 #[.string s] w fun e w' => e = .returned (.bool (kwB s)) ∧ w' = w := by
  go_enter Tryz.func84, Tryz.ntmps84
  go_wp2
  all_goals
    go_ret
    refine ⟨ret_bool ?_, rfl⟩
    go_light
    unfold kwB keywords
    first
      | (simp_all; done)
      | (rw [Bool.eq_iff_iff]; simp; simp_all)
theorem rName_any (s : ByteArray) (w : World) (hs : s.size ≤ maxLen) : Calls Tryz.prog 48 #[.string s] w fun e w' => e = .returned (.bool (nameB s)) ∧ w' = w := by
  rw [nameB_word]
  go_enter Tryz.func48, Tryz.ntmps48
  go_wp2_with fail
  refine (written_any s 97 122 _ hs fun c h => by simp [letterB, smallB, h.1, h.2]).mono ?_
  rintro e w' ⟨rfl, rfl⟩
  cases hx : wordB 97 122 s
  · go_wp2
    go_ret
    exact ⟨ret_bool (by rw [hx]; rfl), rfl⟩
  · go_wp2_with (go_at_call 84; refine (rKeyword_any s _).mono ?_; rintro e w' ⟨rfl, rfl⟩)
    go_ret
    exact ⟨ret_bool (by rw [hx]; simp), rfl⟩
set_option maxHeartbeats 1600000 in
theorem ratom_any (pred : ByteArray) (v : Value) (l : List T) (w : World) (hp : pred.size ≤ maxLen) (hl : Lt w v l) : Calls Tryz.prog 86 #[.agg #[.string pred, v]] w fun e w' => e = .returned (.bool (atomB pred l)) ∧ Below w.heap.size w w' := by
  obtain ⟨a, c, rfl, hc1, hc2, hat⟩ := hl.form
  have hwf := hl.wf
  have hmax : l.length ≤ maxLen := Nat.le_trans hc1 hc2
  unfold maxLen at hmax
  have HA : Hid (atomB pred l = (nameB pred && decide (l.length ≤ 24) && l.all termB)) := rfl
  have b0 := (Below.refl w.heap.size w).alloc (Nat.le_refl _) (.cells #[.string pred, .slice a l.length c] 61)
  cases hn : nameB pred
  · have HF : Hid (atomB pred l = false) := by show atomB pred l = false; rw [HA.out, hn]; rfl
    go_enter Tryz.func86, Tryz.ntmps86
    go_wp2_with (go_at_call 48; refine (rName_any pred _ hp).mono ?_; rw [hn]; rintro e w' ⟨rfl, rfl⟩)
    go_ret
    exact ⟨ret_bool HF.out.symm, b0⟩
  · by_cases h24 : l.length ≤ 24
    · have h24' : (l.length : Int) ≤ 24 := by omega
      have HB : Hid (atomB pred l = l.all termB) := by show atomB pred l = _; rw [HA.out, hn, decide_eq_true h24]; simp
      have c1 : (w.alloc (.cells #[.string pred, .slice a l.length c] 61)).cell? ⟨w.heap.size, 1, none⟩ = some (.slice a l.length c) := by go_simp
      have b00 : Below (w.alloc (.cells #[.string pred, .slice a l.length c] 61)).heap.size (w.alloc (.cells #[.string pred, .slice a l.length c] 61)) (w.alloc (.cells #[.string pred, .slice a l.length c] 61)) := Below.refl _ _
      go_enter Tryz.func86, Tryz.ntmps86
      go_wp2_with (go_at_call 48; refine (rName_any pred _ hp).mono ?_; rw [hn]; rintro e w' ⟨rfl, rfl⟩)
      generalize w.alloc (.cells #[.string pred, .slice a l.length c] 61) = W at b0 c1 b00 ⊢
      have hWlt : w.heap.size < W.heap.size := World.block_lt_of_cell? _ _ c1
      go_loopw [3] (fun i wr => ∃ k : Nat, k ≤ l.length ∧ i = .int .i64 k ∧ Below W.heap.size W wr ∧ Hid ((l.take k).all termB = true)) (fun i _ => l.length - (intOf i).toNat)
      case atStart => exact ⟨0, Nat.zero_le _, rfl, b00, by simp [Hid]⟩
      case round =>
        obtain ⟨k, hk, rfl, bel, HS⟩ := hrel
        have d1 : wr.cell? ⟨w.heap.size, 1, none⟩ = some (.slice a l.length c) := by rw [bel.cell (p := ⟨w.heap.size, 1, none⟩) hWlt]; exact c1
        have belw : Below w.heap.size w wr := b0.trans (bel.mono b0.size)
        by_cases hlt : k < l.length
        · have hlt' : (k : Int) < (l.length : Int) := by omega
          obtain ⟨g, off, rfl, hg, hT⟩ := hat (by omega)
          obtain ⟨x0, x1, x2, x3⟩ := (hT k hlt).below belw hg
          have htw := atT_wf hwf k
          have HN : Hid (termB (atT l k) = false → atomB pred l = false) := fun h => by rw [HB.out]; exact all_not hlt h
          have HY : Hid (termB (atT l k) = true → (l.take (k + 1)).all termB = true) := fun h => by rw [all_take hlt, HS.out, h]; rfl
          generalize atT l k = t at x0 x1 x2 x3 htw HN HY
          clear hat hT c1 b00
          go_wp2_with fail
          refine (rterm_any t _ htw).mono ?_
          rintro e w2 ⟨rfl, b2⟩
          cases ht : termB t
          · go_wp2
            go_ret
            exact ⟨ret_bool (HN.out ht).symm, belw.trans (b2.mono belw.size)⟩
          · go_wp2
            go_roundw
            case rel => exact ⟨k + 1, by omega, by go_num, bel.trans (b2.mono bel.size), HY.out ht⟩
            case measure => simp [intOf]; omega
        · obtain rfl : k = l.length := by omega
          go_wp2
          go_ret
          exact ⟨ret_bool (by rw [HB.out, ← HS.out, List.take_length]), belw⟩
    · have h24' : (24 : Int) < (l.length : Int) := by omega
      have HF : Hid (atomB pred l = false) := by show atomB pred l = false; rw [HA.out, decide_eq_false h24]; simp
      go_enter Tryz.func86, Tryz.ntmps86
      go_wp2_with (go_at_call 48; refine (rName_any pred _ hp).mono ?_; rw [hn]; rintro e w' ⟨rfl, rfl⟩)
      go_ret
      exact ⟨ret_bool HF.out.symm, b0⟩
end Go.Proofs.YtgplipfebnigiaaGreatDoor
end
section
namespace Go.Proofs.YtgplipfebnigiaaGreatDoor
open Go.RowKit Go.Maps
set_option linter.unusedVariables false
set_option linter.unusedSimpArgs false
attribute [local go_sem ↓] Go.wp_at_zero Go.wp_at_succ

theorem kept_cell {w w1 : World} {c : Array Value} {T : TypeId} (hb : Below (w.alloc (.cells c T)).heap.size (w.alloc (.cells c T)) w1) (i : Nat) (v : Value) (hi : c[i]? = some v) : w1.cell? ⟨w.heap.size, i, none⟩ = some v := by
  rw [hb.cell (p := ⟨w.heap.size, i, none⟩) (by simp)]
  unfold World.cell?
  simp only [heap_alloc_new]
  exact hi
theorem kept_frozen {w w1 : World} {c : Array Value} {T : TypeId} (hb : Below (w.alloc (.cells c T)).heap.size (w.alloc (.cells c T)) w1) (i : Nat) : w1.frozen? ⟨w.heap.size, i, none⟩ = false := by
  rw [hb.frozen (p := ⟨w.heap.size, i, none⟩) (by simp)]
  unfold World.frozen?
  simp only [heap_alloc_new]
  simp
theorem kept_lt {w w1 : World} {c : Array Value} {T : TypeId} (hb : Below (w.alloc (.cells c T)).heap.size (w.alloc (.cells c T)) w1) : w.heap.size < w1.heap.size := by
  have := hb.size
  simp at this
  omega
theorem term_results {fn : Func} {sl : Nat} (hr : fn.results = #[.cell sl 46]) {W : World} {tmps : Array Value} {b : Nat} {x0 x1 x2 x3 : Value} (h2 : tmps.getD sl undef = .pointer (some ⟨b, 0, none⟩))
    (c0 : W.cell? ⟨b, 0, none⟩ = some x0) (c1 : W.cell? ⟨b, 1, none⟩ = some x1) (c2 : W.cell? ⟨b, 2, none⟩ = some x2) (c3 : W.cell? ⟨b, 3, none⟩ = some x3) :
    (results fn tmps).run Tryz.prog W = .ok (.agg #[x0, x1, x2, x3]) W := by
  have hl : (loadVar 46 ⟨b, 0, none⟩).run Tryz.prog W = .ok (.agg #[x0, x1, x2, x3]) W := by
    refine run_loadVar_mid W b 0 46 [x0, x1, x2, x3] _ (fun j v hj => ?_) Tryz.underlying46 rfl (by kernel_rfl)
    match j, hj with
    | 0, hj => simp at hj; subst hj; exact c0
    | 1, hj => simp at hj; subst hj; exact c1
    | 2, hj => simp at hj; subst hj; exact c2
    | 3, hj => simp at hj; subst hj; exact c3
  have e0 : results fn tmps = (do
      let x ← asAddr (tmps.getD sl undef)
      loadVar 46 x) := by
    simp [results, hr]
  rw [e0, h2]
  simp [asAddr, hl, Result.andThen]
/-- the cells of a term in block b, that may be written -/
def Own4 (w : World) (b : Nat) : Prop := (∃ y0 y1 y2 y3, w.cell? ⟨b, 0, none⟩ = some y0 ∧ w.cell? ⟨b, 1, none⟩ = some y1 ∧ w.cell? ⟨b, 2, none⟩ = some y2 ∧ w.cell? ⟨b, 3, none⟩ = some y3) ∧
  w.frozen? ⟨b, 0, none⟩ = false ∧ w.frozen? ⟨b, 1, none⟩ = false ∧ w.frozen? ⟨b, 2, none⟩ = false ∧ w.frozen? ⟨b, 3, none⟩ = false ∧ b < w.heap.size
theorem own4 {w w1 : World} {a b c d : Value} {T : TypeId} (hb : Below (w.alloc (.cells #[a, b, c, d] T)).heap.size (w.alloc (.cells #[a, b, c, d] T)) w1) : Own4 w1 w.heap.size :=
  ⟨⟨_, _, _, _, kept_cell hb 0 _ rfl, kept_cell hb 1 _ rfl, kept_cell hb 2 _ rfl, kept_cell hb 3 _ rfl⟩, kept_frozen hb 0, kept_frozen hb 1, kept_frozen hb 2, kept_frozen hb 3, kept_lt hb⟩
theorem Own4.below {w w1 : World} {b : Nat} (h : Own4 w b) (hb : Below w.heap.size w w1) : Own4 w1 b := by
  obtain ⟨⟨y0, y1, y2, y3, c0, c1, c2, c3⟩, f0, f1, f2, f3, hl⟩ := h
  refine ⟨⟨y0, y1, y2, y3, ?_, ?_, ?_, ?_⟩, ?_, ?_, ?_, ?_, Nat.lt_of_lt_of_le hl hb.size⟩
  all_goals first | rw [hb.cell (by exact hl)]; assumption | rw [hb.frozen (by exact hl)]; assumption
theorem term_done {fn : Func} {sl : Nat} (hr : fn.results = #[.cell sl 46]) {w w1 : World} {tmps : Array Value} {b : Nat} {x0 x1 x2 x3 v : Value}
    (ho : Own4 w1 b) (hB : w.heap.size ≤ b) (hb : Below w.heap.size w w1)
    (h2 : tmps.getD sl undef = .pointer (some ⟨b, 0, none⟩)) (hv : v = .agg #[x0, x1, x2, x3]) :
    bodyPost Tryz.prog fn (fun e w' => e = .returned v ∧ Below w.heap.size w w') .ret { tmps := tmps, defers := [] }
      ((((w1.setCell ⟨b, 0, none⟩ x0).setCell ⟨b, 1, none⟩ x1).setCell ⟨b, 2, none⟩ x2).setCell ⟨b, 3, none⟩ x3) := by
  obtain ⟨⟨y0, y1, y2, y3, c0, c1, c2, c3⟩, f0, f1, f2, f3, hl⟩ := ho
  refine bodyPost_ret (term_results hr (x0 := x0) (x1 := x1) (x2 := x2) (x3 := x3) h2 ?_ ?_ ?_ ?_) rfl ⟨by rw [hv], ?_⟩
  · go_simp
  · go_simp
  · go_simp
  · go_simp
  · exact ((((hb.setCell (p := ⟨b, 0, none⟩) hB _).setCell (p := ⟨b, 1, none⟩) hB _).setCell (p := ⟨b, 2, none⟩) hB _).setCell (p := ⟨b, 3, none⟩) hB _)

theorem atP_wf {l : List P} (h : ∀ t ∈ l, t.wf) (i : Nat) : (atP l i).wf := by
  by_cases hi : i < l.length
  · rw [atP_eq hi]; exact h _ (List.getElem_mem hi)
  · unfold atP
    rw [List.getD, List.getElem?_eq_none (by omega)]
    exact ⟨by decide, T0.ok⟩
theorem res_wf {s : List P} (hs : ∀ p ∈ s, p.wf) {t : T} (ht : t.wf) : (res s t).wf := by
  unfold res
  cases hf : s.find? (fun p => decide (p.v = t.v)) with
  | none => exact ht
  | some p => exact (hs p (List.mem_of_find?_eq_some hf)).term
theorem bind_wf {s : List P} (hs : ∀ p ∈ s, p.wf) {n : ByteArray} {t : T} (hn : n.size ≤ maxLen) (ht : t.wf) : ∀ p ∈ bindP s n t, p.wf := by
  intro p hp
  unfold bindP at hp
  rw [List.mem_append] at hp
  rcases hp with hp | hp
  · obtain ⟨q, hq, rfl⟩ := List.mem_map.1 hp
    have := hs q hq
    split
    · exact ⟨this.text, ht⟩
    · exact this
  · obtain rfl := List.mem_singleton.1 hp
    exact ⟨hn, ht⟩
/-- as long as no pair is found, what stands for the term is what stands for it under the rest -/
theorem res_drop {s : List P} {t : T} {k : Nat} (h : k < s.length) : res (s.drop k) t = if (atP s k).v = t.v then (atP s k).t else res (s.drop (k + 1)) t := by
  rw [List.drop_eq_getElem_cons h, atP_eq h]
  unfold res
  rw [List.find?_cons]
  by_cases e : s[k].v = t.v
  · simp [e]
  · simp [e]
theorem eq_bytes (a b : ByteArray) : (a.toList == b.toList) = decide (a = b) := by
  by_cases h : a = b
  · subst h; simp
  · have : ¬ a.toList = b.toList := fun e => h (toList_inj e)
    rw [decide_eq_false h, beq_eq_false_iff_ne]
    exact this

end Go.Proofs.YtgplipfebnigiaaGreatDoor
end
