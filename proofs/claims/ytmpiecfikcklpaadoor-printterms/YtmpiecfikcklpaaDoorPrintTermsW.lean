import Derived.Test.YtmpiecfikcklpaaDoorPrintL
namespace Go.Proofs.YtmpiecfikcklpaaDoor
open Go.RowKit Go.Maps
set_option linter.unusedVariables false
set_option linter.unusedSimpArgs false
attribute [local go_sem ↓] Go.wp_at_zero Go.wp_at_succ

def termS (t : T) : ByteArray := if t.v = noS then showS t.a else t.v
theorem arr_bytes (s : ByteArray) {l : List UInt8} (h : s.data.toList = l) : (⟨l.toArray⟩ : ByteArray) = s := by
  subst h
  cases s
  simp
theorem termS_eq (t : T) : (⟨(termT t).toArray⟩ : ByteArray) = termS t := by
  refine arr_bytes _ ?_
  unfold termS termT
  split
  · exact showS_bytes _
  · rfl
set_option maxHeartbeats 1600000 in
theorem r6term_any (t : T) (w : World) (ht : t.wf) (hok : termB t = true) : Calls Tryd.prog 11 #[t.val] w fun e w' => e = .returned (.string (termS t)) ∧ Below w.heap.size w w' := by
  obtain ⟨tv, v⟩ := t
  have hv := ht.val
  have BA := (Below.refl w.heap.size w).alloc (Nat.le_refl _) (.cells #[.string tv, .int .i8 v.k, .int .i64 v.n, .string v.s] 27)
  unfold T.val
  unfold termB at hok
  unfold termS
  dsimp only at *
  by_cases e0 : tv = noS
  · rw [if_pos e0] at hok ⊢
    have hc : chk v.k v.n v.s = 0 := by simpa [okV, chkV] using hok
    have hV : showV v.k v.n v.s = .tuple #[.string (showS v), .int .i64 0] := by unfold showV showS; rw [if_pos hc]
    subst e0
    clear hok hc
    unfold noS at *
    go_enter Tryd.func11, Tryd.ntmps11
    go_wp2_with fail
    refine (rshow_any v.k v.n v.s _ hv.text hv.num0.1 hv.num0.2).mono ?_
    rintro e w1 ⟨rfl, b1⟩
    rw [hV]
    go_wp2
    go_ret
    exact ⟨rfl, BA.trans (b1.mono BA.size)⟩
  · rw [if_neg e0]
    have he := some_iff tv e0
    clear hok e0
    go_enter Tryd.func11, Tryd.ntmps11
    go_wp2
    go_ret
    exact ⟨rfl, BA⟩
set_option maxHeartbeats 1600000 in
theorem r6Term_any (t : T) (w : World) (ht : t.wf) : Calls Tryd.prog 5 #[t.val] w fun e w' => e = .returned (toldV (termB t) (termT t)) ∧ Below w.heap.size w w' := by
  have BA := (Below.refl w.heap.size w).alloc (Nat.le_refl _) (.cells #[.string t.v, .int .i8 t.a.k, .int .i64 t.a.n, .string t.a.s] 27)
  unfold T.val
  go_enter Tryd.func5, Tryd.ntmps5
  go_wp2_with fail
  refine (rcheckTerm_any t _ ht).mono ?_
  rintro e w1 ⟨rfl, b1⟩
  have B1 : Hid (Below w.heap.size w w1) := BA.trans (b1.mono BA.size)
  have y0 : w1.cell? ⟨w.heap.size, 0, none⟩ = some (.string t.v) := by rw [b1.cell (p := ⟨w.heap.size, 0, none⟩) (by simp)]; go_simp
  have y1 : w1.cell? ⟨w.heap.size, 1, none⟩ = some (.int .i8 t.a.k) := by rw [b1.cell (p := ⟨w.heap.size, 1, none⟩) (by simp)]; go_simp
  have y2 : w1.cell? ⟨w.heap.size, 2, none⟩ = some (.int .i64 t.a.n) := by rw [b1.cell (p := ⟨w.heap.size, 2, none⟩) (by simp)]; go_simp
  have y3 : w1.cell? ⟨w.heap.size, 3, none⟩ = some (.string t.a.s) := by rw [b1.cell (p := ⟨w.heap.size, 3, none⟩) (by simp)]; go_simp
  clear b1 BA
  cases hok : termB t
  · unfold errB
    simp only [Bool.false_eq_true, if_false]
    go_wp2
    go_ret2
    exact ⟨by first | rfl | (rw [hok]; rfl), B1.out⟩
  · unfold errB
    simp only [if_true]
    go_wp2_with fail
    refine (r6term_any t _ ht hok).mono ?_
    rintro e w2 ⟨rfl, b2⟩
    have HS : Hid _ := termS_eq t
    obtain ⟨S, hS⟩ : ∃ S, termS t = S := ⟨_, rfl⟩
    rw [hS] at HS ⊢
    clear hS
    go_wp2
    go_ret2
    exact ⟨by first | (rw [← HS.out]; rfl) | (rw [hok, ← HS.out]; rfl), B1.out.trans (b2.mono B1.out.size)⟩
set_option maxHeartbeats 1600000 in
theorem printTerms_walk (t : T) (w : World) (hG : Gp w) (ht : t.wf) : Calls Tryd.prog 3 #[t.val] w fun e w' => e = .returned (.bool true) ∧ Below w.heap.size w w' := by
  have BA := (Below.refl w.heap.size w).alloc (Nat.le_refl _) (.cells #[.string t.v, .int .i8 t.a.k, .int .i64 t.a.n, .string t.a.s] 27)
  have HG : Hid (∀ w', Below w.heap.size w w' → Gp w') := fun w' h => hG.below h
  obtain ⟨s, er, hs⟩ : ∃ s er, toldV (termB t) (termT t) = .tuple #[.string s, .int .i64 er] := by unfold toldV; split <;> exact ⟨_, _, rfl⟩
  clear hG
  unfold T.val
  go_enter Tryd.func3, Tryd.ntmps3
  go_wp2_with fail
  refine (pTerm_any t _ ht (HG.out _ BA).pw).mono ?_
  rintro e w1 ⟨rfl, b1⟩
  rw [hs]
  have B1 : Hid (Below w.heap.size w w1) := BA.trans (b1.mono BA.size)
  have y0 : w1.cell? ⟨w.heap.size, 0, none⟩ = some (.string t.v) := by rw [b1.cell (p := ⟨w.heap.size, 0, none⟩) (by simp)]; go_simp
  have y1 : w1.cell? ⟨w.heap.size, 1, none⟩ = some (.int .i8 t.a.k) := by rw [b1.cell (p := ⟨w.heap.size, 1, none⟩) (by simp)]; go_simp
  have y2 : w1.cell? ⟨w.heap.size, 2, none⟩ = some (.int .i64 t.a.n) := by rw [b1.cell (p := ⟨w.heap.size, 2, none⟩) (by simp)]; go_simp
  have y3 : w1.cell? ⟨w.heap.size, 3, none⟩ = some (.string t.a.s) := by rw [b1.cell (p := ⟨w.heap.size, 3, none⟩) (by simp)]; go_simp
  clear b1 BA
  go_wp2_with fail
  refine (r6Term_any t _ ht).mono ?_
  rintro e w2 ⟨rfl, b2⟩
  rw [hs]
  have B2 : Hid (Below w.heap.size w w2) := B1.out.trans (b2.mono B1.out.size)
  clear b2 y0 y1 y2 y3 B1 hs
  go_wp2_with (go_at_call 6; refine (lives_any _ (HG.out _ B2.out)).mono ?_; rintro e w3 ⟨rfl, b3⟩)
  go_ret
  exact ⟨rfl, B2.out.trans (b3.mono B2.out.size)⟩
end Go.Proofs.YtmpiecfikcklpaaDoor
