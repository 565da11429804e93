import Derived.Test.YtkgmclinjdlbdaaTermL
namespace Go.Proofs.Ytkgmclinjdlbdaa
open Go.RowKit
set_option linter.unusedVariables false
set_option linter.unusedSimpArgs false
attribute [local go_sem ↓] Go.wp_at_zero Go.wp_at_succ

theorem run_eqV (k1 n1 : Int) (s1 : ByteArray) (k2 n2 : Int) (s2 : ByteArray) (w : World) :
    (binOp .eql 25 (.agg #[.int .i8 k1, .int .i64 n1, .string s1]) (.agg #[.int .i8 k2, .int .i64 n2, .string s2])).run Try.prog w = .ok (.bool (decide ((⟨k1, n1, s1⟩ : V) = ⟨k2, n2, s2⟩))) w := by
  by_cases hk : k1 = k2
  · by_cases hn : n1 = n2
    · by_cases hs : s1.toList = s2.toList
      · have := toList_inj hs
        subst hk hn this
        go_simp
      · have e : decide ((⟨k1, n1, s1⟩ : V) = ⟨k2, n2, s2⟩) = false := decide_eq_false (fun h => hs (by cases h; rfl))
        rw [e]
        go_simp
    · have e : decide ((⟨k1, n1, s1⟩ : V) = ⟨k2, n2, s2⟩) = false := decide_eq_false (fun h => hn (by cases h; rfl))
      rw [e]
      go_simp
  · have e : decide ((⟨k1, n1, s1⟩ : V) = ⟨k2, n2, s2⟩) = false := decide_eq_false (fun h => hk (by cases h; rfl))
    rw [e]
    go_simp

theorem some_iff (s : ByteArray) (h : s ≠ noS) : s.toList.isEmpty = false := by
  cases e : s.toList with
  | nil => exact absurd ((noS_iff s).1 e) h
  | cons _ _ => rfl
theorem blank_iff {s : ByteArray} (h : s ≠ blankS) : (s.toList == [95]) = false := by
  rw [beq_eq_false_iff_ne]
  intro e
  exact h (toList_inj (by rw [e, ByteArray.toList_eq]; rfl))

set_option maxHeartbeats 1600000 in
theorem isTerm_any (t : T) (w : World) (ht : t.wf) : Calls Try.prog 7 #[t.val] w fun e w' => e = .returned (.bool (termB t)) ∧ Below w.heap.size w w' := by
  obtain ⟨tv, k, n, s⟩ := t
  have h1 : tv.size ≤ maxLen := ht.text
  have h2 : s.size ≤ maxLen := ht.val.text
  unfold T.val
  dsimp only
  by_cases e0 : tv = noS
  · subst e0
    have HT : Hid (termB ⟨noS, k, n, s⟩ = (chk k n s == 0)) := by show termB _ = _; unfold termB okV chkV; rw [if_pos rfl]
    unfold noS
    go_enter Try.func7, Try.ntmps7
    go_wp2_with fail
    refine (vcheck_any k n s _ h2).mono ?_
    rintro e w' ⟨rfl, hb⟩
    go_wp2
    go_ret
    exact ⟨ret_bool HT.out.symm, ((Below.refl _ _).alloc (Nat.le_refl _) _).trans (hb.mono (by simp))⟩
  · have he := some_iff tv e0
    have hE := run_eqV k n s 0 0 ⟨#[]⟩
    by_cases ea : (⟨k, n, s⟩ : V) = V0
    · have hE' : decide ((⟨k, n, s⟩ : V) = ⟨0, 0, ⟨#[]⟩⟩) = true := decide_eq_true ea
      rw [hE'] at hE
      by_cases eb : tv = blankS
      · subst eb
        have HT : Hid (termB ⟨blankS, k, n, s⟩ = true) := by show termB _ = _; unfold termB; rw [if_neg e0]; simp [ea]
        clear e0 ea hE'
        unfold blankS at *
        go_enter Try.func7, Try.ntmps7
        go_wp2
        go_ret
        exact ⟨ret_bool HT.out.symm, ((Below.refl _ _).alloc (Nat.le_refl _) _)⟩
      · have hb0 := blank_iff eb
        have HT : Hid (termB ⟨tv, k, n, s⟩ = varB tv) := by show termB _ = _; unfold termB; rw [if_neg e0]; simp [ea, eb]
        clear e0 ea hE' eb
        go_enter Try.func7, Try.ntmps7
        go_wp2_with fail
        refine (isVariable_any tv _ h1).mono ?_
        rintro e w' ⟨rfl, rfl⟩
        go_wp2
        go_ret
        exact ⟨ret_bool HT.out.symm, ((Below.refl _ _).alloc (Nat.le_refl _) _)⟩
    · have hE' : decide ((⟨k, n, s⟩ : V) = ⟨0, 0, ⟨#[]⟩⟩) = false := decide_eq_false ea
      rw [hE'] at hE
      have HT : Hid (termB ⟨tv, k, n, s⟩ = false) := by show termB _ = _; unfold termB; rw [if_neg e0]; simp [ea]
      clear e0 ea hE'
      go_enter Try.func7, Try.ntmps7
      go_wp2
      go_ret
      exact ⟨ret_bool HT.out.symm, ((Below.refl _ _).alloc (Nat.le_refl _) _)⟩

set_option maxHeartbeats 1600000 in
theorem rterm_any (t : T) (w : World) (ht : t.wf) : Calls Try.prog 9 #[t.val] w fun e w' => e = .returned (.bool (termB t)) ∧ Below w.heap.size w w' := by
  obtain ⟨tv, k, n, s⟩ := t
  have h1 : tv.size ≤ maxLen := ht.text
  have h2 : s.size ≤ maxLen := ht.val.text
  unfold T.val
  dsimp only
  by_cases e0 : tv = noS
  · subst e0
    have HT : Hid (termB ⟨noS, k, n, s⟩ = (chk k n s == 0)) := by show termB _ = _; unfold termB okV chkV; rw [if_pos rfl]
    unfold noS
    go_enter Try.func9, Try.ntmps9
    go_wp2_with fail
    refine (rcheck_any k n s _ h2).mono ?_
    rintro e w' ⟨rfl, hb⟩
    go_wp2
    go_ret
    exact ⟨ret_bool HT.out.symm, (((Below.refl _ _).alloc (Nat.le_refl _) _).alloc (by simp) _).trans (hb.mono (by simp; omega))⟩
  · have he := some_iff tv e0
    have hE := run_eqV k n s 0 0 ⟨#[]⟩
    by_cases eb : tv = blankS
    · subst eb
      have HT : Hid (termB ⟨blankS, k, n, s⟩ = decide ((⟨k, n, s⟩ : V) = ⟨0, 0, ⟨#[]⟩⟩)) := by show termB _ = decide ((⟨k, n, s⟩ : V) = V0); unfold termB; rw [if_neg e0]; simp
      clear e0
      generalize decide ((⟨k, n, s⟩ : V) = ⟨0, 0, ⟨#[]⟩⟩) = z at hE HT
      unfold blankS at *
      go_enter Try.func9, Try.ntmps9
      go_wp2
      go_ret
      exact ⟨ret_bool HT.out.symm, (((Below.refl _ _).alloc (Nat.le_refl _) _).alloc (by simp) _)⟩
    · have hb0 := blank_iff eb
      have HT : Hid (termB ⟨tv, k, n, s⟩ = (varB tv && decide ((⟨k, n, s⟩ : V) = ⟨0, 0, ⟨#[]⟩⟩))) := by show termB _ = (_ && decide ((⟨k, n, s⟩ : V) = V0)); unfold termB; rw [if_neg e0]; simp [eb, Bool.and_comm]
      clear e0 eb
      generalize decide ((⟨k, n, s⟩ : V) = ⟨0, 0, ⟨#[]⟩⟩) = z at hE HT
      cases hvb : varB tv
      all_goals
        rw [hvb] at HT
        go_enter Try.func9, Try.ntmps9
        go_wp2_with fail
        refine (rVariable_any tv _ h1).mono ?_
        rw [hvb]
        rintro e w' ⟨rfl, rfl⟩
        go_wp2
        go_ret
        exact ⟨ret_bool (by rw [HT.out]; simp), (((Below.refl _ _).alloc (Nat.le_refl _) _).alloc (by simp) _)⟩

def errB (b : Bool) : Int := if b then 0 else 40
theorem verdict_any (b : Bool) (w : World) : Calls Try.prog 6 #[.bool b] w fun e w' => e = .returned (.int .i64 (errB b)) ∧ w' = w := by
  cases b <;>
  · go_enter Try.func6, Try.ntmps6
    go_wp2
    go_ret
    exact ⟨rfl, rfl⟩
theorem said_any (b : Bool) (w : World) : Calls Try.prog 8 #[.bool b] w fun e w' => e = .returned (.int .i64 (errB b)) ∧ w' = w := by
  cases b <;>
  · go_enter Try.func8, Try.ntmps8
    go_wp2
    go_ret
    exact ⟨rfl, rfl⟩
theorem checkTerm_any (t : T) (w : World) (ht : t.wf) : Calls Try.prog 4 #[t.val] w fun e w' => e = .returned (.int .i64 (errB (termB t))) ∧ Below w.heap.size w w' := by
  unfold T.val
  go_enter Try.func4, Try.ntmps4
  go_wp2_with fail
  refine (isTerm_any t _ ht).mono ?_
  rintro e w1 ⟨rfl, b1⟩
  go_wp2_with fail
  refine (verdict_any _ _).mono ?_
  rintro e w2 ⟨rfl, rfl⟩
  go_wp2
  go_ret
  exact ⟨rfl, ((Below.refl _ _).alloc (Nat.le_refl _) _).trans (b1.mono (by simp))⟩
theorem rcheckTerm_any (t : T) (w : World) (ht : t.wf) : Calls Try.prog 5 #[t.val] w fun e w' => e = .returned (.int .i64 (errB (termB t))) ∧ Below w.heap.size w w' := by
  unfold T.val
  go_enter Try.func5, Try.ntmps5
  go_wp2_with fail
  refine (rterm_any t _ ht).mono ?_
  rintro e w1 ⟨rfl, b1⟩
  go_wp2_with fail
  refine (said_any _ _).mono ?_
  rintro e w2 ⟨rfl, rfl⟩
  go_wp2
  go_ret
  exact ⟨rfl, ((Below.refl _ _).alloc (Nat.le_refl _) _).trans (b1.mono (by simp))⟩
theorem term_keep {W w1 w2 : World} {b : Nat} {c0 c1 c2 c3 : Value} (h : b < w1.heap.size ∧ Below W.heap.size W w1 ∧ w1.cell? ⟨b, 0, none⟩ = some c0 ∧ w1.cell? ⟨b, 1, none⟩ = some c1 ∧ w1.cell? ⟨b, 2, none⟩ = some c2 ∧ w1.cell? ⟨b, 3, none⟩ = some c3) (hb : Below w1.heap.size w1 w2) :
    b < w2.heap.size ∧ Below W.heap.size W w2 ∧ w2.cell? ⟨b, 0, none⟩ = some c0 ∧ w2.cell? ⟨b, 1, none⟩ = some c1 ∧ w2.cell? ⟨b, 2, none⟩ = some c2 ∧ w2.cell? ⟨b, 3, none⟩ = some c3 := by
  obtain ⟨h0, h1, x0, x1, x2, x3⟩ := h
  refine ⟨Nat.lt_of_lt_of_le h0 hb.size, h1.trans (hb.mono h1.size), ?_, ?_, ?_, ?_⟩ <;> rw [hb.cell (by assumption)] <;> assumption
set_option maxHeartbeats 800000 in
theorem terms_walk (t : T) (w : World) (ht : t.wf) : Calls Try.prog 3 #[t.val] w fun e w' => e = .returned (.bool true) ∧ Below w.heap.size w w' := by
  unfold T.val
  go_enter Try.func3, Try.ntmps3
  go_wp2_with fail
  go_region_held3 (fun w' => w.heap.size < w'.heap.size ∧ Below w.heap.size w w' ∧ w'.cell? ⟨w.heap.size, 0, none⟩ = some (.string t.v) ∧ w'.cell? ⟨w.heap.size, 1, none⟩ = some (.int .i8 t.a.k) ∧ w'.cell? ⟨w.heap.size, 2, none⟩ = some (.int .i64 t.a.n) ∧ w'.cell? ⟨w.heap.size, 3, none⟩ = some (.string t.a.s))
    (first
      | assumption
      | exact term_keep (by assumption) (by assumption)
      | (refine ⟨(by simp), ((Below.refl _ _).alloc (Nat.le_refl _) _).drew, ?_, ?_, ?_, ?_⟩ <;> go_simp)
      | (refine ⟨(by simp), ((Below.refl _ _).alloc (Nat.le_refl _) _), ?_, ?_, ?_, ?_⟩ <;> go_simp))
    (first
      | (go_at_call 4; refine (checkTerm_any t _ ht).mono ?_; rintro e w' ⟨rfl, hbx⟩)
      | (go_at_call 5; refine (rcheckTerm_any t _ ht).mono ?_; rintro e w' ⟨rfl, hbx⟩))
  go_wp2
  go_ret
  exact ⟨rfl, by rename_i h; exact h.2.1⟩
end Go.Proofs.Ytkgmclinjdlbdaa
