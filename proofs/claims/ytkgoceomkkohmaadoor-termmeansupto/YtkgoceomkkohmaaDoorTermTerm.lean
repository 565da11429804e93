import Derived.Test.YtkgoceomkkohmaaDoorTermL
namespace Go.Proofs.YtkgoceomkkohmaaDoor
open Go.RowKit
set_option linter.unusedVariables false
set_option linter.unusedSimpArgs false
attribute [local go_sem ↓] Go.wp_at_zero Go.wp_at_succ

theorem run_eqV (k1 n1 : Int) (s1 : ByteArray) (k2 n2 : Int) (s2 : ByteArray) (w : World) :
    (binOp .eql 26 (.agg #[.int .i8 k1, .int .i64 n1, .string s1]) (.agg #[.int .i8 k2, .int .i64 n2, .string s2])).run Tryd.prog w = .ok (.bool (decide ((⟨k1, n1, s1⟩ : V) = ⟨k2, n2, s2⟩))) w := by
  by_cases hk : k1 = k2
  · by_cases hn : n1 = n2
    · by_cases hs : s1.toList = s2.toList
      · have := toList_inj hs
        subst hk hn this
        go_simp
      · have e : decide ((⟨k1, n1, s1⟩ : V) = ⟨k2, n2, s2⟩) = false := decide_eq_false (fun h => hs (by cases h; rfl))
        rw [e]
        go_simp
    · have e : decide ((⟨k1, n1, s1⟩ : V) = ⟨k2, n2, s2⟩) = false := decide_eq_false (fun h => hn (by cases h; rfl))
      rw [e]
      go_simp
  · have e : decide ((⟨k1, n1, s1⟩ : V) = ⟨k2, n2, s2⟩) = false := decide_eq_false (fun h => hk (by cases h; rfl))
    rw [e]
    go_simp

theorem some_iff (s : ByteArray) (h : s ≠ noS) : s.toList.isEmpty = false := by
  cases e : s.toList with
  | nil => exact absurd ((noS_iff s).1 e) h
  | cons _ _ => rfl
theorem blank_iff {s : ByteArray} (h : s ≠ blankS) : (s.toList == [95]) = false := by
  rw [beq_eq_false_iff_ne]
  intro e
  exact h (toList_inj (by rw [e, ByteArray.toList_eq]; rfl))

set_option maxHeartbeats 1600000 in
theorem isTerm_any (t : T) (w : World) (ht : t.wf) : Calls Tryd.prog 45 #[t.val] w fun e w' => e = .returned (.bool (termB t)) ∧ Below w.heap.size w w' := by
  obtain ⟨tv, k, n, s⟩ := t
  have h1 : tv.size ≤ maxLen := ht.text
  have h2 : s.size ≤ maxLen := ht.val.text
  unfold T.val
  dsimp only
  by_cases e0 : tv = noS
  · subst e0
    have HT : Hid (termB ⟨noS, k, n, s⟩ = (chk k n s == 0)) := by show termB _ = _; unfold termB okV chkV; rw [if_pos rfl]
    unfold noS
    go_enter Tryd.func45, Tryd.ntmps45
    go_wp2_with fail
    refine (vcheck_any k n s _ h2).mono ?_
    rintro e w' ⟨rfl, hb⟩
    go_wp2
    go_ret
    exact ⟨ret_bool HT.out.symm, ((Below.refl _ _).alloc (Nat.le_refl _) _).trans (hb.mono (by simp))⟩
  · have he := some_iff tv e0
    have hE := run_eqV k n s 0 0 ⟨#[]⟩
    by_cases ea : (⟨k, n, s⟩ : V) = V0
    · have hE' : decide ((⟨k, n, s⟩ : V) = ⟨0, 0, ⟨#[]⟩⟩) = true := decide_eq_true ea
      rw [hE'] at hE
      by_cases eb : tv = blankS
      · subst eb
        have HT : Hid (termB ⟨blankS, k, n, s⟩ = true) := by show termB _ = _; unfold termB; rw [if_neg e0]; simp [ea]
        clear e0 ea hE'
        unfold blankS at *
        go_enter Tryd.func45, Tryd.ntmps45
        go_wp2
        go_ret
        exact ⟨ret_bool HT.out.symm, ((Below.refl _ _).alloc (Nat.le_refl _) _)⟩
      · have hb0 := blank_iff eb
        have HT : Hid (termB ⟨tv, k, n, s⟩ = varB tv) := by show termB _ = _; unfold termB; rw [if_neg e0]; simp [ea, eb]
        clear e0 ea hE' eb
        go_enter Tryd.func45, Tryd.ntmps45
        go_wp2_with fail
        refine (isVariable_any tv _ h1).mono ?_
        rintro e w' ⟨rfl, rfl⟩
        go_wp2
        go_ret
        exact ⟨ret_bool HT.out.symm, ((Below.refl _ _).alloc (Nat.le_refl _) _)⟩
    · have hE' : decide ((⟨k, n, s⟩ : V) = ⟨0, 0, ⟨#[]⟩⟩) = false := decide_eq_false ea
      rw [hE'] at hE
      have HT : Hid (termB ⟨tv, k, n, s⟩ = false) := by show termB _ = _; unfold termB; rw [if_neg e0]; simp [ea]
      clear e0 ea hE'
      go_enter Tryd.func45, Tryd.ntmps45
      go_wp2
      go_ret
      exact ⟨ret_bool HT.out.symm, ((Below.refl _ _).alloc (Nat.le_refl _) _)⟩

set_option maxHeartbeats 1600000 in
theorem rterm_any (t : T) (w : World) (ht : t.wf) : Calls Tryd.prog 38 #[t.val] w fun e w' => e = .returned (.bool (termB t)) ∧ Below w.heap.size w w' := by
  obtain ⟨tv, k, n, s⟩ := t
  have h1 : tv.size ≤ maxLen := ht.text
  have h2 : s.size ≤ maxLen := ht.val.text
  unfold T.val
  dsimp only
  by_cases e0 : tv = noS
  · subst e0
    have HT : Hid (termB ⟨noS, k, n, s⟩ = (chk k n s == 0)) := by show termB _ = _; unfold termB okV chkV; rw [if_pos rfl]
    unfold noS
    go_enter Tryd.func38, Tryd.ntmps38
    go_wp2_with fail
    refine (rcheck_any k n s _ h2).mono ?_
    rintro e w' ⟨rfl, hb⟩
    go_wp2
    go_ret
    exact ⟨ret_bool HT.out.symm, (((Below.refl _ _).alloc (Nat.le_refl _) _).alloc (by simp) _).trans (hb.mono (by simp; omega))⟩
  · have he := some_iff tv e0
    have hE := run_eqV k n s 0 0 ⟨#[]⟩
    by_cases eb : tv = blankS
    · subst eb
      have HT : Hid (termB ⟨blankS, k, n, s⟩ = decide ((⟨k, n, s⟩ : V) = ⟨0, 0, ⟨#[]⟩⟩)) := by show termB _ = decide ((⟨k, n, s⟩ : V) = V0); unfold termB; rw [if_neg e0]; simp
      clear e0
      generalize decide ((⟨k, n, s⟩ : V) = ⟨0, 0, ⟨#[]⟩⟩) = z at hE HT
      unfold blankS at *
      go_enter Tryd.func38, Tryd.ntmps38
      go_wp2
      go_ret
      exact ⟨ret_bool HT.out.symm, (((Below.refl _ _).alloc (Nat.le_refl _) _).alloc (by simp) _)⟩
    · have hb0 := blank_iff eb
      have HT : Hid (termB ⟨tv, k, n, s⟩ = (varB tv && decide ((⟨k, n, s⟩ : V) = ⟨0, 0, ⟨#[]⟩⟩))) := by show termB _ = (_ && decide ((⟨k, n, s⟩ : V) = V0)); unfold termB; rw [if_neg e0]; simp [eb, Bool.and_comm]
      clear e0 eb
      generalize decide ((⟨k, n, s⟩ : V) = ⟨0, 0, ⟨#[]⟩⟩) = z at hE HT
      cases hvb : varB tv
      all_goals
        rw [hvb] at HT
        go_enter Tryd.func38, Tryd.ntmps38
        go_wp2_with fail
        refine (rVariable_any tv _ h1).mono ?_
        rw [hvb]
        rintro e w' ⟨rfl, rfl⟩
        go_wp2
        go_ret
        exact ⟨ret_bool (by rw [HT.out]; simp), (((Below.refl _ _).alloc (Nat.le_refl _) _).alloc (by simp) _)⟩

def errB (b : Bool) : Int := if b then 0 else 40
theorem verdict_any (b : Bool) (w : World) : Calls Tryd.prog 36 #[.bool b] w fun e w' => e = .returned (.int .i64 (errB b)) ∧ w' = w := by
  cases b <;>
  · go_enter Tryd.func36, Tryd.ntmps36
    go_wp2
    go_ret
    exact ⟨rfl, rfl⟩
theorem said_any (b : Bool) (w : World) : Calls Tryd.prog 22 #[.bool b] w fun e w' => e = .returned (.int .i64 (errB b)) ∧ w' = w := by
  cases b <;>
  · go_enter Tryd.func22, Tryd.ntmps22
    go_wp2
    go_ret
    exact ⟨rfl, rfl⟩
end Go.Proofs.YtkgoceomkkohmaaDoor
