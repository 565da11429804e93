import Derived.Test.YthkbcgedjecnlaaDoorLexJoin
namespace Go.Proofs.YthkbcgedjecnlaaDoor
open Go.RowKit Go.Maps
set_option linter.unusedVariables false
set_option linter.unusedSimpArgs false
attribute [local go_sem ↓] Go.wp_at_zero Go.wp_at_succ

def signB (l : List UInt8) : Bool := match signT l with | .tok t _ => decide (t.s = l) | .bad _ => false
def mayT (t : Tk) : Bool :=
  if t.k = 4 then decide (t.s = []) && (decide (0 ≤ t.n) || decide (t.n = -9223372036854775808))
  else if t.n ≠ 0 then false
  else if t.k = 1 then nameU t.s
  else if t.k = 2 then varU t.s
  else if t.k = 6 then kwU t.s
  else if t.k = 7 then signB t.s
  else if t.k = 5 then decide (t.s.length ≤ 200)
  else if t.k = 3 ∨ t.k = 8 then decide (t.s = [])
  else false
theorem nil_iff {s : ByteArray} : s.data.toList = [] ↔ s.size = 0 := by
  rw [← len_toList]; exact List.length_eq_zero_iff.symm

set_option maxHeartbeats 1600000 in
theorem isSign_any (s : ByteArray) (w : World) (hg : Gl w) (hs : s.size ≤ maxLen) : Calls Tryd.prog 55 #[.string s] w fun e w' => e = .returned (.bool (signB s.data.toList)) ∧ Below w.heap.size w w' := by
  unfold signB
  have hS := sign_any s w hg hs
  have he4 : ∀ e, signT s.data.toList = .bad e → e = 31 := by
    intro e h; unfold signT at h; split at h <;> simp at h; exact h.symm
  cases hsg : signT s.data.toList with
  | bad e =>
    obtain rfl := he4 e hsg
    rw [hsg] at hS
    go_enter Tryd.func55, Tryd.ntmps55
    go_wp2_with fail
    refine hS.mono ?_
    unfold fstV noTk
    rintro e w1 ⟨rfl, hb1⟩
    clear hS hg
    go_wp2_with fail
    go_ret
    exact ⟨rfl, hb1.alloc hb1.size _⟩
  | tok t n =>
    rw [hsg] at hS
    have hq : (t.s = s.data.toList) ↔ ((⟨t.s.toArray⟩ : ByteArray).toList == s.toList) = true := by
      rw [beq_iff_eq, ByteArray.toList_eq, ByteArray.toList_eq]
    go_enter Tryd.func55, Tryd.ntmps55
    go_wp2_with fail
    refine hS.mono ?_
    unfold fstV tkV
    rintro e w1 ⟨rfl, hb1⟩
    clear hS hg hsg he4
    by_cases h : t.s = s.data.toList
    · have h' := hq.mp h
      clear hq
      generalize (⟨t.s.toArray⟩ : ByteArray) = x at *
      go_wp2_with fail
      go_ret
      exact ⟨ret_bool (by simp [h]), hb1.alloc hb1.size _⟩
    · have h' : ((⟨t.s.toArray⟩ : ByteArray).toList == s.toList) = false := by
        cases e : ((⟨t.s.toArray⟩ : ByteArray).toList == s.toList)
        · rfl
        · exact absurd (hq.mpr e) h
      clear hq
      generalize (⟨t.s.toArray⟩ : ByteArray) = x at *
      go_wp2_with fail
      go_ret
      exact ⟨ret_bool (by rw [decide_eq_false h, beq_eq_false_iff_ne, ByteArray.toList_eq]; exact h), hb1.alloc hb1.size _⟩

set_option maxHeartbeats 3200000 in
theorem mayBe_any (k : Int) (s : ByteArray) (n a : Int) (w : World) (hg : Gl w) (hs : s.size ≤ maxLen) : Calls Tryd.prog 44 #[.agg #[.int .i8 k, .string s, .int .i64 n, .int .i64 a]] w fun e w' => e = .returned (.bool (mayT ⟨k, s.data.toList, n, a⟩)) ∧ Below w.heap.size w w' := by
  have hgb := hg.alloc (.cells #[.int .i8 k, .string s, .int .i64 n, .int .i64 a] 37)
  have hB : Below w.heap.size w (w.alloc (.cells #[.int .i8 k, .string s, .int .i64 n, .int .i64 a] 37)) := (Below.refl _ _).alloc (Nat.le_refl _) _
  obtain ⟨m, hm⟩ : ∃ m, mayT ⟨k, s.data.toList, n, a⟩ = m := ⟨_, rfl⟩
  rw [hm]
  unfold mayT at hm
  simp only at hm
  have HM : Hid _ := hm
  have HB : Hid _ := hB
  have HG : Hid _ := hgb
  have HS : Hid _ := hs
  clear hm hg hgb hB
  unfold maxLen at hs
  by_cases k4 : k = 4
  · subst k4
    rw [if_pos rfl] at HM
    by_cases h0 : s.size = 0
    · have he : s.toList.isEmpty = true := by rw [empty_iff]; simpa using h0
      have hl : s.data.toList = [] := nil_iff.mpr h0
      by_cases hn : 0 ≤ n
      · have HM2 : Hid (m = true) := by show _ = _; rw [← HM.out]; simp [hl, hn]
        go_enter Tryd.func44, Tryd.ntmps44
        go_wp2_with fail
        go_ret
        exact ⟨ret_bool HM2.out.symm, HB.out⟩
      · have hn' : ¬ (0 : Int) ≤ n := hn
        by_cases hm : n = -9223372036854775808
        · have HM2 : Hid (m = true) := by show _ = _; rw [← HM.out]; simp [hl, hm]
          subst hm
          go_enter Tryd.func44, Tryd.ntmps44
          go_wp2_with fail
          go_ret
          exact ⟨ret_bool HM2.out.symm, HB.out⟩
        · have HM2 : Hid (m = false) := by show _ = _; rw [← HM.out]; simp [hl, hm, hn]
          have hm' : (n == -9223372036854775808) = false := by simpa using hm
          go_enter Tryd.func44, Tryd.ntmps44
          go_wp2_with fail
          go_ret
          exact ⟨ret_bool HM2.out.symm, HB.out⟩
    · have he : s.toList.isEmpty = false := by rw [empty_iff]; simpa using h0
      have hl : ¬ s.data.toList = [] := fun e => h0 (nil_iff.mp e)
      have HM2 : Hid (m = false) := by show _ = _; rw [← HM.out]; simp [hl]
      go_enter Tryd.func44, Tryd.ntmps44
      go_wp2_with fail
      go_ret
      exact ⟨ret_bool HM2.out.symm, HB.out⟩
  · rw [if_neg k4] at HM
    by_cases hn : n = 0
    · subst hn
      rw [if_neg (by simp)] at HM
      by_cases k1 : k = 1
      · subst k1
        have HM2 : Hid (nameU s.data.toList = m) := HM.out
        go_enter Tryd.func44, Tryd.ntmps44
        go_wp2_with (first
          | (go_at_call 40; refine (Name_any _ _ HG.out HS.out).mono ?_; rw [HM2.out]; rintro e w1 ⟨rfl, hb1⟩)
          | fail)
        go_ret
        exact ⟨rfl, HB.out.trans (hb1.mono HB.out.size)⟩
      · by_cases k2 : k = 2
        · subst k2
          have HM2 : Hid (varU s.data.toList = m) := HM.out
          go_enter Tryd.func44, Tryd.ntmps44
          go_wp2_with (first
            | (go_at_call 54; refine (Variable_any _ _ HS.out).mono ?_; rw [HM2.out]; rintro e w1 ⟨rfl, hb1⟩)
            | fail)
          go_ret
          exact ⟨rfl, HB.out.trans (hb1.mono HB.out.size)⟩
        · by_cases k6 : k = 6
          · subst k6
            have HM2 : Hid (kwU s.data.toList = m) := HM.out
            go_enter Tryd.func44, Tryd.ntmps44
            go_wp2_with (first
              | (go_at_call 13; refine (Keyword_any _ _ HG.out).mono ?_; rw [HM2.out]; rintro e w1 ⟨rfl, rfl⟩)
              | fail)
            go_ret
            exact ⟨rfl, HB.out⟩
          · by_cases k7 : k = 7
            · subst k7
              have HM2 : Hid (signB s.data.toList = m) := HM.out
              go_enter Tryd.func44, Tryd.ntmps44
              go_wp2_with (first
                | (go_at_call 55; refine (isSign_any _ _ HG.out HS.out).mono ?_; rw [HM2.out]; rintro e w1 ⟨rfl, hb1⟩)
                | fail)
              go_ret
              exact ⟨rfl, HB.out.trans (hb1.mono HB.out.size)⟩
            · rw [if_neg k1, if_neg k2, if_neg k6, if_neg k7] at HM
              by_cases k5 : k = 5
              · subst k5
                rw [if_pos rfl, len_toList] at HM
                by_cases h2 : s.size ≤ 200
                · have h2' : (s.size : Int) ≤ 200 := by omega
                  have HM2 : Hid (m = true) := by show _ = _; rw [← HM.out]; simp [h2]
                  go_enter Tryd.func44, Tryd.ntmps44
                  go_wp2_with fail
                  go_ret
                  exact ⟨ret_bool HM2.out.symm, HB.out⟩
                · have h2' : ¬ (s.size : Int) ≤ 200 := by omega
                  have HM2 : Hid (m = false) := by show _ = _; rw [← HM.out]; simp [h2]
                  go_enter Tryd.func44, Tryd.ntmps44
                  go_wp2_with fail
                  go_ret
                  exact ⟨ret_bool HM2.out.symm, HB.out⟩
              · rw [if_neg k5] at HM
                by_cases h0 : s.size = 0
                · have he : s.toList.isEmpty = true := by rw [empty_iff]; simpa using h0
                  have hl : s.data.toList = [] := nil_iff.mpr h0
                  by_cases k3 : k = 3
                  · subst k3
                    have HM2 : Hid (m = true) := by show _ = _; rw [← HM.out]; simp [hl]
                    go_enter Tryd.func44, Tryd.ntmps44
                    go_wp2_with fail
                    go_ret
                    exact ⟨ret_bool HM2.out.symm, HB.out⟩
                  · by_cases k8 : k = 8
                    · subst k8
                      have HM2 : Hid (m = true) := by show _ = _; rw [← HM.out]; simp [hl]
                      go_enter Tryd.func44, Tryd.ntmps44
                      go_wp2_with fail
                      go_ret
                      exact ⟨ret_bool HM2.out.symm, HB.out⟩
                    · have HM2 : Hid (m = false) := by show _ = _; rw [← HM.out]; simp [k3, k8]
                      go_enter Tryd.func44, Tryd.ntmps44
                      go_wp2_with fail
                      go_ret
                      exact ⟨ret_bool HM2.out.symm, HB.out⟩
                · have he : s.toList.isEmpty = false := by rw [empty_iff]; simpa using h0
                  have hl : ¬ s.data.toList = [] := fun e => h0 (nil_iff.mp e)
                  have HM2 : Hid (m = false) := by show _ = _; rw [← HM.out]; simp [hl]
                  by_cases k3 : k = 3
                  · subst k3
                    go_enter Tryd.func44, Tryd.ntmps44
                    go_wp2_with fail
                    go_ret
                    exact ⟨ret_bool HM2.out.symm, HB.out⟩
                  · by_cases k8 : k = 8
                    · subst k8
                      go_enter Tryd.func44, Tryd.ntmps44
                      go_wp2_with fail
                      go_ret
                      exact ⟨ret_bool HM2.out.symm, HB.out⟩
                    · go_enter Tryd.func44, Tryd.ntmps44
                      go_wp2_with fail
                      go_ret
                      exact ⟨ret_bool HM2.out.symm, HB.out⟩
    · rw [if_pos hn] at HM
      have HM2 : Hid (m = false) := HM.out.symm
      go_enter Tryd.func44, Tryd.ntmps44
      go_wp2_with fail
      go_ret
      exact ⟨ret_bool HM2.out.symm, HB.out⟩
end Go.Proofs.YthkbcgedjecnlaaDoor
