import Derived.Test.YtjemaijokgcjnaaDoorVrMath
namespace Go.Proofs.YtjemaijokgcjnaaDoor
open Go.RowKit Go.Maps
set_option linter.unusedVariables false
set_option linter.unusedSimpArgs false
attribute [local go_sem ↓] Go.wp_at_zero Go.wp_at_succ

theorem at_list {s : ByteArray} {q : Nat} (h : q < s.size) : s.data.toList[q]'(by rw [len_toList]; exact h) = s[q] := by simp [ByteArray.getElem_eq_getElem_data]
theorem half_any (c : Nat) (hc : c < 256) (w : World) : Calls Tryd.prog 22 #[.int .u8 (c : Int)] w fun e w' => e = .returned (.int .i64 (halfI c)) ∧ w' = w := by
  unfold halfI
  by_cases h1 : 48 ≤ c ∧ c ≤ 57
  · rw [if_pos h1]
    have h1a : (48 : Int) ≤ (c : Int) := by omega
    have h1b : (c : Int) ≤ 57 := by omega
    clear h1
    go_enter Tryd.func22, Tryd.ntmps22
    go_wp2
    go_ret
    exact ⟨rfl, rfl⟩
  · rw [if_neg h1]
    by_cases h2 : 97 ≤ c ∧ c ≤ 102
    · rw [if_pos h2]
      have h1a : (48 : Int) ≤ (c : Int) := by omega
      have h1b : ¬ (c : Int) ≤ 57 := by omega
      have h2a : (97 : Int) ≤ (c : Int) := by omega
      have h2b : (c : Int) ≤ 102 := by omega
      clear h1 h2
      go_enter Tryd.func22, Tryd.ntmps22
      go_wp2
      go_ret
      exact ⟨rfl, rfl⟩
    · rw [if_neg h2]
      by_cases a1 : 48 ≤ c <;> by_cases a2 : 97 ≤ c
      all_goals
        have z1 : ((48 : Int) ≤ (c : Int)) = (48 ≤ c) := by apply propext; omega
        first
          | (exfalso; omega; done)
          | (have h1a : (48 : Int) ≤ (c : Int) := by omega
             have h1b : ¬ (c : Int) ≤ 57 := by omega
             have h2a : (97 : Int) ≤ (c : Int) := by omega
             have h2b : ¬ (c : Int) ≤ 102 := by omega
             clear h1 h2 a1 a2 z1
             go_enter Tryd.func22, Tryd.ntmps22
             go_wp2
             go_ret
             exact ⟨rfl, rfl⟩)
          | (have h1a : (48 : Int) ≤ (c : Int) := by omega
             have h1b : ¬ (c : Int) ≤ 57 := by omega
             have h2a : ¬ (97 : Int) ≤ (c : Int) := by omega
             clear h1 h2 a1 a2 z1
             go_enter Tryd.func22, Tryd.ntmps22
             go_wp2
             go_ret
             exact ⟨rfl, rfl⟩)
          | (have h1a : ¬ (48 : Int) ≤ (c : Int) := by omega
             have h2a : ¬ (97 : Int) ≤ (c : Int) := by omega
             clear h1 h2 a1 a2 z1
             go_enter Tryd.func22, Tryd.ntmps22
             go_wp2
             go_ret
             exact ⟨rfl, rfl⟩)
set_option maxHeartbeats 1600000 in
theorem rnumber_any (s : ByteArray) (w : World) (hs : s.size ≤ maxLen) : Calls Tryd.prog 11 #[.string s] w fun e w' => e = .returned (.int .i64 (numN s.data.toList)) ∧ w' = w := by
  unfold maxLen at hs
  go_enter Tryd.func11, Tryd.ntmps11
  go_wp2
  go_loop [3, 4] (fun m i => ∃ (k : Nat) (v : Int), k ≤ s.size ∧ i = .int .i64 k ∧ m = .int .i64 v ∧ Hid (v = numF (s.data.toList.take k))) (fun m i => s.size - (intOf i).toNat)
  case atStart => exact ⟨0, 0, Nat.zero_le _, rfl, rfl, by show _ = _; rfl⟩
  case round =>
    obtain ⟨k, v, hk, rfl, rfl, HV⟩ := hrel
    have hv := numF_in (s.data.toList.take k)
    rw [← HV.out] at hv
    unfold In64 at hv
    by_cases hlt : k < s.size
    · have hlt' : (k : Int) < (s.size : Int) := by omega
      have hc8 := (s[k]'hlt).toNat_lt
      have hstep := numF_take (l := s.data.toList) (q := k) (by rw [len_toList]; exact hlt)
      rw [at_list hlt, ← HV.out] at hstep
      by_cases h45 : (s[k]'hlt).toNat = 45
      · have h45' : ((s[k]'hlt).toNat : Int) = 45 := by omega
        have hb : (((s[k]'hlt).toNat : Int) != 45) = false := by rw [h45']; rfl
        have HS : Hid (v = numF (s.data.toList.take (k + 1))) := by show _ = _; rw [hstep]; unfold numS; rw [if_pos h45]
        clear hstep h45
        go_wp2
        go_round
        case rel => exact ⟨k + 1, v, by omega, by go_num, rfl, HS⟩
        case measure => simp [intOf]; omega
      · have h45' : ¬ ((s[k]'hlt).toNat : Int) = 45 := by omega
        have hb : (((s[k]'hlt).toNat : Int) != 45) = true := by simpa using h45'
        have HS : Hid (wrap64 (wrap64 (wrap64 (10 * v) + ((s[k]'hlt).toNat : Int)) - 48) = numF (s.data.toList.take (k + 1))) := by show _ = _; rw [hstep]; unfold numS; rw [if_neg h45]
        clear hstep h45
        go_wp2
        go_round
        case rel => exact ⟨k + 1, _, by omega, by go_num, rfl, HS⟩
        case measure => simp [intOf]; omega
    · obtain rfl : k = s.size := by omega
      have HS : Hid (v = numF s.data.toList) := by show _ = _; rw [HV.out, ← len_toList, List.take_length]
      by_cases h0 : s.size = 0
      · have h0' : (s.size : Int) = 0 := by omega
        have HN : Hid (numN s.data.toList = v) := by
          show _ = _
          have e : s.data.toList = [] := List.length_eq_zero_iff.1 (by rw [len_toList]; exact h0)
          unfold numN
          rw [if_neg (by rw [e]; simp), HS.out]
        clear HS HV h0
        go_wp2
        go_ret
        exact ⟨by rw [HN.out]; rfl, rfl⟩
      · have h0' : (0 : Int) < (s.size : Int) := by omega
        have hp : 0 < s.size := by omega
        have he : s.data.toList.head? = some (s[0]'hp) := by rw [List.head?_eq_getElem?, List.getElem?_eq_getElem (by rw [len_toList]; exact hp), at_list hp]
        by_cases h45 : (s[0]'hp).toNat = 45
        · have h45' : ((s[0]'hp).toNat : Int) = 45 := by omega
          have HN : Hid (numN s.data.toList = wrap64 (-v)) := by
            show _ = _
            unfold numN
            rw [if_pos (by rw [he, ← show s[0]'hp = 45 from UInt8.toNat_inj.1 h45]), HS.out]
          clear HS HV h0 he h45
          go_wp2
          go_ret
          exact ⟨by rw [HN.out]; rfl, rfl⟩
        · have h45' : ¬ ((s[0]'hp).toNat : Int) = 45 := by omega
          have HN : Hid (numN s.data.toList = v) := by
            show _ = _
            unfold numN
            rw [if_neg (by rw [he]; intro h; exact h45 (by rw [Option.some.inj h]; rfl)), HS.out]
          clear HS HV h0 he h45
          go_wp2
          go_ret
          exact ⟨by rw [HN.out]; rfl, rfl⟩
end Go.Proofs.YtjemaijokgcjnaaDoor
