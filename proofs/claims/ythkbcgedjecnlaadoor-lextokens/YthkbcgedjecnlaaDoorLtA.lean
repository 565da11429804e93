import Derived.Test.YthkbcgedjecnlaaDoorLtM
namespace Go.Proofs.YthkbcgedjecnlaaDoor
open Go.RowKit Go.Maps
set_option linter.unusedVariables false
set_option linter.unusedSimpArgs false
attribute [local go_sem ↓] Go.wp_at_zero Go.wp_at_succ

def NextIs (s : ByteArray) (p q : Nat) : Prop := p ≤ q ∧ q ≤ s.size ∧ toks (s.data.toList.drop p) p = toks (s.data.toList.drop q) q ∧ (∀ h : q < s.size, blankU (s[q]'h) = false ∧ (s[q]'h).toNat ≠ 35)
set_option maxHeartbeats 1600000 in
theorem rnext_any (s : ByteArray) (p : Nat) (w : World) (hs : s.size ≤ 65536) (hp : p ≤ s.size) : Calls Tryd.prog 9 #[.string s, .int .i64 p] w fun e w' => (∃ q : Nat, e = .returned (.int .i64 q) ∧ NextIs s p q) ∧ w' = w := by
  obtain ⟨T, HT⟩ : ∃ T, Hid (toks (s.data.toList.drop p) p = T) := ⟨_, rfl⟩
  go_enter Tryd.func9, Tryd.ntmps9
  go_wp2_with fail
  go_loop [1] (fun i => ∃ q : Nat, p ≤ q ∧ q ≤ s.size ∧ i = .int .i64 q ∧ Hid (toks (s.data.toList.drop q) q = T)) (fun i => s.size - (intOf i).toNat)
  case atStart => exact ⟨p, Nat.le_refl _, hp, rfl, HT.out⟩
  case round =>
    obtain ⟨q, hpq, hq, rfl, HF⟩ := hrel
    by_cases hlt : q < s.size
    · have hlt' : (q : Int) < (s.size : Int) := by omega
      have HD : Hid _ := drop_at s hlt
      by_cases h35 : (s[q]'hlt).toNat = 35
      · have h35' : ((s[q]'hlt).toNat : Int) = 35 := by omega
        obtain ⟨E, HE⟩ : ∃ E, Hid (q + comLen (s.data.toList.drop q) = E) := ⟨_, rfl⟩
        have HN : Hid (toks (s.data.toList.drop E) E = T) := by show _ = _; rw [← HF.out, com_at hlt h35, HE.out]
        have h10 : (s[q]'hlt).toNat ≠ 10 := by omega
        clear HF HD
        go_wp2_with fail
        go_loop [1] (fun i => ∃ r : Nat, q ≤ r ∧ r ≤ s.size ∧ i = .int .i64 r ∧ Hid (r + comLen (s.data.toList.drop r) = E)) (fun i => s.size - (intOf i).toNat)
        case atStart => exact ⟨q, Nat.le_refl _, hq, rfl, HE.out⟩
        case round =>
          obtain ⟨r, hqr, hr, rfl, HQ⟩ := hrel
          by_cases hrl : r < s.size
          · have hrl' : (r : Int) < (s.size : Int) := by omega
            by_cases r10 : (s[r]'hrl).toNat = 10
            · have r10' : ((s[r]'hrl).toNat : Int) = 10 := by omega
              have hrE : r = E := by have := HQ.out; rw [com_stop hrl r10] at this; omega
              have hrq : q ≠ r := fun e => by subst e; exact h10 r10
              subst hrE
              clear HQ HE h35 h35' h10
              go_wp2_with fail
              go_round
              case rel => exact ⟨r, by omega, hr, rfl, HN.out⟩
              case measure => simp [intOf]; omega
            · have r10' : ¬ ((s[r]'hrl).toNat : Int) = 10 := by omega
              have HQ2 : Hid ((r + 1) + comLen (s.data.toList.drop (r + 1)) = E) := by show _ = _; have := HQ.out; rw [com_step hrl r10] at this; omega
              clear HQ HE h35 h35' h10
              go_wp2_with fail
              go_round
              case rel => exact ⟨r + 1, by omega, by omega, by go_num, HQ2.out⟩
              case measure => simp [intOf]; omega
          · have hrl' : ¬ (r : Int) < (s.size : Int) := by omega
            have hrE : r = E := by have := HQ.out; rw [com_end hrl] at this; omega
            subst hrE
            clear HQ HE h35 h35' h10
            go_wp2_with fail
            go_round
            case rel => exact ⟨r, by omega, hr, rfl, HN.out⟩
            case measure => simp [intOf]; omega
      · have h35' : ¬ ((s[q]'hlt).toNat : Int) = 35 := by omega
        cases hbl : blankU (s[q]'hlt) with
        | true =>
          have HN : Hid (toks (s.data.toList.drop (q + 1)) (q + 1) = T) := by show _ = _; rw [← HF.out, HD.out, toks_blank _ _ hbl]
          clear HF
          have hb' : ((s[q]'hlt).toNat : Int) = 9 ∨ ((s[q]'hlt).toNat : Int) = 10 ∨ ((s[q]'hlt).toNat : Int) = 13 ∨ ((s[q]'hlt).toNat : Int) = 32 := by
            unfold blankU at hbl
            rw [decide_eq_true_eq] at hbl
            omega
          clear hbl HD
          rcases hb' with hb' | hb' | hb' | hb'
          all_goals
            go_wp2_with fail
            go_round
            case rel => exact ⟨q + 1, by omega, by omega, by go_num, HN.out⟩
            case measure => simp [intOf]; omega
        | false =>
          have hb' : (((s[q]'hlt).toNat : Int) == 9) = false ∧ (((s[q]'hlt).toNat : Int) == 10) = false ∧ (((s[q]'hlt).toNat : Int) == 13) = false ∧ (((s[q]'hlt).toNat : Int) == 32) = false := by
            have hbl' := hbl
            unfold blankU at hbl'
            rw [decide_eq_false_iff_not] at hbl'
            refine ⟨?_, ?_, ?_, ?_⟩ <;> rw [beq_eq_false_iff_ne] <;> omega
          have HX : Hid (NextIs s p q) := ⟨hpq, hq, by rw [HT.out, HF.out], fun _ => ⟨hbl, h35⟩⟩
          clear HF hbl HD
          obtain ⟨n9, n10, n13, n32⟩ := hb'
          go_wp2_with fail
          try rw [Exit.noGoto_ret]
          go_ret
          exact ⟨⟨q, rfl, HX.out⟩, rfl⟩
    · have hlt' : ¬ (q : Int) < (s.size : Int) := by omega
      have HX : Hid (NextIs s p q) := ⟨hpq, hq, by rw [HT.out, HF.out], fun h => absurd h hlt⟩
      clear HF
      go_wp2_with fail
      go_ret
      exact ⟨⟨q, rfl, HX.out⟩, rfl⟩
theorem word_results {fn : Func} (hr : fn.results = #[.cell 4 37, .tmp 5]) {W : World} {tmps : Array Value} {b : Nat} {x0 x1 x2 x3 er : Value} (h4 : tmps.getD 4 undef = .pointer (some ⟨b, 0, none⟩)) (h5 : tmps.getD 5 undef = er)
    (c0 : W.cell? ⟨b, 0, none⟩ = some x0) (c1 : W.cell? ⟨b, 1, none⟩ = some x1) (c2 : W.cell? ⟨b, 2, none⟩ = some x2) (c3 : W.cell? ⟨b, 3, none⟩ = some x3) :
    (results fn tmps).run Tryd.prog W = .ok (.tuple #[.agg #[x0, x1, x2, x3], er]) W := by
  have hl : (loadVar 37 ⟨b, 0, none⟩).run Tryd.prog W = .ok (.agg #[x0, x1, x2, x3]) W := by
    refine run_loadVar_mid W b 0 37 [x0, x1, x2, x3] _ (fun j v hj => ?_) Tryd.underlying37 rfl (by kernel_rfl)
    match j, hj with
    | 0, hj => simp at hj; subst hj; exact c0
    | 1, hj => simp at hj; subst hj; exact c1
    | 2, hj => simp at hj; subst hj; exact c2
    | 3, hj => simp at hj; subst hj; exact c3
  have e0 : results fn tmps = (do
      let x ← asAddr (tmps.getD 4 undef)
      let x ← loadVar 37 x
      pure (.tuple #[x, tmps.getD 5 undef])) := by
    simp [results, hr]
  rw [e0, h4, h5]
  simp [asAddr, hl, Result.andThen]
theorem word_done {fn : Func} (hr : fn.results = #[.cell 4 37, .tmp 5]) {w W : World} {tmps : Array Value} {b : Nat} {x0 x1 x2 x3 er v : Value}
    (h4 : tmps.getD 4 undef = .pointer (some ⟨b, 0, none⟩)) (h5 : tmps.getD 5 undef = er) (hb : Below w.heap.size w W) (hv : v = .tuple #[.agg #[x0, x1, x2, x3], er])
    (c0 : W.cell? ⟨b, 0, none⟩ = some x0) (c1 : W.cell? ⟨b, 1, none⟩ = some x1) (c2 : W.cell? ⟨b, 2, none⟩ = some x2) (c3 : W.cell? ⟨b, 3, none⟩ = some x3) :
    bodyPost Tryd.prog fn (fun e w' => e = .returned v ∧ Below w.heap.size w w') .ret { tmps := tmps, defers := [] } W :=
  bodyPost_ret (word_results hr h4 h5 c0 c1 c2 c3) rfl ⟨by rw [hv], hb⟩
def wordV (at_ : Nat) : Fst → Value
  | .bad e => .tuple #[noTk, .int .i64 e]
  | .tok t n => .tuple #[tkV { t with a := at_ }, .int .i64 0]
set_option maxHeartbeats 1600000 in
theorem rword_any (s : ByteArray) (p : Nat) (w : World) (hs : s.size ≤ maxLen) (h0 : 0 < s.size) (hc : letU (s[0]'h0) = true) (hr : runLen s.data.toList = s.size) : Calls Tryd.prog 17 #[.string s, .int .i64 p] w fun e w' => e = .returned (wordV p (wordT s.data.toList)) ∧ Below w.heap.size w w' := by
  unfold maxLen at hs
  have h0' : (0 : Int) < (s.size : Int) := by omega
  obtain ⟨v, HVV⟩ : ∃ v, Hid (wordV p (wordT s.data.toList) = v) := ⟨_, rfl⟩
  rw [HVV.out]
  by_cases h1 : 120 < s.size
  · have h1' : (120 : Int) < (s.size : Int) := by omega
    have HV : Hid (v = .tuple #[noTk, .int .i64 30]) := by show _ = _; rw [← HVV.out]; unfold wordT; rw [len_toList, if_pos h1]; rfl
    clear HVV hr
    go_enter Tryd.func17, Tryd.ntmps17
    go_wp2
    refine word_done Tryd.results17 rfl rfl ?_ HV.out ?_ ?_ ?_ ?_
    · exact (Below.refl _ _).alloc (Nat.le_refl _) _
    all_goals go_simp
  · have h1' : ¬ (120 : Int) < (s.size : Int) := by omega
    have hx := list_at s h0
    have hw := wordT_is (c := s[0]'h0) (r := s.data.toList.drop 1) hc (by rw [← hx, hr, len_toList]) (by rw [← hx, len_toList]; omega)
    rw [← hx] at hw
    have HV : Hid (v = .tuple #[.agg #[.int .i8 (if capU (s[0]'h0) then 2 else if kwU s.data.toList then 6 else 1), .string s, .int .i64 0, .int .i64 p], .int .i64 0]) := by
      show _ = _; rw [← HVV.out, hw]; show Value.tuple #[.agg #[_, .string ⟨s.data.toList.toArray⟩, _, _], _] = _; simp
    clear HVV hr hw hx
    have hci : capI ((s[0]'h0).toNat : Int) = capU (s[0]'h0) := capI_u _
    have HK : Hid (∀ w, Calls Tryd.prog 35 #[.string s] w fun e w' => e = .returned (.bool (kwU s.data.toList)) ∧ w' = w) := rKeyword_any s
    have HC : Hid (∀ w, Calls Tryd.prog 16 #[.int .u8 ((s[0]'h0).toNat : Int)] w fun e w' => e = .returned (.bool (capU (s[0]'h0))) ∧ w' = w) := fun w => by rw [← hci]; exact rcapital_any _ w
    clear hci
    cases k1 : kwU s.data.toList <;> cases k2 : capU (s[0]'h0)
    all_goals
      rw [k1] at HK HV
      rw [k2] at HC HV
      go_enter Tryd.func17, Tryd.ntmps17
      go_wp2_with (first
        | (go_at_call 35; refine (HK.out _).mono ?_; rintro e w' ⟨rfl, rfl⟩)
        | (go_at_call 16; refine (HC.out _).mono ?_; rintro e w' ⟨rfl, rfl⟩))
      try rw [Exit.noGoto_ret]
      refine word_done Tryd.results17 rfl rfl ?_ HV.out ?_ ?_ ?_ ?_
      · exact ((Below.refl _ _).alloc (Nat.le_refl _) _).alloc (by simp) _
      all_goals go_simp
theorem head_num {s : ByteArray} (h0 : 0 < s.size) : (s.data.toList.head? = some 48) ↔ ((s[0]'h0).toNat : Int) = 48 := number_facts h0
def numP (l : List UInt8) (v : Value) : Prop := (numT l = .bad 32 ∧ ∃ x : Int, v = .tuple #[.int .i64 x, .bool false]) ∨ (∃ x : Int, numT l = .tok ⟨4, [], x, 0⟩ l.length ∧ v = .tuple #[.int .i64 x, .bool true])
theorem take_snoc (s : ByteArray) {k : Nat} (h : k < s.size) : s.data.toList.take (k + 1) = s.data.toList.take k ++ [s[k]] := by
  rw [List.take_add_one, List.getElem?_eq_getElem (by rw [len_toList]; exact h)]
  rfl
theorem allD_no : ∀ {l : List UInt8} {k : Nat}, allD (l.take k) = false → allD l = false
  | [], k, h => by simpa using h
  | c :: r, 0, h => by simp [allD] at h
  | c :: r, k + 1, h => by
    simp only [List.take_succ_cons, allD, Bool.and_eq_false_iff] at h ⊢
    rcases h with h | h
    · exact .inl h
    · exact .inr (allD_no h)
set_option maxHeartbeats 1600000 in
theorem rnumber_any (s : ByteArray) (w : World) (hs : s.size ≤ maxLen) : Calls Tryd.prog 19 #[.string s] w fun e w' => (∃ v, e = .returned v ∧ numP s.data.toList v) ∧ w' = w := by
  unfold maxLen at hs
  by_cases h0 : s.size = 0
  · have h0' : s.toList.isEmpty = true := by rw [ByteArray.toList_eq, nil_iff.2 h0]; rfl
    have HB : Hid (numT s.data.toList = .bad 32) := by show _ = _; rw [nil_iff.2 h0]; exact numT_nil
    go_enter Tryd.func19, Tryd.ntmps19
    go_wp2
    go_ret2
    exact ⟨⟨_, rfl, .inl ⟨HB.out, _, rfl⟩⟩, rfl⟩
  · have hp : 0 < s.size := by omega
    have hp' : (0 : Int) < (s.size : Int) := by omega
    have h0' : s.toList.isEmpty = false := by
      rw [ByteArray.toList_eq]
      have := nil_iff (s := s)
      cases h : s.data.toList with
      | nil => exact absurd (this.1 h) h0
      | cons c r => rfl
    by_cases h19 : 19 < s.size
    · have h19' : (19 : Int) < (s.size : Int) := by omega
      have HB : Hid (numT s.data.toList = .bad 32) := numT_long (by rw [len_toList]; exact h19)
      go_enter Tryd.func19, Tryd.ntmps19
      go_wp2
      go_ret2
      exact ⟨⟨_, rfl, .inl ⟨HB.out, _, rfl⟩⟩, rfl⟩
    · have h19' : ¬ (19 : Int) < (s.size : Int) := by omega
      have hh := head_num hp
      by_cases hz : ((s[0]'hp).toNat : Int) = 48 ∧ 1 < s.size
      · obtain ⟨hz1, hz2⟩ := hz
        have hz2' : (1 : Int) < (s.size : Int) := by omega
        have HB : Hid (numT s.data.toList = .bad 32) := numT_zero (hh.2 hz1) (by rw [len_toList]; exact hz2)
        clear hh
        go_enter Tryd.func19, Tryd.ntmps19
        go_wp2
        go_ret2
        exact ⟨⟨_, rfl, .inl ⟨HB.out, _, rfl⟩⟩, rfl⟩
      · have HI : Hid (allD s.data.toList = true → numT s.data.toList = if 9223372036854775808 < decW 0 s.data.toList then .bad 32 else .tok ⟨4, [], asI64 (decW 0 s.data.toList), 0⟩ s.data.toList.length) := fun ha => numT_is (fun e => h0 (nil_iff.1 e)) (by rw [len_toList]; omega) (fun h => hz ⟨hh.1 h.1, by have := h.2; rw [len_toList] at this; exact this⟩) ha
        have hcond : ((s[0]'hp).toNat : Int) = 48 → ¬ (1 : Int) < (s.size : Int) := fun h h2 => hz ⟨h, by omega⟩
        clear hh hz
        have HLOOP : Hid (∀ b0 : Bool, True) := fun _ => trivial
        clear HLOOP
        by_cases hz1 : ((s[0]'hp).toNat : Int) = 48
        all_goals
          first | have hz2 := hcond hz1 | skip
          clear hcond
          go_enter Tryd.func19, Tryd.ntmps19
          go_wp2
          go_loop [4, 5] (fun n i => ∃ k m : Nat, k ≤ s.size ∧ i = .int .i64 k ∧ n = .int .u64 m ∧ Hid (allD (s.data.toList.take k) = true) ∧ Hid (m = decW 0 (s.data.toList.take k))) (fun _ i => s.size - (intOf i).toNat)
          case atStart => exact ⟨0, 0, by omega, rfl, rfl, rfl, by show _ = _; rw [List.take_zero, decW_nil]⟩
          case round =>
            obtain ⟨k, m, hk, rfl, rfl, HA, HM⟩ := hrel
            have hm : m < 10000000000000000000 := by
              have := decW_small HA.out (by rw [List.length_take, len_toList]; omega)
              have := HM.out
              omega
            by_cases hlt : k < s.size
            · have hlt' : (k : Int) < (s.size : Int) := by omega
              have HT : Hid _ := take_snoc s hlt
              have hdd : digI ((s[k]'hlt).toNat : Int) = digU (s[k]'hlt) := digI_u _
              cases hd : digU (s[k]'hlt) with
              | false =>
                have HB : Hid (numT s.data.toList = .bad 32) := numT_dig (allD_no (k := k + 1) (by rw [HT.out, allD_snoc, hd]; simp))
                rw [hd] at hdd
                clear HT HA HM HI hd
                go_wp2_with (go_at_call 18; refine (rdigit_any _ _).mono ?_; rw [hdd]; rintro e w' ⟨rfl, rfl⟩)
                go_ret2
                exact ⟨⟨_, rfl, .inl ⟨HB.out, _, rfl⟩⟩, rfl⟩
              | true =>
                have HA2 : Hid (allD (s.data.toList.take (k + 1)) = true) := by show _ = _; rw [HT.out, allD_snoc, HA.out, hd]; rfl
                have HM2 : Hid (m * 10 + ((s[k]'hlt).toNat - 48) = decW 0 (s.data.toList.take (k + 1))) := by show _ = _; rw [HT.out, decW_snoc, ← HM.out]
                have hm2 : m * 10 + ((s[k]'hlt).toNat - 48) < 10000000000000000000 := by
                  have := decW_small HA2.out (by rw [List.length_take, len_toList]; omega)
                  rw [HM2.out]; omega
                rw [hd] at hdd
                have hd2 : 48 ≤ (s[k]'hlt).toNat ∧ (s[k]'hlt).toNat ≤ 57 := by unfold digU at hd; simpa using hd
                obtain ⟨hd3, hd4⟩ := hd2
                have hd5 : (48 : Int) ≤ ((s[k]'hlt).toNat : Int) := by omega
                have hd6 : ((s[k]'hlt).toNat : Int) ≤ 57 := by omega
                clear HT HA HM HI hd
                go_wp2_with (go_at_call 18; refine (rdigit_any _ _).mono ?_; rw [hdd]; rintro e w' ⟨rfl, rfl⟩)
                go_round
                case rel => exact ⟨k + 1, m * 10 + ((s[k]'hlt).toNat - 48), by omega, by go_num, by go_num, HA2.out, HM2.out⟩
                case measure => simp [intOf]; omega
            · have hlt' : ¬ (k : Int) < (s.size : Int) := by omega
              have hall : s.data.toList.take k = s.data.toList := List.take_of_length_le (by rw [len_toList]; omega)
              have hI := HI.out (by rw [← hall]; exact HA.out)
              have hM := HM.out
              rw [hall] at hM
              rw [← hM, asI64_wrap (by omega)] at hI
              have HJ : Hid _ := hI
              clear hI hM HA HM HI hall
              by_cases hb : 9223372036854775808 < m
              · have hb' : ¬ (m : Int) ≤ 9223372036854775808 := by omega
                go_wp2
                go_ret2
                exact ⟨⟨_, rfl, .inl ⟨by rw [HJ.out, if_pos hb], _, rfl⟩⟩, rfl⟩
              · have hb' : (m : Int) ≤ 9223372036854775808 := by omega
                go_wp2
                go_ret2
                exact ⟨⟨_, rfl, .inr ⟨_, by rw [HJ.out, if_neg hb], rfl⟩⟩, rfl⟩
end Go.Proofs.YthkbcgedjecnlaaDoor
