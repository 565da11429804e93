import Derived.Test.YthkbcgedjecnlaaDoorLtM
namespace Go.Proofs.YthkbcgedjecnlaaDoor
open Go.RowKit Go.Maps
set_option linter.unusedVariables false
set_option linter.unusedSimpArgs false
attribute [local go_sem ↓] Go.wp_at_zero Go.wp_at_succ

set_option maxHeartbeats 1600000 in
theorem rhex_any (c : UInt8) (w : World) : Calls Tryd.prog 48 #[.int .u8 (c.toNat : Int)] w fun e w' => e = .returned (.int .i64 (hexU c)) ∧ w' = w := by
  have hx := hex_at c
  have hdd : digI (c.toNat : Int) = digU c := digI_u _
  have h8 := c.toNat_lt
  have HD : Hid (∀ w, Calls Tryd.prog 18 #[.int .u8 (c.toNat : Int)] w fun e w' => e = .returned (.bool (digU c)) ∧ w' = w) := fun w => by rw [← hdd]; exact rdigit_any _ w
  clear hdd
  cases hd : digU c with
  | true =>
    rw [hd] at hx HD
    rw [if_pos rfl] at hx
    have hd2 : 48 ≤ c.toNat ∧ c.toNat ≤ 57 := by unfold digU at hd; simpa using hd
    obtain ⟨hd3, hd4⟩ := hd2
    have hd5 : (48 : Int) ≤ (c.toNat : Int) := by omega
    have hd6 : (c.toNat : Int) ≤ 57 := by omega
    rw [hx]
    clear hx hd
    go_enter Tryd.func48, Tryd.ntmps48
    go_wp2_with (go_at_call 18; refine (HD.out _).mono ?_; rintro e w' ⟨rfl, rfl⟩)
    go_ret
    exact ⟨rfl, rfl⟩
  | false =>
    rw [hd] at hx HD
    rw [if_neg (by decide)] at hx
    by_cases h97 : 97 ≤ c.toNat
    · have h97' : (97 : Int) ≤ (c.toNat : Int) := by omega
      by_cases h102 : c.toNat ≤ 102
      · have h102' : (c.toNat : Int) ≤ 102 := by omega
        rw [if_pos ⟨h97, h102⟩] at hx
        rw [hx]
        clear hx hd
        go_enter Tryd.func48, Tryd.ntmps48
        go_wp2_with (go_at_call 18; refine (HD.out _).mono ?_; rintro e w' ⟨rfl, rfl⟩)
        go_ret
        exact ⟨rfl, rfl⟩
      · have h102' : ¬ (c.toNat : Int) ≤ 102 := by omega
        rw [if_neg (fun h => h102 h.2)] at hx
        rw [hx]
        clear hx hd
        go_enter Tryd.func48, Tryd.ntmps48
        go_wp2_with (go_at_call 18; refine (HD.out _).mono ?_; rintro e w' ⟨rfl, rfl⟩)
        go_ret
        exact ⟨rfl, rfl⟩
    · have h97' : ¬ (97 : Int) ≤ (c.toNat : Int) := by omega
      rw [if_neg (fun h => h97 h.1)] at hx
      rw [hx]
      clear hx hd
      go_enter Tryd.func48, Tryd.ntmps48
      go_wp2_with (go_at_call 18; refine (HD.out _).mono ?_; rintro e w' ⟨rfl, rfl⟩)
      go_ret
      exact ⟨rfl, rfl⟩
theorem pieceU_drop {s : ByteArray} {p : Nat} (h0 : p < s.size) : pieceU (s.data.toList.drop p) =
    if (s[p]'h0).toNat < 32 ∨ 126 < (s[p]'h0).toNat then none else if (s[p]'h0).toNat ≠ 92 then some (s[p]'h0, 1)
    else if h1 : p + 1 < s.size then (if (s[p + 1]'h1).toNat = 110 then some (10, 2) else if (s[p + 1]'h1).toNat = 34 ∨ (s[p + 1]'h1).toNat = 92 then some (s[p + 1]'h1, 2) else if (s[p + 1]'h1).toNat = 120 then hexPc (s.data.toList.drop p) else none) else none := by
  by_cases h1 : p + 1 < s.size
  · have d1 := drop_at s (k := p + 1) h1
    rw [dif_pos h1, drop_at s h0, d1]
    rfl
  · rw [dif_neg h1, drop_at s h0, drop_end s h1]
    rfl
theorem hexPc_dropS {s : ByteArray} {p : Nat} (h : ¬ p + 3 < s.size) : hexPc (s.data.toList.drop p) = none := by
  have h2 : (s.data.toList.drop p).length < 4 := by rw [List.length_drop, len_toList]; omega
  unfold hexPc
  split
  · next a b c d r e => rw [e] at h2; simp at h2; omega
  · rfl
theorem hexPc_dropL {s : ByteArray} {p : Nat} (h2 : p + 2 < s.size) (h3 : p + 3 < s.size) : hexPc (s.data.toList.drop p) = if hexU s[p + 2] < 0 ∨ hexU s[p + 3] < 0 then none else some (UInt8.ofNat (16 * (hexU s[p + 2]).toNat + (hexU s[p + 3]).toNat), 4) := by
  have d1 := drop_at s (k := p + 1) (by omega)
  have d2 := drop_at s (k := p + 2) h2
  have d3 := drop_at s (k := p + 3) h3
  rw [drop_at s (k := p) (by omega), d1, d2, d3]
  rfl
theorem add_hex {a b : Int} (ha : 0 ≤ a) (ha' : a ≤ 15) (hb : 0 ≤ b) (hb' : b ≤ 15) : ((UInt8.ofNat (16 * a.toNat + b.toNat)).toNat : Int) = 16 * a + b := by
  have : (UInt8.ofNat (16 * a.toNat + b.toNat)).toNat = 16 * a.toNat + b.toNat := by
    rw [UInt8.toNat_ofNat']
    omega
  rw [this]
  omega
set_option maxHeartbeats 3200000 in
set_option maxRecDepth 100000 in
theorem rpiece_any (s : ByteArray) (p : Nat) (w : World) (hs : s.size ≤ 65536) (h0 : p < s.size) (h34 : (s[p]'h0).toNat ≠ 34) : Calls Tryd.prog 36 #[.string s, .int .i64 p] w fun e w' => e = .returned (pcV (pieceU (s.data.toList.drop p))) ∧ Below w.heap.size w w' := by
  have h0' : (p : Int) < (s.size : Int) := by omega
  have h34' : (((s[p]'h0).toNat : Int) != 34) = true := by rw [bne_iff_ne]; omega
  obtain ⟨v, HVV⟩ : ∃ v, Hid (pcV (pieceU (s.data.toList.drop p)) = v) := ⟨_, rfl⟩
  rw [HVV.out]
  have HU : Hid _ := pieceU_drop h0
  by_cases a3 : (s[p]'h0).toNat = 92
  · have a3' : (((s[p]'h0).toNat : Int) != 92) = false := by rw [bne_eq_false_iff_eq]; omega
    have a3n : ((s[p]'h0).toNat : Int) = 92 := by omega
    have HU3 : Hid _ := (HU.out.trans (if_neg (fun h => by omega))).trans (if_neg (fun h => h a3))
    clear HU
    by_cases h1 : p + 1 < s.size
    · have h1' : ¬ (s.size : Int) ≤ (p : Int) + 1 := by omega
      have h1'' : (p : Int) + 1 < (s.size : Int) := by omega
      have HU4 : Hid _ := HU3.out.trans (dif_pos h1)
      clear HU3
      by_cases b1 : (s[p + 1]'h1).toNat = 110
      · have b1' : ((s[p + 1]'h1).toNat : Int) = 110 := by omega
        have HV : Hid (v = .tuple #[.int .u8 10, .int .i64 2]) := by show _ = _; rw [← HVV.out, HU4.out, if_pos b1]; rfl
        clear HU4 HVV
        go_enter Tryd.func36, Tryd.ntmps36
        go_wp2
        go_ret2
        exact ⟨by rw [HV.out]; rfl, Below.refl _ _⟩
      · have b1' : ¬ ((s[p + 1]'h1).toNat : Int) = 110 := by omega
        by_cases b2 : (s[p + 1]'h1).toNat = 34
        · have b2' : ((s[p + 1]'h1).toNat : Int) = 34 := by omega
          have HV : Hid (v = .tuple #[.int .u8 34, .int .i64 2]) := by show _ = _; rw [← HVV.out, HU4.out, if_neg b1, if_pos (.inl b2)]; show Value.tuple #[.int .u8 ((s[p + 1]'h1).toNat : Int), _] = _; rw [b2]; rfl
          clear HU4 HVV
          go_enter Tryd.func36, Tryd.ntmps36
          go_wp2
          go_ret2
          exact ⟨by rw [HV.out]; rfl, Below.refl _ _⟩
        · have b2' : ¬ ((s[p + 1]'h1).toNat : Int) = 34 := by omega
          by_cases b3 : (s[p + 1]'h1).toNat = 92
          · have b3' : ((s[p + 1]'h1).toNat : Int) = 92 := by omega
            have HV : Hid (v = .tuple #[.int .u8 92, .int .i64 2]) := by show _ = _; rw [← HVV.out, HU4.out, if_neg b1, if_pos (.inr b3)]; show Value.tuple #[.int .u8 ((s[p + 1]'h1).toNat : Int), _] = _; rw [b3]; rfl
            clear HU4 HVV
            go_enter Tryd.func36, Tryd.ntmps36
            go_wp2
            go_ret2
            exact ⟨by rw [HV.out]; rfl, Below.refl _ _⟩
          · have b3' : ¬ ((s[p + 1]'h1).toNat : Int) = 92 := by omega
            by_cases b4 : (s[p + 1]'h1).toNat = 120
            · have b4' : ((s[p + 1]'h1).toNat : Int) = 120 := by omega
              have HV : Hid (pcV (hexPc (s.data.toList.drop p)) = v) := by show _ = _; rw [← HVV.out, HU4.out, if_neg b1, if_neg (fun h => h.elim b2 b3), if_pos b4]
              clear HU4 HVV
              by_cases h3 : p + 3 < s.size
              · have h2 : p + 2 < s.size := by omega
                have h3' : (p : Int) + 3 < (s.size : Int) := by omega
                have h2' : (p : Int) + 2 < (s.size : Int) := by omega
                have ra := hexU_range (s[p + 2]'h2)
                have rb := hexU_range (s[p + 3]'h3)
                have HW : Hid (v = pcV (if hexU (s[p + 2]'h2) < 0 ∨ hexU (s[p + 3]'h3) < 0 then none else some (UInt8.ofNat (16 * (hexU (s[p + 2]'h2)).toNat + (hexU (s[p + 3]'h3)).toNat), 4))) := by show _ = _; rw [← HV.out, hexPc_dropL h2 h3]
                clear HV
                obtain ⟨ra1, ra2⟩ := ra
                obtain ⟨rb1, rb2⟩ := rb
                have hxx : ∀ c w, Calls Tryd.prog 48 #[.int .u8 ((c : UInt8).toNat : Int)] w fun e w' => e = .returned (.int .i64 (hexU c)) ∧ w' = w := rhex_any
                have HXX : Hid _ := hxx
                clear hxx
                by_cases ha : 0 ≤ hexU (s[p + 2]'h2)
                · by_cases hb : 0 ≤ hexU (s[p + 3]'h3)
                  · have HX : Hid (v = .tuple #[.int .u8 (16 * hexU (s[p + 2]'h2) + hexU (s[p + 3]'h3)), .int .i64 4]) := by
                      show _ = _
                      rw [HW.out, if_neg (by omega)]
                      show Value.tuple #[.int .u8 ((UInt8.ofNat (16 * (hexU (s[p + 2]'h2)).toNat + (hexU (s[p + 3]'h3)).toNat)).toNat : Int), .int .i64 4] = _
                      rw [add_hex ha ra2 hb rb2]
                    clear HW
                    go_enter Tryd.func36, Tryd.ntmps36
                    go_wp2_with (go_at_call 48; refine (HXX.out _ _).mono ?_; rintro e w' ⟨rfl, rfl⟩)
                    have n2 : (0 : Int) ≤ (p : Int) + 2 := by omega
                    have n3 : (0 : Int) ≤ (p : Int) + 3 := by omega
                    have t2 : ((p : Int) + 2).toNat = p + 2 := by omega
                    have t3 : ((p : Int) + 3).toNat = p + 3 := by omega
                    have u2 : IntKind.i64.wrap ((p : Int) + 2) = (p : Int) + 2 := by rw [IntKind.wrap_i64]; omega
                    have u3 : IntKind.i64.wrap ((p : Int) + 3) = (p : Int) + 3 := by rw [IntKind.wrap_i64]; omega
                    have u4 : IntKind.i64.wrap (16 * hexU (s[p + 2]'h2)) = 16 * hexU (s[p + 2]'h2) := by rw [IntKind.wrap_i64]; omega
                    have u5 : IntKind.i64.wrap (16 * hexU (s[p + 2]'h2) + hexU (s[p + 3]'h3)) = 16 * hexU (s[p + 2]'h2) + hexU (s[p + 3]'h3) := by rw [IntKind.wrap_i64]; omega
                    have u6 : IntKind.u8.wrap (16 * hexU (s[p + 2]'h2) + hexU (s[p + 3]'h3)) = 16 * hexU (s[p + 2]'h2) + hexU (s[p + 3]'h3) := by rw [IntKind.wrap_u8]; omega
                    have u7 : (16 * hexU (s[p + 2]'h2) + hexU (s[p + 3]'h3)) % 256 = 16 * hexU (s[p + 2]'h2) + hexU (s[p + 3]'h3) := by omega
                    go_region_with (go_at_call 48; refine (HXX.out _ _).mono ?_; rintro e w' ⟨rfl, rfl⟩)
                    all_goals
                      go_wp2
                      go_ret2
                      exact ⟨by rw [HX.out]; rfl, (Below.refl _ _).drew⟩
                  · have HX : Hid (v = .tuple #[.int .u8 0, .int .i64 0]) := by show _ = _; rw [HW.out, if_pos (by omega)]; rfl
                    clear HW
                    go_enter Tryd.func36, Tryd.ntmps36
                    go_wp2_with (go_at_call 48; refine (HXX.out _ _).mono ?_; rintro e w' ⟨rfl, rfl⟩)
                    go_ret2
                    exact ⟨by rw [HX.out]; rfl, Below.refl _ _⟩
                · have HX : Hid (v = .tuple #[.int .u8 0, .int .i64 0]) := by show _ = _; rw [HW.out, if_pos (by omega)]; rfl
                  clear HW
                  go_enter Tryd.func36, Tryd.ntmps36
                  go_wp2_with (go_at_call 48; refine (HXX.out _ _).mono ?_; rintro e w' ⟨rfl, rfl⟩)
                  go_ret2
                  exact ⟨by rw [HX.out]; rfl, Below.refl _ _⟩
              · have h3' : ¬ (p : Int) + 3 < (s.size : Int) := by omega
                have HX : Hid (v = .tuple #[.int .u8 0, .int .i64 0]) := by show _ = _; rw [← HV.out, hexPc_dropS h3]; rfl
                clear HV
                go_enter Tryd.func36, Tryd.ntmps36
                go_wp2
                go_ret2
                exact ⟨by rw [HX.out]; rfl, Below.refl _ _⟩
            · have b4' : ¬ ((s[p + 1]'h1).toNat : Int) = 120 := by omega
              have HV : Hid (v = .tuple #[.int .u8 0, .int .i64 0]) := by show _ = _; rw [← HVV.out, HU4.out, if_neg b1, if_neg (fun h => h.elim b2 b3), if_neg b4]; rfl
              clear HU4 HVV
              go_enter Tryd.func36, Tryd.ntmps36
              go_wp2
              go_ret2
              exact ⟨by rw [HV.out]; rfl, Below.refl _ _⟩
    · have h1' : (s.size : Int) ≤ (p : Int) + 1 := by omega
      have HV : Hid (v = .tuple #[.int .u8 0, .int .i64 0]) := by show _ = _; rw [← HVV.out, HU3.out, dif_neg h1]; rfl
      clear HU3 HVV
      go_enter Tryd.func36, Tryd.ntmps36
      go_wp2
      go_ret2
      exact ⟨by rw [HV.out]; rfl, Below.refl _ _⟩
  · have a3' : (((s[p]'h0).toNat : Int) != 92) = true := by rw [bne_iff_ne]; omega
    by_cases a1 : 32 ≤ (s[p]'h0).toNat
    · have a1' : (32 : Int) ≤ ((s[p]'h0).toNat : Int) := by omega
      by_cases a2 : (s[p]'h0).toNat ≤ 126
      · have a2' : ((s[p]'h0).toNat : Int) ≤ 126 := by omega
        have HV : Hid (v = .tuple #[.int .u8 ((s[p]'h0).toNat : Int), .int .i64 1]) := by show _ = _; rw [← HVV.out, HU.out, if_neg (by omega), if_pos a3]; rfl
        clear HU HVV
        go_enter Tryd.func36, Tryd.ntmps36
        go_wp2
        go_ret2
        exact ⟨by rw [HV.out]; rfl, Below.refl _ _⟩
      · have a2' : ¬ ((s[p]'h0).toNat : Int) ≤ 126 := by omega
        have HV : Hid (v = .tuple #[.int .u8 0, .int .i64 0]) := by show _ = _; rw [← HVV.out, HU.out, if_pos (by omega)]; rfl
        clear HU HVV
        go_enter Tryd.func36, Tryd.ntmps36
        go_wp2
        go_ret2
        exact ⟨by rw [HV.out]; rfl, Below.refl _ _⟩
    · have a1' : ¬ (32 : Int) ≤ ((s[p]'h0).toNat : Int) := by omega
      have HV : Hid (v = .tuple #[.int .u8 0, .int .i64 0]) := by show _ = _; rw [← HVV.out, HU.out, if_pos (by omega)]; rfl
      clear HU HVV
      go_enter Tryd.func36, Tryd.ntmps36
      go_wp2
      go_ret2
      exact ⟨by rw [HV.out]; rfl, Below.refl _ _⟩
end Go.Proofs.YthkbcgedjecnlaaDoor
