import Derived.Test.YthkbcgedjecnlaaDoorLexNum
namespace Go.Proofs.YthkbcgedjecnlaaDoor
open Go.RowKit
set_option linter.unusedVariables false
set_option linter.unusedSimpArgs false
attribute [local go_sem ↓] Go.wp_at_zero Go.wp_at_succ

def pcV : Option (UInt8 × Nat) → Value
  | none => .tuple #[.int .u8 0, .int .i64 0]
  | some (b, k) => .tuple #[.int .u8 (b.toNat : Int), .int .i64 k]
def hexS : ByteArray := ⟨#[48, 49, 50, 51, 52, 53, 54, 55, 56, 57, 97, 98, 99, 100, 101, 102]⟩
theorem hexU_range (c : UInt8) : -1 ≤ hexU c ∧ hexU c ≤ 15 := by
  have h : ∀ n : Fin 256, -1 ≤ hexU (UInt8.ofNat n.val) ∧ hexU (UInt8.ofNat n.val) ≤ 15 := by decide +kernel
  have := h ⟨c.toNat, c.toNat_lt⟩
  simpa using this
theorem hexS_at (c : UInt8) : Lib.indexByte hexS.data.toList ((c.toNat : Int).toNat.toUInt8) = hexU c := by
  have : (c.toNat : Int).toNat.toUInt8 = c := by simp
  rw [this]; rfl
theorem hexPc_short {s : ByteArray} (h : s.size < 4) : hexPc s.data.toList = none := by
  rw [← len_toList] at h
  unfold hexPc
  split
  · next a b c d r e => rw [e] at h; simp at h; omega
  · rfl
theorem hexPc_long {s : ByteArray} (h2 : 2 < s.size) (h3 : 3 < s.size) : hexPc s.data.toList = if hexU s[2] < 0 ∨ hexU s[3] < 0 then none else some (UInt8.ofNat (16 * (hexU s[2]).toNat + (hexU s[3]).toNat), 4) := by
  have e : s.data.toList = s[0] :: s[1] :: s[2] :: s[3] :: s.data.toList.drop 4 := by
    have d0 := drop_at s (k := 0) (by omega)
    have d1 := drop_at s (k := 1) (by omega)
    have d2 := drop_at s (k := 2) (by omega)
    have d3 := drop_at s (k := 3) (by omega)
    rw [← d3, ← d2, ← d1, ← d0]; rfl
  rw [e]
  rfl

theorem or_hex {a b : Int} (ha : 0 ≤ a) (ha' : a ≤ 15) (hb : 0 ≤ b) (hb' : b ≤ 15) : bits BinOp.or IntKind.i64 (a * 16) b % 256 = ((UInt8.ofNat (16 * a.toNat + b.toNat)).toNat : Int) := by
  have h : ∀ (i j : Fin 16), bits BinOp.or IntKind.i64 ((i.val : Int) * 16) (j.val : Int) % 256 = ((UInt8.ofNat (16 * i.val + j.val)).toNat : Int) := by decide +kernel
  have := h ⟨a.toNat, by omega⟩ ⟨b.toNat, by omega⟩
  simp only [Int.toNat_of_nonneg ha, Int.toNat_of_nonneg hb] at this
  exact this

theorem hexIdx (c : UInt8) (w : World) : Calls Tryd.prog 65 #[.string ⟨#[48, 49, 50, 51, 52, 53, 54, 55, 56, 57, 97, 98, 99, 100, 101, 102]⟩, .int .u8 (c.toNat : Int)] w fun e w' => e = .returned (.int .i64 (hexU c)) ∧ w' = w := by
  have h := Tryd.strings_IndexByte hexS (c.toNat : Int) w
  rw [hexS_at] at h
  exact h
set_option maxRecDepth 100000 in
set_option maxHeartbeats 3200000 in
theorem hexPiece_any (s : ByteArray) (w : World) (hs : s.size ≤ maxLen) : Calls Tryd.prog 52 #[.string s] w fun e w' => e = .returned (pcV (hexPc s.data.toList)) ∧ Below w.heap.size w w' := by
  unfold maxLen at hs
  obtain ⟨v, HVV⟩ : ∃ v, Hid (pcV (hexPc s.data.toList) = v) := ⟨_, rfl⟩
  rw [HVV.out]
  by_cases h4 : s.size < 4
  · have h4' : (s.size : Int) < 4 := by omega
    have HV : Hid (v = .tuple #[.int .u8 0, .int .i64 0]) := by show _ = _; rw [← HVV.out, hexPc_short h4]; rfl
    go_enter Tryd.func52, Tryd.ntmps52
    go_wp2
    go_ret2
    exact ⟨by rw [HV.out]; rfl, Below.refl _ _⟩
  · have h4' : ¬ (s.size : Int) < 4 := by omega
    have h2 : 2 < s.size := by omega
    have h3 : 3 < s.size := by omega
    have h2' : (2 : Int) < (s.size : Int) := by omega
    have h3' : (3 : Int) < (s.size : Int) := by omega
    have ri := hexU_range s[2]
    have rl := hexU_range s[3]
    have HV : Hid (v = pcV (if hexU s[2] < 0 ∨ hexU s[3] < 0 then none else some (UInt8.ofNat (16 * (hexU s[2]).toNat + (hexU s[3]).toNat), 4))) := by show _ = _; rw [← HVV.out, hexPc_long h2 h3]
    go_enter Tryd.func52, Tryd.ntmps52
    go_wp2_with fail
    go_region_with (go_at_call 65; refine (hexIdx _ _).mono ?_; rintro e w' ⟨rfl, rfl⟩)
    all_goals
      generalize hexU s[2] = a at *
      generalize hexU s[3] = b at *
      by_cases ha : a < 0
      · have HV2 : Hid (v = .tuple #[.int .u8 0, .int .i64 0]) := by show _ = _; rw [HV.out, if_pos (.inl ha)]; rfl
        clear HV
        go_wp2
        go_ret2
        exact ⟨by rw [HV2.out]; rfl, (Below.refl _ _).drew⟩
      · by_cases hb : b < 0
        · have HV2 : Hid (v = .tuple #[.int .u8 0, .int .i64 0]) := by show _ = _; rw [HV.out, if_pos (.inr hb)]; rfl
          clear HV
          go_wp2
          go_ret2
          exact ⟨by rw [HV2.out]; rfl, (Below.refl _ _).drew⟩
        · have HV2 : Hid (v = pcV (some (UInt8.ofNat (16 * a.toNat + b.toNat), 4))) := by show _ = _; rw [HV.out, if_neg (fun h => h.elim ha hb)]
          clear HV
          have HH : Hid _ := or_hex (by omega) ri.2 (by omega) rl.2
          go_wp2
          go_ret2
          refine ⟨?_, (Below.refl _ _).drew⟩
          rw [HV2.out]
          show Ending.returned (Value.tuple #[.int .u8 (bits BinOp.or IntKind.i64 (a * 16) b % 256), .int .i64 4]) = _
          rw [HH.out]; rfl

theorem pieceU_at {s : ByteArray} (h0 : 0 < s.size) : pieceU s.data.toList =
    if (s[0]'h0).toNat < 32 ∨ 126 < (s[0]'h0).toNat then none else if (s[0]'h0).toNat ≠ 92 then some (s[0]'h0, 1)
    else if h1 : 1 < s.size then (if (s[1]'h1).toNat = 110 then some (10, 2) else if (s[1]'h1).toNat = 34 ∨ (s[1]'h1).toNat = 92 then some (s[1]'h1, 2) else if (s[1]'h1).toNat = 120 then hexPc s.data.toList else none) else none := by
  by_cases h1 : 1 < s.size
  · have e : s.data.toList = s[0] :: s[1] :: s.data.toList.drop 2 := by
      have d0 := drop_at s (k := 0) h0
      have d1 := drop_at s (k := 1) h1
      rw [← d1, ← d0]; rfl
    rw [dif_pos h1, e]
    rfl
  · have e : s.data.toList = [s[0]] := by
      have d0 := drop_at s (k := 0) h0
      rw [drop_end s h1] at d0
      exact d0
    rw [dif_neg h1, e]
    rfl

set_option maxHeartbeats 3200000 in
theorem piece_any (s : ByteArray) (w : World) (hs : s.size ≤ maxLen) (h0 : 0 < s.size) : Calls Tryd.prog 42 #[.string s] w fun e w' => e = .returned (pcV (pieceU s.data.toList)) ∧ Below w.heap.size w w' := by
  have HM : Hid (s.size ≤ maxLen) := hs
  unfold maxLen at hs
  obtain ⟨v, HVV⟩ : ∃ v, Hid (pcV (pieceU s.data.toList) = v) := ⟨_, rfl⟩
  rw [HVV.out]
  have h0' : (0 : Int) < (s.size : Int) := by omega
  have HU : Hid _ := pieceU_at h0
  by_cases a1 : (s[0]'h0).toNat < 32
  · have a1' : ((s[0]'h0).toNat : Int) < 32 := by omega
    have HV : Hid (v = .tuple #[.int .u8 0, .int .i64 0]) := by show _ = _; rw [← HVV.out, HU.out, if_pos (.inl a1)]; rfl
    go_enter Tryd.func42, Tryd.ntmps42
    go_wp2
    go_ret2
    exact ⟨by rw [HV.out]; rfl, Below.refl _ _⟩
  · have a1' : ¬ ((s[0]'h0).toNat : Int) < 32 := by omega
    by_cases a2 : 126 < (s[0]'h0).toNat
    · have a2' : 126 < ((s[0]'h0).toNat : Int) := by omega
      have HV : Hid (v = .tuple #[.int .u8 0, .int .i64 0]) := by show _ = _; rw [← HVV.out, HU.out, if_pos (.inr a2)]; rfl
      go_enter Tryd.func42, Tryd.ntmps42
      go_wp2
      go_ret2
      exact ⟨by rw [HV.out]; rfl, Below.refl _ _⟩
    · have a2' : ¬ 126 < ((s[0]'h0).toNat : Int) := by omega
      have HU2 : Hid _ := HU.out.trans (if_neg (fun h => h.elim a1 a2))
      by_cases a3 : (s[0]'h0).toNat = 92
      · have a3' : ((s[0]'h0).toNat : Int) = 92 := by omega
        have HU3 : Hid _ := HU2.out.trans (if_neg (fun h => h a3))
        clear HU HU2
        by_cases h1 : 1 < s.size
        · have h1' : ¬ (s.size : Int) < 2 := by omega
          have h1'' : (1 : Int) < (s.size : Int) := by omega
          have HU4 : Hid _ := HU3.out.trans (dif_pos h1)
          clear HU3
          by_cases b1 : (s[1]'h1).toNat = 110
          · have b1' : ((s[1]'h1).toNat : Int) = 110 := by omega
            have HV : Hid (v = .tuple #[.int .u8 10, .int .i64 2]) := by show _ = _; rw [← HVV.out, HU4.out, if_pos b1]; rfl
            go_enter Tryd.func42, Tryd.ntmps42
            go_wp2
            go_ret2
            exact ⟨by rw [HV.out]; rfl, Below.refl _ _⟩
          · have b1' : ¬ ((s[1]'h1).toNat : Int) = 110 := by omega
            by_cases b2 : (s[1]'h1).toNat = 34
            · have b2' : ((s[1]'h1).toNat : Int) = 34 := by omega
              have HV : Hid (v = .tuple #[.int .u8 34, .int .i64 2]) := by show _ = _; rw [← HVV.out, HU4.out, if_neg b1, if_pos (.inl b2)]; show Value.tuple #[.int .u8 ((s[1]'h1).toNat : Int), _] = _; rw [b2]; rfl
              go_enter Tryd.func42, Tryd.ntmps42
              go_wp2
              go_ret2
              exact ⟨by rw [HV.out]; rfl, Below.refl _ _⟩
            · have b2' : ¬ ((s[1]'h1).toNat : Int) = 34 := by omega
              by_cases b3 : (s[1]'h1).toNat = 92
              · have b3' : ((s[1]'h1).toNat : Int) = 92 := by omega
                have HV : Hid (v = .tuple #[.int .u8 92, .int .i64 2]) := by show _ = _; rw [← HVV.out, HU4.out, if_neg b1, if_pos (.inr b3)]; show Value.tuple #[.int .u8 ((s[1]'h1).toNat : Int), _] = _; rw [b3]; rfl
                go_enter Tryd.func42, Tryd.ntmps42
                go_wp2
                go_ret2
                exact ⟨by rw [HV.out]; rfl, Below.refl _ _⟩
              · have b3' : ¬ ((s[1]'h1).toNat : Int) = 92 := by omega
                by_cases b4 : (s[1]'h1).toNat = 120
                · have b4' : ((s[1]'h1).toNat : Int) = 120 := by omega
                  have HV : Hid (pcV (hexPc s.data.toList) = v) := by show _ = _; rw [← HVV.out, HU4.out, if_neg b1, if_neg (fun h => h.elim b2 b3), if_pos b4]
                  go_enter Tryd.func42, Tryd.ntmps42
                  go_wp2_with fail
                  refine (hexPiece_any _ _ HM.out).mono ?_
                  rw [HV.out]
                  rintro e w1 ⟨rfl, hb1⟩
                  obtain ⟨p, q, hpq⟩ : ∃ p q, v = .tuple #[p, q] := by
                    rw [← HV.out]
                    cases hexPc s.data.toList with
                    | none => exact ⟨_, _, rfl⟩
                    | some x => exact ⟨_, _, rfl⟩
                  subst hpq
                  go_wp2
                  go_ret2
                  exact ⟨rfl, hb1⟩
                · have b4' : ¬ ((s[1]'h1).toNat : Int) = 120 := by omega
                  have HV : Hid (v = .tuple #[.int .u8 0, .int .i64 0]) := by show _ = _; rw [← HVV.out, HU4.out, if_neg b1, if_neg (fun h => h.elim b2 b3), if_neg b4]; rfl
                  go_enter Tryd.func42, Tryd.ntmps42
                  go_wp2
                  go_ret2
                  exact ⟨by rw [HV.out]; rfl, Below.refl _ _⟩
        · have h1' : (s.size : Int) < 2 := by omega
          have HV : Hid (v = .tuple #[.int .u8 0, .int .i64 0]) := by show _ = _; rw [← HVV.out, HU3.out, dif_neg h1]; rfl
          go_enter Tryd.func42, Tryd.ntmps42
          go_wp2
          go_ret2
          exact ⟨by rw [HV.out]; rfl, Below.refl _ _⟩
      · have a3' : ¬ ((s[0]'h0).toNat : Int) = 92 := by omega
        have HV : Hid (v = .tuple #[.int .u8 ((s[0]'h0).toNat : Int), .int .i64 1]) := by show _ = _; rw [← HVV.out, HU2.out, if_pos a3]; rfl
        go_enter Tryd.func42, Tryd.ntmps42
        go_wp2
        go_ret2
        exact ⟨by rw [HV.out]; rfl, Below.refl _ _⟩
end Go.Proofs.YthkbcgedjecnlaaDoor
