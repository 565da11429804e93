import Derived.Test.YtjemaijokgcjnaaDoorVtMath
import Derived.Test.YtjemaijokgcjnaaDoorShelf
import Derived.Lib.Strings
import Derived.Lib.Walk
import Derived.Lib.ConvBytes
import Derived.Lib.ParseIntBMem
import Derived.Lib.Hide
import Derived.Laws.Strings3
import Derived.Laws.Closers25
import Derived.Laws.Closers25b
import Derived.WalkKit
import Derived.BigCall
import Derived.BigGuard
namespace Go.Proofs.YtjemaijokgcjnaaDoor
open Go.RowKit Go.Maps
set_option linter.unusedVariables false
set_option linter.unusedSimpArgs false

/-- digits of base 16, read one behind the other -/
def hexM : Nat → List UInt8 → Option Nat
  | acc, [] => some acc
  | acc, c :: r => match PU.hxD c with | none => none | some x => hexM (acc * 16 + x) r
def hexV : Option Nat → Value
  | some v => .tuple #[.int .u64 v, .nilIface]
  | none => .tuple #[.int .u64 0, .iface 86 (.int .i64 2)]
def lowI (c : Int) : Int := bits .or .u8 c 32
def lowB (c : Nat) : Bool := decide (0 ≤ lowI c) && decide (lowI c ≤ 255) && (decide (48 ≤ c ∧ c ≤ 57) || (match PU.hxD (UInt8.ofNat c) with | some x => decide (lowI c = 87 + (x : Int)) && decide (10 ≤ x) | none => decide (lowI c < 97) || decide (103 ≤ lowI c)))
theorem lowB_all : ∀ c : Fin 256, lowB c.val = true := by decide +kernel
theorem low_some {c : UInt8} (hd : ¬ (48 ≤ c.toNat ∧ c.toNat ≤ 57)) {x : Nat} (hx : PU.hxD c = some x) : lowI c.toNat = 87 + (x : Int) ∧ 10 ≤ x ∧ x < 16 := by
  have h := lowB_all ⟨c.toNat, c.toNat_lt⟩
  unfold lowB at h
  simp only [UInt8.ofNat_toNat, hx, hd, decide_false, Bool.false_or, Bool.and_eq_true, decide_eq_true_eq] at h
  exact ⟨h.2.1, h.2.2, PU.hxD_lt hx⟩
theorem low_none {c : UInt8} (hx : PU.hxD c = none) : ¬ (48 ≤ c.toNat ∧ c.toNat ≤ 57) ∧ (0 ≤ lowI c.toNat ∧ lowI c.toNat ≤ 255) ∧ (lowI c.toNat < 97 ∨ 103 ≤ lowI c.toNat) := by
  have hd : ¬ (48 ≤ c.toNat ∧ c.toNat ≤ 57) := fun hd => by unfold PU.hxD at hx; rw [if_pos hd] at hx; cases hx
  have h := lowB_all ⟨c.toNat, c.toNat_lt⟩
  unfold lowB at h
  simp only [UInt8.ofNat_toNat, hx, hd, decide_false, Bool.false_or, Bool.and_eq_true, Bool.or_eq_true, decide_eq_true_eq] at h
  exact ⟨hd, h.1, h.2⟩
theorem lower_any (c : Nat) (w : World) : Calls Tryd.prog 76 #[.int .u8 (c : Int)] w fun e w' => e = .returned (.int .u8 (lowI c)) ∧ w' = w := Tryd.internal_strconv_lower (c : Int) w

set_option maxHeartbeats 32000000 in
set_option maxRecDepth 100000 in
theorem uint16_any (t : ByteArray) (ht : t.size = 2) (w : World) : Calls Tryd.prog 62 #[.string t, .int .i64 16, .int .i64 8] w fun e w' => e = .returned (hexV (hexM 0 t.data.toList)) ∧ w' = Lib.bytesWorld w 5 t := by
  have hmax : t.size ≤ 9223372036854775806 := by omega
  have hne : t.size ≠ 0 := by omega
  have hemp : t.toList.isEmpty = false := by
    rw [← decide_eq_emptyBytes]
    exact decide_eq_false (fun h => hne (by rw [h]; rfl))
  have hcv := Lib.run_convert_string_bytes (P := Tryd.prog) w 9 46 5 t (u := .string) Tryd.underlying9 Tryd.underlying46 Tryd.underlying5
  have hB : ∀ j, j < t.size → (Lib.bytesWorld w 5 t).cell? ⟨w.heap.size, j, none⟩ = some (.int .u8 (t.data.toList.getD j 0).toNat) := fun j hj => Lib.bytesWorld_cell w 5 t j hj
  obtain ⟨W1, hW1⟩ : ∃ W1, W1 = Lib.bytesWorld w 5 t := ⟨_, rfl⟩
  rw [← hW1] at hcv hB ⊢
  clear hW1
  obtain ⟨bs, hL⟩ : ∃ bs, bs = t.data.toList := ⟨_, rfl⟩
  have hLn : bs.length = t.size := by rw [hL, Lib.size_eq]
  rw [← hL] at hB ⊢
  clear hL
  have hmv : IntKind.u64.wrap (IntKind.u64.wrap 256 - 1) = 255 := by
    rw [IntKind.wrap_u64, IntKind.wrap_u64]
    decide
  have HT : Hid (t.size = 2) := ht
  clear ht
  obtain ⟨R, HR⟩ : ∃ R, Hid (hexV (hexM 0 bs) = R) := ⟨_, rfl⟩
  rw [HR.out]
  go_enter Tryd.func62, Tryd.ntmps62
  go_wp2
  go_loop [12, 13, 101] (fun vu vn vi => ∃ (k acc : Nat) (a : Int), vu = .bool false ∧ vn = .int .u64 a ∧ vi = .int .i64 k ∧ k ≤ t.size ∧ Hid (a = (acc : Int) ∧ acc ≤ 255 ∧ (k ≤ 1 → acc ≤ 15) ∧ (k = 0 → acc = 0) ∧ hexM 0 bs = hexM acc (bs.drop k)))
    (fun _ _ vi => t.size - (intOf vi).toNat)
  case atStart => exact ⟨0, 0, 0, rfl, rfl, rfl, by omega, rfl, by omega, by omega, fun _ => rfl, rfl⟩
  case round =>
    obtain ⟨k, acc, a, rfl, rfl, rfl, hk, hh⟩ := hrel
    obtain ⟨ha, hacc, h15, h0, hdec⟩ := hh.out
    clear hh
    have a0 : 0 ≤ a := by omega
    by_cases hkn : k < t.size
    · have hc := hB k hkn
      have hk2 := HT.out
      have hacc15 : acc ≤ 15 := h15 (by omega)
      have a1 : a ≤ 15 := by omega
      have hn1 : k + 1 ≤ 1 → acc = 0 := fun h => h0 (by omega)
      have hdrop : bs.drop k = bs[k]'(by omega) :: bs.drop (k + 1) := List.drop_eq_getElem_cons (by omega)
      have hget : bs.getD k 0 = bs[k]'(by omega) := by simp [List.getD, List.getElem?_eq_getElem (show k < bs.length by omega)]
      rw [hdrop] at hdec
      rw [hget] at hc
      generalize bs[k]'(by omega) = c at hc hdec
      have hc256 : c.toNat < 256 := c.toNat_lt
      clear hB hdrop hget h15 h0 hk2
      cases hx : PU.hxD c with
      | some x =>
        have hF : hexM acc (c :: bs.drop (k + 1)) = hexM (acc * 16 + x) (bs.drop (k + 1)) := by show (match PU.hxD c with | none => none | some x => hexM (acc * 16 + x) (bs.drop (k + 1))) = _; rw [hx]
        by_cases hdig : 48 ≤ c.toNat ∧ c.toNat ≤ 57
        · obtain ⟨hd0, hd1⟩ := hdig
          have hxx : x = c.toNat - 48 := by unfold PU.hxD at hx; rw [if_pos ⟨hd0, hd1⟩] at hx; injection hx with hx; exact hx.symm
          have HN : Hid (a * 16 + ((c.toNat : Int) - 48) = ((acc * 16 + x : Nat) : Int) ∧ acc * 16 + x ≤ 255 ∧ (k + 1 ≤ 1 → acc * 16 + x ≤ 15) ∧ (k + 1 = 0 → acc * 16 + x = 0) ∧ hexM 0 bs = hexM (acc * 16 + x) (bs.drop (k + 1))) := Lib.hid ⟨by omega, by omega, fun h => by have := hn1 h; omega, fun h => by omega, hdec.trans hF⟩
          have iov : a * 16 + ((c.toNat : Int) - 48) ≤ 255 := by omega
          clear hn1 hacc15 hacc hF hdec ha hx hxx
          go_wp2
          refine ⟨⟨k + 1, acc * 16 + x, a * 16 + ((c.toNat : Int) - 48), rfl, (by first | rfl | (congr 1; omega)), (by first | rfl | (congr 1; omega)), by omega, HN⟩, by simp [intOf]; omega⟩
        · obtain ⟨hl1, hx10, hx16⟩ := low_some hdig hx
          have h95 : ((c.toNat : Int) == 95) = false := by
            have : c.toNat ≠ 95 := fun e => by unfold PU.hxD at hx; rw [if_neg (by omega), if_neg (by omega), if_neg (by omega)] at hx; cases hx
            simpa using (show ¬ (c.toNat : Int) = 95 by omega)
          obtain ⟨L, hLL⟩ : ∃ L, lowI c.toNat = L := ⟨_, rfl⟩
          have hcc := hLL
          rw [hl1] at hLL
          have l1 : 97 ≤ L := by omega
          have l2 : L ≤ 102 := by omega
          have HN : Hid (a * 16 + (L - 97 + 10) = ((acc * 16 + x : Nat) : Int) ∧ acc * 16 + x ≤ 255 ∧ (k + 1 ≤ 1 → acc * 16 + x ≤ 15) ∧ (k + 1 = 0 → acc * 16 + x = 0) ∧ hexM 0 bs = hexM (acc * 16 + x) (bs.drop (k + 1))) := Lib.hid ⟨by omega, by omega, fun h => by have := hn1 h; omega, fun h => by omega, hdec.trans hF⟩
          have iov : a * 16 + (L - 97 + 10) ≤ 255 := by omega
          have HC : Hid (∀ w : World, Calls Tryd.prog 76 #[.int .u8 (c.toNat : Int)] w fun e w' => e = .returned (.int .u8 L) ∧ w' = w) := by intro w; rw [← hcc]; exact lower_any _ w
          clear hn1 hacc15 hacc hF hdec ha hx hLL hl1 hx10 hx16 hcc
          go_wp2_with (refine (HC.out _).mono ?_; rintro e w' ⟨rfl, rfl⟩)
          all_goals try refine ⟨⟨k + 1, acc * 16 + x, a * 16 + (L - 97 + 10), rfl, (by first | rfl | (congr 1; omega)), (by first | rfl | (congr 1; omega)), by omega, HN⟩, by simp [intOf]; omega⟩
      | none =>
        have HV : Hid (R = .tuple #[.int .u64 0, .iface 86 (.int .i64 2)]) := by
          show _ = _
          rw [← HR.out, hdec]
          show hexV (match PU.hxD c with | none => none | some x => hexM (acc * 16 + x) (bs.drop (k + 1))) = _
          rw [hx]; rfl
        obtain ⟨hdig, ⟨l0, l1⟩, l2⟩ := low_none hx
        obtain ⟨L, hLL⟩ : ∃ L, lowI c.toNat = L := ⟨_, rfl⟩
        rw [hLL] at l0 l1 l2
        have HC : Hid (∀ w : World, Calls Tryd.prog 76 #[.int .u8 (c.toNat : Int)] w fun e w' => e = .returned (.int .u8 L) ∧ w' = w) := by intro w; rw [← hLL]; exact lower_any _ w
        clear hn1 hacc15 hacc hdec ha hx hLL
        have HC5 : Hid (c.toNat = 95 → ∀ w : World, Calls Tryd.prog 76 #[.int .u8 95] w fun e w' => e = .returned (.int .u8 L) ∧ w' = w) := fun e w => by have := HC.out w; rw [e] at this; exact this
        go_wp2_with ((first | refine (HC.out _).mono ?_ | refine (HC5.out (by omega) _).mono ?_); rintro e w' ⟨rfl, rfl⟩)
        all_goals go_ret2
        all_goals first | exact ⟨by rw [HV.out]; rfl, rfl⟩ | exact ⟨by rw [HV.out], rfl⟩
    · have hkk : k = t.size := by omega
      subst hkk
      have HV : Hid (R = .tuple #[.int .u64 a, .nilIface]) := by
        show _ = _
        rw [← HR.out, hdec, List.drop_eq_nil_of_le (by omega)]
        show hexV (some acc) = _
        rw [ha]; rfl
      clear hacc h15 h0 hdec ha
      go_wp2
      go_ret2
      exact ⟨by rw [HV.out]; rfl, rfl⟩
end Go.Proofs.YtjemaijokgcjnaaDoor
