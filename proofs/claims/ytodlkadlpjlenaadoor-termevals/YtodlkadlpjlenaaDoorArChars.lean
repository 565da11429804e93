import Derived.Test.YtodlkadlpjlenaaDoorArCharW
import Derived.Test.YtodlkadlpjlenaaDoorArArith
namespace Go.Proofs.YtodlkadlpjlenaaDoor.AR
open Go.RowKit Go.Maps
set_option linter.unusedVariables false
set_option linter.unusedSimpArgs false
attribute [local go_sem ↓] Go.wp_at_zero Go.wp_at_succ

/-! the reference's list of characters -/
def charS (s : ByteArray) (p : Nat) : ByteArray := s.extract p (p + chW s p)
def strC (x : ByteArray) : Value := .string x
theorem infoStr1 : (Tryd.prog.info? 9).map (fun i => (i.zero, i.size, i.bytes)) = some (some (.string ⟨#[]⟩), 1, 16) := by kernel_rfl
set_option maxHeartbeats 1600000 in
set_option maxRecDepth 100000 in
theorem chars_any (s : ByteArray) (hs : s.size ≤ 1000000) (w : World) : Calls Tryd.prog 49 #[.string s] w fun e w' => ∃ sv, e = .returned sv ∧ w'.ownsRow w.heap.size 9 1 sv (starts s).length ((starts s).map (fun p => strC (charS s p))) ∧ Below w.heap.size w w' := by
  obtain ⟨i0, hi0, hz0, hz1, hz2⟩ := info_parts infoStr1
  go_enter Tryd.func49, Tryd.ntmps49
  go_wp2
  go_loopw [3, 4, 5, 6] (fun ov iv _ _ wr => ∃ (pos : Nat) (out : List Nat), pos ≤ s.size ∧ iv = .int .i64 (pos : Int) ∧ wr.ownsRow w.heap.size 9 1 ov out.length (out.map (fun p => strC (charS s p))) ∧ Below w.heap.size w wr ∧ out.length ≤ pos ∧ Hid (out ++ startsAt s pos = starts s)) (fun _ iv _ _ _ => s.size - (intOf iv).toNat)
  case atStart => exact ⟨0, [], Nat.zero_le _, rfl, World.ownsRow_nil _ _ _ _, Below.refl _ _, Nat.le_refl _, rfl⟩
  case round =>
    obtain ⟨pos, out, hps, rfl, hown, bel, hol, HS⟩ := hrel
    obtain ⟨ao, co, rfl, _⟩ := own_form hown
    by_cases hp : pos < s.size
    · have hp' : (pos : Int) < (s.size : Int) := by omega
      have hw := chW_le s hp
      have HCH := Lib.hid (char_any s pos hp hs wr)
      have HN : Hid ((out ++ [pos]) ++ startsAt s (pos + chW s pos) = starts s) := by show _ = _; rw [← HS.out, starts_cons s hp]; simp
      have HX : Hid (s.extract pos (pos + chW s pos) = charS s pos) := rfl
      generalize chW s pos = cw at HCH hw HN HX
      generalize chOk s pos = ok at HCH
      have hz := bel.size
      have h1 : (0 : Int) ≤ (pos : Int) := by omega
      have h2 : (pos : Int) ≤ (pos : Int) + (cw : Int) := by omega
      have h3 : (pos : Int) + (cw : Int) ≤ (s.size : Int) := by omega
      have h4 : (0 : Int) ≤ (pos : Int) + (cw : Int) := by omega
      have HO := Lib.hid hown
      have HB := Lib.hid bel
      clear HS hown bel
      go_wp2_with fail
      refine HCH.out.mono ?_
      rintro e w1 ⟨rfl, rfl⟩
      clear HCH
      have e5 : ((pos : Int) + (cw : Int)).toNat = pos + cw := by omega
      go_wp2_with (at_builtin; refine wpList_append_own_at _ rfl _ _ 72 rfl w.heap.size 9 i0 _ 1 16 Tryd.underlying72 hi0 hz0 hz1 hz2 rfl (by decide) _ _ _ rfl (own_below HO.out ((Below.refl _ _).alloc (Nat.le_refl _) _)) ⟨_, 0, none⟩ 1 1 [.string (s.extract pos (pos + cw))] rfl rfl (lit_news _ #[.string (s.extract pos (pos + cw))] _) (by simp [Value.oneCell']) (by unfold maxLen; omega) (by omega) (by simp; omega) ?_; intro v' w2 hown' hgrow hnil hloc)
      have bel2 : Below w.heap.size w w2 := (HB.out.alloc hz _).grown hgrow (by simp; omega) (fun j hj => (HO.out.lt j hj).1)
      rw [HX.out] at hown'
      clear hgrow hnil hloc
      go_wp2
      go_roundw
      case rel => exact ⟨pos + cw, out ++ [pos], by omega, by simp, by rw [List.length_append, List.map_append]; exact hown', bel2, by rw [List.length_append]; simp; omega, HN⟩
      case measure => simp [intOf]; omega
    · obtain rfl : pos = s.size := by omega
      have HE : Hid (out = starts s) := by show _ = _; rw [← HS.out, starts_end s (by omega), List.append_nil]
      go_wp2
      go_ret
      refine ⟨_, rfl, ?_, bel⟩
      rw [← HE.out]
      exact hown
end Go.Proofs.YtodlkadlpjlenaaDoor.AR
