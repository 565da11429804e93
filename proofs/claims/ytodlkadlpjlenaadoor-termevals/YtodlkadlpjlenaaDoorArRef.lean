import Derived.Test.YtodlkadlpjlenaaDoorArChars
import Derived.Test.YtodlkadlpjlenaaDoorRingMath
namespace Go.Proofs.YtodlkadlpjlenaaDoor.AR
open Go.RowKit Go.Maps
set_option linter.unusedVariables false
set_option linter.unusedSimpArgs false
attribute [local go_sem ↓] Go.wp_at_zero Go.wp_at_succ

/-! the reference's Arith -/
theorem starts_next (s : ByteArray) : ∀ (f i : Nat), s.size - i ≤ f → ∀ j, j < (startsAt s i).length → (startsAt s i)[j]?.getD 0 + chW s ((startsAt s i)[j]?.getD 0) = if j + 1 < (startsAt s i).length then (startsAt s i)[j + 1]?.getD 0 else s.size
  | 0, i, hf, j, hj => by rw [starts_end s (by omega)] at hj; simp at hj
  | f + 1, i, hf, j, hj => by
    by_cases h : i < s.size
    · have hc := chW_le s h
      have ih := starts_next s f (i + chW s i) (by omega)
      rw [starts_cons s h] at hj ⊢
      cases j with
      | zero =>
        simp only [List.getElem?_cons_zero, Option.getD_some, List.length_cons, Nat.zero_add]
        by_cases h2 : i + chW s i < s.size
        · rw [starts_cons s h2]
          simp
        · rw [starts_end s h2]
          simp
          omega
      | succ j =>
        have hj' : j < (startsAt s (i + chW s i)).length := by simpa using hj
        have := ih j hj'
        simp only [List.getElem?_cons_succ, List.length_cons, Nat.add_lt_add_iff_right]
        exact this
    · rw [starts_end s h] at hj; simp at hj
theorem charS_chunk (s : ByteArray) {k : Nat} (hk : k < (starts s).length) : charS s (startAt s k) = chunk s k := by
  unfold charS chunk
  have h := starts_next s s.size 0 (by omega) ((starts s).length - 1 - k) (by show _ < (starts s).length; omega)
  have e : startAt s k + chW s (startAt s k) = endAt s k := by
    unfold startAt
    refine h.trans ?_
    unfold endAt
    show (if (starts s).length - 1 - k + 1 < (starts s).length then (starts s)[(starts s).length - 1 - k + 1]?.getD 0 else s.size) = _
    by_cases h0 : k = 0
    · rw [if_neg (by omega), if_pos h0]
    · rw [if_pos (by omega), if_neg h0]
      unfold startAt
      rw [show (starts s).length - 1 - (k - 1) = (starts s).length - 1 - k + 1 by omega]
  rw [e]
theorem back_cat (s : ByteArray) (k : Nat) : (⟨(backL s k).toArray⟩ : ByteArray) ++ chunk s k = ⟨(backL s (k + 1)).toArray⟩ := by
  apply ByteArray.ext
  rw [ByteArray.data_append]
  show (backL s k).toArray ++ (chunk s k).data = (backL s k ++ (chunk s k).data.toList).toArray
  apply Array.toList_inj.1
  simp
theorem back_size (s : ByteArray) (k : Nat) : (⟨(backL s k).toArray⟩ : ByteArray).size = (backL s k).length := by
  show (backL s k).toArray.size = _
  simp
set_option maxHeartbeats 1600000 in
set_option maxRecDepth 100000 in
theorem rtexts_any (op : Int) (s : ByteArray) (hs : s.size ≤ 200) (w : World) : Calls Tryd.prog 35 #[.int .i8 op, .string s] w fun e w' => e = .returned (textsR op s).val ∧ Below w.heap.size w w' := by
  have hB := Lib.hid ((Below.refl w.heap.size w).alloc (Nat.le_refl _) (.cells #[.int .i8 0, .int .i64 0, .string ⟨#[]⟩] 26))
  by_cases h8 : op = 8
  · have HR : Hid ((textsR op s).val = .tuple #[.agg #[.int .i8 1, .int .i64 (s.size : Int), .string ⟨#[]⟩], .bool true]) := by show _ = _; unfold textsR; rw [if_pos h8]; rfl
    subst h8
    go_enter Tryd.func35, Tryd.ntmps35
    go_wp2
    exact bodyPost_ret (v := .tuple #[.agg #[.int .i8 1, .int .i64 (s.size : Int), .string ⟨#[]⟩], .bool true]) (by simp [results, Tryd.results35, go_sem]) rfl
      ⟨by rw [HR.out], (Below.refl _ _).alloc (Nat.le_refl _) _⟩
  have h8' : (op == 8) = false := by simpa using h8
  by_cases h9 : op = 9
  · have HR : Hid ((textsR op s).val = .tuple #[.agg #[.int .i8 1, .int .i64 ((starts s).length : Int), .string ⟨#[]⟩], .bool true]) := by show _ = _; unfold textsR; rw [if_neg h8, if_pos h9]; rfl
    subst h9
    go_enter Tryd.func35, Tryd.ntmps35
    go_wp2_with fail
    refine (chars_any s (by omega) _).mono ?_
    rintro e w0 ⟨sv, rfl, hown, hb0⟩
    obtain ⟨a0, c0, rfl, _⟩ := own_form hown
    obtain ⟨hc1, hf1⟩ := bcell hb0
    clear hown
    go_wp2
    exact bodyPost_ret (v := .tuple #[.agg #[.int .i8 1, .int .i64 ((starts s).length : Int), .string ⟨#[]⟩], .bool true]) (by simp [results, Tryd.results35, go_sem, hc1]) rfl
      ⟨by rw [HR.out], (((hB.out.trans (hb0.mono (by simp))).setCell (by simp) _).setCell (by simp) _).setCell (by simp) _⟩
  have h9' : (op == 9) = false := by simpa using h9
  have HR : Hid ((textsR op s).val = .tuple #[.agg #[.int .i8 2, .int .i64 0, .string (backB s)], .bool true]) := by show _ = _; unfold textsR; rw [if_neg h8, if_neg h9]; rfl
  go_enter Tryd.func35, Tryd.ntmps35
  go_wp2_with fail
  refine (chars_any s (by omega) _).mono ?_
  rintro e w0 ⟨sv, rfl, hown, hb0⟩
  obtain ⟨a0, c0, hsv, _⟩ := own_form hown
  subst hsv
  obtain ⟨hc1, hf1⟩ := bcell hb0
  have HBF := Lib.hid (hB.out.trans (hb0.mono (by simp)))
  have hlen := starts_le s
  have HCE : Hid (∀ j, j < (starts s).length → ∃ g, a0 = some ⟨g, 0, none⟩ ∧ w0.cell? ⟨g, j, none⟩ = some (.string (charS s ((starts s)[j]?.getD 0)))) := fun j hj => by
    rcases hown.2 with ⟨h1, h0⟩ | ⟨g, cap, cur, hv, hg0, hgb, hnc, hcm, hcs, htk⟩
    · omega
    · cases hv
      refine ⟨g, rfl, ?_⟩
      have hx : (cur.toList.take ((starts s).length * 1))[j]? = some (.string (charS s ((starts s)[j]?.getD 0))) := by
        rw [htk, List.getElem?_map, List.getElem?_eq_getElem hj]
        simp [strC]
      rw [List.getElem?_take] at hx
      split at hx
      · unfold World.cell?
        simp only [hgb]
        simpa using hx
      · cases hx
  clear hown hb0
  go_wp2
  go_loopw [7, 8] (fun bv iv wr => ∃ k : Nat, k ≤ (starts s).length ∧ bv = .string ⟨(backL s k).toArray⟩ ∧ iv = .int .i64 (((starts s).length : Int) - 1 - k) ∧ wr = w0) (fun _ iv _ => (intOf iv + 1).toNat)
  case atStart => exact ⟨0, Nat.zero_le _, rfl, by simp, rfl⟩
  case round =>
    obtain ⟨k, hk, rfl, rfl, hwr⟩ := hrel
    subst hwr
    by_cases hlt : k < (starts s).length
    · obtain ⟨m, hm⟩ : ∃ m : Nat, m = (starts s).length - 1 - k := ⟨_, rfl⟩
      have hmi : ((starts s).length : Int) - 1 - (k : Int) = (m : Int) := by omega
      have hml : m < (starts s).length := by omega
      obtain ⟨g, rfl, hcell⟩ := HCE.out m hml
      have hch : charS s ((starts s)[m]?.getD 0) = chunk s k := by rw [hm]; exact charS_chunk s hlt
      rw [hch] at hcell
      have hz : ¬ 9223372036854775807 < (⟨(backL s k).toArray⟩ : ByteArray).size + (chunk s k).size := by
        rw [back_size, backL_len s k hk, chunk_size s hlt]
        have := endAt_le s hk
        omega
      have hcat := back_cat s k
      rw [hmi]
      have hm0 : (0 : Int) ≤ (m : Int) := by omega
      have hml' : (m : Int) < ((starts s).length : Int) := by omega
      have HMK := Lib.hid (And.intro hm hmi)
      clear hm hmi HCE hch
      obtain ⟨b1, HB1⟩ : ∃ b1 : ByteArray, Hid (b1 = ⟨(backL s (k + 1)).toArray⟩) := ⟨_, rfl⟩
      rw [← HB1.out] at hcat
      generalize (⟨(backL s k).toArray⟩ : ByteArray) = b0 at hz hcat ⊢
      generalize chunk s k = ck at hcell hz hcat
      go_wp2
      go_roundw
      case rel => exact ⟨k + 1, by omega, by rw [HB1.out], by have := HMK.out; simp; omega, by first | rfl | trivial⟩
      case measure => simp [intOf]
    · obtain rfl : k = (starts s).length := by omega
      have hmi : ((starts s).length : Int) - 1 - ((starts s).length : Int) = -1 := by omega
      rw [hmi]
      have HBB : Hid ((⟨(backL s (starts s).length).toArray⟩ : ByteArray) = backB s) := rfl
      generalize (⟨(backL s (starts s).length).toArray⟩ : ByteArray) = bb at HBB ⊢
      go_wp2
      exact bodyPost_ret (v := .tuple #[.agg #[.int .i8 2, .int .i64 0, .string bb], .bool true]) (by simp [results, Tryd.results35, go_sem, hc1]) rfl
        ⟨by rw [HR.out, HBB.out], ((HBF.out.setCell (by simp) _).setCell (by simp) _).setCell (by simp) _⟩
end Go.Proofs.YtodlkadlpjlenaaDoor.AR
