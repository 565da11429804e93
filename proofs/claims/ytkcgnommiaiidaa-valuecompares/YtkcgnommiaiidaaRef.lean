import Derived.Test.YtkcgnommiaiidaaCmp
import Derived.Laws.Strings
namespace Go.Proofs.Ytkcgnommiaiidaa
open Go.RowKit
set_option linter.unusedVariables false

theorem compareBytes_self : ∀ a : List UInt8, Lib.compareBytes a a = 0
  | [] => rfl
  | x :: a => by
    have h : ¬ x < x := UInt8.lt_irrefl x
    simp [Lib.compareBytes, h, compareBytes_self a]

theorem compareBytes_less : ∀ a b : List UInt8, Op.bytesLess a b = true → Lib.compareBytes a b = -1
  | [], [] => by simp [Op.bytesLess]
  | [], _ :: _ => by simp [Lib.compareBytes]
  | _ :: _, [] => by simp [Op.bytesLess]
  | x :: a, y :: b => by
    intro h
    simp only [Op.bytesLess, Bool.or_eq_true, decide_eq_true_eq, Bool.and_eq_true, beq_iff_eq] at h
    rcases h with h | ⟨rfl, h⟩
    · simp [Lib.compareBytes, h]
    · have hx : ¬ x < x := UInt8.lt_irrefl x
      simp [Lib.compareBytes, hx, compareBytes_less a b h]

theorem compareBytes_more : ∀ a b : List UInt8, Op.bytesLess a b = false → ¬ a = b → Lib.compareBytes a b = 1
  | [], [] => by simp
  | [], _ :: _ => by simp [Op.bytesLess]
  | _ :: _, [] => by simp [Lib.compareBytes]
  | x :: a, y :: b => by
    intro h hne
    simp only [Op.bytesLess, Bool.or_eq_false_iff, decide_eq_false_iff_not, Bool.and_eq_false_iff, beq_eq_false_iff_ne] at h
    obtain ⟨h1, h2⟩ := h
    by_cases hxy : x = y
    · subst hxy
      have h3 : Op.bytesLess a b = false := by simpa using h2
      have h4 : ¬ a = b := fun e => hne (by rw [e])
      simp [Lib.compareBytes, h1, compareBytes_more a b h3 h4]
    · have : y < x := UInt8.lt_of_le_of_ne (UInt8.not_lt.1 h1) (Ne.symm hxy)
      simp [Lib.compareBytes, h1, this]

theorem compareInt_self (a : Int) : Lib.compareInt a a = 0 := by simp [Lib.compareInt]

theorem cmpV_k1 {k1 k2 : Int} (n1 n2 : Int) (s1 s2 : ByteArray) (h : k1 < k2) : cmpV k1 n1 s1 k2 n2 s2 = -1 := by
  simp [cmpV, orL, Lib.compareInt, h]
theorem cmpV_k2 {k1 k2 : Int} (n1 n2 : Int) (s1 s2 : ByteArray) (hn : ¬ k1 = k2) (h : k2 ≤ k1) : cmpV k1 n1 s1 k2 n2 s2 = 1 := by
  have a : ¬ k1 < k2 := by omega
  have b : k2 < k1 := by omega
  simp [cmpV, orL, Lib.compareInt, a, b]
theorem cmpV_n1 {k n1 n2 : Int} (s1 s2 : ByteArray) (h : n1 < n2) : cmpV k n1 s1 k n2 s2 = -1 := by
  simp [cmpV, orL, Lib.compareInt, h]
theorem cmpV_n2 {k n1 n2 : Int} (s1 s2 : ByteArray) (hn : ¬ n1 = n2) (h : n2 ≤ n1) : cmpV k n1 s1 k n2 s2 = 1 := by
  have a : ¬ n1 < n2 := by omega
  have b : n2 < n1 := by omega
  simp [cmpV, orL, Lib.compareInt, a, b]
theorem cmpV_s (k n : Int) (s1 s2 : ByteArray) : cmpV k n s1 k n s2 = Lib.compareBytes s1.toList s2.toList := by
  rw [ByteArray.toList_eq, ByteArray.toList_eq]
  simp only [cmpV, orL, compareInt_self, if_true]
  split <;> simp_all
theorem cmpV_s0 (k n : Int) {s1 s2 : ByteArray} (h : s1.toList = s2.toList) : cmpV k n s1 k n s2 = 0 := by
  rw [cmpV_s, h]; exact compareBytes_self _
theorem cmpV_s1 (k n : Int) {s1 s2 : ByteArray} (h : Op.bytesLess s1.toList s2.toList = true) : cmpV k n s1 k n s2 = -1 := by
  rw [cmpV_s]; exact compareBytes_less _ _ h
theorem cmpV_s2 (k n : Int) {s1 s2 : ByteArray} (hn : ¬ s1.toList = s2.toList) (h : Op.bytesLess s1.toList s2.toList = false) : cmpV k n s1 k n s2 = 1 := by
  rw [cmpV_s]; exact compareBytes_more _ _ h hn

set_option maxHeartbeats 800000 in
theorem rcompare_any (k1 n1 : Int) (s1 : ByteArray) (k2 n2 : Int) (s2 : ByteArray) (w : World) :
    Calls Try.prog 9 #[.agg #[.int .i8 k1, .int .i64 n1, .string s1], .agg #[.int .i8 k2, .int .i64 n2, .string s2]] w fun e w' => e = .returned (.int .i64 (cmpV k1 n1 s1 k2 n2 s2)) ∧ Below w.heap.size w w' := by
  go_enter Try.func9, Try.ntmps9
  go_wp2
  all_goals
    go_ret
    refine ⟨ret_int ?_, ((Below.refl _ _).alloc (Nat.le_refl _) _).alloc (by simp) _⟩
    go_light
    first
      | (subst_vars; exact (cmpV_s0 _ _ (by assumption)).symm)
      | (subst_vars; exact (cmpV_s1 _ _ (by assumption)).symm)
      | (subst_vars; exact (cmpV_s2 _ _ (by assumption) (by assumption)).symm)
      | (subst_vars; exact (cmpV_n1 _ _ (by assumption)).symm)
      | (subst_vars; exact (cmpV_n2 _ _ (by assumption) (by assumption)).symm)
      | exact (cmpV_k1 _ _ _ _ (by assumption)).symm
      | exact (cmpV_k2 _ _ _ _ (by assumption) (by assumption)).symm

def relB (r c : Int) : Bool :=
  if r = 1 then c == 0 else if r = 2 then c != 0 else if r = 3 then decide (c < 0) else if r = 4 then decide (c ≤ 0) else if r = 5 then decide (0 < c) else if r = 6 then decide (0 ≤ c) else false

def holdsV (r k1 n1 : Int) (s1 : ByteArray) (k2 n2 : Int) (s2 : ByteArray) : Bool :=
  if chk k1 n1 s1 = 0 ∧ chk k2 n2 s2 = 0 then relB r (cmpV k1 n1 s1 k2 n2 s2) else false

theorem holdsV_yes {r k1 n1 : Int} {s1 : ByteArray} {k2 n2 : Int} {s2 : ByteArray} (c1 : chk k1 n1 s1 = 0) (c2 : chk k2 n2 s2 = 0) : holdsV r k1 n1 s1 k2 n2 s2 = relB r (cmpV k1 n1 s1 k2 n2 s2) := if_pos ⟨c1, c2⟩
theorem holdsV_no {r k1 n1 : Int} {s1 : ByteArray} {k2 n2 : Int} {s2 : ByteArray} (c : ¬ (chk k1 n1 s1 = 0 ∧ chk k2 n2 s2 = 0)) : holdsV r k1 n1 s1 k2 n2 s2 = false := if_neg c

theorem ret_bool {a b : Bool} (h : a = b) : Ending.returned (.bool a) = .returned (.bool b) := by rw [h]

set_option maxHeartbeats 1600000 in
theorem vholds_any (r k1 n1 : Int) (s1 : ByteArray) (k2 n2 : Int) (s2 : ByteArray) (w : World) (h1 : s1.size ≤ maxLen) (h2 : s2.size ≤ maxLen) :
    Calls Try.prog 10 #[.int .i8 r, .agg #[.int .i8 k1, .int .i64 n1, .string s1], .agg #[.int .i8 k2, .int .i64 n2, .string s2]] w fun e w' => e = .returned (.bool (holdsV r k1 n1 s1 k2 n2 s2)) ∧ Below w.heap.size w w' := by
  by_cases c1 : chk k1 n1 s1 = 0
  · by_cases c2 : chk k2 n2 s2 = 0
    · have HY : Hid (holdsV r k1 n1 s1 k2 n2 s2 = relB r (cmpV k1 n1 s1 k2 n2 s2)) := holdsV_yes c1 c2
      go_enter Try.func10, Try.ntmps10
      go_wp2_with fail
      refine (vcheck_any _ _ _ _ h1).mono ?_
      rintro e w1 ⟨rfl, hb1⟩
      obtain ⟨hc1, hf1⟩ := bcell hb1
      have hz1 : w.heap.size + 1 < w1.heap.size := by have := hb1.size; simp at this; omega
      have hz1' : w.heap.size < w1.heap.size := by omega
      go_wp2_with fail
      refine (vcheck_any _ _ _ _ h2).mono ?_
      rintro e w2 ⟨rfl, hb2⟩
      obtain ⟨hc2, hf2⟩ := bcell hb2
      have hz2 : w.heap.size + 1 < w2.heap.size := by have := hb2.size; omega
      have hz2' : w.heap.size < w2.heap.size := by omega
      go_wp2_with fail
      refine (vcompare_any _ _ _ _ _ _ _).mono ?_
      rintro e w3 ⟨rfl, hb3⟩
      have hz3 : w.heap.size + 1 < w3.heap.size := by have := hb3.size; omega
      have bel : Below w.heap.size w w3 := (((((Below.refl _ _).alloc (Nat.le_refl _) _).alloc (by simp) _).trans (hb1.mono (by simp; omega))).trans (hb2.mono (by omega))).trans (hb3.mono (by omega))
      clear hc1 hf1 hc2 hf2 hb1 hb2 hb3
      generalize cmpV k1 n1 s1 k2 n2 s2 = c at HY
      go_wp2
      all_goals
        go_ret
        refine ⟨ret_bool ?_, bel⟩
        rw [HY.out]
        go_light
        unfold relB
        simp_all
    · have c2' : (chk k2 n2 s2 != 0) = true := by simpa using c2
      have HY : Hid (holdsV r k1 n1 s1 k2 n2 s2 = false) := holdsV_no (fun h => c2 h.2)
      clear c2
      go_enter Try.func10, Try.ntmps10
      go_wp2_with fail
      refine (vcheck_any _ _ _ _ h1).mono ?_
      rintro e w1 ⟨rfl, hb1⟩
      obtain ⟨hc1, hf1⟩ := bcell hb1
      have hz1 : w.heap.size + 1 < w1.heap.size := by have := hb1.size; simp at this; omega
      have hz1' : w.heap.size < w1.heap.size := by omega
      go_wp2_with fail
      refine (vcheck_any _ _ _ _ h2).mono ?_
      rintro e w2 ⟨rfl, hb2⟩
      have bel : Below w.heap.size w w2 := ((((Below.refl _ _).alloc (Nat.le_refl _) _).alloc (by simp) _).trans (hb1.mono (by simp; omega))).trans (hb2.mono (by omega))
      go_wp2
      go_ret
      exact ⟨ret_bool HY.out.symm, bel⟩
  · have c1' : (chk k1 n1 s1 != 0) = true := by simpa using c1
    have HY : Hid (holdsV r k1 n1 s1 k2 n2 s2 = false) := holdsV_no (fun h => c1 h.1)
    clear c1
    go_enter Try.func10, Try.ntmps10
    go_wp2_with fail
    refine (vcheck_any _ _ _ _ h1).mono ?_
    rintro e w1 ⟨rfl, hb1⟩
    have bel : Below w.heap.size w w1 := (((Below.refl _ _).alloc (Nat.le_refl _) _).alloc (by simp) _).trans (hb1.mono (by simp; omega))
    go_wp2
    go_ret
    exact ⟨ret_bool HY.out.symm, bel⟩

set_option maxHeartbeats 1600000 in
theorem rholds_any (r k1 n1 : Int) (s1 : ByteArray) (k2 n2 : Int) (s2 : ByteArray) (w : World) (h1 : s1.size ≤ maxLen) (h2 : s2.size ≤ maxLen) :
    Calls Try.prog 11 #[.int .i8 r, .agg #[.int .i8 k1, .int .i64 n1, .string s1], .agg #[.int .i8 k2, .int .i64 n2, .string s2]] w fun e w' => e = .returned (.bool (holdsV r k1 n1 s1 k2 n2 s2)) ∧ Below w.heap.size w w' := by
  by_cases c1 : chk k1 n1 s1 = 0
  · by_cases c2 : chk k2 n2 s2 = 0
    · have HY : Hid (holdsV r k1 n1 s1 k2 n2 s2 = relB r (cmpV k1 n1 s1 k2 n2 s2)) := holdsV_yes c1 c2
      go_enter Try.func11, Try.ntmps11
      go_wp2_with fail
      refine (rcheck_any _ _ _ _ h1).mono ?_
      rintro e w1 ⟨rfl, hb1⟩
      obtain ⟨hc1, hf1⟩ := bcell hb1
      have hz1 : w.heap.size + 1 < w1.heap.size := by have := hb1.size; simp at this; omega
      have hz1' : w.heap.size < w1.heap.size := by omega
      go_wp2_with fail
      refine (rcheck_any _ _ _ _ h2).mono ?_
      rintro e w2 ⟨rfl, hb2⟩
      obtain ⟨hc2, hf2⟩ := bcell hb2
      have hz2 : w.heap.size + 1 < w2.heap.size := by have := hb2.size; omega
      have hz2' : w.heap.size < w2.heap.size := by omega
      go_wp2_with fail
      refine (rcompare_any _ _ _ _ _ _ _).mono ?_
      rintro e w3 ⟨rfl, hb3⟩
      have hz3 : w.heap.size + 1 < w3.heap.size := by have := hb3.size; omega
      have bel : Below w.heap.size w w3 := (((((Below.refl _ _).alloc (Nat.le_refl _) _).alloc (by simp) _).trans (hb1.mono (by simp; omega))).trans (hb2.mono (by omega))).trans (hb3.mono (by omega))
      clear hc1 hf1 hc2 hf2 hb1 hb2 hb3
      generalize cmpV k1 n1 s1 k2 n2 s2 = c at HY
      go_wp2
      all_goals
        go_ret
        refine ⟨ret_bool ?_, bel⟩
        rw [HY.out]
        go_light
        unfold relB
        simp_all
    · have c2' : (chk k2 n2 s2 != 0) = true := by simpa using c2
      have HY : Hid (holdsV r k1 n1 s1 k2 n2 s2 = false) := holdsV_no (fun h => c2 h.2)
      clear c2
      go_enter Try.func11, Try.ntmps11
      go_wp2_with fail
      refine (rcheck_any _ _ _ _ h1).mono ?_
      rintro e w1 ⟨rfl, hb1⟩
      obtain ⟨hc1, hf1⟩ := bcell hb1
      have hz1 : w.heap.size + 1 < w1.heap.size := by have := hb1.size; simp at this; omega
      have hz1' : w.heap.size < w1.heap.size := by omega
      go_wp2_with fail
      refine (rcheck_any _ _ _ _ h2).mono ?_
      rintro e w2 ⟨rfl, hb2⟩
      have bel : Below w.heap.size w w2 := ((((Below.refl _ _).alloc (Nat.le_refl _) _).alloc (by simp) _).trans (hb1.mono (by simp; omega))).trans (hb2.mono (by omega))
      go_wp2
      go_ret
      exact ⟨ret_bool HY.out.symm, bel⟩
  · have c1' : (chk k1 n1 s1 != 0) = true := by simpa using c1
    have HY : Hid (holdsV r k1 n1 s1 k2 n2 s2 = false) := holdsV_no (fun h => c1 h.1)
    clear c1
    go_enter Try.func11, Try.ntmps11
    go_wp2_with fail
    refine (rcheck_any _ _ _ _ h1).mono ?_
    rintro e w1 ⟨rfl, hb1⟩
    have bel : Below w.heap.size w w1 := (((Below.refl _ _).alloc (Nat.le_refl _) _).alloc (by simp) _).trans (hb1.mono (by simp; omega))
    go_wp2
    go_ret
    exact ⟨ret_bool HY.out.symm, bel⟩

end Go.Proofs.Ytkcgnommiaiidaa
