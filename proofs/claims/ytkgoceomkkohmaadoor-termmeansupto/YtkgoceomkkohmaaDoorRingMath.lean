import Derived.Test.YtkgoceomkkohmaaDoorMath
namespace Go.Proofs.YtkgoceomkkohmaaDoor.AR
open Go.RowKit
set_option linter.unusedVariables false

def addW (a b : Int) : Int := wrap64 (a + b)
def subW (a b : Int) : Int := wrap64 (a - b)
def mulW (a b : Int) : Int := wrap64 (a * b)
def divW (a b : Int) : Int := wrap64 (a.tdiv b)
def modW (a b : Int) : Int := a.tmod b
def negW (a : Int) : Int := wrap64 (-a)
/-- how far a number lies from 0 -/
def szW (a : Int) : Int := if a < 0 then -a else a
def In64 (a : Int) : Prop := -9223372036854775808 ≤ a ∧ a ≤ 9223372036854775807

theorem wrap_rep (n : Int) : ∃ q : Int, wrap64 n = n + 18446744073709551616 * q := by
  refine ⟨-((n + 9223372036854775808) / 18446744073709551616), ?_⟩
  unfold wrap64
  omega
theorem wrap_more (n q : Int) : wrap64 (n + 18446744073709551616 * q) = wrap64 n := by
  unfold wrap64
  omega
theorem wrap_id {n : Int} (h : In64 n) : wrap64 n = n := by
  unfold wrap64
  unfold In64 at h
  omega
theorem wrap_in (n : Int) : In64 (wrap64 n) := by
  unfold In64 wrap64
  omega

theorem wrap_add_l (x c : Int) : wrap64 (wrap64 x + c) = wrap64 (x + c) := by
  obtain ⟨q, h⟩ := wrap_rep x
  rw [h, show x + 18446744073709551616 * q + c = (x + c) + 18446744073709551616 * q by omega, wrap_more]
theorem wrap_add_r (x c : Int) : wrap64 (c + wrap64 x) = wrap64 (c + x) := by
  rw [Int.add_comm, wrap_add_l, Int.add_comm]
theorem wrap_sub_l (x c : Int) : wrap64 (wrap64 x - c) = wrap64 (x - c) := by
  have := wrap_add_l x (-c)
  simpa [Int.sub_eq_add_neg] using this
theorem wrap_mul_l (x c : Int) : wrap64 (wrap64 x * c) = wrap64 (x * c) := by
  obtain ⟨q, h⟩ := wrap_rep x
  rw [h, Int.add_mul, Int.mul_assoc, wrap_more]
theorem wrap_mul_r (x c : Int) : wrap64 (c * wrap64 x) = wrap64 (c * x) := by
  rw [Int.mul_comm, wrap_mul_l, Int.mul_comm]

theorem addW_comm (a b : Int) : addW b a = addW a b := by unfold addW; rw [Int.add_comm]
theorem addW_assoc (a b c : Int) : addW a (addW b c) = addW (addW a b) c := by
  unfold addW
  rw [wrap_add_r, wrap_add_l, Int.add_assoc]
theorem subW_addW (a b : Int) (h : In64 a) : subW (addW a b) b = a := by
  unfold subW addW
  rw [wrap_sub_l, show a + b - b = a by omega, wrap_id h]
theorem mulW_comm (a b : Int) : mulW b a = mulW a b := by unfold mulW; rw [Int.mul_comm]
theorem mulW_assoc (a b c : Int) : mulW a (mulW b c) = mulW (mulW a b) c := by
  unfold mulW
  rw [wrap_mul_r, wrap_mul_l, Int.mul_assoc]
theorem mulW_addW (a b c : Int) : mulW a (addW b c) = addW (mulW a b) (mulW a c) := by
  unfold mulW addW
  rw [wrap_mul_r, wrap_add_l, wrap_add_r, Int.mul_add]
theorem mulW_one (a : Int) (h : In64 a) : mulW a 1 = a := by unfold mulW; rw [Int.mul_one, wrap_id h]
theorem addW_zero (a : Int) (h : In64 a) : addW a 0 = a := by unfold addW; rw [Int.add_zero, wrap_id h]
theorem addW_negW (a : Int) : addW a (negW a) = 0 := by
  unfold addW negW
  rw [wrap_add_r, show a + -a = 0 by omega]
  exact wrap_id (by unfold In64; omega)

theorem divmodW (a b : Int) (h : In64 a) : addW (mulW (divW a b) b) (modW a b) = a := by
  unfold addW mulW divW modW
  rw [wrap_mul_l, wrap_add_l]
  have e : a.tdiv b * b + a.tmod b = a := by rw [Int.mul_comm]; exact Int.mul_tdiv_add_tmod a b
  rw [e, wrap_id h]

theorem szW_abs (a : Int) : szW a = a.natAbs := by unfold szW; split <;> omega
theorem szW_mod (a b : Int) (hb : ¬ b = 0) : szW (modW a b) < szW b := by
  rw [szW_abs, szW_abs]
  unfold modW
  have h := Int.natAbs_tmod a b
  rw [h]
  have : 0 < b.natAbs := by omega
  have := Nat.mod_lt a.natAbs this
  omega
theorem szW_div (a b : Int) (ha : In64 a) : szW (divW a b) ≤ szW a := by
  have h1 : (a.tdiv b).natAbs ≤ a.natAbs := by
    rw [Int.natAbs_tdiv]
    exact Nat.div_le_self _ _
  rw [szW_abs a]
  unfold divW szW wrap64
  unfold In64 at ha
  split <;> omega
theorem modW_sign (a b : Int) (h : ¬ modW a b = 0) : decide (modW a b < 0) = decide (a < 0) := by
  unfold modW at *
  by_cases ha : a < 0
  · have e : a.tmod b = -((-a).tmod b) := by rw [← Int.neg_tmod]; simp
    have : 0 ≤ (-a).tmod b := Int.tmod_nonneg b (by omega)
    have : a.tmod b < 0 := by omega
    simp [ha, this]
  · have : 0 ≤ a.tmod b := Int.tmod_nonneg b (by omega)
    have n : ¬ a.tmod b < 0 := by omega
    simp [ha, n]
theorem modW_in (a b : Int) (ha : In64 a) : In64 (modW a b) := by
  have h : (a.tmod b).natAbs ≤ a.natAbs := by
    rw [Int.natAbs_tmod]
    exact Nat.mod_le _ _
  by_cases c : a < 0
  · have e : a.tmod b = -((-a).tmod b) := by rw [← Int.neg_tmod]; simp
    have : 0 ≤ (-a).tmod b := Int.tmod_nonneg b (by omega)
    unfold modW In64 at *
    omega
  · unfold modW In64 at *
    omega

end Go.Proofs.YtkgoceomkkohmaaDoor.AR
