import Derived.Test.YtkcgnommiaiidaaRows
import Derived.WalkKit
import Derived.WalkSpells
import Derived.WalkLawsBesides
import Derived.Below
import Derived.Deep.QuietTactic
import Derived.BigQuiet
import Derived.Deep.RegionWith
import Derived.ChangeOld
namespace Go.Proofs.Ytkcgnommiaiidaa
open Go.RowKit
set_option linter.unusedVariables false

theorem bcell {W w1 : World} (hb : Below W.heap.size W w1) : (∀ b o, b < W.heap.size → w1.cell? ⟨b, o, none⟩ = W.cell? ⟨b, o, none⟩) ∧ (∀ b o, b < W.heap.size → w1.frozen? ⟨b, o, none⟩ = W.frozen? ⟨b, o, none⟩) :=
  ⟨fun b o h => hb.cell (p := ⟨b, o, none⟩) h, fun b o h => hb.frozen (p := ⟨b, o, none⟩) h⟩

def chk (k n : Int) (s : ByteArray) : Int :=
  if k = 1 ∧ s.toList = [] ∨ k = 2 ∧ n = 0 ∧ (s.size : Int) ≤ 200 then 0 else 10

theorem chk_ok {k n : Int} {s : ByteArray} (h : k = 1 ∧ s.toList = [] ∨ k = 2 ∧ n = 0 ∧ (s.size : Int) ≤ 200) : 0 = chk k n s := (if_pos h).symm
theorem chk_no {k n : Int} {s : ByteArray} (h : ¬ (k = 1 ∧ s.toList = [] ∨ k = 2 ∧ n = 0 ∧ (s.size : Int) ≤ 200)) : 10 = chk k n s := (if_neg h).symm

theorem ret_int {k : IntKind} {a b : Int} (h : a = b) : Ending.returned (.int k a) = .returned (.int k b) := by rw [h]

set_option maxHeartbeats 400000 in
theorem vcheck_any (k n : Int) (s : ByteArray) (w : World) (hs : s.size ≤ maxLen) :
    Calls Try.prog 6 #[.agg #[.int .i8 k, .int .i64 n, .string s]] w fun e w' => e = .returned (.int .i64 (chk k n s)) ∧ Below w.heap.size w w' := by
  unfold maxLen at hs
  go_enter Try.func6, Try.ntmps6
  go_wp2
  all_goals
    go_ret
    refine ⟨ret_int ?_, (Below.refl _ _).alloc (Nat.le_refl _) _⟩
    skip
    first
      | (refine chk_ok ?_; simp_all; done)
      | (refine chk_no ?_; simp_all; done)
      | (refine chk_no ?_; simp_all; omega)
      | (exfalso; simp_all; done)

set_option maxHeartbeats 400000 in
theorem rcheck_any (k n : Int) (s : ByteArray) (w : World) (hs : s.size ≤ maxLen) :
    Calls Try.prog 7 #[.agg #[.int .i8 k, .int .i64 n, .string s]] w fun e w' => e = .returned (.int .i64 (chk k n s)) ∧ Below w.heap.size w w' := by
  unfold maxLen at hs
  go_enter Try.func7, Try.ntmps7
  go_wp2
  all_goals
    go_ret
    refine ⟨ret_int ?_, (Below.refl _ _).alloc (Nat.le_refl _) _⟩
    skip
    first
      | (refine chk_ok ?_; simp_all; done)
      | (refine chk_no ?_; simp_all; done)
      | (refine chk_no ?_; simp_all; omega)
      | (exfalso; simp_all; done)

set_option maxHeartbeats 400000 in
theorem checks_walk (k n : Int) (s : ByteArray) (w : World) (hs : s.size ≤ maxLen) :
    Calls Try.prog 3 #[.agg #[.int .i8 k, .int .i64 n, .string s]] w fun e w' => e = .returned (.bool true) ∧ Below w.heap.size w w' := by
  go_enter Try.func3, Try.ntmps3
  go_wp2_with fail
  go_region_with (first
    | (go_at_call 6; refine (vcheck_any _ _ _ _ hs).mono ?_; rintro e w1 ⟨rfl, hb1⟩; obtain ⟨hc1, hf1⟩ := bcell hb1)
    | (go_at_call 7; refine (rcheck_any _ _ _ _ hs).mono ?_; rintro e w2 ⟨rfl, hb2⟩; obtain ⟨hc2, hf2⟩ := bcell hb2))
  all_goals
    go_wp2
    go_ret
    refine ⟨?_, ?_⟩
    · rfl
    · exact ((((Below.refl _ _).alloc (Nat.le_refl _) _).drew).trans (hb1.mono (by simp))).trans (hb2.mono (by have := hb1.size; simp at this; omega))

end Go.Proofs.Ytkcgnommiaiidaa
