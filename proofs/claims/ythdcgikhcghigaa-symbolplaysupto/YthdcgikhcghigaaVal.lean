import Derived.Test.YthdcgikhcghigaaProg
import Derived.Test.YthdcgikhcghigaaMath
import Derived.WalkKit
import Derived.WalkSpells
import Derived.WalkLawsBesides
import Derived.Below
import Derived.Deep.RegionHeld3
import Derived.Deep.DrawnRows
import Derived.Deep.Light
import Derived.Lib.Strings
import Derived.Lib.Slices
import Derived.Lib.Small
import Derived.Lib.Walk
import Derived.Lib.Bytealg
namespace Go.Proofs.Ythdcgikhcghigaa
open Go.RowKit
set_option linter.unusedVariables false

set_option maxHeartbeats 400000 in
theorem vcheck_any (k n : Int) (s : ByteArray) (w : World) (hs : s.size ≤ maxLen) :
    Calls Try.prog 25 #[.agg #[.int .i8 k, .int .i64 n, .string s]] w fun e w' => e = .returned (.int .i64 (chk k n s)) ∧ Below w.heap.size w w' := by
  unfold maxLen at hs
  go_enter Try.func25, Try.ntmps25
  go_wp2
  all_goals
    go_ret
    refine ⟨ret_int ?_, (Below.refl _ _).alloc (Nat.le_refl _) _⟩
    skip
    first
      | (refine chk_ok ?_; simp_all; done)
      | (refine chk_no ?_; simp_all; done)
      | (refine chk_no ?_; simp_all; omega)
      | (exfalso; simp_all; done)

set_option maxHeartbeats 400000 in
theorem rcheck_any (k n : Int) (s : ByteArray) (w : World) (hs : s.size ≤ maxLen) :
    Calls Try.prog 26 #[.agg #[.int .i8 k, .int .i64 n, .string s]] w fun e w' => e = .returned (.int .i64 (chk k n s)) ∧ Below w.heap.size w w' := by
  unfold maxLen at hs
  go_enter Try.func26, Try.ntmps26
  go_wp2
  all_goals
    go_ret
    refine ⟨ret_int ?_, (Below.refl _ _).alloc (Nat.le_refl _) _⟩
    skip
    first
      | (refine chk_ok ?_; simp_all; done)
      | (refine chk_no ?_; simp_all; done)
      | (refine chk_no ?_; simp_all; omega)
      | (exfalso; simp_all; done)

end Go.Proofs.Ythdcgikhcghigaa
