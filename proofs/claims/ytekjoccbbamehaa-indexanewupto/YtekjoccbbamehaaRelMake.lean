import Derived.Test.YtekjoccbbamehaaRelKeep
namespace Go.Proofs.Ytekjoccbbamehaa
open Go.RowKit Go.Maps Go.ChangeMaps
set_option linter.unusedVariables false
set_option linter.unusedSimpArgs false
attribute [local go_sem ↓] Go.wp_at_zero Go.wp_at_succ

set_option maxHeartbeats 1600000 in
set_option maxRecDepth 100000 in
theorem new_any (n : Int) (h0 : 0 ≤ n) (h1 : n ≤ 24) (w : World) : Calls Try.prog 21 #[.int .i64 n] w fun e w' => ∃ t m, e = .returned (.tuple #[.pointer (some ⟨t, 0, none⟩), .int .i64 0]) ∧ Rel w' w.heap.size t m (.slice none 0 0) [] n 0 ∧ Below w.heap.size w w' := by
  have h0' : ¬ n < 0 := by omega
  have h1' : ¬ (24 : Int) < n := by omega
  go_enter Try.func21, Try.ntmps21
  go_wp2_with fail
  refine (keep_nil _).mono ?_
  rintro e w1 ⟨m, rfl, hm, hle, b1⟩
  have hml := hm.lt
  have ha : Below w1.heap.size w1 (w1.alloc (.cells #[.slice none 0 0, .map (some m), .int .i64 n, .int .i64 0] 65)) := (Below.refl _ _).alloc (Nat.le_refl _) _
  have HR : Hid (Rel (w1.alloc (.cells #[.slice none 0 0, .map (some m), .int .i64 n, .int .i64 0] 65)) w.heap.size w1.heap.size m (.slice none 0 0) [] n 0) :=
    ⟨rl_new w1 #[.slice none 0 0, .map (some m), .int .i64 n, .int .i64 0] 65, World.ownsRow_nil _ _ _ _, hm.below ha, by simp, by simp, ⟨b1.size, hle⟩, by omega, fun g hg => by cases hg⟩
  have HB := Lib.hid (b1.trans (ha.mono b1.size))
  clear hm hle b1 ha hml
  go_wp2
  go_ret2
  exact ⟨_, m, rfl, HR.out, HB.out⟩
end Go.Proofs.Ytekjoccbbamehaa
