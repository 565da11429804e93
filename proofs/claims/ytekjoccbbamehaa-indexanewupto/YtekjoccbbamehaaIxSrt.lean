import Derived.Test.YtekjoccbbamehaaIxLk
namespace Go.Proofs.Ytekjoccbbamehaa
open Go.RowKit Go.Maps Go.ChangeMaps
set_option linter.unusedVariables false
set_option linter.unusedSimpArgs false
attribute [local go_sem ↓] Go.wp_at_zero Go.wp_at_succ

/-! slices.Sort of masks: none, or one -/
set_option maxHeartbeats 1600000 in
set_option maxRecDepth 100000 in
theorem len64_one (x : Int) (hx : x = 0 ∨ x = 1) (w : World) : Calls Try.prog 59 #[.int .u64 x] w fun e w' => (∃ v, e = .returned (.int .i64 v)) ∧ w' = w := by
  rcases hx with rfl | rfl
  all_goals
    go_enter Try.func59, Try.ntmps59
    go_wp2
    go_ret
    exact ⟨⟨_, rfl⟩, rfl⟩
set_option maxHeartbeats 1600000 in
set_option maxRecDepth 100000 in
theorem bitsLen_one (x : Int) (hx : x = 0 ∨ x = 1) (w : World) : Calls Try.prog 41 #[.int .u64 x] w fun e w' => (∃ v, e = .returned (.int .i64 v)) ∧ w' = w := by
  have H := Lib.hid (len64_one x hx w)
  go_enter Try.func41, Try.ntmps41
  go_wp2_with fail
  refine H.out.mono ?_
  rintro e w' ⟨⟨v, rfl⟩, rfl⟩
  go_wp2
  go_ret
  exact ⟨⟨_, rfl⟩, rfl⟩
set_option maxHeartbeats 1600000 in
set_option maxRecDepth 100000 in
theorem insertM_one (v : Value) (n : Nat) (hn : n ≤ 1) (w : World) : Calls Try.prog 49 #[v, .int .i64 0, .int .i64 (n : Int)] w fun e w' => (∃ u, e = .returned u) ∧ w' = w := by
  have hlt : ¬ ((1 : Int) < (n : Int)) := by omega
  go_enter Try.func49, Try.ntmps49
  go_wp2
  go_loopw [6] (fun i wr => i = .int .i64 1 ∧ wr = w) (fun _ _ => 0)
  case atStart => exact ⟨rfl, rfl⟩
  case round =>
    obtain ⟨rfl, rfl⟩ := hrel
    go_wp2
    go_end0
    exact ⟨⟨_, rfl⟩, rfl⟩
set_option maxHeartbeats 1600000 in
set_option maxRecDepth 100000 in
theorem pdqM_one (v : Value) (n : Nat) (hn : n ≤ 1) (k : Int) (w : World) : Calls Try.prog 40 #[v, .int .i64 0, .int .i64 (n : Int), .int .i64 k] w fun e w' => (∃ u, e = .returned u) ∧ w' = w := by
  have hle : ((n : Int) ≤ 12) := by omega
  have HI := Lib.hid (insertM_one v n hn w)
  go_enter Try.func40, Try.ntmps40
  go_wp2
  go_loopw [1, 2, 3] (fun a b c wr => a = .int .i64 0 ∧ b = .int .i64 (n : Int) ∧ c = .int .i64 k ∧ wr = w) (fun _ _ _ _ => 0)
  case atStart => exact ⟨rfl, rfl, rfl, rfl⟩
  case round =>
    obtain ⟨rfl, rfl, rfl, rfl⟩ := hrel
    go_wp2_with fail
    refine HI.out.mono ?_
    rintro e w' ⟨⟨u, rfl⟩, rfl⟩
    go_wp2
    refine bodyPost_ret (results_none Try.results40 _ _ _) rfl ?_
    exact ⟨⟨_, rfl⟩, rfl⟩
set_option maxHeartbeats 1600000 in
set_option maxRecDepth 100000 in
theorem sortM_one (a : Option Addr) (n c : Nat) (hn : n ≤ 1) (w : World) : Calls Try.prog 32 #[.slice a n c] w fun e w' => (∃ u, e = .returned u) ∧ w' = w := by
  have hx : ((n : Int) = 0 ∨ (n : Int) = 1) := by omega
  have HI := Lib.hid (bitsLen_one (n : Int) hx w)
  have HP := fun k => Lib.hid (pdqM_one (.slice a n c) n hn k w)
  clear hx
  go_enter Try.func32, Try.ntmps32
  go_wp2_with fail
  refine HI.out.mono ?_
  rintro e w' ⟨⟨u, rfl⟩, rfl⟩
  go_wp2_with fail
  refine (HP u).out.mono ?_
  rintro e w'' ⟨⟨u, rfl⟩, rfl⟩
  go_wp2
  go_end0
  exact ⟨⟨_, rfl⟩, rfl⟩
end Go.Proofs.Ytekjoccbbamehaa
