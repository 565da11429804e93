import Derived.Test.YtlnhnpfgmiffpaaRpRoA
import Derived.Test.YtlnhnpfgmiffpaaG5
namespace Go.Proofs.Ytlnhnpfgmiffpaa
open Go.RowKit Go.Maps Go.Shelf
set_option linter.unusedVariables false
set_option linter.unusedSimpArgs false
attribute [local go_sem ↓] Go.wp_at_zero Go.wp_at_succ
set_option maxHeartbeats 800000 in
set_option maxRecDepth 100000 in
theorem new_bad (n : Int) (h : n < 0 ∨ 24 < n) (w : World) : Calls Try.prog 4 #[.int .i64 n] w fun e w' => e = .returned (.tuple #[.pointer none, .int .i64 1]) ∧ w' = w := by
  rcases h with h | h
  · go_enter Try.func4, Try.ntmps4
    go_wp2
    go_ret2
    exact ⟨rfl, rfl⟩
  · have h0 : ¬ n < 0 := by omega
    go_enter Try.func4, Try.ntmps4
    go_wp2
    go_ret2
    exact ⟨rfl, rfl⟩
/-- New of both sides -/
theorem pa_new (a : Int) : ∃ (fl : Bool) (n : Nat) (er : Int),
    (∀ u, Calls Try.prog 4 #[.int .i64 a] u fun e u' => ∃ q, e = .returned (.tuple #[.pointer q, .int .i64 er]) ∧ Ct u' u.heap.size fl (.pointer q) [] n ∧ Below u.heap.size u u') ∧
    ∀ u, Calls Try.prog 5 #[.int .i64 a] u fun e u' => ∃ q, e = .returned (.tuple #[.pointer q, .int .i64 er]) ∧ Cr u' u.heap.size fl (.pointer q) [] n ∧ Below u.heap.size u u' := by
  by_cases h : 0 ≤ a ∧ a ≤ 24
  · obtain ⟨n, rfl⟩ : ∃ n : Nat, a = (n : Int) := ⟨a.toNat, by omega⟩
    refine ⟨false, n, 0, fun u => ?_, fun u => ?_⟩
    · refine (new_any (n : Int) h.1 h.2 u).mono ?_
      rintro e u' ⟨t, m, rfl, hr, hb⟩
      exact ⟨_, rfl, .live hr (by omega), hb⟩
    · refine (rnew_any (n : Int) h.1 h.2 u).mono ?_
      rintro e u' ⟨p, rfl, hr, hb⟩
      exact ⟨_, rfl, .live hr, hb⟩
  · have h' : a < 0 ∨ 24 < a := by omega
    refine ⟨true, 0, 1, fun u => ?_, fun u => ?_⟩
    · refine (new_bad a h' u).mono ?_
      rintro e u' ⟨rfl, rfl⟩
      exact ⟨_, rfl, .nil, Below.refl _ _⟩
    · refine (rnew_bad a h' u).mono ?_
      rintro e u' ⟨rfl, rfl⟩
      exact ⟨_, rfl, .nil, Below.refl _ _⟩
end Go.Proofs.Ytlnhnpfgmiffpaa
