import Derived.Test.YthffncfnjaecdaaDoorTermBnd
namespace Go.Proofs.YthffncfnjaecdaaDoor
open Go.RowKit Go.Maps
set_option linter.unusedVariables false
set_option linter.unusedSimpArgs false
attribute [local go_sem ↓] Go.wp_at_zero Go.wp_at_succ

theorem run_neqB_same (x : B) (u : World) : (binOp .neq 46 (.agg #[.string x.v, .int .i8 x.a.k, .int .i64 x.a.n, .string x.a.s]) (.agg #[.string x.v, .int .i8 x.a.k, .int .i64 x.a.n, .string x.a.s])).run Tryd.prog u = .ok (.bool false) u := by
  go_simp
set_option maxHeartbeats 3200000 in
theorem sameBinds_same (v v' : Value) (l : List B) (w : World) (h1 : Lb w v l) (h2 : Lb w v' l) :
    Calls Tryd.prog 8 #[v, v'] w fun r w' => r = .returned (.bool true) ∧ Below w.heap.size w w' := by
  obtain ⟨a, c, rfl, hc1, hc2, hk⟩ := h1.form
  obtain ⟨a', c', rfl, hc1', hc2', hk'⟩ := h2.form
  have hmax : l.length ≤ maxLen := Nat.le_trans hc1 hc2
  unfold maxLen at hmax
  have HK : Hid _ := hk
  have HK' : Hid _ := hk'
  clear hk hk' h1 h2 hc2 hc2'
  go_enter Tryd.func8, Tryd.ntmps8
  go_wp2
  go_loopw [5] (fun i wr => ∃ k : Nat, k ≤ l.length ∧ i = .int .i64 k ∧ Below w.heap.size w wr) (fun i _ => l.length - (intOf i).toNat)
  case atStart => exact ⟨0, Nat.zero_le _, rfl, Below.refl _ _⟩
  case round =>
    obtain ⟨k, hk, rfl, bel⟩ := hrel
    by_cases hlt : k < l.length
    · have hlt' : (k : Int) < (l.length : Int) := by omega
      obtain ⟨g, off, rfl, hg, hKS⟩ := HK.out (by omega)
      obtain ⟨g', off', rfl, hg', hKS'⟩ := HK'.out (by omega)
      obtain ⟨y0, y1, y2, y3⟩ := (hKS k hlt).below bel hg
      obtain ⟨z0, z1, z2, z3⟩ := (hKS' k hlt).below bel hg'
      simp only at y0 y1 y2 y3 z0 z1 z2 z3
      generalize atB l k = x at y0 y1 y2 y3 z0 z1 z2 z3
      have hQ := run_neqB_same x
      clear hKS hKS'
      go_wp2_with fail
      go_quiet (fail)
      go_wp2
      go_roundw
      case rel => exact ⟨k + 1, by omega, by go_num, below_drewN bel _⟩
      case measure => simp [intOf]; omega
    · obtain rfl : k = l.length := by omega
      go_wp2
      go_ret
      exact ⟨rfl, bel⟩
end Go.Proofs.YthffncfnjaecdaaDoor
