import Derived.Test.YtnpmhgjbfkgmdaaDoorOnMute
import Derived.BigQuiet
namespace Go.Proofs.YtnpmhgjbfkgmdaaDoor
open Go.RowKit Go.Maps
set_option linter.unusedVariables false
set_option linter.unusedSimpArgs false
attribute [local go_sem ↓] Go.wp_at_zero Go.wp_at_succ

set_option maxHeartbeats 3200000 in
theorem sameTerms_same (v v' : Value) (ts : List T) (w : World) (h1 : Lt w v ts) (h2 : Lt w v' ts) :
    Calls Tryd.prog 27 #[v, v'] w fun r w' => r = .returned (.bool true) ∧ Below w.heap.size w w' := by
  obtain ⟨a, c, rfl, hc1, hc2, hk⟩ := h1.form
  obtain ⟨a', c', rfl, hc1', hc2', hk'⟩ := h2.form
  have hmax : ts.length ≤ maxLen := Nat.le_trans hc1 hc2
  unfold maxLen at hmax
  have HK : Hid _ := hk
  have HK' : Hid _ := hk'
  clear hk hk' h1 h2 hc2 hc2'
  go_enter Tryd.func27, Tryd.ntmps27
  go_wp2
  go_loopw [5] (fun i wr => ∃ k : Nat, k ≤ ts.length ∧ i = .int .i64 k ∧ Below w.heap.size w wr) (fun i _ => ts.length - (intOf i).toNat)
  case atStart => exact ⟨0, Nat.zero_le _, rfl, Below.refl _ _⟩
  case round =>
    obtain ⟨k, hk, rfl, bel⟩ := hrel
    by_cases hlt : k < ts.length
    · have hlt' : (k : Int) < (ts.length : Int) := by omega
      obtain ⟨g, off, rfl, hg, hKS⟩ := HK.out (by omega)
      obtain ⟨g', off', rfl, hg', hKS'⟩ := HK'.out (by omega)
      obtain ⟨y0, y1, y2, y3⟩ := (hKS k hlt).below bel hg
      obtain ⟨z0, z1, z2, z3⟩ := (hKS' k hlt).below bel hg'
      generalize atT ts k = x at y0 y1 y2 y3 z0 z1 z2 z3
      have hQ : ∀ u, (binOp .neq 38 (.agg #[.string x.v, .int .i8 x.a.k, .int .i64 x.a.n, .string x.a.s]) (.agg #[.string x.v, .int .i8 x.a.k, .int .i64 x.a.n, .string x.a.s])).run Tryd.prog u = .ok (.bool false) u := fun u => by
        go_simp
      clear hKS hKS'
      go_wp2_with fail
      go_quiet (fail)
      go_wp2
      go_roundw
      case rel => exact ⟨k + 1, by omega, by go_num, below_drewN bel _⟩
      case measure => simp [intOf]; omega
    · obtain rfl : k = ts.length := by omega
      go_wp2
      go_ret
      exact ⟨rfl, bel⟩
set_option maxHeartbeats 1600000 in
theorem sameAtom_same (pr : ByteArray) (ts : List T) (v v' : Value) (w : World) (h1 : Lt w v ts) (h2 : Lt w v' ts) :
    Calls Tryd.prog 9 #[.agg #[.string pr, v], .agg #[.string pr, v']] w fun r w' => r = .returned (.bool true) ∧ Below w.heap.size w w' := by
  obtain ⟨a, c, rfl, hc1, hc2, -⟩ := h1.form
  obtain ⟨a', c', rfl, hc1', hc2', -⟩ := h2.form
  have BA := (Below.refl w.heap.size w).alloc (Nat.le_refl _) (.cells #[.string pr, .slice a ts.length c] 24)
  have BB := BA.alloc BA.size (.cells #[.string pr, .slice a' ts.length c'] 24)
  have HL : Hid _ := sameTerms_same _ _ ts _ (h1.below BB) (h2.below BB)
  have HB : Hid (Below w.heap.size w _) := BB
  have e0 : (pr.toList == pr.toList) = true := by simp
  clear h1 h2 BA BB
  go_enter Tryd.func9, Tryd.ntmps9
  go_wp2_with (go_at_call 27; refine Calls.mono HL.out ?_; rintro ee w1 ⟨rfl, b1⟩)
  go_ret
  exact ⟨rfl, HB.out.trans (b1.mono HB.out.size)⟩
end Go.Proofs.YtnpmhgjbfkgmdaaDoor
