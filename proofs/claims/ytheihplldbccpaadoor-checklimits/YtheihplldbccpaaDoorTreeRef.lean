import Derived.Test.YtheihplldbccpaaDoorTermTree
import Derived.Deep.RegionHeld3
namespace Go.Proofs.YtheihplldbccpaaDoor
open Go.RowKit Go.Maps
set_option linter.unusedVariables false
set_option linter.unusedSimpArgs false
attribute [local go_sem ↓] Go.wp_at_zero Go.wp_at_succ

theorem run_neqT (t u : T) (w : World) :
    (binOp .neq 44 (.agg #[.string t.v, .int .i8 t.a.k, .int .i64 t.a.n, .string t.a.s]) (.agg #[.string u.v, .int .i8 u.a.k, .int .i64 u.a.n, .string u.a.s])).run Tryd.prog w = .ok (.bool (!decide (t = u))) w := by
  obtain ⟨tv, k1, n1, s1⟩ := t
  obtain ⟨uv, k2, n2, s2⟩ := u
  dsimp only
  by_cases hv : tv.toList = uv.toList
  · have ev := toList_inj hv
    subst ev
    by_cases hk : k1 = k2
    · by_cases hn : n1 = n2
      · by_cases hs : s1.toList = s2.toList
        · have := toList_inj hs
          subst hk hn this
          go_simp
        · have e : decide ((⟨tv, k1, n1, s1⟩ : T) = ⟨tv, k2, n2, s2⟩) = false := decide_eq_false (fun h => hs (by cases h; rfl))
          rw [e]
          go_simp
      · have e : decide ((⟨tv, k1, n1, s1⟩ : T) = ⟨tv, k2, n2, s2⟩) = false := decide_eq_false (fun h => hn (by cases h; rfl))
        rw [e]
        go_simp
    · have e : decide ((⟨tv, k1, n1, s1⟩ : T) = ⟨tv, k2, n2, s2⟩) = false := decide_eq_false (fun h => hk (by cases h; rfl))
      rw [e]
      go_simp
  · have e : decide ((⟨tv, k1, n1, s1⟩ : T) = ⟨uv, k2, n2, s2⟩) = false := decide_eq_false (fun h => hv (by cases h; rfl))
    rw [e]
    go_simp
end Go.Proofs.YtheihplldbccpaaDoor
