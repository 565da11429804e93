import Derived.Test.YthkbcgedjecnlaaDoorLexLives
import Derived.Deep.QuietTactic
import Derived.BigQuiet
namespace Go.Proofs.YthkbcgedjecnlaaDoor
open Go.RowKit Go.Maps
set_option linter.unusedVariables false
set_option linter.unusedSimpArgs false
attribute [local go_sem ↓] Go.wp_at_zero Go.wp_at_succ

def Tk.bare (t : Tk) : Tk := { t with a := 0 }
theorem toList_ne {s t : ByteArray} (h : s ≠ t) : (s.toList == t.toList) = false := by
  rw [beq_eq_false_iff_ne, ByteArray.toList_eq, ByteArray.toList_eq]
  intro e
  apply h
  cases s with | mk a => cases t with | mk b =>
  simp at e
  exact congrArg ByteArray.mk e
theorem mk_ne {l m : List UInt8} (h : l ≠ m) : (⟨l.toArray⟩ : ByteArray) ≠ ⟨m.toArray⟩ := fun e => h (by simpa using e)
theorem tok_eql (t u : Tk) (w : World) : (binOp .eql 37 (.agg #[.int .i8 t.k, .string ⟨t.s.toArray⟩, .int .i64 t.n, .int .i64 t.a]) (.agg #[.int .i8 u.k, .string ⟨u.s.toArray⟩, .int .i64 u.n, .int .i64 u.a])).run Tryd.prog w = .ok (.bool (decide (t = u))) w := by
  cases t with | mk k1 s1 n1 a1 =>
  cases u with | mk k2 s2 n2 a2 =>
  simp only [Tk.mk.injEq]
  by_cases hk : k1 = k2
  · by_cases hs : s1 = s2
    · by_cases hn : n1 = n2
      · by_cases ha : a1 = a2
        · subst hk hs hn ha
          rw [decide_eq_true ⟨rfl, rfl, rfl, rfl⟩]
          go_simp
        · rw [decide_eq_false (fun h => ha h.2.2.2)]
          subst hk hs hn
          go_simp
      · rw [decide_eq_false (fun h => hn h.2.2.1)]
        subst hk hs
        go_simp
    · have hs' := toList_ne (mk_ne hs)
      rw [decide_eq_false (fun h => hs h.2.1)]
      subst hk
      generalize (⟨s1.toArray⟩ : ByteArray) = x1 at *
      generalize (⟨s2.toArray⟩ : ByteArray) = x2 at *
      go_simp
  · rw [decide_eq_false (fun h => hk h.1)]
    generalize (⟨s1.toArray⟩ : ByteArray) = x1 at *
    generalize (⟨s2.toArray⟩ : ByteArray) = x2 at *
    go_simp
theorem tok_neq (t u : Tk) (w : World) : (binOp .neq 37 (.agg #[.int .i8 t.k, .string ⟨t.s.toArray⟩, .int .i64 t.n, .int .i64 t.a]) (.agg #[.int .i8 u.k, .string ⟨u.s.toArray⟩, .int .i64 u.n, .int .i64 u.a])).run Tryd.prog w = .ok (.bool (!decide (t = u))) w := by
  cases t with | mk k1 s1 n1 a1 =>
  cases u with | mk k2 s2 n2 a2 =>
  simp only [Tk.mk.injEq]
  by_cases hk : k1 = k2
  · by_cases hs : s1 = s2
    · by_cases hn : n1 = n2
      · by_cases ha : a1 = a2
        · subst hk hs hn ha
          rw [decide_eq_true ⟨rfl, rfl, rfl, rfl⟩]
          go_simp
        · rw [decide_eq_false (fun h => ha h.2.2.2)]
          subst hk hs hn
          go_simp
      · rw [decide_eq_false (fun h => hn h.2.2.1)]
        subst hk hs
        go_simp
    · have hs' := toList_ne (mk_ne hs)
      rw [decide_eq_false (fun h => hs h.2.1)]
      subst hk
      generalize (⟨s1.toArray⟩ : ByteArray) = x1 at *
      generalize (⟨s2.toArray⟩ : ByteArray) = x2 at *
      go_simp
  · rw [decide_eq_false (fun h => hk h.1)]
    generalize (⟨s1.toArray⟩ : ByteArray) = x1 at *
    generalize (⟨s2.toArray⟩ : ByteArray) = x2 at *
    go_simp
theorem bare_iff (t u : Tk) : ({ t with a := u.a } = u) ↔ t.bare = u.bare := by
  cases t; cases u; simp [Tk.bare]

end Go.Proofs.YthkbcgedjecnlaaDoor
