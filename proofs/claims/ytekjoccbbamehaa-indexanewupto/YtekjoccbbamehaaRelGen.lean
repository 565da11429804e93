import Derived.Test.YtekjoccbbamehaaRelFits
import Derived.Deep.MidRow
import Derived.Deep.WholeRow
namespace Go.Proofs.Ytekjoccbbamehaa
open Go.RowKit Go.Maps
set_option linter.unusedVariables false
set_option linter.unusedSimpArgs false
attribute [local go_sem ↓] Go.wp_at_zero Go.wp_at_succ

theorem below_drewV {B : Nat} {a w : World} (h : Below B a w) (n : Nat) : Below B a (w.drewN n) := ⟨h.os, h.tape, h.output, h.size, h.block⟩
/-- a block that holds these cells -/
def RL (w : World) (b : Nat) (t : TypeId) (l : List Value) : Prop := w.rowIs b t l.length (fun j => l.getD j .nilIface)
theorem RL.set {w : World} {b : Nat} {t : TypeId} {l : List Value} (h : RL w b t l) (i : Nat) (v : Value) : RL (w.setCell ⟨b, i, none⟩ v) b t (l.set i v) := by
  unfold RL
  rw [List.length_set]
  refine (World.rowIs.set h i v).congr fun j hj => ?_
  by_cases e : j = i
  · subst e
    rw [if_pos rfl]
    simp [List.getD, List.getElem?_set_self hj]
  · rw [if_neg e]
    simp [List.getD, List.getElem?_set_ne (Ne.symm e)]
theorem RL.other {w : World} {b g i : Nat} {t : TypeId} {l : List Value} (h : RL w b t l) (e : b ≠ g) (v : Value) : RL (w.setCell ⟨g, i, none⟩ v) b t l := World.rowIs.setOther h e v
theorem RL.at {w : World} {b : Nat} {t : TypeId} {l : List Value} (h : RL w b t l) {j : Nat} {v : Value} (e : l[j]? = some v) : w.cell? ⟨b, j, none⟩ = some v := by
  obtain ⟨hj, hv⟩ := List.getElem?_eq_some_iff.1 e
  rw [World.rowIs.cell h hj]
  simp [List.getD, e]
theorem RL.below {w w' : World} {b : Nat} {t : TypeId} {l : List Value} (h : RL w b t l) (hb : Below w.heap.size w w') : RL w' b t l := World.rowIs.of_block h (hb.block b (World.rowIs.lt h))
theorem rl_new (w : World) (c : Array Value) (t : TypeId) : RL (w.alloc (.cells c t)) w.heap.size t c.toList := by
  have := World.rowIs_alloc w c t (fun j => c.toList.getD j .nilIface) (fun i hi => by simp [List.getD, hi])
  unfold RL
  rw [Array.length_toList]
  exact this
theorem rl_results {fn : Func} {sl : Nat} {ty : TypeId} (hr : fn.results = #[.cell sl ty]) {W : World} {tmps : Array Value} {b : Nat} {v : Value} (h2 : tmps.getD sl undef = .pointer (some ⟨b, 0, none⟩)) (hl : (loadVar ty ⟨b, 0, none⟩).run Try.prog W = .ok v W) :
    (results fn tmps).run Try.prog W = .ok v W := by
  have e0 : results fn tmps = (do
      let x ← asAddr (tmps.getD sl undef)
      loadVar ty x) := by
    simp [results, hr]
  rw [e0, h2]
  simp [asAddr, hl, Result.andThen]
theorem RL.range {w : World} {b : Nat} {t : TypeId} {l : List Value} (h : RL w b t l) : ∀ j v, l[j]? = some v → w.cell? ⟨b, 0 + j, none⟩ = some v := fun j v e => by
  rw [Nat.zero_add]
  exact h.at e
end Go.Proofs.Ytekjoccbbamehaa
