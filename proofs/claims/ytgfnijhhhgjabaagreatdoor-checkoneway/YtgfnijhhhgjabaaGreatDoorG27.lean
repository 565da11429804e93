import Derived.Test.YtgfnijhhhgjabaaGreatDoorG42
import Derived.Test.YtgfnijhhhgjabaaGreatDoorG7
section
namespace Go.Proofs.YtgfnijhhhgjabaaGreatDoor
open Go.RowKit Go.Maps
set_option linter.unusedVariables false
set_option linter.unusedSimpArgs false

theorem below_drewV {B : Nat} {a w : World} (h : Below B a w) (n : Nat) : Below B a (w.drewN n) := ⟨h.os, h.tape, h.output, h.size, h.block⟩
end Go.Proofs.YtgfnijhhhgjabaaGreatDoor
end
section
namespace Go.Proofs.YtgfnijhhhgjabaaGreatDoor
open Go.RowKit Go.Maps
set_option linter.unusedVariables false
set_option linter.unusedSimpArgs false
attribute [local go_sem ↓] Go.wp_at_zero Go.wp_at_succ

theorem oneCells_val (x : V) : (V.cells x).toArray.all (·.oneCell') = true := by simp [V.cells, Value.oneCell']
theorem Lv.rform {w : World} {v : Value} {l : List V} (h : Lv w v l) : ∃ a c, v = .slice a l.length c ∧ l.length ≤ c ∧ c ≤ maxLen ∧ (0 < l.length → ∃ g off, a = some ⟨g, off, none⟩ ∧ g < w.heap.size ∧ ∀ i, i < l.length → w.rangeAt g (off + i * 3) (atV l i).cells) := ls_range (f := V.cells) (k := 3) (fun _ => rfl) V0 h.lies
theorem updV {α : Type} (f : Nat → α) (k : Nat) (v : α) (h : f k = v) : (fun i => if i = k then v else f i) = f := by
  funext i
  by_cases e : i = k
  · rw [if_pos e, e, h]
  · rw [if_neg e]
/-- a copy of a list of values, with a mark behind it -/
structure TwV (w : World) (lo : Nat) (l : List V) (a : Option Addr) (c : Nat) : Prop where
  cap : c = l.length + 1
  lies : ∃ g, a = some ⟨g, 0, none⟩ ∧ lo ≤ g ∧ g < w.heap.size ∧ w.rangeAt g (l.length * 3) [.int .i8 99, .int .i64 777777, .string ⟨#[]⟩] ∧ ∀ i, i < l.length → w.rangeAt g (i * 3) (atV l i).cells
theorem TwV.below {w w' : World} {lo : Nat} {l : List V} {a : Option Addr} {c : Nat} (h : TwV w lo l a c) (b : Below w.heap.size w w') : TwV w' lo l a c := by
  obtain ⟨h1, g, h2, h3, h4, h5, h6⟩ := h
  exact ⟨h1, g, h2, h3, Nat.lt_of_lt_of_le h4 b.size, range_below h5 b h4, fun i hi => range_below (h6 i hi) b h4⟩
theorem TwV.set {w : World} {lo b j : Nat} {v : Value} (hb : b < lo) {l : List V} {a : Option Addr} {c : Nat} (h : TwV w lo l a c) : TwV (w.setCell ⟨b, j, none⟩ v) lo l a c := by
  obtain ⟨h1, g, h2, h3, h4, h5, h6⟩ := h
  have e : (w.setCell ⟨b, j, none⟩ v).heap[g]? = w.heap[g]? := heap_setCell_other _ _ _ _ (by show g ≠ b; omega)
  exact ⟨h1, g, h2, h3, by simpa using h4, range_block h5 e, fun i hi => range_block (h6 i hi) e⟩
theorem TwV.lower {w : World} {lo lo' : Nat} (hl : lo' ≤ lo) {l : List V} {a : Option Addr} {c : Nat} (h : TwV w lo l a c) : TwV w lo' l a c := by
  obtain ⟨h1, g, h2, h3, h4, h5, h6⟩ := h
  exact ⟨h1, g, h2, Nat.le_trans hl h3, h4, h5, h6⟩
theorem TwV.lv {w w0 : World} {lo : Nat} {l : List V} {a : Option Addr} {c : Nat} {v : Value} (h : TwV w lo l a c) (h0 : Lv w0 v l) (hl : l.length ≤ 1048576) : Lv w (.slice a l.length c) l := by
  obtain ⟨rfl, g, rfl, _, hg, _, hk⟩ := h
  exact ⟨ls_of_range (f := V.cells) (k := 3) (by omega) (fun _ => rfl) V0 (by omega) (by unfold maxLen; omega) hg hk, h0.wf⟩
theorem run_neqV (x : V) (w : World) : (binOp .neq 38 (.agg #[.int .i8 x.k, .int .i64 x.n, .string x.s]) (.agg #[.int .i8 x.k, .int .i64 x.n, .string x.s])).run Tryz.prog w = .ok (.bool false) w := by go_simp
end Go.Proofs.YtgfnijhhhgjabaaGreatDoor
end
section
namespace Go.Proofs.YtgfnijhhhgjabaaGreatDoor
open Go.RowKit Go.Maps
set_option linter.unusedVariables false
set_option linter.unusedSimpArgs false
attribute [local go_sem ↓] Go.wp_at_zero Go.wp_at_succ
attribute [-go_sem] loadVar storeVar

end Go.Proofs.YtgfnijhhhgjabaaGreatDoor
end
