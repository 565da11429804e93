import Derived.Test.YtfklpedcigdlmaaDoorG4
import Derived.BigQuiet
namespace Go.Proofs.YtfklpedcigdlmaaDoor
open Go.RowKit Go.Maps
set_option linter.unusedVariables false
set_option linter.unusedSimpArgs false
attribute [local go_sem ↓] Go.wp_at_zero Go.wp_at_succ

/-- one term more -/
def stepN (ns : List ByteArray) (t : ByteArray) : List ByteArray := if t = noS ∨ t = blankS ∨ inB ns t = true then ns else ns ++ [t]
theorem vsT_step (ns : List ByteArray) (t : T) (ts : List T) : vsT ns (t :: ts) = vsT (stepN ns t.v) ts := by
  unfold stepN
  rw [vsT]
  split <;> rfl
theorem stepN_len (ns : List ByteArray) (t : ByteArray) : (stepN ns t).length ≤ ns.length + 1 := by
  unfold stepN
  split <;> simp
/-- what 'variables' keeps: the variable that holds the list told (block bo), the one that holds the map (bs), the map (bm), the list's row; all of its own, from B on -/
structure Vst (B : Nat) (w0 : World) (bo bs bm : Nat) (ns : List ByteArray) (sv : Value) (w : World) : Prop where
  bel : Below B w0 w
  bz : B ≤ w.heap.size
  lo : B ≤ bo ∧ B ≤ bs ∧ B ≤ bm
  ne : bo ≠ bs ∧ bo ≠ bm ∧ bs ≠ bm
  cs : w.cell? ⟨bs, 0, none⟩ = some (.map (some bm))
  co : w.cell? ⟨bo, 0, none⟩ = some sv
  fo : w.frozen? ⟨bo, 0, none⟩ = false
  own : w.ownsRow B 9 1 sv ns.length (ns.flatMap strB)
  ap : ∀ g, sv.ownBlock = some g → g ≠ bo ∧ g ≠ bs ∧ g ≠ bm
  set : SetIs w bm ns
theorem Vst.keep {B : Nat} {w0 : World} {bo bs bm : Nat} {ns : List ByteArray} {sv : Value} {w w' : World} (h : Vst B w0 bo bs bm ns sv w) (hb : Below w.heap.size w w') : Vst B w0 bo bs bm ns sv w' :=
  ⟨h.bel.trans (hb.mono h.bz), Nat.le_trans h.bz hb.size, h.lo, h.ne, by rw [hb.cell (p := ⟨bs, 0, none⟩) (World.block_lt_of_cell? _ _ h.cs)]; exact h.cs, by rw [hb.cell (p := ⟨bo, 0, none⟩) (World.block_lt_of_cell? _ _ h.co)]; exact h.co, by rw [hb.frozen (p := ⟨bo, 0, none⟩) (World.block_lt_of_cell? _ _ h.co)]; exact h.fo, own_below h.own hb, h.ap, h.set.of_block (hb.block _ h.set.lt)⟩
end Go.Proofs.YtfklpedcigdlmaaDoor
