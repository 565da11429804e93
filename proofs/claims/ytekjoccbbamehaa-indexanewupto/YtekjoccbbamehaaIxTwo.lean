import Derived.Test.YtekjoccbbamehaaIxMsk
namespace Go.Proofs.Ytekjoccbbamehaa
open Go.RowKit Go.Maps Go.ChangeMaps
set_option linter.unusedVariables false
set_option linter.unusedSimpArgs false

/-! two books over one relation -/
section
variable {w w' : World} {B' B B2 t mm : Nat} {sv : Value} {rows : List (List Int)} {n : Nat} {gone : Int} {bk mb bk2 mb2 : Nat} {is is2 : List Ie}
/-- one is asked: the other stays -/
theorem Rb.other (h : Rb w B' B t mm sv rows n gone bk mb is) (h2 : Rb w B' B2 t mm sv rows n gone bk2 mb2 is2) (hd : ∀ k, BX bk mb is k → ¬ BX bk2 mb2 is2 k) {is' : List Ie} {j : Ie} {m : Int} (A : Asked w w' B bk mb t is is' j m rows gone) : Rb w' B' B2 t mm sv rows n gone bk2 mb2 is2 ∧ ∀ k, BX bk mb is' k → ¬ BX bk2 mb2 is2 k :=
  ⟨⟨(h.asked A).rel, h2.bo.of_blocks (fun k hk => A.tx.block k (h2.bo.flt hk).2 (fun e => hd k e hk)), h2.right, h2.le, h2.ap, Nat.le_trans h2.lo.1 A.tx.size, Nat.le_trans h2.lo.2 A.tx.size⟩, fun k hk hk2 => (A.nw k hk).elim (fun e => hd k e hk2) (fun e => by have := (h2.bo.flt hk2).2; omega)⟩
/-- a block outside turns -/
theorem Rb.but (h : Rb w B' B t mm sv rows n gone bk mb is) {xb : Nat} (hx : xb < B') (hx2 : xb < B) (tx : Tx (fun k => k = xb) w w') : Rb w' B' B t mm sv rows n gone bk mb is := by
  refine ⟨h.rel.of_tx tx (fun k hk => ⟨fun e => ?_, fun e => ?_, fun e => ?_⟩), h.bo.of_blocks (fun k hk => tx.block k (h.bo.flt hk).2 (fun e => ?_)), h.right, h.le, h.ap, Nat.le_trans h.lo.1 tx.size, Nat.le_trans h.lo.2 tx.size⟩
  · have := h.rel.lo.1
    omega
  · have := h.rel.lo.2
    omega
  · have := (h.rel.own.lt k e).1
    omega
  · have := (h.bo.flt hk).1
    omega
theorem mask_single {m : Int} (h : is.map Ie.m = [m]) : ∃ j, is = [j] ∧ j.m = m := by
  match is, h with
  | [j], h => exact ⟨j, rfl, by simpa using h⟩
theorem Asked.first {j : Ie} {m : Int} (A : Asked w w' B bk mb t [] is j m rows gone) : is.map Ie.m = [m] := by
  have := A.ms
  simpa using this
theorem Asked.again {is' : List Ie} {j : Ie} {m : Int} (A : Asked w w' B bk mb t is is' j m rows gone) (h : is.map Ie.m = [m]) : is'.map Ie.m = [m] := by
  have := A.ms
  rw [h, if_pos (by simp)] at this
  exact this
end
theorem RowAt.blw {w w' : World} {C xb : Nat} {x : List Int} (h : RowAt w xb x) (hb : Below C w w') (hx : xb < C) : RowAt w' xb x := (hb.block xb hx).trans h
/-- a book that is asked all along, and a row beside it -/
structure An (w wr : World) (C B xb t m bk mb n k : Nat) : Prop where
  is : ∃ (is : List Ie) (sv : Value) (rows : List (List Int)) (gone : Nat) (x : List Int), Rb wr C B t m sv rows n (gone : Int) bk mb is ∧ RowAt wr xb x ∧ RowOk x ∧ rows.length ≤ 1048576 ∧ gone ≤ k
  bel : Below w.heap.size w wr
  lo : w.heap.size ≤ xb ∧ xb < C ∧ C ≤ B ∧ C ≤ wr.heap.size
end Go.Proofs.Ytekjoccbbamehaa
