import Derived.Test.YtekjoccbbamehaaIxFm
namespace Go.Proofs.Ytekjoccbbamehaa
open Go.RowKit Go.Maps Go.ChangeMaps
set_option linter.unusedVariables false
set_option linter.unusedSimpArgs false
attribute [local go_sem ↓] Go.wp_at_zero Go.wp_at_succ
attribute [-go_sem] loadVar storeVar Builtin.append_

set_option maxHeartbeats 1600000 in
set_option maxRecDepth 100000 in
theorem look_bk2 {w : World} {B bk mb tt : Nat} {is : List Ie} (h : Ibk w B bk mb tt is) (hB : B ≤ w.heap.size) {B' mm : Nat} {sv : Value} {rows : List (List Int)} {n : Nat} {gone : Int} (hr : Rel w B' tt mm sv rows (n : Int) gone) (hn : n ≤ 24) (hG : ∀ i ∈ is, i.gone = gone → i.G = grpN i.m rows i.seen ∧ i.seen ≤ rows.length) (hap : ∀ k, BX bk mb is k → k ≠ tt ∧ k ≠ mm ∧ sv.ownBlock ≠ some k) (hlen : rows.length ≤ 100000000) {m : Int} (hm : (Lit.int .u32 m).wf = true) (hc : colB m n = true) {r : List Int} (hrow : RowOk r) :
    Calls Try.prog 10 #[.pointer (some ⟨bk, 0, none⟩), .int .u32 m, rowV r] w fun e w' => ∃ is' j sv, e = .returned (.tuple #[sv, .int .i64 0]) ∧ w'.ownsRow w.heap.size 3 1 sv (selX m rows r).length (numC (selX m rows r)) ∧ (∀ k, BX bk mb is' k → sv.ownBlock ≠ some k) ∧ Asked w w' B bk mb tt is is' j m rows gone := by
  have hb0 := belowA (w := w) (.cells (rowC r) 34)
  have HRW := Lib.hid (rowAt_new w r)
  have HASK := Lib.hid (ask_ix (h.keep hb0) (Nat.le_trans hB hb0.size) (hr.keep hb0) hn hG hap hlen hm hc)
  have HB0 := Lib.hid hb0
  have HLT : Hid (∀ k, BX bk mb is k → k < w.heap.size) := fun k hk => (h.flt hk).2
  clear h hr hG hap hb0
  unfold rowV
  go_enter Try.func10, Try.ntmps10
  go_wp2_with fail
  refine HASK.out.mono ?_
  rintro e w1 ⟨is', j, rfl, hA⟩
  have HRW1 : Hid (RowAt w1 w.heap.size r) := (hA.tx.block _ HRW.out.lt (fun e => by have := HLT.out _ e; omega)).trans HRW.out
  have HA := Lib.hid hA
  have HOF := Lib.hid (of_ix (hA.bo.ix j hA.mem) HRW1.out hrow)
  rw [hA.jm, hA.jG, grpN_of] at HOF
  clear HASK hA HRW HRW1 HLT
  go_wp2_with fail
  refine HOF.out.mono ?_
  rintro e w2 ⟨v, rfl, hown, _, b2⟩
  have HCL := Lib.hid (cloneInts hown (Nat.le_trans (selX_len m rows r) (by omega)))
  have HB2 := Lib.hid b2
  clear HOF hown b2
  go_wp2_with fail
  refine HCL.out.mono ?_
  rintro e w3 ⟨sv2, rfl, hown3, b3⟩
  have HF : Hid (w3.ownsRow w.heap.size 3 1 sv2 (selX m rows r).length (numC (selX m rows r)) ∧ (∀ k, BX bk mb is' k → sv2.ownBlock ≠ some k) ∧ Asked w w3 B bk mb tt is is' j m rows gone) := by
    refine ⟨?_, fun k hk e => ?_, HA.out.wrap HB0.out (HB2.out.trans (b3.mono HB2.out.size))⟩
    rotate_left
    · have h1 := (HA.out.bo.flt hk).2
      have h2 := (hown3.lt k e).1
      have h3 := HB2.out.size
      omega
    have hs : w.heap.size ≤ w2.heap.size := Nat.le_trans HB0.out.size (Nat.le_trans HA.out.tx.size HB2.out.size)
    obtain ⟨e1, e2 | ⟨g', cap', cur, e, hbase, rest⟩⟩ := hown3
    · exact ⟨e1, .inl e2⟩
    · exact ⟨e1, .inr ⟨g', cap', cur, e, by omega, rest⟩⟩
  clear HCL hown3 b3 HB2 HB0 HA
  go_wp2
  go_ret2
  exact ⟨is', j, sv2, rfl, HF.out⟩
/-- a block that no index has -/
structure Hold (w : World) (bk mb : Nat) (is : List Ie) (k : Nat) : Prop where
  lt : k < w.heap.size
  no : ¬ BX bk mb is k
theorem Hold.asked {w w' : World} {B bk mb tt : Nat} {is is' : List Ie} {j : Ie} {m : Int} {rows : List (List Int)} {gone : Int} {k : Nat} (h : Hold w bk mb is k) (A : Asked w w' B bk mb tt is is' j m rows gone) : Hold w' bk mb is' k ∧ w'.heap[k]? = w.heap[k]? :=
  ⟨⟨Nat.lt_of_lt_of_le h.lt A.tx.size, fun e => (A.nw k e).elim h.no (fun e => by have := h.lt; omega)⟩, A.tx.block k h.lt h.no⟩
theorem own_asked {w w' : World} {B bk mb tt : Nat} {is is' : List Ie} {j : Ie} {m : Int} {rows : List (List Int)} {gone : Int} {B2 c n : Nat} {ty : TypeId} {v : Value} {cs : List Value} (h : w.ownsRow B2 ty c v n cs) (hn : ∀ k, BX bk mb is k → v.ownBlock ≠ some k) (A : Asked w w' B bk mb tt is is' j m rows gone) : w'.ownsRow B2 ty c v n cs ∧ ∀ k, BX bk mb is' k → v.ownBlock ≠ some k :=
  ⟨own_of_block h (fun g hg => A.tx.block g (h.lt g hg).2 (fun e => hn g e hg)), fun k hk e => (A.nw k hk).elim (fun e' => hn k e' e) (fun e' => by have := (h.lt k e).2; omega)⟩
theorem Rb.look2 {w : World} {B' B t mm : Nat} {sv : Value} {rows : List (List Int)} {n : Nat} {gone : Int} {bk mb : Nat} {is : List Ie} (h : Rb w B' B t mm sv rows n gone bk mb is) (hn : n ≤ 24) (hlen : rows.length ≤ 100000000) {m : Int} (hm : (Lit.int .u32 m).wf = true) (hc : colB m n = true) {r : List Int} (hrow : RowOk r) :
    Calls Try.prog 10 #[.pointer (some ⟨bk, 0, none⟩), .int .u32 m, rowV r] w fun e w' => ∃ is' j sv, e = .returned (.tuple #[sv, .int .i64 0]) ∧ w'.ownsRow w.heap.size 3 1 sv (selX m rows r).length (numC (selX m rows r)) ∧ (∀ k, BX bk mb is' k → sv.ownBlock ≠ some k) ∧ Asked w w' B bk mb t is is' j m rows gone :=
  look_bk2 h.bo h.lo.2 h.rel hn h.right h.ap hlen hm hc hrow
end Go.Proofs.Ytekjoccbbamehaa
