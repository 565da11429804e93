import Derived.Test.YtekjoccbbamehaaIxAskN
namespace Go.Proofs.Ytekjoccbbamehaa
open Go.RowKit Go.Maps Go.ChangeMaps
set_option linter.unusedVariables false
set_option linter.unusedSimpArgs false
attribute [local go_sem ↓] Go.wp_at_zero Go.wp_at_succ
attribute [-go_sem] loadVar storeVar Builtin.append_

theorem ints_nil (w : World) : (binOp .eql 38 (.slice none 0 0) (.slice none 0 0)).run Try.prog w = .ok (.bool true) w := by kernel_rfl
theorem ints_some (ad : Addr) (n c : Nat) (w : World) : (binOp .eql 38 (.slice (some ad) n c) (.slice none 0 0)).run Try.prog w = .ok (.bool false) w := by kernel_rfl
theorem numC_len (l : List Nat) : (numC l).length = l.length := by simp [numC]
set_option maxHeartbeats 1600000 in
set_option maxRecDepth 100000 in
theorem cloneInts {w : World} {B : Nat} {v : Value} {l : List Nat} (h : w.ownsRow B 3 1 v l.length (numC l)) (hl : l.length ≤ 1000000000) :
    Calls Try.prog 26 #[v] w fun e w' => ∃ sv, e = .returned sv ∧ w'.ownsRow w.heap.size 3 1 sv l.length (numC l) ∧ Below w.heap.size w w' := by
  have h' := h
  obtain ⟨_, ⟨rfl, h0⟩ | ⟨g, cap, cur, rfl, _, hgb, _⟩⟩ := h
  · obtain rfl : l = [] := List.length_eq_zero_iff.1 h0
    have hq := ints_nil w
    clear h'
    go_enter Try.func26, Try.ntmps26
    go_wp2
    go_ret
    exact ⟨_, rfl, World.ownsRow_nil _ _ _ _, Below.refl _ _⟩
  · have hq := fun w => ints_some ⟨g, 0, none⟩ l.length cap w
    have hb := belowA (w := w) (.cells #[] 3)
    have ho : (w.alloc (.cells #[] 3)).ownsRow w.heap.size 3 1 (.slice (some ⟨w.heap.size, 0, none⟩) 0 0) 0 [] := ⟨rfl, .inr ⟨_, _, _, rfl, Nat.le_refl _, heap_alloc_new w _, Nat.le_refl _, Nat.zero_le _, rfl, rfl⟩⟩
    obtain ⟨i0, hi0, hz0, hz1, hz2⟩ := info_partsX infoIntX
    have hglt : g < w.heap.size := (Array.getElem?_eq_some_iff.1 hgb).1
    obtain ⟨v', w', hrun, hown, hg, _, hloc⟩ := run_append_own_at (P := Try.prog) (w.alloc (.cells #[] 3)) w.heap.size 38 38 3 i0 _ 1 8 Try.underlying38 hi0 hz0 hz1 hz2 rfl (by decide) _ 0 [] ho ⟨g, 0, none⟩ l.length cap (numC l) (by rw [numC_len]; omega) (fun j u hu => by
      have hj : j < (numC l).length := (List.getElem?_eq_some_iff.1 hu).1
      rw [show (⟨g, 0, none⟩ : Addr).add j = ⟨g, j, none⟩ by rw [WideShapes.add_plain]; simp]
      rw [hb.cell (p := ⟨g, j, none⟩) hglt, h'.cellAt j (by rw [numC_len] at hj; omega)]
      exact hu) (fun u hu => by
      obtain ⟨n, _, rfl⟩ := List.mem_map.1 hu
      rfl) (by unfold maxLen; omega) (by omega) (by simp)
    have HF : Hid (w'.ownsRow w.heap.size 3 1 v' l.length (numC l) ∧ Below w.heap.size w w') := ⟨by simpa using hown, hb.grown hg (by simp) (fun j hj => by simp [Value.ownBlock] at hj; omega)⟩
    clear h' hgb hb ho hown hg hloc hi0 hz0 hz1 hz2
    go_enter Try.func26, Try.ntmps26
    go_wp2
    go_ret
    exact ⟨_, rfl, HF.out⟩
theorem Asked.wrap {w w0 w1 w3 : World} {B bk mb tt : Nat} {is is' : List Ie} {j : Ie} {m : Int} {rows : List (List Int)} {gone : Int} (h : Asked w0 w1 B bk mb tt is is' j m rows gone) (hb : Below w.heap.size w w0) (hb2 : Below w1.heap.size w1 w3) : Asked w w3 B bk mb tt is is' j m rows gone :=
  ⟨h.mem, h.jm, h.jG, h.js, h.jg, h.bo.keep hb2, h.old, ((Tx.of_below (ex := BX bk mb is) hb).trans h.tx (fun _ _ e => e)).trans (ex' := BX bk mb is) (Tx.of_below hb2) (fun _ _ e => e), fun k hk => (h.nw k hk).imp id (fun e => Nat.le_trans hb.size e), h.ms⟩
/-- the numbers of the rows that are x in the columns of the mask -/
def selX (m : Int) (rows : List (List Int)) (r : List Int) : List Nat := (List.range rows.length).filter (fun i => decide (underL m (rows.getD i []) = underL m r))
theorem selX_len (m : Int) (rows : List (List Int)) (r : List Int) : (selX m rows r).length ≤ rows.length := by
  have := List.length_filter_le (fun i => decide (underL m (rows.getD i []) = underL m r)) (List.range rows.length)
  simpa [selX] using this
set_option maxHeartbeats 1600000 in
set_option maxRecDepth 100000 in
theorem look_bk {w : World} {B bk mb tt : Nat} {is : List Ie} (h : Ibk w B bk mb tt is) (hB : B ≤ w.heap.size) {B' mm : Nat} {sv : Value} {rows : List (List Int)} {n : Nat} {gone : Int} (hr : Rel w B' tt mm sv rows (n : Int) gone) (hn : n ≤ 24) (hG : ∀ i ∈ is, i.gone = gone → i.G = grpN i.m rows i.seen ∧ i.seen ≤ rows.length) (hap : ∀ k, BX bk mb is k → k ≠ tt ∧ k ≠ mm ∧ sv.ownBlock ≠ some k) (hlen : rows.length ≤ 100000000) {m : Int} (hm : (Lit.int .u32 m).wf = true) (hc : colB m n = true) {r : List Int} (hrow : RowOk r) :
    Calls Try.prog 10 #[.pointer (some ⟨bk, 0, none⟩), .int .u32 m, rowV r] w fun e w' => ∃ is' j sv, e = .returned (.tuple #[sv, .int .i64 0]) ∧ w'.ownsRow w.heap.size 3 1 sv (selX m rows r).length (numC (selX m rows r)) ∧ Asked w w' B bk mb tt is is' j m rows gone := by
  have hb0 := belowA (w := w) (.cells (rowC r) 34)
  have HRW := Lib.hid (rowAt_new w r)
  have HASK := Lib.hid (ask_ix (h.keep hb0) (Nat.le_trans hB hb0.size) (hr.keep hb0) hn hG hap hlen hm hc)
  have HB0 := Lib.hid hb0
  have HLT : Hid (∀ k, BX bk mb is k → k < w.heap.size) := fun k hk => (h.flt hk).2
  clear h hr hG hap hb0
  unfold rowV
  go_enter Try.func10, Try.ntmps10
  go_wp2_with fail
  refine HASK.out.mono ?_
  rintro e w1 ⟨is', j, rfl, hA⟩
  have HRW1 : Hid (RowAt w1 w.heap.size r) := (hA.tx.block _ HRW.out.lt (fun e => by have := HLT.out _ e; omega)).trans HRW.out
  have HA := Lib.hid hA
  have HOF := Lib.hid (of_ix (hA.bo.ix j hA.mem) HRW1.out hrow)
  rw [hA.jm, hA.jG, grpN_of] at HOF
  clear HASK hA HRW HRW1 HLT
  go_wp2_with fail
  refine HOF.out.mono ?_
  rintro e w2 ⟨v, rfl, hown, _, b2⟩
  have HCL := Lib.hid (cloneInts hown (Nat.le_trans (selX_len m rows r) (by omega)))
  have HB2 := Lib.hid b2
  clear HOF hown b2
  go_wp2_with fail
  refine HCL.out.mono ?_
  rintro e w3 ⟨sv2, rfl, hown3, b3⟩
  have HF : Hid (w3.ownsRow w.heap.size 3 1 sv2 (selX m rows r).length (numC (selX m rows r)) ∧ Asked w w3 B bk mb tt is is' j m rows gone) := by
    refine ⟨?_, HA.out.wrap HB0.out (HB2.out.trans (b3.mono HB2.out.size))⟩
    have hs : w.heap.size ≤ w2.heap.size := Nat.le_trans HB0.out.size (Nat.le_trans HA.out.tx.size HB2.out.size)
    obtain ⟨e1, e2 | ⟨g', cap', cur, e, hbase, rest⟩⟩ := hown3
    · exact ⟨e1, .inl e2⟩
    · exact ⟨e1, .inr ⟨g', cap', cur, e, by omega, rest⟩⟩
  clear HCL hown3 b3 HB2 HB0 HA
  go_wp2
  go_ret2
  exact ⟨is', j, sv2, rfl, HF.out⟩
set_option maxHeartbeats 1600000 in
set_option maxRecDepth 100000 in
theorem count_bk {w : World} {B bk mb tt : Nat} {is : List Ie} (h : Ibk w B bk mb tt is) (hB : B ≤ w.heap.size) {B' mm : Nat} {sv : Value} {rows : List (List Int)} {n : Nat} {gone : Int} (hr : Rel w B' tt mm sv rows (n : Int) gone) (hn : n ≤ 24) (hG : ∀ i ∈ is, i.gone = gone → i.G = grpN i.m rows i.seen ∧ i.seen ≤ rows.length) (hap : ∀ k, BX bk mb is k → k ≠ tt ∧ k ≠ mm ∧ sv.ownBlock ≠ some k) (hlen : rows.length ≤ 100000000) {m : Int} (hm : (Lit.int .u32 m).wf = true) (hc : colB m n = true) {r : List Int} (hrow : RowOk r) :
    Calls Try.prog 11 #[.pointer (some ⟨bk, 0, none⟩), .int .u32 m, rowV r] w fun e w' => ∃ is' j, e = .returned (.tuple #[.int .i64 ((selX m rows r).length : Int), .int .i64 0]) ∧ Asked w w' B bk mb tt is is' j m rows gone := by
  have hb0 := belowA (w := w) (.cells (rowC r) 34)
  have HRW := Lib.hid (rowAt_new w r)
  have HASK := Lib.hid (ask_ix (h.keep hb0) (Nat.le_trans hB hb0.size) (hr.keep hb0) hn hG hap hlen hm hc)
  have HB0 := Lib.hid hb0
  have HLT : Hid (∀ k, BX bk mb is k → k < w.heap.size) := fun k hk => (h.flt hk).2
  clear h hr hG hap hb0
  unfold rowV
  go_enter Try.func11, Try.ntmps11
  go_wp2_with fail
  refine HASK.out.mono ?_
  rintro e w1 ⟨is', j, rfl, hA⟩
  have HRW1 : Hid (RowAt w1 w.heap.size r) := (hA.tx.block _ HRW.out.lt (fun e => by have := HLT.out _ e; omega)).trans HRW.out
  have HA := Lib.hid hA
  have HOF := Lib.hid (of_ix (hA.bo.ix j hA.mem) HRW1.out hrow)
  rw [hA.jm, hA.jG, grpN_of] at HOF
  clear HASK hA HRW HRW1 HLT
  go_wp2_with fail
  refine HOF.out.mono ?_
  rintro e w2 ⟨v, rfl, hown, _, b2⟩
  have HF := Lib.hid (HA.out.wrap HB0.out b2)
  obtain ⟨a2, c2, rfl, _⟩ := own_form hown
  have hlx : ((List.range rows.length).filter (fun i => decide (underL m (rows.getD i []) = underL m r))).length = (selX m rows r).length := rfl
  rw [hlx]
  clear HOF hown b2 HB0 HA hlx
  go_wp2
  go_ret2
  exact ⟨is', j, rfl, HF.out⟩
end Go.Proofs.Ytekjoccbbamehaa
