import Derived.Test.YtekjoccbbamehaaRelTake
namespace Go.Proofs.Ytekjoccbbamehaa
open Go.RowKit Go.Maps
set_option linter.unusedVariables false
set_option linter.unusedSimpArgs false
attribute [local go_sem ↓] Go.wp_at_zero Go.wp_at_succ
attribute [-go_sem] loadVar
set_option maxHeartbeats 1600000 in
set_option maxRecDepth 100000 in
theorem take_not {w : World} {B t m : Nat} {sv : Value} {rows : List (List Int)} {ar gone : Int} (h : Rel w B t m sv rows ar gone) (r : List Int) (hr : RowOk r) (hx : r ∉ rows) :
    Calls Try.prog 28 #[.pointer (some ⟨t, 0, none⟩), rowV r] w fun e w' => e = .returned (.bool false) ∧ Below w.heap.size w w' := by
  have hb := belowA (w := w) (.cells (rowC r) 34)
  have h1 := (h.keep hb).keep (Below.refl _ _).drew
  have HB := Lib.hid hb
  have l1 := run_loadMap (h1.rl.at (j := 1) rfl)
  have l2 := run_loadRow (RowAt.below (rowAt_new w r) (Below.refl _ (w.alloc (.cells (rowC r) 34))).drew) hr.len
  have hlk := h1.map.look_no hr hx
  clear h hb h1 hx
  unfold rowV at *
  go_enter Try.func28, Try.ntmps28
  go_upto_region 1 with fail
  generalize w.alloc (.cells (rowC r) 34) = W at HB l1 l2 hlk ⊢
  refine region_once ?_
  apply Exists.intro
  apply Exists.intro
  refine ⟨?_, ?_⟩
  · go_region
    all_goals exact ⟨rfl, rfl, rfl⟩
  clear l1 l2 hlk
  go_wp2
  go_ret
  exact ⟨rfl, HB.out.drew⟩
set_option maxHeartbeats 3200000 in
set_option maxRecDepth 100000 in
theorem remove_not {w : World} {B t m : Nat} {sv : Value} {rows : List (List Int)} {ar gone : Int} (h : Rel w B t m sv rows ar gone) (r : List Int) (hr : RowOk r) (hx : r ∉ rows) :
    Calls Try.prog 14 #[.pointer (some ⟨t, 0, none⟩), rowV r] w fun e w' => e = .returned (.bool false) ∧ Below w.heap.size w w' := by
  have hb := belowA (w := w) (.cells (rowC r) 34)
  have HR0 := Lib.hid (h.keep hb)
  have HB := Lib.hid hb
  have HA := Lib.hid (rowAt_new w r)
  have HS : Hid (∀ u, Below (w.alloc (.cells (rowC r) 34)).heap.size (w.alloc (.cells (rowC r) 34)) u →
      u.rangeAt w.heap.size 0 (List.map cellI r) ∧
      Calls Try.prog 24 #[.pointer (some ⟨t, 0, none⟩)] u (fun e w' => e = .returned (.bool true) ∧ w' = u) ∧
      Calls Try.prog 28 #[.pointer (some ⟨t, 0, none⟩), .agg (List.map cellI r).toArray] u (fun e w' => e = .returned (.bool false) ∧ Below u.heap.size u w')) :=
    fun u hu => ⟨(RowAt.below HA.out hu).range, there_yes (HR0.out.keep hu), take_not (HR0.out.keep hu) r hr hx⟩
  have hur := Try.underlying34
  have hir : (Try.prog.info? 34).map (·.size) = some (List.map cellI r).length := by rw [List.length_map, hr.len]; exact infoRow
  clear HA HR0 h hb
  unfold rowV
  go_enter Try.func14, Try.ntmps14
  go_upto_region 1 with fail
  generalize w.alloc (.cells (rowC r) 34) = W at HB HS ⊢
  have hB0 : Below W.heap.size W W := Below.refl _ _
  go_region_held3 (fun u => (Below W.heap.size W u) ∧ u.rangeAt w.heap.size 0 (List.map cellI r))
    (first | assumption | exact ⟨hB0.drew, (HS.out _ hB0.drew).1⟩ | exact ⟨(by assumption), (HS.out _ (by assumption)).1⟩)
    (first
      | (go_at_call 24; refine ((HS.out _ (by first | exact hB0.drew | assumption)).2.1).mono ?_; rintro ee w2 ⟨rfl, rfl⟩)
      | (go_at_call 28; refine ((HS.out _ (by first | exact hB0.drew | assumption)).2.2).mono ?_; rintro ee w3 ⟨rfl, b3⟩; have b3' : Below W.heap.size W w3 := hB0.drew.trans b3)
      | fail)
  go_wp2
  go_ret
  exact ⟨rfl, HB.out.trans (b3'.mono HB.out.size)⟩
set_option maxHeartbeats 3200000 in
set_option maxRecDepth 100000 in
theorem remove_yes {w : World} {B t m : Nat} {sv : Value} {rows : List (List Int)} {ar gone : Int} (h : Rel w B t m sv rows ar gone) (hB : B ≤ w.heap.size) (hlen : rows.length ≤ 1000000000) (r : List Int) (hr : RowOk r) {i : Nat} (hi : rows[i]? = some r) (hw : IntKind.i64.wrap (gone + 1) = gone + 1) :
    Calls Try.prog 14 #[.pointer (some ⟨t, 0, none⟩), rowV r] w fun e w' => e = .returned (.bool true) ∧ (∃ sv', Rel w' B t m sv' (rows.eraseIdx i) ar (gone + 1) ∧ ∀ g, sv'.ownBlock = some g → w.heap.size ≤ g) ∧ RTouch w w' t m sv := by
  have hb := belowA (w := w) (.cells (rowC r) 34)
  have HB := Lib.hid hb
  have hD : Below (w.alloc (.cells (rowC r) 34)).heap.size (w.alloc (.cells (rowC r) 34)) (w.alloc (.cells (rowC r) 34)).drew := (Below.refl _ _).drew
  have hRD := (h.keep hb).keep hD
  have hAD := RowAt.below (rowAt_new w r) hD
  have HTH := Lib.hid (there_yes hRD)
  have HTK := Lib.hid (take_yes hRD (by have := hb.size; simp at this ⊢; omega) hlen r hr hi)
  have RG0 := Lib.hid hAD.range
  have HNE : Hid (w.heap.size ≠ t ∧ w.heap.size ≠ m ∧ sv.ownBlock ≠ some w.heap.size) := by
    have h1 := World.rowIs.lt h.rl
    have h2 := h.map.lt
    refine ⟨by omega, by omega, fun e => ?_⟩
    have := (h.own.lt _ e).2
    omega
  have RK : Hid (∀ u, RTouch (w.alloc (.cells (rowC r) 34)).drew u t m sv → u.rangeAt w.heap.size 0 (List.map cellI r)) := fun u hu => RowAt.range ((hu.block _ hAD.lt HNE.out.1 HNE.out.2.1 HNE.out.2.2).trans hAD)
  have hur := Try.underlying34
  have hir : (Try.prog.info? 34).map (·.size) = some (List.map cellI r).length := by rw [List.length_map, hr.len]; exact infoRow
  have H0 := Lib.hid h
  clear h hb hD hRD hAD
  unfold rowV at HTK ⊢
  go_enter Try.func14, Try.ntmps14
  go_upto_region 1 with fail
  generalize w.alloc (.cells (rowC r) 34) = W at HB HTH HTK RG0 RK ⊢
  go_region_held3 (fun u => u.rangeAt w.heap.size 0 (List.map cellI r))
    (first | assumption | exact RG0.out | exact RK.out _ (by assumption))
    (first
      | (go_at_call 24; refine HTH.out.mono ?_; rintro ee w2 ⟨rfl, rfl⟩)
      | (go_at_call 28; refine HTK.out.mono ?_; rintro ee w3 ⟨rfl, ⟨sv', hR3, hg3⟩, t3⟩)
      | fail)
  have c3 := hR3.rl.at (j := 3) rfl
  have l3 := run_loadInt c3
  have f3 := World.rowIs.frozen hR3.rl 3
  have HF : Hid (Rel (w3.setCell ⟨t, 3, none⟩ (.int .i64 (gone + 1))) B t m sv' (rows.eraseIdx i) ar (gone + 1)) :=
    ⟨hR3.rl.set 3 (.int .i64 (gone + 1)), own_of_block hR3.own (fun g hg => Below.heap_setCell _ _ _ _ (hR3.ne.2 g hg).1), hR3.map.of_block (Below.heap_setCell _ _ _ _ (by exact fun e => hR3.ne.1 e.symm)), hR3.nd, hR3.ok, hR3.lo, hR3.ne⟩
  have HTT : Hid (RTouch w (w3.setCell ⟨t, 3, none⟩ (.int .i64 (gone + 1))) t m sv) :=
    ⟨t3.os.trans HB.out.os, t3.tape.trans HB.out.tape, t3.output.trans HB.out.output, Nat.le_trans HB.out.size (Nat.le_trans t3.size (by simp [World.setCell])), fun k hk h1 h2 h3 => (Below.heap_setCell _ _ _ _ h1).trans ((t3.block k (Nat.lt_of_lt_of_le hk HB.out.size) h1 h2 h3).trans (HB.out.block k hk))⟩
  have HG3 : Hid (∀ g, sv'.ownBlock = some g → w.heap.size ≤ g) := fun g hg => Nat.le_trans HB.out.size (hg3 g hg)
  clear hR3 t3 hg3 HB HTH HTK RG0 RK HNE H0
  go_wp2
  go_ret
  exact ⟨rfl, ⟨sv', HF.out, HG3.out⟩, HTT.out⟩
end Go.Proofs.Ytekjoccbbamehaa
