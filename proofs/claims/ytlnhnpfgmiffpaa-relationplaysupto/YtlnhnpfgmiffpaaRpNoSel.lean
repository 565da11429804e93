import Derived.Test.YtlnhnpfgmiffpaaRpNoSeq
import Derived.Test.YtlnhnpfgmiffpaaG9
import Derived.Deep.RegionWith
namespace Go.Proofs.Ytlnhnpfgmiffpaa
open Go.RowKit Go.Maps Go.Shelf
set_option linter.unusedVariables false
set_option linter.unusedSimpArgs false
attribute [local go_sem ↓] Go.wp_at_zero Go.wp_at_succ
attribute [local go_sem] Oper.semAt_some

attribute [-go_sem] loadVar
set_option maxHeartbeats 1600000 in
set_option maxRecDepth 100000 in
theorem select_no {w : World} {p : Value} (h : NoRel w p) (m : Int) (r : List Int) (hr : r.length = 24) : Calls Try.prog 25 #[p, .int .u32 m, rowV r] w fun e w' => e = .returned (.slice none 0 0) ∧ Below w.heap.size w w' := by
  refine (callsIn_wide (n := 8)).1 ?_
  refine callsIn_of_wp_marks Try.func25 rfl trivial ?_ rfl
  simp only [Try.ntmps25, List.size_toArray, List.length_cons, List.length_nil, Nat.reduceAdd, Nat.reduceSub, Array.replicate_succ, Array.replicate_zero, List.push_toArray, List.append_toArray, List.nil_append, List.cons_append]
  have hb2 := (((Below.refl w.heap.size w).alloc (Nat.le_refl _) (.cells #[.int .u32 m] 37)).alloc (by simp) (.cells (rowC r) 40))
  have HB2 := Lib.hid hb2
  have HN2 := Lib.hid (h.below hb2)
  have B1 := Lib.hid (bxB (Boxed.new w 37 (.int .u32 m)) (belowA (.cells (rowC r) 40)))
  have R2 : Hid (RowAt ((w.alloc (.cells #[.int .u32 m] 37)).alloc (.cells (rowC r) 40)) (w.heap.size + 1) r) := by
    have := rowAt_new (w.alloc (.cells #[.int .u32 m] 37)) r
    simp only [World.size_alloc] at this
    exact this
  have HN := Lib.hid h
  clear h hb2
  unfold rowV
  gi_wp2_with fail
  generalize ((w.alloc (.cells #[.int .u32 m] 37)).alloc (.cells (rowC r) 40)) = W at HB2 HN2 B1 R2 ⊢
  refine wpIn_wide.2 ?_
  have l1 := run_loadMask (bxB B1.out (Below.refl _ _).drew).cell
  have c1 := (bxB B1.out (Below.refl _ _).drew).cell
  have f1 := (bxB B1.out (Below.refl _ _).drew).frozen
  have hB0 : Below W.heap.size W W.drew := (Below.refl _ _).drew
  have HA := Lib.hid (arity_no (HN2.out.below hB0))
  refine wp_region_noPanic ?_
  go_region_with (go_at_call 36; refine HA.out.mono ?_; rintro ee w2 ⟨rfl, rfl⟩)
  all_goals
    clear HA l1 c1 f1
    refine NoPanic.normal ?_
    rename_i hK
    refine hK _ _ ?_
    generalize IntKind.u32.wrap (IntKind.u32.wrap 1 - 1) = m1
    generalize bits BinOp.and IntKind.u32 m m1 = m2
    have HB3 := Lib.hid ((HB2.out.setCell (p := ⟨w.heap.size, 0, none⟩) (Nat.le_refl _) (.int .u32 m2)).drew)
    have HN3 := Lib.hid (HN.out.below HB3.out)
    have l1 := run_loadMask (bxB (B1.out.set (.int .u32 m2)) (Below.refl _ _).drew).cell
    have l2 := run_loadRow (RowAt.below (R2.out.other (i := 0) (by show w.heap.size + 1 ≠ w.heap.size; omega) (.int .u32 m2)) (Below.refl _ _).drew) hr
    clear hB0 HB2 HN2 B1 R2
    generalize (W.setCell ⟨w.heap.size, 0, none⟩ (.int .u32 m2)).drew = W3 at HB3 HN3 l1 l2 ⊢
    unfold rowV at l2
    gi_wp2_with fail
    refine ⟨trivial, (callsIn_wide.2 (under_any m2 r hr W3)).mono ?_⟩
    rintro e w4 ⟨⟨r', hr', rfl⟩, b4⟩
    have HB4 := Lib.hid (HB3.out.trans (b4.mono HB3.out.size))
    clear l1 l2 HB3 HN3 b4
    unfold rowV
    have hst := store_fresh w4 r' hr'
    have HB6 := Lib.hid ((HB4.out.alloc HB4.out.size (.cells (rowC r') 40)).alloc (Nat.le_trans HB4.out.size (by simp)) (.cells #[.slice none 0 0] 65))
    have B6 := Lib.hid (bxN (w := w4.alloc (.cells (rowC r') 40)) (B := w4.heap.size + 1) (by simp) 65 (.slice none 0 0))
    gi_wp2_with fail
    clear hst HB4
    generalize (w4.alloc (.cells (rowC r') 40)).alloc (.cells #[.slice none 0 0] 65) = W6 at HB6 B6 ⊢
    refine ⟨trivial, (callsIn_wide.2 (len_no (HN.out.below HB6.out))).mono ?_⟩
    rintro e w7 ⟨rfl, rfl⟩
    gi_wp2_with fail
    refine ⟨trivial, (callsIn_wide.2 (range_no (HN.out.below HB6.out) 0 0)).mono ?_⟩
    rintro e w8 ⟨⟨sq, rfl, hsq⟩, b8⟩
    obtain ⟨lb, rfl, hcl⟩ := hsq.tells
    have HCL := Lib.hid hcl
    have HB8 := Lib.hid (HB6.out.trans (b8.mono HB6.out.size))
    have B8 := Lib.hid (bxB B6.out b8)
    clear hcl hsq b8 HB6 B6
    gi_wp2_with fail
    refine wpIn_rangeNone rfl (by omega) (gf := 51) (lb := lb) rfl trivial (enters_of Try.func51 (by kernel_rfl) rfl) (fun l W hW => HCL.out _ l W hW) ?_
    intro D W9 hD hb hKD
    have l8 := run_loadInts (bxB B8.out hb).cell
    have HKD := Lib.hid hKD
    have HB9 := Lib.hid ((HB8.out.trans (hb.mono HB8.out.size)).trans (belowK_b (w := w) (Nat.le_refl _) _ D _ (.deferred none) (Nat.le_trans HB8.out.size hD) hKD rfl rfl))
    clear HCL HB8 B8 hb hKD hD
    gi_wp2
    exact ⟨by simp, .inl ⟨_, _, rfl, run_takeDeferred HKD.out, _, results_tmp rfl _ _ _, rfl, HB9.out⟩⟩
end Go.Proofs.Ytlnhnpfgmiffpaa
