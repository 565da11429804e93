import Derived.Test.YtlnhnpfgmiffpaaRpAm
namespace Go.Proofs.Ytlnhnpfgmiffpaa
open Go.RowKit Go.Maps Go.Shelf
set_option linter.unusedVariables false
set_option linter.unusedSimpArgs false
attribute [local go_sem ↓] Go.wp_at_zero Go.wp_at_succ
attribute [local go_sem] Oper.semAt_some

set_option maxHeartbeats 3200000 in
set_option maxRecDepth 100000 in
theorem amid_nil {w : World} {b o : Nat} {rs : List (List Int)} {na : Nat} {gn : Int} {E : Nat → Prop} (h : Bx w b o (.pointer none) (.pointer none) rs na gn E) (on k n m mask : Int) (r : List Int) : Calls Try.prog 47 #[.pointer (some ⟨b, o, none⟩), .agg (opL on k n m mask r).toArray] w fun e w' => e = .returned (.bool true) ∧ Below w.heap.size w w' := by
  refine (callsIn_wide (n := 8)).1 ?_
  refine callsIn_of_wp_marks Try.func47 rfl trivial ?_ rfl
  simp only [Try.ntmps47, List.size_toArray, List.length_cons, List.length_nil, Nat.reduceAdd, Nat.reduceSub, Array.replicate_succ, Array.replicate_zero, List.push_toArray, List.append_toArray, List.nil_append, List.cons_append]
  have hb3 := ((((Below.refl w.heap.size w).alloc (Nat.le_refl _) (.cells #[.pointer (some ⟨b, o, none⟩)] 58)).alloc (by simp) (.cells (opL on k n m mask r).toArray 42)).alloc (by simp; omega) (.cells #[.bool false] 4))
  have HB3 := Lib.hid hb3
  have HN3 := Lib.hid (h.keep hb3)
  have B1 := Lib.hid (bxB (bxB (Boxed.new w 58 (.pointer (some ⟨b, o, none⟩))) (belowA (.cells (opL on k n m mask r).toArray 42))) (belowA (.cells #[.bool false] 4)))
  have O2 : Hid (OpAt (((w.alloc (.cells #[.pointer (some ⟨b, o, none⟩)] 58)).alloc (.cells (opL on k n m mask r).toArray 42)).alloc (.cells #[.bool false] 4)) (w.heap.size + 1) on k n m mask r) := by
    have := (opAt_new (w.alloc (.cells #[.pointer (some ⟨b, o, none⟩)] 58)) on k n m mask r).below (belowA (.cells #[.bool false] 4))
    simp only [World.size_alloc] at this
    exact this
  have B3 := Lib.hid (bxN (w := (w.alloc (.cells #[.pointer (some ⟨b, o, none⟩)] 58)).alloc (.cells (opL on k n m mask r).toArray 42)) (B := w.heap.size + 1 + 1) (by simp) 4 (.bool false))
  clear h hb3
  gi_wp2_with fail
  generalize (((w.alloc (.cells #[.pointer (some ⟨b, o, none⟩)] 58)).alloc (.cells (opL on k n m mask r).toArray 42)).alloc (.cells #[.bool false] 4)) = W at HB3 HN3 B1 O2 B3 ⊢
  refine wpIn_wide.2 ?_
  have hB0 : Below W.heap.size W W.drew := (Below.refl _ _).drew
  have HS : Hid (∀ u, Below W.heap.size W u → u.cell? ⟨b, o, none⟩ = some (.pointer none) ∧ u.cell? ⟨b, o + 1, none⟩ = some (.pointer none) ∧ u.cell? ⟨w.heap.size, 0, none⟩ = some (.pointer (some ⟨b, o, none⟩)) ∧ u.cell? ⟨w.heap.size + 1, 2, none⟩ = some (.int .i64 n) ∧ u.cell? ⟨w.heap.size + 1, 3, none⟩ = some (.int .i64 m)) :=
    fun u hu => ⟨(HN3.out.keep hu).cT, (HN3.out.keep hu).cR, (bxB B1.out hu).cell, (O2.out.below hu).c2, (O2.out.below hu).c3⟩
  go_region_held3 (fun u => Below W.heap.size W u ∧ u.cell? ⟨b, o, none⟩ = some (.pointer none) ∧ u.cell? ⟨b, o + 1, none⟩ = some (.pointer none) ∧ u.cell? ⟨w.heap.size, 0, none⟩ = some (.pointer (some ⟨b, o, none⟩)) ∧ u.cell? ⟨w.heap.size + 1, 2, none⟩ = some (.int .i64 n) ∧ u.cell? ⟨w.heap.size + 1, 3, none⟩ = some (.int .i64 m))
    (first | assumption | exact ⟨hB0, HS.out _ hB0⟩ | exact ⟨(by assumption), HS.out _ (by assumption)⟩ | exact ⟨hB0.alloc (Nat.le_refl _) _, HS.out _ (hB0.alloc (Nat.le_refl _) _)⟩)
    (first
      | (go_at_call 32; refine (rrange_nil _ _ _).mono ?_; rintro ee w3 ⟨rfl, rfl⟩)
      | fail)
  all_goals
    simp only [Exit.then]
    go_at_K
    have hb4 : Below W.heap.size W (W.alloc (.cells #[.slice none 0 0] 69)).drew := (belowA _).drew
    have B5 := Lib.hid (bxB (Boxed.new W 69 (.slice none 0 0)) (Below.refl _ _).drew)
    clear hB0
    have hWs := Boxed.lt B3.out
    generalize hW1 : (W.alloc (.cells #[.slice none 0 0] 69)).drew = W1 at hb4 B5 ⊢
    have HS1 : Hid (∀ u, Below W1.heap.size W1 u → Below W.heap.size W u ∧ u.cell? ⟨b, o, none⟩ = some (.pointer none) ∧ u.cell? ⟨w.heap.size, 0, none⟩ = some (.pointer (some ⟨b, o, none⟩)) ∧ u.cell? ⟨w.heap.size + 1, 2, none⟩ = some (.int .i64 n) ∧ u.cell? ⟨w.heap.size + 1, 3, none⟩ = some (.int .i64 m)) := fun u hu => by
      have hb5 := hb4.trans (hu.mono hb4.size)
      obtain ⟨a1, a2, a3, a4, a5⟩ := HS.out u hb5
      exact ⟨hb5, a1, a3, a4, a5⟩
    clear HS hW1
    have HB4 := Lib.hid hb4
    clear hb4
    gi_wp2_with fail
    refine wpIn_wide.2 ?_
    have hB0 : Below W1.heap.size W1 W1.drew := (Below.refl _ _).drew
    go_region_held3 (fun u => Below W1.heap.size W1 u ∧ u.cell? ⟨b, o, none⟩ = some (.pointer none) ∧ u.cell? ⟨w.heap.size, 0, none⟩ = some (.pointer (some ⟨b, o, none⟩)) ∧ u.cell? ⟨w.heap.size + 1, 2, none⟩ = some (.int .i64 n) ∧ u.cell? ⟨w.heap.size + 1, 3, none⟩ = some (.int .i64 m))
      (first | assumption | exact ⟨hB0, (HS1.out _ hB0).2⟩ | exact ⟨(by assumption), (HS1.out _ (by assumption)).2⟩)
      (first
        | (go_at_call 31; refine (range_no NoRel.nil _ _).mono ?_; rintro ee w4 ⟨⟨sq, rfl, hsq⟩, b4⟩; have b4' : Below W1.heap.size W1 w4 := hB0.trans (b4.mono hB0.size); clear b4)
        | fail)
    simp only [Exit.then]
    go_at_K
    clear hB0
    have hb6 := (HS1.out _ b4').1
    have HB6 := Lib.hid (HB3.out.trans (hb6.mono HB3.out.size))
    have B6 := Lib.hid (bxB B5.out b4')
    have B7 := Lib.hid (bxB B3.out hb6)
    have HS6 := Lib.hid (hsq.below (belowA (.cells #[.int .i64 0] 3)))
    have HB7 := Lib.hid (HB6.out.alloc HB6.out.size (.cells #[.int .i64 0] 3))
    have C6 := Lib.hid (bxB B6.out (belowA (.cells #[.int .i64 0] 3)))
    have C7 := Lib.hid (bxB B7.out (belowA (.cells #[.int .i64 0] 3)))
    have C8 := Lib.hid (Boxed.new w4 3 (.int .i64 0))
    have hw4 := hb6.size
    clear b4' hb6 HS1 HB4 B5 HN3 HB3 B1 O2 B3 HB6 B6 B7
    obtain ⟨lb, rfl, _⟩ := hsq.tells
    clear hsq
    have hft := fun w => fn_there 51 lb w
    gi_wp2_with fail
    generalize hw4e : w4.heap.size = b8 at C8 hw4 ⊢
    generalize w4.alloc (.cells #[.int .i64 0] 3) = W8 at HS6 HB7 C6 C7 C8 ⊢
    obtain ⟨lb', hlb, hcl⟩ := HS6.out.tells
    obtain rfl : lb = lb' := by injection hlb
    have HCL := Lib.hid hcl
    clear hcl hlb HS6 hft hw4e
    refine wpIn_rangeNone rfl (by omega) (gf := 51) (lb := lb) rfl trivial (enters_of Try.func51 (by kernel_rfl) rfl) (fun l W hW => HCL.out _ l W hW) ?_
    intro D W9 hD hb hKD
    have c6 := (bxB C6.out hb).cell
    have c8 := (bxB C8.out hb).cell
    have c7 := (bxB C7.out hb).cell
    have f7 := (bxB C7.out hb).frozen
    have hlt := Boxed.lt C8.out
    obtain ⟨HKD, HR, HBW⟩ := collectedB (w := w) (HB7.out.trans (hb.mono HB7.out.size)) (bxB C7.out hb) (by omega) (by have := HB7.out.size; omega) hKD (.bool true)
    clear hb hKD hD HCL HB7 C6 C7 C8 hlt hWs hw4
    gi_wp2
    exact ⟨by simp, .inl ⟨_, _, rfl, run_takeDeferred HKD.out, _, rl_results Try.results47 rfl HR.out, rfl, HBW.out⟩⟩
section
attribute [-go_sem] loadVar
set_option maxHeartbeats 3200000 in
set_option maxRecDepth 100000 in
theorem asks_9 {w : World} {b o : Nat} {R : World → Prop} (on n m mask : Int) (r : List Int) (hr : r.length = 24)
    (HA : Calls Try.prog 47 #[.pointer (some ⟨b, o, none⟩), .agg (opL on 9 n m mask r).toArray] (w.alloc (.cells (opL on 9 n m mask r).toArray 42)) fun e w' => e = .returned (.bool true) ∧ R w') :
    Calls Try.prog 28 #[.pointer (some ⟨b, o, none⟩), .agg (opL on 9 n m mask r).toArray] w fun e w' => e = .returned (.bool true) ∧ R w' := by
  have O := Lib.hid (opAt_new w on 9 n m mask r)
  have HC := Lib.hid HA
  clear HA
  go_enter Try.func28, Try.ntmps28
  go_upto_region 1 with fail
  generalize w.alloc (.cells (opL on 9 n m mask r).toArray 42) = W at O HC ⊢
  have hc1 := run_loadInt O.out.c1
  have hld := O.out.load hr
  clear O
  go_wp2_with fail
  refine HC.out.mono ?_
  rintro e w2 ⟨rfl, hR⟩
  have HR := Lib.hid hR
  clear hR HC
  go_wp2
  go_ret
  exact ⟨rfl, HR.out⟩
set_option maxHeartbeats 3200000 in
set_option maxRecDepth 100000 in
theorem does_13 {w : World} {b o : Nat} {R : World → Prop} (on n m mask : Int) (r : List Int) (hr : r.length = 24)
    (HA : Calls Try.prog 27 #[.pointer (some ⟨b, o, none⟩), .agg (opL on 13 n m mask r).toArray] (w.alloc (.cells (opL on 13 n m mask r).toArray 42)) fun e w' => e = .returned (.bool true) ∧ R w') :
    Calls Try.prog 8 #[.pointer (some ⟨b, o, none⟩), .agg (opL on 13 n m mask r).toArray] w fun e w' => e = .returned (.bool true) ∧ R w' := by
  have O := Lib.hid (opAt_new w on 13 n m mask r)
  have HC := Lib.hid HA
  clear HA
  go_enter Try.func8, Try.ntmps8
  go_upto_region 1 with fail
  generalize w.alloc (.cells (opL on 13 n m mask r).toArray 42) = W at O HC ⊢
  have hc1 := run_loadInt O.out.c1
  have hld := O.out.load hr
  clear O
  go_wp2_with fail
  refine HC.out.mono ?_
  rintro e w2 ⟨rfl, hR⟩
  have HR := Lib.hid hR
  clear hR HC
  go_wp2
  go_ret
  exact ⟨rfl, HR.out⟩
end
end Go.Proofs.Ytlnhnpfgmiffpaa
