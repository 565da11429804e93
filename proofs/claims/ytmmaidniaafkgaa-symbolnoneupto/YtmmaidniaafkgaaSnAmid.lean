import Derived.Test.YtmmaidniaafkgaaSnRows
namespace Go.Proofs.Ytmmaidniaafkgaa
open Go.RowKit Go.Maps Go.Shelf
set_option linter.unusedVariables false
set_option linter.unusedSimpArgs false
attribute [local go_sem ↓] Go.wp_at_zero Go.wp_at_succ
attribute [local go_sem] Oper.semAt_some run_store_func

set_option maxHeartbeats 3200000 in
set_option maxRecDepth 100000 in
theorem amid_no {w : World} {t : Nat} {p : Value} (h : BothNo w t p) (on k n m : Int) (v : V) (lv : Value) (r : List Int) : Calls Try.prog 28 #[.pointer (some ⟨t, 0, none⟩), .agg (opL on k n m v lv r).toArray] w fun e w' => e = .returned (.bool true) ∧ Below w.heap.size w w' := by
  refine (callsIn_wide (n := 8)).1 ?_
  refine callsIn_of_wp_marks Try.func28 rfl trivial ?_ rfl
  simp only [Try.ntmps28, List.size_toArray, List.length_cons, List.length_nil, Nat.reduceAdd, Nat.reduceSub, Array.replicate_succ, Array.replicate_zero, List.push_toArray, List.append_toArray, List.nil_append, List.cons_append]
  have hb3 := ((((Below.refl w.heap.size w).alloc (Nat.le_refl _) (.cells #[.pointer (some ⟨t, 0, none⟩)] 44)).alloc (by simp) (.cells (opL on k n m v lv r).toArray 31)).alloc (by simp; omega) (.cells #[.bool false] 4))
  have HB3 := Lib.hid hb3
  have HN3 := Lib.hid (h.below hb3)
  have B1 := Lib.hid (bxB (bxB (Boxed.new w 44 (.pointer (some ⟨t, 0, none⟩))) (belowA (.cells (opL on k n m v lv r).toArray 31))) (belowA (.cells #[.bool false] 4)))
  have B3 := Lib.hid (bxN (w := (w.alloc (.cells #[.pointer (some ⟨t, 0, none⟩)] 44)).alloc (.cells (opL on k n m v lv r).toArray 31)) (B := w.heap.size + 1 + 1) (by simp) 4 (.bool false))
  clear h hb3
  have hc := HN3.out.c1
  have hb := B1.out.cell
  gi_wp2_with fail
  generalize (((w.alloc (.cells #[.pointer (some ⟨t, 0, none⟩)] 44)).alloc (.cells (opL on k n m v lv r).toArray 31)).alloc (.cells #[.bool false] 4)) = W at HB3 HN3 B1 B3 hc hb ⊢
  refine ⟨trivial, (callsIn_wide.2 (rall_nil _)).mono ?_⟩
  rintro e w1 ⟨rfl, rfl⟩
  clear hc hb
  have hbN : Below w1.heap.size w1 (w1.alloc (.cells #[.slice none 0 0] 64)) := belowA _
  have B4 := Lib.hid (Boxed.new w1 64 (.slice none 0 0))
  have HBN := Lib.hid hbN
  have hc := (HN3.out.below hbN).c0
  have hb := (bxB B1.out hbN).cell
  clear hbN
  gi_wp2_with fail
  generalize hz1 : w1.heap.size = z1 at B4 ⊢
  generalize w1.alloc (.cells #[.slice none 0 0] 64) = W2 at B4 HBN hc hb ⊢
  refine ⟨trivial, (callsIn_wide.2 (all_no (HN3.out.below HBN.out).no)).mono ?_⟩
  rintro e w3 ⟨⟨sq, rfl, hsq⟩, b3⟩
  obtain ⟨lb, rfl, _⟩ := hsq.tells
  have hb13 : Below w1.heap.size w1 w3 := HBN.out.trans (b3.mono HBN.out.size)
  have HW3 := Lib.hid (HB3.out.trans (hb13.mono HB3.out.size))
  have B6 := Lib.hid (bxB B4.out b3)
  have B7 := Lib.hid (bxB B3.out hb13)
  have hB7 := Boxed.lt B3.out
  have hsz := hb13.size
  have hWx := (((HW3.out.alloc HW3.out.size (.cells #[.func (.func 37) #[] lb] 35)).alloc (Nat.le_trans HW3.out.size (by simp)) (.cells #[.int .i64 0] 3)))
  have bA := (belowA (w := w3) (.cells #[.func (.func 37) #[] lb] 35)).alloc (by simp) (.cells #[.int .i64 0] 3)
  have HWX := Lib.hid hWx
  have S8 := Lib.hid (hsq.below bA)
  have C6 := Lib.hid (bxB B6.out bA)
  have C7 := Lib.hid (bxB B7.out bA)
  have C8 := Lib.hid (bxB (Boxed.new w3 35 (.func (.func 37) #[] lb)) (belowA (.cells #[.int .i64 0] 3)))
  have C9 := Lib.hid (bxN (w := w3.alloc (.cells #[.func (.func 37) #[] lb] 35)) (B := w3.heap.size + 1) (by simp) 3 (.int .i64 0))
  have hft := fun w => fn_there 37 lb w
  clear hsq b3 hb13 HBN hc hb HW3 B1 B3 B4 B6 B7 hWx bA HB3 HN3
  gi_wp2_with fail
  generalize hb9 : w3.heap.size = b9 at C8 C9 hsz ⊢
  generalize (w3.alloc (.cells #[.func (.func 37) #[] lb] 35)).alloc (.cells #[.int .i64 0] 3) = W8 at S8 HWX C6 C7 C8 C9 ⊢
  obtain ⟨lb', hlb, hcl⟩ := S8.out.tells
  obtain rfl : lb = lb' := by injection hlb
  have HCL := Lib.hid hcl
  clear hcl hlb S8 hft hb9
  refine wpIn_rangeNone rfl (by omega) (gf := 37) (lb := lb) rfl trivial (enters_of Try.func37 (by kernel_rfl) rfl) (fun l W hW => HCL.out _ l W hW) ?_
  intro D W9 hD hb hKD
  have c6 := (bxB C6.out hb).cell
  have c9 := (bxB C9.out hb).cell
  have c7 := (bxB C7.out hb).cell
  have f7 := (bxB C7.out hb).frozen
  have hlt := Boxed.lt C9.out
  obtain ⟨HKD, HR, HBW⟩ := collected_bool HWX.out hb (bxB C7.out hb) (by omega) (by omega) hKD (.bool true)
  clear hb hKD hD HCL HWX C6 C7 C8 C9 hlt hB7 hsz hz1
  gi_wp2
  exact ⟨by simp, .inl ⟨_, _, rfl, run_takeDeferred HKD.out, _, rl_results Try.results28 rfl HR.out, rfl, HBW.out⟩⟩
end Go.Proofs.Ytmmaidniaafkgaa
