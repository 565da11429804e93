import Derived.Test.YtekjoccbbamehaaIxRb
import Derived.Test.YtekjoccbbamehaaRelAdd
namespace Go.Proofs.Ytekjoccbbamehaa
open Go.RowKit Go.Maps Go.ChangeMaps
set_option linter.unusedVariables false
set_option linter.unusedSimpArgs false
attribute [local go_sem ↓] Go.wp_at_zero Go.wp_at_succ

attribute [-go_sem] loadVar
def rowX1 : List Int := [1, 2, 0, 0, 0, 0, 0, 0, 0, 0, 0, 0, 0, 0, 0, 0, 0, 0, 0, 0, 0, 0, 0, 0]
def rowX2 : List Int := [4, 2, 0, 0, 0, 0, 0, 0, 0, 0, 0, 0, 0, 0, 0, 0, 0, 0, 0, 0, 0, 0, 0, 0]
def rowX3 : List Int := [1, 3, 0, 0, 0, 0, 0, 0, 0, 0, 0, 0, 0, 0, 0, 0, 0, 0, 0, 0, 0, 0, 0, 0]
def rowX4 : List Int := [0, 2, 0, 0, 0, 0, 0, 0, 0, 0, 0, 0, 0, 0, 0, 0, 0, 0, 0, 0, 0, 0, 0, 0]
def rowX5 : List Int := [1, 0, 0, 0, 0, 0, 0, 0, 0, 0, 0, 0, 0, 0, 0, 0, 0, 0, 0, 0, 0, 0, 0, 0]
theorem rowX1_ok : RowOk rowX1 := ⟨by decide, by decide⟩
theorem rowX2_ok : RowOk rowX2 := ⟨by decide, by decide⟩
theorem rowX3_ok : RowOk rowX3 := ⟨by decide, by decide⟩
theorem rowX4_ok : RowOk rowX4 := ⟨by decide, by decide⟩
theorem rowX5_ok : RowOk rowX5 := ⟨by decide, by decide⟩
theorem fitX1 : fitB rowX1 2 = true := by decide
theorem fitX2 : fitB rowX2 2 = true := by decide
theorem fitX3 : fitB rowX3 2 = true := by decide
theorem selX1 : (selX 2 [rowX1, rowX2] rowX4).length = 2 := by kernel_rfl
theorem selX2 : selX 1 [rowX1, rowX2, rowX3] rowX5 = [0, 2] := by kernel_rfl
theorem intsLit (w : World) : IntsAt (w.alloc (.cells #[.int .i64 0, .int .i64 2] 3)) (.slice (some ⟨w.heap.size, 0, none⟩) 2 2) [0, 2] := by
  refine ⟨_, _, rfl, by simp [maxLen], .inr ⟨w.heap.size, 0, rfl, by simp, fun j hj => ?_⟩⟩
  have hj' : j < 2 := hj
  have e : j = 0 ∨ j = 1 := by omega
  rcases e with rfl | rfl <;> go_simp
set_option maxHeartbeats 3200000 in
set_option maxRecDepth 100000 in
theorem lives11_true (w : World) : Calls Try.prog 5 #[] w fun e w' => e = .returned (.bool true) ∧ Below w.heap.size w w' := by
  have HN := Lib.hid (new_any 2 (by omega) (by omega) w)
  go_enter Try.func5, Try.ntmps5
  go_wp2_with fail
  refine HN.out.mono ?_
  rintro e w1 ⟨t, m, rfl, hR1, b1⟩
  have HB1 := Lib.hid b1
  have HR1 := Lib.hid hR1
  have HA1 := Lib.hid (add_any hR1 b1.size (by simp) rowX1 rowX1_ok)
  clear hR1 b1 HN
  go_wp2_with fail
  refine HA1.out.mono ?_
  rintro e w2 (⟨hf, -⟩ | ⟨-, hf, -⟩ | ⟨-, -, rfl, b2, sv2, hR2⟩)
  · exact absurd (hf.symm.trans fitX1) (by decide)
  · cases hf
  have HB2 := Lib.hid (HB1.out.trans b2)
  have HR2 := Lib.hid hR2
  have HA2 := Lib.hid (add_any hR2 HB2.out.size (by simp) rowX2 rowX2_ok)
  clear hR2 b2 HA1 HR1 HB1
  go_wp2_with fail
  refine HA2.out.mono ?_
  rintro e w3 (⟨hf, -⟩ | ⟨-, hf, -⟩ | ⟨-, -, rfl, b3, sv3, hR3⟩)
  · exact absurd (hf.symm.trans fitX2) (by decide)
  · exact absurd hf (by decide)
  have HB3 := Lib.hid (HB2.out.trans b3)
  have HR3 : Hid (Rel w3 w.heap.size t m sv3 [rowX1, rowX2] ((2 : Nat) : Int) 0) := hR3
  have HNB := Lib.hid (new_bk hR3 (by simp))
  clear hR3 b3 HA2 HR2 HB2
  go_wp2_with fail
  refine HNB.out.mono ?_
  rintro e w4 ⟨bk, mb, rfl, hbk, b4⟩
  have HB4 := Lib.hid (HB3.out.trans (b4.mono HB3.out.size))
  have hrb := Rb.made HR3.out HB3.out.size hbk b4
  have HRB4 := Lib.hid hrb
  have HCT := Lib.hid (hrb.count (m := 2) (by omega) (by simp) rfl (by decide) rowX4_ok)
  rw [selX1] at HCT
  have HBB := Lib.hid HB3.out.size
  clear HNB HR3 HB3 hbk b4 hrb
  go_wp2_with fail
  refine HCT.out.mono ?_
  rintro e w5 ⟨is5, j5, rfl, hA5⟩
  have HB5 := Lib.hid (HB4.out.trans ((HRB4.out.asked_below hA5).mono HBB.out))
  have hrb5 := HRB4.out.asked hA5
  have HRB5 := Lib.hid hrb5
  have HAD := Lib.hid (add_anyT hrb5.rel HB5.out.size (by simp) rowX3 rowX3_ok)
  clear HCT hA5 HRB4 HB4 hrb5
  go_wp2_with fail
  refine HAD.out.mono ?_
  rintro e w6 (⟨hf, -⟩ | ⟨-, hf, -⟩ | ⟨-, -, rfl, hT6, sv6, hR6, hloc⟩)
  · exact absurd (hf.symm.trans fitX3) (by decide)
  · exact absurd hf (by decide)
  have HB6 := Lib.hid (HB5.out.trans (HRB5.out.touch_below hT6))
  have hrb6 : Rb w6 w.heap.size w3.heap.size t m sv6 [rowX1, rowX2, rowX3] 2 0 bk mb is5 := HRB5.out.add hT6 hR6 hloc
  have HRB6 := Lib.hid hrb6
  have HLK := Lib.hid (hrb6.look (m := 1) (by omega) (by simp) rfl (by decide) rowX5_ok)
  rw [selX2] at HLK
  clear HAD HRB5 HB5 hT6 hR6 hloc hrb6
  go_wp2_with fail
  refine HLK.out.mono ?_
  rintro e w7 ⟨is7, j7, sv7, rfl, hown7, hA7⟩
  have HB7 := Lib.hid (HB6.out.trans ((HRB6.out.asked_below hA7).mono HBB.out))
  have HI7 : Hid (IntsAt w7 sv7 [0, 2]) := IntsAt.of_own hown7 (by simp)
  clear HLK HRB6 HB6 hown7 hA7
  go_wp2_with fail
  have hA := belowA (w := w7) (.cells #[.int .i64 0, .int .i64 2] 3)
  refine (sameInts_any (HI7.out.below hA) (intsLit w7)).mono ?_
  rintro e w8 ⟨rfl, b8⟩
  have HB8 := Lib.hid ((HB7.out.trans (hA.mono HB7.out.size)).trans (b8.mono (Nat.le_trans HB7.out.size hA.size)))
  clear hA b8 HI7 HB7
  rw [show decide (([0, 2] : List Int) = [0, 2]) = true from rfl]
  go_wp2
  go_ret
  exact ⟨rfl, HB8.out⟩
end Go.Proofs.Ytekjoccbbamehaa
