import Derived.Test.YtjcfhhcohmcehaaGreatDoorRelTurn
namespace Go.Proofs.YtjcfhhcohmcehaaGreatDoor
open Go.RowKit Go.Maps
set_option linter.unusedVariables false
set_option linter.unusedSimpArgs false

theorem rowKT : Tryz.prog.keyTypeAt 3 27 = true := by kernel_rfl
set_option maxRecDepth 100000 in
theorem run_eqRow {x y : List Int} (hx : RowOk x) (hy : RowOk y) (w : World) : (binOp .eql 27 (rowV x) (rowV y)).run Tryz.prog w = .ok (.bool (decide (x = y))) w := by
  obtain ⟨lx, kx⟩ := keyOf_row x hx
  obtain ⟨ly, ky⟩ := keyOf_row y hy
  obtain ⟨b, h, hb⟩ := run_equal_deep (P := Tryz.prog) w (m := 3) (by omega) (k := 27) rowKT rowWide kx ky
  have hd : b = decide (x = y) := by
    by_cases e : x = y
    · subst e
      rw [kx] at ky
      cases ky
      rw [hb.2 rfl]
      simp
    · have hn : b ≠ true := fun e2 => e (rowV_inj (keyedR.inj kx (hb.1 e2 ▸ ky)))
      rw [Bool.eq_false_iff.2 hn]
      simp [e]
  subst hd
  unfold rowV at h ⊢
  simp [binOp, run_underlying Tryz.underlying27, h, Result.andThen]
end Go.Proofs.YtjcfhhcohmcehaaGreatDoor
