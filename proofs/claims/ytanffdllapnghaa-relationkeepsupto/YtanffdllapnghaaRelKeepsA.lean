import Derived.Test.YtanffdllapnghaaRelCmp
namespace Go.Proofs.Ytanffdllapnghaa
open Go.RowKit Go.Maps
set_option linter.unusedVariables false
set_option linter.unusedSimpArgs false
attribute [local go_sem ↓] Go.wp_at_zero Go.wp_at_succ

/-! what RelationKeeps calls besides: width, the reference's Below -/
def widI (n : Int) : Int := if Int.tmod n 25 < 0 then -(Int.tmod n 25) else Int.tmod n 25
theorem widI_range (n : Int) : 0 ≤ widI n ∧ widI n ≤ 24 := by
  unfold widI
  have h1 := Int.tmod_lt_of_pos n (b := 25) (by omega)
  have h2 : -25 < Int.tmod n 25 := by
    have := Int.tmod_lt_of_pos (-n) (b := 25) (by omega)
    rw [Int.neg_tmod] at this
    omega
  split <;> omega
set_option maxHeartbeats 800000 in
theorem width_any (n : Int) (w : World) : Calls Try.prog 6 #[.int .i64 n] w fun e w' => e = .returned (.int .i64 (widI n)) ∧ w' = w := by
  have hr := widI_range n
  have h1 := Int.tmod_lt_of_pos n (b := 25) (by omega)
  have h2 : -25 < Int.tmod n 25 := by
    have := Int.tmod_lt_of_pos (-n) (b := 25) (by omega)
    rw [Int.neg_tmod] at this
    omega
  have hw : IntKind.i64.wrap (Int.tmod n 25) = Int.tmod n 25 := by rw [IntKind.wrap_i64]; omega
  have hw2 : IntKind.i64.wrap (-(Int.tmod n 25)) = -(Int.tmod n 25) := by rw [IntKind.wrap_i64]; omega
  have HD : Hid (widI n = if Int.tmod n 25 < 0 then -(Int.tmod n 25) else Int.tmod n 25) := rfl
  by_cases hz : Int.tmod n 25 < 0
  · have HE : Hid (widI n = -(Int.tmod n 25)) := by show _ = _; rw [HD.out, if_pos hz]
    clear hr HD
    go_enter Try.func6, Try.ntmps6
    go_wp2
    go_ret
    exact ⟨by rw [HE.out]; first | rfl | simp, rfl⟩
  · have HE : Hid (widI n = Int.tmod n 25) := by show _ = _; rw [HD.out, if_neg hz]
    clear hr HD
    go_enter Try.func6, Try.ntmps6
    go_wp2
    go_ret
    exact ⟨by rw [HE.out]; first | rfl | simp, rfl⟩
attribute [-go_sem] loadVar
set_option maxHeartbeats 3200000 in
set_option maxRecDepth 100000 in
theorem rbelow_any (x y : List Int) (lx : x.length = 24) (ly : y.length = 24) (w : World) : Calls Try.prog 12 #[rowV x, rowV y] w fun e w' => e = .returned (.bool (decide (lexI x y < 0))) ∧ Below w.heap.size w w' := by
  have r1 := RowAt.below (rowAt_new w x) (belowA (.cells (rowC y) 25))
  have r2 := rowAt_new (w.alloc (.cells (rowC x) 25)) y
  simp only [World.size_alloc] at r2
  have HB := Lib.hid (((Below.refl w.heap.size w).alloc (Nat.le_refl _) (.cells (rowC x) 25)).alloc (by simp) (.cells (rowC y) 25))
  have HR := Lib.hid (And.intro r1 r2)
  clear r1 r2
  unfold rowV
  go_enter Try.func12, Try.ntmps12
  go_upto_region 1 with fail
  generalize (w.alloc (.cells (rowC x) 25)).alloc (.cells (rowC y) 25) = W at HB HR ⊢
  have HB0 : Hid (Below W.heap.size W W) := Below.refl _ _
  go_wp2
  go_loopw [5] (fun i wr => ∃ q : Nat, q ≤ 24 ∧ i = .int .i64 q ∧ Hid (Below W.heap.size W wr) ∧ Hid (lexI x y = lexI (x.drop q) (y.drop q))) (fun i _ => 24 - (intOf i).toNat)
  case atStart => exact ⟨0, by omega, rfl, HB0, rfl⟩
  case round =>
    obtain ⟨q, hq, rfl, HI, HL⟩ := hrel
    clear HB0
    by_cases hqt : q < 24
    · have hqt' : (q : Int) < 24 := by omega
      have hq0 : (0 : Int) ≤ (q : Int) := by omega
      have HID := Lib.hid HI.out.drew
      have l1 := run_loadSymC ((HR.out.1.below HID.out).cellC lx hqt)
      have l2 := run_loadSymC ((HR.out.2.below HID.out).cellC ly hqt)
      have HS := Lib.hid (lexI_step (x := x) (y := y) (q := q) (by omega) (by omega))
      have m1 := run_loadSymC ((HR.out.1.below HID.out.drew).cellC lx hqt)
      have m2 := run_loadSymC ((HR.out.2.below HID.out.drew).cellC ly hqt)
      generalize x.getD q 0 = a at l1 m1 HS
      generalize y.getD q 0 = b at l2 m2 HS
      by_cases p : a = b
      · have HE : Hid (lexI x y = lexI (x.drop (q + 1)) (y.drop (q + 1))) := by show _ = _; rw [HL.out, HS.out, if_neg (by omega), if_neg (by omega)]
        subst p
        clear HL HS m1 m2 HI
        go_wp2_with fail
        refine region_once ?_
        apply Exists.intro
        apply Exists.intro
        refine ⟨?_, ?_⟩
        · go_region
          all_goals exact ⟨rfl, rfl, rfl⟩
        go_wp2
        go_roundw
        case rel => exact ⟨q + 1, by omega, by go_num, HID, HE⟩
        case measure => simp [intOf]; omega
      · have HE : Hid (decide (lexI x y < 0) = decide (a < b)) := by
          show _ = _
          rw [HL.out, HS.out]
          by_cases p1 : a < b
          · rw [if_pos p1]; simp [p1]
          · rw [if_neg p1, if_pos (by omega)]; simp [p1]
        have hne : (a != b) = true := by simp [p]
        have hne2 : (a == b) = false := by simp [p]
        clear HL HS HI p
        go_wp2_with fail
        refine region_once ?_
        apply Exists.intro
        apply Exists.intro
        refine ⟨?_, ?_⟩
        · go_region
          all_goals exact ⟨rfl, rfl, rfl⟩
        go_wp2_with fail
        refine region_once ?_
        apply Exists.intro
        apply Exists.intro
        refine ⟨?_, ?_⟩
        · go_region
          all_goals exact ⟨rfl, rfl, rfl⟩
        go_wp2
        go_ret
        exact ⟨by rw [HE.out]; rfl, HB.out.trans (HID.out.drew.mono HB.out.size)⟩
    · obtain rfl : q = 24 := by omega
      have HE : Hid (decide (lexI x y < 0) = false) := by
        show _ = _
        rw [HL.out, List.drop_eq_nil_of_le (by omega), List.drop_eq_nil_of_le (by omega)]
        rfl
      go_wp2
      go_ret
      exact ⟨by rw [HE.out]; rfl, HB.out.trans (HI.out.mono HB.out.size)⟩
end Go.Proofs.Ytanffdllapnghaa
