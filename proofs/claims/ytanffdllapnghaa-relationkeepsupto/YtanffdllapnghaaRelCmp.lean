import Derived.Test.YtanffdllapnghaaRelTurnS
import Derived.Test.YtanffdllapnghaaRelRange
import Derived.Shelf.SlSortCmp.WholeK
namespace Go.Proofs.Ytanffdllapnghaa
open Go.RowKit Go.Maps
set_option linter.unusedVariables false
set_option linter.unusedSimpArgs false
attribute [local go_sem ↓] Go.wp_at_zero Go.wp_at_succ

/-! the order of rows -/
def cmpI (a b : Int) : Int := if a < b then -1 else if b < a then 1 else 0
def lexI : List Int → List Int → Int
  | a :: x, b :: y => if a < b then -1 else if b < a then 1 else lexI x y
  | [], [] => 0
  | [], _ :: _ => -1
  | _ :: _, [] => 1
theorem lexI_step {x y : List Int} {q : Nat} (hx : q < x.length) (hy : q < y.length) : lexI (x.drop q) (y.drop q) = if x.getD q 0 < y.getD q 0 then -1 else if y.getD q 0 < x.getD q 0 then 1 else lexI (x.drop (q + 1)) (y.drop (q + 1)) := by
  have ex : x.drop q = x.getD q 0 :: x.drop (q + 1) := by
    rw [List.drop_eq_getElem_cons hx]
    simp [List.getD, List.getElem?_eq_getElem hx]
  have ey : y.drop q = y.getD q 0 :: y.drop (q + 1) := by
    rw [List.drop_eq_getElem_cons hy]
    simp [List.getD, List.getElem?_eq_getElem hy]
  rw [ex, ey, lexI]
theorem lexI_self : ∀ x : List Int, lexI x x = 0
  | [] => rfl
  | a :: x => by simp [lexI, lexI_self x]
theorem lexI_swap : ∀ x y : List Int, lexI y x = - lexI x y
  | [], [] => rfl
  | [], _ :: _ => rfl
  | _ :: _, [] => rfl
  | a :: x, b :: y => by
    simp only [lexI]
    have := lexI_swap x y
    split <;> split <;> first | omega | (split <;> omega) | skip
theorem lexI_zero : ∀ {x y : List Int}, lexI x y = 0 → x = y
  | [], [], _ => rfl
  | [], _ :: _, h => by simp [lexI] at h
  | _ :: _, [], h => by simp [lexI] at h
  | a :: x, b :: y, h => by
    simp only [lexI] at h
    split at h
    · omega
    · split at h
      · omega
      · have e : a = b := by omega
        rw [e, lexI_zero h]
theorem lexI_trans : ∀ {x y z : List Int}, lexI x y < 0 → lexI y z < 0 → lexI x z < 0
  | [], [], _, h, _ => by simp [lexI] at h
  | [], _ :: _, [], _, h => by simp [lexI] at h
  | [], _ :: _, _ :: _, _, _ => by simp [lexI]
  | _ :: _, [], _, h, _ => by simp [lexI] at h
  | _ :: _, _ :: _, [], _, h => by simp [lexI] at h
  | a :: x, b :: y, c :: z, h1, h2 => by
    simp only [lexI] at h1 h2 ⊢
    have ih := @lexI_trans x y z
    by_cases p : a < b
    · by_cases q : b < c
      · rw [if_pos (by omega)]; omega
      · rw [if_neg q] at h2
        by_cases r : c < b
        · rw [if_pos r] at h2; omega
        · rw [if_pos (by omega)]; omega
    · rw [if_neg p] at h1
      by_cases p2 : b < a
      · rw [if_pos p2] at h1; omega
      · rw [if_neg p2] at h1
        have e : a = b := by omega
        subst e
        by_cases q : a < c
        · rw [if_pos q]; omega
        · rw [if_neg q] at h2 ⊢
          by_cases r : c < a
          · rw [if_pos r] at h2; omega
          · rw [if_neg r] at h2 ⊢
            exact ih h1 h2
theorem run_loadSymC {w : World} {a : Addr} {n : Int} (h : w.cell? a = some (.int .i32 n)) : (loadVar 23 a).run Try.prog w = .ok (.int .i32 n) w := by
  simp [loadVar, go_sem, h]
theorem RowAt.cellC {w : World} {b : Nat} {r : List Int} (h : RowAt w b r) (hl : r.length = 24) {k : Nat} (hk : k < 24) : w.cell? ⟨b, k, none⟩ = some (.int .i32 (r.getD k 0)) := by
  have h1 : w.heap[b]? = some (.cells (rowC r) 25 (0, 0)) := h
  have h2 : k < r.length := by omega
  simp [World.cell?, h1, rowC, cellI, List.getD, List.getElem?_eq_getElem h2]
set_option maxHeartbeats 800000 in
theorem isNaN_any (a : Int) (w : World) : Calls Try.prog 51 #[.int .i32 a] w fun e w' => e = .returned (.bool false) ∧ w' = w := by
  go_enter Try.func51, Try.ntmps51
  go_wp2
  go_ret
  simp
set_option maxHeartbeats 1600000 in
set_option maxRecDepth 100000 in
theorem cmpSym_any (a b : Int) (w : World) : Calls Try.prog 44 #[.int .i32 a, .int .i32 b] w fun e w' => e = .returned (.int .i64 (cmpI a b)) ∧ w' = w := by
  have HA := Lib.hid (isNaN_any a w)
  have HB := Lib.hid (isNaN_any b w)
  by_cases h1 : a < b
  · have hc : Hid (cmpI a b = -1) := by show _ = _; simp [cmpI, h1]
    go_enter Try.func44, Try.ntmps44
    go_wp2_with fail
    refine HA.out.mono ?_
    rintro e w1 ⟨rfl, rfl⟩
    go_wp2_with fail
    refine HB.out.mono ?_
    rintro e w1 ⟨rfl, rfl⟩
    go_wp2
    go_ret
    exact ⟨by rw [hc.out]; rfl, rfl⟩
  · by_cases h2 : b < a
    · have hc : Hid (cmpI a b = 1) := by show _ = _; simp [cmpI, h1, h2]
      go_enter Try.func44, Try.ntmps44
      go_wp2_with fail
      refine HA.out.mono ?_
      rintro e w1 ⟨rfl, rfl⟩
      go_wp2_with fail
      refine HB.out.mono ?_
      rintro e w1 ⟨rfl, rfl⟩
      go_wp2
      go_ret
      exact ⟨by rw [hc.out]; rfl, rfl⟩
    · have hc : Hid (cmpI a b = 0) := by show _ = _; simp [cmpI, h1, h2]
      go_enter Try.func44, Try.ntmps44
      go_wp2_with fail
      refine HA.out.mono ?_
      rintro e w1 ⟨rfl, rfl⟩
      go_wp2_with fail
      refine HB.out.mono ?_
      rintro e w1 ⟨rfl, rfl⟩
      go_wp2
      go_ret
      exact ⟨by rw [hc.out]; rfl, rfl⟩
attribute [-go_sem] loadVar
set_option maxHeartbeats 3200000 in
set_option maxRecDepth 100000 in
theorem compareL_any {w : World} {b1 b2 : Nat} {x y : List Int} (h1 : RowAt w b1 x) (h2 : RowAt w b2 y) (lx : x.length = 24) (ly : y.length = 24) :
    Calls Try.prog 31 #[.slice (some ⟨b1, 0, none⟩) 24 24, .slice (some ⟨b2, 0, none⟩) 24 24] w fun e w' => e = .returned (.int .i64 (lexI x y)) ∧ w' = w := by
  have HR := Lib.hid (And.intro h1 h2)
  have HC := Lib.hid (fun a b : Int => cmpSym_any a b w)
  clear h1 h2
  go_enter Try.func31, Try.ntmps31
  go_wp2
  go_loopw [11] (fun i wr => ∃ q : Nat, q ≤ 24 ∧ i = .int .i64 q ∧ wr = w ∧ Hid (lexI x y = lexI (x.drop q) (y.drop q))) (fun i _ => 24 - (intOf i).toNat)
  case atStart => exact ⟨0, by omega, rfl, rfl, rfl⟩
  case round =>
    obtain ⟨q, hq, rfl, hwr, HL⟩ := hrel
    subst hwr
    by_cases hqt : q < 24
    · have hqt' : (q : Int) < 24 := by omega
      have hq0 : (0 : Int) ≤ (q : Int) := by omega
      have l1 := run_loadSymC (HR.out.1.cellC lx hqt)
      have l2 := run_loadSymC (HR.out.2.cellC ly hqt)
      have HS := Lib.hid (lexI_step (x := x) (y := y) (q := q) (by omega) (by omega))
      generalize x.getD q 0 = a at l1 HS
      generalize y.getD q 0 = b at l2 HS
      go_wp2_with fail
      refine (HC.out a b).mono ?_
      rintro e w1 ⟨rfl, rfl⟩
      by_cases p : a < b
      · have hc : cmpI a b = -1 := by simp [cmpI, p]
        have HE : Hid (lexI x y = -1) := by show _ = _; rw [HL.out, HS.out, if_pos p]
        rw [hc]
        clear hc p
        go_wp2
        go_ret
        exact ⟨by rw [HE.out]; rfl, rfl⟩
      · by_cases p2 : b < a
        · have hc : cmpI a b = 1 := by simp [cmpI, p, p2]
          have HE : Hid (lexI x y = 1) := by show _ = _; rw [HL.out, HS.out, if_neg p, if_pos p2]
          rw [hc]
          clear hc p p2
          go_wp2
          go_ret
          exact ⟨by rw [HE.out]; rfl, rfl⟩
        · have hc : cmpI a b = 0 := by simp [cmpI, p, p2]
          have HE : Hid (lexI x y = lexI (x.drop (q + 1)) (y.drop (q + 1))) := by show _ = _; rw [HL.out, HS.out, if_neg p, if_neg p2]
          rw [hc]
          clear hc p p2
          go_wp2
          go_roundw
          case rel => exact ⟨q + 1, by omega, by go_num, by simp, HE⟩
          case measure => simp [intOf]; omega
    · obtain rfl : q = 24 := by omega
      have HE : Hid (lexI x y = 0) := by
        show _ = _
        rw [HL.out, List.drop_eq_nil_of_le (by omega), List.drop_eq_nil_of_le (by omega)]
        rfl
      go_wp2
      go_ret
      exact ⟨by rw [HE.out]; rfl, rfl⟩
set_option maxHeartbeats 1600000 in
set_option maxRecDepth 100000 in
theorem compare_any (x y : List Int) (lx : x.length = 24) (ly : y.length = 24) (w : World) : Calls Try.prog 24 #[rowV x, rowV y] w fun e w' => e = .returned (.int .i64 (lexI x y)) ∧ ∃ q os', w' = Go.Sort.grow (w.drewN q) os' := by
  have r1 := RowAt.below (rowAt_new w x) (belowA (.cells (rowC y) 25))
  have r2 := rowAt_new (w.alloc (.cells (rowC x) 25)) y
  have hD : Below ((w.alloc (.cells (rowC x) 25)).alloc (.cells (rowC y) 25)).heap.size ((w.alloc (.cells (rowC x) 25)).alloc (.cells (rowC y) 25)) ((w.alloc (.cells (rowC x) 25)).alloc (.cells (rowC y) 25)).drew := (Below.refl _ _).drew
  have HC := Lib.hid (compareL_any (r1.below hD) (r2.below hD) lx ly)
  have HW : Hid (∃ q os', ((w.alloc (.cells (rowC x) 25)).alloc (.cells (rowC y) 25)).drew = Go.Sort.grow (w.drewN q) os') := by
    refine ⟨1, #[.cells (rowC x) 25, .cells (rowC y) 25], ?_⟩
    rw [Go.Sort.alloc_eq_grow, Go.Sort.alloc_eq_grow, Go.Sort.grow_grow]
    rfl
  simp only [World.size_alloc] at HC
  clear r1 r2 hD
  unfold rowV
  go_enter Try.func24, Try.ntmps24
  go_upto_region 1 with fail
  generalize (w.alloc (.cells (rowC x) 25)).alloc (.cells (rowC y) 25) = W at HC HW ⊢
  go_region_law (
    refine step_call rfl 31 Try.func31 (by kernel_rfl) (by kernel_rfl) #[.tmp 5, .tmp 6] _ rfl #[.slice (some ⟨w.heap.size, 0, none⟩) 24 24, .slice (some ⟨w.heap.size + 1, 0, none⟩) 24 24] (by simp [Act.eval, Act.put]) HC.out ?_
    rintro ee w2 ⟨rfl, rfl⟩
    refine ⟨_, rfl, ?_⟩)
  all_goals
    go_wp2
    go_ret
    exact ⟨rfl, HW.out⟩
end Go.Proofs.Ytanffdllapnghaa
