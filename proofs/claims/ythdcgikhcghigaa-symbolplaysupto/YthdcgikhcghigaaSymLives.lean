import Derived.Test.YthdcgikhcghigaaSymAdd
namespace Go.Proofs.Ythdcgikhcghigaa
open Go.RowKit Go.Maps Go.ChangeMaps
set_option linter.unusedVariables false
set_option linter.unusedSimpArgs false
attribute [local go_sem ↓] Go.wp_at_zero Go.wp_at_succ

theorem Touch.cell {w w' : World} {t m : Nat} {sv sv' : Value} (h : Touch w w' t m sv sv') {k i : Nat} {u : Value} (hc : w.cell? ⟨k, i, none⟩ = some u) (h1 : k ≠ t) (h2 : k ≠ m) (h3 : sv.ownBlock ≠ some k) : w'.cell? ⟨k, i, none⟩ = some u := by
  have hk : k < w.heap.size := World.block_lt_of_cell? _ _ hc
  rw [World.cell?_of_block (a := ⟨k, i, none⟩) (h.block k hk h1 h2 h3)]
  exact hc

theorem Touch.below {w w' : World} {t m : Nat} {sv sv' : Value} {B : Nat} (h : Touch w w' t m sv sv') (hB : B ≤ w.heap.size) (h1 : B ≤ t) (h2 : B ≤ m) (h3 : ∀ g, sv.ownBlock = some g → B ≤ g) : Below B w w' :=
  ⟨h.low.os, h.low.tape, h.low.output, h.low.size, fun k hk => h.block k (by omega) (by omega) (by omega) (fun e => by have := h3 k e; omega)⟩

def va : V := ⟨1, 5, ⟨#[]⟩⟩
def vb : V := ⟨2, 0, ⟨#[98]⟩⟩
theorem va_wf : va.wf := ⟨by decide, by decide, by decide⟩
theorem vb_wf : vb.wf := ⟨by decide, by decide, by decide⟩
theorem va_ok : chk va.k va.n va.s = 0 := (chk_ok (.inl ⟨rfl, by decide +kernel⟩)).symm
theorem vb_ok : chk vb.k vb.n vb.s = 0 := (chk_ok (.inr ⟨rfl, rfl, by decide⟩)).symm

set_option maxHeartbeats 3200000 in
set_option maxRecDepth 10000 in
theorem lives_any (w : World) : Calls Try.prog 12 #[] w fun e w' => e = .returned (.bool true) ∧ Below w.heap.size w w' := by
  go_enter Try.func12, Try.ntmps12
  go_wp2_with fail
  refine (new_ok _ 2 (by omega) (by omega)).mono ?_
  rintro e w1 ⟨rfl, hb1, T1⟩
  have hlt := T1.lts
  go_wp2_with fail
  have T1' := T1.below (((Below.refl _ _).alloc (Nat.le_refl _) (.cells #[.int .i8 1, .int .i64 5, .string ⟨#[]⟩] 39)).alloc (by simp) (.cells #[.int .i8 2, .int .i64 0, .string ⟨#[98]⟩] 39))
  refine (add_new T1' (v := va) va_wf va_ok (by simp) (by simp) (by simp)).mono ?_
  rintro e w2 ⟨rfl, sv2, T2, U2⟩
  have n2 : ∀ g, sv2.ownBlock = some g → w1.heap.size + 2 ≤ g := fun g hg => by
    rcases U2.new g hg with h | h
    · cases h
    · simpa using h
  have ne2 : ∀ k, k < w1.heap.size + 2 → sv2.ownBlock ≠ some k := fun k hk e => by have := n2 k e; omega
  have a0 : w2.cell? ⟨w1.heap.size, 0, none⟩ = some (.int .i8 1) := U2.cell (by go_simp) (by omega) (by omega) (by simp [Value.ownBlock])
  have a1 : w2.cell? ⟨w1.heap.size, 1, none⟩ = some (.int .i64 5) := U2.cell (by go_simp) (by omega) (by omega) (by simp [Value.ownBlock])
  have a2 : w2.cell? ⟨w1.heap.size, 2, none⟩ = some (.string ⟨#[]⟩) := U2.cell (by go_simp) (by omega) (by omega) (by simp [Value.ownBlock])
  have b0 : w2.cell? ⟨w1.heap.size + 1, 0, none⟩ = some (.int .i8 2) := U2.cell (by go_simp) (by omega) (by omega) (by simp [Value.ownBlock])
  have b1 : w2.cell? ⟨w1.heap.size + 1, 1, none⟩ = some (.int .i64 0) := U2.cell (by go_simp) (by omega) (by omega) (by simp [Value.ownBlock])
  have b2 : w2.cell? ⟨w1.heap.size + 1, 2, none⟩ = some (.string ⟨#[98]⟩) := U2.cell (by go_simp) (by omega) (by omega) (by simp [Value.ownBlock])
  have bb2 : Below w.heap.size w w2 := (hb1.trans (((Below.refl _ _).alloc (Nat.le_of_lt hlt.2.1) _).alloc (by simp; omega) _)).trans (U2.below (by simp; omega) (by omega) (by omega) (fun g hg => by cases hg))
  clear T1 T1' U2 n2 hb1
  go_wp2_with fail
  refine (add_new T2 (v := vb) vb_wf vb_ok (by decide) (by simp) (by simp)).mono ?_
  rintro e w3 ⟨rfl, sv3, T3, U3⟩
  have x0 : w3.cell? ⟨w1.heap.size, 0, none⟩ = some (.int .i8 1) := U3.cell a0 (by omega) (by omega) (ne2 _ (by omega))
  have x1 : w3.cell? ⟨w1.heap.size, 1, none⟩ = some (.int .i64 5) := U3.cell a1 (by omega) (by omega) (ne2 _ (by omega))
  have x2 : w3.cell? ⟨w1.heap.size, 2, none⟩ = some (.string ⟨#[]⟩) := U3.cell a2 (by omega) (by omega) (ne2 _ (by omega))
  have y0 : w3.cell? ⟨w1.heap.size + 1, 0, none⟩ = some (.int .i8 2) := U3.cell b0 (by omega) (by omega) (ne2 _ (by omega))
  have y1 : w3.cell? ⟨w1.heap.size + 1, 1, none⟩ = some (.int .i64 0) := U3.cell b1 (by omega) (by omega) (ne2 _ (by omega))
  have y2 : w3.cell? ⟨w1.heap.size + 1, 2, none⟩ = some (.string ⟨#[98]⟩) := U3.cell b2 (by omega) (by omega) (ne2 _ (by omega))
  have bb3 : Below w.heap.size w w3 := bb2.trans (U3.below bb2.size (by omega) (by omega) (fun g hg => Nat.le_of_not_lt fun h => ne2 g (by omega) hg))
  clear a0 a1 a2 b0 b1 b2 U3 T2 bb2
  go_wp2_with fail
  refine (find_any T3 (v := vb) vb_wf).mono ?_
  rintro e w4 ⟨rfl, hb4⟩
  rw [show symOf ([] ++ [va] ++ [vb]) vb = 1 by decide, show decide (vb ∈ [] ++ [va] ++ [vb]) = true by decide]
  have T4 := T3.below hb4
  have l3 : w1.heap.size < w3.heap.size := World.block_lt_of_cell? _ _ x0
  have z0 : w4.cell? ⟨w1.heap.size, 0, none⟩ = some (.int .i8 1) := by rw [hb4.cell (p := ⟨w1.heap.size, 0, none⟩) l3]; exact x0
  have z1 : w4.cell? ⟨w1.heap.size, 1, none⟩ = some (.int .i64 5) := by rw [hb4.cell (p := ⟨w1.heap.size, 1, none⟩) l3]; exact x1
  have z2 : w4.cell? ⟨w1.heap.size, 2, none⟩ = some (.string ⟨#[]⟩) := by rw [hb4.cell (p := ⟨w1.heap.size, 2, none⟩) l3]; exact x2
  have l4 : w1.heap.size < w4.heap.size := World.block_lt_of_cell? _ _ z0
  have bb4 := bb3.trans (hb4.mono bb3.size)
  clear x0 x1 x2 y0 y1 y2 T3 hb4
  go_wp2_with fail
  refine (value_in T4 (i := 0) (by simp) (by simp)).mono ?_
  rintro e w5 ⟨rfl, hb5⟩
  have T5 := T4.below hb5
  have e0 : w5.cell? ⟨w1.heap.size, 0, none⟩ = some (.int .i8 1) := by rw [hb5.cell (p := ⟨w1.heap.size, 0, none⟩) l4]; exact z0
  have e1 : w5.cell? ⟨w1.heap.size, 1, none⟩ = some (.int .i64 5) := by rw [hb5.cell (p := ⟨w1.heap.size, 1, none⟩) l4]; exact z1
  have e2 : w5.cell? ⟨w1.heap.size, 2, none⟩ = some (.string ⟨#[]⟩) := by rw [hb5.cell (p := ⟨w1.heap.size, 2, none⟩) l4]; exact z2
  have l5 : w1.heap.size < w5.heap.size := World.block_lt_of_cell? _ _ e0
  have bb5 := bb4.trans (hb5.mono bb4.size)
  rw [show atV ([] ++ [va] ++ [vb]) 0 = va from rfl]
  have T6 := T5.below ((Below.refl _ _).alloc (Nat.le_refl _) (.cells #[.int .i8 1, .int .i64 5, .string ⟨#[]⟩] 39))
  clear z0 z1 z2 T4 hb5 T5
  simp only [va]
  go_wp2_with (go_at_call 7; refine (len_any T6).mono ?_; rintro e w' ⟨rfl, rfl⟩)
  go_ret
  exact ⟨rfl, bb5.alloc (by omega) _⟩
end Go.Proofs.Ythdcgikhcghigaa
