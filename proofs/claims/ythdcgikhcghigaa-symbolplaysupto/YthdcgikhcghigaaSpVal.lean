import Derived.Test.YthdcgikhcghigaaSpSk
namespace Go.Proofs.Ythdcgikhcghigaa
open Go.RowKit Go.Maps Go.ChangeMaps
set_option linter.unusedVariables false
set_option linter.unusedSimpArgs false
attribute [local go_sem ↓] Go.wp_at_zero Go.wp_at_succ

set_option maxHeartbeats 800000 in
theorem value_outI {w : World} {t m : Nat} {sv : Value} {vs : List V} {most : Int} (h : Tbl w t m sv vs most) {i : Int} (hi : i < 0 ∨ (vs.length : Int) ≤ i) (h0 : -2147483648 ≤ i) (hm : i ≤ 2147483647) :
    Calls Try.prog 17 #[.pointer (some ⟨t, 0, none⟩), .int .i32 i] w fun e w' => e = .returned (.tuple #[.agg #[.int .i8 0, .int .i64 0, .string ⟨#[]⟩], .int .i64 21]) ∧ Below w.heap.size w w' := by
  have h1 := h.below ((Below.refl _ _).alloc (Nat.le_refl _) (.cells #[.int .i8 0, .int .i64 0, .string ⟨#[]⟩] 39))
  obtain ⟨a, c, rfl, hl, _⟩ := ownsRow_form h.own
  have ht := h.lts.1
  have c1 : w.cell? ⟨t, 1, none⟩ = some (.slice a vs.length c) := h.row.cell (i := 1) (by omega)
  clear h
  by_cases hneg : i < 0
  · clear hi
    go_enter Try.func17, Try.ntmps17
    go_wp2_with (go_at_call 21; refine (there_any h1).mono ?_; rintro e w' ⟨rfl, rfl⟩)
    exact bodyPost_ret (v := .tuple #[.agg #[.int .i8 0, .int .i64 0, .string ⟨#[]⟩], .int .i64 21]) (by simp [results, Try.results17, go_sem]) rfl ⟨rfl, (Below.refl _ _).alloc (Nat.le_refl _) _⟩
  · have hi' : (vs.length : Int) ≤ i := by omega
    clear hi
    go_enter Try.func17, Try.ntmps17
    go_wp2_with (go_at_call 21; refine (there_any h1).mono ?_; rintro e w' ⟨rfl, rfl⟩)
    exact bodyPost_ret (v := .tuple #[.agg #[.int .i8 0, .int .i64 0, .string ⟨#[]⟩], .int .i64 21]) (by simp [results, Try.results17, go_sem]) rfl ⟨rfl, (Below.refl _ _).alloc (Nat.le_refl _) _⟩
end Go.Proofs.Ythdcgikhcghigaa
