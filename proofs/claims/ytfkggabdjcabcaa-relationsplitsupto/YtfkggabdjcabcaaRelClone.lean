import Derived.Test.YtfkggabdjcabcaaRelAddT
import Derived.Test.YtfkggabdjcabcaaRelKeep
namespace Go.Proofs.Ytfkggabdjcabcaa
open Go.RowKit Go.Maps
set_option linter.unusedVariables false
set_option linter.unusedSimpArgs false
attribute [local go_sem ↓] Go.wp_at_zero Go.wp_at_succ

theorem rows_some (ad : Addr) (n c : Nat) (w : World) : (binOp .eql 32 (.slice (some ad) n c) (.slice none 0 0)).run Try.prog w = .ok (.bool false) w := by kernel_rfl
attribute [-go_sem] loadVar Builtin.append_
set_option maxHeartbeats 1600000 in
set_option maxRecDepth 100000 in
theorem cloneRows_any {w : World} {a : Option Addr} {c : Nat} {rows : List (List Int)} (hx : LrC w (.slice a rows.length c) rows) (hnil : a = none → rows = [] ∧ c = 0) (hl : rows.length ≤ 1000000000) :
    Calls Try.prog 27 #[.slice a rows.length c] w fun e w' => ∃ sv, e = .returned sv ∧ w'.ownsRow w.heap.size 27 24 sv rows.length (flatR rows) ∧ Below w.heap.size w w' := by
  cases a with
  | none =>
    obtain ⟨rfl, rfl⟩ := hnil rfl
    refine (cloneRows_nil w).mono ?_
    rintro e w' ⟨rfl, rfl⟩
    exact ⟨_, rfl, World.ownsRow_nil _ _ _ _, Below.refl _ _⟩
  | some ad =>
    have hq := fun w => rows_some ad rows.length c w
    have hb := belowA (w := w) (.cells #[] 27)
    have ho : (w.alloc (.cells #[] 27)).ownsRow w.heap.size 27 24 (.slice (some ⟨w.heap.size, 0, none⟩) 0 0) 0 (flatR []) := ⟨rfl, .inr ⟨_, _, _, rfl, Nat.le_refl _, heap_alloc_new w _, Nat.le_refl _, Nat.zero_le _, rfl, rfl⟩⟩
    obtain ⟨o', w', h1, h2, h3, _⟩ := app_rows (rows1 := []) (n := 0) rfl ho hb hb.size (hx.below hb) (by omega) 32
    have HF : Hid (w'.ownsRow w.heap.size 27 24 o' rows.length (flatR rows) ∧ Below w.heap.size w w') := ⟨by simpa using h2, h3⟩
    obtain ⟨a2, c2, rfl, _⟩ := own_form HF.out.1
    clear hx hb ho h2 h3 hnil
    go_enter Try.func27, Try.ntmps27
    go_wp2
    go_ret
    exact ⟨_, rfl, HF.out⟩
end Go.Proofs.Ytfkggabdjcabcaa
