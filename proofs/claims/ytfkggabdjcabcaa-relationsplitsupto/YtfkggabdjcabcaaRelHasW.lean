import Derived.Test.YtfkggabdjcabcaaRelAdd
import Derived.Deep.MidRow
namespace Go.Proofs.Ytfkggabdjcabcaa
open Go.RowKit Go.Maps
set_option linter.unusedVariables false
set_option linter.unusedSimpArgs false
attribute [local go_sem ↓] Go.wp_at_zero Go.wp_at_succ

attribute [-go_sem] loadVar
theorem RowAt.range {w : World} {b : Nat} {r : List Int} (h : RowAt w b r) : w.rangeAt b 0 (List.map cellI r) := fun j v hv => by
  have h1 : w.heap[b]? = some (.cells (rowC r) 27 (0, 0)) := h
  rw [Nat.zero_add]
  show w.cell? ⟨b, j, none⟩ = some v
  simp only [World.cell?, h1]
  show (rowC r)[j]? = some v
  unfold rowC
  simpa using hv
set_option maxHeartbeats 3200000 in
set_option maxRecDepth 100000 in
theorem hasR_any {w : World} {B t m : Nat} {sv : Value} {rows : List (List Int)} {ar gone : Int} (h : Rel w B t m sv rows ar gone) (r : List Int) (hr : RowOk r) (x : Bool) (hx : x = true ↔ r ∈ rows) :
    Calls Try.prog 16 #[.pointer (some ⟨t, 0, none⟩), rowV r] w fun e w' => e = .returned (.bool x) ∧ Below w.heap.size w w' := by
  have hb := (Below.refl w.heap.size w).alloc (Nat.le_refl _) (.cells (rowC r) 27)
  have HR0 := Lib.hid (h.keep hb)
  have HB := Lib.hid hb
  have HA := Lib.hid (rowAt_new w r)
  have HX := Lib.hid hr
  have HI := Lib.hid hx
  clear h hb hx hr
  have HS : Hid (∀ u, Below (w.alloc (.cells (rowC r) 27)).heap.size (w.alloc (.cells (rowC r) 27)) u →
      u.rangeAt w.heap.size 0 (List.map cellI r) ∧
      Calls Try.prog 20 #[.pointer (some ⟨t, 0, none⟩)] u (fun e w' => e = .returned (.bool true) ∧ w' = u) ∧
      Calls Try.prog 25 #[.pointer (some ⟨t, 0, none⟩), .agg (List.map cellI r).toArray] u (fun e w' => e = .returned (.bool x) ∧ Below u.heap.size u w')) :=
    fun u hu => ⟨(RowAt.below HA.out hu).range, there_yes (HR0.out.keep hu), has_any (HR0.out.keep hu) r HX.out x HI.out⟩
  have hur := Try.underlying27
  have hir : (Try.prog.info? 27).map (·.size) = some (List.map cellI r).length := by rw [List.length_map, HX.out.len]; exact infoRow
  clear HA HX HI HR0
  unfold rowV
  go_enter Try.func16, Try.ntmps16
  go_upto_region 1 with fail
  generalize w.alloc (.cells (rowC r) 27) = W at HB HS ⊢
  have hB0 : Below W.heap.size W W := Below.refl _ _
  go_region_held3 (fun u => (Below W.heap.size W u) ∧ u.rangeAt w.heap.size 0 (List.map cellI r))
    (first
      | assumption
      | exact ⟨hB0.drew, (HS.out _ hB0.drew).1⟩
      | exact ⟨(by assumption), (HS.out _ (by assumption)).1⟩)
    (first
      | (go_at_call 20; refine ((HS.out _ (by first | exact hB0.drew | assumption)).2.1).mono ?_; rintro ee w2 ⟨rfl, rfl⟩)
      | (go_at_call 25; refine ((HS.out _ (by first | exact hB0.drew | assumption)).2.2).mono ?_; rintro ee w3 ⟨rfl, b3⟩; have b3' : Below W.heap.size W w3 := hB0.drew.trans b3)
      | fail)
  go_wp2
  go_ret
  exact ⟨rfl, HB.out.trans (b3'.mono HB.out.size)⟩
end Go.Proofs.Ytfkggabdjcabcaa
