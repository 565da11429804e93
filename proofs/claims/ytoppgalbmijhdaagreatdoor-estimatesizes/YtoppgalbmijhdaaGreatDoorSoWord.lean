import Derived.Test.YtoppgalbmijhdaaGreatDoorTmA
import Derived.Test.YtoppgalbmijhdaaGreatDoorShelf
import Derived.Lib.ItoaNum
import Derived.Lib.AppendIntMem
import Derived.Lib.LaidTab
import Derived.Deep.MidRow
namespace Go.Proofs.YtoppgalbmijhdaaGreatDoor
open Go.RowKit Go.Maps
set_option linter.unusedVariables false
set_option linter.unusedSimpArgs false
attribute [local go_sem ↓] Go.wp_at_zero Go.wp_at_succ

/-! for a seat without terms: what TermWord holds of marks alone -/
def markW : ByteArray := ⟨#[35, 55, 55, 55, 55, 55, 55]⟩
theorem tab_below {W W' : World} {name : String} {k : IntKind} {zs : List Int} (h : Lib.TabIs Tryz.prog W name k zs) (hb : Below W.heap.size W W') : Lib.TabIs Tryz.prog W' name k zs := by
  unfold Lib.TabIs World.var? at h ⊢
  cases hg : Tryz.prog.globalNamed name with
  | none => rw [hg] at h; cases h
  | some g =>
    rw [hg] at h
    simp only [Option.bind_some] at h ⊢
    have hlt : g < W.heap.size := by
      by_cases hl : g < W.heap.size
      · exact hl
      · rw [Array.getElem?_eq_none (by omega)] at h; cases h
    rw [hb.block g hlt]
    exact h
abbrev PWt (w : World) : Prop := Lib.TabIs Tryz.prog w "internal/strconv.uint64pow10" .u64 Lib.pow10Tab
theorem mark_itoa : (⟨#[35]⟩ : ByteArray) ++ ⟨(Lib.itoa 777777).toArray⟩ = markW := by decide +kernel
set_option maxHeartbeats 800000 in
theorem word_any (w : World) (hp : PWt w) : Calls Tryz.prog 27 #[.int .i64 777777] w fun e w' => e = .returned (.string markW) ∧ Below w.heap.size w w' := by
  have hm := mark_itoa
  have hsz : (⟨(Lib.itoa 777777).toArray⟩ : ByteArray).size ≤ 20 := by decide +kernel
  go_enter Tryz.func27, Tryz.ntmps27
  go_wp2_with fail
  refine (Tryz.strconv_Itoa 777777 (by omega) (by omega) _ hp).mono ?_
  rintro e w1 ⟨rfl, k, os, rfl⟩
  have hb := Lib.below_grow w.heap.size w (Nat.le_refl _) k os
  generalize Go.Sort.grow (w.drewN k) os = w1 at hb ⊢
  generalize (⟨(Lib.itoa 777777).toArray⟩ : ByteArray) = S at hm hsz ⊢
  go_wp2
  go_ret
  exact ⟨by first | rfl | (rw [← hm]; rfl), hb⟩
theorem upd_same {α : Type} (f : Nat → α) (k : Nat) (v : α) (h : f k = v) : (fun i => if i = k then v else f i) = f := by
  funext i
  by_cases e : i = k
  · rw [if_pos e, e, h]
  · rw [if_neg e]
end Go.Proofs.YtoppgalbmijhdaaGreatDoor
