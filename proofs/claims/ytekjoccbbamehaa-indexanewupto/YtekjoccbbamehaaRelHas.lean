import Derived.Test.YtekjoccbbamehaaRelTab
namespace Go.Proofs.Ytekjoccbbamehaa
open Go.RowKit Go.Maps
set_option linter.unusedVariables false
set_option linter.unusedSimpArgs false
attribute [local go_sem ↓] Go.wp_at_zero Go.wp_at_succ

attribute [-go_sem] loadVar
set_option maxHeartbeats 1600000 in
set_option maxRecDepth 100000 in
theorem has_any {w : World} {B t m : Nat} {sv : Value} {rows : List (List Int)} {ar gone : Int} (h : Rel w B t m sv rows ar gone) (r : List Int) (hr : RowOk r) (x : Bool) (hx : x = true ↔ r ∈ rows) : Calls Try.prog 39 #[.pointer (some ⟨t, 0, none⟩), rowV r] w fun e w' => e = .returned (.bool x) ∧ Below w.heap.size w w' := by
  have hb := (Below.refl w.heap.size w).alloc (Nat.le_refl _) (.cells (rowC r) 34)
  have h1 := (h.keep hb).keep (Below.refl _ _).drew
  have HB := Lib.hid hb
  have l1 := run_loadMap (h1.rl.at (j := 1) rfl)
  have l2 := run_loadRow (RowAt.below (rowAt_new w r) (Below.refl _ (w.alloc (.cells (rowC r) 34))).drew) hr.len
  obtain ⟨i, hlk⟩ : ∃ i : Int, (Instr.lookup 61 (.map (some m)) (rowV r) true).run Try.prog (w.alloc (.cells (rowC r) 34)).drew = .ok (.tuple #[.int .i64 i, .bool x]) (w.alloc (.cells (rowC r) 34)).drew := by
    by_cases hm : r ∈ rows
    · obtain ⟨j, hj⟩ := List.getElem?_of_mem hm
      refine ⟨j, ?_⟩
      rw [hx.2 hm]
      exact h1.map.look_yes h1.nd hj
    · refine ⟨0, ?_⟩
      rw [show x = false from Bool.eq_false_iff.2 (fun e => hm (hx.1 e))]
      exact h1.map.look_no hr hm
  clear h h1 hb hx
  unfold rowV at *
  go_enter Try.func39, Try.ntmps39
  go_upto_region 1 with fail
  generalize w.alloc (.cells (rowC r) 34) = W at HB l1 l2 hlk ⊢
  go_region
  all_goals
    go_wp2
    go_ret
    exact ⟨rfl, HB.out.drew⟩
end Go.Proofs.Ytekjoccbbamehaa
