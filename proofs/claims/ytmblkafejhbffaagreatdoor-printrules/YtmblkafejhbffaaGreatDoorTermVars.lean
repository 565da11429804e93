import Derived.Test.YtmblkafejhbffaaGreatDoorTermWalk
namespace Go.Proofs.YtmblkafejhbffaaGreatDoor
open Go.RowKit Go.Maps
set_option linter.unusedVariables false
set_option linter.unusedSimpArgs false
attribute [local go_sem ↓] Go.wp_at_zero Go.wp_at_succ

theorem vst_new (w : World) : Vst w.heap.size w w.heap.size (w.heap.size + 2) (w.heap.size + 1) [] (.slice none 0 0) (((w.alloc (.cells #[.slice none 0 0] 71)).alloc (.map #[] 0)).alloc (.cells #[.map (some (w.heap.size + 1))] 157)) := by
  have s1 : (w.alloc (.cells #[.slice none 0 0] 71)).heap.size = w.heap.size + 1 := by simp
  have s2 : ((w.alloc (.cells #[.slice none 0 0] 71)).alloc (.map #[] 0)).heap.size = w.heap.size + 2 := by simp
  have b1 : Below w.heap.size w (w.alloc (.cells #[.slice none 0 0] 71)) := (Below.refl _ _).alloc (Nat.le_refl _) _
  have b2 : Below (w.heap.size + 1) (w.alloc (.cells #[.slice none 0 0] 71)) ((w.alloc (.cells #[.slice none 0 0] 71)).alloc (.map #[] 0)) := by
    have := (Below.refl (w.alloc (.cells #[.slice none 0 0] 71)).heap.size (w.alloc (.cells #[.slice none 0 0] 71))).alloc (Nat.le_refl _) (.map #[] 0)
    rw [s1] at this
    exact this
  have b3 : Below (w.heap.size + 2) ((w.alloc (.cells #[.slice none 0 0] 71)).alloc (.map #[] 0)) (((w.alloc (.cells #[.slice none 0 0] 71)).alloc (.map #[] 0)).alloc (.cells #[.map (some (w.heap.size + 1))] 157)) := by
    have := (Below.refl ((w.alloc (.cells #[.slice none 0 0] 71)).alloc (.map #[] 0)).heap.size ((w.alloc (.cells #[.slice none 0 0] 71)).alloc (.map #[] 0))).alloc (Nat.le_refl _) (.cells #[.map (some (w.heap.size + 1))] 157)
    rw [s2] at this
    exact this
  have hm : SetIs ((w.alloc (.cells #[.slice none 0 0] 71)).alloc (.map #[] 0)) (w.heap.size + 1) [] := by
    have := SetIs.made (w.alloc (.cells #[.slice none 0 0] 71))
    rw [s1] at this
    exact this
  have hb : Below w.heap.size w (((w.alloc (.cells #[.slice none 0 0] 71)).alloc (.map #[] 0)).alloc (.cells #[.map (some (w.heap.size + 1))] 157)) := (b1.trans (b2.mono (by omega))).trans (b3.mono (by omega))
  refine ⟨hb, by simp; omega, ⟨Nat.le_refl _, by omega, by omega⟩, ⟨by omega, by omega, by omega⟩, ?_, ?_, ?_, World.ownsRow_nil _ _ _ _, fun g hg => (by cases hg), ?_⟩
  · have e : ((w.alloc (.cells #[.slice none 0 0] 71)).alloc (.map #[] 0)).heap.size = w.heap.size + 2 := s2
    unfold World.cell?
    rw [show (⟨w.heap.size + 2, 0, none⟩ : Addr).block = ((w.alloc (.cells #[.slice none 0 0] 71)).alloc (.map #[] 0)).heap.size from e.symm, heap_alloc_new]
    rfl
  · rw [b3.cell (p := ⟨w.heap.size, 0, none⟩) (by show w.heap.size < _; omega), b2.cell (p := ⟨w.heap.size, 0, none⟩) (by show w.heap.size < _; omega)]
    go_simp
  · rw [b3.frozen (p := ⟨w.heap.size, 0, none⟩) (by show w.heap.size < _; omega), b2.frozen (p := ⟨w.heap.size, 0, none⟩) (by show w.heap.size < _; omega)]
    exact Lib.frozen_of_heap (heap_alloc_new w _) 0
  · exact hm.of_block (b3.block _ (by omega))
theorem run_makeSet (u : World) : (Instr.makeMap 157 none).run Tryz.prog u = .ok (.map (some u.heap.size)) (u.alloc (.map #[] 0)) := by kernel_rfl
set_option maxHeartbeats 1600000 in
theorem variablesAtom_any (ba : Nat) (a : Option Addr) (c : Nat) (ts : List T) (w : World) (hba : ba < w.heap.size) (hc : w.cell? ⟨ba, 1, none⟩ = some (.slice a ts.length c)) (hL : Lt w (.slice a ts.length c) ts) (hn : ts.length ≤ 4398046511104) :
    Calls Tryz.prog 97 #[.iface 171 (.pointer (some ⟨ba, 0, none⟩))] w fun e w' => ∃ sv, e = .returned sv ∧ w'.ownsRow w.heap.size 9 1 sv (vsT [] ts).length ((vsT [] ts).flatMap strB) ∧ Below w.heap.size w w' := by
  have HW : Hid _ := walkAtom_any (vst_new w) rfl ba 0 hba a c ts hc hL (by simpa using hn)
  unfold handV at HW
  have hmk := run_makeSet
  clear hc hL
  go_enter Tryz.func97, Tryz.ntmps97
  go_wp2_with fail
  refine Calls.mono HW.out ?_
  rintro e w2 ⟨⟨u, rfl⟩, sv2, hv2⟩
  have c0 := hv2.co
  obtain ⟨a2, c2, rfl, _⟩ := own_form hv2.own
  go_wp2
  go_ret
  exact ⟨_, rfl, hv2.own, hv2.bel⟩
end Go.Proofs.YtmblkafejhbffaaGreatDoor
