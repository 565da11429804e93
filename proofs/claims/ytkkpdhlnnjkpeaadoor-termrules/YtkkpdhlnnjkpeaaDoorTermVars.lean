import Derived.Test.YtkkpdhlnnjkpeaaDoorTermWalk
namespace Go.Proofs.YtkkpdhlnnjkpeaaDoor
open Go.RowKit Go.Maps
set_option linter.unusedVariables false
set_option linter.unusedSimpArgs false
attribute [local go_sem ↓] Go.wp_at_zero Go.wp_at_succ

theorem vst_new (w : World) : Vst w.heap.size w w.heap.size (w.heap.size + 2) (w.heap.size + 1) [] (.slice none 0 0) (((w.alloc (.cells #[.slice none 0 0] 36)).alloc (.map #[] 0)).alloc (.cells #[.map (some (w.heap.size + 1))] 75)) := by
  have s1 : (w.alloc (.cells #[.slice none 0 0] 36)).heap.size = w.heap.size + 1 := by simp
  have s2 : ((w.alloc (.cells #[.slice none 0 0] 36)).alloc (.map #[] 0)).heap.size = w.heap.size + 2 := by simp
  have b1 : Below w.heap.size w (w.alloc (.cells #[.slice none 0 0] 36)) := (Below.refl _ _).alloc (Nat.le_refl _) _
  have b2 : Below (w.heap.size + 1) (w.alloc (.cells #[.slice none 0 0] 36)) ((w.alloc (.cells #[.slice none 0 0] 36)).alloc (.map #[] 0)) := by
    have := (Below.refl (w.alloc (.cells #[.slice none 0 0] 36)).heap.size (w.alloc (.cells #[.slice none 0 0] 36))).alloc (Nat.le_refl _) (.map #[] 0)
    rw [s1] at this
    exact this
  have b3 : Below (w.heap.size + 2) ((w.alloc (.cells #[.slice none 0 0] 36)).alloc (.map #[] 0)) (((w.alloc (.cells #[.slice none 0 0] 36)).alloc (.map #[] 0)).alloc (.cells #[.map (some (w.heap.size + 1))] 75)) := by
    have := (Below.refl ((w.alloc (.cells #[.slice none 0 0] 36)).alloc (.map #[] 0)).heap.size ((w.alloc (.cells #[.slice none 0 0] 36)).alloc (.map #[] 0))).alloc (Nat.le_refl _) (.cells #[.map (some (w.heap.size + 1))] 75)
    rw [s2] at this
    exact this
  have hm : SetIs ((w.alloc (.cells #[.slice none 0 0] 36)).alloc (.map #[] 0)) (w.heap.size + 1) [] := by
    have := SetIs.made (w.alloc (.cells #[.slice none 0 0] 36))
    rw [s1] at this
    exact this
  have hb : Below w.heap.size w (((w.alloc (.cells #[.slice none 0 0] 36)).alloc (.map #[] 0)).alloc (.cells #[.map (some (w.heap.size + 1))] 75)) := (b1.trans (b2.mono (by omega))).trans (b3.mono (by omega))
  refine ⟨hb, by simp; omega, ⟨Nat.le_refl _, by omega, by omega⟩, ⟨by omega, by omega, by omega⟩, ?_, ?_, ?_, World.ownsRow_nil _ _ _ _, fun g hg => (by cases hg), ?_⟩
  · have e : ((w.alloc (.cells #[.slice none 0 0] 36)).alloc (.map #[] 0)).heap.size = w.heap.size + 2 := s2
    unfold World.cell?
    rw [show (⟨w.heap.size + 2, 0, none⟩ : Addr).block = ((w.alloc (.cells #[.slice none 0 0] 36)).alloc (.map #[] 0)).heap.size from e.symm, heap_alloc_new]
    rfl
  · rw [b3.cell (p := ⟨w.heap.size, 0, none⟩) (by show w.heap.size < _; omega), b2.cell (p := ⟨w.heap.size, 0, none⟩) (by show w.heap.size < _; omega)]
    go_simp
  · rw [b3.frozen (p := ⟨w.heap.size, 0, none⟩) (by show w.heap.size < _; omega), b2.frozen (p := ⟨w.heap.size, 0, none⟩) (by show w.heap.size < _; omega)]
    exact Lib.frozen_of_heap (heap_alloc_new w _) 0
  · exact hm.of_block (b3.block _ (by omega))
theorem run_makeSet (u : World) : (Instr.makeMap 75 none).run Tryd.prog u = .ok (.map (some u.heap.size)) (u.alloc (.map #[] 0)) := by kernel_rfl
set_option maxHeartbeats 1600000 in
theorem variablesAtom_any (ba : Nat) (a : Option Addr) (c : Nat) (ts : List T) (w : World) (hba : ba < w.heap.size) (hc : w.cell? ⟨ba, 1, none⟩ = some (.slice a ts.length c)) (hL : Lt w (.slice a ts.length c) ts) (hn : ts.length ≤ 4398046511104) :
    Calls Tryd.prog 22 #[.iface 98 (.pointer (some ⟨ba, 0, none⟩))] w fun e w' => ∃ sv, e = .returned sv ∧ w'.ownsRow w.heap.size 9 1 sv (vsT [] ts).length ((vsT [] ts).flatMap strB) ∧ Below w.heap.size w w' := by
  have HW : Hid _ := walkAtom_any (vst_new w) rfl ba 0 hba a c ts hc hL (by simpa using hn)
  unfold handV at HW
  have hmk := run_makeSet
  clear hc hL
  go_enter Tryd.func22, Tryd.ntmps22
  go_wp2_with fail
  refine Calls.mono HW.out ?_
  rintro e w2 ⟨⟨u, rfl⟩, sv2, hv2⟩
  have c0 := hv2.co
  obtain ⟨a2, c2, rfl, _⟩ := own_form hv2.own
  go_wp2
  go_ret
  exact ⟨_, rfl, hv2.own, hv2.bel⟩
set_option maxHeartbeats 1600000 in
theorem sameTexts_same (v v' : Value) (l : List ByteArray) (w : World) (h1 : Ls w v l.length (l.flatMap strB)) (h2 : Ls w v' l.length (l.flatMap strB)) :
    Calls Tryd.prog 10 #[v, v'] w fun r w' => r = .returned (.bool true) ∧ Below w.heap.size w w' := by
  obtain ⟨a, c, rfl, hc1, hc2, hk⟩ := ls_str h1
  obtain ⟨a', c', rfl, hc1', hc2', hk'⟩ := ls_str h2
  have hmax : l.length ≤ maxLen := Nat.le_trans hc1 hc2
  unfold maxLen at hmax
  have HK : Hid _ := hk
  have HK' : Hid _ := hk'
  clear hk hk' h1 h2 hc2 hc2'
  go_enter Tryd.func10, Tryd.ntmps10
  go_wp2
  go_loopw [5] (fun i wr => ∃ k : Nat, k ≤ l.length ∧ i = .int .i64 k ∧ Below w.heap.size w wr) (fun i _ => l.length - (intOf i).toNat)
  case atStart => exact ⟨0, Nat.zero_le _, rfl, Below.refl _ _⟩
  case round =>
    obtain ⟨k, hk, rfl, bel⟩ := hrel
    by_cases hlt : k < l.length
    · have hlt' : (k : Int) < (l.length : Int) := by omega
      obtain ⟨g, off, rfl, hg, hKS⟩ := HK.out (by omega)
      obtain ⟨g', off', rfl, hg', hKS'⟩ := HK'.out (by omega)
      have y0 : wr.cell? ⟨g, off + k, none⟩ = some (.string (atS l k)) := by rw [bel.cell (p := ⟨g, off + k, none⟩) hg]; exact hKS k hlt
      have z0 : wr.cell? ⟨g', off' + k, none⟩ = some (.string (atS l k)) := by rw [bel.cell (p := ⟨g', off' + k, none⟩) hg']; exact hKS' k hlt
      generalize atS l k = x at y0 z0
      have hQ : (x.toList == x.toList) = true := by simp
      clear hKS hKS'
      go_wp2_with fail
      go_quiet (fail)
      go_wp2
      go_roundw
      case rel => exact ⟨k + 1, by omega, by go_num, ⟨bel.os, bel.tape, bel.output, bel.size, bel.block⟩⟩
      case measure => simp [intOf]; omega
    · obtain rfl : k = l.length := by omega
      go_wp2
      go_ret
      exact ⟨rfl, bel⟩
end Go.Proofs.YtkkpdhlnnjkpeaaDoor
