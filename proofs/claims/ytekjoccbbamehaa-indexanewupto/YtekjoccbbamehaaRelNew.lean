import Derived.Test.YtekjoccbbamehaaRelAt
namespace Go.Proofs.Ytekjoccbbamehaa
open Go.RowKit Go.Maps Go.ChangeMaps
set_option linter.unusedVariables false
set_option linter.unusedSimpArgs false
attribute [local go_sem ↓] Go.wp_at_zero Go.wp_at_succ

theorem rows_nil (n c : Nat) (w : World) : (binOp .eql 22 (.slice none n c) (.slice none 0 0)).run Try.prog w = .ok (.bool true) w := by kernel_rfl
set_option maxHeartbeats 800000 in
set_option maxRecDepth 100000 in
theorem cloneRows_nil (w : World) : Calls Try.prog 42 #[.slice none 0 0] w fun e w' => e = .returned (.slice none 0 0) ∧ w' = w := by
  have hn := rows_nil 0 0 w
  go_enter Try.func42, Try.ntmps42
  go_wp2
  go_ret
  exact ⟨rfl, rfl⟩
theorem run_clearMap {w : World} {b : Nat} {rows : List (List Int)} (h : MapR w b rows) (ty : TypeId) : ∃ w', (Builtin.clear_ #[61] ty #[.map (some b)]).run Try.prog w = .ok (.tuple #[]) w' ∧ MapR w' b [] ∧ w.mapTurned w' b := by
  obtain ⟨es, c, hb, _⟩ := h
  refine ⟨setBlock w b (.map #[] c), ?_, ⟨#[], c, heap_setBlock_same hb _, rfl, by simp⟩, ⟨es, c, _, _, hb, rfl⟩⟩
  simp [Builtin.clear_, run_underlying Try.underlying61, MapKept.run_getObj_map hb, MapKept.run_setObj_map _ hb, Result.andThen, setBlock]
theorem makeMapR (u : World) : (Instr.makeMap 61 (some (.int .i64 0))).run Try.prog u = .ok (.map (some u.heap.size)) (u.alloc (.map #[] 0)) := by kernel_rfl
attribute [-go_sem] loadVar
set_option maxHeartbeats 1600000 in
set_option maxRecDepth 100000 in
theorem number_nil {w : World} {b m : Nat} (hr : RL w b 63 [.slice none 0 0, .map (some m)]) (hm : MapR w m []) (hne : b ≠ m) : Calls Try.prog 38 #[.pointer (some ⟨b, 0, none⟩)] w fun e w' => (∃ u, e = .returned u) ∧ MapR w' m [] ∧ w.mapTurned w' m := by
  obtain ⟨w2, _, hm2, ht2⟩ := run_clearMap hm 3
  have hcl : ∀ ty, (Builtin.clear_ #[61] ty #[.map (some m)]).run Try.prog w = .ok (.tuple #[]) w2 := fun ty => by
    have : ∀ ty ty', Builtin.clear_ #[61] ty #[.map (some m)] = Builtin.clear_ #[61] ty' #[.map (some m)] := fun _ _ => rfl
    rw [this ty 3]
    assumption
  have rl2 : RL w2 b 63 [.slice none 0 0, .map (some m)] := World.rowIs.of_block hr (ht2.grown.block b (World.rowIs.lt hr) (fun e => hne (Option.some.inj e)))
  have l1 := run_loadMap (hr.at (j := 1) rfl)
  have l0 := run_loadRows (rl2.at (j := 0) rfl)
  have HM := Lib.hid hm2
  have HT := Lib.hid ht2
  clear hr hm hm2 ht2 rl2
  go_enter Try.func38, Try.ntmps38
  go_wp2
  go_loopw [13] (fun i wr => i = .int .i64 0 ∧ wr = w2) (fun i _ => 0)
  case atStart => exact ⟨rfl, rfl⟩
  case round =>
    obtain ⟨rfl, rfl⟩ := hrel
    go_wp2
    go_end0
    exact ⟨⟨_, rfl⟩, HM.out, HT.out⟩
end Go.Proofs.Ytekjoccbbamehaa
