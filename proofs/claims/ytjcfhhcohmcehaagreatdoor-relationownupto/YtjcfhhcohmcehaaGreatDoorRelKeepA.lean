import Derived.Test.YtjcfhhcohmcehaaGreatDoorRelClone
import Derived.Deep.RegionWith
namespace Go.Proofs.YtjcfhhcohmcehaaGreatDoor
open Go.RowKit Go.Maps Go.ChangeMaps
set_option linter.unusedVariables false
set_option linter.unusedSimpArgs false
attribute [local go_sem ↓] Go.wp_at_zero Go.wp_at_succ

theorem makeMapN (n : Nat) (u : World) : (Instr.makeMap 92 (some (.int .i64 (n : Int)))).run Tryz.prog u = .ok (.map (some u.heap.size)) (u.alloc (.map #[] 0)) := by
  simp [Instr.makeMap, go_sem]
/-- what keep has laid so far: the variable (bx), the map (m), the list (sv) -/
structure Kp (w : World) (rows : List (List Int)) (bx m : Option Nat) (sv : Option Value) (u : World) : Prop where
  bel : Below w.heap.size w u
  sz : w.heap.size < u.heap.size
  r0 : RL u w.heap.size 94 [.slice none 0 0, .map none]
  hb : ∀ b, bx = some b → w.heap.size < b ∧ RL u b 94 [.slice none 0 0, .map none]
  hm : ∀ b, m = some b → w.heap.size < b ∧ MapR u b []
  hs : ∀ v, sv = some v → u.ownsRow (w.heap.size + 1) 27 24 v rows.length (flatR rows)
  n1 : ∀ b c, bx = some b → m = some c → b ≠ c
  n2 : ∀ v b g, sv = some v → bx = some b → v.ownBlock = some g → g ≠ b
  n3 : ∀ v b g, sv = some v → m = some b → v.ownBlock = some g → g ≠ b
theorem Kp.keep {w u u' : World} {rows : List (List Int)} {bx m : Option Nat} {sv : Option Value} (h : Kp w rows bx m sv u) (hb : Below u.heap.size u u') : Kp w rows bx m sv u' :=
  ⟨h.bel.trans (hb.mono h.bel.size), Nat.lt_of_lt_of_le h.sz hb.size, h.r0.below hb, fun b e => ⟨(h.hb b e).1, (h.hb b e).2.below hb⟩, fun b e => ⟨(h.hm b e).1, (h.hm b e).2.below hb⟩, fun v e => own_below (h.hs v e) hb, h.n1, h.n2, h.n3⟩
theorem Kp.box {w u : World} {rows : List (List Int)} {m : Option Nat} {sv : Option Value} (h : Kp w rows none m sv u) : Kp w rows (some u.heap.size) m sv (u.alloc (.cells #[.slice none 0 0, .map none] 94)) := by
  have k := h.keep (belowA (w := u) (.cells #[.slice none 0 0, .map none] 94))
  refine ⟨k.bel, k.sz, k.r0, fun b e => ?_, k.hm, k.hs, fun b c e1 e2 => ?_, fun v b g e1 e2 e3 => ?_, k.n3⟩
  · cases e; exact ⟨h.sz, rl_new u _ _⟩
  · cases e1; have := (h.hm c e2).2.lt; omega
  · cases e2; have := ((h.hs v e1).lt g e3).2; omega
theorem Kp.map {w u : World} {rows : List (List Int)} {bx : Option Nat} {sv : Option Value} (h : Kp w rows bx none sv u) : Kp w rows bx (some u.heap.size) sv (u.alloc (.map #[] 0)) := by
  have k := h.keep (belowA (w := u) (.map #[] 0))
  refine ⟨k.bel, k.sz, k.r0, k.hb, fun b e => ?_, k.hs, fun b c e1 e2 => ?_, k.n2, fun v b g e1 e2 e3 => ?_⟩
  · cases e; exact ⟨h.sz, MapR.made u⟩
  · cases e2; have := World.rowIs.lt (h.hb b e1).2; omega
  · cases e2; have := ((h.hs v e1).lt g e3).2; omega
theorem Kp.call {w u u' : World} {rows : List (List Int)} {bx m : Option Nat} {v : Value} (h : Kp w rows bx m none u) (hb : Below u.heap.size u u') (ho : u'.ownsRow u.heap.size 27 24 v rows.length (flatR rows)) : Kp w rows bx m (some v) u' := by
  have k := h.keep hb
  refine ⟨k.bel, k.sz, k.r0, k.hb, k.hm, fun v' e => ?_, k.n1, fun v' b g e1 e2 e3 => ?_, fun v' b g e1 e2 e3 => ?_⟩
  · cases e
    obtain ⟨e1, e2 | ⟨g', cap', cur, e, hbase, rest⟩⟩ := ho
    · exact ⟨e1, .inl e2⟩
    · exact ⟨e1, .inr ⟨g', cap', cur, e, by have := h.sz; omega, rest⟩⟩
  · cases e1; have := World.rowIs.lt (h.hb b e2).2; have := (ho.lt g e3).1; omega
  · cases e1; have := (h.hm b e2).2.lt; have := (ho.lt g e3).1; omega
/-- all laid -/
structure Kd (w : World) (rows : List (List Int)) (bx m : Nat) (sv : Value) (u : World) : Prop where
  bel : Below w.heap.size w u
  r0 : RL u w.heap.size 94 [.slice none 0 0, .map none]
  r1 : RL u bx 94 [sv, .map (some m)]
  map : MapR u m []
  own : u.ownsRow (w.heap.size + 1) 27 24 sv rows.length (flatR rows)
  ne : bx ≠ m ∧ w.heap.size < bx ∧ w.heap.size < m
  nv : ∀ g, sv.ownBlock = some g → g ≠ bx ∧ g ≠ m
theorem Kp.done {w u : World} {rows : List (List Int)} {bx m : Nat} {sv : Value} (h : Kp w rows (some bx) (some m) (some sv) u) : Kd w rows bx m sv ((u.setCell ⟨bx, 0, none⟩ sv).setCell ⟨bx, 1, none⟩ (.map (some m))) := by
  have hbx := h.hb bx rfl
  have hm := h.hm m rfl
  have hne := h.n1 bx m rfl rfl
  have hblk : ∀ k, k ≠ bx → ((u.setCell ⟨bx, 0, none⟩ sv).setCell ⟨bx, 1, none⟩ (.map (some m))).heap[k]? = u.heap[k]? := fun k hk => by
    rw [heap_setCell_other _ _ _ _ (by exact hk), heap_setCell_other _ _ _ _ (by exact hk)]
  refine ⟨(h.bel.setCell (p := ⟨bx, 0, none⟩) (by show w.heap.size ≤ bx; omega) _).setCell (p := ⟨bx, 1, none⟩) (by show w.heap.size ≤ bx; omega) _, World.rowIs.of_block h.r0 (hblk _ (by omega)), (hbx.2.set 0 sv).set 1 (.map (some m)), hm.2.of_block (hblk _ (Ne.symm hne)), own_of_block (h.hs sv rfl) (fun g hg => hblk g (h.n2 sv bx g rfl rfl hg)), ⟨hne, hbx.1, hm.1⟩, fun g hg => ⟨h.n2 sv bx g rfl rfl hg, h.n3 sv m g rfl rfl hg⟩⟩
theorem Kp.boxD {w u : World} {rows : List (List Int)} {m : Nat} {sv : Value} (h : Kp w rows none (some m) (some sv) u) : Kd w rows u.heap.size m sv (u.alloc (.cells #[sv, .map (some m)] 94)) := by
  have k := h.keep (belowA (w := u) (.cells #[sv, .map (some m)] 94))
  have hm := h.hm m rfl
  have hl := hm.2.lt
  exact ⟨k.bel, k.r0, rl_new u _ _, (k.hm m rfl).2, k.hs sv rfl, ⟨by omega, h.sz, hm.1⟩, fun g hg => ⟨by have := ((h.hs sv rfl).lt g hg).2; omega, h.n3 sv m g rfl rfl hg⟩⟩
theorem Kp.boxM {w u : World} {rows : List (List Int)} {sv : Value} (h : Kp w rows none none (some sv) u) : Kd w rows u.heap.size (u.heap.size + 1) sv ((u.alloc (.cells #[sv, .map (some (u.heap.size + 1))] 94)).alloc (.map #[] 0)) := by
  have k := (h.keep (belowA (w := u) (.cells #[sv, .map (some (u.heap.size + 1))] 94))).map
  simp only [World.size_alloc] at k
  have hs := h.sz
  exact ⟨k.bel, k.r0, (rl_new u _ _).below (belowA _), (k.hm _ rfl).2, k.hs sv rfl, ⟨by omega, h.sz, by omega⟩, fun g hg => ⟨by have := ((h.hs sv rfl).lt g hg).2; omega, by have := ((h.hs sv rfl).lt g hg).2; omega⟩⟩
end Go.Proofs.YtjcfhhcohmcehaaGreatDoor
