import Derived.Test.YtoagnkbmeafmoaaGreatDoorBkM
import Derived.Test.YtoagnkbmeafmoaaGreatDoorTermQuote
import Derived.Lib.Hide
import Derived.Deep.RegionWith
import Derived.Deep.DeepCutAuto
namespace Go.Proofs.YtoagnkbmeafmoaaGreatDoor
open Go.RowKit Go.Maps
set_option linter.unusedVariables false
set_option linter.unusedSimpArgs false
attribute [local go_sem ↓] Go.wp_at_zero Go.wp_at_succ

def noL : Value := .slice none 0 0
def bkCells (n : Nat) (v1 v2 v3 : Value) : List Value := .int .i64 n :: v1 :: v2 :: v3 :: List.replicate 28 (.slice none 0 0)
/-- a book in memory, with lists of values, tuples and facts -/
structure Bk (w : World) (bk B n : Nat) (vv vt vf : Value) (hv ht hf : List Hd) : Prop where
  box : RL w bk 63 (bkCells n vv vt vf)
  rv : w.ownsRow B 116 3 vv hv.length (hv.flatMap Hd.cells)
  rt : w.ownsRow B 118 3 vt ht.length (ht.flatMap Hd.cells)
  rf : w.ownsRow B 114 3 vf hf.length (hf.flatMap Hd.cells)
  d1 : Dj vv vt
  d2 : Dj vv vf
  d3 : Dj vt vf
  lt : bk < B
theorem Bk.keep {w w' : World} {bk B n : Nat} {vv vt vf : Value} {hv ht hf : List Hd} (h : Bk w bk B n vv vt vf hv ht hf) (hb : ∀ g, g < w.heap.size → (g = bk ∨ vv.ownBlock = some g ∨ vt.ownBlock = some g ∨ vf.ownBlock = some g) → w'.heap[g]? = w.heap[g]?) : Bk w' bk B n vv vt vf hv ht hf :=
  ⟨World.rowIs.of_block h.box (hb bk (World.rowIs.lt h.box) (.inl rfl)), own_of_block h.rv (fun g hg => hb g (h.rv.lt g hg).2 (.inr (.inl hg))), own_of_block h.rt (fun g hg => hb g (h.rt.lt g hg).2 (.inr (.inr (.inl hg)))), own_of_block h.rf (fun g hg => hb g (h.rf.lt g hg).2 (.inr (.inr (.inr hg)))), h.d1, h.d2, h.d3, h.lt⟩
theorem Bk.below {w w' : World} {bk B n : Nat} {vv vt vf : Value} {hv ht hf : List Hd} (h : Bk w bk B n vv vt vf hv ht hf) (b : Below w.heap.size w w') : Bk w' bk B n vv vt vf hv ht hf := h.keep (fun g hg _ => b.block g hg)
theorem infoH1 : (Tryz.prog.info? 116).map (fun i => (i.zero, i.size, i.bytes)) = some (some (.agg #[.slice none 0 0, .slice none 0 0, .int .i64 0]), 3, 56) := by kernel_rfl
theorem infoH2 : (Tryz.prog.info? 118).map (fun i => (i.zero, i.size, i.bytes)) = some (some (.agg #[.slice none 0 0, .slice none 0 0, .int .i64 0]), 3, 56) := by kernel_rfl
theorem infoH3 : (Tryz.prog.info? 114).map (fun i => (i.zero, i.size, i.bytes)) = some (some (.agg #[.slice none 0 0, .slice none 0 0, .int .i64 0]), 3, 56) := by kernel_rfl
theorem info_partsB {e : TypeId} {z : Value} {a b : Nat} (h : (Tryz.prog.info? e).map (fun i => (i.zero, i.size, i.bytes)) = some (some z, a, b)) : ∃ i, Tryz.prog.info? e = some i ∧ i.zero = some z ∧ i.size = a ∧ i.bytes = b := by
  obtain ⟨i, hi, he⟩ := Option.map_eq_some_iff.1 h
  simp only [Prod.mk.injEq] at he
  exact ⟨i, hi, he.1, he.2.1, he.2.2⟩
theorem Bk.count {w : World} {bk B n : Nat} {vv vt vf : Value} {hv ht hf : List Hd} (h : Bk w bk B n vv vt vf hv ht hf) : Bk (w.setCell ⟨bk, 0, none⟩ (.int .i64 ((n + 1 : Nat) : Int))) bk B (n + 1) vv vt vf hv ht hf := by
  have hb : ∀ {v : Value} {e : TypeId} {m : Nat} {xs : List Value}, w.ownsRow B e 3 v m xs → (w.setCell ⟨bk, 0, none⟩ (.int .i64 ((n + 1 : Nat) : Int))).ownsRow B e 3 v m xs := fun ho => ownsRow_setCell_below ho h.lt _
  exact ⟨h.box.set 0 _, hb h.rv, hb h.rt, hb h.rf, h.d1, h.d2, h.d3, h.lt⟩
theorem dj_at {w : World} {b k n : Nat} {ty : TypeId} {v vb vb' : Value} {xs : List Value} (h : w.ownsRow b ty k v n xs) (hd : Dj v vb) (hloc : vb'.ownBlock = vb.ownBlock ∨ vb'.ownBlock = some w.heap.size) : Dj v vb' := dj_grow h hd (hloc.imp_right (fun e => ⟨_, e, Nat.le_refl _⟩))
abbrev EB (bk B : Nat) : Nat → Prop := fun g => g = bk ∨ B ≤ g
theorem Bk.pushV {U w3 : World} {bk B n : Nat} {vv vt vf v' : Value} {hv ht hf : List Hd} (h0 : Bk U bk B n vv vt vf hv ht hf) (h : Hd) (hown : w3.ownsRow B 116 3 v' (hv.length + 1) (hv.flatMap Hd.cells ++ h.cells)) (hgr : U.grownBy w3 vv.ownBlock) (hloc : v'.ownBlock = vv.ownBlock ∨ v'.ownBlock = some U.heap.size) :
    ∃ a2 c2, v' = .slice a2 (hv.length + 1) c2 ∧ Bk (w3.setCell ⟨bk, 1, none⟩ (.slice a2 (hv.length + 1) c2)) bk B n (.slice a2 (hv.length + 1) c2) vt vf (hv ++ [h]) ht hf ∧ w3.cell? ⟨bk, 1, none⟩ = some vv ∧ w3.frozen? ⟨bk, 1, none⟩ = false ∧ Tch (EB bk B) U (w3.setCell ⟨bk, 1, none⟩ (.slice a2 (hv.length + 1) c2)) := by
  obtain ⟨a2, c2, rfl, _⟩ := own_form hown
  have hbk := h0.lt
  have hne : ∀ g, vv.ownBlock = some g → B ≤ g := fun g hg => (h0.rv.lt g hg).1
  have hbx : RL w3 bk 63 (bkCells n vv vt vf) := World.rowIs.of_block h0.box (hgr.block bk (World.rowIs.lt h0.box) (fun e => by have := hne bk e.symm; omega))
  refine ⟨a2, c2, rfl, ⟨hbx.set 1 _, by rw [List.length_append, List.flatMap_append]; exact ownsRow_setCell_below (by simpa using hown) h0.lt _, ownsRow_setCell_below (own_of_block h0.rt (fun g hg => hgr.block g (h0.rt.lt g hg).2 (fun e => h0.d1.flip g hg e.symm))) h0.lt _, ownsRow_setCell_below (own_of_block h0.rf (fun g hg => hgr.block g (h0.rf.lt g hg).2 (fun e => h0.d2.flip g hg e.symm))) h0.lt _, (dj_at h0.rt h0.d1.flip hloc).flip, (dj_at h0.rf h0.d2.flip hloc).flip, h0.d3, hbk⟩, hbx.at (j := 1) rfl, World.rowIs.frozen hbx 1, ?_⟩
  exact (Tch.of_grown (E := EB bk B) hgr (fun g hg => .inr (hne g hg))).setCell (.inr (.inl rfl)) _
theorem Bk.pushT {U w3 : World} {bk B n : Nat} {vv vt vf v' : Value} {hv ht hf : List Hd} (h0 : Bk U bk B n vv vt vf hv ht hf) (h : Hd) (hown : w3.ownsRow B 118 3 v' (ht.length + 1) (ht.flatMap Hd.cells ++ h.cells)) (hgr : U.grownBy w3 vt.ownBlock) (hloc : v'.ownBlock = vt.ownBlock ∨ v'.ownBlock = some U.heap.size) :
    ∃ a2 c2, v' = .slice a2 (ht.length + 1) c2 ∧ Bk (w3.setCell ⟨bk, 2, none⟩ (.slice a2 (ht.length + 1) c2)) bk B n vv (.slice a2 (ht.length + 1) c2) vf hv (ht ++ [h]) hf ∧ w3.cell? ⟨bk, 2, none⟩ = some vt ∧ w3.frozen? ⟨bk, 2, none⟩ = false ∧ Tch (EB bk B) U (w3.setCell ⟨bk, 2, none⟩ (.slice a2 (ht.length + 1) c2)) := by
  obtain ⟨a2, c2, rfl, _⟩ := own_form hown
  have hbk := h0.lt
  have hne : ∀ g, vt.ownBlock = some g → B ≤ g := fun g hg => (h0.rt.lt g hg).1
  have hbx : RL w3 bk 63 (bkCells n vv vt vf) := World.rowIs.of_block h0.box (hgr.block bk (World.rowIs.lt h0.box) (fun e => by have := hne bk e.symm; omega))
  refine ⟨a2, c2, rfl, ⟨hbx.set 2 _, ownsRow_setCell_below (own_of_block h0.rv (fun g hg => hgr.block g (h0.rv.lt g hg).2 (fun e => h0.d1 g hg e.symm))) h0.lt _, by rw [List.length_append, List.flatMap_append]; exact ownsRow_setCell_below (by simpa using hown) h0.lt _, ownsRow_setCell_below (own_of_block h0.rf (fun g hg => hgr.block g (h0.rf.lt g hg).2 (fun e => h0.d3.flip g hg e.symm))) h0.lt _, dj_at h0.rv h0.d1 hloc, h0.d2, (dj_at h0.rf h0.d3.flip hloc).flip, hbk⟩, hbx.at (j := 2) rfl, World.rowIs.frozen hbx 2, ?_⟩
  exact (Tch.of_grown (E := EB bk B) hgr (fun g hg => .inr (hne g hg))).setCell (.inr (.inl rfl)) _
theorem Bk.pushF {U w3 : World} {bk B n : Nat} {vv vt vf v' : Value} {hv ht hf : List Hd} (h0 : Bk U bk B n vv vt vf hv ht hf) (h : Hd) (hown : w3.ownsRow B 114 3 v' (hf.length + 1) (hf.flatMap Hd.cells ++ h.cells)) (hgr : U.grownBy w3 vf.ownBlock) (hloc : v'.ownBlock = vf.ownBlock ∨ v'.ownBlock = some U.heap.size) :
    ∃ a2 c2, v' = .slice a2 (hf.length + 1) c2 ∧ Bk (w3.setCell ⟨bk, 3, none⟩ (.slice a2 (hf.length + 1) c2)) bk B n vv vt (.slice a2 (hf.length + 1) c2) hv ht (hf ++ [h]) ∧ w3.cell? ⟨bk, 3, none⟩ = some vf ∧ w3.frozen? ⟨bk, 3, none⟩ = false ∧ Tch (EB bk B) U (w3.setCell ⟨bk, 3, none⟩ (.slice a2 (hf.length + 1) c2)) := by
  obtain ⟨a2, c2, rfl, _⟩ := own_form hown
  have hbk := h0.lt
  have hne : ∀ g, vf.ownBlock = some g → B ≤ g := fun g hg => (h0.rf.lt g hg).1
  have hbx : RL w3 bk 63 (bkCells n vv vt vf) := World.rowIs.of_block h0.box (hgr.block bk (World.rowIs.lt h0.box) (fun e => by have := hne bk e.symm; omega))
  refine ⟨a2, c2, rfl, ⟨hbx.set 3 _, ownsRow_setCell_below (own_of_block h0.rv (fun g hg => hgr.block g (h0.rv.lt g hg).2 (fun e => h0.d2 g hg e.symm))) h0.lt _, ownsRow_setCell_below (own_of_block h0.rt (fun g hg => hgr.block g (h0.rt.lt g hg).2 (fun e => h0.d3 g hg e.symm))) h0.lt _, by rw [List.length_append, List.flatMap_append]; exact ownsRow_setCell_below (by simpa using hown) h0.lt _, h0.d1, dj_at h0.rv h0.d2 hloc, dj_at h0.rt h0.d3 hloc, hbk⟩, hbx.at (j := 3) rfl, World.rowIs.frozen hbx 3, ?_⟩
  exact (Tch.of_grown (E := EB bk B) hgr (fun g hg => .inr (hne g hg))).setCell (.inr (.inl rfl)) _
attribute [-go_sem] Builtin.append_
set_option maxHeartbeats 3200000 in
set_option maxRecDepth 100000 in
theorem keepV_any {w : World} {bk B n : Nat} {vv vt vf : Value} {hv ht hf : List Hd} (hB : Bk w bk B n vv vt vf hv ht hf) (hBs : B ≤ w.heap.size) (a : Option Addr) (k c : Nat) (hn : n ≤ 1000000000) (hl : hv.length ≤ 1000000000) :
    Calls Tryz.prog 38 #[.pointer (some ⟨bk, 0, none⟩), .slice a k c] w fun e w' => e = .returned (.tuple #[]) ∧ ∃ a' c', Bk w' bk B (n + 1) (.slice a' (hv.length + 1) c') vt vf (hv ++ [⟨a, k, c, none, 0, 0, n + 1⟩]) ht hf ∧ Tch (EB bk B) w w' := by
  obtain ⟨i0, hi0, hz0, hz1, hz2⟩ := info_partsB infoH1
  obtain ⟨av, cv, rfl, _⟩ := own_form hB.rv
  have c0 := hB.box.at (j := 0) rfl
  have f0 := World.rowIs.frozen hB.box 0
  have hw : IntKind.i64.wrap ((n : Int) + 1) = (n : Int) + 1 := by rw [IntKind.wrap_i64]; omega
  have hcast : ((n + 1 : Nat) : Int) = (n : Int) + 1 := by omega
  have hBc := hB.count
  rw [hcast] at hBc
  have HB1 := Lib.hid hBc
  have HT1 : Hid (Tch (EB bk B) w (w.setCell ⟨bk, 0, none⟩ (.int .i64 ((n : Int) + 1)))) := (Tch.refl _ _).setCell (.inr (.inl rfl)) _
  have HSZ : Hid (B ≤ (w.setCell ⟨bk, 0, none⟩ (.int .i64 ((n : Int) + 1))).heap.size) := by show _ ≤ _; simpa using hBs
  have HCA := Lib.hid hcast
  clear hB hBs hBc hcast
  go_enter Tryz.func38, Tryz.ntmps38
  go_upto_region 1 with fail
  generalize w.setCell ⟨bk, 0, none⟩ (.int .i64 ((n : Int) + 1)) = W1 at HB1 HT1 HSZ ⊢
  have hm : ((n + 1 : Nat) : Int) = (n : Int) + 1 := HCA.out
  have q0' := HB1.out.box.at (j := 0) rfl
  rw [hm] at q0'
  generalize (n : Int) + 1 = M at hm q0' ⊢
  have HM := Lib.hid hm
  have HBA := Lib.hid (HB1.out.below ((Below.refl W1.heap.size W1).alloc (Nat.le_refl _) (.cells #[.slice a k c, .slice none 0 0, .int .i64 M] 116)))
  have HU := Lib.hid ((HB1.out.below (Below.refl W1.heap.size W1).drew).below ((Below.refl W1.drew.heap.size W1.drew).alloc (Nat.le_refl _) (.cells #[.slice a k c, .slice none 0 0, .int .i64 M] 116)))
  have HUT : Hid (Tch (EB bk B) W1 (W1.drew.alloc (.cells #[.slice a k c, .slice none 0 0, .int .i64 M] 116))) := Tch.of_below ((Below.refl W1.heap.size W1).drew.alloc (Nat.le_refl _) _)
  have q0 : W1.cell? ⟨bk, 0, none⟩ = some (.int .i64 M) := q0'
  have q1 := HB1.out.box.at (j := 1) rfl
  have r0 : (W1.alloc (.cells #[.slice a k c, .slice none 0 0, .int .i64 M] 116)).cell? ⟨bk, 0, none⟩ = some (.int .i64 M) := by rw [← hm]; exact (HB1.out.below ((Below.refl W1.heap.size W1).alloc (Nat.le_refl _) _)).box.at (j := 0) rfl
  have r1 := HBA.out.box.at (j := 1) rfl
  have HC : Hid (∀ (j : Nat) (u : Value), ([.slice a k c, .slice none 0 0, .int .i64 M] : List Value)[j]? = some u → (W1.drew.alloc (.cells #[.slice a k c, .slice none 0 0, .int .i64 M] 116)).cell? ((⟨W1.heap.size, 0, none⟩ : Addr).add j) = some u) := lit_news W1.drew #[.slice a k c, .slice none 0 0, .int .i64 M] _
  have HOWN := Lib.hid HU.out.rv
  have HSU : Hid (B ≤ (W1.drew.alloc (.cells #[.slice a k c, .slice none 0 0, .int .i64 M] 116)).heap.size) := by show _ ≤ _; have := HSZ.out; simp; omega
  clear HBA hm HCA q0'
  go_region_law (
    refine step_append_own rfl (.tmp 15) (.tmp 22) 31 rfl 116 i0 _ 3 56 Tryz.underlying31 hi0 hz0 hz1 hz2 rfl (by decide) B (.slice av hv.length cv) hv.length _ (by simp [Act.eval, Act.put]) HOWN.out ⟨W1.heap.size, 0, none⟩ 1 1 [.slice a k c, .slice none 0 0, .int .i64 M] (by simp [Act.eval, Act.put]) rfl HC.out (by simp [Value.oneCell']) (by unfold maxLen; omega) (by omega) HSU.out ?_
    intro v' w3 hown' hgrow hloc
    obtain ⟨a2, c2, rfl, hfin, m2, f2, t2⟩ := HU.out.pushV ⟨a, k, c, none, 0, 0, n + 1⟩ (by rw [← HM.out] at hown'; exact hown') hgrow hloc
    have HFIN := Lib.hid hfin
    have HTF := Lib.hid (HT1.out.trans (HUT.out.trans t2))
    clear hown' hgrow hloc hfin t2)
  all_goals
    go_wp2

    go_end0
    exact ⟨rfl, a2, c2, HFIN.out, HTF.out⟩
set_option maxHeartbeats 3200000 in
set_option maxRecDepth 100000 in
theorem keepT_any {w : World} {bk B n : Nat} {vv vt vf : Value} {hv ht hf : List Hd} (hB : Bk w bk B n vv vt vf hv ht hf) (hBs : B ≤ w.heap.size) (a : Option Addr) (k c : Nat) (hn : n ≤ 1000000000) (hl : ht.length ≤ 1000000000) :
    Calls Tryz.prog 39 #[.pointer (some ⟨bk, 0, none⟩), .slice a k c] w fun e w' => e = .returned (.tuple #[]) ∧ ∃ a' c', Bk w' bk B (n + 1) vv (.slice a' (ht.length + 1) c') vf hv (ht ++ [⟨a, k, c, none, 0, 0, n + 1⟩]) hf ∧ Tch (EB bk B) w w' := by
  obtain ⟨i0, hi0, hz0, hz1, hz2⟩ := info_partsB infoH2
  obtain ⟨av, cv, rfl, _⟩ := own_form hB.rt
  have c0 := hB.box.at (j := 0) rfl
  have f0 := World.rowIs.frozen hB.box 0
  have hw : IntKind.i64.wrap ((n : Int) + 1) = (n : Int) + 1 := by rw [IntKind.wrap_i64]; omega
  have hcast : ((n + 1 : Nat) : Int) = (n : Int) + 1 := by omega
  have hBc := hB.count
  rw [hcast] at hBc
  have HB1 := Lib.hid hBc
  have HT1 : Hid (Tch (EB bk B) w (w.setCell ⟨bk, 0, none⟩ (.int .i64 ((n : Int) + 1)))) := (Tch.refl _ _).setCell (.inr (.inl rfl)) _
  have HSZ : Hid (B ≤ (w.setCell ⟨bk, 0, none⟩ (.int .i64 ((n : Int) + 1))).heap.size) := by show _ ≤ _; simpa using hBs
  have HCA := Lib.hid hcast
  clear hB hBs hBc hcast
  go_enter Tryz.func39, Tryz.ntmps39
  go_upto_region 1 with fail
  generalize w.setCell ⟨bk, 0, none⟩ (.int .i64 ((n : Int) + 1)) = W1 at HB1 HT1 HSZ ⊢
  have hm : ((n + 1 : Nat) : Int) = (n : Int) + 1 := HCA.out
  have q0' := HB1.out.box.at (j := 0) rfl
  rw [hm] at q0'
  generalize (n : Int) + 1 = M at hm q0' ⊢
  have HM := Lib.hid hm
  have HBA := Lib.hid (HB1.out.below ((Below.refl W1.heap.size W1).alloc (Nat.le_refl _) (.cells #[.slice a k c, .slice none 0 0, .int .i64 M] 118)))
  have HU := Lib.hid ((HB1.out.below (Below.refl W1.heap.size W1).drew).below ((Below.refl W1.drew.heap.size W1.drew).alloc (Nat.le_refl _) (.cells #[.slice a k c, .slice none 0 0, .int .i64 M] 118)))
  have HUT : Hid (Tch (EB bk B) W1 (W1.drew.alloc (.cells #[.slice a k c, .slice none 0 0, .int .i64 M] 118))) := Tch.of_below ((Below.refl W1.heap.size W1).drew.alloc (Nat.le_refl _) _)
  have q0 : W1.cell? ⟨bk, 0, none⟩ = some (.int .i64 M) := q0'
  have q1 := HB1.out.box.at (j := 2) rfl
  have r0 : (W1.alloc (.cells #[.slice a k c, .slice none 0 0, .int .i64 M] 118)).cell? ⟨bk, 0, none⟩ = some (.int .i64 M) := by rw [← hm]; exact (HB1.out.below ((Below.refl W1.heap.size W1).alloc (Nat.le_refl _) _)).box.at (j := 0) rfl
  have r1 := HBA.out.box.at (j := 2) rfl
  have HC : Hid (∀ (j : Nat) (u : Value), ([.slice a k c, .slice none 0 0, .int .i64 M] : List Value)[j]? = some u → (W1.drew.alloc (.cells #[.slice a k c, .slice none 0 0, .int .i64 M] 118)).cell? ((⟨W1.heap.size, 0, none⟩ : Addr).add j) = some u) := lit_news W1.drew #[.slice a k c, .slice none 0 0, .int .i64 M] _
  have HOWN := Lib.hid HU.out.rt
  have HSU : Hid (B ≤ (W1.drew.alloc (.cells #[.slice a k c, .slice none 0 0, .int .i64 M] 118)).heap.size) := by show _ ≤ _; have := HSZ.out; simp; omega
  clear HBA hm HCA q0'
  go_region_law (
    refine step_append_own rfl (.tmp 15) (.tmp 22) 32 rfl 118 i0 _ 3 56 Tryz.underlying32 hi0 hz0 hz1 hz2 rfl (by decide) B (.slice av ht.length cv) ht.length _ (by simp [Act.eval, Act.put]) HOWN.out ⟨W1.heap.size, 0, none⟩ 1 1 [.slice a k c, .slice none 0 0, .int .i64 M] (by simp [Act.eval, Act.put]) rfl HC.out (by simp [Value.oneCell']) (by unfold maxLen; omega) (by omega) HSU.out ?_
    intro v' w3 hown' hgrow hloc
    obtain ⟨a2, c2, rfl, hfin, m2, f2, t2⟩ := HU.out.pushT ⟨a, k, c, none, 0, 0, n + 1⟩ (by rw [← HM.out] at hown'; exact hown') hgrow hloc
    have HFIN := Lib.hid hfin
    have HTF := Lib.hid (HT1.out.trans (HUT.out.trans t2))
    clear hown' hgrow hloc hfin t2)
  all_goals
    go_wp2

    go_end0
    exact ⟨rfl, a2, c2, HFIN.out, HTF.out⟩
set_option maxHeartbeats 3200000 in
set_option maxRecDepth 100000 in
theorem keepF_any {w : World} {bk B n : Nat} {vv vt vf : Value} {hv ht hf : List Hd} (hB : Bk w bk B n vv vt vf hv ht hf) (hBs : B ≤ w.heap.size) (a : Option Addr) (k c : Nat) (hn : n ≤ 1000000000) (hl : hf.length ≤ 1000000000) :
    Calls Tryz.prog 37 #[.pointer (some ⟨bk, 0, none⟩), .slice a k c] w fun e w' => e = .returned (.tuple #[]) ∧ ∃ a' c', Bk w' bk B (n + 1) vv vt (.slice a' (hf.length + 1) c') hv ht (hf ++ [⟨a, k, c, none, 0, 0, n + 1⟩]) ∧ Tch (EB bk B) w w' := by
  obtain ⟨i0, hi0, hz0, hz1, hz2⟩ := info_partsB infoH3
  obtain ⟨av, cv, rfl, _⟩ := own_form hB.rf
  have c0 := hB.box.at (j := 0) rfl
  have f0 := World.rowIs.frozen hB.box 0
  have hw : IntKind.i64.wrap ((n : Int) + 1) = (n : Int) + 1 := by rw [IntKind.wrap_i64]; omega
  have hcast : ((n + 1 : Nat) : Int) = (n : Int) + 1 := by omega
  have hBc := hB.count
  rw [hcast] at hBc
  have HB1 := Lib.hid hBc
  have HT1 : Hid (Tch (EB bk B) w (w.setCell ⟨bk, 0, none⟩ (.int .i64 ((n : Int) + 1)))) := (Tch.refl _ _).setCell (.inr (.inl rfl)) _
  have HSZ : Hid (B ≤ (w.setCell ⟨bk, 0, none⟩ (.int .i64 ((n : Int) + 1))).heap.size) := by show _ ≤ _; simpa using hBs
  have HCA := Lib.hid hcast
  clear hB hBs hBc hcast
  go_enter Tryz.func37, Tryz.ntmps37
  go_upto_region 1 with fail
  generalize w.setCell ⟨bk, 0, none⟩ (.int .i64 ((n : Int) + 1)) = W1 at HB1 HT1 HSZ ⊢
  have hm : ((n + 1 : Nat) : Int) = (n : Int) + 1 := HCA.out
  have q0' := HB1.out.box.at (j := 0) rfl
  rw [hm] at q0'
  generalize (n : Int) + 1 = M at hm q0' ⊢
  have HM := Lib.hid hm
  have HBA := Lib.hid (HB1.out.below ((Below.refl W1.heap.size W1).alloc (Nat.le_refl _) (.cells #[.slice a k c, .slice none 0 0, .int .i64 M] 114)))
  have HU := Lib.hid ((HB1.out.below (Below.refl W1.heap.size W1).drew).below ((Below.refl W1.drew.heap.size W1.drew).alloc (Nat.le_refl _) (.cells #[.slice a k c, .slice none 0 0, .int .i64 M] 114)))
  have HUT : Hid (Tch (EB bk B) W1 (W1.drew.alloc (.cells #[.slice a k c, .slice none 0 0, .int .i64 M] 114))) := Tch.of_below ((Below.refl W1.heap.size W1).drew.alloc (Nat.le_refl _) _)
  have q0 : W1.cell? ⟨bk, 0, none⟩ = some (.int .i64 M) := q0'
  have q1 := HB1.out.box.at (j := 3) rfl
  have r0 : (W1.alloc (.cells #[.slice a k c, .slice none 0 0, .int .i64 M] 114)).cell? ⟨bk, 0, none⟩ = some (.int .i64 M) := by rw [← hm]; exact (HB1.out.below ((Below.refl W1.heap.size W1).alloc (Nat.le_refl _) _)).box.at (j := 0) rfl
  have r1 := HBA.out.box.at (j := 3) rfl
  have HC : Hid (∀ (j : Nat) (u : Value), ([.slice a k c, .slice none 0 0, .int .i64 M] : List Value)[j]? = some u → (W1.drew.alloc (.cells #[.slice a k c, .slice none 0 0, .int .i64 M] 114)).cell? ((⟨W1.heap.size, 0, none⟩ : Addr).add j) = some u) := lit_news W1.drew #[.slice a k c, .slice none 0 0, .int .i64 M] _
  have HOWN := Lib.hid HU.out.rf
  have HSU : Hid (B ≤ (W1.drew.alloc (.cells #[.slice a k c, .slice none 0 0, .int .i64 M] 114)).heap.size) := by show _ ≤ _; have := HSZ.out; simp; omega
  clear HBA hm HCA q0'
  go_region_law (
    refine step_append_own rfl (.tmp 15) (.tmp 22) 33 rfl 114 i0 _ 3 56 Tryz.underlying33 hi0 hz0 hz1 hz2 rfl (by decide) B (.slice av hf.length cv) hf.length _ (by simp [Act.eval, Act.put]) HOWN.out ⟨W1.heap.size, 0, none⟩ 1 1 [.slice a k c, .slice none 0 0, .int .i64 M] (by simp [Act.eval, Act.put]) rfl HC.out (by simp [Value.oneCell']) (by unfold maxLen; omega) (by omega) HSU.out ?_
    intro v' w3 hown' hgrow hloc
    obtain ⟨a2, c2, rfl, hfin, m2, f2, t2⟩ := HU.out.pushF ⟨a, k, c, none, 0, 0, n + 1⟩ (by rw [← HM.out] at hown'; exact hown') hgrow hloc
    have HFIN := Lib.hid hfin
    have HTF := Lib.hid (HT1.out.trans (HUT.out.trans t2))
    clear hown' hgrow hloc hfin t2)
  all_goals
    go_wp2

    go_end0
    exact ⟨rfl, a2, c2, HFIN.out, HTF.out⟩
end Go.Proofs.YtoagnkbmeafmoaaGreatDoor
