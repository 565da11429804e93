import Derived.Test.YtgeplijgcmdaeaaRkM
import Derived.Lib.Hide
import Derived.Deep.RegionWith
import Derived.Deep.DeepCutAuto
namespace Go.Proofs.Ytgeplijgcmdaeaa.BK
open Go.RowKit Go.Maps
set_option linter.unusedVariables false
set_option linter.unusedSimpArgs false
attribute [local go_sem ↓] Go.wp_at_zero Go.wp_at_succ

def bkCells (n : Nat) (vI : Value) (vR : Value) : List Value := [.int .i64 n, .slice none 0 0, .slice none 0 0, .slice none 0 0, .slice none 0 0, .slice none 0 0, .slice none 0 0, .slice none 0 0, .slice none 0 0, .slice none 0 0, .slice none 0 0, .slice none 0 0, .slice none 0 0, .slice none 0 0, vI, .slice none 0 0, .slice none 0 0, .slice none 0 0, .slice none 0 0, .slice none 0 0, .slice none 0 0, .slice none 0 0, vR, .slice none 0 0, .slice none 0 0, .slice none 0 0, .slice none 0 0, .slice none 0 0, .slice none 0 0, .slice none 0 0, .slice none 0 0, .slice none 0 0]
structure Bk (w : World) (bk B n : Nat) (vI vR : Value) (hsI hsR : List Hd) : Prop where
  box : RL w bk 63 (bkCells n vI vR)
  rI : w.ownsRow B 144 3 vI hsI.length (hsI.flatMap Hd.cells)
  rR : w.ownsRow B 146 3 vR hsR.length (hsR.flatMap Hd.cells)
  dIR : Dj vI vR
  lt : bk < B
theorem Bk.keep {w w' : World} {bk B n : Nat} {vI vR : Value} {hsI hsR : List Hd} (h : Bk w bk B n vI vR hsI hsR) (hb : ∀ g, g < w.heap.size → (g = bk ∨ vI.ownBlock = some g ∨ vR.ownBlock = some g) → w'.heap[g]? = w.heap[g]?) : Bk w' bk B n vI vR hsI hsR :=
  ⟨World.rowIs.of_block h.box (hb bk (World.rowIs.lt h.box) (.inl rfl)), own_of_block h.rI (fun g hg => hb g (h.rI.lt g hg).2 (.inr (.inl hg))), own_of_block h.rR (fun g hg => hb g (h.rR.lt g hg).2 (.inr (.inr (hg)))), h.dIR, h.lt⟩
theorem Bk.below {w w' : World} {bk B n : Nat} {vI vR : Value} {hsI hsR : List Hd} (h : Bk w bk B n vI vR hsI hsR) (b : Below w.heap.size w w') : Bk w' bk B n vI vR hsI hsR := h.keep (fun g hg _ => b.block g hg)
theorem infoHI : (Try.prog.info? 144).map (fun i => (i.zero, i.size, i.bytes)) = some (some (.agg #[.slice none 0 0, .slice none 0 0, .int .i64 0]), 3, 56) := by kernel_rfl
theorem infoHR : (Try.prog.info? 146).map (fun i => (i.zero, i.size, i.bytes)) = some (some (.agg #[.slice none 0 0, .slice none 0 0, .int .i64 0]), 3, 56) := by kernel_rfl
theorem info_partsB {e : TypeId} {z : Value} {a b : Nat} (h : (Try.prog.info? e).map (fun i => (i.zero, i.size, i.bytes)) = some (some z, a, b)) : ∃ i, Try.prog.info? e = some i ∧ i.zero = some z ∧ i.size = a ∧ i.bytes = b := by
  obtain ⟨i, hi, he⟩ := Option.map_eq_some_iff.1 h
  simp only [Prod.mk.injEq] at he
  exact ⟨i, hi, he.1, he.2.1, he.2.2⟩
theorem Bk.count {w : World} {bk B n : Nat} {vI vR : Value} {hsI hsR : List Hd} (h : Bk w bk B n vI vR hsI hsR) : Bk (w.setCell ⟨bk, 0, none⟩ (.int .i64 ((n + 1 : Nat) : Int))) bk B (n + 1) vI vR hsI hsR := by
  have hb : ∀ {v : Value} {e : TypeId} {m : Nat} {xs : List Value}, w.ownsRow B e 3 v m xs → (w.setCell ⟨bk, 0, none⟩ (.int .i64 ((n + 1 : Nat) : Int))).ownsRow B e 3 v m xs := fun ho => ownsRow_setCell_below ho h.lt _
  exact ⟨h.box.set 0 _, hb h.rI, hb h.rR, h.dIR, h.lt⟩
theorem dj_at {w : World} {b k n : Nat} {ty : TypeId} {v vb vb' : Value} {xs : List Value} (h : w.ownsRow b ty k v n xs) (hd : Dj v vb) (hloc : vb'.ownBlock = vb.ownBlock ∨ vb'.ownBlock = some w.heap.size) : Dj v vb' := dj_grow h hd (hloc.imp_right (fun e => ⟨_, e, Nat.le_refl _⟩))
abbrev EB (bk B : Nat) : Nat → Prop := fun g => g = bk ∨ B ≤ g
theorem Bk.pushI {U w3 : World} {bk B n : Nat} {vI vR v' : Value} {hsI hsR : List Hd} (h0 : Bk U bk B n vI vR hsI hsR) (h : Hd) (hown : w3.ownsRow B 144 3 v' (hsI.length + 1) (hsI.flatMap Hd.cells ++ h.cells)) (hgr : U.grownBy w3 vI.ownBlock) (hloc : v'.ownBlock = vI.ownBlock ∨ v'.ownBlock = some U.heap.size) :
    ∃ a2 c2, v' = .slice a2 (hsI.length + 1) c2 ∧ Bk (w3.setCell ⟨bk, 14, none⟩ (.slice a2 (hsI.length + 1) c2)) bk B n (.slice a2 (hsI.length + 1) c2) vR (hsI ++ [h]) hsR ∧ w3.cell? ⟨bk, 14, none⟩ = some vI ∧ w3.frozen? ⟨bk, 14, none⟩ = false ∧ Tch (EB bk B) U (w3.setCell ⟨bk, 14, none⟩ (.slice a2 (hsI.length + 1) c2)) := by
  obtain ⟨a2, c2, rfl, _⟩ := own_form hown
  have hbk := h0.lt
  have hne : ∀ g, vI.ownBlock = some g → B ≤ g := fun g hg => (h0.rI.lt g hg).1
  have hbx : RL w3 bk 63 (bkCells n vI vR) := World.rowIs.of_block h0.box (hgr.block bk (World.rowIs.lt h0.box) (fun e => by have := hne bk e.symm; omega))
  refine ⟨a2, c2, rfl, ⟨hbx.set 14 _, by rw [List.length_append, List.flatMap_append]; exact ownsRow_setCell_below (by simpa using hown) h0.lt _, ownsRow_setCell_below (own_of_block h0.rR (fun g hg => hgr.block g (h0.rR.lt g hg).2 (fun e => h0.dIR.flip g hg e.symm))) h0.lt _, (dj_at h0.rR h0.dIR.flip hloc).flip, hbk⟩, hbx.at (j := 14) rfl, World.rowIs.frozen hbx 14, ?_⟩
  exact (Tch.of_grown (E := EB bk B) hgr (fun g hg => .inr (hne g hg))).setCell (.inr (.inl rfl)) _
theorem Bk.pushR {U w3 : World} {bk B n : Nat} {vI vR v' : Value} {hsI hsR : List Hd} (h0 : Bk U bk B n vI vR hsI hsR) (h : Hd) (hown : w3.ownsRow B 146 3 v' (hsR.length + 1) (hsR.flatMap Hd.cells ++ h.cells)) (hgr : U.grownBy w3 vR.ownBlock) (hloc : v'.ownBlock = vR.ownBlock ∨ v'.ownBlock = some U.heap.size) :
    ∃ a2 c2, v' = .slice a2 (hsR.length + 1) c2 ∧ Bk (w3.setCell ⟨bk, 22, none⟩ (.slice a2 (hsR.length + 1) c2)) bk B n vI (.slice a2 (hsR.length + 1) c2) hsI (hsR ++ [h]) ∧ w3.cell? ⟨bk, 22, none⟩ = some vR ∧ w3.frozen? ⟨bk, 22, none⟩ = false ∧ Tch (EB bk B) U (w3.setCell ⟨bk, 22, none⟩ (.slice a2 (hsR.length + 1) c2)) := by
  obtain ⟨a2, c2, rfl, _⟩ := own_form hown
  have hbk := h0.lt
  have hne : ∀ g, vR.ownBlock = some g → B ≤ g := fun g hg => (h0.rR.lt g hg).1
  have hbx : RL w3 bk 63 (bkCells n vI vR) := World.rowIs.of_block h0.box (hgr.block bk (World.rowIs.lt h0.box) (fun e => by have := hne bk e.symm; omega))
  refine ⟨a2, c2, rfl, ⟨hbx.set 22 _, ownsRow_setCell_below (own_of_block h0.rI (fun g hg => hgr.block g (h0.rI.lt g hg).2 (fun e => h0.dIR g hg e.symm))) h0.lt _, by rw [List.length_append, List.flatMap_append]; exact ownsRow_setCell_below (by simpa using hown) h0.lt _, dj_at h0.rI h0.dIR hloc, hbk⟩, hbx.at (j := 22) rfl, World.rowIs.frozen hbx 22, ?_⟩
  exact (Tch.of_grown (E := EB bk B) hgr (fun g hg => .inr (hne g hg))).setCell (.inr (.inl rfl)) _
attribute [-go_sem] Builtin.append_
set_option maxHeartbeats 3200000 in
set_option maxRecDepth 100000 in
theorem keepI_any {w : World} {bk B n : Nat} {vI vR : Value} {hsI hsR : List Hd} (hB : Bk w bk B n vI vR hsI hsR) (hBs : B ≤ w.heap.size) (a : Option Addr) (k c : Nat) (hn : n ≤ 1000000000) (hl : hsI.length ≤ 1000000000) :
    Calls Try.prog 44 #[.pointer (some ⟨bk, 0, none⟩), .slice a k c] w fun e w' => e = .returned (.tuple #[]) ∧ ∃ a' c', Bk w' bk B (n + 1) (.slice a' (hsI.length + 1) c') vR (hsI ++ [⟨a, k, c, none, 0, 0, n + 1⟩]) hsR ∧ Tch (EB bk B) w w' := by
  obtain ⟨i0, hi0, hz0, hz1, hz2⟩ := info_partsB infoHI
  obtain ⟨av, cv, rfl, _⟩ := own_form hB.rI
  have c0 := hB.box.at (j := 0) rfl
  have f0 := World.rowIs.frozen hB.box 0
  have hw : IntKind.i64.wrap ((n : Int) + 1) = (n : Int) + 1 := by rw [IntKind.wrap_i64]; omega
  have hcast : ((n + 1 : Nat) : Int) = (n : Int) + 1 := by omega
  have hBc := hB.count
  rw [hcast] at hBc
  have HB1 := Lib.hid hBc
  have HT1 : Hid (Tch (EB bk B) w (w.setCell ⟨bk, 0, none⟩ (.int .i64 ((n : Int) + 1)))) := (Tch.refl _ _).setCell (.inr (.inl rfl)) _
  have HSZ : Hid (B ≤ (w.setCell ⟨bk, 0, none⟩ (.int .i64 ((n : Int) + 1))).heap.size) := by show _ ≤ _; simpa using hBs
  have HCA := Lib.hid hcast
  clear hB hBs hBc hcast
  go_enter Try.func44, Try.ntmps44
  go_upto_region 1 with fail
  generalize w.setCell ⟨bk, 0, none⟩ (.int .i64 ((n : Int) + 1)) = W1 at HB1 HT1 HSZ ⊢
  have hm : ((n + 1 : Nat) : Int) = (n : Int) + 1 := HCA.out
  have q0' := HB1.out.box.at (j := 0) rfl
  rw [hm] at q0'
  generalize (n : Int) + 1 = M at hm q0' ⊢
  have HM := Lib.hid hm
  have HBA := Lib.hid (HB1.out.below ((Below.refl W1.heap.size W1).alloc (Nat.le_refl _) (.cells #[.slice a k c, .slice none 0 0, .int .i64 M] 144)))
  have HU := Lib.hid ((HB1.out.below (Below.refl W1.heap.size W1).drew).below ((Below.refl W1.drew.heap.size W1.drew).alloc (Nat.le_refl _) (.cells #[.slice a k c, .slice none 0 0, .int .i64 M] 144)))
  have HUT : Hid (Tch (EB bk B) W1 (W1.drew.alloc (.cells #[.slice a k c, .slice none 0 0, .int .i64 M] 144))) := Tch.of_below ((Below.refl W1.heap.size W1).drew.alloc (Nat.le_refl _) _)
  have q0 : W1.cell? ⟨bk, 0, none⟩ = some (.int .i64 M) := q0'
  have q1 := HB1.out.box.at (j := 14) rfl
  have r0 : (W1.alloc (.cells #[.slice a k c, .slice none 0 0, .int .i64 M] 144)).cell? ⟨bk, 0, none⟩ = some (.int .i64 M) := by rw [← hm]; exact (HB1.out.below ((Below.refl W1.heap.size W1).alloc (Nat.le_refl _) _)).box.at (j := 0) rfl
  have r1 := HBA.out.box.at (j := 14) rfl
  have HC : Hid (∀ (j : Nat) (u : Value), ([.slice a k c, .slice none 0 0, .int .i64 M] : List Value)[j]? = some u → (W1.drew.alloc (.cells #[.slice a k c, .slice none 0 0, .int .i64 M] 144)).cell? ((⟨W1.heap.size, 0, none⟩ : Addr).add j) = some u) := lit_news W1.drew #[.slice a k c, .slice none 0 0, .int .i64 M] _
  have HOWN := Lib.hid HU.out.rI
  have HSU : Hid (B ≤ (W1.drew.alloc (.cells #[.slice a k c, .slice none 0 0, .int .i64 M] 144)).heap.size) := by show _ ≤ _; have := HSZ.out; simp; omega
  clear HBA hm HCA q0'
  go_region_law (
    refine step_append_own rfl (.tmp 15) (.tmp 22) 44 rfl 144 i0 _ 3 56 Try.underlying44 hi0 hz0 hz1 hz2 rfl (by decide) B (.slice av hsI.length cv) hsI.length _ (by simp [Act.eval, Act.put]) HOWN.out ⟨W1.heap.size, 0, none⟩ 1 1 [.slice a k c, .slice none 0 0, .int .i64 M] (by simp [Act.eval, Act.put]) rfl HC.out (by simp [Value.oneCell']) (by unfold maxLen; omega) (by omega) HSU.out ?_
    intro v' w3 hown' hgrow hloc
    obtain ⟨a2, c2, rfl, hfin, m2, f2, t2⟩ := HU.out.pushI ⟨a, k, c, none, 0, 0, n + 1⟩ (by rw [← HM.out] at hown'; exact hown') hgrow hloc
    have HFIN := Lib.hid hfin
    have HTF := Lib.hid (HT1.out.trans (HUT.out.trans t2))
    clear hown' hgrow hloc hfin t2)
  all_goals
    go_wp2

    go_end0
    exact ⟨rfl, a2, c2, HFIN.out, HTF.out⟩
set_option maxHeartbeats 3200000 in
set_option maxRecDepth 100000 in
theorem keepR_any {w : World} {bk B n : Nat} {vI vR : Value} {hsI hsR : List Hd} (hB : Bk w bk B n vI vR hsI hsR) (hBs : B ≤ w.heap.size) (a : Option Addr) (k c : Nat) (hn : n ≤ 1000000000) (hl : hsR.length ≤ 1000000000) :
    Calls Try.prog 46 #[.pointer (some ⟨bk, 0, none⟩), .slice a k c] w fun e w' => e = .returned (.tuple #[]) ∧ ∃ a' c', Bk w' bk B (n + 1) vI (.slice a' (hsR.length + 1) c') hsI (hsR ++ [⟨a, k, c, none, 0, 0, n + 1⟩]) ∧ Tch (EB bk B) w w' := by
  obtain ⟨i0, hi0, hz0, hz1, hz2⟩ := info_partsB infoHR
  obtain ⟨av, cv, rfl, _⟩ := own_form hB.rR
  have c0 := hB.box.at (j := 0) rfl
  have f0 := World.rowIs.frozen hB.box 0
  have hw : IntKind.i64.wrap ((n : Int) + 1) = (n : Int) + 1 := by rw [IntKind.wrap_i64]; omega
  have hcast : ((n + 1 : Nat) : Int) = (n : Int) + 1 := by omega
  have hBc := hB.count
  rw [hcast] at hBc
  have HB1 := Lib.hid hBc
  have HT1 : Hid (Tch (EB bk B) w (w.setCell ⟨bk, 0, none⟩ (.int .i64 ((n : Int) + 1)))) := (Tch.refl _ _).setCell (.inr (.inl rfl)) _
  have HSZ : Hid (B ≤ (w.setCell ⟨bk, 0, none⟩ (.int .i64 ((n : Int) + 1))).heap.size) := by show _ ≤ _; simpa using hBs
  have HCA := Lib.hid hcast
  clear hB hBs hBc hcast
  go_enter Try.func46, Try.ntmps46
  go_upto_region 1 with fail
  generalize w.setCell ⟨bk, 0, none⟩ (.int .i64 ((n : Int) + 1)) = W1 at HB1 HT1 HSZ ⊢
  have hm : ((n + 1 : Nat) : Int) = (n : Int) + 1 := HCA.out
  have q0' := HB1.out.box.at (j := 0) rfl
  rw [hm] at q0'
  generalize (n : Int) + 1 = M at hm q0' ⊢
  have HM := Lib.hid hm
  have HBA := Lib.hid (HB1.out.below ((Below.refl W1.heap.size W1).alloc (Nat.le_refl _) (.cells #[.slice a k c, .slice none 0 0, .int .i64 M] 146)))
  have HU := Lib.hid ((HB1.out.below (Below.refl W1.heap.size W1).drew).below ((Below.refl W1.drew.heap.size W1.drew).alloc (Nat.le_refl _) (.cells #[.slice a k c, .slice none 0 0, .int .i64 M] 146)))
  have HUT : Hid (Tch (EB bk B) W1 (W1.drew.alloc (.cells #[.slice a k c, .slice none 0 0, .int .i64 M] 146))) := Tch.of_below ((Below.refl W1.heap.size W1).drew.alloc (Nat.le_refl _) _)
  have q0 : W1.cell? ⟨bk, 0, none⟩ = some (.int .i64 M) := q0'
  have q1 := HB1.out.box.at (j := 22) rfl
  have r0 : (W1.alloc (.cells #[.slice a k c, .slice none 0 0, .int .i64 M] 146)).cell? ⟨bk, 0, none⟩ = some (.int .i64 M) := by rw [← hm]; exact (HB1.out.below ((Below.refl W1.heap.size W1).alloc (Nat.le_refl _) _)).box.at (j := 0) rfl
  have r1 := HBA.out.box.at (j := 22) rfl
  have HC : Hid (∀ (j : Nat) (u : Value), ([.slice a k c, .slice none 0 0, .int .i64 M] : List Value)[j]? = some u → (W1.drew.alloc (.cells #[.slice a k c, .slice none 0 0, .int .i64 M] 146)).cell? ((⟨W1.heap.size, 0, none⟩ : Addr).add j) = some u) := lit_news W1.drew #[.slice a k c, .slice none 0 0, .int .i64 M] _
  have HOWN := Lib.hid HU.out.rR
  have HSU : Hid (B ≤ (W1.drew.alloc (.cells #[.slice a k c, .slice none 0 0, .int .i64 M] 146)).heap.size) := by show _ ≤ _; have := HSZ.out; simp; omega
  clear HBA hm HCA q0'
  go_region_law (
    refine step_append_own rfl (.tmp 15) (.tmp 22) 52 rfl 146 i0 _ 3 56 Try.underlying52 hi0 hz0 hz1 hz2 rfl (by decide) B (.slice av hsR.length cv) hsR.length _ (by simp [Act.eval, Act.put]) HOWN.out ⟨W1.heap.size, 0, none⟩ 1 1 [.slice a k c, .slice none 0 0, .int .i64 M] (by simp [Act.eval, Act.put]) rfl HC.out (by simp [Value.oneCell']) (by unfold maxLen; omega) (by omega) HSU.out ?_
    intro v' w3 hown' hgrow hloc
    obtain ⟨a2, c2, rfl, hfin, m2, f2, t2⟩ := HU.out.pushR ⟨a, k, c, none, 0, 0, n + 1⟩ (by rw [← HM.out] at hown'; exact hown') hgrow hloc
    have HFIN := Lib.hid hfin
    have HTF := Lib.hid (HT1.out.trans (HUT.out.trans t2))
    clear hown' hgrow hloc hfin t2)
  all_goals
    go_wp2

    go_end0
    exact ⟨rfl, a2, c2, HFIN.out, HTF.out⟩
end Go.Proofs.Ytgeplijgcmdaeaa.BK
