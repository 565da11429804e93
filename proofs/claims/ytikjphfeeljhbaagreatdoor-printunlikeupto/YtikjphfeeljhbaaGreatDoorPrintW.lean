import Derived.Test.YtikjphfeeljhbaaGreatDoorValueShow2
import Derived.Lib.Builder
import Derived.Lib.AppendStr
import Derived.Lib.UnsafeStr
import Derived.Lib.Strings
namespace Go.Proofs.YtikjphfeeljhbaaGreatDoor
open Go.RowKit Go.Maps
set_option linter.unusedVariables false
set_option linter.unusedSimpArgs false
attribute [local go_sem ↓] Go.wp_at_zero Go.wp_at_succ

/-- a writer (its block b) that holds the bytes l -/
abbrev Bld (B b : Nat) (p : Value) (l : List UInt8) (w : World) : Prop := Lib.BuilderAt 87 5 B b p (Lib.byteCells l) w
abbrev self (b : Nat) : Value := .pointer (some ⟨b, 0, none⟩)
theorem infoBld : (Tryz.prog.info? 85).map (·.size) = some 2 := by kernel_rfl
theorem liesBld : liesAt Tryz.prog Tryz.prog.depth 87 (2 / Tryz.prog.cellsOf 87) 0 85 1 = true := by kernel_rfl
def BldA (B b : Nat) (l : List UInt8) (w : World) : Prop := Bld B b (.pointer none) l w ∨ Bld B b (self b) l w
theorem BldA.lt {B b : Nat} {l : List UInt8} {w : World} (h : BldA B b l w) : b < w.heap.size := by
  rcases h with h | h
  · exact h.lt
  · exact h.lt
theorem BldA.le {B b : Nat} {l : List UInt8} {w : World} (h : BldA B b l w) : B ≤ b := by
  rcases h with h | h
  · exact h.1
  · exact h.1

/-- what a writer's calls leave alone: every row but its own and those of bytes -/
def Spare (b : Nat) (w w' : World) : Prop := ∀ (k : Nat) (cs : Array Value) (ty : TypeId) (fr : Nat × Nat), w.heap[k]? = some (.cells cs ty fr) → ty ≠ 5 → k ≠ b → w'.heap[k]? = some (.cells cs ty fr)
theorem Spare.refl (b : Nat) (w : World) : Spare b w w := fun _ _ _ _ h _ _ => h
theorem Spare.trans {b : Nat} {w1 w2 w3 : World} (h : Spare b w1 w2) (h2 : Spare b w2 w3) : Spare b w1 w3 := fun k cs ty fr hk ht hn => h2 k cs ty fr (h k cs ty fr hk ht hn) ht hn
theorem Spare.below {b : Nat} {w w' : World} (h : Below w.heap.size w w') : Spare b w w' := fun k cs ty fr hk _ _ => by
  rw [h.block k (Array.getElem?_eq_some_iff.1 hk).1]; exact hk
theorem Spare.alloc {b : Nat} {w w' : World} (h : Spare b w w') (o : Obj) : Spare b w (w'.alloc o) := h.trans (Spare.below ((Below.refl _ _).alloc (Nat.le_refl _) _))
theorem Spare.drew {b : Nat} {w w' : World} (h : Spare b w w') : Spare b w w'.drew := h
theorem Spare.set {b : Nat} {w w' : World} (h : Spare b w w') (j : Nat) (v : Value) : Spare b w (w'.setCell ⟨b, j, none⟩ v) := fun k cs ty fr hk ht hn => by
  rw [Below.heap_setCell _ _ _ _ (fun e => hn (by simpa using e))]; exact h k cs ty fr hk ht hn
theorem Spare.cell {b k : Nat} {w w' : World} (h : Spare b w w') {cs : Array Value} {ty : TypeId} {fr : Nat × Nat} (hk : w.heap[k]? = some (.cells cs ty fr)) (ht : ty ≠ 5) (hn : k ≠ b) (j : Nat) : w'.cell? ⟨k, j, none⟩ = cs[j]? := by
  have := h k cs ty fr hk ht hn
  simp [World.cell?, this]
theorem BldA.below {B b : Nat} {l : List UInt8} {w w' : World} (h : BldA B b l w) (hb : Below w.heap.size w w') : BldA B b l w' := by
  rcases h with h | h
  · obtain ⟨h1, v, h2, h3, h4⟩ := h
    exact .inl ⟨h1, v, by rw [hb.block b (Array.getElem?_eq_some_iff.1 h2).1]; exact h2, own_below h3 hb, h4⟩
  · obtain ⟨h1, v, h2, h3, h4⟩ := h
    exact .inr ⟨h1, v, by rw [hb.block b (Array.getElem?_eq_some_iff.1 h2).1]; exact h2, own_below h3 hb, h4⟩
theorem BldA.alloc {B b : Nat} {l : List UInt8} {w : World} (h : BldA B b l w) (o : Obj) : BldA B b l (w.alloc o) := h.below ((Below.refl _ _).alloc (Nat.le_refl _) _)

/-- what writing t does -/
def Wrote (B b : Nat) (l t : List UInt8) (w : World) (e : Ending) (w' : World) : Prop := e = .returned (.tuple #[]) ∧ BldA B b (l ++ t) w' ∧ Below B w w' ∧ Spare b w w'

set_option maxHeartbeats 1600000 in
set_option maxRecDepth 100000 in
theorem copyCheck_used (b : Nat) (w : World) (h0 : w.cell? ⟨b, 0, none⟩ = some (self b)) :
    Calls Tryz.prog 74 #[self b] w fun e w' => e = .returned (.tuple #[]) ∧ w' = w := by
  obtain ⟨j, hj, hjs⟩ := Option.map_eq_some_iff.1 infoBld
  have hne := Lib.run_neq_ptr_same (P := Tryz.prog) w ⟨b, 0, none⟩ Tryz.underlying82 hj
  unfold self at *
  go_enter Tryz.func74, Tryz.ntmps74
  go_wp2
  go_end0
  exact ⟨rfl, rfl⟩
set_option maxHeartbeats 1600000 in
set_option maxRecDepth 100000 in
theorem copyCheck_fresh (b : Nat) (w : World) (h0 : w.cell? ⟨b, 0, none⟩ = some (.pointer none)) (hsh : w.shape? b = some (87, 2)) (hfz : w.frozen? ⟨b, 0, none⟩ = false) :
    Calls Tryz.prog 74 #[self b] w fun e w' => e = .returned (.tuple #[]) ∧ w' = w.setCell ⟨b, 0, none⟩ (self b) := by
  obtain ⟨j, hj, hjs⟩ := Option.map_eq_some_iff.1 infoBld
  have hto := Lib.run_to_unsafe (P := Tryz.prog) w ⟨b, 0, none⟩ Tryz.underlying82 Tryz.underlying152 hj (by rw [hjs]; decide) hsh (Nat.zero_lt_succ 1)
  have hfr := Lib.run_from_unsafe (P := Tryz.prog) w ⟨b, 0, none⟩ Tryz.underlying152 Tryz.underlying82 hj hsh liesBld
  have hno := Lib.run_noEscape (P := Tryz.prog) (w := w) (self b)
  have hne := Lib.run_neq_ptr_same (P := Tryz.prog) (w.setCell ⟨b, 0, none⟩ (self b)) ⟨b, 0, none⟩ Tryz.underlying82 hj
  unfold self at *
  go_enter Tryz.func74, Tryz.ntmps74
  go_wp2
  rw [run_callFunc_extern Tryz.func84 (by kernel_rfl) (by kernel_rfl) (by kernel_rfl) (e := Extern.AbiNoEscape.same) (by kernel_rfl), Lib.run_noEscape]
  simp only [Result.andThen]
  rw [Oper.upon_value]
  go_wp2
  go_end0
  exact ⟨rfl, rfl⟩
theorem copyCheck_any {B b : Nat} {l : List UInt8} {w : World} (h : BldA B b l w) :
    Calls Tryz.prog 74 #[self b] w fun e w' => e = .returned (.tuple #[]) ∧ Bld B b (self b) l w' ∧ Below B w w' ∧ Spare b w w' := by
  rcases h with h | h
  · refine (copyCheck_fresh b w h.cell0 h.shape h.frozen0).mono fun e w' => ?_
    rintro ⟨rfl, rfl⟩
    exact ⟨rfl, h.used _, (Below.refl _ _).setCell (p := ⟨b, 0, none⟩) h.1 _, (Spare.refl b w).set 0 _⟩
  · refine (copyCheck_used b w h.cell0).mono fun e w' => ?_
    rintro ⟨rfl, rfl⟩
    exact ⟨rfl, h, Below.refl _ _, Spare.refl _ _⟩

theorem own_u8 {w : World} {B : Nat} {v : Value} {n : Nat} {xs : List Value} {g : Nat} (h : w.ownsRow B 5 1 v n xs) (hg : v.ownBlock = some g) {cs : Array Value} {ty : TypeId} {fr : Nat × Nat} (hk : w.heap[g]? = some (.cells cs ty fr)) : ty = 5 := by
  obtain ⟨hl, ⟨rfl, _⟩ | ⟨g', cap, cur, rfl, _, hb, _⟩⟩ := h
  · cases hg
  · have e : g' = g := by simpa [Value.ownBlock] using hg
    subst e
    rw [hb] at hk
    cases hk
    rfl
set_option maxHeartbeats 1600000 in
set_option maxRecDepth 100000 in
theorem WriteString_any {B b : Nat} {l : List UInt8} {w : World} (s : ByteArray) (h : BldA B b l w) (hl : l.length ≤ 1099511627776) (hs : s.size ≤ 1099511627776) (hBw : B ≤ w.heap.size) :
    Calls Tryz.prog 54 #[self b, .string s] w fun e w' => e = .returned (.tuple #[.int .i64 s.size, .nilIface]) ∧ BldA B b (l ++ s.data.toList) w' ∧ Below B w w' ∧ Spare b w w' := by
  obtain ⟨i0, hi0, hz0, hz1, hz2⟩ := info_parts infoByte
  have hll := Lib.byteCells_length l
  go_enter Tryz.func54, Tryz.ntmps54
  go_wp2_with fail
  refine (copyCheck_any h).mono ?_
  rintro e w1 ⟨rfl, ⟨hB, v, hbk, hown, hne⟩, hb1, hsp1⟩
  rw [hll] at hown
  clear hll
  have c0 : w1.cell? ⟨b, 0, none⟩ = some (self b) := by rw [Lib.cell_of_heap hbk]; rfl
  have c1 : w1.cell? ⟨b, 1, none⟩ = some v := by rw [Lib.cell_of_heap hbk]; rfl
  have HT : Hid _ := hbk
  have HN : Hid _ := hne
  have HSP : Hid (Spare b w w1) := hsp1
  obtain ⟨av, cv, rfl, hlv⟩ := own_form hown
  have hbl : b < w1.heap.size := World.block_lt_of_cell? _ _ c0
  clear hbk hne hsp1
  unfold self at *
  go_wp2_with (first
    | (at_builtin; refine Lib.wpList_append_own_string _ rfl _ _ 83 9 rfl B 5 i0 Tryz.underlying83 Tryz.underlying9 hi0 hz0 hz1 hz2 _ _ _ rfl hown s rfl (by unfold maxLen; omega) (by omega) (by have := hb1.size; omega) ?_; intro v' w2 hown' hgrow hnil; have hb2 : w2.heap[b]? = some (.cells #[.pointer (some ⟨b, 0, none⟩), .slice av l.length cv] 87 (0, 0)) := (hgrow.block b hbl (fun e => HN.out e.symm)).trans HT.out; have d0 : w2.cell? ⟨b, 0, none⟩ = some (.pointer (some ⟨b, 0, none⟩)) := (Lib.cell_of_heap hb2 0).trans rfl; have d1 : w2.cell? ⟨b, 1, none⟩ = some (.slice av l.length cv) := (Lib.cell_of_heap hb2 1).trans rfl; have f1 : w2.frozen? ⟨b, 1, none⟩ = false := Lib.frozen_of_heap hb2 1; have HB2 : Hid _ := hb2; obtain ⟨a2, k2, rfl, hl2⟩ := own_form hown'; clear hb2)
    | fail)
  go_ret2
  refine ⟨rfl, ?_, ?_, ?_⟩
  · exact .inr (Lib.BuilderAt.put hB HB2.out (by rw [Lib.byteCells_append, List.length_append, Lib.byteCells_length, Lib.byteCells_length, len_toList]; exact hown') (by decide))
  · exact (hb1.grown hgrow (by have := hb1.size; omega) (fun k hk => (hown.lt k hk).1)).setCell (p := ⟨b, 1, none⟩) hB _
  · refine Spare.set (Spare.trans HSP.out ?_) 1 _
    intro k cs ty fr hk ht hn
    rw [hgrow.block k (Array.getElem?_eq_some_iff.1 hk).1 (fun e => ht (own_u8 hown e.symm hk))]
    exact hk
theorem cellsByte : Tryz.prog.cellsOf 5 = 1 := by kernel_rfl
set_option maxHeartbeats 1600000 in
set_option maxRecDepth 100000 in
theorem String_any {B b : Nat} {l : List UInt8} {w : World} (h : BldA B b l w) (h0 : l ≠ []) :
    Calls Tryz.prog 30 #[self b] w fun e w' => e = .returned (.string ⟨l.toArray⟩) ∧ Below B w w' := by
  obtain ⟨p, hB, v, hbk, hown, hne⟩ : ∃ p, Bld B b p l w := by
    rcases h with h | h
    · exact ⟨_, h⟩
    · exact ⟨_, h⟩
  have hl0 : l.length ≠ 0 := by simpa using h0
  rw [Lib.byteCells_length] at hown
  obtain ⟨g, cap, cur, rfl, hbg, hg, hnc, hcm, hcs, htake⟩ : ∃ g cap cur, v = .slice (some ⟨g, 0, none⟩) l.length cap ∧ B ≤ g ∧ w.heap[g]? = some (.cells cur 5 (0, 0)) ∧ l.length ≤ cap ∧ cap ≤ maxLen ∧ cur.size = cap * 1 ∧ cur.toList.take (l.length * 1) = Lib.byteCells l := by
    rcases hown.2 with ⟨_, hz⟩ | ⟨g, cap, cur, hv, r⟩
    · exact absurd hz hl0
    · exact ⟨g, cap, cur, hv, r⟩
  have c1 : w.drew.cell? ⟨b, 1, none⟩ = some (.slice (some ⟨g, 0, none⟩) l.length cap) := by
    have : w.drew.heap[b]? = some (.cells #[p, .slice (some ⟨g, 0, none⟩) l.length cap] 87 (0, 0)) := hbk
    rw [Lib.cell_of_heap this]; rfl
  have hSD : (Builtin.unsafeSliceData_ #[83] 114 #[.slice (some ⟨g, 0, none⟩) l.length cap]).run Tryz.prog w.drew = .ok (.pointer (some ⟨g, 0, none⟩)) w.drew :=
    Lib.run_unsafeSliceData_row _ _ _ _ _ _ (by omega)
  have hUS : (Builtin.unsafeString_ #[114, 3] 9 #[.pointer (some ⟨g, 0, none⟩), .int .i64 l.length]).run Tryz.prog w.drew = .ok (.string ⟨l.toArray⟩) (w.drew.freeze ⟨g, 0, none⟩ l.length) := by
    refine Lib.run_unsafeString_row w.drew 114 3 9 5 Tryz.underlying114 cellsByte g cur.size (by have hg' : w.drew.heap[g]? = some (.cells cur 5 (0, 0)) := hg; simp [World.shape?, hg']) l h0 (by omega) (by unfold maxLen at hcm; omega) ?_
    intro j x hx
    have := hown.cells (g := g) rfl j (.int .u8 x.toNat) (by simp [Lib.byteCells, hx])
    exact this
  have HG : Hid _ := hbg
  clear hbk hown hne hB hl0 hg hnc hcm hcs htake hbg h0 h
  have mixed : Tryz.prog.follows Departure.mixedOrders = true := by kernel_rfl
  unfold self
  go_enter Tryz.func30, Tryz.ntmps30
  go_wp2
  go_region_o
  all_goals (go_wp2; go_ret; exact ⟨rfl, Lib.below_freeze (Below.drew (Below.refl B w)) (p := ⟨g, 0, none⟩) HG.out _⟩)
end Go.Proofs.YtikjphfeeljhbaaGreatDoor
