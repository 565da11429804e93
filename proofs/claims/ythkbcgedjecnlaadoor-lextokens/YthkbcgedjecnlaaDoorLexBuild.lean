import Derived.Test.YthkbcgedjecnlaaDoorLexToks
import Derived.Lib.Builder
import Derived.Lib.AppendStr
namespace Go.Proofs.YthkbcgedjecnlaaDoor
open Go.RowKit Go.Maps
set_option linter.unusedVariables false
set_option linter.unusedSimpArgs false
attribute [local go_sem ↓] Go.wp_at_zero Go.wp_at_succ

abbrev Bld (B b : Nat) (p : Value) (l : List UInt8) (w : World) : Prop := Lib.BuilderAt 56 5 B b p (Lib.byteCells l) w
abbrev self (b : Nat) : Value := .pointer (some ⟨b, 0, none⟩)
theorem infoBld : (Tryd.prog.info? 56).map (·.size) = some 2 := by kernel_rfl
theorem liesBld : liesAt Tryd.prog Tryd.prog.depth 56 (2 / Tryd.prog.cellsOf 56) 0 56 1 = true := by kernel_rfl

set_option maxHeartbeats 1600000 in
set_option maxRecDepth 100000 in
theorem copyCheck_used (b : Nat) (w : World) (h0 : w.cell? ⟨b, 0, none⟩ = some (self b)) :
    Calls Tryd.prog 47 #[self b] w fun e w' => e = .returned (.tuple #[]) ∧ w' = w := by
  obtain ⟨j, hj, hjs⟩ := Option.map_eq_some_iff.1 infoBld
  have hne := Lib.run_neq_ptr_same (P := Tryd.prog) w ⟨b, 0, none⟩ Tryd.underlying53 hj
  unfold self at *
  go_enter Tryd.func47, Tryd.ntmps47
  go_wp2
  go_end0
  exact ⟨rfl, rfl⟩
set_option maxHeartbeats 1600000 in
set_option maxRecDepth 100000 in
theorem copyCheck_fresh (b : Nat) (w : World) (h0 : w.cell? ⟨b, 0, none⟩ = some (.pointer none)) (hsh : w.shape? b = some (56, 2)) (hfz : w.frozen? ⟨b, 0, none⟩ = false) :
    Calls Tryd.prog 47 #[self b] w fun e w' => e = .returned (.tuple #[]) ∧ w' = w.setCell ⟨b, 0, none⟩ (self b) := by
  obtain ⟨j, hj, hjs⟩ := Option.map_eq_some_iff.1 infoBld
  have hto := Lib.run_to_unsafe (P := Tryd.prog) w ⟨b, 0, none⟩ Tryd.underlying53 Tryd.underlying85 hj (by rw [hjs]; decide) hsh (Nat.zero_lt_succ 1)
  have hfr := Lib.run_from_unsafe (P := Tryd.prog) w ⟨b, 0, none⟩ Tryd.underlying85 Tryd.underlying53 hj hsh liesBld
  have hno := Lib.run_noEscape (P := Tryd.prog) (w := w) (self b)
  have hne := Lib.run_neq_ptr_same (P := Tryd.prog) (w.setCell ⟨b, 0, none⟩ (self b)) ⟨b, 0, none⟩ Tryd.underlying53 hj
  unfold self at *
  go_enter Tryd.func47, Tryd.ntmps47
  go_wp2
  rw [run_callFunc_extern Tryd.func58 (by kernel_rfl) (by kernel_rfl) (by kernel_rfl) (e := Extern.AbiNoEscape.same) (by kernel_rfl), Lib.run_noEscape]
  simp only [Result.andThen]
  rw [Oper.upon_value]
  go_wp2
  go_end0
  exact ⟨rfl, rfl⟩
theorem copyCheck_any {B b : Nat} {l : List UInt8} {w : World} (h : Bld B b (.pointer none) l w ∨ Bld B b (self b) l w) :
    Calls Tryd.prog 47 #[self b] w fun e w' => e = .returned (.tuple #[]) ∧ Bld B b (self b) l w' ∧ Below B w w' := by
  rcases h with h | h
  · refine (copyCheck_fresh b w h.cell0 h.shape h.frozen0).mono fun e w' => ?_
    rintro ⟨rfl, rfl⟩
    exact ⟨rfl, h.used _, (Below.refl _ _).setCell (p := ⟨b, 0, none⟩) h.1 _⟩
  · refine (copyCheck_used b w h.cell0).mono fun e w' => ?_
    rintro ⟨rfl, rfl⟩
    exact ⟨rfl, h, Below.refl _ _⟩

set_option maxHeartbeats 1600000 in
set_option maxRecDepth 100000 in
theorem WriteByte_any {B b : Nat} {l : List UInt8} {w : World} (c : UInt8) (h : Bld B b (.pointer none) l w ∨ Bld B b (self b) l w) (hl : l.length ≤ 1048576) (hBw : B ≤ w.heap.size) :
    Calls Tryd.prog 31 #[self b, .int .u8 (c.toNat : Int)] w fun e w' => e = .returned .nilIface ∧ Bld B b (self b) (l ++ [c]) w' ∧ Below B w w' := by
  obtain ⟨i0, hi0, hz0, hz1, hz2⟩ := info_parts infoByte
  have hll := Lib.byteCells_length l
  go_enter Tryd.func31, Tryd.ntmps31
  go_wp2_with fail
  refine (copyCheck_any h).mono ?_
  rintro e w1 ⟨rfl, ⟨hB, v, hbk, hown, hne⟩, hb1⟩
  rw [hll] at hown
  clear hll
  have c0 : w1.cell? ⟨b, 0, none⟩ = some (self b) := by rw [Lib.cell_of_heap hbk]; rfl
  have c1 : w1.cell? ⟨b, 1, none⟩ = some v := by rw [Lib.cell_of_heap hbk]; rfl
  have HT : Hid _ := hbk
  have HN : Hid _ := hne
  obtain ⟨av, cv, rfl, hlv, _⟩ := ownsRow_form hown
  have hbl : b < w1.heap.size := World.block_lt_of_cell? _ _ c0
  clear hbk hne
  unfold self at *
  go_wp2_with (first
    | (at_builtin; refine wpList_append_own_at _ rfl _ _ 54 rfl B 5 i0 _ 1 1 Tryd.underlying54 hi0 hz0 hz1 hz2 rfl (by decide) _ _ _ rfl (own_below hown ((Below.refl _ _).alloc (Nat.le_refl _) _)) ⟨w1.heap.size, 0, none⟩ 1 1 [.int .u8 (c.toNat : Int)] rfl rfl (one_byte w1 _) (by simp [Value.oneCell']) (by unfold maxLen; omega) (by omega) (by have := hb1.size; simp; omega) ?_; intro v' w2 hown' hgrow hnil hloc; have hb2 : w2.heap[b]? = some (.cells #[.pointer (some ⟨b, 0, none⟩), .slice av l.length cv] 56 (0, 0)) := (hgrow.block b (by simp; omega) (fun e => HN.out e.symm)).trans ((Lib.alloc_old w1 _ b hbl).trans HT.out); have d0 : w2.cell? ⟨b, 0, none⟩ = some (.pointer (some ⟨b, 0, none⟩)) := (Lib.cell_of_heap hb2 0).trans rfl; have d1 : w2.cell? ⟨b, 1, none⟩ = some (.slice av l.length cv) := (Lib.cell_of_heap hb2 1).trans rfl; have f1 : w2.frozen? ⟨b, 1, none⟩ = false := Lib.frozen_of_heap hb2 1; have HB2 : Hid _ := hb2; obtain ⟨a2, k2, rfl, hl2, _⟩ := ownsRow_form hown'; clear hb2)
    | fail)
  go_ret
  refine ⟨rfl, ?_, ?_⟩
  · exact Lib.BuilderAt.put hB HB2.out (by rw [Lib.byteCells_append, List.length_append, Lib.byteCells_length]; exact hown') (by decide)
  · exact ((hb1.alloc (by have := hb1.size; omega) _).grown hgrow (by have := hb1.size; simp; omega) (fun k hk => (hown.lt k hk).1)).setCell (p := ⟨b, 1, none⟩) hB _

set_option maxHeartbeats 1600000 in
set_option maxRecDepth 100000 in
theorem WriteString_any {B b : Nat} {l : List UInt8} {w : World} (s : ByteArray) (h : Bld B b (.pointer none) l w ∨ Bld B b (self b) l w) (hl : l.length ≤ 1048576) (hs : s.size ≤ 1048576) (hBw : B ≤ w.heap.size) :
    Calls Tryd.prog 32 #[self b, .string s] w fun e w' => e = .returned (.tuple #[.int .i64 s.size, .nilIface]) ∧ Bld B b (self b) (l ++ s.data.toList) w' ∧ Below B w w' := by
  obtain ⟨i0, hi0, hz0, hz1, hz2⟩ := info_parts infoByte
  have hll := Lib.byteCells_length l
  go_enter Tryd.func32, Tryd.ntmps32
  go_wp2_with fail
  refine (copyCheck_any h).mono ?_
  rintro e w1 ⟨rfl, ⟨hB, v, hbk, hown, hne⟩, hb1⟩
  rw [hll] at hown
  clear hll
  have c0 : w1.cell? ⟨b, 0, none⟩ = some (self b) := by rw [Lib.cell_of_heap hbk]; rfl
  have c1 : w1.cell? ⟨b, 1, none⟩ = some v := by rw [Lib.cell_of_heap hbk]; rfl
  have HT : Hid _ := hbk
  have HN : Hid _ := hne
  obtain ⟨av, cv, rfl, hlv, _⟩ := ownsRow_form hown
  have hbl : b < w1.heap.size := World.block_lt_of_cell? _ _ c0
  clear hbk hne
  unfold self at *
  go_wp2_with (first
    | (at_builtin; refine Lib.wpList_append_own_string _ rfl _ _ 54 9 rfl B 5 i0 Tryd.underlying54 Tryd.underlying9 hi0 hz0 hz1 hz2 _ _ _ rfl hown s rfl (by unfold maxLen; omega) (by omega) (by have := hb1.size; omega) ?_; intro v' w2 hown' hgrow hnil; have hb2 : w2.heap[b]? = some (.cells #[.pointer (some ⟨b, 0, none⟩), .slice av l.length cv] 56 (0, 0)) := (hgrow.block b hbl (fun e => HN.out e.symm)).trans HT.out; have d0 : w2.cell? ⟨b, 0, none⟩ = some (.pointer (some ⟨b, 0, none⟩)) := (Lib.cell_of_heap hb2 0).trans rfl; have d1 : w2.cell? ⟨b, 1, none⟩ = some (.slice av l.length cv) := (Lib.cell_of_heap hb2 1).trans rfl; have f1 : w2.frozen? ⟨b, 1, none⟩ = false := Lib.frozen_of_heap hb2 1; have HB2 : Hid _ := hb2; obtain ⟨a2, k2, rfl, hl2, _⟩ := ownsRow_form hown'; clear hb2)
    | fail)
  go_ret2
  refine ⟨rfl, ?_, ?_⟩
  · exact Lib.BuilderAt.put hB HB2.out (by rw [Lib.byteCells_append, List.length_append, Lib.byteCells_length, Lib.byteCells_length, len_toList]; exact hown') (by decide)
  · exact (hb1.grown hgrow (by have := hb1.size; omega) (fun k hk => (hown.lt k hk).1)).setCell (p := ⟨b, 1, none⟩) hB _
end Go.Proofs.YthkbcgedjecnlaaDoor
