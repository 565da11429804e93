import Derived.Test.YtekjoccbbamehaaRelNum
import Derived.Lib.AppendZerosOnto
import Derived.Deep.Upon
namespace Go.Proofs.Ytekjoccbbamehaa
open Go.RowKit Go.Maps
set_option linter.unusedVariables false
set_option linter.unusedSimpArgs false
attribute [local go_sem ↓] Go.wp_at_zero Go.wp_at_succ

theorem infoRowQ : (Try.prog.info? 34).map (fun i => (i.zero, i.size, i.bytes)) = some (some (rowV zeroL), 24, 96) := by kernel_rfl
attribute [-go_sem] loadVar Builtin.append_
set_option maxHeartbeats 1600000 in
set_option maxRecDepth 100000 in
theorem grow_nil (n : Nat) (hn : n ≤ 1000000000) (w : World) : Calls Try.prog 48 #[.slice none 0 0, .int .i64 (n : Int)] w fun e w' => ∃ sv, e = .returned sv ∧ w'.ownsRow w.heap.size 34 24 sv 0 [] ∧ Below w.heap.size w w' := by
  have h0 : ¬ (n : Int) < 0 := by omega
  by_cases hz : n = 0
  · subst hz
    go_enter Try.func48, Try.ntmps48
    go_wp2
    go_ret
    exact ⟨_, rfl, World.ownsRow_nil _ _ _ _, Below.refl _ _⟩
  · obtain ⟨i0, hi0, hz0, hz1, hz2⟩ := info_parts infoRowQ
    have hpos : (0 : Int) < (n : Int) := by omega
    have iw : IntKind.i64.wrap (n : Int) = (n : Int) := by rw [IntKind.wrap_i64]; omega
    have hap := Lib.run_append_nil_zeros (P := Try.prog) w 22 3 22 34 i0 (rowV zeroL) .i64 .i64 Try.underlying22 Try.underlying3 hi0 hz0 n (by omega) (by omega) (by omega) (by rw [hz2]; omega)
    have hge := grownCap_ge w n 0 34
    have hle := grownCap_le_maxLen w n 0 34 (by unfold maxLen; omega)
    have hzc : (rowV zeroL).cells.size = 24 := by decide
    have hcs : ∀ q, (Builtin.zeroCells (rowV zeroL).cells q).size = q * 24 := fun q => by rw [size_zeroCells, hzc]
    have HO : Hid ((w.drew.alloc (.cells (Builtin.zeroCells (rowV zeroL).cells n ++ Builtin.zeroCells (rowV zeroL).cells (grownCap w n 0 34 - n)) 34)).ownsRow w.heap.size 34 24 (.slice (some ⟨w.heap.size, 0, none⟩) 0 (grownCap w n 0 34)) 0 []) := by
      refine ⟨rfl, .inr ⟨_, _, _, rfl, Nat.le_refl _, heap_alloc_new w.drew _, Nat.zero_le _, hle, ?_, rfl⟩⟩
      rw [Array.size_append, hcs, hcs]
      rw [← Nat.add_mul]
      congr 1
      omega
    have HBW : Hid (Below w.heap.size w (w.drew.alloc (.cells (Builtin.zeroCells (rowV zeroL).cells n ++ Builtin.zeroCells (rowV zeroL).cells (grownCap w n 0 34 - n)) 34))) := (Below.refl _ _).drew.alloc (Nat.le_refl _) _
    generalize w.drew.alloc _ = W at hap HO HBW
    generalize grownCap w n 0 34 = cap at hap hge hle HO
    have h00 : (0 : Int) ≤ (cap : Int) := by omega
    clear hle hcs hzc
    go_enter Try.func48, Try.ntmps48
    go_wp2
    go_ret
    exact ⟨_, rfl, HO.out, HBW.out⟩
abbrev flatR (rows : List (List Int)) : List Value := rows.flatMap (fun r => r.map cellI)
theorem flatR_len : ∀ rows : List (List Int), (∀ r ∈ rows, r.length = 24) → (flatR rows).length = rows.length * 24
  | [], _ => rfl
  | r :: rows, h => by
    have ih := flatR_len rows (fun x hx => h x (by simp [hx]))
    have h1 := h r (by simp)
    simp only [flatR, List.flatMap_cons, List.length_append, List.length_map, List.length_cons] at ih ⊢
    omega
/-- a list of rows that lies somewhere -/
def LrC (w : World) (v : Value) (rows : List (List Int)) : Prop := (∀ r ∈ rows, r.length = 24) ∧ ∃ a c, v = .slice a rows.length c ∧ (0 < rows.length → ∃ g off, a = some ⟨g, off, none⟩ ∧ g < w.heap.size ∧ ∀ j u, (flatR rows)[j]? = some u → w.cell? ⟨g, off + j, none⟩ = some u)
theorem LrC.below {w w' : World} {v : Value} {rows : List (List Int)} (h : LrC w v rows) (hb : Below w.heap.size w w') : LrC w' v rows := by
  obtain ⟨h1, a, c, rfl, h2⟩ := h
  refine ⟨h1, a, c, rfl, fun hp => ?_⟩
  obtain ⟨g, off, rfl, hg, hc⟩ := h2 hp
  exact ⟨g, off, rfl, Nat.lt_of_lt_of_le hg hb.size, fun j u hu => (hb.cell (p := ⟨g, off + j, none⟩) hg).trans (hc j u hu)⟩
theorem LrC.form {w : World} {v : Value} {rows : List (List Int)} (h : LrC w v rows) : ∃ a c, v = .slice a rows.length c := by
  obtain ⟨h1, a, c, rfl, h2⟩ := h
  exact ⟨a, c, rfl⟩
theorem flatR_one (rows : List (List Int)) : ∀ u ∈ flatR rows, u.oneCell' = true := by
  intro u hu
  obtain ⟨r, _, hr⟩ := List.mem_flatMap.1 hu
  obtain ⟨x, _, rfl⟩ := List.mem_map.1 hr
  rfl
/-- append(o, x...) of rows -/
theorem app_rows {w0 w : World} {B : Nat} {o : Value} {rows1 rows2 : List (List Int)} {n : Nat} (hn : n = rows1.length) (hown : w.ownsRow B 34 24 o n (flatR rows1)) (hB : Below B w0 w) (hw : B ≤ w.heap.size) {a : Option Addr} {c : Nat} (hx : LrC w (.slice a rows2.length c) rows2) (hl : n + rows2.length ≤ 1000000000) (ty : TypeId) :
    ∃ o' w', (Builtin.append_ #[22, 22] ty #[o, .slice a rows2.length c]).run Try.prog w = .ok o' w' ∧ w'.ownsRow B 34 24 o' (n + rows2.length) (flatR (rows1 ++ rows2)) ∧ Below B w0 w' ∧ B ≤ w'.heap.size := by
  obtain ⟨i0, hi0, hz0, hz1, hz2⟩ := info_parts infoRowQ
  by_cases h0 : rows2.length = 0
  · have hu : rows2 = [] := List.eq_nil_of_length_eq_zero h0
    subst hu
    obtain ⟨a1, c1, rfl, _⟩ := own_form hown
    have hsc : n ≤ c1 := by
      obtain ⟨_, ⟨e, hz⟩ | ⟨g, cap, cur, e, _, _, hnc, _⟩⟩ := hown
      · cases e; omega
      · cases e; exact hnc
    refine ⟨.slice a1 n c1, w, ?_, by simpa using hown, hB, hw⟩
    exact run_append_nothing w _ _ ty _ i0 Try.underlying22 hi0 a1 n c1 hsc _ ⟨.inl ⟨_, Try.underlying22⟩, by intro w'; cases a <;> simp [Builtin.lenOf], by cases a <;> simp [Builtin.firstCells, loadCells, loadCellsFrom], by cases a <;> simp [Builtin.firstCells, loadCells, loadCellsFrom], by simp, by simp⟩
  · obtain ⟨h24, a', c', e, hc⟩ := hx
    cases e
    obtain ⟨g, off, rfl, hg, hcell⟩ := hc (by omega)
    obtain ⟨o', w', h1, h2, h3, _, _⟩ := run_append_own_at (P := Try.prog) w B 22 ty 34 i0 _ 24 96 Try.underlying22 hi0 hz0 hz1 hz2 rfl (by decide) o n (flatR rows1) hown ⟨g, off, none⟩ rows2.length c (flatR rows2) (flatR_len rows2 h24) (fun j u hu => by
      rw [show (⟨g, off, none⟩ : Addr).add j = ⟨g, off + j, none⟩ from by simp [Addr.add]]
      exact hcell j u hu) (flatR_one rows2) (by unfold maxLen; omega) (by omega) hw
    refine ⟨o', w', h1, by simpa [flatR] using h2, hB.grown h3 hw (fun j hj => (hown.lt j hj).1), Nat.le_trans hw h3.size⟩
set_option maxHeartbeats 1600000 in
set_option maxRecDepth 100000 in
/-- slices.Concat of two lists -/
theorem concat2 {w : World} {q cq : Nat} {a1 a2 : Option Addr} {c1 c2 : Nat} {rows1 rows2 : List (List Int)} (h1 : w.cell? ⟨q, 0, none⟩ = some (.slice a1 rows1.length c1)) (h2 : w.cell? ⟨q, 1, none⟩ = some (.slice a2 rows2.length c2)) (hq : q < w.heap.size)
    (x1 : LrC w (.slice a1 rows1.length c1) rows1) (x2 : LrC w (.slice a2 rows2.length c2) rows2) (hl : rows1.length + rows2.length ≤ 1000000000) :
    Calls Try.prog 37 #[.slice (some ⟨q, 0, none⟩) 2 cq] w fun e w' => ∃ sv, e = .returned sv ∧ w'.ownsRow w.heap.size 34 24 sv (rows1.length + rows2.length) (flatR (rows1 ++ rows2)) ∧ Below w.heap.size w w' := by
  have l1 := run_loadRows h1
  have l2 := run_loadRows h2
  have HC : Hid (∀ u, Below w.heap.size w u → u.cell? ⟨q, 0, none⟩ = some (.slice a1 rows1.length c1) ∧ u.cell? ⟨q, 1, none⟩ = some (.slice a2 rows2.length c2)) := fun u hu => ⟨(hu.cell (p := ⟨q, 0, none⟩) hq).trans h1, (hu.cell (p := ⟨q, 1, none⟩) hq).trans h2⟩
  have HX := Lib.hid (And.intro x1 x2)
  have i1 : IntKind.i64.wrap (0 + (rows1.length : Int)) = (rows1.length : Int) := by rw [IntKind.wrap_i64]; omega
  have i2 : IntKind.i64.wrap ((rows1.length : Int) + (rows2.length : Int)) = (rows1.length : Int) + (rows2.length : Int) := by rw [IntKind.wrap_i64]; omega
  have n1 : ¬ (rows1.length : Int) < 0 := by omega
  have n2 : ¬ (rows1.length : Int) + (rows2.length : Int) < 0 := by omega
  have HG := Lib.hid (grow_nil (rows1.length + rows2.length) hl w)
  have ec : ((rows1.length + rows2.length : Nat) : Int) = (rows1.length : Int) + (rows2.length : Int) := by omega
  rw [ec] at HG
  clear h1 h2 x1 x2 ec
  go_enter Try.func37, Try.ntmps37
  go_wp2
  go_loopw [3, 11] (fun sz i wr => wr = w ∧ ((sz = .int .i64 0 ∧ i = .int .i64 0) ∨ (sz = .int .i64 (rows1.length : Int) ∧ i = .int .i64 1) ∨ (sz = .int .i64 ((rows1.length : Int) + (rows2.length : Int)) ∧ i = .int .i64 2))) (fun _ i _ => 2 - (intOf i).toNat)
  case atStart => exact ⟨rfl, .inl ⟨rfl, rfl⟩⟩
  case round =>
    obtain ⟨hwr, ⟨rfl, rfl⟩ | ⟨rfl, rfl⟩ | ⟨rfl, rfl⟩⟩ := hrel
    · subst hwr
      go_wp2
      go_roundw
      case rel => exact ⟨by first | rfl | trivial, .inr (.inl ⟨by first | rfl | simp_all, by go_num⟩)⟩
      case measure => simp [intOf]
    · subst hwr
      go_wp2
      go_roundw
      case rel => exact ⟨by first | rfl | trivial, .inr (.inr ⟨by first | rfl | simp_all, by go_num⟩)⟩
      case measure => simp [intOf]
    · have hw := hwr.symm
      clear hwr
      subst hw
      clear l1 l2 i1 i2 n1 n2
      go_wp2_with fail
      refine HG.out.mono ?_
      rintro e w1 ⟨sv, rfl, hown, b1⟩
      have HO := Lib.hid hown
      have HB := Lib.hid b1
      clear HG hown b1
      go_wp2
      go_loopw [6, 27] (fun o i wx => ∃ k : Nat, k ≤ 2 ∧ i = .int .i64 k ∧ Hid (Below w.heap.size w wx ∧ wx.ownsRow w.heap.size 34 24 o (if k = 0 then 0 else if k = 1 then rows1.length else rows1.length + rows2.length) (flatR (if k = 0 then [] else if k = 1 then rows1 else rows1 ++ rows2)))) (fun _ i _ => 2 - (intOf i).toNat)
      case atStart => exact ⟨0, by omega, rfl, HB.out, HO.out⟩
      case round =>
        obtain ⟨k, hk, rfl, HI⟩ := hrel
        clear HO HB
        obtain rfl | rfl | rfl : k = 0 ∨ k = 1 ∨ k = 2 := by omega
        · have l1 := run_loadRows (HC.out _ HI.out.1).1
          obtain ⟨o', w', h1, h2, h3, _⟩ := app_rows (rows1 := []) (n := 0) rfl HI.out.2 HI.out.1 HI.out.1.size (HX.out.1.below HI.out.1) (by omega) 22
          have HN : Hid (Below w.heap.size w w' ∧ w'.ownsRow w.heap.size 34 24 o' rows1.length (flatR rows1)) := ⟨h3, by simpa using h2⟩
          clear h2 h3 HI
          go_wp2
          go_roundw
          case rel => exact ⟨1, by omega, by go_num, HN⟩
          case measure => simp [intOf]
        · have l1 := run_loadRows (HC.out _ HI.out.1).2
          obtain ⟨o', w', h1, h2, h3, _⟩ := app_rows (rows1 := rows1) (n := rows1.length) rfl HI.out.2 HI.out.1 HI.out.1.size (HX.out.2.below HI.out.1) (by omega) 22
          have HN : Hid (Below w.heap.size w w' ∧ w'.ownsRow w.heap.size 34 24 o' (rows1.length + rows2.length) (flatR (rows1 ++ rows2))) := ⟨h3, h2⟩
          clear h2 h3 HI
          go_wp2
          go_roundw
          case rel => exact ⟨2, by omega, by go_num, HN⟩
          case measure => simp [intOf]
        · have HF := Lib.hid HI.out
          obtain ⟨_, _, rfl, _⟩ := own_form HI.out.2
          clear HI HC HX
          go_wp2
          go_ret
          exact ⟨_, rfl, HF.out.2, HF.out.1⟩
end Go.Proofs.Ytekjoccbbamehaa
