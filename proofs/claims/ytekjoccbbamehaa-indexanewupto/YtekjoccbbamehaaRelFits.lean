import Derived.Test.YtekjoccbbamehaaRelMap
import Derived.WalkSpells
import Derived.WalkLawsBesides
import Derived.Below
import Derived.OwnWalk
import Derived.Deep.RegionHeld3
import Derived.Deep.DrawnRows
import Derived.Deep.Light
import Derived.Deep.DeepCutAuto
import Derived.BigQuiet
import Derived.Deep.QuietTactic
import Derived.Deep.WholeRow
namespace Go.Proofs.Ytekjoccbbamehaa
open Go.RowKit Go.Maps
set_option linter.unusedVariables false
set_option linter.unusedSimpArgs false
attribute [local go_sem ↓] Go.wp_at_zero Go.wp_at_succ

theorem infoRow : (Try.prog.info? 34).map (·.size) = some 24 := by kernel_rfl
abbrev rowC (r : List Int) : Array Value := (r.map cellI).toArray
theorem rowC_size {r : List Int} (h : r.length = 24) : (rowC r).size = 24 := by simp [rowC, h]
/-- block b holds this row -/
def RowAt (w : World) (b : Nat) (r : List Int) : Prop := w.heap[b]? = some (.cells (rowC r) 34 (0, 0))
theorem RowAt.lt {w : World} {b : Nat} {r : List Int} (h : RowAt w b r) : b < w.heap.size := (Array.getElem?_eq_some_iff.1 h).1
theorem RowAt.below {w w' : World} {b : Nat} {r : List Int} (h : RowAt w b r) (hb : Below w.heap.size w w') : RowAt w' b r := (hb.block b h.lt).trans h
theorem rowAt_new (w : World) (r : List Int) : RowAt (w.alloc (.cells (rowC r) 34)) w.heap.size r := heap_alloc_new w _
theorem run_loadRow {w : World} {b : Nat} {r : List Int} (h : RowAt w b r) (hl : r.length = 24) : (loadVar 34 ⟨b, 0, none⟩).run Try.prog w = .ok (rowV r) w :=
  run_loadVar_row _ _ 34 34 (rowC r) (0, 0) _ h Try.underlying34 rfl (by rw [rowC_size hl]; exact infoRow)
/-- may a row be one of this many columns? -/
def fitAt (r : List Int) (n : Int) (i : Nat) : Bool := decide (0 ≤ r.getD i 0) && (decide ((i : Int) < n) || decide (r.getD i 0 = 0))
def fitB (r : List Int) (n : Int) : Bool := (List.range 24).all (fitAt r n)
theorem run_indexRow {r : List Int} (hl : r.length = 24) {k : Nat} (hk : k < 24) (w : World) : (Instr.index 34 (.agg (List.map cellI r).toArray) (.int .i64 (k : Int))).run Try.prog w = .ok (.int .i32 (r.getD k 0)) w := by
  have h1 : (k : Int) < 24 := by omega
  have h0 : (0 : Int) ≤ (k : Int) := by omega
  have h2 : k < r.length := by omega
  have hg : (List.map cellI r)[k]? = some (.int .i32 (r.getD k 0)) := by simp [cellI, List.getD, List.getElem?_eq_getElem h2]
  unfold Instr.index
  simp [run_underlying Try.underlying34, h0, h1, go_sem, hk, List.getElem?_eq_getElem h2, cellI]
attribute [-go_sem] loadVar
set_option maxHeartbeats 1600000 in
set_option maxRecDepth 100000 in
theorem fits_any (r : List Int) (hl : r.length = 24) (n : Int) (w : World) : Calls Try.prog 29 #[rowV r, .int .i64 n] w fun e w' => e = .returned (.bool (fitB r n)) ∧ Below w.heap.size w w' := by
  have HB := Lib.hid ((Below.refl w.heap.size w).alloc (Nat.le_refl _) (.cells (rowC r) 34))
  have HL := run_loadRow (rowAt_new w r) hl
  have HW : Hid (∀ i, i < 24 → (rowC r)[i]? = some (.int .i32 (r.getD i 0))) := fun i hi => by
    have h2 : i < r.length := by omega
    simp [rowC, cellI, List.getD, List.getElem?_eq_getElem h2]
  have hsz : (List.map cellI r).length = 24 := by simp [hl]
  unfold rowV at *
  go_enter Try.func29, Try.ntmps29
  go_upto_region 1 with fail
  generalize w.alloc (.cells (rowC r) 34) = W at HB HL ⊢
  go_wp2
  clear HL
  go_loopw [8] (fun i wr => ∃ k : Nat, k ≤ 24 ∧ i = .int .i64 k ∧ wr = W ∧ Hid ((List.range k).all (fitAt r n) = true)) (fun i _ => 24 - (intOf i).toNat)
  case atStart => exact ⟨0, by omega, rfl, rfl, rfl⟩
  case round =>
    obtain ⟨k, hk, rfl, hwr, HA⟩ := hrel
    by_cases hlt : k < 24
    · have hlt' : (k : Int) < 24 := by omega
      have hk0 : (0 : Int) ≤ (k : Int) := by omega
      have hg := run_indexRow hl hlt
      have HN : Hid ((List.range (k + 1)).all (fitAt r n) = (decide (0 ≤ r.getD k 0) && (decide ((k : Int) < n) || decide (r.getD k 0 = 0)))) := by
        show _ = _
        rw [List.range_succ, List.all_append, HA.out, Bool.true_and]
        show (fitAt r n k && true) = _
        rw [Bool.and_true]
        rfl
      have HX : Hid ((decide (0 ≤ r.getD k 0) && (decide ((k : Int) < n) || decide (r.getD k 0 = 0))) = false → fitB r n = false) := fun h => by
        unfold fitB
        rw [List.all_eq_false]
        exact ⟨k, List.mem_range.2 hlt, by rw [show fitAt r n k = false from h]; simp⟩
      generalize r.getD k 0 = x at hg HN HX
      by_cases hx : x < 0
      · have HF : Hid (fitB r n = false) := HX.out (by simp; intro h; omega)
        clear HN HX
        go_wp2
        go_ret
        exact ⟨by rw [HF.out]; rfl, HB.out⟩
      · by_cases hkn : n ≤ (k : Int)
        · by_cases hx0 : x = 0
          · have hb : (x != 0) = false := by rw [hx0]; rfl
            have HK : Hid ((List.range (k + 1)).all (fitAt r n) = true) := by show _ = _; rw [HN.out]; simp [hx0]
            clear HN HX
            go_wp2
            go_roundw
            case rel => exact ⟨k + 1, by omega, by go_num, by first | rfl | trivial, HK⟩
            case measure => simp [intOf]; omega
          · have hb : (x != 0) = true := by simpa using hx0
            have HF : Hid (fitB r n = false) := HX.out (by simp; intro _; exact ⟨hkn, hx0⟩)
            clear HN HX
            go_wp2
            go_ret
            exact ⟨by rw [HF.out]; rfl, HB.out⟩
        · have HK : Hid ((List.range (k + 1)).all (fitAt r n) = true) := by show _ = _; rw [HN.out]; simp; omega
          clear HN HX
          go_wp2
          go_roundw
          case rel => exact ⟨k + 1, by omega, by go_num, by first | rfl | trivial, HK⟩
          case measure => simp [intOf]; omega
    · obtain rfl : k = 24 := by omega
      have HF : Hid (fitB r n = true) := HA.out
      go_wp2
      go_ret
      exact ⟨by rw [HF.out]; rfl, HB.out⟩
end Go.Proofs.Ytekjoccbbamehaa
