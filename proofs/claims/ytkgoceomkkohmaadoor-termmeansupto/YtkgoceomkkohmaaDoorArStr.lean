import Derived.Test.YtkgoceomkkohmaaDoorArGen
import Derived.Laws.OwnMore
import Derived.Laws.BytesString
import Derived.Laws.Cells
import Derived.Lib.UnsafeStr
namespace Go.Proofs.YtkgoceomkkohmaaDoor.AR
open Go.RowKit Go.Maps
set_option linter.unusedVariables false
set_option linter.unusedSimpArgs false

theorem len_toList (s : ByteArray) : s.data.toList.length = s.size := by rw [Array.length_toList]; rfl
theorem fold_bytes : ∀ (l : List UInt8) (s : ByteArray), (l.map (fun b => (b.toNat : Int))).foldl (fun r n => r.push (UInt8.ofNat n.toNat)) s = ⟨s.data ++ l.toArray⟩
  | [], s => by cases s; simp
  | c :: r, s => by
    simp only [List.map_cons, List.foldl_cons]
    rw [fold_bytes r]
    cases s with
    | mk d => simp [ByteArray.push]
theorem bytes_string {w : World} {base : Nat} {sv : Value} {n : Nat} {out : List UInt8} (h : w.ownsRow base 5 1 sv n (Lib.byteCells out)) : (convert 90 9 sv).run Tryd.prog w = .ok (.string ⟨out.toArray⟩) w := by
  obtain ⟨hl, ⟨rfl, rfl⟩ | ⟨g, cap, cur, rfl, _, hb, hn, hc, hs, ht⟩⟩ := h
  · have : out = [] := List.length_eq_zero_iff.mp (by rw [Lib.byteCells_length] at hl; omega)
    subst this
    rw [run_convert_bytes_string w _ _ _ _ _ _ Tryd.underlying90 Tryd.underlying5 Tryd.underlying9]
    simp [Conv.bytesToString]
    rfl
  · rw [run_convert_bytes_string w _ _ _ _ _ _ Tryd.underlying90 Tryd.underlying5 Tryd.underlying9]
    have hlen : out.length = n := by rw [Lib.byteCells_length] at hl; omega
    have hload : (loadCells ⟨g, 0, none⟩ n).run Tryd.prog w = .ok ((out.map (fun b => (b.toNat : Int))).map (Value.int .u8)).toArray w := by
      have := run_loadCells_list (P := Tryd.prog) (w := w) ⟨g, 0, none⟩ ((out.map (fun b => (b.toNat : Int))).map (Value.int .u8)) (fun j v hj => by
        have e : (⟨g, 0, none⟩ : Addr).add j = ⟨g, j, none⟩ := by rw [WideShapes.add_plain]; simp
        rw [e]
        unfold World.cell?
        simp only [hb]
        have hj' : (Lib.byteCells out)[j]? = some v := by unfold Lib.byteCells; rw [List.map_map] at hj; exact hj
        rw [← ht] at hj'
        have := List.getElem?_take (l := cur.toList) (i := n * 1) (j := j)
        rw [this] at hj'
        split at hj'
        · simpa using hj'
        · cases hj')
      simpa [hlen] using this
    rw [run_bytesToString w _ _ _ _ hload, fold_bytes]
    simp [ByteArray.empty, ByteArray.emptyWithCapacity]
    try rfl
end Go.Proofs.YtkgoceomkkohmaaDoor.AR
