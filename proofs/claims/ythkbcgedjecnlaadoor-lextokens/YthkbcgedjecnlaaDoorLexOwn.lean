import Derived.Test.YthkbcgedjecnlaaDoorLexQuote
import Derived.Maps.AppendAt
import Derived.Lib.UnsafeStr
import Derived.OwnWalk
import Derived.Laws.BytesString
import Derived.Laws.Cells
namespace Go.Proofs.YthkbcgedjecnlaaDoor
open Go.RowKit Go.Maps
set_option linter.unusedVariables false
set_option linter.unusedSimpArgs false
attribute [local go_sem ↓] Go.wp_at_zero Go.wp_at_succ

theorem ownsRow_form {w : World} {base : Nat} {e : TypeId} {k : Nat} {sv : Value} {n : Nat} {xs : List Value} (h : w.ownsRow base e k sv n xs) : ∃ a c, sv = .slice a n c ∧ n ≤ maxLen ∧ (0 < n → ∃ g, a = some ⟨g, 0, none⟩ ∧ ∀ i, (hi : i < xs.length) → w.cell? ⟨g, i, none⟩ = some xs[i]) := by
  obtain ⟨hl, ⟨rfl, rfl⟩ | ⟨g, cap, cur, rfl, _, hb, hn, hc, hs, ht⟩⟩ := h
  · exact ⟨none, 0, rfl, Nat.zero_le _, fun h => absurd h (by omega)⟩
  · refine ⟨_, cap, rfl, Nat.le_trans hn hc, fun _ => ⟨g, rfl, fun i hi => ?_⟩⟩
    have h2 : i < n * k := by rw [← hl]; exact hi
    have h3 : cur[i]? = some xs[i] := by
      obtain ⟨u, h1⟩ : ∃ u, xs[i]? = some u := ⟨_, List.getElem?_eq_getElem hi⟩
      have h4 : xs[i] = u := Option.some.inj ((List.getElem?_eq_getElem hi).symm.trans h1)
      rw [h4]
      rw [← ht, List.getElem?_take, if_pos h2] at h1
      simpa using h1
    unfold World.cell?
    simp only [hb]
    exact h3
theorem ownsRow_of_block {w w' : World} {base : Nat} {e : TypeId} {k : Nat} {sv : Value} {n : Nat} {xs : List Value} (h : w.ownsRow base e k sv n xs) (hg : ∀ g, sv.ownBlock = some g → w'.heap[g]? = w.heap[g]?) : w'.ownsRow base e k sv n xs := by
  obtain ⟨hl, h1 | ⟨g, cap, cur, rfl, h0, hb, r⟩⟩ := h
  · exact ⟨hl, .inl h1⟩
  · exact ⟨hl, .inr ⟨g, cap, cur, rfl, h0, (hg g rfl).trans hb, r⟩⟩
theorem own_below {w w' : World} {base : Nat} {e : TypeId} {k : Nat} {sv : Value} {n : Nat} {xs : List Value} (h : w.ownsRow base e k sv n xs) (hb : Below w.heap.size w w') : w'.ownsRow base e k sv n xs :=
  ownsRow_of_block h (fun g hg => hb.block g (h.lt g hg).2)

theorem fold_bytes : ∀ (l : List UInt8) (s : ByteArray), (l.map (fun b => (b.toNat : Int))).foldl (fun r n => r.push (UInt8.ofNat n.toNat)) s = ⟨s.data ++ l.toArray⟩
  | [], s => by cases s; simp
  | c :: r, s => by
    simp only [List.map_cons, List.foldl_cons]
    rw [fold_bytes r]
    cases s with
    | mk d => simp [ByteArray.push]
theorem bytes_string {w : World} {base : Nat} {sv : Value} {n : Nat} {out : List UInt8} (h : w.ownsRow base 5 1 sv n (Lib.byteCells out)) : (convert 54 9 sv).run Tryd.prog w = .ok (.string ⟨out.toArray⟩) w := by
  obtain ⟨hl, ⟨rfl, rfl⟩ | ⟨g, cap, cur, rfl, _, hb, hn, hc, hs, ht⟩⟩ := h
  · have : out = [] := List.length_eq_zero_iff.mp (by rw [Lib.byteCells_length] at hl; omega)
    subst this
    rw [run_convert_bytes_string w _ _ _ _ _ _ Tryd.underlying54 Tryd.underlying5 Tryd.underlying9]
    simp [Conv.bytesToString]
    rfl
  · rw [run_convert_bytes_string w _ _ _ _ _ _ Tryd.underlying54 Tryd.underlying5 Tryd.underlying9]
    have hlen : out.length = n := by rw [Lib.byteCells_length] at hl; omega
    have hload : (loadCells ⟨g, 0, none⟩ n).run Tryd.prog w = .ok ((out.map (fun b => (b.toNat : Int))).map (Value.int .u8)).toArray w := by
      have := run_loadCells_list (P := Tryd.prog) (w := w) ⟨g, 0, none⟩ ((out.map (fun b => (b.toNat : Int))).map (Value.int .u8)) (fun j v hj => by
        have e : (⟨g, 0, none⟩ : Addr).add j = ⟨g, j, none⟩ := by rw [WideShapes.add_plain]; simp
        rw [e]
        unfold World.cell?
        simp only [hb]
        have hj' : (Lib.byteCells out)[j]? = some v := by unfold Lib.byteCells; rw [List.map_map] at hj; exact hj
        rw [← ht] at hj'
        have := List.getElem?_take (l := cur.toList) (i := n * 1) (j := j)
        rw [this] at hj'
        split at hj'
        · simpa using hj'
        · cases hj')
      simpa [hlen] using this
    rw [run_bytesToString w _ _ _ _ hload, fold_bytes]
    simp [ByteArray.empty, ByteArray.emptyWithCapacity]
    try rfl
theorem infoByte : (Tryd.prog.info? 5).map (fun i => (i.zero, i.size, i.bytes)) = some (some (.int .u8 0), 1, 1) := by kernel_rfl
end Go.Proofs.YthkbcgedjecnlaaDoor
