import Derived.Test.YtanffdllapnghaaRelKeepB
namespace Go.Proofs.Ytanffdllapnghaa
open Go.RowKit Go.Maps
set_option linter.unusedVariables false
set_option linter.unusedSimpArgs false
attribute [local go_sem ↓] Go.wp_at_zero Go.wp_at_succ

/-- a list of one's own is a list that lies somewhere -/
theorem own_LrC {w : World} {B : Nat} {a : Option Addr} {c : Nat} {rows : List (List Int)} (own : w.ownsRow B 25 24 (.slice a rows.length c) rows.length (flatR rows)) (ok : ∀ r ∈ rows, r.length = 24) : LrC w (.slice a rows.length c) rows ∧ (a = none → rows = [] ∧ c = 0) := by
  have hfl := flatR_len rows ok
  have own' := own
  have hlt := own.lt
  obtain ⟨_, ⟨e, h0⟩ | ⟨g, cap, cur, e, _, _, hnc, _⟩⟩ := own
  · obtain ⟨rfl, _, rfl⟩ := Value.slice.inj e
    exact ⟨⟨ok, _, _, rfl, fun h => by omega⟩, fun _ => ⟨List.eq_nil_of_length_eq_zero h0, rfl⟩⟩
  · obtain ⟨rfl, _, rfl⟩ := Value.slice.inj e
    refine ⟨⟨ok, _, _, rfl, fun _ => ⟨g, 0, rfl, (hlt g rfl).2, fun j u hu => ?_⟩⟩, fun h => by cases h⟩
    have hj : j < (flatR rows).length := (List.getElem?_eq_some_iff.1 hu).1
    rw [Nat.zero_add, own'.cellAt j (by omega)]
    exact hu
theorem own_base2 {w : World} {B : Nat} {e : TypeId} {k : Nat} {v : Value} {n : Nat} {xs : List Value} (h : w.ownsRow (B + 1) e k v n xs) : w.ownsRow B e k v n xs := by
  obtain ⟨e1, e2 | ⟨g', cap', cur, e, hbase, rest⟩⟩ := h
  · exact ⟨e1, .inl e2⟩
  · exact ⟨e1, .inr ⟨g', cap', cur, e, by omega, rest⟩⟩
attribute [-go_sem] loadVar
end Go.Proofs.Ytanffdllapnghaa
