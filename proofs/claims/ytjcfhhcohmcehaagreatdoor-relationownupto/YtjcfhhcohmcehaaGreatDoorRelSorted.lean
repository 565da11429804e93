import Derived.Test.YtjcfhhcohmcehaaGreatDoorRelSort
import Derived.Test.YtjcfhhcohmcehaaGreatDoorRelCloneR
import Derived.Shelf.SlSortCmp.NoneTotal
namespace Go.Proofs.YtjcfhhcohmcehaaGreatDoor
open Go.RowKit Go.Maps
set_option linter.unusedVariables false
set_option linter.unusedSimpArgs false
attribute [local go_sem ↓] Go.wp_at_zero Go.wp_at_succ
attribute [-go_sem] loadVar
/-- slices.SortFunc over rows, a nil slice too -/
theorem sortRowsN {w : World} {B : Nat} {a : Option Addr} {cap : Nat} {rows : List (List Int)} (own : w.ownsRow B 27 24 (.slice a rows.length cap) rows.length (flatR rows)) (ok : ∀ r ∈ rows, RowOk r) (hlen : rows.length ≤ 1000000000) :
    Calls Tryz.prog 27 #[.slice a rows.length cap, .func (.func 28) #[] #[]] w fun e w' => e = .returned (.tuple #[]) ∧ ∃ rs : List (List Int), rs.Perm rows ∧ (∀ (i j : Nat) x y, i < j → rs[i]? = some x → rs[j]? = some y → ¬ lexI y x < 0) ∧ w'.ownsRow B 27 24 (.slice a rows.length cap) rows.length (flatR rs) ∧ Below B w w' := by
  have own' := own
  obtain ⟨_, ⟨e, h0⟩ | ⟨g, cap', cur, e, _⟩⟩ := own
  · have hr : rows = [] := List.eq_nil_of_length_eq_zero h0
    subst hr
    have hcon := AnyF.slices_SortFunc_none Tryz.laysSort a cap (.func (.func 28) #[] #[]) w
    refine hcon.mono ?_
    rintro e2 w' ⟨he, rfl⟩
    exact ⟨he, [], List.Perm.refl _, fun i j x y _ hx _ => by simp at hx, own', Below.refl _ _⟩
  · obtain ⟨rfl, _, rfl⟩ := Value.slice.inj e
    exact sortRows rfl own' ok hlen
set_option maxHeartbeats 1600000 in
set_option maxRecDepth 100000 in
theorem sorted_yes {w : World} {B t m : Nat} {sv : Value} {rows : List (List Int)} {ar gone : Int} (h : Rel w B t m sv rows ar gone) (hlen : rows.length ≤ 1000000000) :
    Calls Tryz.prog 7 #[.pointer (some ⟨t, 0, none⟩)] w fun e w' => ∃ a c, e = .returned (.slice a rows.length c) ∧ ∃ rs : List (List Int), rs.Perm rows ∧ (∀ (i j : Nat) x y, i < j → rs[i]? = some x → rs[j]? = some y → ¬ lexI y x < 0) ∧ w'.ownsRow w.heap.size 27 24 (.slice a rows.length c) rows.length (flatR rs) ∧ Below w.heap.size w w' := by
  obtain ⟨a, c, rfl, _⟩ := own_form h.own
  obtain ⟨x1, x2⟩ := own_LrC h.own (fun r hr => (h.ok r hr).len)
  have HT := Lib.hid (there_yes h)
  have HC := Lib.hid (cloneRows_any x1 x2 hlen)
  have l0 := run_loadRows (h.rl.at (j := 0) rfl)
  have HOK := Lib.hid h.ok
  clear h x1 x2
  go_enter Tryz.func7, Tryz.ntmps7
  go_wp2_with fail
  refine HT.out.mono ?_
  rintro e w1 ⟨rfl, rfl⟩
  go_wp2_with fail
  refine HC.out.mono ?_
  rintro e w2 ⟨sv2, rfl, ho, b2⟩
  obtain ⟨a2, c2, rfl, _⟩ := own_form ho
  have HS := Lib.hid (sortRowsN ho HOK.out hlen)
  have HB := Lib.hid b2
  clear ho b2 HT HC l0
  go_wp2_with fail
  refine HS.out.mono ?_
  rintro e w3 ⟨rfl, rs, hp, hsd, ho3, b3⟩
  have HF := Lib.hid (And.intro hp (And.intro hsd (And.intro ho3 (HB.out.trans b3))))
  clear hp hsd ho3 b3 HS HB
  go_wp2
  go_ret
  exact ⟨a2, c2, rfl, rs, HF.out⟩
end Go.Proofs.YtjcfhhcohmcehaaGreatDoor
