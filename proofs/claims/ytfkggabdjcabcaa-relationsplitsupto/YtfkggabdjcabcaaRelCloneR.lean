import Derived.Test.YtfkggabdjcabcaaRelKeepB
namespace Go.Proofs.Ytfkggabdjcabcaa
open Go.RowKit Go.Maps
set_option linter.unusedVariables false
set_option linter.unusedSimpArgs false
attribute [local go_sem ↓] Go.wp_at_zero Go.wp_at_succ

/-- a list of one's own is a list that lies somewhere -/
theorem own_LrC {w : World} {B : Nat} {a : Option Addr} {c : Nat} {rows : List (List Int)} (own : w.ownsRow B 27 24 (.slice a rows.length c) rows.length (flatR rows)) (ok : ∀ r ∈ rows, r.length = 24) : LrC w (.slice a rows.length c) rows ∧ (a = none → rows = [] ∧ c = 0) := by
  have hfl := flatR_len rows ok
  have own' := own
  have hlt := own.lt
  obtain ⟨_, ⟨e, h0⟩ | ⟨g, cap, cur, e, _, _, hnc, _⟩⟩ := own
  · obtain ⟨rfl, _, rfl⟩ := Value.slice.inj e
    exact ⟨⟨ok, _, _, rfl, fun h => by omega⟩, fun _ => ⟨List.eq_nil_of_length_eq_zero h0, rfl⟩⟩
  · obtain ⟨rfl, _, rfl⟩ := Value.slice.inj e
    refine ⟨⟨ok, _, _, rfl, fun _ => ⟨g, 0, rfl, (hlt g rfl).2, fun j u hu => ?_⟩⟩, fun h => by cases h⟩
    have hj : j < (flatR rows).length := (List.getElem?_eq_some_iff.1 hu).1
    rw [Nat.zero_add, own'.cellAt j (by omega)]
    exact hu
theorem own_base2 {w : World} {B : Nat} {e : TypeId} {k : Nat} {v : Value} {n : Nat} {xs : List Value} (h : w.ownsRow (B + 1) e k v n xs) : w.ownsRow B e k v n xs := by
  obtain ⟨e1, e2 | ⟨g', cap', cur, e, hbase, rest⟩⟩ := h
  · exact ⟨e1, .inl e2⟩
  · exact ⟨e1, .inr ⟨g', cap', cur, e, by omega, rest⟩⟩
attribute [-go_sem] loadVar
set_option maxHeartbeats 3200000 in
set_option maxRecDepth 100000 in
theorem clone_yes {w : World} {B t m : Nat} {sv : Value} {rows : List (List Int)} {ar gone : Int} (h : Rel w B t m sv rows ar gone) (hlen : rows.length ≤ 1000000000) :
    Calls Try.prog 8 #[.pointer (some ⟨t, 0, none⟩)] w fun e w' => ∃ t2 m2 sv2, e = .returned (.pointer (some ⟨t2, 0, none⟩)) ∧ Rel w' w.heap.size t2 m2 sv2 rows ar 0 ∧ Below w.heap.size w w' := by
  obtain ⟨a, c, rfl, _⟩ := own_form h.own
  have HT := Lib.hid (there_yes h)
  have h1 := h.keep (Below.refl _ _).drew
  obtain ⟨x1, x2⟩ := own_LrC h1.own (fun r hr => (h.ok r hr).len)
  have HKP := Lib.hid (keep_any x1 x2 hlen h.ok h.nd)
  have l0 := run_loadRows (h1.rl.at (j := 0) rfl)
  have l2 := run_loadInt (h1.rl.at (j := 2) rfl)
  have HR := Lib.hid h1
  have HON := Lib.hid (And.intro h.ok h.nd)
  clear h h1 x1 x2
  go_enter Try.func8, Try.ntmps8
  go_wp2_with fail
  refine HT.out.mono ?_
  rintro e w1 ⟨rfl, rfl⟩
  clear HT
  go_upto_region 3 with fail
  go_region_law (
    refine step_call rfl 21 Try.func21 (by kernel_rfl) (by kernel_rfl) #[.tmp 10] _ rfl #[.slice a rows.length c] (by simp [Act.eval, Act.put]) HKP.out ?_
    rintro ee w2 ⟨sv2, m2, rfl, ho, hm, hle, hne, b2⟩
    obtain ⟨a2, c2, hsv2, _⟩ := own_form ho
    subst hsv2
    refine ⟨_, rfl, ?_⟩
    have l2' := run_loadInt ((HR.out.keep b2).rl.at (j := 2) rfl)
    have HF := Lib.hid (And.intro ho (And.intro hm (And.intro hle (And.intro hne b2))))
    clear ho hm hle hne b2)
  all_goals
    go_wp2
    go_ret
    obtain ⟨ho, hm, hle, hne, b2⟩ := HF.out
    have ha : Below w2.heap.size w2 (w2.alloc (.cells #[.slice a2 rows.length c2, .map (some m2), .int .i64 ar, .int .i64 0] 61)) := (Below.refl _ _).alloc (Nat.le_refl _) _
    have hml := hm.lt
    have hs2 := b2.size
    refine ⟨_, m2, _, rfl, ⟨rl_new w2 #[.slice a2 rows.length c2, .map (some m2), .int .i64 ar, .int .i64 0] 61, own_below (own_base2 ho) ha, hm.below ha, HON.out.2, HON.out.1, ⟨hs2, hle⟩, by omega, fun g hg => ⟨by have := (ho.lt g hg).2; omega, hne g hg⟩⟩, ?_⟩
    exact ((Below.refl _ _).drew.trans b2).trans (ha.mono hs2)
end Go.Proofs.Ytfkggabdjcabcaa
