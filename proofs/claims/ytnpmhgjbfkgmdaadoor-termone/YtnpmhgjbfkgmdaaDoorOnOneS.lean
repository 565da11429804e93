import Derived.Test.YtnpmhgjbfkgmdaaDoorOnSame
import Derived.Deep.RegionHeld3
namespace Go.Proofs.YtnpmhgjbfkgmdaaDoor
open Go.RowKit Go.Maps
set_option linter.unusedVariables false
set_option linter.unusedSimpArgs false
attribute [local go_sem ↓] Go.wp_at_zero Go.wp_at_succ

theorem unify_post (pa pb : ByteArray) (va vb : Value) (la lb : List T) (w : World) (hpa : pa.size ≤ maxLen) (hpb : pb.size ≤ maxLen) (ha : Lt w va la) (hb : Lt w vb lb) :
    Calls Tryd.prog 5 #[.agg #[.string pa, va], .agg #[.string pb, vb]] w fun e w' => UniPost w.heap.size (uniA pa pb la lb) e w' ∧ Below w.heap.size w w' := by
  by_cases h : pa = pb ∧ la.length = lb.length ∧ atomB pa la = true ∧ atomB pb lb = true
  · obtain ⟨rfl, hn, h3, h4⟩ := h
    have e : uniA pa pa la lb = uni [] la lb := if_pos ⟨rfl, hn, h3, h4⟩
    rw [e]
    exact unify_yes pa va vb la lb w hpa ha hb hn h3 h4
  · refine (unify_no pa pb va vb la lb w hpa hpb ha hb h).mono ?_
    rintro e w' ⟨rfl, hb⟩
    rw [uniA_no h]
    exact ⟨⟨_, rfl, fun _ => rfl, fun s hs => by cases hs⟩, hb⟩
theorem uniA_swap (pa pb : ByteArray) (la lb : List T) : (uniA pb pa lb la).isSome = (uniA pa pb la lb).isSome := by
  by_cases h : pa = pb ∧ la.length = lb.length ∧ atomB pa la = true ∧ atomB pb lb = true
  · have e1 : uniA pa pb la lb = uni [] la lb := if_pos h
    have e2 : uniA pb pa lb la = uni [] lb la := if_pos ⟨h.1.symm, h.2.1.symm, h.2.2.2, h.2.2.1⟩
    rw [e1, e2]
    exact uni_swap (tn_all h.2.2.1) (tn_all h.2.2.2)
  · rw [uniA_no h, uniA_no (fun x => h ⟨x.1.symm, x.2.1.symm, x.2.2.2, x.2.2.1⟩)]
theorem uniA_mute {pa pb : ByteArray} {la lb oa ob : List T} (ha : atomB pa la = true) (hb : atomB pb lb = true) (hA : Muted 65 (vsT [] la ++ vsT [] lb) la oa) (hB : Muted 66 (vsT [] la ++ vsT [] lb) lb ob) : (uniA pa pb oa ob).isSome = (uniA pa pb la lb).isSome := by
  have oa1 := hA.atom (by decide) ha
  have ob1 := hB.atom (by decide) hb
  have l1 := hA.len
  have l2 := hB.len
  by_cases h : pa = pb ∧ la.length = lb.length
  · have e1 : uniA pa pb la lb = uni [] la lb := if_pos ⟨h.1, h.2, ha, hb⟩
    have e2 : uniA pa pb oa ob = uni [] oa ob := if_pos ⟨h.1, by omega, oa1, ob1⟩
    rw [e1, e2]
    exact uni_mute h.2 (tn_all ha) (tn_all hb) (by decide) (by decide) (by decide) (fun t ht h0 h1 => List.mem_append.2 (.inl (vsT_has la [] t ht h0 h1))) (fun t ht h0 h1 => List.mem_append.2 (.inr (vsT_has lb [] t ht h0 h1))) hA hB
  · rw [uniA_no (fun x => h ⟨x.1, x.2.1⟩), uniA_no (fun x => h ⟨x.1, by have := x.2.1; omega⟩)]
/-- the two boxed atoms -/
structure Ost (w : World) (pa pb : ByteArray) (va vb : Value) (u : World) : Prop where
  bel : Below w.heap.size w u
  r0 : RL u w.heap.size 24 [.string pa, va]
  r1 : RL u (w.heap.size + 1) 24 [.string pb, vb]
theorem Ost.keep {w : World} {pa pb : ByteArray} {va vb : Value} {u u' : World} (h : Ost w pa pb va vb u) (hb : Below u.heap.size u u') : Ost w pa pb va vb u' :=
  ⟨h.bel.trans (hb.mono h.bel.size), h.r0.below hb, h.r1.below hb⟩
theorem ost_new (w : World) (pa pb : ByteArray) (va vb : Value) : Ost w pa pb va vb ((w.alloc (.cells #[.string pa, va] 24)).alloc (.cells #[.string pb, vb] 24)) :=
  ⟨((Below.refl _ _).alloc (Nat.le_refl _) _).alloc (by simp) _, (rl_new w #[.string pa, va] 24).below ((Below.refl _ _).alloc (Nat.le_refl _) _), rl_at (w.heap.size + 1) (by simp) #[.string pb, vb] 24⟩
theorem ost4 {w : World} {pa pb : ByteArray} {va vb : Value} {u : World} (h : Ost w pa pb va vb u) : Hid (Ost w pa pb va vb u) ∧ u.cell? ⟨w.heap.size, 0, none⟩ = some (.string pa) ∧ u.cell? ⟨w.heap.size, 1, none⟩ = some va ∧ u.cell? ⟨w.heap.size + 1, 0, none⟩ = some (.string pb) ∧ u.cell? ⟨w.heap.size + 1, 1, none⟩ = some vb :=
  ⟨h, h.r0.at (j := 0) rfl, h.r0.at (j := 1) rfl, h.r1.at (j := 0) rfl, h.r1.at (j := 1) rfl⟩
theorem ost4_of {w : World} {pa pb : ByteArray} {va vb : Value} {u : World} (h : Hid (Ost w pa pb va vb u) ∧ u.cell? ⟨w.heap.size, 0, none⟩ = some (.string pa) ∧ u.cell? ⟨w.heap.size, 1, none⟩ = some va ∧ u.cell? ⟨w.heap.size + 1, 0, none⟩ = some (.string pb) ∧ u.cell? ⟨w.heap.size + 1, 1, none⟩ = some vb) : Ost w pa pb va vb u := h.1.out
theorem ost4_keep {w : World} {pa pb : ByteArray} {va vb : Value} {u u' : World} (hb : Below u.heap.size u u') (h : Hid (Ost w pa pb va vb u) ∧ u.cell? ⟨w.heap.size, 0, none⟩ = some (.string pa) ∧ u.cell? ⟨w.heap.size, 1, none⟩ = some va ∧ u.cell? ⟨w.heap.size + 1, 0, none⟩ = some (.string pb) ∧ u.cell? ⟨w.heap.size + 1, 1, none⟩ = some vb) : Hid (Ost w pa pb va vb u') ∧ u'.cell? ⟨w.heap.size, 0, none⟩ = some (.string pa) ∧ u'.cell? ⟨w.heap.size, 1, none⟩ = some va ∧ u'.cell? ⟨w.heap.size + 1, 0, none⟩ = some (.string pb) ∧ u'.cell? ⟨w.heap.size + 1, 1, none⟩ = some vb := ost4 (h.1.out.keep hb)
theorem nmA : nm 65 0 = ⟨#[65]⟩ := rfl
theorem nmB : nm 66 0 = ⟨#[66]⟩ := rfl
end Go.Proofs.YtnpmhgjbfkgmdaaDoor
