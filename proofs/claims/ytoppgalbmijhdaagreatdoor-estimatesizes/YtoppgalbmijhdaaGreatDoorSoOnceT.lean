import Derived.Test.YtoppgalbmijhdaaGreatDoorSoOnce
namespace Go.Proofs.YtoppgalbmijhdaaGreatDoor
open Go.RowKit Go.Maps
set_option linter.unusedVariables false
set_option linter.unusedSimpArgs false
attribute [local go_sem ↓] Go.wp_at_zero Go.wp_at_succ
attribute [-go_sem] Builtin.append_

def XF.tcells (y : XF) : List Value := [y.tcell]
theorem tcells_map (l : List XF) : l.flatMap XF.tcells = l.map XF.tcell := by
  induction l with
  | nil => rfl
  | cons x l ih => rw [List.flatMap_cons, List.map_cons, ih]; rfl
theorem cellsT_one (l : List XF) : ∀ u ∈ l.flatMap XF.tcells, u.oneCell' = true := by
  intro u hu
  obtain ⟨t, _, ht⟩ := List.mem_flatMap.1 hu
  simp [XF.tcells] at ht
  subst ht
  rfl
/-- a list of tuples in memory -/
structure Lu (w : World) (v : Value) (l : List XF) : Prop where
  lies : Ls w v l.length (l.flatMap XF.tcells)
  each : ∀ y ∈ l, FIs w y ∧ y.pr = noS
theorem Lu.below {w w' : World} {v : Value} {l : List XF} (h : Lu w v l) (b : Below w.heap.size w w') : Lu w' v l := ⟨h.lies.below b, fun y hy => ⟨(h.each y hy).1.below b, (h.each y hy).2⟩⟩
theorem told_pr {l out : List XF} (h : Told (l.map XF.key) (out.map XF.key)) (hl : ∀ z ∈ l, z.pr = noS) (y : XF) (hy : y ∈ out) : y.pr = noS := by
  have := (h.same y.key).1 (List.mem_map.2 ⟨y, hy, rfl⟩)
  obtain ⟨z, hz, e⟩ := List.mem_map.1 this
  have e1 : z.pr = y.pr := congrArg Prod.fst e
  rw [← e1]
  exact hl z hz
theorem vfacts_any {w : World} {a : Option Addr} {c : Nat} {l : List XF} (hl : Lf w (.slice a l.length c) l) (hnil : a = none → l = [] ∧ c = 0) (hn : l.length ≤ 1048576) (hsm : ∀ y ∈ l, y.vs.length ≤ 1048576) :
    Calls Tryz.prog 43 #[.slice a l.length c] w fun e w' => ∃ a' c' out, e = .returned (.slice a' out.length c') ∧ Below w.heap.size w w' ∧ Told (l.map XF.key) (out.map XF.key) ∧ Lf w' (.slice a' out.length c') out := by
  have H := Lib.hid (eachOnceF_any hl.lies hnil hn (fun y hy => by obtain ⟨i, hi, rfl⟩ := List.getElem_of_mem hy; have := hl.each i hi; rw [atF_eq hi] at this; exact this) hsm)
  clear hl hnil hsm
  go_enter Tryz.func43, Tryz.ntmps43
  go_wp2_with fail
  refine H.out.mono ?_
  rintro e w1 ⟨a', c', out, rfl, h1, h2, h3⟩
  have HF := Lib.hid (And.intro h1 (And.intro h2 h3))
  clear h1 h2 h3 H
  go_wp2
  go_ret
  exact ⟨a', c', out, rfl, HF.out⟩
end Go.Proofs.YtoppgalbmijhdaaGreatDoor
