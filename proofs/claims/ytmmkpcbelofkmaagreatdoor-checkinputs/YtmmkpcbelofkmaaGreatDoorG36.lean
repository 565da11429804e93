import Derived.Test.YtmmkpcbelofkmaaGreatDoorG35
import Derived.Test.YtmmkpcbelofkmaaGreatDoorG25
import Derived.Test.YtmmkpcbelofkmaaGreatDoorG28
import Derived.Test.YtmmkpcbelofkmaaGreatDoorG26
import Derived.Test.YtmmkpcbelofkmaaGreatDoorG29
section
namespace Go.Proofs.YtmmkpcbelofkmaaGreatDoor
open Go.RowKit Go.Maps
set_option linter.unusedVariables false
set_option linter.unusedSimpArgs false
attribute [local go_sem ↓] Go.wp_at_zero Go.wp_at_succ

/-- a fact's predicate -/
def pdF (y : XF) : Pd := ⟨y.pr, y.vs.length⟩
/-- the predicates of rules and facts, as they stand there -/
def psS (rs : List XR) (fs : List XF) : List Pd := rs.flatMap (fun y => stR y.r) ++ fs.map pdF
theorem ps_rule {rs : List XR} {fs : List XF} {k : Nat} (h : k < rs.length) : psS (rs.drop k) fs = stR (atR rs k).r ++ psS (rs.drop (k + 1)) fs := by
  unfold psS
  rw [List.drop_eq_getElem_cons h, List.flatMap_cons, ← atR_eq h, List.append_assoc]
theorem ps_fact {fs : List XF} {k : Nat} (h : k < fs.length) : psS [] (fs.drop k) = pdF (atF fs k) :: psS [] (fs.drop (k + 1)) := by
  unfold psS
  rw [List.drop_eq_getElem_cons h, List.map_cons, ← atF_eq h]
  rfl
theorem st_names {w : World} {d : Nat} {r : R3} {p : RP} (h : RIs w d r p) : ∀ x ∈ stR r, x.n.size ≤ maxLen := by
  intro x hx
  unfold stR at hx
  rcases List.mem_cons.1 hx with rfl | hx
  · exact h.pb
  · obtain ⟨y, hy, hx⟩ := List.mem_flatMap.1 hx
    unfold stX at hx
    split at hx
    · rw [List.mem_singleton.1 hx]
      exact (h.bd.each y hy).pb
    · cases hx
theorem rule_storeP (u : World) (y : XR) : (storeVar 74 ⟨u.heap.size, 0, none⟩ (.agg y.cells.toArray)).run Tryz.prog (u.alloc (.cells #[.string ⟨#[]⟩, .slice none 0 0, .slice none 0 0] 74)) = .ok () (u.alloc (.cells y.cells.toArray 74)) :=
  run_storeVar_new u 74 #[.string ⟨#[]⟩, .slice none 0 0, .slice none 0 0] y.cells.toArray (by kernel_rfl) rfl (oneCells_rule y)
theorem fact_storeP (u : World) (y : XF) : (storeVar 48 ⟨u.heap.size, 0, none⟩ (.agg y.cells.toArray)).run Tryz.prog (u.alloc (.cells #[.string ⟨#[]⟩, .slice none 0 0] 48)) = .ok () (u.alloc (.cells y.cells.toArray 48)) :=
  run_storeVar_new u 48 #[.string ⟨#[]⟩, .slice none 0 0] y.cells.toArray (by kernel_rfl) rfl (oneCells_fact y)
theorem load_boxR {u : World} {b : Nat} {y : XR} (h : RL u b 74 y.cells) : (loadVar 74 ⟨b, 0, none⟩).run Tryz.prog u = .ok (.agg y.cells.toArray) u :=
  run_loadVar_mid _ _ 0 74 y.cells _ (RL.range h) Tryz.underlying74 rfl (by kernel_rfl)
theorem load_boxF {u : World} {b : Nat} {y : XF} (h : RL u b 48 y.cells) : (loadVar 48 ⟨b, 0, none⟩).run Tryz.prog u = .ok (.agg y.cells.toArray) u :=
  run_loadVar_mid _ _ 0 48 y.cells _ (RL.range h) Tryz.underlying48 rfl (by kernel_rfl)
theorem own_ne {w : World} {B k n b : Nat} {ty : TypeId} {v : Value} {xs : List Value} (h : w.ownsRow B ty k v n xs) (hb : b < B) : ∀ g off m c, v = .slice (some ⟨g, off, none⟩) m c → g ≠ b := fun g off m c e => by
  have := (h.lt g (by rw [e]; rfl)).1
  omega
end Go.Proofs.YtmmkpcbelofkmaaGreatDoor
end
section
namespace Go.Proofs.YtmmkpcbelofkmaaGreatDoor
open Go.RowKit Go.Maps
set_option linter.unusedVariables false
set_option linter.unusedSimpArgs false
attribute [local go_sem ↓] Go.wp_at_zero Go.wp_at_succ
attribute [-go_sem] loadVar storeVar Builtin.append_

end Go.Proofs.YtmmkpcbelofkmaaGreatDoor
end
section
namespace Go.Proofs.YtmmkpcbelofkmaaGreatDoor
open Go.RowKit Go.Maps
set_option linter.unusedVariables false
set_option linter.unusedSimpArgs false
attribute [local go_sem ↓] Go.wp_at_zero Go.wp_at_succ

theorem TwR.set {w : World} {lo d b j : Nat} {v : Value} (hb : b < lo) {r : R3} {p : RP} (h : TwR w lo d r p) : TwR (w.setCell ⟨b, j, none⟩ v) lo d r p := ⟨h.hd.set hb, h.bd.set hb⟩
theorem TwS.set {w : World} {lo d b j : Nat} {v : Value} (hb : b < lo) {l : List XR} {a : Option Addr} {c : Nat} (h : TwS w lo d l a c) : TwS (w.setCell ⟨b, j, none⟩ v) lo d l a c := by
  obtain ⟨g, h2, h3, h4, h5⟩ := h.lies
  have e : (w.setCell ⟨b, j, none⟩ v).heap[g]? = w.heap[g]? := heap_setCell_other _ _ _ _ (by show g ≠ b; omega)
  refine ⟨h.cap, ⟨g, h2, h3, by simpa using h4, World.rowIs.of_block h5 e⟩, fun i hi => (h.each i hi).set hb, fun g' hg' i hi => ?_⟩
  have hgg : g' = g := by
    have := hg'.symm.trans h2
    simpa using this
  exact (h.apart g' hg' i hi).set (by omega)
set_option maxHeartbeats 1600000 in
theorem twinProgram_any (d : Nat) (a : Option Addr) (c : Nat) (l : List XR) (w : World) (hp : PWt w) (hs : l.length ≤ 1048576) (hsm : ∀ i, i < l.length → smallR d (atR l i).r) (hL : Lr w (.slice a l.length c) d l) :
    Calls Tryz.prog 5 #[.agg #[.slice a l.length c]] w fun r w' => ∃ a' l', r = .returned (.agg #[.slice a' l.length (l.length + 1)]) ∧ Below w.heap.size w w' ∧ l'.length = l.length ∧ (∀ i, i < l.length → LikeR (atR l i).r (atR l' i).r) ∧ TwS w' (w.heap.size + 2) d l' a' (l.length + 1) := by
  have BA := (Below.refl w.heap.size w).alloc (Nat.le_refl _) (.cells #[.slice a l.length c] 24)
  have BB := BA.alloc BA.size (.cells #[.slice none 0 0] 24)
  have HR0 : Hid (RL ((w.alloc (.cells #[.slice a l.length c] 24)).alloc (.cells #[.slice none 0 0] 24)) w.heap.size 24 [.slice a l.length c]) := (rl_new w #[.slice a l.length c] 24).below ((Below.refl _ _).alloc (Nat.le_refl _) (.cells #[.slice none 0 0] 24))
  have HR1 : Hid (RL ((w.alloc (.cells #[.slice a l.length c] 24)).alloc (.cells #[.slice none 0 0] 24)) (w.heap.size + 1) 24 [.slice none 0 0]) := by
    have := rl_new (w.alloc (.cells #[.slice a l.length c] 24)) #[.slice none 0 0] 24
    rw [World.size_alloc] at this
    exact this
  have HT : Hid _ := twinRules_any d _ l _ (tab_below hp BB) hs hsm (hL.below BB)
  have HBB : Hid (Below w.heap.size w _) := BB
  clear hp BA BB hL hsm
  go_enter Tryz.func5, Tryz.ntmps5
  go_wp2_with fail
  refine Calls.mono HT.out ?_
  rintro r w1 ⟨a', l', rfl, b1, hl1, hx1, htw⟩
  have HA : Hid (RL w1 w.heap.size 24 [.slice a l.length c]) := RL.below HR0.out b1
  have HB : Hid (RL w1 (w.heap.size + 1) 24 [.slice none 0 0]) := RL.below HR1.out b1
  have HTW : Hid (TwS w1 (w.heap.size + 2) d l' a' (l.length + 1)) := by
    rw [World.size_alloc, World.size_alloc] at htw
    exact htw
  have HB1 : Hid (Below w.heap.size w w1) := HBB.out.trans (b1.mono HBB.out.size)
  have HL1 : Hid _ := hl1
  have HX1 : Hid _ := hx1
  have x0 := HA.out.at (j := 0) rfl
  have g0 := World.rowIs.frozen HA.out 0
  have y0 := HB.out.at (j := 0) rfl
  have f0 := World.rowIs.frozen HB.out 0
  clear b1 htw HR0 HR1 HT HBB hl1 hx1
  go_wp2
  have hF := (RL.other (i := 0) HB.out (by omega : w.heap.size + 1 ≠ w.heap.size) (.slice a' l.length (l.length + 1))).set 0 (.slice a' l.length (l.length + 1))
  refine bodyPost_ret (rl_results Tryz.results5 (v := .agg #[.slice a' l.length (l.length + 1)]) rfl (run_loadVar_mid _ _ 0 24 [.slice a' l.length (l.length + 1)] _ hF.range Tryz.underlying24 rfl (by kernel_rfl))) rfl ⟨a', l', rfl, ?_, HL1.out, HX1.out, ?_⟩
  · exact (HB1.out.setCell (p := ⟨w.heap.size, 0, none⟩) (Nat.le_refl _) _).setCell (p := ⟨w.heap.size + 1, 0, none⟩) (by simp) _
  · exact (HTW.out.set (by omega)).set (by omega)
set_option maxHeartbeats 1600000 in
theorem leftProgram_any (d : Nat) (l l' : List XR) (a a0 : Option Addr) (c c0 lo : Nat) (w : World) (hl' : l'.length = l.length) (hx' : ∀ i, i < l.length → LikeR (atR l i).r (atR l' i).r) (hsm : smallS d l) (hp : PWt w) (hW : TwS w lo d l' a c) (hL : Lr w (.slice a0 l.length c0) d l) :
    Calls Tryz.prog 10 #[.agg #[.slice a l.length c], .agg #[.slice a0 l.length c0]] w fun r w' => r = .returned (.bool true) ∧ Below w.heap.size w w' := by
  have BA := (Below.refl w.heap.size w).alloc (Nat.le_refl _) (.cells #[.slice a l.length c] 24)
  have BB := BA.alloc BA.size (.cells #[.slice a0 l.length c0] 24)
  have HB1 := Lib.hid ((Below.refl _ _).alloc (Nat.le_refl _) (.cells #[.slice a0 l.length c0] 24) : Below (w.alloc (.cells #[.slice a l.length c] 24)).heap.size (w.alloc (.cells #[.slice a l.length c] 24)) _)
  have hA := belowA (w := w) (.cells #[.slice a l.length c] 24)
  have HT : Hid _ := leftRules_any d l l' a a0 c c0 lo _ hl' hx' hsm (tab_below hp BB) ((hW.below hA).below HB1.out) (hL.below BB)
  have HBB : Hid (Below w.heap.size w _) := BB
  clear hp BA BB hL hsm hx' hW hA HB1
  go_enter Tryz.func10, Tryz.ntmps10
  go_wp2_with fail
  refine Calls.mono HT.out ?_
  rintro r w1 ⟨rfl, b1⟩
  have HB1 : Hid (Below w.heap.size w w1) := HBB.out.trans (b1.mono HBB.out.size)
  clear b1 HT HBB
  go_wp2
  go_ret
  exact ⟨rfl, HB1.out⟩
end Go.Proofs.YtmmkpcbelofkmaaGreatDoor
end
