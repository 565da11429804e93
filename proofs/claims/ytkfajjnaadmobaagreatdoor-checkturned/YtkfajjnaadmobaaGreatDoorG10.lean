import Derived.Test.YtkfajjnaadmobaaGreatDoorG46
import Derived.Test.YtkfajjnaadmobaaGreatDoorG8
import Derived.Test.YtkfajjnaadmobaaGreatDoorTreeLeftQ
section
namespace Go.Proofs.YtkfajjnaadmobaaGreatDoor
open Go.RowKit Go.Maps
set_option linter.unusedVariables false
set_option linter.unusedSimpArgs false
attribute [local go_sem ↓] Go.wp_at_zero Go.wp_at_succ

/-- a block that holds these cells -/
def RL (w : World) (b : Nat) (t : TypeId) (l : List Value) : Prop := w.rowIs b t l.length (fun j => l.getD j .nilIface)
theorem RL.set {w : World} {b : Nat} {t : TypeId} {l : List Value} (h : RL w b t l) (i : Nat) (v : Value) : RL (w.setCell ⟨b, i, none⟩ v) b t (l.set i v) := by
  unfold RL
  rw [List.length_set]
  refine (World.rowIs.set h i v).congr fun j hj => ?_
  by_cases e : j = i
  · subst e
    rw [if_pos rfl]
    simp [List.getD, List.getElem?_set_self hj]
  · rw [if_neg e]
    simp [List.getD, List.getElem?_set_ne (Ne.symm e)]
theorem RL.other {w : World} {b g i : Nat} {t : TypeId} {l : List Value} (h : RL w b t l) (e : b ≠ g) (v : Value) : RL (w.setCell ⟨g, i, none⟩ v) b t l := World.rowIs.setOther h e v
theorem RL.at {w : World} {b : Nat} {t : TypeId} {l : List Value} (h : RL w b t l) {j : Nat} {v : Value} (e : l[j]? = some v) : w.cell? ⟨b, j, none⟩ = some v := by
  obtain ⟨hj, hv⟩ := List.getElem?_eq_some_iff.1 e
  rw [World.rowIs.cell h hj]
  simp [List.getD, e]
theorem RL.below {w w' : World} {b : Nat} {t : TypeId} {l : List Value} (h : RL w b t l) (hb : Below w.heap.size w w') : RL w' b t l := World.rowIs.of_block h (hb.block b (World.rowIs.lt h))
theorem rl_new (w : World) (c : Array Value) (t : TypeId) : RL (w.alloc (.cells c t)) w.heap.size t c.toList := by
  have := World.rowIs_alloc w c t (fun j => c.toList.getD j .nilIface) (fun i hi => by simp [List.getD, hi])
  unfold RL
  rw [Array.length_toList]
  exact this
theorem rl_results {fn : Func} {sl : Nat} {ty : TypeId} (hr : fn.results = #[.cell sl ty]) {W : World} {tmps : Array Value} {b : Nat} {v : Value} (h2 : tmps.getD sl undef = .pointer (some ⟨b, 0, none⟩)) (hl : (loadVar ty ⟨b, 0, none⟩).run Tryz.prog W = .ok v W) :
    (results fn tmps).run Tryz.prog W = .ok v W := by
  have e0 : results fn tmps = (do
      let x ← asAddr (tmps.getD sl undef)
      loadVar ty x) := by
    simp [results, hr]
  rw [e0, h2]
  simp [asAddr, hl, Result.andThen]
theorem RL.range {w : World} {b : Nat} {t : TypeId} {l : List Value} (h : RL w b t l) : ∀ j v, l[j]? = some v → w.cell? ⟨b, 0 + j, none⟩ = some v := fun j v e => by
  rw [Nat.zero_add]
  exact h.at e
set_option maxHeartbeats 1600000 in
theorem twinAtom_any (pr : ByteArray) (v : Value) (ts : List T) (w : World) (hp : PWt w) (hs : ts.length ≤ 1048576) (hL : Lt w v ts) :
    Calls Tryz.prog 40 #[.agg #[.string pr, v]] w fun r w' => ∃ a', r = .returned (.agg #[.string pr, .slice a' ts.length (ts.length + 1)]) ∧ Below w.heap.size w w' ∧ TwT w' w.heap.size ts a' (ts.length + 1) := by
  have HL : Hid (Lt w v ts) := hL
  obtain ⟨a, c, rfl, hc1, hc2, -⟩ := hL.form
  have BA := (Below.refl w.heap.size w).alloc (Nat.le_refl _) (.cells #[.string pr, .slice a ts.length c] 36)
  have BB := BA.alloc BA.size (.cells #[.string ⟨#[]⟩, .slice none 0 0] 36)
  have HR0 : Hid (RL _ w.heap.size 36 [.string pr, .slice a ts.length c]) := (rl_new w #[.string pr, .slice a ts.length c] 36).below ((Below.refl _ _).alloc (Nat.le_refl _) (.cells #[.string ⟨#[]⟩, .slice none 0 0] 36))
  have HR1 : Hid (RL ((w.alloc (.cells #[.string pr, .slice a ts.length c] 36)).alloc (.cells #[.string ⟨#[]⟩, .slice none 0 0] 36)) (w.heap.size + 1) 36 [.string ⟨#[]⟩, .slice none 0 0]) := by
    have := rl_new (w.alloc (.cells #[.string pr, .slice a ts.length c] 36)) #[.string ⟨#[]⟩, .slice none 0 0] 36
    rw [World.size_alloc] at this
    exact this
  have HT : Hid _ := twinTerms_any _ ts _ (tab_below hp BB) hs (HL.out.below BB)
  have HBB : Hid (Below w.heap.size w _) := BB
  clear hp BA BB HL hL
  go_enter Tryz.func40, Tryz.ntmps40
  go_wp2_with fail
  refine Calls.mono HT.out ?_
  rintro r w1 ⟨a', rfl, b1, htw⟩
  have HA : Hid (RL w1 w.heap.size 36 [.string pr, .slice a ts.length c]) := RL.below HR0.out b1
  have HB : Hid (RL w1 (w.heap.size + 1) 36 [.string ⟨#[]⟩, .slice none 0 0]) := RL.below HR1.out b1
  have HTW : Hid (TwT w1 (w.heap.size + 2) ts a' (ts.length + 1)) := htw.lower (by simp)
  have HB1 : Hid (Below w.heap.size w w1) := HBB.out.trans (b1.mono HBB.out.size)
  have x0 := HA.out.at (j := 0) rfl
  have x1 := HA.out.at (j := 1) rfl
  have g1 := World.rowIs.frozen HA.out 1
  have y0 := HB.out.at (j := 0) rfl
  have y1 := HB.out.at (j := 1) rfl
  have f0 := World.rowIs.frozen HB.out 0
  have f1 := World.rowIs.frozen HB.out 1
  clear b1 htw HR0 HR1 HT HBB
  go_wp2
  have hF := (RL.other (i := 1) HB.out (by omega : w.heap.size + 1 ≠ w.heap.size) (.slice a' ts.length (ts.length + 1))).set 0 (.string pr) |>.set 1 (.slice a' ts.length (ts.length + 1))
  refine bodyPost_ret (rl_results Tryz.results40 (v := .agg #[.string pr, .slice a' ts.length (ts.length + 1)]) rfl (run_loadVar_mid _ _ 0 36 [.string pr, .slice a' ts.length (ts.length + 1)] _ hF.range Tryz.underlying36 rfl (by kernel_rfl))) rfl ⟨a', rfl, ?_, ?_⟩
  · exact ((HB1.out.setCell (p := ⟨w.heap.size, 1, none⟩) (Nat.le_refl _) _).setCell (p := ⟨w.heap.size + 1, 0, none⟩) (by simp) _).setCell (p := ⟨w.heap.size + 1, 1, none⟩) (by simp) _
  · exact (((HTW.out.set (by omega)).set (by omega)).set (by omega)).lower (by omega)
end Go.Proofs.YtkfajjnaadmobaaGreatDoor
end
section
namespace Go.Proofs.YtkfajjnaadmobaaGreatDoor
open Go.RowKit Go.Maps
set_option linter.unusedVariables false
set_option linter.unusedSimpArgs false
attribute [local go_sem ↓] Go.wp_at_zero Go.wp_at_succ

/-- a literal's copy, its marks behind its lists -/
structure TwL (w : World) (lo d : Nat) (x : Lit4) (p : LP) : Prop where
  ts : TwT w lo x.ts p.a p.c
  l : TwIs w lo d x.l p.la p.lc
  r : TwIs w lo d x.r p.ra p.rc
theorem TwL.below {w w' : World} {lo d : Nat} {x : Lit4} {p : LP} (h : TwL w lo d x p) (b : Below w.heap.size w w') : TwL w' lo d x p := ⟨h.ts.below b, h.l.below b, h.r.below b⟩
end Go.Proofs.YtkfajjnaadmobaaGreatDoor
end
