import Derived.Test.YtmmkpcbelofkmaaGreatDoorG42
namespace Go.Proofs.YtmmkpcbelofkmaaGreatDoor
open Go.RowKit Go.Maps
set_option linter.unusedVariables false
set_option linter.unusedSimpArgs false
attribute [local go_sem ↓] Go.wp_at_zero Go.wp_at_succ

/-- a rule's copy -/
structure TwR (w : World) (lo d : Nat) (r : R3) (p : RP) : Prop where
  hd : TwA w lo r.hd p.a p.c
  bd : TwB w lo d r.bd p.ba p.bc
theorem TwR.below {w w' : World} {lo d : Nat} {r : R3} {p : RP} (h : TwR w lo d r p) (b : Below w.heap.size w w') : TwR w' lo d r p := ⟨h.hd.below b, h.bd.below b⟩
/-- two rules that differ in where their lists lie alone -/
structure LikeR (r s : R3) : Prop where
  pr : s.pr = r.pr
  hd : s.hd = r.hd
  bl : s.bd.length = r.bd.length
  bd : ∀ i, i < r.bd.length → (atL s.bd i).x = (atL r.bd i).x
set_option maxHeartbeats 1600000 in
theorem twinRule_any (d : Nat) (r : R3) (p : RP) (w : World) (hp : PWt w) (hs1 : r.hd.length ≤ 1048576) (hs2 : r.bd.length ≤ 1048576) (hsm : ∀ y ∈ r.bd, smallL d y.x) (hR : RIs w d r p) :
    Calls Tryz.prog 31 #[r.val p] w fun e w' => ∃ s q, e = .returned (s.val q) ∧ Below w.heap.size w w' ∧ LikeR r s ∧ TwR w' w.heap.size d s q := by
  obtain ⟨pr, hd, bd⟩ := r
  obtain ⟨pa, pc, ba, bc⟩ := p
  have h1 := hR.hd
  have h2 := hR.bd
  unfold R3.val
  dsimp only at hs1 hs2 hsm h1 h2 ⊢
  have BA := (Below.refl w.heap.size w).alloc (Nat.le_refl _) (.cells #[.string pr, .slice pa hd.length pc, .slice ba bd.length bc] 74)
  have BB := BA.alloc BA.size (.cells #[.string ⟨#[]⟩, .slice none 0 0, .slice none 0 0] 74)
  have HR0 : Hid (RL ((w.alloc (.cells #[.string pr, .slice pa hd.length pc, .slice ba bd.length bc] 74)).alloc (.cells #[.string ⟨#[]⟩, .slice none 0 0, .slice none 0 0] 74)) w.heap.size 74 [.string pr, .slice pa hd.length pc, .slice ba bd.length bc]) := (rl_new w #[.string pr, .slice pa hd.length pc, .slice ba bd.length bc] 74).below ((Below.refl _ _).alloc (Nat.le_refl _) (.cells #[.string ⟨#[]⟩, .slice none 0 0, .slice none 0 0] 74))
  have HR1 : Hid (RL ((w.alloc (.cells #[.string pr, .slice pa hd.length pc, .slice ba bd.length bc] 74)).alloc (.cells #[.string ⟨#[]⟩, .slice none 0 0, .slice none 0 0] 74)) (w.heap.size + 1) 74 [.string ⟨#[]⟩, .slice none 0 0, .slice none 0 0]) := by
    have := rl_new (w.alloc (.cells #[.string pr, .slice pa hd.length pc, .slice ba bd.length bc] 74)) #[.string ⟨#[]⟩, .slice none 0 0, .slice none 0 0] 74
    rw [World.size_alloc] at this
    exact this
  have HT : Hid _ := twinArgs_any _ hd _ (tab_below hp BB) hs1 (h1.below BB)
  have HT2 : Hid (∀ u, Below w.heap.size w u → Calls Tryz.prog 59 #[.slice ba bd.length bc] u fun r w' => ∃ a' l', r = .returned (.slice a' bd.length (bd.length + 1)) ∧ Below u.heap.size u w' ∧ l'.length = bd.length ∧ (∀ i, i < bd.length → (atL l' i).x = (atL bd i).x) ∧ TwB w' u.heap.size d l' a' (bd.length + 1)) := fun u hu => twinLiterals_any d _ bd u (tab_below hp hu) hs2 hsm (h2.below hu)
  have HBB : Hid (Below w.heap.size w _) := BB
  clear hp BA BB hR h1 h2 hsm
  go_enter Tryz.func31, Tryz.ntmps31
  go_wp2_with fail
  refine Calls.mono HT.out ?_
  rintro r w1 ⟨a', rfl, b1, htw⟩
  have HA : Hid (RL w1 w.heap.size 74 [.string pr, .slice pa hd.length pc, .slice ba bd.length bc]) := RL.below HR0.out b1
  have HB : Hid (RL w1 (w.heap.size + 1) 74 [.string ⟨#[]⟩, .slice none 0 0, .slice none 0 0]) := RL.below HR1.out b1
  have HTW : Hid (TwA w1 (w.heap.size + 2) hd a' (hd.length + 1)) := htw.lower (by simp)
  have HB1 : Hid (Below w.heap.size w w1) := HBB.out.trans (b1.mono HBB.out.size)
  have x1 := HA.out.at (j := 1) rfl
  have x2 := HA.out.at (j := 2) rfl
  have g1 := World.rowIs.frozen HA.out 1
  have HBs : Hid (Below w.heap.size w (w1.setCell ⟨w.heap.size, 1, none⟩ (.slice a' hd.length (hd.length + 1)))) := HB1.out.setCell (p := ⟨w.heap.size, 1, none⟩) (Nat.le_refl _) _
  have HAs : Hid (RL (w1.setCell ⟨w.heap.size, 1, none⟩ (.slice a' hd.length (hd.length + 1))) w.heap.size 74 [.string pr, .slice a' hd.length (hd.length + 1), .slice ba bd.length bc]) := HA.out.set 1 _
  have HCs : Hid (RL (w1.setCell ⟨w.heap.size, 1, none⟩ (.slice a' hd.length (hd.length + 1))) (w.heap.size + 1) 74 [.string ⟨#[]⟩, .slice none 0 0, .slice none 0 0]) := RL.other HB.out (by omega) _
  have HTs : Hid (TwA (w1.setCell ⟨w.heap.size, 1, none⟩ (.slice a' hd.length (hd.length + 1))) (w.heap.size + 2) hd a' (hd.length + 1)) := HTW.out.set (by omega)
  have hsz : w.heap.size + 2 ≤ (w1.setCell ⟨w.heap.size, 1, none⟩ (.slice a' hd.length (hd.length + 1))).heap.size := by have := b1.size; simp at this ⊢; omega
  clear b1 htw HR0 HR1 HT HBB HTW HB HB1
  go_wp2_with fail
  clear x1 x2 g1 HA
  generalize w1.setCell ⟨w.heap.size, 1, none⟩ (.slice a' hd.length (hd.length + 1)) = W at HBs HAs HCs HTs hsz ⊢
  refine Calls.mono (HT2.out _ HBs.out) ?_
  rintro r w2 ⟨a2, l', rfl, b2, hl', hx', htb⟩
  have HB2 : Hid (Below w.heap.size w w2) := HBs.out.trans (b2.mono HBs.out.size)
  have HA2 : Hid (RL w2 w.heap.size 74 [.string pr, .slice a' hd.length (hd.length + 1), .slice ba bd.length bc]) := RL.below HAs.out b2
  have HC2 : Hid (RL w2 (w.heap.size + 1) 74 [.string ⟨#[]⟩, .slice none 0 0, .slice none 0 0]) := RL.below HCs.out b2
  have HT3 : Hid (TwA w2 (w.heap.size + 2) hd a' (hd.length + 1)) := HTs.out.below b2
  have HT4 : Hid (TwB w2 (w.heap.size + 2) d l' a2 (bd.length + 1)) := htb.lower hsz
  have HX : Hid _ := hx'
  have HL : Hid _ := hl'
  have x0 := HA2.out.at (j := 0) rfl
  have x1 := HA2.out.at (j := 1) rfl
  have x2 := HA2.out.at (j := 2) rfl
  have g2 := World.rowIs.frozen HA2.out 2
  have y0 := HC2.out.at (j := 0) rfl
  have y1 := HC2.out.at (j := 1) rfl
  have y2 := HC2.out.at (j := 2) rfl
  have f0 := World.rowIs.frozen HC2.out 0
  have f1 := World.rowIs.frozen HC2.out 1
  have f2 := World.rowIs.frozen HC2.out 2
  clear b2 htb HBs HAs HCs HTs hx' hl' hsz HT2
  go_wp2
  have hF := (((RL.other (i := 2) HC2.out (by omega : w.heap.size + 1 ≠ w.heap.size) (.slice a2 bd.length (bd.length + 1))).set 0 (.string pr)).set 1 (.slice a' hd.length (hd.length + 1))).set 2 (.slice a2 bd.length (bd.length + 1))
  refine bodyPost_ret (rl_results Tryz.results31 (v := .agg #[.string pr, .slice a' hd.length (hd.length + 1), .slice a2 bd.length (bd.length + 1)]) rfl (run_loadVar_mid _ _ 0 74 [.string pr, .slice a' hd.length (hd.length + 1), .slice a2 bd.length (bd.length + 1)] _ (RL.range hF) Tryz.underlying74 rfl (by kernel_rfl))) rfl ⟨⟨pr, hd, l'⟩, ⟨a', hd.length + 1, a2, bd.length + 1⟩, by rw [HL.out], ?_, ⟨rfl, rfl, HL.out, HX.out⟩, ?_, ?_⟩
  · exact (((HB2.out.setCell (p := ⟨w.heap.size, 2, none⟩) (Nat.le_refl _) _).setCell (p := ⟨w.heap.size + 1, 0, none⟩) (by simp) _).setCell (p := ⟨w.heap.size + 1, 1, none⟩) (by simp) _).setCell (p := ⟨w.heap.size + 1, 2, none⟩) (by simp) _
  · exact ((((HT3.out.set (by omega)).set (by omega)).set (by omega)).set (by omega)).lower (by omega)
  · exact ((((HT4.out.set (by omega)).set (by omega)).set (by omega)).set (by omega)).lower (by omega)
end Go.Proofs.YtmmkpcbelofkmaaGreatDoor
