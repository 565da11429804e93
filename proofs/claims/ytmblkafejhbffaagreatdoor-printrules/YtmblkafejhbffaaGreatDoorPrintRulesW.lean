import Derived.Test.YtmblkafejhbffaaGreatDoorRuF
import Derived.Test.YtmblkafejhbffaaGreatDoorPrB
namespace Go.Proofs.YtmblkafejhbffaaGreatDoor
open Go.RowKit Go.Maps
set_option linter.unusedVariables false
set_option linter.unusedSimpArgs false
attribute [local go_sem ↓] Go.wp_at_zero Go.wp_at_succ

theorem LikeR.text {r s : R3} (h : LikeR r s) : ruleT s = ruleT r := by
  have e : txB s.bd = txB r.bd := by
    have h1 : ∀ l : List XL, txB l = (l.map XL.x).map litT := fun l => by simp [txB]
    rw [h1, h1, h.map]
  unfold ruleT bodyT
  rw [h.pr, h.hd, h.bl, e]
set_option maxHeartbeats 3200000 in
theorem printRules_walk (d : Nat) (r : R3) (p : RP) (w : World) (hG : Gr w) (hR : RIs w (d + 1) r p) :
    Calls Tryz.prog 3 #[r.val p] w fun e w' => e = .returned (.bool true) ∧ Below w.heap.size w w' := by
  have HBB : Hid (Below w.heap.size w (w.alloc (.cells #[.string r.pr, .slice p.a r.hd.length p.c, .slice p.ba r.bd.length p.bc] 25))) := (Below.refl w.heap.size w).alloc (Nat.le_refl _) _
  have HBY : Hid _ := beyondRule_any (d + 1) r p _ (hR.below HBB.out)
  have HRX : Hid (RL (w.alloc (.cells #[.string r.pr, .slice p.a r.hd.length p.c, .slice p.ba r.bd.length p.bc] 25)) w.heap.size 25 [.string r.pr, .slice p.a r.hd.length p.c, .slice p.ba r.bd.length p.bc]) := rl_new w #[.string r.pr, .slice p.a r.hd.length p.c, .slice p.ba r.bd.length p.bc] 25
  have HG : Hid (∀ u, Below w.heap.size w u → Gr u) := fun u hu => hG.below hu
  have HX : Hid (∀ u, Below w.heap.size w u → RIs u (d + 1) r p) := fun u hu => hR.below hu
  obtain ⟨st, er, hs⟩ : ∃ st er, toldV (ruleB (d + 1) r) (ruleT r) = .tuple #[.string st, .int .i64 er] := by unfold toldV; split <;> exact ⟨_, _, rfl⟩
  have HS : Hid _ := hs
  clear hG hR hs
  unfold R3.val at HBY ⊢
  go_enter Tryz.func3, Tryz.ntmps3
  go_wp2_with fail
  refine Calls.mono HBY.out ?_
  rintro e w1 ⟨bb, rfl, b1, hsm⟩
  have B1 : Hid (Below w.heap.size w w1) := HBB.out.trans (b1.mono HBB.out.size)
  have HX1 : Hid (RL w1 w.heap.size 25 [.string r.pr, .slice p.a r.hd.length p.c, .slice p.ba r.bd.length p.bc]) := RL.below HRX.out b1
  have HSM : Hid _ := hsm
  clear hsm b1 HBY HBB HRX
  cases bb
  · have hsm2 : smallR (d + 1) r := HSM.out (by first | rfl | trivial)
    have HSL : Hid (smallR (d + 1) r) := hsm2
    clear hsm2 HSM
    have k0 := HX1.out.at (j := 0) rfl
    have k1 := HX1.out.at (j := 1) rfl
    have k2 := HX1.out.at (j := 2) rfl
    have HTW0 : Hid _ := twinRule_any (d + 1) r p w1 (HG.out _ B1.out).gq.gp.pw HSL.out.hd HSL.out.bd HSL.out.each (HX.out _ B1.out)
    unfold R3.val at HTW0
    go_wp2_with fail
    refine Calls.mono HTW0.out ?_
    rintro e w2 ⟨s, q, rfl, b2, hlk, htw⟩
    have B2 : Hid (Below w.heap.size w w2) := B1.out.trans (b2.mono B1.out.size)
    have HX2 : Hid (RL w2 w.heap.size 25 [.string r.pr, .slice p.a r.hd.length p.c, .slice p.ba r.bd.length p.bc]) := RL.below HX1.out b2
    have HTW : Hid (TwR w2 w1.heap.size (d + 1) s q) := htw
    have HLK : Hid _ := hlk
    clear k0 k1 k2 b2 htw HX1 HTW0 hlk
    have HB3 : Hid (Below w2.heap.size w2 (w2.alloc (.cells #[.string s.pr, .slice q.a s.hd.length q.c, .slice q.ba s.bd.length q.bc] 25))) := (Below.refl w2.heap.size w2).alloc (Nat.le_refl _) _
    have HY : Hid (RL (w2.alloc (.cells #[.string s.pr, .slice q.a s.hd.length q.c, .slice q.ba s.bd.length q.bc] 25)) w2.heap.size 25 [.string s.pr, .slice q.a s.hd.length q.c, .slice q.ba s.bd.length q.bc]) := rl_new w2 #[.string s.pr, .slice q.a s.hd.length q.c, .slice q.ba s.bd.length q.bc] 25
    go_upto_region 4 with fail
    generalize w2.alloc (.cells #[.string s.pr, .slice q.a s.hd.length q.c, .slice q.ba s.bd.length q.bc] 25) = W3 at HB3 HY ⊢
    have HX3 : Hid (RL W3 w.heap.size 25 [.string r.pr, .slice p.a r.hd.length p.c, .slice p.ba r.bd.length p.bc]) := RL.below HX2.out HB3.out
    have B3 : Hid (Below w.heap.size w W3) := B2.out.trans (HB3.out.mono B2.out.size)
    have k0 := HX3.out.at (j := 0) rfl
    have k1 := HX3.out.at (j := 1) rfl
    have k2 := HX3.out.at (j := 2) rfl
    have HHR : Hid _ := r6Rule_any (d + 1) r p W3 (HX.out _ B3.out) HSL.out
    unfold R3.val at HHR
    rw [HS.out] at HHR
    go_wp2_with fail
    refine Calls.mono HHR.out ?_
    rintro e w4 ⟨rfl, b4⟩
    have B4 : Hid (Below w.heap.size w w4) := B3.out.trans (b4.mono B3.out.size)
    have HY4 : Hid (RL w4 w2.heap.size 25 [.string s.pr, .slice q.a s.hd.length q.c, .slice q.ba s.bd.length q.bc]) := RL.below HY.out b4
    have HX4 : Hid (RL w4 w.heap.size 25 [.string r.pr, .slice p.a r.hd.length p.c, .slice p.ba r.bd.length p.bc]) := RL.below HX3.out b4
    have HT4 : Hid (TwR w4 w1.heap.size (d + 1) s q) := (HTW.out.below HB3.out).below b4
    clear k0 k1 k2 b4 HHR HX3 HY HX2 HTW HB3
    have k0 := HY4.out.at (j := 0) rfl
    have k1 := HY4.out.at (j := 1) rfl
    have k2 := HY4.out.at (j := 2) rfl
    have HHT : Hid _ := pRule_any (d + 1) s q w4 (HG.out _ B4.out) (HT4.out.is HLK.out (HX.out _ B4.out) HSL.out) (HLK.out.small HSL.out)
    unfold R3.val at HHT
    rw [HLK.out.ruleB, HLK.out.text, HS.out] at HHT
    go_wp2_with fail
    refine Calls.mono HHT.out ?_
    rintro e w5 ⟨rfl, b5⟩
    have B5 : Hid (Below w.heap.size w w5) := B4.out.trans (b5.mono B4.out.size)
    have HY5 : Hid (RL w5 w2.heap.size 25 [.string s.pr, .slice q.a s.hd.length q.c, .slice q.ba s.bd.length q.bc]) := RL.below HY4.out b5
    have HX5 : Hid (RL w5 w.heap.size 25 [.string r.pr, .slice p.a r.hd.length p.c, .slice p.ba r.bd.length p.bc]) := RL.below HX4.out b5
    have HLf : Hid _ := leftRule_any (d + 1) r s p q w1.heap.size w5 (HG.out _ B5.out).gq.gp.pw HLK.out HSL.out (HT4.out.below b5) (HX.out _ B5.out)
    unfold R3.val at HLf
    clear k0 k1 k2 b5 HHT HX4 HY4 HT4 B4
    have z0 := HY5.out.at (j := 0) rfl
    have z1 := HY5.out.at (j := 1) rfl
    have z2 := HY5.out.at (j := 2) rfl
    have v0 := HX5.out.at (j := 0) rfl
    have v1 := HX5.out.at (j := 1) rfl
    have v2 := HX5.out.at (j := 2) rfl
    go_wp2_with (first
      | (go_at_call 8; refine Calls.mono HLf.out ?_; rintro r w6 ⟨rfl, b6⟩; have B6 : Below w.heap.size w w6 := B5.out.trans (b6.mono B5.out.size))
      | (go_at_call 9; refine (lives_any _ (HG.out _ B6).gq.gp).mono ?_; rintro r w7 ⟨rfl, b7⟩))
    go_ret
    exact ⟨rfl, B6.trans (b7.mono B6.size)⟩
  · go_wp2
    go_ret
    exact ⟨rfl, B1.out⟩
end Go.Proofs.YtmblkafejhbffaaGreatDoor
