import Derived.Test.YtheihplldbccpaaGreatDoorG26
import Derived.Test.YtheihplldbccpaaGreatDoorG24
namespace Go.Proofs.YtheihplldbccpaaGreatDoor
open Go.RowKit Go.Maps
set_option linter.unusedVariables false
set_option linter.unusedSimpArgs false
attribute [local go_sem ↓] Go.wp_at_zero Go.wp_at_succ
attribute [-go_sem] loadVar storeVar

theorem LikeR.av {r s : R3} (h : LikeR r s) : avL s.bd = avL r.bd := avL_same h.map
theorem LikeR.eqs {r s : R3} (h : LikeR r s) (d : Nat) : eqL d s.bd = eqL d r.bd := eqL_same d h.map
theorem LikeR.ats {r s : R3} (h : LikeR r s) : atN s.bd = atN r.bd := by unfold atN; rw [h.av]
theorem LikeR.ruE {r s : R3} (h : LikeR r s) (d : Nat) (fs : List ByteArray) : ruE d s fs = ruE d r fs := by
  unfold Go.Proofs.YtheihplldbccpaaGreatDoor.ruE
  rw [h.ruleB, h.terms]
theorem anyX (l : List XL) : l.any opX = (l.map XL.x).any (fun x => x.k == 3 && (x.l.op != 0 || x.r.op != 0)) := by rw [List.any_map]; rfl
theorem LikeR.mkB {r s : R3} (h : LikeR r s) (d : Nat) (fs : List ByteArray) : mkB d s fs = mkB d r fs := by
  unfold Go.Proofs.YtheihplldbccpaaGreatDoor.mkB
  rw [h.ruE, anyX, anyX, h.map, h.av]
  have : termsR d (hdR s) = termsR d (hdR r) := by unfold termsR hdR; rw [h.hd]
  rw [this]
theorem rule_store (u : World) (r : R3) (p : RP) : (storeVar 25 ⟨u.heap.size, 0, none⟩ (r.val p)).run Tryz.prog (u.alloc (.cells #[.string ⟨#[]⟩, .slice none 0 0, .slice none 0 0] 25)) = .ok () (u.alloc (.cells (r.cells p).toArray 25)) :=
  run_storeVar_new u 25 #[.string ⟨#[]⟩, .slice none 0 0, .slice none 0 0] (r.cells p).toArray (by kernel_rfl) rfl (by simp [R3.cells, Value.oneCell'])
set_option maxHeartbeats 3200000 in
theorem checkRules_walk (d : Nat) (r : R3) (p : RP) (w : World) (hG : PWt w ∧ KT w) (hR : RIs w (d + 1) r p) :
    Calls Tryz.prog 3 #[r.val p] w fun e w' => e = .returned (.bool true) ∧ Below w.heap.size w w' := by
  have hB := belowA (w := w) (.cells (r.cells p).toArray 25)
  have HR0 := Lib.hid (rl_new w (r.cells p).toArray 25)
  have HB := Lib.hid hB
  have HR : Hid (∀ u, Below w.heap.size w u → RIs u (d + 1) r p) := fun u hu => hR.below hu
  have HG : Hid (∀ u, Below w.heap.size w u → PWt u ∧ KT u) := fun u hu => ⟨tab_below hG.1 hu, hG.2.below hu⟩
  have HC := Lib.hid (beyondRule_any (d + 1) r p _ (hR.below hB))
  have hld := (rule_loads HR0.out).1
  obtain ⟨fs, hfs⟩ := lim_ex (eqL (d + 1) r.bd) (atN r.bd) (eqL_ok _ _)
  have HF := Lib.hid hfs
  have hbox : (R3.val r p) = .agg #[.string r.pr, .slice p.a r.hd.length p.c, .slice p.ba r.bd.length p.bc] := rfl
  have hcl : (r.cells p).toArray = #[.string r.pr, .slice p.a r.hd.length p.c, .slice p.ba r.bd.length p.bc] := rfl
  rw [hbox] at hld HC ⊢
  rw [hcl] at hld HC HB HR0
  clear hB hR hG hfs hbox hcl
  go_enter Tryz.func3, Tryz.ntmps3
  go_wp2_with fail
  refine HC.out.mono ?_
  rintro e w1 ⟨b, rfl, b1, hs⟩
  have B1 : Hid (Below w.heap.size w w1) := HB.out.trans (b1.mono HB.out.size)
  have HR1 : Hid (RL w1 w.heap.size 25 (r.cells p)) := RL.below HR0.out b1
  have HS := Lib.hid hs
  clear b1 HB HR0 HC hld hs
  cases b
  · have hsm : smallR (d + 1) r := HS.out (by first | rfl | trivial)
    have HSM := Lib.hid hsm
    have hld1 := (rule_loads HR1.out).1
    have HT := Lib.hid (twinRule_any (d + 1) r p w1 (HG.out w1 B1.out).1 hsm.hd hsm.bd hsm.each (HR.out w1 B1.out))
    rw [show (R3.val r p) = .agg #[.string r.pr, .slice p.a r.hd.length p.c, .slice p.ba r.bd.length p.bc] from rfl] at hld1 HT
    clear HS hsm
    go_wp2_with fail
    refine HT.out.mono ?_
    rintro e w2 ⟨s, q, rfl, b2, hlk, htw⟩
    have B2 : Hid (Below w.heap.size w w2) := B1.out.trans (b2.mono B1.out.size)
    have hst := rule_store w2 s q
    have hB3 := belowA (w := w2) (.cells (s.cells q).toArray 25)
    have HRS := Lib.hid (rl_new w2 (s.cells q).toArray 25)
    have HB3 := Lib.hid hB3
    have HRR : Hid (RL (w2.alloc (.cells (s.cells q).toArray 25)) w.heap.size 25 (r.cells p)) := RL.below (RL.below HR1.out b2) hB3
    have HLK := Lib.hid hlk
    have HTW := Lib.hid (htw.below hB3)
    have HSI : Hid (RIs (w2.alloc (.cells (s.cells q).toArray 25)) (d + 1) s q) := (htw.below hB3).is hlk (HR.out w1 B1.out) HSM.out
    clear b2 hlk htw hB3 HT hld1
    generalize w2.alloc (.cells (s.cells q).toArray 25) = W at *
    have B3 : Hid (Below w.heap.size w W) := B2.out.trans (HB3.out.mono B2.out.size)
    have hD : Below W.heap.size W W.drew := (Below.refl _ _).drew
    have kW : ∀ u, Below W.heap.size W u → Below w.heap.size w u := fun u hu => B3.out.trans (hu.mono B3.out.size)
    have HLR : Hid (∀ u, Below W.heap.size W u → _) := fun u hu => (rule_loads (RL.below HRR.out hu)).1
    have HLS : Hid (∀ u, Below W.heap.size W u → _) := fun u hu => (rule_loads (RL.below HRS.out hu)).1
    have HSS := Lib.hid (HLK.out.small HSM.out)
    have HFS : Hid (Lim (eqL (d + 1) s.bd) (atN s.bd) fs) := by
      show Lim _ _ _
      rw [HLK.out.eqs, HLK.out.ats]
      exact HF.out
    have HC1 : Hid (Calls Tryz.prog 6 #[s.val q] W.drew fun e u1 => e = .returned (.int .i64 (ruE (d + 1) r fs)) ∧ Below W.heap.size W u1 ∧ Calls Tryz.prog 7 #[r.val p] u1 fun e u2 => e = .returned (.int .i64 (ruE (d + 1) r fs)) ∧ Below W.heap.size W u2 ∧ Calls Tryz.prog 8 #[s.val q] u2 fun e u3 => e = .returned (.bool (mkB (d + 1) r fs)) ∧ Below W.heap.size W u3 ∧ Calls Tryz.prog 9 #[r.val p] u3 fun e u4 => e = .returned (.bool (mkB (d + 1) r fs)) ∧ Below W.heap.size W u4 ∧ Calls Tryz.prog 10 #[s.val q, r.val p] u4 fun e u5 => e = .returned (.bool true) ∧ Below W.heap.size W u5) := by
      refine (ckRule_any d s q W.drew (HG.out _ (kW _ hD)).2 (HSI.out.below hD) HSS.out fs HFS.out).mono ?_
      rintro e u1 ⟨rfl, c1⟩
      have k1 : Below W.heap.size W u1 := hD.trans (c1.mono hD.size)
      refine ⟨by rw [HLK.out.ruE], k1, ?_⟩
      refine (rfRule_any d r p u1 (HR.out u1 (kW _ k1)) HSM.out fs HF.out).mono ?_
      rintro e u2 ⟨rfl, c2⟩
      have k2 : Below W.heap.size W u2 := k1.trans (c2.mono k1.size)
      refine ⟨rfl, k2, ?_⟩
      refine (ckMakes_any d s q u2 (HG.out _ (kW _ k2)).2 (HSI.out.below k2) HSS.out fs HFS.out).mono ?_
      rintro e u3 ⟨rfl, c3⟩
      have k3 : Below W.heap.size W u3 := k2.trans (c3.mono k2.size)
      refine ⟨by rw [HLK.out.mkB], k3, ?_⟩
      refine (rfMakes_any d r p u3 (HR.out u3 (kW _ k3)) HSM.out fs HF.out).mono ?_
      rintro e u4 ⟨rfl, c4⟩
      have k4 : Below W.heap.size W u4 := k3.trans (c4.mono k3.size)
      refine ⟨rfl, k4, ?_⟩
      refine (leftRule_any (d + 1) r s p q w1.heap.size u4 (HG.out _ (kW _ k4)).1 HLK.out HSM.out (HTW.out.below k4) (HR.out u4 (kW _ k4))).mono ?_
      rintro e u5 ⟨rfl, c5⟩
      exact ⟨rfl, k4.trans (c5.mono k4.size)⟩
    have HKW := Lib.hid kW
    have HDD := Lib.hid hD
    generalize ruE (d + 1) r fs = er at HC1
    generalize mkB (d + 1) r fs = mk at HC1
    have hq1 : ∀ u, (binOp .eql 28 (.int .i64 er) (.int .i64 er)).run Tryz.prog u = .ok (.bool true) u := fun u => by go_simp
    have hq2 : ∀ u, (binOp .eql 4 (.bool mk) (.bool mk)).run Tryz.prog u = .ok (.bool true) u := fun u => by go_simp
    generalize R3.val s q = tv at hst HLS HC1
    generalize R3.val r p = rv at HLR HC1
    have HQ1 := Lib.hid hq1
    have HQ2 := Lib.hid hq2
    clear kW hD HR HG HF HSM HSS HFS HSI HTW HLK HRR HRS HR1 HB3 B2 B1 hq1 hq2
    go_upto_region 4 with fail
    refine wp_region_noPanic ?_
    refine wp_region_held (S := fun u => Below W.heap.size W u) (by kernel_rfl) ?_
    refine cklaw (w5 := W) (S := fun u => Below W.heap.size W u) (b := w.heap.size) (tb := w2.heap.size) (rv := rv) (tv := tv) (er := er) (mk := mk) rfl rfl rfl rfl rfl rfl rfl rfl rfl rfl rfl rfl rfl rfl rfl rfl rfl rfl (by kernel_rfl) (by kernel_rfl) (by kernel_rfl) (by kernel_rfl) (by kernel_rfl) (by kernel_rfl) (by kernel_rfl) (by kernel_rfl) (fun _ _ _ _ _ h => h) (by simp) rfl rfl HDD.out (fun _ _ _ h => h) (fun u hu => HLR.out u hu) (fun u hu => HLS.out u hu) HQ1.out HQ2.out HC1.out ?_
    intro wc hwc
    have B4 : Hid (Below w.heap.size w wc) := HKW.out _ hwc
    clear hwc HC1 HLR HLS HKW HDD hst HQ1 HQ2
    refine NoPanic.normal ?_
    rename_i hK
    refine hK _ _ ?_
    simp (config := { maxSteps := 8000000 }) only [Act.put, List.getElem_toArray, List.getElem_cons_zero, List.getElem_cons_succ, List.setIfInBounds_toArray, List.set_cons_succ, List.set_cons_zero]
    go_wp2
    go_ret
    exact ⟨by first | rfl | simp, B4.out⟩
  · clear HS
    go_wp2
    go_ret
    exact ⟨by first | rfl | simp, B1.out⟩
end Go.Proofs.YtheihplldbccpaaGreatDoor
