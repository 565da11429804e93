import Derived.Test.YtfkggabdjcabcaaRelKeepA
namespace Go.Proofs.Ytfkggabdjcabcaa
open Go.RowKit Go.Maps Go.ChangeMaps
set_option linter.unusedVariables false
set_option linter.unusedSimpArgs false
attribute [local go_sem ↓] Go.wp_at_zero Go.wp_at_succ

set_option maxHeartbeats 3200000 in
set_option maxRecDepth 100000 in
theorem keep_any {w : World} {a : Option Addr} {c : Nat} {rows : List (List Int)} (hx : LrC w (.slice a rows.length c) rows) (hnil : a = none → rows = [] ∧ c = 0) (hl : rows.length ≤ 1000000000) (ok : ∀ r ∈ rows, RowOk r) (nd : rows.Nodup) :
    Calls Try.prog 21 #[.slice a rows.length c] w fun e w' => ∃ sv m, e = .returned (.agg #[sv, .map (some m)]) ∧ w'.ownsRow (w.heap.size + 1) 27 24 sv rows.length (flatR rows) ∧ MapR w' m rows ∧ w.heap.size ≤ m ∧ (∀ g, sv.ownBlock = some g → g ≠ m) ∧ Below w.heap.size w w' := by
  have hmm := makeMapN rows.length
  have HCL : Hid (∀ u, Below w.heap.size w u → Calls Try.prog 27 #[.slice a rows.length c] u fun e w' => ∃ a2 c2, e = .returned (.slice a2 rows.length c2) ∧ w'.ownsRow u.heap.size 27 24 (.slice a2 rows.length c2) rows.length (flatR rows) ∧ Below u.heap.size u w') := fun u hu => (cloneRows_any (hx.below hu) hnil hl).mono (fun e w' h => by
    obtain ⟨sv, rfl, ho, hb⟩ := h
    obtain ⟨a2, c2, rfl, _⟩ := own_form ho
    exact ⟨a2, c2, rfl, ho, hb⟩)
  have k0 : Kp w rows none none none (w.alloc (.cells #[.slice none 0 0, .map none] 58)) := ⟨belowA _, by simp, rl_new w _ _, fun b e => (by cases e), fun b e => (by cases e), fun b e => (by cases e), fun b c e => (by cases e), fun v b g e => (by cases e), fun v b g e => (by cases e)⟩
  have HON := Lib.hid (And.intro ok nd)
  clear hx hnil ok nd
  go_enter Try.func21, Try.ntmps21
  go_upto_region 1 with fail
  have hsW : w.heap.size + 1 = (w.alloc (.cells #[.slice none 0 0, .map none] 58)).heap.size := by simp
  generalize w.alloc (.cells #[.slice none 0 0, .map none] 58) = W at k0 hsW ⊢
  have hd : ∀ u : World, Below u.heap.size u u.drew := fun u => (Below.refl _ _).drew
  have KP1 := Lib.hid (k0.keep (hd _))
  have KP2 := Lib.hid (k0.box.keep (hd _))
  have KP3 := Lib.hid (k0.map.keep (hd _))
  have k4 := k0.box.map.keep (hd _)
  have k5 := k0.map.box.keep (hd _)
  simp only [World.size_alloc] at k4 k5
  have KP4 := Lib.hid k4
  have KP5 := Lib.hid k5
  have HSW := Lib.hid hsW
  clear hd hsW k0 k4 k5
  go_cut [3] (fun p wc => ∃ bx m sv, p = .pointer (some ⟨bx, 0, none⟩) ∧ Hid (Kd w rows bx m sv wc))
  case first =>
    go_region_law (
      refine step_call rfl 27 Try.func27 (by kernel_rfl) (by kernel_rfl) #[.tmp 4] _ rfl #[.slice a rows.length c] (by simp [Act.eval, Act.put]) (HCL.out _ (by first | exact KP1.out.bel | exact KP2.out.bel | exact KP3.out.bel | exact KP4.out.bel | exact KP5.out.bel)) ?_
      rintro ee w2 ⟨a2, c2, rfl, ho, hb⟩
      refine ⟨_, rfl, ?_⟩
      first
        | have HKb := Lib.hid (KP1.out.call hb ho)
        | have HKb := Lib.hid (KP2.out.call hb ho)
        | have HKb := Lib.hid (KP3.out.call hb ho)
        | have HKb := Lib.hid (KP4.out.call hb ho)
        | have HKb := Lib.hid (KP5.out.call hb ho)
      try have z0 := (HKb.out.hb _ rfl).2.at (j := 0) rfl
      try have z1 := (HKb.out.hb _ rfl).2.at (j := 1) rfl
      try have f0 := World.rowIs.frozen (HKb.out.hb _ rfl).2 0
      try have f1 := World.rowIs.frozen (HKb.out.hb _ rfl).2 1
      try have y0 := (HKb.out.map.hb _ rfl).2.at (j := 0) rfl
      try have y1 := (HKb.out.map.hb _ rfl).2.at (j := 1) rfl
      try have g0 := World.rowIs.frozen (HKb.out.map.hb _ rfl).2 0
      try have g1 := World.rowIs.frozen (HKb.out.map.hb _ rfl).2 1
      clear ho hb)
    all_goals
      go_wp2_with fail
      go_meet
      first
        | exact ⟨_, _, _, rfl, HKb.out.done⟩
        | exact ⟨_, _, _, rfl, HKb.out.map.done⟩
        | exact ⟨_, _, _, rfl, HKb.out.boxD⟩
        | exact ⟨_, _, _, rfl, HKb.out.boxM⟩
        | (have hz := HKb.out.map.boxD; simp only [World.size_alloc] at hz; exact ⟨_, _, _, rfl, hz⟩)
  case rest =>
    obtain ⟨bx, m, sv, rfl, HK⟩ := hcut
    clear KP1 KP2 KP3 KP4 KP5 HSW HCL hmm
    obtain ⟨a2, c2, rfl, _⟩ := own_form HK.out.own
    have HNUM := Lib.hid (number_any (HK.out.r1.at (j := 0) rfl) (HK.out.r1.at (j := 1) rfl) (World.rowIs.lt HK.out.r1) HK.out.own HON.out.1 HON.out.2 HK.out.map ⟨HK.out.ne.1, fun g hg => (HK.out.nv g hg).2⟩ hl)
    go_wp2_with fail
    refine HNUM.out.mono ?_
    rintro e w3 ⟨⟨u, rfl⟩, hm3, hbs⟩
    have r0 := HK.out.r0.beside hbs (by have := HK.out.ne.2.2; omega)
    have r1 := HK.out.r1.beside hbs HK.out.ne.1
    have own3 := own_of_block HK.out.own (w' := w3) (fun g hg => hbs.block g (HK.out.own.lt g hg).2 (HK.out.nv g hg).2)
    have b3 : Below w.heap.size w w3 := HK.out.bel.trans ⟨hbs.os, hbs.tape, hbs.output, hbs.size, fun k hk => hbs.block k (by have := HK.out.bel.size; omega) (by have := HK.out.ne.2.2; omega)⟩
    have x0 := r1.at (j := 0) rfl
    have x1 := r1.at (j := 1) rfl
    have z0 := r0.at (j := 0) rfl
    have z1 := r0.at (j := 1) rfl
    have f0 := World.rowIs.frozen r0 0
    have f1 := World.rowIs.frozen r0 1
    have HR0 := Lib.hid r0
    have HM3 := Lib.hid hm3
    have HB3 := Lib.hid b3
    have HO3 := Lib.hid own3
    have HNE := Lib.hid (And.intro HK.out.ne HK.out.nv)
    clear HK hbs r0 r1 own3 hm3 b3 HNUM HON
    go_wp2
    have hfin := ((HR0.out.set 0 (.slice a2 rows.length c2)).set 1 (.map (some m)))
    have hblk : ∀ k, k ≠ w.heap.size → ((w3.setCell ⟨w.heap.size, 0, none⟩ (.slice a2 rows.length c2)).setCell ⟨w.heap.size, 1, none⟩ (.map (some m))).heap[k]? = w3.heap[k]? := fun k hk => by
      rw [heap_setCell_other _ _ _ _ (by exact hk), heap_setCell_other _ _ _ _ (by exact hk)]
    refine bodyPost_ret (rl_results Try.results21 (v := .agg #[.slice a2 rows.length c2, .map (some m)]) rfl (run_loadVar_mid _ _ 0 58 [.slice a2 rows.length c2, .map (some m)] _ (RL.range hfin) Try.underlying58 rfl (by kernel_rfl))) rfl ⟨_, m, rfl, ?_, ?_, by have := HNE.out.1.2.2; omega, fun g hg => (HNE.out.2 g hg).2, ?_⟩
    · exact own_of_block HO3.out (fun g hg => hblk g (by have := (HO3.out.lt g hg).1; omega))
    · exact HM3.out.of_block (hblk m (by have := HNE.out.1.2.2; omega))
    · exact (HB3.out.setCell (p := ⟨w.heap.size, 0, none⟩) (Nat.le_refl _) _).setCell (p := ⟨w.heap.size, 1, none⟩) (Nat.le_refl _) _
end Go.Proofs.Ytfkggabdjcabcaa
