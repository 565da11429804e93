import Derived.Test.YtjcfhhcohmcehaaGreatDoorRkF
namespace Go.Proofs.YtjcfhhcohmcehaaGreatDoor.BK
open Go.RowKit Go.Maps
set_option linter.unusedVariables false
set_option linter.unusedSimpArgs false
attribute [local go_sem ↓] Go.wp_at_zero Go.wp_at_succ

theorem infoKI : (Tryz.prog.info? 3).map (fun i => (i.zero, i.size, i.bytes)) = some (some (.int .i64 0), 1, 8) := by kernel_rfl
theorem infoKR : (Tryz.prog.info? 27).map (fun i => (i.zero, i.size, i.bytes)) = some (some (.agg #[.int .i32 0, .int .i32 0, .int .i32 0, .int .i32 0, .int .i32 0, .int .i32 0, .int .i32 0, .int .i32 0, .int .i32 0, .int .i32 0, .int .i32 0, .int .i32 0, .int .i32 0, .int .i32 0, .int .i32 0, .int .i32 0, .int .i32 0, .int .i32 0, .int .i32 0, .int .i32 0, .int .i32 0, .int .i32 0, .int .i32 0, .int .i32 0]), 24, 96) := by kernel_rfl
/-- the same lists, with longer ones beside them -/
def Like (l l' : List Hd) : Prop := l'.length = l.length ∧ ∀ i, i < l.length → (atH l' i).a = (atH l i).a ∧ (atH l' i).n = (atH l i).n ∧ (atH l' i).c = (atH l i).c ∧ (atH l' i).m = (atH l i).m
theorem Like.refl (l : List Hd) : Like l l := ⟨rfl, fun _ _ => ⟨rfl, rfl, rfl, rfl⟩⟩
theorem atH_set {l : List Hd} {i j : Nat} (h : Hd) (hj : j < l.length) : atH (l.set i h) j = if j = i then h else atH l j := by
  by_cases e : j = i
  · subst e; simp [atH, List.getD, hj]
  · rw [if_neg e]; simp [atH, List.getD, List.getElem?_set_ne (Ne.symm e)]
theorem Like.set {l l' : List Hd} (h : Like l l') {i : Nat} (hi : i < l.length) (a : Option Addr) (n c : Nat) : Like l (l'.set i { atH l' i with la := a, ln := n, lc := c }) := by
  refine ⟨by rw [List.length_set]; exact h.1, fun j hj => ?_⟩
  rw [atH_set _ (by rw [h.1]; exact hj)]
  by_cases e : j = i
  · subst e; rw [if_pos rfl]; exact h.2 j hj
  · rw [if_neg e]; exact h.2 j hj
theorem Like.blk {l l' : List Hd} (h : Like l l') {i : Nat} (hi : i < l.length) : (atH l' i).blk = (atH l i).blk := by
  obtain ⟨h1, h2, h3, _⟩ := h.2 i hi
  unfold Hd.blk
  rw [h1, h2, h3]
theorem Like.sv {l l' : List Hd} (h : Like l l') {i : Nat} (hi : i < l.length) : (atH l' i).sv = (atH l i).sv := by
  obtain ⟨h1, h2, h3, _⟩ := h.2 i hi
  unfold Hd.sv
  rw [h1, h2, h3]
theorem Fil.like {K : Kd} {S : Nat} {w : World} {h h' : Hd} (f : Fil K S w h) (h1 : h'.a = h.a) (h2 : h'.n = h.n) (h3 : h'.c = h.c) (h4 : h'.m = h.m) : Fil K S w h' := by
  obtain ⟨xs, x1, x2, x3⟩ := f
  refine ⟨xs, by rw [h2]; exact x1, ?_, by rw [h4]; exact x3⟩
  unfold Hd.sv at x2 ⊢
  rw [h1, h2, h3, h4]
  exact x2
theorem Bk.longI {w : World} {bk B n r cr i : Nat} {vR : Value} {hsI hsR : List Hd} (h0 : Bk w bk B n (.slice (some ⟨r, 0, none⟩) hsI.length cr) vR hsI hsR) (hi : i < hsI.length) (a : Option Addr) (n2 c2 : Nat) : Bk (w.setCell ⟨r, i * 3 + 1, none⟩ (.slice a n2 c2)) bk B n (.slice (some ⟨r, 0, none⟩) hsI.length cr) vR (hsI.set i { atH hsI i with la := a, ln := n2, lc := c2 }) hsR := by
  have hr := (h0.rI.lt r rfl).1
  have hbk := h0.lt
  refine ⟨World.rowIs.setOther h0.box (by show bk ≠ r; omega) _, by rw [List.length_set, ← flat_setH _ _ _ _ _ hi]; exact (h0.rI.stored (i * 3 + 1) _).1, own_of_block h0.rR (fun g hg => heap_setCell_other _ _ _ _ (fun e => h0.dIR.flip g hg (by show some r = some g; exact congrArg some e.symm))), h0.dIR, hbk⟩
theorem Bk.longR {w : World} {bk B n r cr i : Nat} {vI : Value} {hsI hsR : List Hd} (h0 : Bk w bk B n vI (.slice (some ⟨r, 0, none⟩) hsR.length cr) hsI hsR) (hi : i < hsR.length) (a : Option Addr) (n2 c2 : Nat) : Bk (w.setCell ⟨r, i * 3 + 1, none⟩ (.slice a n2 c2)) bk B n vI (.slice (some ⟨r, 0, none⟩) hsR.length cr) hsI (hsR.set i { atH hsR i with la := a, ln := n2, lc := c2 }) := by
  have hr := (h0.rR.lt r rfl).1
  have hbk := h0.lt
  refine ⟨World.rowIs.setOther h0.box (by show bk ≠ r; omega) _, own_of_block h0.rI (fun g hg => heap_setCell_other _ _ _ _ (fun e => h0.dIR g hg (by show some r = some g; exact congrArg some e.symm))), by rw [List.length_set, ← flat_setH _ _ _ _ _ hi]; exact (h0.rR.stored (i * 3 + 1) _).1, h0.dIR, hbk⟩
attribute [-go_sem] Builtin.append_
set_option maxHeartbeats 6400000 in
set_option maxRecDepth 100000 in
theorem growI_any {w : World} {L bk B n S : Nat} {vI vR : Value} {hsI hsR : List Hd} (hB : Bk w bk B n vI vR hsI hsR) (hBS : B ≤ S) (hS : S ≤ w.heap.size) (hRW : ∀ g, vI.ownBlock = some g → g < S) (hR : Rg KI w L bk B hsI) (hFil : ∀ h ∈ hsI, Fil KI S w h) :
    Calls Tryz.prog 119 #[.pointer (some ⟨bk, 0, none⟩)] w fun e w' => e = .returned (.tuple #[]) ∧ Tch (fun g => RG hsI g ∨ vI.ownBlock = some g) w w' ∧ ∃ hx, Like hsI hx ∧ Bk w' bk B n vI vR hx hsR ∧ ∀ h ∈ hx, Dn KI S w' h := by
  obtain ⟨i0, hi0, hz0, hz1, hz2⟩ := info_partsB infoKI
  have HR := Lib.hid hR
  have HFI := Lib.hid hFil
  have HRW := Lib.hid hRW
  obtain ⟨av, cv, hvv, _⟩ := own_form hB.rI
  have hll := hR.len
  clear hR hFil hRW
  subst hvv
  have HB0 := Lib.hid hB
  clear hB
  go_enter Tryz.func119, Tryz.ntmps119
  go_wp2
  go_loopw [2] (fun iv wr => ∃ (i : Nat) (hx : List Hd), i ≤ hsI.length ∧ iv = .int .i64 i ∧ Hid (Like hsI hx) ∧ Hid (Tch (fun g => RG hsI g ∨ (Value.slice av hsI.length cv).ownBlock = some g) w wr) ∧ Hid (Bk wr bk B n (.slice av hsI.length cv) vR hx hsR) ∧ Hid (∀ j, j < i → Dn KI S wr (atH hx j)) ∧ Hid (∀ j, i ≤ j → j < hsI.length → Fil KI S wr (atH hx j))) (fun iv _ => hsI.length - (intOf iv).toNat)
  case atStart => exact ⟨0, hsI, Nat.zero_le _, rfl, Like.refl _, Tch.refl _ _, HB0, fun j hj => absurd hj (by omega), fun j _ hj => HFI.out _ (atH_mem hj)⟩
  case round =>
    obtain ⟨i, hx, hi, rfl, HLK, HT, HBR, HD, HF⟩ := hrel
    have m1 := HBR.out.box.at (j := 14) rfl
    by_cases hlt : i < hsI.length
    · have hlt' : (i : Int) < (hsI.length : Int) := by omega
      have hi0' : (0 : Int) ≤ (i : Int) := by omega
      have hxl : i < hx.length := by rw [HLK.out.1]; exact hlt
      obtain ⟨r, cr, e1, hrb, hrB, hrs, hrow⟩ := rowAt HBR.out.rI (by omega)
      simp only [Value.slice.injEq] at e1
      obtain ⟨rfl, _, rfl⟩ := e1
      have HH := Lib.hid (hrow i hxl)
      have HBL : Hid (∀ g, (atH hx i).blk = some g → L ≤ g ∧ g < B ∧ g ≠ bk) := fun g hg => HR.out.blt _ (atH_mem hlt) g (by rw [← HLK.out.blk hlt]; exact hg)
      have HNM : Hid ((atH hx i).m ≤ 2000000000 ∧ (atH hx i).n ≤ 2097152) := by
        have h1 := HR.out.num _ (atH_mem hlt)
        obtain ⟨_, q2, _, q4⟩ := HLK.out.2 i hlt
        show _ ∧ _
        rw [q2, q4]
        exact h1
      have HFI1 := Lib.hid (HF.out i (Nat.le_refl _) hlt)
      have HND : Hid (∀ j, j ≠ i → j < hsI.length → ApH (atH hx j) (atH hx i)) := fun j hj hj2 g h1 h2 => nd_at HR.out.nd hj hj2 hlt g (by rw [← HLK.out.blk hj2]; exact h1) (by rw [← HLK.out.blk hlt]; exact h2)
      have HRs : Hid (r < S) := HRW.out r rfl
      obtain ⟨h, hh⟩ : ∃ h, h = atH hx i := ⟨_, rfl⟩
      rw [← hh] at HH HBL HNM HFI1 HND
      have HHH := Lib.hid hh
      have y0 : wr.cell? ⟨r, i * 3, none⟩ = some (.slice h.a h.n h.c) := HH.out 0 _ rfl
      have y1 : wr.cell? ⟨r, i * 3 + 1, none⟩ = some (.slice h.la h.ln h.lc) := HH.out 1 _ rfl
      have y2 : wr.cell? ⟨r, i * 3 + 2, none⟩ = some (.int .i64 h.m) := HH.out 2 _ rfl
      have HY1 := Lib.hid y1
      have hn1 := HNM.out.2
      have HGB : Hid (∀ g, h.blk = some g → g < S) := fun g hg => Nat.lt_of_lt_of_le (HBL.out g hg).2.1 hBS
      have HWS : Hid (S ≤ wr.heap.size) := Nat.le_trans hS HT.out.size
      have hA : Below wr.heap.size wr (wr.alloc (.cells #[.slice h.a h.n h.c, .slice h.la h.ln h.lc, .int .i64 h.m] 108)) := (Below.refl _ _).alloc (Nat.le_refl _) _
      have HBOX := Lib.hid (rl_new wr #[.slice h.a h.n h.c, .slice h.la h.ln h.lc, .int .i64 h.m] 108)
      have HAL := Lib.hid hA
      have HGR0 := Lib.hid (Gr.start (HFI1.out.keep hA.size (fun g hg _ => hA.block g hg)) HGB.out)
      have z0 := HBOX.out.at (j := 0) rfl
      clear hh hrow hA HH HFI1
      obtain ⟨W1, rfl⟩ : ∃ W1, W1 = wr := ⟨_, rfl⟩
      go_wp2
      generalize W1.alloc (.cells #[.slice h.a h.n h.c, .slice h.la h.ln h.lc, .int .i64 h.m] 108) = Wb at HBOX HAL HGR0 z0 ⊢
      clear y0 y1 y2 m1 z0
      have HWb : Hid (S ≤ Wb.heap.size) := Nat.le_trans HWS.out HAL.out.size
      go_loopw [4, 5] (fun lv kv wr => ∃ (k : Nat) (la : Option Addr) (lc : Nat), k ≤ 70 ∧ kv = .int .i64 k ∧ lv = .slice la (h.n + k) lc ∧ Hid (∃ ys, Gr KI S h Wb wr k (.slice la (h.n + k) lc) ys)) (fun _ kv _ => 70 - (intOf kv).toNat)
      case atStart => exact ⟨0, h.a, h.c, by omega, rfl, rfl, HGR0⟩
      case round =>
        obtain ⟨k, la, lc, hk, rfl, rfl, HGR⟩ := hrel
        obtain ⟨ys, hgr⟩ := HGR.out
        have HG := Lib.hid hgr
        have HBI : Hid (RL wr W1.heap.size 108 [.slice h.a h.n h.c, .slice h.la h.ln h.lc, .int .i64 h.m]) := World.rowIs.of_block HBOX.out (hgr.tch.block _ (World.rowIs.lt HBOX.out) (fun e => by have := HGB.out _ e; have := HWS.out; omega))
        clear hgr HGR
        by_cases hkl : k < 70
        · have hkl' : (k : Int) < 70 := by omega
          have x2 := HBI.out.at (j := 2) rfl
          have hnn := HNM.out.1
          go_wp2_with fail
          refine (markIn h.m hnn _).mono ?_
          rintro ee w2 ⟨rfl, b2⟩
          obtain ⟨v', w4, hrun, hown', hgrow, hloc⟩ := run_append_own2 (P := Tryz.prog) (w2.alloc (.cells #[.int .i64 (-1000 - (h.m : Int))] 3)) 0 33 33 3 i0 _ 1 8 Tryz.underlying33 hi0 hz0 hz1 hz2 rfl (by decide) (.slice la (h.n + k) lc) (h.n + k) _ (own_below (own_below HG.out.own b2) ((Below.refl _ _).alloc (Nat.le_refl _) _)) ⟨w2.heap.size, 0, none⟩ 1 1 [.int .i64 (-1000 - (h.m : Int))] rfl (lit_news w2 #[.int .i64 (-1000 - (h.m : Int))] _) (by simp [Value.oneCell']) (by unfold maxLen; omega) (by omega) (Nat.zero_le _) (by omega)
          obtain ⟨a4, c4, rfl, _⟩ := own_form hown'
          have HNX : Hid (∃ ys, Gr KI S h Wb w4 (k + 1) (.slice a4 (h.n + (k + 1)) c4) ys) := ⟨_, HG.out.step HGB.out HWb.out b2 (x := ()) (trivial) (fun b e => by cases e) hown' hgrow hloc⟩
          clear b2 hown' hgrow hloc HG HBI
          go_wp2
          go_roundw
          case rel => exact ⟨k + 1, a4, c4, by omega, by go_num, rfl, HNX⟩
          case measure => simp [intOf]; omega
        · obtain rfl : k = 70 := by omega
          have HDN := Lib.hid (HG.out.done HGB.out HWb.out)
          have HT2 : Hid (Tch (fun g => h.blk = some g) W1 wr) := (Tch.of_below HAL.out).trans HG.out.tch
          have HBW : Hid (Bk wr bk B n (.slice (some ⟨r, 0, none⟩) hsI.length cv) vR hx hsR) := HBR.out.keep (fun g hg hor => HT2.out.block g hg (fun e => by
            obtain ⟨_, q1, q2⟩ := HBL.out g e
            rcases hor with rfl | q | q
            · exact q2 rfl
            · have := (HBR.out.rI.lt g q).1; omega
            · have := (HBR.out.rR.lt g q).1; omega))
          have p1 := HBW.out.box.at (j := 14) rfl
          have hro := HBW.out.rI
          have p2 : wr.cell? ⟨r, i * 3 + 1, none⟩ = some (.slice h.la h.ln h.lc) := by
            have q := (HT2.out.block r hrs (fun e => by have := (HBL.out r e).2.1; omega))
            have : wr.cell? ⟨r, i * 3 + 1, none⟩ = W1.cell? ⟨r, i * 3 + 1, none⟩ := by unfold World.cell?; rw [q]
            rw [this]
            exact HY1.out
          have p3 : wr.frozen? ⟨r, i * 3 + 1, none⟩ = false := by
            rw [HLK.out.1] at hro
            exact hro.frozenAt _
          have HBN : Hid (Bk (wr.setCell ⟨r, i * 3 + 1, none⟩ (.slice la (h.n + 70) lc)) bk B n (.slice (some ⟨r, 0, none⟩) hsI.length cv) vR (hx.set i { atH hx i with la := la, ln := h.n + 70, lc := lc }) hsR) := by
            have q := HBW.out
            rw [← HLK.out.1] at q ⊢
            exact q.longI hxl la (h.n + 70) lc
          have HLN : Hid (Like hsI (hx.set i { atH hx i with la := la, ln := h.n + 70, lc := lc })) := HLK.out.set hlt _ _ _
          have HTN : Hid (Tch (fun g => RG hsI g ∨ (Value.slice (some ⟨r, 0, none⟩) hsI.length cv).ownBlock = some g) w (wr.setCell ⟨r, i * 3 + 1, none⟩ (.slice la (h.n + 70) lc))) := (HT.out.trans (HT2.out.mono (fun g _ e => .inl ⟨_, atH_mem hlt, by rw [← HLK.out.blk hlt, ← HHH.out]; exact e⟩))).setCell (p := ⟨r, i * 3 + 1, none⟩) (.inr (.inr rfl)) _
          have hst : ∀ g, g < wr.heap.size → (S ≤ g ∨ ∃ j, j ≠ i ∧ j < hsI.length ∧ (atH hx j).blk = some g) → (wr.setCell ⟨r, i * 3 + 1, none⟩ (.slice la (h.n + 70) lc)).heap[g]? = wr.heap[g]? := fun g hg hor => heap_setCell_other _ _ _ _ (fun e => by
            have hr9 : g = r := e
            rcases hor with q | ⟨j, j1, j2, q⟩
            · have := HRs.out; omega
            · have := (HR.out.blt _ (atH_mem j2) g (by rw [← HLK.out.blk j2]; exact q)).2.1
              omega)
          have hstb : ∀ g, g < W1.heap.size → (S ≤ g ∨ ∃ j, j ≠ i ∧ j < hsI.length ∧ (atH hx j).blk = some g) → (wr.setCell ⟨r, i * 3 + 1, none⟩ (.slice la (h.n + 70) lc)).heap[g]? = W1.heap[g]? := fun g hg hor => by
            rw [hst g (Nat.lt_of_lt_of_le hg HT2.out.size) hor]
            refine HT2.out.block g hg (fun e => ?_)
            rcases hor with q | ⟨j, j1, j2, q⟩
            · have := HGB.out g e; omega
            · exact HND.out j j1 j2 g q e
          have HDX : Hid (∀ j, j < i + 1 → Dn KI S (wr.setCell ⟨r, i * 3 + 1, none⟩ (.slice la (h.n + 70) lc)) (atH (hx.set i { atH hx i with la := la, ln := h.n + 70, lc := lc }) j)) := fun j hj => by
            rw [atH_set _ (by omega)]
            by_cases e : j = i
            · rw [if_pos e, ← HHH.out]
              exact HDN.out.keep (by simp) (fun g hg hor => heap_setCell_other _ _ _ _ (fun e => by
                have hr9 : g = r := e
                rcases hor with q | q
                · have := HRs.out; omega
                · have := (HBL.out g q).2.1; omega))
            · rw [if_neg e]
              exact (HD.out j (by omega)).keep (by have := HT2.out.size; simpa using this) (fun g hg hor => hstb g hg (hor.imp_right (fun q => ⟨j, e, by omega, q⟩)))
          have HFX : Hid (∀ j, i + 1 ≤ j → j < hsI.length → Fil KI S (wr.setCell ⟨r, i * 3 + 1, none⟩ (.slice la (h.n + 70) lc)) (atH (hx.set i { atH hx i with la := la, ln := h.n + 70, lc := lc }) j)) := fun j hj hj2 => by
            rw [atH_set _ (by rw [HLK.out.1]; exact hj2), if_neg (by omega)]
            exact (HF.out j (by omega) hj2).keep (by have := HT2.out.size; simpa using this) (fun g hg hor => hstb g hg (hor.imp_right (fun q => ⟨j, by omega, hj2, q⟩)))
          clear hst hstb hro HBI HG HBOX HBW HBR HGR0 HDN HF HD
          go_wp2
          go_roundw
          case rel => exact ⟨i + 1, _, by omega, by go_num, HLN, HTN, HBN, HDX, HFX⟩
          case measure => simp [intOf]; omega
    · obtain rfl : i = hsI.length := by omega
      have HFA : Hid (∀ h ∈ hx, Dn KI S wr h) := fun h hm => by
        obtain ⟨j, hj, rfl⟩ := mem_atH hm
        exact HD.out j (by rw [← HLK.out.1]; exact hj)
      go_wp2
      go_end0
      exact ⟨rfl, HT.out, hx, HLK.out, HBR.out, HFA.out⟩
attribute [-go_sem] Builtin.append_
set_option maxHeartbeats 6400000 in
set_option maxRecDepth 100000 in
theorem growR_any {w : World} {L bk B n S : Nat} {vI vR : Value} {hsI hsR : List Hd} (hB : Bk w bk B n vI vR hsI hsR) (hBS : B ≤ S) (hS : S ≤ w.heap.size) (hRW : ∀ g, vR.ownBlock = some g → g < S) (hR : Rg KR w L bk B hsR) (hFil : ∀ h ∈ hsR, Fil KR S w h) :
    Calls Tryz.prog 120 #[.pointer (some ⟨bk, 0, none⟩)] w fun e w' => e = .returned (.tuple #[]) ∧ Tch (fun g => RG hsR g ∨ vR.ownBlock = some g) w w' ∧ ∃ hx, Like hsR hx ∧ Bk w' bk B n vI vR hsI hx ∧ ∀ h ∈ hx, Dn KR S w' h := by
  obtain ⟨i0, hi0, hz0, hz1, hz2⟩ := info_partsB infoKR
  have HR := Lib.hid hR
  have HFI := Lib.hid hFil
  have HRW := Lib.hid hRW
  obtain ⟨av, cv, hvv, _⟩ := own_form hB.rR
  have hll := hR.len
  clear hR hFil hRW
  subst hvv
  have HB0 := Lib.hid hB
  clear hB
  go_enter Tryz.func120, Tryz.ntmps120
  go_wp2
  go_loopw [2] (fun iv wr => ∃ (i : Nat) (hx : List Hd), i ≤ hsR.length ∧ iv = .int .i64 i ∧ Hid (Like hsR hx) ∧ Hid (Tch (fun g => RG hsR g ∨ (Value.slice av hsR.length cv).ownBlock = some g) w wr) ∧ Hid (Bk wr bk B n vI (.slice av hsR.length cv) hsI hx) ∧ Hid (∀ j, j < i → Dn KR S wr (atH hx j)) ∧ Hid (∀ j, i ≤ j → j < hsR.length → Fil KR S wr (atH hx j))) (fun iv _ => hsR.length - (intOf iv).toNat)
  case atStart => exact ⟨0, hsR, Nat.zero_le _, rfl, Like.refl _, Tch.refl _ _, HB0, fun j hj => absurd hj (by omega), fun j _ hj => HFI.out _ (atH_mem hj)⟩
  case round =>
    obtain ⟨i, hx, hi, rfl, HLK, HT, HBR, HD, HF⟩ := hrel
    have m1 := HBR.out.box.at (j := 15) rfl
    by_cases hlt : i < hsR.length
    · have hlt' : (i : Int) < (hsR.length : Int) := by omega
      have hi0' : (0 : Int) ≤ (i : Int) := by omega
      have hxl : i < hx.length := by rw [HLK.out.1]; exact hlt
      obtain ⟨r, cr, e1, hrb, hrB, hrs, hrow⟩ := rowAt HBR.out.rR (by omega)
      simp only [Value.slice.injEq] at e1
      obtain ⟨rfl, _, rfl⟩ := e1
      have HH := Lib.hid (hrow i hxl)
      have HBL : Hid (∀ g, (atH hx i).blk = some g → L ≤ g ∧ g < B ∧ g ≠ bk) := fun g hg => HR.out.blt _ (atH_mem hlt) g (by rw [← HLK.out.blk hlt]; exact hg)
      have HNM : Hid ((atH hx i).m ≤ 2000000000 ∧ (atH hx i).n ≤ 2097152) := by
        have h1 := HR.out.num _ (atH_mem hlt)
        obtain ⟨_, q2, _, q4⟩ := HLK.out.2 i hlt
        show _ ∧ _
        rw [q2, q4]
        exact h1
      have HFI1 := Lib.hid (HF.out i (Nat.le_refl _) hlt)
      have HND : Hid (∀ j, j ≠ i → j < hsR.length → ApH (atH hx j) (atH hx i)) := fun j hj hj2 g h1 h2 => nd_at HR.out.nd hj hj2 hlt g (by rw [← HLK.out.blk hj2]; exact h1) (by rw [← HLK.out.blk hlt]; exact h2)
      have HRs : Hid (r < S) := HRW.out r rfl
      obtain ⟨h, hh⟩ : ∃ h, h = atH hx i := ⟨_, rfl⟩
      rw [← hh] at HH HBL HNM HFI1 HND
      have HHH := Lib.hid hh
      have y0 : wr.cell? ⟨r, i * 3, none⟩ = some (.slice h.a h.n h.c) := HH.out 0 _ rfl
      have y1 : wr.cell? ⟨r, i * 3 + 1, none⟩ = some (.slice h.la h.ln h.lc) := HH.out 1 _ rfl
      have y2 : wr.cell? ⟨r, i * 3 + 2, none⟩ = some (.int .i64 h.m) := HH.out 2 _ rfl
      have HY1 := Lib.hid y1
      have hn1 := HNM.out.2
      have HGB : Hid (∀ g, h.blk = some g → g < S) := fun g hg => Nat.lt_of_lt_of_le (HBL.out g hg).2.1 hBS
      have HWS : Hid (S ≤ wr.heap.size) := Nat.le_trans hS HT.out.size
      have hA : Below wr.heap.size wr (wr.alloc (.cells #[.slice h.a h.n h.c, .slice h.la h.ln h.lc, .int .i64 h.m] 110)) := (Below.refl _ _).alloc (Nat.le_refl _) _
      have HBOX := Lib.hid (rl_new wr #[.slice h.a h.n h.c, .slice h.la h.ln h.lc, .int .i64 h.m] 110)
      have HAL := Lib.hid hA
      have HGR0 := Lib.hid (Gr.start (HFI1.out.keep hA.size (fun g hg _ => hA.block g hg)) HGB.out)
      have z0 := HBOX.out.at (j := 0) rfl
      clear hh hrow hA HH HFI1
      obtain ⟨W1, rfl⟩ : ∃ W1, W1 = wr := ⟨_, rfl⟩
      go_wp2
      generalize W1.alloc (.cells #[.slice h.a h.n h.c, .slice h.la h.ln h.lc, .int .i64 h.m] 110) = Wb at HBOX HAL HGR0 z0 ⊢
      clear y0 y1 y2 m1 z0
      have HWb : Hid (S ≤ Wb.heap.size) := Nat.le_trans HWS.out HAL.out.size
      go_loopw [4, 5] (fun lv kv wr => ∃ (k : Nat) (la : Option Addr) (lc : Nat), k ≤ 70 ∧ kv = .int .i64 k ∧ lv = .slice la (h.n + k) lc ∧ Hid (∃ ys, Gr KR S h Wb wr k (.slice la (h.n + k) lc) ys)) (fun _ kv _ => 70 - (intOf kv).toNat)
      case atStart => exact ⟨0, h.a, h.c, by omega, rfl, rfl, HGR0⟩
      case round =>
        obtain ⟨k, la, lc, hk, rfl, rfl, HGR⟩ := hrel
        obtain ⟨ys, hgr⟩ := HGR.out
        have HG := Lib.hid hgr
        have HBI : Hid (RL wr W1.heap.size 110 [.slice h.a h.n h.c, .slice h.la h.ln h.lc, .int .i64 h.m]) := World.rowIs.of_block HBOX.out (hgr.tch.block _ (World.rowIs.lt HBOX.out) (fun e => by have := HGB.out _ e; have := HWS.out; omega))
        clear hgr HGR
        by_cases hkl : k < 70
        · have hkl' : (k : Int) < 70 := by omega
          have x2 := HBI.out.at (j := 2) rfl
          have hnn := HNM.out.1
          go_wp2_with fail
          refine (markRn h.m hnn _).mono ?_
          rintro ee w2 ⟨rfl, b2⟩
          obtain ⟨v', w4, hrun, hown', hgrow, hloc⟩ := run_append_own2 (P := Tryz.prog) (w2.alloc (.cells ((mkR h.m).map cellI).toArray 27)) 0 30 30 27 i0 _ 24 96 Tryz.underlying30 hi0 hz0 hz1 hz2 rfl (by decide) (.slice la (h.n + k) lc) (h.n + k) _ (own_below (own_below HG.out.own b2) ((Below.refl _ _).alloc (Nat.le_refl _) _)) ⟨w2.heap.size, 0, none⟩ 1 1 ((mkR h.m).map cellI) (by rw [List.length_map, mkR_len]) (fun j u hj => lit_news w2 ((mkR h.m).map cellI).toArray _ j u (by simpa using hj)) (fun u hu => (KR).one h.m () u hu) (by unfold maxLen; omega) (by omega) (Nat.zero_le _) (by omega)
          obtain ⟨a4, c4, rfl, _⟩ := own_form hown'
          unfold rowV
          have h24 : (mkR h.m).length = 24 := rfl
          have hfold := fold_row h24 (A := #[.int .i32 0, .int .i32 0, .int .i32 0, .int .i32 0, .int .i32 0, .int .i32 0, .int .i32 0, .int .i32 0, .int .i32 0, .int .i32 0, .int .i32 0, .int .i32 0, .int .i32 0, .int .i32 0, .int .i32 0, .int .i32 0, .int .i32 0, .int .i32 0, .int .i32 0, .int .i32 0, .int .i32 0, .int .i32 0, .int .i32 0, .int .i32 0]) rfl
          have HNX : Hid (∃ ys, Gr KR S h Wb w4 (k + 1) (.slice a4 (h.n + (k + 1)) c4) ys) := ⟨_, HG.out.step HGB.out HWb.out b2 (x := ()) (trivial) (fun b e => by cases e) hown' hgrow hloc⟩
          clear b2 hown' hgrow hloc HG HBI
          go_wp2
          go_roundw
          case rel => exact ⟨k + 1, a4, c4, by omega, by go_num, rfl, HNX⟩
          case measure => simp [intOf]; omega
        · obtain rfl : k = 70 := by omega
          have HDN := Lib.hid (HG.out.done HGB.out HWb.out)
          have HT2 : Hid (Tch (fun g => h.blk = some g) W1 wr) := (Tch.of_below HAL.out).trans HG.out.tch
          have HBW : Hid (Bk wr bk B n vI (.slice (some ⟨r, 0, none⟩) hsR.length cv) hsI hx) := HBR.out.keep (fun g hg hor => HT2.out.block g hg (fun e => by
            obtain ⟨_, q1, q2⟩ := HBL.out g e
            rcases hor with rfl | q | q
            · exact q2 rfl
            · have := (HBR.out.rI.lt g q).1; omega
            · have := (HBR.out.rR.lt g q).1; omega))
          have p1 := HBW.out.box.at (j := 15) rfl
          have hro := HBW.out.rR
          have p2 : wr.cell? ⟨r, i * 3 + 1, none⟩ = some (.slice h.la h.ln h.lc) := by
            have q := (HT2.out.block r hrs (fun e => by have := (HBL.out r e).2.1; omega))
            have : wr.cell? ⟨r, i * 3 + 1, none⟩ = W1.cell? ⟨r, i * 3 + 1, none⟩ := by unfold World.cell?; rw [q]
            rw [this]
            exact HY1.out
          have p3 : wr.frozen? ⟨r, i * 3 + 1, none⟩ = false := by
            rw [HLK.out.1] at hro
            exact hro.frozenAt _
          have HBN : Hid (Bk (wr.setCell ⟨r, i * 3 + 1, none⟩ (.slice la (h.n + 70) lc)) bk B n vI (.slice (some ⟨r, 0, none⟩) hsR.length cv) hsI (hx.set i { atH hx i with la := la, ln := h.n + 70, lc := lc })) := by
            have q := HBW.out
            rw [← HLK.out.1] at q ⊢
            exact q.longR hxl la (h.n + 70) lc
          have HLN : Hid (Like hsR (hx.set i { atH hx i with la := la, ln := h.n + 70, lc := lc })) := HLK.out.set hlt _ _ _
          have HTN : Hid (Tch (fun g => RG hsR g ∨ (Value.slice (some ⟨r, 0, none⟩) hsR.length cv).ownBlock = some g) w (wr.setCell ⟨r, i * 3 + 1, none⟩ (.slice la (h.n + 70) lc))) := (HT.out.trans (HT2.out.mono (fun g _ e => .inl ⟨_, atH_mem hlt, by rw [← HLK.out.blk hlt, ← HHH.out]; exact e⟩))).setCell (p := ⟨r, i * 3 + 1, none⟩) (.inr (.inr rfl)) _
          have hst : ∀ g, g < wr.heap.size → (S ≤ g ∨ ∃ j, j ≠ i ∧ j < hsR.length ∧ (atH hx j).blk = some g) → (wr.setCell ⟨r, i * 3 + 1, none⟩ (.slice la (h.n + 70) lc)).heap[g]? = wr.heap[g]? := fun g hg hor => heap_setCell_other _ _ _ _ (fun e => by
            have hr9 : g = r := e
            rcases hor with q | ⟨j, j1, j2, q⟩
            · have := HRs.out; omega
            · have := (HR.out.blt _ (atH_mem j2) g (by rw [← HLK.out.blk j2]; exact q)).2.1
              omega)
          have hstb : ∀ g, g < W1.heap.size → (S ≤ g ∨ ∃ j, j ≠ i ∧ j < hsR.length ∧ (atH hx j).blk = some g) → (wr.setCell ⟨r, i * 3 + 1, none⟩ (.slice la (h.n + 70) lc)).heap[g]? = W1.heap[g]? := fun g hg hor => by
            rw [hst g (Nat.lt_of_lt_of_le hg HT2.out.size) hor]
            refine HT2.out.block g hg (fun e => ?_)
            rcases hor with q | ⟨j, j1, j2, q⟩
            · have := HGB.out g e; omega
            · exact HND.out j j1 j2 g q e
          have HDX : Hid (∀ j, j < i + 1 → Dn KR S (wr.setCell ⟨r, i * 3 + 1, none⟩ (.slice la (h.n + 70) lc)) (atH (hx.set i { atH hx i with la := la, ln := h.n + 70, lc := lc }) j)) := fun j hj => by
            rw [atH_set _ (by omega)]
            by_cases e : j = i
            · rw [if_pos e, ← HHH.out]
              exact HDN.out.keep (by simp) (fun g hg hor => heap_setCell_other _ _ _ _ (fun e => by
                have hr9 : g = r := e
                rcases hor with q | q
                · have := HRs.out; omega
                · have := (HBL.out g q).2.1; omega))
            · rw [if_neg e]
              exact (HD.out j (by omega)).keep (by have := HT2.out.size; simpa using this) (fun g hg hor => hstb g hg (hor.imp_right (fun q => ⟨j, e, by omega, q⟩)))
          have HFX : Hid (∀ j, i + 1 ≤ j → j < hsR.length → Fil KR S (wr.setCell ⟨r, i * 3 + 1, none⟩ (.slice la (h.n + 70) lc)) (atH (hx.set i { atH hx i with la := la, ln := h.n + 70, lc := lc }) j)) := fun j hj hj2 => by
            rw [atH_set _ (by rw [HLK.out.1]; exact hj2), if_neg (by omega)]
            exact (HF.out j (by omega) hj2).keep (by have := HT2.out.size; simpa using this) (fun g hg hor => hstb g hg (hor.imp_right (fun q => ⟨j, by omega, hj2, q⟩)))
          clear hst hstb hro HBI HG HBOX HBW HBR HGR0 HDN HF HD
          go_wp2
          go_roundw
          case rel => exact ⟨i + 1, _, by omega, by go_num, HLN, HTN, HBN, HDX, HFX⟩
          case measure => simp [intOf]; omega
    · obtain rfl : i = hsR.length := by omega
      have HFA : Hid (∀ h ∈ hx, Dn KR S wr h) := fun h hm => by
        obtain ⟨j, hj, rfl⟩ := mem_atH hm
        exact HD.out j (by rw [← HLK.out.1]; exact hj)
      go_wp2
      go_end0
      exact ⟨rfl, HT.out, hx, HLK.out, HBR.out, HFA.out⟩
end Go.Proofs.YtjcfhhcohmcehaaGreatDoor.BK
