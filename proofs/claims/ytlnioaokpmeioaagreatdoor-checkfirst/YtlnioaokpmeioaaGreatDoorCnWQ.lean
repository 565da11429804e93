import Derived.Test.YtlnioaokpmeioaaGreatDoorG55
import Derived.Test.YtlnioaokpmeioaaGreatDoorCnRQ
import Derived.Test.YtlnioaokpmeioaaGreatDoorG37
section
namespace Go.Proofs.YtlnioaokpmeioaaGreatDoor
open Go.RowKit Go.Maps
set_option linter.unusedVariables false
set_option linter.unusedSimpArgs false
attribute [local go_sem ↓] Go.wp_at_zero Go.wp_at_succ

theorem load_atN {u : World} {a : Addr} {k : Int} (h : u.cell? a = some (.int .i64 k)) : (loadVar 3 a).run Tryz.prog u = .ok (.int .i64 k) u := by rw [loadVar.eq_1]; go_simp
theorem load_pgN {u : World} {b : Nat} {x : Option Addr} {n c : Nat} (h : RL u b 41 [.slice x n c]) : (loadVar 41 ⟨b, 0, none⟩).run Tryz.prog u = .ok (.agg #[.slice x n c]) u :=
  run_loadVar_mid _ _ 0 41 [.slice x n c] _ (RL.range h) Tryz.underlying41 rfl (by kernel_rfl)
set_option maxHeartbeats 12800000 in
set_option maxRecDepth 100000 in
theorem checkFirst_walk (d : Nat) (l : List XR) (a : Option Addr) (c : Nat) (m : List XF) (a2 : Option Addr) (c2 : Nat) (pr : ByteArray) (ts : List T) (qa : Option Addr) (qc : Nat) (w : World) (hG : PWt w ∧ KT w ∧ LX.Gl w) (hl : l.length ≤ 281474976710656) (hL : Lr w (.slice a l.length c) (d + 1) l) (hm : m.length ≤ 281474976710656) (hM : Lf w (.slice a2 m.length c2) m) (hpr : pr.size ≤ maxLen) (hlen : ts.length ≤ 4398046511104) (hT : Lt w (.slice qa ts.length qc) ts) :
    Calls Tryz.prog 4 #[.slice a l.length c, .slice a2 m.length c2, .agg #[.string pr, .slice qa ts.length qc]] w fun r w' => r = .returned (.bool true) ∧ Below w.heap.size w w' := by
  obtain ⟨W0, hW0⟩ : ∃ W0, W0 = w.alloc (.cells #[.string pr, .slice qa ts.length qc] 26) := ⟨_, rfl⟩
  have b0 : Below w.heap.size w W0 := by rw [hW0]; exact belowA _
  have HR5 : Hid (RL W0 w.heap.size 26 [.string pr, .slice qa ts.length qc]) := by
    have := rl_new w #[.string pr, .slice qa ts.length qc] 26
    rw [← hW0] at this
    exact this
  have HK := Lib.hid b0
  have HL : Hid (Lr W0 (.slice a l.length c) (d + 1) l) := hL.below b0
  have HM : Hid (Lf W0 (.slice a2 m.length c2) m) := hM.below b0
  have HT : Hid (Lt W0 (.slice qa ts.length qc) ts) := hT.below b0
  have HG : Hid (KT W0 ∧ LX.Gl W0) := ⟨hG.2.1.below b0, hG.2.2.below b0⟩
  obtain ⟨F, hF⟩ : ∃ F : R3 → List ByteArray, ∀ r, Lim (eqL (d + 1) r.bd) (atN r.bd) (F r) := Classical.axiomOfChoice (fun (r : R3) => lim_ex (eqL (d + 1) r.bd) (atN r.bd) (eqL_ok _ _))
  have HF := Lib.hid hF
  have HB := Lib.hid (beyondJob_any (d + 1) _ _ l m W0 hl hm HL.out HM.out)
  clear b0 hL hM hT hG hF
  go_enter Tryz.func4, Tryz.ntmps4
  go_upto_region 1 with fail
  rw [← hW0]
  clear hW0
  go_wp2_with fail
  refine HB.out.mono ?_
  rintro e w1 ⟨b, rfl, b1, hs⟩
  have HS := Lib.hid hs
  have B1 := Lib.hid b1
  clear hs HB b1
  cases b
  · obtain ⟨hsS, hsF⟩ := HS.out (by first | rfl | trivial)
    have HI : Hid (Inp d F l m a c a2 c2 W0) := ⟨HF.out, HL.out, HM.out, hsS, hsF, HG.out⟩
    have HLV := Lib.hid (lives_any w1 ⟨HG.out.1.below B1.out, HG.out.2.below B1.out⟩)
    clear HS hsS hsF
    go_wp2_with fail
    refine HLV.out.mono ?_
    rintro e w2 ⟨rfl, b2⟩
    have B2 : Hid (Below W0.heap.size W0 w2) := B1.out.trans (b2.mono B1.out.size)
    have HBL := Lib.hid ((HI.out.below B2.out).blank (List.Sublist.refl l) (List.Sublist.refl m) rfl rfl (HL.out.lies.below B2.out) (HM.out.lies.below B2.out))
    have HBS := Lib.hid (HI.out.bk (List.Sublist.refl l) (List.Sublist.refl m) HL.out.lies HM.out.lies)
    clear HLV b2 B1
    go_wp2_with fail
    refine HBL.out.mono ?_
    rintro e w3 ⟨fa, fc, rfl, hfl, b3⟩
    obtain ⟨W7, hW7⟩ : ∃ W7, W7 = w3.alloc (.cells #[.string (bkP l m).n, .slice fa (bkP l m).a fc] 26) := ⟨_, rfl⟩
    have B3 : Hid (Below W0.heap.size W0 w3) := B2.out.trans (b3.mono B2.out.size)
    have b7 : Below w3.heap.size w3 W7 := by rw [hW7]; exact belowA _
    have B7 : Hid (Below W0.heap.size W0 W7) := B3.out.trans (b7.mono B3.out.size)
    have HR7 : Hid (RL W7 w3.heap.size 26 [.string (bkP l m).n, .slice fa (bkP l m).a fc]) := by
      have := rl_new w3 #[.string (bkP l m).n, .slice fa (bkP l m).a fc] 26
      rw [← hW7] at this
      exact this
    have HLF : Hid (Lt W7 (.slice fa (bkP l m).a fc) (List.replicate (bkP l m).a bkT)) := hfl.below b7
    have HFN : Hid ((List.replicate (bkP l m).a bkT).length = (bkP l m).a) := List.length_replicate
    have HC := Lib.hid (first_cases (d + 1) F l m pr ts)
    clear HBL hfl b3 b7 B2 B3
    obtain ⟨pn, hpn⟩ : ∃ pn, (bkP l m).n = pn := ⟨_, rfl⟩
    obtain ⟨pa, hpa⟩ : ∃ pa, (bkP l m).a = pa := ⟨_, rfl⟩
    have HPN := Lib.hid hpn
    have HPA := Lib.hid hpa
    rw [hpn] at hW7 HR7 HBS ⊢
    rw [hpa] at hW7 HR7 HLF HFN HBS ⊢
    clear hpn hpa
    go_upto_region 6 with fail
    rw [← hW7]
    clear hW7
    have q0 : W7.cell? ⟨w.heap.size, 0, none⟩ = some (.string pr) := RL.at (RL.below HR5.out B7.out) (j := 0) rfl
    have q1 : W7.cell? ⟨w.heap.size, 1, none⟩ = some (.slice qa ts.length qc) := RL.at (RL.below HR5.out B7.out) (j := 1) rfl
    have HLL7 := Lib.hid (HL.out.lies.below B7.out)
    have HMM7 := Lib.hid (HM.out.lies.below B7.out)
    have HTT7 := Lib.hid (HT.out.below B7.out)
    have HII7 := Lib.hid (HI.out.below B7.out)
    have hll := HI.out.sS.len
    have hml := HI.out.sF.len
    rcases HC.out with h | ⟨hl5, h⟩ | ⟨hl5, j, y, hj, h, hw, ha⟩ | ⟨hl5, j, y, cd, hj, hcd, h, hw, ho, ha⟩ | ⟨hm5, h⟩ | ⟨hm5, j, cd, hj, h, h1, h2, hw⟩ | ⟨h, s, hs, q, hq, hn, nd⟩ | ⟨cd, hc0, hcd, h, s, hs, h1, h2⟩
    · have HIN := Lib.hid (HII7.out.input (List.Sublist.refl l) (List.Sublist.refl m) rfl rfl HLL7.out HMM7.out rfl hpr hlen HTT7.out h)
      clear HLL7 HMM7 HTT7 HC
      go_wp2_with fail
      refine HIN.out.mono ?_
      rintro e w4 ⟨rfl, b4⟩
      obtain ⟨W8, hW8⟩ : ∃ W8, W8 = w4.alloc (.cells #[.int .i8 0, .int .i64 0, .int .i64 0] 38) := ⟨_, rfl⟩
      have b8 : Below w4.heap.size w4 W8 := by rw [hW8]; exact belowA _
      have b78 : Below W7.heap.size W7 W8 := b4.trans (b8.mono b4.size)
      have B8 : Hid (Below W0.heap.size W0 W8) := B7.out.trans (b78.mono B7.out.size)
      have HR8 : Hid (RL W8 w4.heap.size 38 [.int .i8 0, .int .i64 0, .int .i64 0]) := by
        have := rl_new w4 #[.int .i8 0, .int .i64 0, .int .i64 0] 38
        rw [← hW8] at this
        exact this
      have HR78 := Lib.hid (RL.below HR7.out b78)
      have HLF8 := Lib.hid (HLF.out.below b78)
      have HI8 := Lib.hid (HII7.out.below b78)
      have BE : Hid (∀ u, Below W8.heap.size W8 u → Below w.heap.size w u) := fun u hu => HK.out.trans ((B8.out.trans (hu.mono B8.out.size)).mono HK.out.size)
      clear HIN b4 b8 b78 HR7 HLF HII7 q0 q1 B7
      go_upto_region 7 with fail
      rw [← hW8]
      clear hW8
      have c0 : W8.cell? ⟨w4.heap.size, 0, none⟩ = some (.int .i8 0) := RL.at HR8.out (j := 0) rfl
      have c1 : W8.cell? ⟨w4.heap.size, 1, none⟩ = some (.int .i64 0) := RL.at HR8.out (j := 1) rfl
      have c2' : W8.cell? ⟨w4.heap.size, 2, none⟩ = some (.int .i64 0) := RL.at HR8.out (j := 2) rfl
      clear h
      go_wp2
      go_ret
      exact ⟨by first | rfl | simp, BE.out _ (Below.refl _ _)⟩
    · have HIN := Lib.hid (HII7.out.input (List.Sublist.refl l) (List.Sublist.refl m) rfl rfl HLL7.out HMM7.out rfl hpr hlen HTT7.out h)
      clear HLL7 HMM7 HTT7 HC
      go_wp2_with fail
      refine HIN.out.mono ?_
      rintro e w4 ⟨rfl, b4⟩
      obtain ⟨W8, hW8⟩ : ∃ W8, W8 = w4.alloc (.cells #[.int .i8 1, .int .i64 70, .int .i64 0] 38) := ⟨_, rfl⟩
      have b8 : Below w4.heap.size w4 W8 := by rw [hW8]; exact belowA _
      have b78 : Below W7.heap.size W7 W8 := b4.trans (b8.mono b4.size)
      have B8 : Hid (Below W0.heap.size W0 W8) := B7.out.trans (b78.mono B7.out.size)
      have HR8 : Hid (RL W8 w4.heap.size 38 [.int .i8 1, .int .i64 70, .int .i64 0]) := by
        have := rl_new w4 #[.int .i8 1, .int .i64 70, .int .i64 0] 38
        rw [← hW8] at this
        exact this
      have HR78 := Lib.hid (RL.below HR7.out b78)
      have HLF8 := Lib.hid (HLF.out.below b78)
      have HI8 := Lib.hid (HII7.out.below b78)
      have BE : Hid (∀ u, Below W8.heap.size W8 u → Below w.heap.size w u) := fun u hu => HK.out.trans ((B8.out.trans (hu.mono B8.out.size)).mono HK.out.size)
      clear HIN b4 b8 b78 HR7 HLF HII7 q0 q1 B7
      go_upto_region 7 with fail
      rw [← hW8]
      clear hW8
      have c0 : W8.cell? ⟨w4.heap.size, 0, none⟩ = some (.int .i8 1) := RL.at HR8.out (j := 0) rfl
      have c1 : W8.cell? ⟨w4.heap.size, 1, none⟩ = some (.int .i64 70) := RL.at HR8.out (j := 1) rfl
      have c2' : W8.cell? ⟨w4.heap.size, 2, none⟩ = some (.int .i64 0) := RL.at HR8.out (j := 2) rfl
      have hln : (500 : Int) < (l.length : Int) := by omega
      clear h
      go_wp2
      go_ret
      exact ⟨by first | rfl | simp, BE.out _ (Below.refl _ _)⟩
    · have HIN := Lib.hid (HII7.out.input (List.Sublist.refl l) (List.Sublist.refl m) rfl rfl HLL7.out HMM7.out rfl hpr hlen HTT7.out h)
      clear HLL7 HMM7 HTT7 HC
      go_wp2_with fail
      refine HIN.out.mono ?_
      rintro e w4 ⟨rfl, b4⟩
      obtain ⟨W8, hW8⟩ : ∃ W8, W8 = w4.alloc (.cells #[.int .i8 1, .int .i64 72, .int .i64 (j : Int)] 38) := ⟨_, rfl⟩
      have b8 : Below w4.heap.size w4 W8 := by rw [hW8]; exact belowA _
      have b78 : Below W7.heap.size W7 W8 := b4.trans (b8.mono b4.size)
      have B8 : Hid (Below W0.heap.size W0 W8) := B7.out.trans (b78.mono B7.out.size)
      have HR8 : Hid (RL W8 w4.heap.size 38 [.int .i8 1, .int .i64 72, .int .i64 (j : Int)]) := by
        have := rl_new w4 #[.int .i8 1, .int .i64 72, .int .i64 (j : Int)] 38
        rw [← hW8] at this
        exact this
      have HR78 := Lib.hid (RL.below HR7.out b78)
      have HLF8 := Lib.hid (HLF.out.below b78)
      have HI8 := Lib.hid (HII7.out.below b78)
      have BE : Hid (∀ u, Below W8.heap.size W8 u → Below w.heap.size w u) := fun u hu => HK.out.trans ((B8.out.trans (hu.mono B8.out.size)).mono HK.out.size)
      clear HIN b4 b8 b78 HR7 HLF HII7 q0 q1 B7
      go_upto_region 7 with fail
      rw [← hW8]
      clear hW8
      have c0 : W8.cell? ⟨w4.heap.size, 0, none⟩ = some (.int .i8 1) := RL.at HR8.out (j := 0) rfl
      have c1 : W8.cell? ⟨w4.heap.size, 1, none⟩ = some (.int .i64 72) := RL.at HR8.out (j := 1) rfl
      have c2' : W8.cell? ⟨w4.heap.size, 2, none⟩ = some (.int .i64 (j : Int)) := RL.at HR8.out (j := 2) rfl
      obtain ⟨⟨x1, x2, x3⟩, hx⟩ : ∃ x, inR (d + 1) F [y] [] pn (List.replicate pa bkT) = x := ⟨_, rfl⟩
      have HAT := Lib.hid HI8.out.R.form
      obtain ⟨a', c', hv, hn1, hn2, hat⟩ := HAT.out
      injection hv with hv1 _ hv2
      subst hv1 hv2
      obtain ⟨hjl, hjy⟩ := List.getElem?_eq_some_iff.1 hj
      obtain ⟨g, off, rfl, hgl, _⟩ := hat (by omega)
      have HLL8 := Lib.hid HI8.out.R.lies
      have HSU : Hid (∀ u, Below W8.heap.size W8 u → Inp d F l m (some ⟨g, off, none⟩) c a2 c2 u) := fun u hu => HI8.out.below hu
      have HLK : Hid (∀ u, Below W8.heap.size W8 u → (loadVar 3 ⟨w4.heap.size, 2, none⟩).run Tryz.prog u = .ok (.int .i64 (j : Int)) u) := fun u hu => load_atN (RL.at (RL.below HR8.out hu) (j := 2) rfl)
      have HLA : Hid (∀ u, Below W8.heap.size W8 u → (loadVar 26 ⟨w3.heap.size, 0, none⟩).run Tryz.prog u = .ok (.agg #[.string pn, .slice fa pa fc]) u) := fun u hu => load_atomV (RL.below HR78.out hu)
      have hji : (j : Int) < (l.length : Int) := by omega
      have hj0 : ¬ (j : Int) < 0 := by omega
      have HTK : Hid (∀ i, i ≤ l.length → (l.take i).length = i) := fun i hi => by rw [List.length_take]; omega
      have HC14 : Hid (∀ u, Below W8.heap.size W8 u → Calls Tryz.prog 11 #[.slice (some ⟨g, off, none⟩) j c, .slice none 0 0] u fun e w' => ∃ av, e = .returned av ∧ Below u.heap.size u w' ∧ ∀ u2, Below w'.heap.size w' u2 → Calls Tryz.prog 9 #[.agg #[.slice (some ⟨g, off, none⟩) j c], .slice none 0 0, av] u2 fun e w'' => e = .returned (.agg #[.int .i8 0, .int .i64 0, .int .i64 0]) ∧ Below u2.heap.size u2 w'') := fun u hu =>
        (HSU.out u hu).both (List.take_sublist j l) (List.nil_sublist m) (HTK.out j (by omega)) rfl (ls_take (k := 3) (by decide) (fun _ => rfl) XR0 (HLL8.out.below hu) (by omega) (by omega)) (ls_nilF u) ha
      have HC15 : Hid (∀ u, Below W8.heap.size W8 u → Calls Tryz.prog 9 #[.agg #[.slice (some ⟨g, off, none⟩) (j + 1) c], .slice none 0 0, .agg #[.string pn, .slice fa pa fc]] u fun e w' => e = .returned (.agg #[.int .i8 1, .int .i64 72, .int .i64 (j : Int)]) ∧ Below u.heap.size u w') := fun u hu =>
        (HSU.out u hu).input (List.take_sublist (j + 1) l) (List.nil_sublist m) (HTK.out (j + 1) (by omega)) rfl (ls_take (k := 3) (by decide) (fun _ => rfl) XR0 (HLL8.out.below hu) (by omega) (by omega)) (ls_nilF u) HFN.out HBS.out.1 HBS.out.2 (HLF8.out.below hu) (hw _ _ _)
      have HC16 : Hid (∀ u, Below W8.heap.size W8 u → Calls Tryz.prog 9 #[.agg #[.slice (some ⟨g, off + j * 3, none⟩) 1 (c - j)], .slice none 0 0, .agg #[.string pn, .slice fa pa fc]] u fun e w' => e = .returned (.agg #[.int .i8 x1, .int .i64 x2, .int .i64 x3]) ∧ Below u.heap.size u w') := fun u hu =>
        (HSU.out u hu).input (one_sub hj) (List.nil_sublist m) rfl rfl (ls_one (k := 3) (by decide) (fun _ => rfl) XR0 (HLL8.out.below hu) hj) (ls_nilF u) HFN.out HBS.out.1 HBS.out.2 (HLF8.out.below hu) hx
      clear hx h hw ha HAT hat HSU HLL8 HTK hgl hjy hj HI8 HLF8 HI HL HM HT HG HF HFN HBS
      go_upto_region 14 with fail
      refine wp_region_noPanic ?_
      refine wp_region_held (S := fun u => Below W8.heap.size W8 u) (by kernel_rfl) ?_
      refine reg14 (w5 := W8) (b8 := w4.heap.size) (g := g) (off := off) (nn := l.length) (cc := c) (k := j) (p1 := 0) (p2 := 0) (p3 := 0) rfl rfl rfl rfl rfl rfl rfl rfl rfl rfl rfl rfl rfl (by kernel_rfl) (by kernel_rfl) (by kernel_rfl) (by kernel_rfl) (by kernel_rfl) (by kernel_rfl) (by kernel_rfl) (by kernel_rfl) (by kernel_rfl) (fun _ _ _ _ _ h => h) (by simp) rfl rfl (by omega) hn1 HLK.out HC14.out ?_
      intro af w9 b9 hAg h20 hRL hb9 hBf
      refine NoPanic.normal ?_
      rename_i hK
      refine hK _ _ ?_
      have hf := hAg.form
      unfold js_reg14 at hf
      simp only [List.foldl_cons, List.foldl_nil] at hf
      have h20' : af.tmps.getD 9 undef = .pointer (some ⟨b9, 0, none⟩) := by simpa [Act.eval] using h20
      rw [h20'] at hf
      generalize af.tmps.getD 64 undef = g64 at hf
      generalize af.tmps.getD 65 undef = g65 at hf
      generalize af.tmps.getD 66 undef = g66 at hf
      generalize af.tmps.getD 67 undef = g67 at hf
      generalize af.tmps.getD 68 undef = g68 at hf
      generalize af.tmps.getD 69 undef = g69 at hf
      generalize af.tmps.getD 70 undef = g70 at hf
      generalize af.tmps.getD 71 undef = g71 at hf
      generalize af.tmps.getD 72 undef = g72 at hf
      generalize af.tmps.getD 73 undef = g73 at hf
      generalize af.tmps.getD 74 undef = g74 at hf
      clear h20 h20' hAg hK
      subst hf
      simp (config := { maxSteps := 8000000 }) only [List.setIfInBounds_toArray, List.set_cons_succ, List.set_cons_zero]
      have B9 := Lib.hid hBf
      have HR9 := Lib.hid hRL
      have HU9 : Hid (∀ u, Below w9.heap.size w9 u → Below W8.heap.size W8 u) := fun u hu => B9.out.trans (hu.mono B9.out.size)
      clear hBf hRL hb9 HC14
      go_upto_region 15 with fail
      refine wp_region_noPanic ?_
      refine wp_region_held (S := fun u => Below w9.heap.size w9 u) (by kernel_rfl) ?_
      refine reg15 (w5 := w9) (b7 := w3.heap.size) (b8 := w4.heap.size) (g := g) (off := off) (nn := l.length) (cc := c) (k := j) (qv := .agg #[.string pn, .slice fa pa fc]) (p1 := 1) (p2 := 72) (p3 := (j : Int)) rfl rfl rfl rfl rfl rfl rfl rfl rfl rfl (by kernel_rfl) (by kernel_rfl) (by kernel_rfl) (by kernel_rfl) (by kernel_rfl) (by kernel_rfl) (by kernel_rfl) (fun _ _ _ _ _ h => h) (by simp) rfl rfl rfl (by omega) hn1 (by omega) (fun u hu => HLK.out u (HU9.out u hu)) (fun u hu => HLA.out u (HU9.out u hu)) (fun u hu => HC15.out u (HU9.out u hu)) ?_
      intro af w10 b10 hAg h20 hRL hb9 hBf
      refine NoPanic.normal ?_
      rename_i hK
      refine hK _ _ ?_
      have hf := hAg.form
      unfold js_reg15 at hf
      simp only [List.foldl_cons, List.foldl_nil] at hf
      have h20' : af.tmps.getD 10 undef = .pointer (some ⟨b10, 0, none⟩) := by simpa [Act.eval] using h20
      rw [h20'] at hf
      generalize af.tmps.getD 75 undef = g75 at hf
      generalize af.tmps.getD 76 undef = g76 at hf
      generalize af.tmps.getD 77 undef = g77 at hf
      generalize af.tmps.getD 78 undef = g78 at hf
      generalize af.tmps.getD 79 undef = g79 at hf
      generalize af.tmps.getD 80 undef = g80 at hf
      generalize af.tmps.getD 81 undef = g81 at hf
      generalize af.tmps.getD 82 undef = g82 at hf
      clear h20 h20' hAg hK
      subst hf
      simp (config := { maxSteps := 8000000 }) only [List.setIfInBounds_toArray, List.set_cons_succ, List.set_cons_zero]
      have B10 := Lib.hid hBf
      have HR10 := Lib.hid hRL
      have HU10 : Hid (∀ u, Below w10.heap.size w10 u → Below w9.heap.size w9 u) := fun u hu => B10.out.trans (hu.mono B10.out.size)
      clear hBf hRL hb9 HC15
      go_upto_region 16 with fail
      refine wp_region_noPanic ?_
      refine wp_region_held (S := fun u => Below w10.heap.size w10 u) (by kernel_rfl) ?_
      refine reg16 (w5 := w10) (b7 := w3.heap.size) (b8 := w4.heap.size) (g := g) (off := off) (nn := l.length) (cc := c) (k := j) (qv := .agg #[.string pn, .slice fa pa fc]) (p1 := x1) (p2 := x2) (p3 := x3) rfl rfl rfl rfl rfl rfl rfl rfl rfl rfl rfl rfl (by kernel_rfl) (by kernel_rfl) (by kernel_rfl) (by kernel_rfl) (by kernel_rfl) (by kernel_rfl) (by kernel_rfl) (fun _ _ _ _ _ h => h) (by simp) rfl rfl rfl (by omega) hn1 (by omega) (fun u hu => HLK.out u (HU9.out u (HU10.out u hu))) (fun u hu => HLA.out u (HU9.out u (HU10.out u hu))) (fun u hu => HC16.out u (HU9.out u (HU10.out u hu))) ?_
      intro af w11 b11 hAg h20 hRL hb9 hBf
      refine NoPanic.normal ?_
      rename_i hK
      refine hK _ _ ?_
      have hf := hAg.form
      unfold js_reg16 at hf
      simp only [List.foldl_cons, List.foldl_nil] at hf
      have h20' : af.tmps.getD 11 undef = .pointer (some ⟨b11, 0, none⟩) := by simpa [Act.eval] using h20
      rw [h20'] at hf
      generalize af.tmps.getD 83 undef = g83 at hf
      generalize af.tmps.getD 84 undef = g84 at hf
      generalize af.tmps.getD 85 undef = g85 at hf
      generalize af.tmps.getD 86 undef = g86 at hf
      generalize af.tmps.getD 87 undef = g87 at hf
      generalize af.tmps.getD 88 undef = g88 at hf
      generalize af.tmps.getD 89 undef = g89 at hf
      generalize af.tmps.getD 90 undef = g90 at hf
      generalize af.tmps.getD 91 undef = g91 at hf
      generalize af.tmps.getD 92 undef = g92 at hf
      clear h20 h20' hAg hK
      subst hf
      simp (config := { maxSteps := 8000000 }) only [List.setIfInBounds_toArray, List.set_cons_succ, List.set_cons_zero]
      have B11 := Lib.hid (HU9.out w11 (HU10.out w11 hBf))
      have k0 : w11.cell? ⟨w4.heap.size, 0, none⟩ = some (.int .i8 1) := RL.at (RL.below HR8.out B11.out) (j := 0) rfl
      have k1 : w11.cell? ⟨w4.heap.size, 1, none⟩ = some (.int .i64 72) := RL.at (RL.below HR8.out B11.out) (j := 1) rfl
      have k2 : w11.cell? ⟨w4.heap.size, 2, none⟩ = some (.int .i64 (j : Int)) := RL.at (RL.below HR8.out B11.out) (j := 2) rfl
      have m0 : w11.cell? ⟨b9, 0, none⟩ = some (.int .i8 0) := RL.at (RL.below HR9.out (HU10.out w11 hBf)) (j := 0) rfl
      have m1 : w11.cell? ⟨b9, 1, none⟩ = some (.int .i64 0) := RL.at (RL.below HR9.out (HU10.out w11 hBf)) (j := 1) rfl
      have m2 : w11.cell? ⟨b9, 2, none⟩ = some (.int .i64 0) := RL.at (RL.below HR9.out (HU10.out w11 hBf)) (j := 2) rfl
      have n0 : w11.cell? ⟨b10, 0, none⟩ = some (.int .i8 1) := RL.at (RL.below HR10.out hBf) (j := 0) rfl
      have n1 : w11.cell? ⟨b10, 1, none⟩ = some (.int .i64 72) := RL.at (RL.below HR10.out hBf) (j := 1) rfl
      have n2 : w11.cell? ⟨b10, 2, none⟩ = some (.int .i64 (j : Int)) := RL.at (RL.below HR10.out hBf) (j := 2) rfl
      have o0 : w11.cell? ⟨b11, 0, none⟩ = some (.int .i8 x1) := RL.at hRL (j := 0) rfl
      have o1 : w11.cell? ⟨b11, 1, none⟩ = some (.int .i64 x2) := RL.at hRL (j := 1) rfl
      have o2 : w11.cell? ⟨b11, 2, none⟩ = some (.int .i64 x3) := RL.at hRL (j := 2) rfl
      have HFI := Lib.hid (BE.out w11 B11.out)
      clear hBf hRL hb9 HC16 HU9 HU10 B9 B10 B11 HR9 HR10 HLK HLA BE HR78 HR8 c0 c1 c2'
      go_wp2
      go_ret
      exact ⟨by first | rfl | simp, HFI.out⟩
    · have hcb : (cd == 72) = false := by simpa using hcd
      rcases ha with ha | ⟨i, ha⟩
      · have HIN := Lib.hid (HII7.out.input (List.Sublist.refl l) (List.Sublist.refl m) rfl rfl HLL7.out HMM7.out rfl hpr hlen HTT7.out h)
        clear HLL7 HMM7 HTT7 HC
        go_wp2_with fail
        refine HIN.out.mono ?_
        rintro e w4 ⟨rfl, b4⟩
        obtain ⟨W8, hW8⟩ : ∃ W8, W8 = w4.alloc (.cells #[.int .i8 1, .int .i64 cd, .int .i64 (j : Int)] 38) := ⟨_, rfl⟩
        have b8 : Below w4.heap.size w4 W8 := by rw [hW8]; exact belowA _
        have b78 : Below W7.heap.size W7 W8 := b4.trans (b8.mono b4.size)
        have B8 : Hid (Below W0.heap.size W0 W8) := B7.out.trans (b78.mono B7.out.size)
        have HR8 : Hid (RL W8 w4.heap.size 38 [.int .i8 1, .int .i64 cd, .int .i64 (j : Int)]) := by
          have := rl_new w4 #[.int .i8 1, .int .i64 cd, .int .i64 (j : Int)] 38
          rw [← hW8] at this
          exact this
        have HR78 := Lib.hid (RL.below HR7.out b78)
        have HLF8 := Lib.hid (HLF.out.below b78)
        have HI8 := Lib.hid (HII7.out.below b78)
        have BE : Hid (∀ u, Below W8.heap.size W8 u → Below w.heap.size w u) := fun u hu => HK.out.trans ((B8.out.trans (hu.mono B8.out.size)).mono HK.out.size)
        clear HIN b4 b8 b78 HR7 HLF HII7 q0 q1 B7
        go_upto_region 7 with fail
        rw [← hW8]
        clear hW8
        have c0 : W8.cell? ⟨w4.heap.size, 0, none⟩ = some (.int .i8 1) := RL.at HR8.out (j := 0) rfl
        have c1 : W8.cell? ⟨w4.heap.size, 1, none⟩ = some (.int .i64 cd) := RL.at HR8.out (j := 1) rfl
        have c2' : W8.cell? ⟨w4.heap.size, 2, none⟩ = some (.int .i64 (j : Int)) := RL.at HR8.out (j := 2) rfl
        have HAT := Lib.hid HI8.out.R.form
        obtain ⟨a', c', hv, hn1, hn2, hat⟩ := HAT.out
        injection hv with hv1 _ hv2
        subst hv1 hv2
        obtain ⟨hjl, hjy⟩ := List.getElem?_eq_some_iff.1 hj
        obtain ⟨g, off, rfl, hgl, _⟩ := hat (by omega)
        have HLL8 := Lib.hid HI8.out.R.lies
        have HSU : Hid (∀ u, Below W8.heap.size W8 u → Inp d F l m (some ⟨g, off, none⟩) c a2 c2 u) := fun u hu => HI8.out.below hu
        have HLK : Hid (∀ u, Below W8.heap.size W8 u → (loadVar 3 ⟨w4.heap.size, 2, none⟩).run Tryz.prog u = .ok (.int .i64 (j : Int)) u) := fun u hu => load_atN (RL.at (RL.below HR8.out hu) (j := 2) rfl)
        have HLA : Hid (∀ u, Below W8.heap.size W8 u → (loadVar 26 ⟨w3.heap.size, 0, none⟩).run Tryz.prog u = .ok (.agg #[.string pn, .slice fa pa fc]) u) := fun u hu => load_atomV (RL.below HR78.out hu)
        have hji : (j : Int) < (l.length : Int) := by omega
        have hj0 : ¬ (j : Int) < 0 := by omega
        have HTK : Hid (∀ i, i ≤ l.length → (l.take i).length = i) := fun i hi => by rw [List.length_take]; omega
        have HC14 : Hid (∀ u, Below W8.heap.size W8 u → Calls Tryz.prog 11 #[.slice (some ⟨g, off, none⟩) j c, .slice none 0 0] u fun e w' => ∃ av, e = .returned av ∧ Below u.heap.size u w' ∧ ∀ u2, Below w'.heap.size w' u2 → Calls Tryz.prog 9 #[.agg #[.slice (some ⟨g, off, none⟩) j c], .slice none 0 0, av] u2 fun e w'' => e = .returned (.agg #[.int .i8 0, .int .i64 0, .int .i64 0]) ∧ Below u2.heap.size u2 w'') := fun u hu =>
          (HSU.out u hu).both (List.take_sublist j l) (List.nil_sublist m) (HTK.out j (by omega)) rfl (ls_take (k := 3) (by decide) (fun _ => rfl) XR0 (HLL8.out.below hu) (by omega) (by omega)) (ls_nilF u) ha
        have HC15 : Hid (∀ u, Below W8.heap.size W8 u → Calls Tryz.prog 9 #[.agg #[.slice (some ⟨g, off, none⟩) (j + 1) c], .slice none 0 0, .agg #[.string pn, .slice fa pa fc]] u fun e w' => e = .returned (.agg #[.int .i8 1, .int .i64 cd, .int .i64 (j : Int)]) ∧ Below u.heap.size u w') := fun u hu =>
          (HSU.out u hu).input (List.take_sublist (j + 1) l) (List.nil_sublist m) (HTK.out (j + 1) (by omega)) rfl (ls_take (k := 3) (by decide) (fun _ => rfl) XR0 (HLL8.out.below hu) (by omega) (by omega)) (ls_nilF u) HFN.out HBS.out.1 HBS.out.2 (HLF8.out.below hu) (hw _ _ _)
        have HC16 : Hid (∀ u, Below W8.heap.size W8 u → Calls Tryz.prog 9 #[.agg #[.slice (some ⟨g, off + j * 3, none⟩) 1 (c - j)], .slice none 0 0, .agg #[.string pn, .slice fa pa fc]] u fun e w' => e = .returned (.agg #[.int .i8 1, .int .i64 cd, .int .i64 0]) ∧ Below u.heap.size u w') := fun u hu =>
          (HSU.out u hu).input (one_sub hj) (List.nil_sublist m) rfl rfl (ls_one (k := 3) (by decide) (fun _ => rfl) XR0 (HLL8.out.below hu) hj) (ls_nilF u) HFN.out HBS.out.1 HBS.out.2 (HLF8.out.below hu) (ho _ _ _)
        clear h hw ha ho HAT hat HSU HLL8 HTK hgl hjy hj HI8 HLF8 HI HL HM HT HG HF HFN HBS
        go_upto_region 14 with fail
        refine wp_region_noPanic ?_
        refine wp_region_held (S := fun u => Below W8.heap.size W8 u) (by kernel_rfl) ?_
        refine reg14 (w5 := W8) (b8 := w4.heap.size) (g := g) (off := off) (nn := l.length) (cc := c) (k := j) (p1 := 0) (p2 := 0) (p3 := 0) rfl rfl rfl rfl rfl rfl rfl rfl rfl rfl rfl rfl rfl (by kernel_rfl) (by kernel_rfl) (by kernel_rfl) (by kernel_rfl) (by kernel_rfl) (by kernel_rfl) (by kernel_rfl) (by kernel_rfl) (by kernel_rfl) (fun _ _ _ _ _ h => h) (by simp) rfl rfl (by omega) hn1 HLK.out HC14.out ?_
        intro af w9 b9 hAg h20 hRL hb9 hBf
        refine NoPanic.normal ?_
        rename_i hK
        refine hK _ _ ?_
        have hf := hAg.form
        unfold js_reg14 at hf
        simp only [List.foldl_cons, List.foldl_nil] at hf
        have h20' : af.tmps.getD 9 undef = .pointer (some ⟨b9, 0, none⟩) := by simpa [Act.eval] using h20
        rw [h20'] at hf
        generalize af.tmps.getD 64 undef = g64 at hf
        generalize af.tmps.getD 65 undef = g65 at hf
        generalize af.tmps.getD 66 undef = g66 at hf
        generalize af.tmps.getD 67 undef = g67 at hf
        generalize af.tmps.getD 68 undef = g68 at hf
        generalize af.tmps.getD 69 undef = g69 at hf
        generalize af.tmps.getD 70 undef = g70 at hf
        generalize af.tmps.getD 71 undef = g71 at hf
        generalize af.tmps.getD 72 undef = g72 at hf
        generalize af.tmps.getD 73 undef = g73 at hf
        generalize af.tmps.getD 74 undef = g74 at hf
        clear h20 h20' hAg hK
        subst hf
        simp (config := { maxSteps := 8000000 }) only [List.setIfInBounds_toArray, List.set_cons_succ, List.set_cons_zero]
        have B9 := Lib.hid hBf
        have HR9 := Lib.hid hRL
        have HU9 : Hid (∀ u, Below w9.heap.size w9 u → Below W8.heap.size W8 u) := fun u hu => B9.out.trans (hu.mono B9.out.size)
        clear hBf hRL hb9 HC14
        go_upto_region 15 with fail
        refine wp_region_noPanic ?_
        refine wp_region_held (S := fun u => Below w9.heap.size w9 u) (by kernel_rfl) ?_
        refine reg15 (w5 := w9) (b7 := w3.heap.size) (b8 := w4.heap.size) (g := g) (off := off) (nn := l.length) (cc := c) (k := j) (qv := .agg #[.string pn, .slice fa pa fc]) (p1 := 1) (p2 := cd) (p3 := (j : Int)) rfl rfl rfl rfl rfl rfl rfl rfl rfl rfl (by kernel_rfl) (by kernel_rfl) (by kernel_rfl) (by kernel_rfl) (by kernel_rfl) (by kernel_rfl) (by kernel_rfl) (fun _ _ _ _ _ h => h) (by simp) rfl rfl rfl (by omega) hn1 (by omega) (fun u hu => HLK.out u (HU9.out u hu)) (fun u hu => HLA.out u (HU9.out u hu)) (fun u hu => HC15.out u (HU9.out u hu)) ?_
        intro af w10 b10 hAg h20 hRL hb9 hBf
        refine NoPanic.normal ?_
        rename_i hK
        refine hK _ _ ?_
        have hf := hAg.form
        unfold js_reg15 at hf
        simp only [List.foldl_cons, List.foldl_nil] at hf
        have h20' : af.tmps.getD 10 undef = .pointer (some ⟨b10, 0, none⟩) := by simpa [Act.eval] using h20
        rw [h20'] at hf
        generalize af.tmps.getD 75 undef = g75 at hf
        generalize af.tmps.getD 76 undef = g76 at hf
        generalize af.tmps.getD 77 undef = g77 at hf
        generalize af.tmps.getD 78 undef = g78 at hf
        generalize af.tmps.getD 79 undef = g79 at hf
        generalize af.tmps.getD 80 undef = g80 at hf
        generalize af.tmps.getD 81 undef = g81 at hf
        generalize af.tmps.getD 82 undef = g82 at hf
        clear h20 h20' hAg hK
        subst hf
        simp (config := { maxSteps := 8000000 }) only [List.setIfInBounds_toArray, List.set_cons_succ, List.set_cons_zero]
        have B10 := Lib.hid hBf
        have HR10 := Lib.hid hRL
        have HU10 : Hid (∀ u, Below w10.heap.size w10 u → Below w9.heap.size w9 u) := fun u hu => B10.out.trans (hu.mono B10.out.size)
        clear hBf hRL hb9 HC15
        go_upto_region 16 with fail
        refine wp_region_noPanic ?_
        refine wp_region_held (S := fun u => Below w10.heap.size w10 u) (by kernel_rfl) ?_
        refine reg16 (w5 := w10) (b7 := w3.heap.size) (b8 := w4.heap.size) (g := g) (off := off) (nn := l.length) (cc := c) (k := j) (qv := .agg #[.string pn, .slice fa pa fc]) (p1 := 1) (p2 := cd) (p3 := 0) rfl rfl rfl rfl rfl rfl rfl rfl rfl rfl rfl rfl (by kernel_rfl) (by kernel_rfl) (by kernel_rfl) (by kernel_rfl) (by kernel_rfl) (by kernel_rfl) (by kernel_rfl) (fun _ _ _ _ _ h => h) (by simp) rfl rfl rfl (by omega) hn1 (by omega) (fun u hu => HLK.out u (HU9.out u (HU10.out u hu))) (fun u hu => HLA.out u (HU9.out u (HU10.out u hu))) (fun u hu => HC16.out u (HU9.out u (HU10.out u hu))) ?_
        intro af w11 b11 hAg h20 hRL hb9 hBf
        refine NoPanic.normal ?_
        rename_i hK
        refine hK _ _ ?_
        have hf := hAg.form
        unfold js_reg16 at hf
        simp only [List.foldl_cons, List.foldl_nil] at hf
        have h20' : af.tmps.getD 11 undef = .pointer (some ⟨b11, 0, none⟩) := by simpa [Act.eval] using h20
        rw [h20'] at hf
        generalize af.tmps.getD 83 undef = g83 at hf
        generalize af.tmps.getD 84 undef = g84 at hf
        generalize af.tmps.getD 85 undef = g85 at hf
        generalize af.tmps.getD 86 undef = g86 at hf
        generalize af.tmps.getD 87 undef = g87 at hf
        generalize af.tmps.getD 88 undef = g88 at hf
        generalize af.tmps.getD 89 undef = g89 at hf
        generalize af.tmps.getD 90 undef = g90 at hf
        generalize af.tmps.getD 91 undef = g91 at hf
        generalize af.tmps.getD 92 undef = g92 at hf
        clear h20 h20' hAg hK
        subst hf
        simp (config := { maxSteps := 8000000 }) only [List.setIfInBounds_toArray, List.set_cons_succ, List.set_cons_zero]
        have B11 := Lib.hid (HU9.out w11 (HU10.out w11 hBf))
        have k0 : w11.cell? ⟨w4.heap.size, 0, none⟩ = some (.int .i8 1) := RL.at (RL.below HR8.out B11.out) (j := 0) rfl
        have k1 : w11.cell? ⟨w4.heap.size, 1, none⟩ = some (.int .i64 cd) := RL.at (RL.below HR8.out B11.out) (j := 1) rfl
        have k2 : w11.cell? ⟨w4.heap.size, 2, none⟩ = some (.int .i64 (j : Int)) := RL.at (RL.below HR8.out B11.out) (j := 2) rfl
        have m0 : w11.cell? ⟨b9, 0, none⟩ = some (.int .i8 0) := RL.at (RL.below HR9.out (HU10.out w11 hBf)) (j := 0) rfl
        have m1 : w11.cell? ⟨b9, 1, none⟩ = some (.int .i64 0) := RL.at (RL.below HR9.out (HU10.out w11 hBf)) (j := 1) rfl
        have m2 : w11.cell? ⟨b9, 2, none⟩ = some (.int .i64 0) := RL.at (RL.below HR9.out (HU10.out w11 hBf)) (j := 2) rfl
        have n0 : w11.cell? ⟨b10, 0, none⟩ = some (.int .i8 1) := RL.at (RL.below HR10.out hBf) (j := 0) rfl
        have n1 : w11.cell? ⟨b10, 1, none⟩ = some (.int .i64 cd) := RL.at (RL.below HR10.out hBf) (j := 1) rfl
        have n2 : w11.cell? ⟨b10, 2, none⟩ = some (.int .i64 (j : Int)) := RL.at (RL.below HR10.out hBf) (j := 2) rfl
        have o0 : w11.cell? ⟨b11, 0, none⟩ = some (.int .i8 1) := RL.at hRL (j := 0) rfl
        have o1 : w11.cell? ⟨b11, 1, none⟩ = some (.int .i64 cd) := RL.at hRL (j := 1) rfl
        have o2 : w11.cell? ⟨b11, 2, none⟩ = some (.int .i64 0) := RL.at hRL (j := 2) rfl
        have HFI := Lib.hid (BE.out w11 B11.out)
        clear hBf hRL hb9 HC16 HU9 HU10 B9 B10 B11 HR9 HR10 HLK HLA BE HR78 HR8 c0 c1 c2'
        go_wp2
        go_ret
        exact ⟨by first | rfl | simp, HFI.out⟩
      · have HIN := Lib.hid (HII7.out.input (List.Sublist.refl l) (List.Sublist.refl m) rfl rfl HLL7.out HMM7.out rfl hpr hlen HTT7.out h)
        clear HLL7 HMM7 HTT7 HC
        go_wp2_with fail
        refine HIN.out.mono ?_
        rintro e w4 ⟨rfl, b4⟩
        obtain ⟨W8, hW8⟩ : ∃ W8, W8 = w4.alloc (.cells #[.int .i8 1, .int .i64 cd, .int .i64 (j : Int)] 38) := ⟨_, rfl⟩
        have b8 : Below w4.heap.size w4 W8 := by rw [hW8]; exact belowA _
        have b78 : Below W7.heap.size W7 W8 := b4.trans (b8.mono b4.size)
        have B8 : Hid (Below W0.heap.size W0 W8) := B7.out.trans (b78.mono B7.out.size)
        have HR8 : Hid (RL W8 w4.heap.size 38 [.int .i8 1, .int .i64 cd, .int .i64 (j : Int)]) := by
          have := rl_new w4 #[.int .i8 1, .int .i64 cd, .int .i64 (j : Int)] 38
          rw [← hW8] at this
          exact this
        have HR78 := Lib.hid (RL.below HR7.out b78)
        have HLF8 := Lib.hid (HLF.out.below b78)
        have HI8 := Lib.hid (HII7.out.below b78)
        have BE : Hid (∀ u, Below W8.heap.size W8 u → Below w.heap.size w u) := fun u hu => HK.out.trans ((B8.out.trans (hu.mono B8.out.size)).mono HK.out.size)
        clear HIN b4 b8 b78 HR7 HLF HII7 q0 q1 B7
        go_upto_region 7 with fail
        rw [← hW8]
        clear hW8
        have c0 : W8.cell? ⟨w4.heap.size, 0, none⟩ = some (.int .i8 1) := RL.at HR8.out (j := 0) rfl
        have c1 : W8.cell? ⟨w4.heap.size, 1, none⟩ = some (.int .i64 cd) := RL.at HR8.out (j := 1) rfl
        have c2' : W8.cell? ⟨w4.heap.size, 2, none⟩ = some (.int .i64 (j : Int)) := RL.at HR8.out (j := 2) rfl
        have HAT := Lib.hid HI8.out.R.form
        obtain ⟨a', c', hv, hn1, hn2, hat⟩ := HAT.out
        injection hv with hv1 _ hv2
        subst hv1 hv2
        obtain ⟨hjl, hjy⟩ := List.getElem?_eq_some_iff.1 hj
        obtain ⟨g, off, rfl, hgl, _⟩ := hat (by omega)
        have HLL8 := Lib.hid HI8.out.R.lies
        have HSU : Hid (∀ u, Below W8.heap.size W8 u → Inp d F l m (some ⟨g, off, none⟩) c a2 c2 u) := fun u hu => HI8.out.below hu
        have HLK : Hid (∀ u, Below W8.heap.size W8 u → (loadVar 3 ⟨w4.heap.size, 2, none⟩).run Tryz.prog u = .ok (.int .i64 (j : Int)) u) := fun u hu => load_atN (RL.at (RL.below HR8.out hu) (j := 2) rfl)
        have HLA : Hid (∀ u, Below W8.heap.size W8 u → (loadVar 26 ⟨w3.heap.size, 0, none⟩).run Tryz.prog u = .ok (.agg #[.string pn, .slice fa pa fc]) u) := fun u hu => load_atomV (RL.below HR78.out hu)
        have hji : (j : Int) < (l.length : Int) := by omega
        have hj0 : ¬ (j : Int) < 0 := by omega
        have HTK : Hid (∀ i, i ≤ l.length → (l.take i).length = i) := fun i hi => by rw [List.length_take]; omega
        have HC14 : Hid (∀ u, Below W8.heap.size W8 u → Calls Tryz.prog 11 #[.slice (some ⟨g, off, none⟩) j c, .slice none 0 0] u fun e w' => ∃ av, e = .returned av ∧ Below u.heap.size u w' ∧ ∀ u2, Below w'.heap.size w' u2 → Calls Tryz.prog 9 #[.agg #[.slice (some ⟨g, off, none⟩) j c], .slice none 0 0, av] u2 fun e w'' => e = .returned (.agg #[.int .i8 1, .int .i64 72, .int .i64 i]) ∧ Below u2.heap.size u2 w'') := fun u hu =>
          (HSU.out u hu).both (List.take_sublist j l) (List.nil_sublist m) (HTK.out j (by omega)) rfl (ls_take (k := 3) (by decide) (fun _ => rfl) XR0 (HLL8.out.below hu) (by omega) (by omega)) (ls_nilF u) ha
        have HC15 : Hid (∀ u, Below W8.heap.size W8 u → Calls Tryz.prog 9 #[.agg #[.slice (some ⟨g, off, none⟩) (j + 1) c], .slice none 0 0, .agg #[.string pn, .slice fa pa fc]] u fun e w' => e = .returned (.agg #[.int .i8 1, .int .i64 cd, .int .i64 (j : Int)]) ∧ Below u.heap.size u w') := fun u hu =>
          (HSU.out u hu).input (List.take_sublist (j + 1) l) (List.nil_sublist m) (HTK.out (j + 1) (by omega)) rfl (ls_take (k := 3) (by decide) (fun _ => rfl) XR0 (HLL8.out.below hu) (by omega) (by omega)) (ls_nilF u) HFN.out HBS.out.1 HBS.out.2 (HLF8.out.below hu) (hw _ _ _)
        have HC16 : Hid (∀ u, Below W8.heap.size W8 u → Calls Tryz.prog 9 #[.agg #[.slice (some ⟨g, off + j * 3, none⟩) 1 (c - j)], .slice none 0 0, .agg #[.string pn, .slice fa pa fc]] u fun e w' => e = .returned (.agg #[.int .i8 1, .int .i64 cd, .int .i64 0]) ∧ Below u.heap.size u w') := fun u hu =>
          (HSU.out u hu).input (one_sub hj) (List.nil_sublist m) rfl rfl (ls_one (k := 3) (by decide) (fun _ => rfl) XR0 (HLL8.out.below hu) hj) (ls_nilF u) HFN.out HBS.out.1 HBS.out.2 (HLF8.out.below hu) (ho _ _ _)
        clear h hw ha ho HAT hat HSU HLL8 HTK hgl hjy hj HI8 HLF8 HI HL HM HT HG HF HFN HBS
        go_upto_region 14 with fail
        refine wp_region_noPanic ?_
        refine wp_region_held (S := fun u => Below W8.heap.size W8 u) (by kernel_rfl) ?_
        refine reg14 (w5 := W8) (b8 := w4.heap.size) (g := g) (off := off) (nn := l.length) (cc := c) (k := j) (p1 := 1) (p2 := 72) (p3 := i) rfl rfl rfl rfl rfl rfl rfl rfl rfl rfl rfl rfl rfl (by kernel_rfl) (by kernel_rfl) (by kernel_rfl) (by kernel_rfl) (by kernel_rfl) (by kernel_rfl) (by kernel_rfl) (by kernel_rfl) (by kernel_rfl) (fun _ _ _ _ _ h => h) (by simp) rfl rfl (by omega) hn1 HLK.out HC14.out ?_
        intro af w9 b9 hAg h20 hRL hb9 hBf
        refine NoPanic.normal ?_
        rename_i hK
        refine hK _ _ ?_
        have hf := hAg.form
        unfold js_reg14 at hf
        simp only [List.foldl_cons, List.foldl_nil] at hf
        have h20' : af.tmps.getD 9 undef = .pointer (some ⟨b9, 0, none⟩) := by simpa [Act.eval] using h20
        rw [h20'] at hf
        generalize af.tmps.getD 64 undef = g64 at hf
        generalize af.tmps.getD 65 undef = g65 at hf
        generalize af.tmps.getD 66 undef = g66 at hf
        generalize af.tmps.getD 67 undef = g67 at hf
        generalize af.tmps.getD 68 undef = g68 at hf
        generalize af.tmps.getD 69 undef = g69 at hf
        generalize af.tmps.getD 70 undef = g70 at hf
        generalize af.tmps.getD 71 undef = g71 at hf
        generalize af.tmps.getD 72 undef = g72 at hf
        generalize af.tmps.getD 73 undef = g73 at hf
        generalize af.tmps.getD 74 undef = g74 at hf
        clear h20 h20' hAg hK
        subst hf
        simp (config := { maxSteps := 8000000 }) only [List.setIfInBounds_toArray, List.set_cons_succ, List.set_cons_zero]
        have B9 := Lib.hid hBf
        have HR9 := Lib.hid hRL
        have HU9 : Hid (∀ u, Below w9.heap.size w9 u → Below W8.heap.size W8 u) := fun u hu => B9.out.trans (hu.mono B9.out.size)
        clear hBf hRL hb9 HC14
        go_upto_region 15 with fail
        refine wp_region_noPanic ?_
        refine wp_region_held (S := fun u => Below w9.heap.size w9 u) (by kernel_rfl) ?_
        refine reg15 (w5 := w9) (b7 := w3.heap.size) (b8 := w4.heap.size) (g := g) (off := off) (nn := l.length) (cc := c) (k := j) (qv := .agg #[.string pn, .slice fa pa fc]) (p1 := 1) (p2 := cd) (p3 := (j : Int)) rfl rfl rfl rfl rfl rfl rfl rfl rfl rfl (by kernel_rfl) (by kernel_rfl) (by kernel_rfl) (by kernel_rfl) (by kernel_rfl) (by kernel_rfl) (by kernel_rfl) (fun _ _ _ _ _ h => h) (by simp) rfl rfl rfl (by omega) hn1 (by omega) (fun u hu => HLK.out u (HU9.out u hu)) (fun u hu => HLA.out u (HU9.out u hu)) (fun u hu => HC15.out u (HU9.out u hu)) ?_
        intro af w10 b10 hAg h20 hRL hb9 hBf
        refine NoPanic.normal ?_
        rename_i hK
        refine hK _ _ ?_
        have hf := hAg.form
        unfold js_reg15 at hf
        simp only [List.foldl_cons, List.foldl_nil] at hf
        have h20' : af.tmps.getD 10 undef = .pointer (some ⟨b10, 0, none⟩) := by simpa [Act.eval] using h20
        rw [h20'] at hf
        generalize af.tmps.getD 75 undef = g75 at hf
        generalize af.tmps.getD 76 undef = g76 at hf
        generalize af.tmps.getD 77 undef = g77 at hf
        generalize af.tmps.getD 78 undef = g78 at hf
        generalize af.tmps.getD 79 undef = g79 at hf
        generalize af.tmps.getD 80 undef = g80 at hf
        generalize af.tmps.getD 81 undef = g81 at hf
        generalize af.tmps.getD 82 undef = g82 at hf
        clear h20 h20' hAg hK
        subst hf
        simp (config := { maxSteps := 8000000 }) only [List.setIfInBounds_toArray, List.set_cons_succ, List.set_cons_zero]
        have B10 := Lib.hid hBf
        have HR10 := Lib.hid hRL
        have HU10 : Hid (∀ u, Below w10.heap.size w10 u → Below w9.heap.size w9 u) := fun u hu => B10.out.trans (hu.mono B10.out.size)
        clear hBf hRL hb9 HC15
        go_upto_region 16 with fail
        refine wp_region_noPanic ?_
        refine wp_region_held (S := fun u => Below w10.heap.size w10 u) (by kernel_rfl) ?_
        refine reg16 (w5 := w10) (b7 := w3.heap.size) (b8 := w4.heap.size) (g := g) (off := off) (nn := l.length) (cc := c) (k := j) (qv := .agg #[.string pn, .slice fa pa fc]) (p1 := 1) (p2 := cd) (p3 := 0) rfl rfl rfl rfl rfl rfl rfl rfl rfl rfl rfl rfl (by kernel_rfl) (by kernel_rfl) (by kernel_rfl) (by kernel_rfl) (by kernel_rfl) (by kernel_rfl) (by kernel_rfl) (fun _ _ _ _ _ h => h) (by simp) rfl rfl rfl (by omega) hn1 (by omega) (fun u hu => HLK.out u (HU9.out u (HU10.out u hu))) (fun u hu => HLA.out u (HU9.out u (HU10.out u hu))) (fun u hu => HC16.out u (HU9.out u (HU10.out u hu))) ?_
        intro af w11 b11 hAg h20 hRL hb9 hBf
        refine NoPanic.normal ?_
        rename_i hK
        refine hK _ _ ?_
        have hf := hAg.form
        unfold js_reg16 at hf
        simp only [List.foldl_cons, List.foldl_nil] at hf
        have h20' : af.tmps.getD 11 undef = .pointer (some ⟨b11, 0, none⟩) := by simpa [Act.eval] using h20
        rw [h20'] at hf
        generalize af.tmps.getD 83 undef = g83 at hf
        generalize af.tmps.getD 84 undef = g84 at hf
        generalize af.tmps.getD 85 undef = g85 at hf
        generalize af.tmps.getD 86 undef = g86 at hf
        generalize af.tmps.getD 87 undef = g87 at hf
        generalize af.tmps.getD 88 undef = g88 at hf
        generalize af.tmps.getD 89 undef = g89 at hf
        generalize af.tmps.getD 90 undef = g90 at hf
        generalize af.tmps.getD 91 undef = g91 at hf
        generalize af.tmps.getD 92 undef = g92 at hf
        clear h20 h20' hAg hK
        subst hf
        simp (config := { maxSteps := 8000000 }) only [List.setIfInBounds_toArray, List.set_cons_succ, List.set_cons_zero]
        have B11 := Lib.hid (HU9.out w11 (HU10.out w11 hBf))
        have k0 : w11.cell? ⟨w4.heap.size, 0, none⟩ = some (.int .i8 1) := RL.at (RL.below HR8.out B11.out) (j := 0) rfl
        have k1 : w11.cell? ⟨w4.heap.size, 1, none⟩ = some (.int .i64 cd) := RL.at (RL.below HR8.out B11.out) (j := 1) rfl
        have k2 : w11.cell? ⟨w4.heap.size, 2, none⟩ = some (.int .i64 (j : Int)) := RL.at (RL.below HR8.out B11.out) (j := 2) rfl
        have m0 : w11.cell? ⟨b9, 0, none⟩ = some (.int .i8 1) := RL.at (RL.below HR9.out (HU10.out w11 hBf)) (j := 0) rfl
        have m1 : w11.cell? ⟨b9, 1, none⟩ = some (.int .i64 72) := RL.at (RL.below HR9.out (HU10.out w11 hBf)) (j := 1) rfl
        have m2 : w11.cell? ⟨b9, 2, none⟩ = some (.int .i64 i) := RL.at (RL.below HR9.out (HU10.out w11 hBf)) (j := 2) rfl
        have n0 : w11.cell? ⟨b10, 0, none⟩ = some (.int .i8 1) := RL.at (RL.below HR10.out hBf) (j := 0) rfl
        have n1 : w11.cell? ⟨b10, 1, none⟩ = some (.int .i64 cd) := RL.at (RL.below HR10.out hBf) (j := 1) rfl
        have n2 : w11.cell? ⟨b10, 2, none⟩ = some (.int .i64 (j : Int)) := RL.at (RL.below HR10.out hBf) (j := 2) rfl
        have o0 : w11.cell? ⟨b11, 0, none⟩ = some (.int .i8 1) := RL.at hRL (j := 0) rfl
        have o1 : w11.cell? ⟨b11, 1, none⟩ = some (.int .i64 cd) := RL.at hRL (j := 1) rfl
        have o2 : w11.cell? ⟨b11, 2, none⟩ = some (.int .i64 0) := RL.at hRL (j := 2) rfl
        have HFI := Lib.hid (BE.out w11 B11.out)
        clear hBf hRL hb9 HC16 HU9 HU10 B9 B10 B11 HR9 HR10 HLK HLA BE HR78 HR8 c0 c1 c2'
        go_wp2
        go_ret
        exact ⟨by first | rfl | simp, HFI.out⟩
    · have HIN := Lib.hid (HII7.out.input (List.Sublist.refl l) (List.Sublist.refl m) rfl rfl HLL7.out HMM7.out rfl hpr hlen HTT7.out h)
      clear HLL7 HMM7 HTT7 HC
      go_wp2_with fail
      refine HIN.out.mono ?_
      rintro e w4 ⟨rfl, b4⟩
      obtain ⟨W8, hW8⟩ : ∃ W8, W8 = w4.alloc (.cells #[.int .i8 2, .int .i64 70, .int .i64 0] 38) := ⟨_, rfl⟩
      have b8 : Below w4.heap.size w4 W8 := by rw [hW8]; exact belowA _
      have b78 : Below W7.heap.size W7 W8 := b4.trans (b8.mono b4.size)
      have B8 : Hid (Below W0.heap.size W0 W8) := B7.out.trans (b78.mono B7.out.size)
      have HR8 : Hid (RL W8 w4.heap.size 38 [.int .i8 2, .int .i64 70, .int .i64 0]) := by
        have := rl_new w4 #[.int .i8 2, .int .i64 70, .int .i64 0] 38
        rw [← hW8] at this
        exact this
      have HR78 := Lib.hid (RL.below HR7.out b78)
      have HLF8 := Lib.hid (HLF.out.below b78)
      have HI8 := Lib.hid (HII7.out.below b78)
      have BE : Hid (∀ u, Below W8.heap.size W8 u → Below w.heap.size w u) := fun u hu => HK.out.trans ((B8.out.trans (hu.mono B8.out.size)).mono HK.out.size)
      clear HIN b4 b8 b78 HR7 HLF HII7 q0 q1 B7
      go_upto_region 7 with fail
      rw [← hW8]
      clear hW8
      have c0 : W8.cell? ⟨w4.heap.size, 0, none⟩ = some (.int .i8 2) := RL.at HR8.out (j := 0) rfl
      have c1 : W8.cell? ⟨w4.heap.size, 1, none⟩ = some (.int .i64 70) := RL.at HR8.out (j := 1) rfl
      have c2' : W8.cell? ⟨w4.heap.size, 2, none⟩ = some (.int .i64 0) := RL.at HR8.out (j := 2) rfl
      have hmn : (65536 : Int) < (m.length : Int) := by omega
      clear h
      go_wp2
      go_ret
      exact ⟨by first | rfl | simp, BE.out _ (Below.refl _ _)⟩
    · have HIN := Lib.hid (HII7.out.input (List.Sublist.refl l) (List.Sublist.refl m) rfl rfl HLL7.out HMM7.out rfl hpr hlen HTT7.out h)
      clear HLL7 HMM7 HTT7 HC
      go_wp2_with fail
      refine HIN.out.mono ?_
      rintro e w4 ⟨rfl, b4⟩
      obtain ⟨W8, hW8⟩ : ∃ W8, W8 = w4.alloc (.cells #[.int .i8 2, .int .i64 cd, .int .i64 (j : Int)] 38) := ⟨_, rfl⟩
      have b8 : Below w4.heap.size w4 W8 := by rw [hW8]; exact belowA _
      have b78 : Below W7.heap.size W7 W8 := b4.trans (b8.mono b4.size)
      have B8 : Hid (Below W0.heap.size W0 W8) := B7.out.trans (b78.mono B7.out.size)
      have HR8 : Hid (RL W8 w4.heap.size 38 [.int .i8 2, .int .i64 cd, .int .i64 (j : Int)]) := by
        have := rl_new w4 #[.int .i8 2, .int .i64 cd, .int .i64 (j : Int)] 38
        rw [← hW8] at this
        exact this
      have HR78 := Lib.hid (RL.below HR7.out b78)
      have HLF8 := Lib.hid (HLF.out.below b78)
      have HI8 := Lib.hid (HII7.out.below b78)
      have BE : Hid (∀ u, Below W8.heap.size W8 u → Below w.heap.size w u) := fun u hu => HK.out.trans ((B8.out.trans (hu.mono B8.out.size)).mono HK.out.size)
      clear HIN b4 b8 b78 HR7 HLF HII7 q0 q1 B7
      go_upto_region 7 with fail
      rw [← hW8]
      clear hW8
      have c0 : W8.cell? ⟨w4.heap.size, 0, none⟩ = some (.int .i8 2) := RL.at HR8.out (j := 0) rfl
      have c1 : W8.cell? ⟨w4.heap.size, 1, none⟩ = some (.int .i64 cd) := RL.at HR8.out (j := 1) rfl
      have c2' : W8.cell? ⟨w4.heap.size, 2, none⟩ = some (.int .i64 (j : Int)) := RL.at HR8.out (j := 2) rfl
      have HAT := Lib.hid HI8.out.M.form
      obtain ⟨a', c', hv, hn1, hn2, hat⟩ := HAT.out
      injection hv with hv1 _ hv2
      subst hv1 hv2
      obtain ⟨g, off, rfl, hgl, _⟩ := hat (by omega)
      have hji : (j : Int) < (m.length : Int) := by omega
      have hj0 : ¬ (j : Int) < 0 := by omega
      obtain ⟨W9, hW9⟩ : ∃ W9, W9 = W8.alloc (.cells #[.slice a l.length c] 41) := ⟨_, rfl⟩
      have b9 : Below W8.heap.size W8 W9 := by rw [hW9]; exact belowA _
      have HRP : Hid (RL W9 W8.heap.size 41 [.slice a l.length c]) := by
        have := rl_new W8 #[.slice a l.length c] 41
        rw [← hW9] at this
        exact this
      have HSU : Hid (∀ u, Below W9.heap.size W9 u → Inp d F l m a c (some ⟨g, off, none⟩) c2 u) := fun u hu => HI8.out.below (b9.trans (hu.mono b9.size))
      have HLK : Hid (∀ u, Below W9.heap.size W9 u → (loadVar 3 ⟨w4.heap.size, 2, none⟩).run Tryz.prog u = .ok (.int .i64 (j : Int)) u) := fun u hu => load_atN (RL.at (RL.below HR8.out (b9.trans (hu.mono b9.size))) (j := 2) rfl)
      have HLX : Hid (∀ u, Below W9.heap.size W9 u → (loadVar 38 ⟨w4.heap.size, 0, none⟩).run Tryz.prog u = .ok (.agg #[.int .i8 2, .int .i64 cd, .int .i64 (j : Int)]) u) := fun u hu => load_refV (RL.below HR8.out (b9.trans (hu.mono b9.size)))
      have HLA : Hid (∀ u, Below W9.heap.size W9 u → (loadVar 26 ⟨w3.heap.size, 0, none⟩).run Tryz.prog u = .ok (.agg #[.string pn, .slice fa pa fc]) u) := fun u hu => load_atomV (RL.below HR78.out (b9.trans (hu.mono b9.size)))
      have HLP : Hid (∀ u, Below W9.heap.size W9 u → (loadVar 41 ⟨W8.heap.size, 0, none⟩).run Tryz.prog u = .ok (.agg #[.slice a l.length c]) u) := fun u hu => load_pgN (RL.below HRP.out hu)
      have HFL : Hid (∀ u, Below W9.heap.size W9 u → Lt u (.slice fa pa fc) (List.replicate pa bkT)) := fun u hu => HLF8.out.below (b9.trans (hu.mono b9.size))
      have HTK : Hid (∀ i, i ≤ m.length → (m.take i).length = i) := fun i hi => by rw [List.length_take]; omega
      have HLM : Hid (∀ u, Below W9.heap.size W9 u → ∀ i, i ≤ m.length → Ls u (.slice (some ⟨g, off, none⟩) i c2) i ((m.take i).flatMap XF.cells)) := fun u hu i hi => ls_take (k := 2) (by decide) (fun _ => rfl) XF0 (HSU.out u hu).M.lies hi (by omega)
      have HC1 : Hid (Calls Tryz.prog 11 #[.slice a l.length c, .slice none 0 0] W9.drew fun e u1 => ∃ v1, e = .returned v1 ∧ Below W9.heap.size W9 u1 ∧ Calls Tryz.prog 9 #[.agg #[.slice a l.length c], .slice none 0 0, v1] u1 fun e u2 => e = .returned (.agg #[.int .i8 0, .int .i64 0, .int .i64 0]) ∧ Below W9.heap.size W9 u2 ∧ Calls Tryz.prog 11 #[.slice a l.length c, .slice (some ⟨g, off, none⟩) j c2] u2 fun e u3 => ∃ v2, e = .returned v2 ∧ Below W9.heap.size W9 u3 ∧ Calls Tryz.prog 9 #[.agg #[.slice a l.length c], .slice (some ⟨g, off, none⟩) j c2, v2] u3 fun e u4 => e = .returned (.agg #[.int .i8 0, .int .i64 0, .int .i64 0]) ∧ Below W9.heap.size W9 u4 ∧ Calls Tryz.prog 9 #[.agg #[.slice a l.length c], .slice (some ⟨g, off, none⟩) (j + 1) c2, .agg #[.string pn, .slice fa pa fc]] u4 fun e u5 => e = .returned (.agg #[.int .i8 2, .int .i64 cd, .int .i64 (j : Int)]) ∧ Below W9.heap.size W9 u5) := by
        have y0 : Below W9.heap.size W9 W9.drew := (Below.refl _ _).drew
        have kS : ∀ {u u' : World}, Below W9.heap.size W9 u → Below u.heap.size u u' → Below W9.heap.size W9 u' := fun h b => h.trans (b.mono h.size)
        refine ((HSU.out _ y0).both (List.Sublist.refl l) (List.nil_sublist m) rfl rfl (HSU.out _ y0).R.lies (ls_nilF _) h1).mono ?_
        rintro e u1 ⟨v1, rfl, b1, C1⟩
        have y1 := kS y0 b1
        refine ⟨v1, rfl, y1, (C1 u1 (Below.refl _ _)).mono ?_⟩
        rintro e u2 ⟨rfl, b2⟩
        have y2 := kS y1 b2
        refine ⟨rfl, y2, ((HSU.out _ y2).both (List.Sublist.refl l) (List.take_sublist j m) rfl (HTK.out j (by omega)) (HSU.out _ y2).R.lies (HLM.out _ y2 j (by omega)) h2).mono ?_⟩
        rintro e u3 ⟨v2, rfl, b3, C2⟩
        have y3 := kS y2 b3
        refine ⟨v2, rfl, y3, (C2 u3 (Below.refl _ _)).mono ?_⟩
        rintro e u4 ⟨rfl, b4⟩
        have y4 := kS y3 b4
        refine ⟨rfl, y4, ((HSU.out _ y4).input (List.Sublist.refl l) (List.take_sublist (j + 1) m) rfl (HTK.out (j + 1) (by omega)) (HSU.out _ y4).R.lies (HLM.out _ y4 (j + 1) (by omega)) HFN.out HBS.out.1 HBS.out.2 (HFL.out _ y4) (hw _ _)).mono ?_⟩
        rintro e u5 ⟨rfl, b5⟩
        exact ⟨rfl, kS y4 b5⟩
      have HBW : Hid (∀ u, Below W9.heap.size W9 u → Below w.heap.size w u) := fun u hu => BE.out u (b9.trans (hu.mono b9.size))
      clear h hw h1 h2 HAT hat HSU HTK HLM HFL HI8 HLF8 HI HL HM HT HG HF HFN HBS b9 HR78 HR8 HRP BE
      go_upto_region 26 with fail
      rw [← hW9]
      clear hW9 c0 c1 c2'
      refine wp_region_noPanic ?_
      refine wp_region_held (S := fun u => Below W9.heap.size W9 u) (by kernel_rfl) ?_
      refine cf26 (w5 := W9) (S := fun u => Below W9.heap.size W9 u) (b7 := w3.heap.size) (b8 := w4.heap.size) (b12 := W8.heap.size) (g := g) (off := off) (nn := m.length) (cc := c2) (k := j) (p1 := 2) (p2 := cd) (p3 := (j : Int)) rfl rfl rfl rfl rfl rfl rfl rfl rfl rfl rfl rfl rfl rfl rfl rfl rfl rfl rfl rfl rfl rfl rfl rfl rfl rfl rfl rfl rfl rfl rfl rfl rfl rfl rfl (by kernel_rfl) (by kernel_rfl) (by kernel_rfl) (by kernel_rfl) (by kernel_rfl) (by kernel_rfl) (by kernel_rfl) (by kernel_rfl) (fun _ _ _ _ _ h => h) (by simp) rfl rfl rfl rfl rfl ((Below.refl _ _).drew) (fun _ _ _ h => h) (by omega) hn1 (by omega) HLP.out HLK.out HLA.out HLX.out eqRf0 (run_eqRf 2 cd (j : Int)) HC1.out ?_
      intro wc v1 v2 hwc
      have HFI := Lib.hid (HBW.out wc hwc)
      clear hwc HC1 HLP HLK HLA HLX HBW
      refine NoPanic.normal ?_
      rename_i hK
      refine hK _ _ ?_
      simp (config := { maxSteps := 8000000 }) only [Act.put, List.getElem_toArray, List.getElem_cons_zero, List.getElem_cons_succ, List.setIfInBounds_toArray, List.set_cons_succ, List.set_cons_zero]
      go_wp2
      go_ret
      exact ⟨by first | rfl | simp, HFI.out⟩
    · have HIN := Lib.hid (HII7.out.input (List.Sublist.refl l) (List.Sublist.refl m) rfl rfl HLL7.out HMM7.out rfl hpr hlen HTT7.out h)
      clear HLL7 HMM7 HTT7 HC
      go_wp2_with fail
      refine HIN.out.mono ?_
      rintro e w4 ⟨rfl, b4⟩
      obtain ⟨W8, hW8⟩ : ∃ W8, W8 = w4.alloc (.cells #[.int .i8 3, .int .i64 72, .int .i64 0] 38) := ⟨_, rfl⟩
      have b8 : Below w4.heap.size w4 W8 := by rw [hW8]; exact belowA _
      have b78 : Below W7.heap.size W7 W8 := b4.trans (b8.mono b4.size)
      have B8 : Hid (Below W0.heap.size W0 W8) := B7.out.trans (b78.mono B7.out.size)
      have HR8 : Hid (RL W8 w4.heap.size 38 [.int .i8 3, .int .i64 72, .int .i64 0]) := by
        have := rl_new w4 #[.int .i8 3, .int .i64 72, .int .i64 0] 38
        rw [← hW8] at this
        exact this
      have HR78 := Lib.hid (RL.below HR7.out b78)
      have HLF8 := Lib.hid (HLF.out.below b78)
      have HI8 := Lib.hid (HII7.out.below b78)
      have BE : Hid (∀ u, Below W8.heap.size W8 u → Below w.heap.size w u) := fun u hu => HK.out.trans ((B8.out.trans (hu.mono B8.out.size)).mono HK.out.size)
      clear HIN b4 b8 b78 HR7 HLF HII7 q0 q1 B7
      go_upto_region 7 with fail
      rw [← hW8]
      clear hW8
      have c0 : W8.cell? ⟨w4.heap.size, 0, none⟩ = some (.int .i8 3) := RL.at HR8.out (j := 0) rfl
      have c1 : W8.cell? ⟨w4.heap.size, 1, none⟩ = some (.int .i64 72) := RL.at HR8.out (j := 1) rfl
      have c2' : W8.cell? ⟨w4.heap.size, 2, none⟩ = some (.int .i64 0) := RL.at HR8.out (j := 2) rfl
      have HPS := Lib.hid (predsP_any (d + 1) l m a c (.slice a2 m.length c2) W8 HI8.out.R HI8.out.M (fun i hi => (HI8.out.sS.each i hi).bd) (Sb.own HI8.out.sS HI8.out.sF).n)
      rw [hs] at HPS
      go_wp2_with fail
      refine HPS.out.mono ?_
      rintro e w9 ⟨b9, hP⟩
      rcases hP with ⟨s', ka, kc, kn, he, rfl, hpm, hup, hown⟩ | ⟨he, _⟩
      case inr => cases he
      obtain rfl : s = s' := Option.some.inj he
      have k0 : w9.cell? ⟨w4.heap.size, 0, none⟩ = some (.int .i8 3) := RL.at (RL.below HR8.out b9) (j := 0) rfl
      have k1 : w9.cell? ⟨w4.heap.size, 1, none⟩ = some (.int .i64 72) := RL.at (RL.below HR8.out b9) (j := 1) rfl
      have k2 : w9.cell? ⟨w4.heap.size, 2, none⟩ = some (.int .i64 0) := RL.at (RL.below HR8.out b9) (j := 2) rfl
      have HR59 := Lib.hid (RL.below HR5.out (B8.out.trans (b9.mono B8.out.size)))
      have HFI : Hid (∀ u, Below w9.heap.size w9 u → Below w.heap.size w u) := fun u hu => BE.out u (b9.trans (hu.mono b9.size))
      have HQ : Hid (∀ i, i < kn.length → (atPd kn i).n = pr → ¬ (atPd kn i).a = ts.length) := fun i hi he => by
        have h1 : atPd kn i ∈ kn := by rw [atPd_eq hi]; exact List.getElem_mem _
        obtain ⟨h2, h3⟩ := seekP_some hq
        rw [nodup_inj nd (hpm.subset h1) h2 (he.trans h3.symm)]
        exact hn
      have HE : Hid (∃ i, i < kn.length ∧ (atPd kn i).n = pr) := by
        obtain ⟨h2, h3⟩ := seekP_some hq
        obtain ⟨i, hi, e⟩ := List.getElem_of_mem (hpm.symm.subset h2)
        exact ⟨i, hi, by rw [atPd_eq hi, e]; exact h3⟩
      have HOW := Lib.hid (ls_own hown)
      have hkl := hown.2
      obtain ⟨ka', kc', hv, hkn1, hkn2, hkat⟩ := ls_range (f := Pd.cells) (k := 2) (fun _ => rfl) Pd0 HOW.out
      injection hv with hv1 _ hv2
      subst hv1 hv2
      unfold maxLen at hkn2
      have HKA := Lib.hid hkat
      clear h hs hq hn nd hpm hup hown hkl hkat he HPS HI8 HLF8 HI HL HM HT HG HF HFN HBS HR78 HR8 BE c0 c1 c2' b9 HR5 HOW B8
      go_wp2
      go_loopw [15] (fun i wr => ∃ k : Nat, Hid (Below w9.heap.size w9 wr) ∧ k ≤ kn.length ∧ i = .int .i64 k ∧ Hid (∀ i, i < k → ¬ (atPd kn i).n = pr)) (fun i _ => kn.length - (intOf i).toNat)
      case atStart => exact ⟨0, Below.refl _ _, Nat.zero_le _, rfl, fun i hi => absurd hi (by omega)⟩
      case round =>
        obtain ⟨k, HBR, hk, rfl, HN⟩ := hrel
        obtain ⟨U, rfl⟩ : ∃ U, U = wr := ⟨_, rfl⟩
        have q0 : U.cell? ⟨w.heap.size, 0, none⟩ = some (.string pr) := RL.at (RL.below HR59.out HBR.out) (j := 0) rfl
        have q1 : U.cell? ⟨w.heap.size, 1, none⟩ = some (.slice qa ts.length qc) := RL.at (RL.below HR59.out HBR.out) (j := 1) rfl
        have hlt : k < kn.length := by
          obtain ⟨i, hi, he⟩ := HE.out
          rcases Nat.lt_or_ge k kn.length with h | h
          · exact h
          · exact absurd he (HN.out i (by omega))
        have hlt' : (k : Int) < (kn.length : Int) := by omega
        obtain ⟨g, off, rfl, hg, hr⟩ := HKA.out (by omega)
        have hrk : U.rangeAt g (off + k * 2) (atPd kn k).cells := range_below (hr k hlt) HBR.out hg
        have x0 : U.cell? ⟨g, off + k * 2, none⟩ = some (.string (atPd kn k).n) := hrk 0 _ rfl
        have x1 : U.cell? ⟨g, off + k * 2 + 1, none⟩ = some (.int .i64 (atPd kn k).a) := hrk 1 _ rfl
        clear hr hrk
        by_cases he : (atPd kn k).n = pr
        · have hna := HQ.out k hlt he
          have hnb : (((atPd kn k).a : Int) != (ts.length : Int)) = true := by simp; omega
          have hnt : ((atPd kn k).n.toList == pr.toList) = true := by rw [he]; simp
          clear he hna
          go_wp2_with fail
          go_quiet (fail)
          go_wp2_with fail
          go_quiet (fail)
          go_wp2
          go_ret
          exact ⟨by first | rfl | simp, HFI.out _ (below_drewN (below_drewN HBR.out _) _)⟩
        · have hnt : ((atPd kn k).n.toList == pr.toList) = false := by rw [beq_eq_false_iff_ne]; exact fun h => he (toList_inj h)
          have HN' : Hid (∀ i, i < k + 1 → ¬ (atPd kn i).n = pr) := fun i hi => by
            rcases Nat.lt_succ_iff_lt_or_eq.1 hi with h | rfl
            · exact HN.out i h
            · exact he
          clear he HN
          go_wp2_with fail
          go_quiet (fail)
          go_wp2
          go_roundw
          case rel => exact ⟨k + 1, below_drewN HBR.out _, by omega, by simp, HN'⟩
          case measure => simp [intOf]; omega
    · have hcb : (cd == 72) = false := by simpa using hcd
      have hc0b : (cd == 0) = false := by simpa using hc0
      have HIN := Lib.hid (HII7.out.input (List.Sublist.refl l) (List.Sublist.refl m) rfl rfl HLL7.out HMM7.out rfl hpr hlen HTT7.out h)
      clear HLL7 HMM7 HTT7 HC
      go_wp2_with fail
      refine HIN.out.mono ?_
      rintro e w4 ⟨rfl, b4⟩
      obtain ⟨W8, hW8⟩ : ∃ W8, W8 = w4.alloc (.cells #[.int .i8 3, .int .i64 cd, .int .i64 0] 38) := ⟨_, rfl⟩
      have b8 : Below w4.heap.size w4 W8 := by rw [hW8]; exact belowA _
      have b78 : Below W7.heap.size W7 W8 := b4.trans (b8.mono b4.size)
      have B8 : Hid (Below W0.heap.size W0 W8) := B7.out.trans (b78.mono B7.out.size)
      have HR8 : Hid (RL W8 w4.heap.size 38 [.int .i8 3, .int .i64 cd, .int .i64 0]) := by
        have := rl_new w4 #[.int .i8 3, .int .i64 cd, .int .i64 0] 38
        rw [← hW8] at this
        exact this
      have HR78 := Lib.hid (RL.below HR7.out b78)
      have HLF8 := Lib.hid (HLF.out.below b78)
      have HI8 := Lib.hid (HII7.out.below b78)
      have BE : Hid (∀ u, Below W8.heap.size W8 u → Below w.heap.size w u) := fun u hu => HK.out.trans ((B8.out.trans (hu.mono B8.out.size)).mono HK.out.size)
      clear HIN b4 b8 b78 HR7 HLF HII7 q0 q1 B7
      go_upto_region 7 with fail
      rw [← hW8]
      clear hW8
      have c0 : W8.cell? ⟨w4.heap.size, 0, none⟩ = some (.int .i8 3) := RL.at HR8.out (j := 0) rfl
      have c1 : W8.cell? ⟨w4.heap.size, 1, none⟩ = some (.int .i64 cd) := RL.at HR8.out (j := 1) rfl
      have c2' : W8.cell? ⟨w4.heap.size, 2, none⟩ = some (.int .i64 0) := RL.at HR8.out (j := 2) rfl
      have HPS := Lib.hid (predsP_any (d + 1) l m a c (.slice a2 m.length c2) W8 HI8.out.R HI8.out.M (fun i hi => (HI8.out.sS.each i hi).bd) (Sb.own HI8.out.sS HI8.out.sF).n)
      rw [hs] at HPS
      go_wp2_with fail
      refine HPS.out.mono ?_
      rintro e w9 ⟨b9, hP⟩
      rcases hP with ⟨s', ka, kc, kn, he, rfl, hpm, hup, hown⟩ | ⟨he, _⟩
      case inr => cases he
      obtain rfl : s = s' := Option.some.inj he
      have k0 : w9.cell? ⟨w4.heap.size, 0, none⟩ = some (.int .i8 3) := RL.at (RL.below HR8.out b9) (j := 0) rfl
      have k1 : w9.cell? ⟨w4.heap.size, 1, none⟩ = some (.int .i64 cd) := RL.at (RL.below HR8.out b9) (j := 1) rfl
      have k2 : w9.cell? ⟨w4.heap.size, 2, none⟩ = some (.int .i64 0) := RL.at (RL.below HR8.out b9) (j := 2) rfl
      have HU9 : Hid (∀ u, Below w9.heap.size w9 u → Below W8.heap.size W8 u) := fun u hu => b9.trans (hu.mono b9.size)
      have HBW : Hid (∀ u, Below w9.heap.size w9 u → Below w.heap.size w u) := fun u hu => BE.out u (HU9.out u hu)
      have HLQ : Hid (∀ u, Below w9.heap.size w9 u → (loadVar 26 ⟨w.heap.size, 0, none⟩).run Tryz.prog u = .ok (.agg #[.string pr, .slice qa ts.length qc]) u) := fun u hu => load_atomV (RL.below HR5.out (B8.out.trans ((HU9.out u hu).mono B8.out.size)))
      have HLX : Hid (∀ u, Below w9.heap.size w9 u → (loadVar 38 ⟨w4.heap.size, 0, none⟩).run Tryz.prog u = .ok (.agg #[.int .i8 3, .int .i64 cd, .int .i64 0]) u) := fun u hu => load_refV (RL.below HR8.out (HU9.out u hu))
      have HLA : Hid (∀ u, Below w9.heap.size w9 u → (loadVar 26 ⟨w3.heap.size, 0, none⟩).run Tryz.prog u = .ok (.agg #[.string pn, .slice fa pa fc]) u) := fun u hu => load_atomV (RL.below HR78.out (HU9.out u hu))
      have HC1 : Hid (Calls Tryz.prog 9 #[.agg #[.slice none 0 0], .slice none 0 0, .agg #[.string pr, .slice qa ts.length qc]] w9.drew fun e u1 => e = .returned (.agg #[.int .i8 3, .int .i64 cd, .int .i64 0]) ∧ Below w9.heap.size w9 u1 ∧ Calls Tryz.prog 9 #[.agg #[.slice a l.length c], .slice a2 m.length c2, .agg #[.string pn, .slice fa pa fc]] u1 fun e u2 => e = .returned (.agg #[.int .i8 0, .int .i64 0, .int .i64 0]) ∧ Below w9.heap.size w9 u2) := by
        have y0 : Below w9.heap.size w9 w9.drew := (Below.refl _ _).drew
        have kS : ∀ {u u' : World}, Below w9.heap.size w9 u → Below u.heap.size u u' → Below w9.heap.size w9 u' := fun h b => h.trans (b.mono h.size)
        refine ((HI8.out.below (HU9.out _ y0)).input (List.nil_sublist l) (List.nil_sublist m) rfl rfl (ls_nilR _) (ls_nilF _) rfl hpr hlen (HT.out.below (B8.out.trans ((HU9.out _ y0).mono B8.out.size))) h1).mono ?_
        rintro e u1 ⟨rfl, b1⟩
        have y1 := kS y0 b1
        rw [HPN.out, HPA.out] at h2
        refine ⟨rfl, y1, ((HI8.out.below (HU9.out _ y1)).input (List.Sublist.refl l) (List.Sublist.refl m) rfl rfl (HI8.out.below (HU9.out _ y1)).R.lies (HI8.out.below (HU9.out _ y1)).M.lies HFN.out HBS.out.1 HBS.out.2 (HLF8.out.below (HU9.out _ y1)) h2).mono ?_⟩
        rintro e u2 ⟨rfl, b2⟩
        exact ⟨rfl, kS y1 b2⟩
      clear h hs h1 h2 hpm hup hown he HPS HI8 HLF8 HI HL HM HT HG HF HFN HBS HR78 HR8 BE c0 c1 c2' b9 HR5 HU9 hc0 hcd
      go_upto_region 37 with fail
      refine wp_region_noPanic ?_
      refine wp_region_held (S := fun u => Below w9.heap.size w9 u) (by kernel_rfl) ?_
      refine cf37 (w5 := w9) (S := fun u => Below w9.heap.size w9 u) (b5 := w.heap.size) (b7 := w3.heap.size) (b8 := w4.heap.size) (p1 := 3) (p2 := cd) (p3 := 0) rfl rfl rfl rfl rfl rfl rfl rfl rfl rfl rfl rfl rfl rfl rfl (by kernel_rfl) (by kernel_rfl) (by kernel_rfl) (by kernel_rfl) (by kernel_rfl) (fun _ _ _ _ _ h => h) (by simp) rfl rfl rfl rfl rfl ((Below.refl _ _).drew) (fun _ _ _ h => h) HLQ.out HLA.out HLX.out eqRf0 (run_eqRf 3 cd 0) HC1.out ?_
      intro wc hwc
      have HFI := Lib.hid (HBW.out wc hwc)
      clear hwc HC1 HLQ HLA HLX HBW k0 k1 k2
      refine NoPanic.normal ?_
      rename_i hK
      refine hK _ _ ?_
      simp (config := { maxSteps := 8000000 }) only [Act.put, List.getElem_toArray, List.getElem_cons_zero, List.getElem_cons_succ, List.setIfInBounds_toArray, List.set_cons_succ, List.set_cons_zero]
      go_wp2
      go_ret
      exact ⟨by first | rfl | simp, HFI.out⟩
  · clear HS
    go_wp2
    go_ret
    exact ⟨by first | rfl | simp, HK.out.trans (B1.out.mono HK.out.size)⟩
end Go.Proofs.YtlnioaokpmeioaaGreatDoor
end
