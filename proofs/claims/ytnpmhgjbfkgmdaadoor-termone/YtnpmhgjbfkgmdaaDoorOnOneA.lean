import Derived.Test.YtnpmhgjbfkgmdaaDoorOnOneS
import Derived.Test.YtnpmhgjbfkgmdaaDoorOnRegB
import Derived.BigQuiet
import Derived.Deep.DeepCutAuto
namespace Go.Proofs.YtnpmhgjbfkgmdaaDoor
open Go.RowKit Go.Maps
set_option linter.unusedVariables false
set_option linter.unusedSimpArgs false
attribute [local go_sem ↓] Go.wp_at_zero Go.wp_at_succ

set_option maxHeartbeats 12800000 in
set_option maxRecDepth 100000 in
theorem termOne_walk (pa : ByteArray) (la : List T) (aa : Option Addr) (ca : Nat) (pb : ByteArray) (lb : List T) (ab : Option Addr) (cb : Nat) (w : World) (hg : Tab w ∧ KT w) (hpa : pa.size ≤ maxLen) (hla : la.length ≤ 4398046511104) (hA : Lt w (.slice aa la.length ca) la) (hpb : pb.size ≤ maxLen) (hlb : lb.length ≤ 4398046511104) (hB : Lt w (.slice ab lb.length cb) lb) :
    Calls Tryd.prog 3 #[.agg #[.string pa, .slice aa la.length ca], .agg #[.string pb, .slice ab lb.length cb]] w fun e w' => e = .returned (.bool true) ∧ Below w.heap.size w w' := by
  have HO0 := Lib.hid (ost_new w pa pb (.slice aa la.length ca) (.slice ab lb.length cb))
  have HG := Lib.hid hg
  have HLA := Lib.hid hA
  have HLB := Lib.hid hB
  have HPS := Lib.hid (And.intro hpa hpb)
  have HUS := Lib.hid (uniA_swap pa pb la lb)
  have HUR := Lib.hid (fun (r : List P) (h : uniA pa pb la lb = some r) => h)
  have HNO : Hid (¬ (atomB pa la = true ∧ atomB pb lb = true) → uniA pa pb la lb = none) := fun h => uniA_no (fun x => h ⟨x.2.2.1, x.2.2.2⟩)
  clear hg hA hB hpa hpb hla hlb
  go_enter Tryd.func3, Tryd.ntmps3
  go_upto_region 1 with fail
  generalize (w.alloc (.cells #[.string pa, .slice aa la.length ca] 24)).alloc (.cells #[.string pb, .slice ab lb.length cb] 24) = W at HO0 ⊢
  go_wp2_with fail
  refine (lives_any _ (HG.out.1.below HO0.out.bel) (HG.out.2.below HO0.out.bel)).mono ?_
  rintro e w1 ⟨rfl, b1⟩
  have HO1 := Lib.hid (HO0.out.keep b1)
  clear HO0 b1 HG
  have x0 := HO1.out.r0.at (j := 0) rfl
  have x1 := HO1.out.r0.at (j := 1) rfl
  have y0 := HO1.out.r1.at (j := 0) rfl
  have y1 := HO1.out.r1.at (j := 1) rfl
  go_wp2_with fail
  refine (unify_post pa pb _ _ la lb _ HPS.out.1 HPS.out.2 (HLA.out.below HO1.out.bel) (HLB.out.below HO1.out.bel)).mono ?_
  rintro e w2 ⟨⟨sv, rfl, hn2, hs2⟩, b2⟩
  have HO2 := Lib.hid (HO1.out.keep b2)
  have HSV : Hid ((uniA pa pb la lb = none → sv = .slice none 0 0) ∧ ∀ s, uniA pa pb la lb = some s → Lp w2 sv s ∧ s.length ≤ 24) := ⟨hn2, fun s hs => ⟨⟨ls_own (hs2 s hs).1, (hs2 s hs).2.1⟩, (hs2 s hs).2.2⟩⟩
  clear HO1 b2 hn2 hs2 x0 x1 y0 y1
  have x0 := HO2.out.r0.at (j := 0) rfl
  have x1 := HO2.out.r0.at (j := 1) rfl
  have y0 := HO2.out.r1.at (j := 0) rfl
  have y1 := HO2.out.r1.at (j := 1) rfl
  go_wp2_with fail
  refine (unify_post pb pa _ _ lb la _ HPS.out.2 HPS.out.1 (HLB.out.below HO2.out.bel) (HLA.out.below HO2.out.bel)).mono ?_
  rintro e w3 ⟨⟨sv', rfl, _, _⟩, b3⟩
  have HO3 := Lib.hid (HO2.out.keep b3)
  have HSV3 : Hid ((uniA pa pb la lb = none → sv = .slice none 0 0) ∧ ∀ s, uniA pa pb la lb = some s → Lp w3 sv s ∧ s.length ≤ 24) := ⟨HSV.out.1, fun s hs => ⟨((HSV.out.2 s hs).1).below b3, (HSV.out.2 s hs).2⟩⟩
  clear HO2 b3 HSV x0 x1 y0 y1
  rw [HUS.out]
  have x0 := HO3.out.r0.at (j := 0) rfl
  have x1 := HO3.out.r0.at (j := 1) rfl
  have y0 := HO3.out.r1.at (j := 0) rfl
  have y1 := HO3.out.r1.at (j := 1) rfl
  generalize hR : uniA pa pb la lb = R at HSV3 HNO ⊢
  have HRE := Lib.hid hR
  clear hR
  obtain ⟨ok, hok⟩ : ∃ ok, R.isSome = ok := ⟨_, rfl⟩
  rw [hok]
  have HOK := Lib.hid hok
  clear hok
  have hneq : (ok != ok) = false := by cases ok <;> rfl
  go_wp2_with fail
  refine (rcheckAtom_any pa _ la _ HPS.out.1 (HLA.out.below HO3.out.bel)).mono ?_
  rintro e w4 ⟨rfl, b4⟩
  have HO4 := Lib.hid (HO3.out.keep b4)
  have HSV4 : Hid ((R = none → sv = .slice none 0 0) ∧ ∀ s, R = some s → Lp w4 sv s ∧ s.length ≤ 24) := ⟨HSV3.out.1, fun s hs => ⟨((HSV3.out.2 s hs).1).below b4, (HSV3.out.2 s hs).2⟩⟩
  clear HO3 b4 HSV3 x0 x1 y0 y1
  have x0 := HO4.out.r0.at (j := 0) rfl
  have x1 := HO4.out.r0.at (j := 1) rfl
  have y0 := HO4.out.r1.at (j := 0) rfl
  have y1 := HO4.out.r1.at (j := 1) rfl
  cases hab : atomB pa la with
  | false =>
    obtain rfl : ok = false := by rw [← HOK.out, HNO.out (by rw [hab]; simp)]; rfl
    have HB := Lib.hid HO4.out.bel
    clear HOK HNO HRE HSV4 HO4 hab
    unfold errB
    go_wp2
    go_ret
    exact ⟨rfl, HB.out⟩
  | true =>
    have HAB := Lib.hid hab
    clear hab
    unfold errB
    go_wp2_with fail
    refine (rcheckAtom_any pb _ lb _ HPS.out.2 (HLB.out.below HO4.out.bel)).mono ?_
    rintro e w5 ⟨rfl, b5⟩
    have HO5 := Lib.hid (HO4.out.keep b5)
    have HSV5 : Hid ((R = none → sv = .slice none 0 0) ∧ ∀ s, R = some s → Lp w5 sv s ∧ s.length ≤ 24) := ⟨HSV4.out.1, fun s hs => ⟨((HSV4.out.2 s hs).1).below b5, (HSV4.out.2 s hs).2⟩⟩
    clear HO4 b5 HSV4 x0 x1 y0 y1
    cases hbb : atomB pb lb with
    | false =>
      obtain rfl : ok = false := by rw [← HOK.out, HNO.out (by rw [hbb]; simp)]; rfl
      have HB := Lib.hid HO5.out.bel
      clear HOK HNO HRE HSV5 HO5 hbb
      unfold errB
      go_wp2
      go_ret
      exact ⟨rfl, HB.out⟩
    | true =>
      have HBB := Lib.hid hbb
      clear hbb HNO
      unfold errB
      have h24a : la.length ≤ 24 := by
        have := HAB.out
        unfold atomB at this
        simp only [Bool.and_eq_true, decide_eq_true_eq] at this
        exact this.1.2
      have h24b : lb.length ≤ 24 := by
        have := HBB.out
        unfold atomB at this
        simp only [Bool.and_eq_true, decide_eq_true_eq] at this
        exact this.1.2
      have HUM := Lib.hid (fun oa ob (h1 : Muted 65 (vsT [] la ++ vsT [] lb) la oa) (h2 : Muted 66 (vsT [] la ++ vsT [] lb) lb ob) => uniA_mute (pa := pa) (pb := pb) HAB.out HBB.out h1 h2)
      rw [HRE.out] at HUM
      have HMA : Hid (∀ u, Ost w pa pb (.slice aa la.length ca) (.slice ab lb.length cb) u → Calls Tryd.prog 7 #[.agg #[.string pa, .slice aa la.length ca], .agg #[.string pa, .slice aa la.length ca], .agg #[.string pb, .slice ab lb.length cb], .string ⟨#[65]⟩] u fun e w' => ∃ o a' c', e = .returned (.agg #[.string pa, .slice a' o.length c']) ∧ Lt w' (.slice a' o.length c') o ∧ Muted 65 (vsT [] la ++ vsT [] lb) la o ∧ Below u.heap.size u w') := fun u hu => mute_any 65 pa pa pb _ _ _ la la lb u (by decide) (HLA.out.below hu.bel) (HLA.out.below hu.bel) (HLB.out.below hu.bel) h24a h24a h24b
      have HMB : Hid (∀ u, Ost w pa pb (.slice aa la.length ca) (.slice ab lb.length cb) u → Calls Tryd.prog 7 #[.agg #[.string pb, .slice ab lb.length cb], .agg #[.string pa, .slice aa la.length ca], .agg #[.string pb, .slice ab lb.length cb], .string ⟨#[66]⟩] u fun e w' => ∃ o a' c', e = .returned (.agg #[.string pb, .slice a' o.length c']) ∧ Lt w' (.slice a' o.length c') o ∧ Muted 66 (vsT [] la ++ vsT [] lb) lb o ∧ Below u.heap.size u w') := fun u hu => mute_any 66 pb pa pb _ _ _ lb la lb u (by decide) (HLB.out.below hu.bel) (HLA.out.below hu.bel) (HLB.out.below hu.bel) h24b h24a h24b
      go_upto_region 9 with fail
      go_cut [10] (fun n wc => n = .bool ok ∧ Hid (Ost w pa pb (.slice aa la.length ca) (.slice ab lb.length cb) wc) ∧ Hid ((R = none → sv = .slice none 0 0) ∧ ∀ s, R = some s → Lp wc sv s ∧ s.length ≤ 24))
      case first =>
        refine wp_region_noPanic ?_
        refine wp_region_held (S := fun u => Ost w pa pb (.slice aa la.length ca) (.slice ab lb.length cb) u ∧ Below w5.heap.size w5 u) (by kernel_rfl) ?_
        refine reg9 (w := w) (w5 := w5) (pa := pa) (pb := pb) (aa := aa) (ab := ab) (la := la) (lb := lb) (ca := ca) (cb := cb) (t3 := #[24, 24, 24, 9]) (t7 := #[24, 24, 24, 9]) (t8 := #[24, 24]) (by show _ = _; kernel_rfl) (by show _ = _; kernel_rfl) (by show _ = _; kernel_rfl) (by show _ = _; kernel_rfl) (by show _ = _; kernel_rfl) (by show _ = _; kernel_rfl) (by show _ = _; kernel_rfl) (by show _ = _; kernel_rfl) (by show _ = _; kernel_rfl) (by show _ = _; kernel_rfl) (by show _ = _; kernel_rfl) (by show _ = _; kernel_rfl) (by show _ = _; kernel_rfl) (by show _ = _; kernel_rfl)
          (by kernel_rfl) (by kernel_rfl) (by kernel_rfl) (by kernel_rfl) (by kernel_rfl) (by kernel_rfl)
          (fun _ _ _ _ _ h => h) (by simp) rfl rfl HO5.out HPS.out.1 HPS.out.2 HMA.out HMB.out ?_
        intro vA vB sv8 ok8 oa ob wc hO hb m1 m2 hok8
        have e8 : ok8 = ok := by rw [hok8, HUM.out oa ob m1 m2, HOK.out]
        have HSV9 : Hid ((R = none → sv = .slice none 0 0) ∧ ∀ s, R = some s → Lp wc sv s ∧ s.length ≤ 24) := ⟨HSV5.out.1, fun s hs => ⟨((HSV5.out.2 s hs).1).below hb, (HSV5.out.2 s hs).2⟩⟩
        subst e8
        refine NoPanic.normal ?_
        rename_i hK hJ
        refine hK _ _ (Met.intro (hJ _ _ ?_))
        clear hJ hK
        simp (config := { maxSteps := 4000000 }) only [Act.put, List.setIfInBounds_toArray, List.set_cons_succ, List.set_cons_zero]
        (repeat apply Exists.intro)
        refine ⟨?rel, rfl⟩
        case rel => exact ⟨rfl, hO, HSV9⟩
      case rest =>
        obtain ⟨rfl, HO9, HSV9⟩ := hcut
        clear HSV5 HO5 HMA HMB HUM HUS HUR HAB HBB
        have HB9 := Lib.hid HO9.out.bel
        cases R with
        | none =>
          obtain rfl : false = ok := HOK.out
          obtain rfl := HSV9.out.1 rfl
          clear HSV9 HO9 HOK HRE
          go_wp2
          go_ret
          exact ⟨rfl, HB9.out⟩
        | some s =>
          obtain rfl : true = ok := HOK.out
          obtain ⟨rfl, hlen, hsv, hone⟩ := uniA_sol HRE.out
          have HLEN := Lib.hid hlen
          have HSOL := Lib.hid hsv
          have HONE := Lib.hid hone
          have HSP := Lib.hid (HSV9.out.2 s rfl)
          clear hlen hsv hone HSV9 HOK HRE
          obtain ⟨aS, cS, rfl, _, _, _⟩ := HSP.out.1.form
          have x0 := HO9.out.r0.at (j := 0) rfl
          have x1 := HO9.out.r0.at (j := 1) rfl
          go_wp2_with fail
          refine (apply_any _ s pa _ la _ HSP.out.1 HSP.out.2 HSOL.out (HLA.out.below HO9.out.bel) h24a).mono ?_
          rintro e w10 ⟨a10, c10, rfl, hl10, b10⟩
          have ha10 : Below w10.heap.size w10 (w10.alloc (.cells #[.string pa, .slice a10 la.length c10] 24)) := (Below.refl _ _).alloc (Nat.le_refl _) _
          have HO11 := Lib.hid ((HO9.out.keep b10).keep ha10)
          have HSP11 := Lib.hid ((HSP.out.1.below b10).below ha10)
          have HX11 := Lib.hid (rl_new w10 #[.string pa, .slice a10 la.length c10] 24)
          have HLX11 := Lib.hid (hl10.below ha10)
          have H24S := Lib.hid HSP.out.2
          clear HO9 HSP HB9 b10 hl10 ha10 x0 x1
          go_upto_region 15 with fail
          generalize w10.alloc (.cells #[.string pa, .slice a10 la.length c10] 24) = W11 at HO11 HSP11 HX11 HLX11 ⊢
          generalize w10.heap.size = bx at HX11 ⊢
          have y0 := HO11.out.r1.at (j := 0) rfl
          have y1 := HO11.out.r1.at (j := 1) rfl
          go_wp2_with fail
          refine (apply_any _ s pa _ lb _ HSP11.out H24S.out HSOL.out (HLB.out.below HO11.out.bel) h24b).mono ?_
          rintro e w12 ⟨a12, c12, rfl, hl12, b12⟩
          have ha12 : Below w12.heap.size w12 (w12.alloc (.cells #[.string pa, .slice a12 lb.length c12] 24)) := (Below.refl _ _).alloc (Nat.le_refl _) _
          have HF : Hid (Fst w pa (.slice aa la.length ca) (.slice ab lb.length cb) (.slice aS s.length cS) (.slice a10 la.length c10) (.slice a12 lb.length c12) la lb s bx w12.heap.size (w12.alloc (.cells #[.string pa, .slice a12 lb.length c12] 24))) :=
            ⟨(HO11.out.keep b12).keep ha12, (HSP11.out.below b12).below ha12, (HX11.out.below b12).below ha12, rl_new w12 #[.string pa, .slice a12 lb.length c12] 24, (HLX11.out.below b12).below ha12, hl12.below ha12⟩
          clear HO11 HSP11 HX11 HLX11 b12 ha12 hl12 y0 y1
          go_upto_region 16 with fail
          generalize w12.alloc (.cells #[.string pa, .slice a12 lb.length c12] 24) = W13 at HF ⊢
          generalize w12.heap.size = b2 at HF ⊢
          have x0 := HF.out.ost.r0.at (j := 0) rfl
          have x1 := HF.out.ost.r0.at (j := 1) rfl
          have y0 := HF.out.ost.r1.at (j := 0) rfl
          have y1 := HF.out.ost.r1.at (j := 1) rfl
          have z0 := HF.out.rx.at (j := 0) rfl
          have z1 := HF.out.rx.at (j := 1) rfl
          have v0 := HF.out.ry.at (j := 0) rfl
          have v1 := HF.out.ry.at (j := 1) rfl
          have hll : ((la.length : Int) != (lb.length : Int)) = false := by rw [HLEN.out]; simp
          have hll2 : ((lb.length : Int) != (lb.length : Int)) = false := by simp
          have hll3 : ((la.length : Int) != (la.length : Int)) = false := by simp
          go_wp2
          go_loopw [13] (fun i wr => ∃ k : Nat, k ≤ la.length ∧ i = .int .i64 k ∧ Hid (Fst w pa (.slice aa la.length ca) (.slice ab lb.length cb) (.slice aS s.length cS) (.slice a10 la.length c10) (.slice a12 lb.length c12) la lb s bx b2 wr)) (fun i _ => la.length - (intOf i).toNat)
          case atStart => exact ⟨0, Nat.zero_le _, rfl, HF⟩
          case round =>
            obtain ⟨k, hk, rfl, HF1⟩ := hrel
            clear HF x0 x1 y0 y1 z0 z1 v0 v1 hll hll2 hll3
            have x1 := HF1.out.ost.r0.at (j := 1) rfl
            have y1 := HF1.out.ost.r1.at (j := 1) rfl
            have z1 := HF1.out.rx.at (j := 1) rfl
            have v1 := HF1.out.ry.at (j := 1) rfl
            by_cases hlt : k < la.length
            · have hlt' : (k : Int) < (la.length : Int) := by omega
              have hlt2 : (k : Int) < (lb.length : Int) := by have := HLEN.out; omega
              have hk0 : (0 : Int) ≤ (k : Int) := by omega
              obtain ⟨_, _, e1, _, _, f1⟩ := (HLA.out.below HF1.out.ost.bel).form
              obtain ⟨_, _, e2, _, _, f2⟩ := (HLB.out.below HF1.out.ost.bel).form
              have hlx := HF1.out.lx.form
              have hly := HF1.out.ly.form
              rw [List.length_map] at hlx hly
              obtain ⟨_, _, e3, _, _, f3⟩ := hlx
              obtain ⟨_, _, e4, _, _, f4⟩ := hly
              cases e1
              cases e2
              cases e3
              cases e4
              obtain ⟨g1, o1, rfl, _, t1⟩ := f1 (by omega)
              obtain ⟨g2, o2, rfl, _, t2⟩ := f2 (by omega)
              obtain ⟨g3, o3, rfl, _, t3⟩ := f3 (by omega)
              obtain ⟨g4, o4, rfl, _, t4⟩ := f4 (by omega)
              have p1 := (t1 k hlt).c0
              have p2 := (t2 k (by have := HLEN.out; omega)).c0
              obtain ⟨q0, q1, q2, q3⟩ := t3 k hlt
              obtain ⟨r0, r1, r2, r3⟩ := t4 k (by have := HLEN.out; omega)
              rw [atT_map hlt] at q0 q1 q2 q3
              rw [atT_map (by have := HLEN.out; omega)] at r0 r1 r2 r3
              have ho := HONE.out k hlt
              clear t1 t2 t3 t4 f1 f2 f3 f4
              generalize res s (atT la k) = X at q0 q1 q2 q3 ho
              generalize res s (atT lb k) = Y at r0 r1 r2 r3 ho
              generalize (atT la k).v = av at p1 ho
              generalize (atT lb k).v = bv at p2 ho
              by_cases ea : av = blankS
              · have h1 : (av.toList == [95]) = true := by rw [ea, ByteArray.toList_eq]; rfl
                clear ea ho
                go_wp2_with fail
                go_quiet (fail)
                go_wp2
                go_roundw
                case rel => exact ⟨k + 1, by omega, by go_num, Lib.hid (HF1.out.keep (below_drewV (Below.refl _ _) _))⟩
                case measure => simp [intOf]; omega
              · have h1 := blank_not ea
                by_cases eb : bv = blankS
                · have h2 : (bv.toList == [95]) = true := by rw [eb, ByteArray.toList_eq]; rfl
                  clear ea eb ho
                  go_wp2_with fail
                  go_quiet (fail)
                  go_wp2
                  go_roundw
                  case rel => exact ⟨k + 1, by omega, by go_num, Lib.hid (HF1.out.keep (below_drewV (Below.refl _ _) _))⟩
                  case measure => simp [intOf]; omega
                · have h2 := blank_not eb
                  obtain rfl : X = Y := by
                    rcases ho with e | e | e
                    · exact absurd e ea
                    · exact absurd e eb
                    · exact e
                  have hQ : ∀ u, (binOp .neq 38 (.agg #[.string X.v, .int .i8 X.a.k, .int .i64 X.a.n, .string X.a.s]) (.agg #[.string X.v, .int .i8 X.a.k, .int .i64 X.a.n, .string X.a.s])).run Tryd.prog u = .ok (.bool false) u := fun u => by go_simp
                  clear ea eb ho
                  go_wp2_with fail
                  go_quiet (fail)
                  go_wp2
                  go_roundw
                  case rel => exact ⟨k + 1, by omega, by go_num, Lib.hid (HF1.out.keep (below_drewV (Below.refl _ _) _))⟩
                  case measure => simp [intOf]; omega
            · obtain rfl : k = la.length := by omega
              clear x1 y1 z1 v1 hlt hk
              have HF2 := HF1
              have h24s : s.length ≤ 24 := H24S.out
              clear HF1
              have z1 := HF2.out.rx.at (j := 1) rfl
              go_wp2
              clear z1
              go_loopw [14] (fun i wr => ∃ k : Nat, k ≤ s.length ∧ i = .int .i64 k ∧ Hid (Fst w pa (.slice aa la.length ca) (.slice ab lb.length cb) (.slice aS s.length cS) (.slice a10 la.length c10) (.slice a12 lb.length c12) la lb s bx b2 wr)) (fun i _ => s.length - (intOf i).toNat)
              case atStart => exact ⟨0, Nat.zero_le _, rfl, HF2⟩
              case round =>
                obtain ⟨k, hk, rfl, HF3⟩ := hrel
                clear HF2
                by_cases hlt : k < s.length
                · have hlt' : (k : Int) < (s.length : Int) := by omega
                  have hk0 : (0 : Int) ≤ (k : Int) := by omega
                  obtain ⟨_, _, e1, _, _, f1⟩ := HF3.out.lp.form
                  cases e1
                  obtain ⟨g1, o1, rfl, _, t1⟩ := f1 (by omega)
                  have p0 := (t1 k hlt).c0
                  have p1 := (t1 k hlt).c1
                  have hmem : atP s k ∈ s := by rw [atP_eq hlt]; exact List.getElem_mem _
                  have n1 := some_iff _ (HSOL.out.nk _ hmem).1
                  have n2 := blank_not (HSOL.out.nk _ hmem).2
                  have n3 := blank_not (HSOL.out.nt _ hmem).1
                  have HAP : Hid (∀ j, j < s.length → ((atP s j).t.v.toList == (atP s k).v.toList) = false) := fun j hj => by
                    rw [eq_bytes]
                    exact decide_eq_false (HSOL.out.ap _ hmem _ (by rw [atP_eq hj]; exact List.getElem_mem _))
                  have HND : Hid (∀ j, j < s.length → j ≠ k → ((atP s j).v.toList == (atP s k).v.toList) = false) := fun j hj hne => by
                    rw [eq_bytes]
                    refine decide_eq_false fun e => ?_
                    have nd := List.pairwise_iff_getElem.1 HSOL.out.nd
                    rw [atP_eq hj, atP_eq hlt] at e
                    rcases Nat.lt_or_gt_of_ne hne with h | h
                    · exact nd j k (by simpa using hj) (by simpa using hlt) h (by simpa using e)
                    · exact nd k j (by simpa using hlt) (by simpa using hj) h (by simpa using e.symm)
                  have HPK : Hid (∀ u, Lp u (.slice (some ⟨g1, o1, none⟩) s.length cS) s → u.cell? ⟨g1, o1 + k * 5, none⟩ = some (.string (atP s k).v)) := fun u hu => by
                    obtain ⟨_, _, e1, _, _, f1⟩ := hu.form
                    cases e1
                    obtain ⟨_, _, e2, _, t1⟩ := f1 (by omega)
                    cases e2
                    exact (t1 k hlt).c0
                  generalize (atP s k).t.v = ptv at p1 n3
                  generalize (atP s k).v = pv at p0 n1 n2 HAP HND HPK
                  clear t1 f1 hmem
                  go_wp2
                  clear p0 p1 n1 n2 n3
                  go_loopw [15] (fun i wr => ∃ m : Nat, m ≤ s.length ∧ i = .int .i64 m ∧ Hid (Fst w pa (.slice aa la.length ca) (.slice ab lb.length cb) (.slice (some ⟨g1, o1, none⟩) s.length cS) (.slice a10 la.length c10) (.slice a12 lb.length c12) la lb s bx b2 wr)) (fun i _ => s.length - (intOf i).toNat)
                  case atStart => exact ⟨0, Nat.zero_le _, rfl, HF3⟩
                  case round =>
                    obtain ⟨m, hm, rfl, HF4⟩ := hrel
                    clear HF3
                    by_cases hmt : m < s.length
                    · have hmt' : (m : Int) < (s.length : Int) := by omega
                      have hm0 : (0 : Int) ≤ (m : Int) := by omega
                      obtain ⟨_, _, e1, _, _, f1⟩ := HF4.out.lp.form
                      cases e1
                      obtain ⟨_, _, e2, _, t1⟩ := f1 (by omega)
                      cases e2
                      have p0 := HPK.out _ HF4.out.lp
                      have q0 := (t1 m hmt).c0
                      have q1 := (t1 m hmt).c1
                      have n1 := HAP.out m hmt
                      have n2 := HND.out m hmt
                      generalize (atP s m).t.v = qtv at q1 n1
                      generalize (atP s m).v = qv at q0 n2
                      clear t1 f1
                      by_cases emk : m = k
                      · have n3 : ((m : Int) != (k : Int)) = false := by rw [emk]; simp
                        clear n2 emk
                        go_wp2_with fail
                        go_quiet (fail)
                        go_wp2
                        go_roundw
                        case rel => exact ⟨m + 1, by omega, by go_num, Lib.hid (HF4.out.keep (below_drewV (Below.refl _ _) _))⟩
                        case measure => simp [intOf]; omega
                      · have n3 : ((m : Int) != (k : Int)) = true := by simp; omega
                        have n4 := n2 emk
                        clear n2 emk
                        go_wp2_with fail
                        go_quiet (fail)
                        go_wp2
                        go_roundw
                        case rel => exact ⟨m + 1, by omega, by go_num, Lib.hid (HF4.out.keep (below_drewV (Below.refl _ _) _))⟩
                        case measure => simp [intOf]; omega
                    · obtain rfl : m = s.length := by omega
                      go_wp2
                      go_roundw
                      case rel => exact ⟨k + 1, by omega, by go_num, HF4⟩
                      case measure => simp [intOf]; omega
                · obtain rfl : k = s.length := by omega
                  have HMM : Hid (∀ l : List T, (l.map (res s)).map (res s) = l.map (res s)) := fun l => by
                    rw [List.map_map]
                    exact List.map_congr_left (fun t _ => res_twice HSOL.out t)
                  have HKX : Hid (∀ u, Fst w pa (.slice aa la.length ca) (.slice ab lb.length cb) (.slice aS s.length cS) (.slice a10 la.length c10) (.slice a12 lb.length c12) la lb s bx b2 u → Calls Tryd.prog 8 #[.slice aS s.length cS, .agg #[.string pa, .slice a10 la.length c10]] u fun e w' => ∃ a' c', e = .returned (.agg #[.string pa, .slice a' la.length c']) ∧ Lt w' (.slice a' la.length c') (la.map (res s)) ∧ Below u.heap.size u w') := fun u hu => by
                    refine (apply_any _ s pa _ (la.map (res s)) u hu.lp h24s HSOL.out hu.lx (by rw [List.length_map]; exact h24a)).mono ?_
                    rintro e w' ⟨a', c', rfl, hl, hb⟩
                    rw [HMM.out, List.length_map] at hl
                    exact ⟨a', c', by rw [List.length_map], hl, hb⟩
                  have HKY : Hid (∀ u, Fst w pa (.slice aa la.length ca) (.slice ab lb.length cb) (.slice aS s.length cS) (.slice a10 la.length c10) (.slice a12 lb.length c12) la lb s bx b2 u → Calls Tryd.prog 8 #[.slice aS s.length cS, .agg #[.string pa, .slice a12 lb.length c12]] u fun e w' => ∃ a' c', e = .returned (.agg #[.string pa, .slice a' lb.length c']) ∧ Lt w' (.slice a' lb.length c') (lb.map (res s)) ∧ Below u.heap.size u w') := fun u hu => by
                    refine (apply_any _ s pa _ (lb.map (res s)) u hu.lp h24s HSOL.out hu.ly (by rw [List.length_map]; exact h24b)).mono ?_
                    rintro e w' ⟨a', c', rfl, hl, hb⟩
                    rw [HMM.out, List.length_map] at hl
                    exact ⟨a', c', by rw [List.length_map], hl, hb⟩
                  go_upto_region 33 with fail
                  go_cut [4] (fun n wc => n = .bool true ∧ Hid (Below w.heap.size w wc))
                  case first =>
                    refine wp_region_noPanic ?_
                    refine wp_region_held (S := fun u => Fst w pa (.slice aa la.length ca) (.slice ab lb.length cb) (.slice aS s.length cS) (.slice a10 la.length c10) (.slice a12 lb.length c12) la lb s bx b2 u) (by kernel_rfl) ?_
                    refine reg33 (w5 := wr) (S := fun u => Fst w pa (.slice aa la.length ca) (.slice ab lb.length cb) (.slice aS s.length cS) (.slice a10 la.length c10) (.slice a12 lb.length c12) la lb s bx b2 u) (pa := pa) (sv := .slice aS s.length cS) (ax := a10) (ay := a12) (nx := la.length) (ny := lb.length) (cx := c10) (cy := c12) (bx := bx) (b2 := b2) (X := la.map (res s)) (Y := lb.map (res s)) (t1 := #[26, 24]) (t2 := #[24, 24]) (by show _ = _; kernel_rfl) (by show _ = _; kernel_rfl) (by show _ = _; kernel_rfl) (by show _ = _; kernel_rfl) (by show _ = _; kernel_rfl) (by show _ = _; kernel_rfl) (by show _ = _; kernel_rfl) (by show _ = _; kernel_rfl) (by show _ = _; kernel_rfl) (by show _ = _; kernel_rfl) (by show _ = _; kernel_rfl) (by show _ = _; kernel_rfl) (by show _ = _; kernel_rfl)
                      (by kernel_rfl) (by kernel_rfl) (by kernel_rfl) (by kernel_rfl) (by kernel_rfl) (by kernel_rfl) (by kernel_rfl)
                      (fun _ _ _ _ _ h => h) (by simp) rfl rfl rfl (HF3.out.keep (Below.refl _ _).drew) (fun u u' h hb => h.keep hb) (fun u h => h.rx) (fun u h => h.ry) (fun u h => h.lx) (fun u h => h.ly) HKX.out HKY.out ?_
                    intro vA vB wc hS
                    have HBW := Lib.hid hS.ost.bel
                    refine NoPanic.normal ?_
                    rename_i hJ hK
                    refine hK _ _ (Met.intro (hJ _ _ ?_))
                    clear hJ hK
                    simp (config := { maxSteps := 8000000 }) only [Act.put, List.setIfInBounds_toArray, List.set_cons_succ, List.set_cons_zero]
                    (repeat apply Exists.intro)
                    refine ⟨?rel, rfl⟩
                    case rel => exact ⟨rfl, HBW⟩
                  case rest =>
                    obtain ⟨rfl, HBW⟩ := hcut
                    go_wp2
                    go_ret
                    exact ⟨rfl, HBW.out⟩
end Go.Proofs.YtnpmhgjbfkgmdaaDoor
