import Derived.Test.YtoppgalbmijhdaaDoorEsSr
import Derived.Test.YtoppgalbmijhdaaDoorSoRef
namespace Go.Proofs.YtoppgalbmijhdaaDoor
open Go.RowKit Go.Maps Go.ChangeMaps
set_option linter.unusedVariables false
set_option linter.unusedSimpArgs false
attribute [local go_sem ↓] Go.wp_at_zero Go.wp_at_succ
attribute [-go_sem] Builtin.append_

/-! the reference's Share -/
set_option maxHeartbeats 12800000 in
set_option maxRecDepth 100000 in
theorem rshare_any (v : Value) (l : List XF) (p : ByteArray) (col : Int) (w : World) (hL : Lf w v l) (hn : l.length ≤ 1048576) (hsm : ∀ y ∈ l, y.vs.length ≤ 1048576) :
    Calls Tryd.prog 5 #[v, .string p, .int .i64 col] w fun e w' => ∃ ks, e = .returned (.tuple #[.float .f64 (shM (ks.map (numAt col))), .float .f64 (shS (ks.map (numAt col))), .int .i64 ((ks.map (numAt col)).length : Nat)]) ∧ Told ((l.map XF.key).filter (takesK p col)) ks ∧ Below w.heap.size w w' := by
  obtain ⟨j0, hj0, hy0, hy1, hy2⟩ := info_partsS infoFl
  obtain ⟨va, vc, rfl, hv1, hv2, hv3⟩ := hL.form
  clear hv1 hv2 hv3
  have HRF := Lib.hid (rfacts_any l.length l va vc w (Nat.le_refl _) hL.lies (fun y hy => by obtain ⟨i, hi, rfl⟩ := List.getElem_of_mem hy; have := hL.each i hi; rw [atF_eq hi] at this; exact this) hn hsm)
  have HL := Lib.hid hL
  have HSM := Lib.hid hsm
  clear hL hsm
  go_enter Tryd.func5, Tryd.ntmps5
  go_wp2_with fail
  refine HRF.out.mono ?_
  rintro e w2 ⟨fa, fc, fs, rfl, b2, htold, hls, hfi, hfl⟩
  have hLf : Lf w2 (.slice fa fs.length fc) fs := ⟨hls, fun i hi => by rw [atF_eq hi]; exact hfi _ (List.getElem_mem hi)⟩
  obtain ⟨fa', fc', hfe, hf1, hf2, hfk⟩ := hLf.form
  injection hfe with e1 e2 e3
  subst e1 e3
  have HLF := Lib.hid hLf
  have HFK := Lib.hid hfk
  have HB2 := Lib.hid b2
  have HFL : Hid (fs.length ≤ 1048576) := by show _ ≤ _; omega
  have HTOLD := Lib.hid (htold.filter (takesK p col))
  have HBr := Lib.hid (Below.refl w2.heap.size w2)
  clear hls hfi hLf hfk e2 hf2 htold b2 HRF hfl
  go_wp2
  go_loopw [9, 10] (fun sv j wz => ∃ (i : Nat) (sa : Option Addr) (sc : Nat) (xs : List Int), i ≤ fs.length ∧ j = .int .i64 i ∧ sv = .slice sa xs.length sc ∧ Hid (Below w2.heap.size w2 wz) ∧ Hid (wz.ownsRow w2.heap.size 24 1 (.slice sa xs.length sc) xs.length (xs.map fC)) ∧ Hid (xs = (((fs.take i).map XF.key).filter (takesK p col)).map (numAt col))) (fun _ j _ => fs.length - (intOf j).toNat)
  case atStart => exact ⟨0, none, 0, [], Nat.zero_le _, rfl, rfl, HBr, Lib.hid (World.ownsRow_nil _ _ _ _), Lib.hid rfl⟩
  case round =>
    obtain ⟨i, sa, sc, xs, hi, rfl, rfl, HB, HO, HE⟩ := hrel
    by_cases hlti : i < fs.length
    · have hlti' : (i : Int) < (fs.length : Int) := by omega
      have hi0' : (0 : Int) ≤ (i : Int) := by omega
      have hflb := HFL.out
      obtain ⟨g, off, rfl, hg, hKS⟩ := HFK.out (by omega)
      have x0 : wr.cell? ⟨g, off + i * 2, none⟩ = some (.string (atF fs i).pr) := by rw [HB.out.cell (p := ⟨g, _, none⟩) hg]; exact hKS i hlti 0 _ rfl
      have x1 : wr.cell? ⟨g, off + i * 2 + 1, none⟩ = some (.slice (atF fs i).a (atF fs i).vs.length (atF fs i).c) := by rw [HB.out.cell (p := ⟨g, _, none⟩) hg]; exact hKS i hlti 1 _ rfl
      have HX1 : Hid (∀ u, Below w2.heap.size w2 u → u.cell? ⟨g, off + i * 2 + 1, none⟩ = some (.slice (atF fs i).a (atF fs i).vs.length (atF fs i).c)) := fun u hu => by rw [hu.cell (p := ⟨g, _, none⟩) hg]; exact hKS i hlti 1 _ rfl
      have htk : Hid ((((fs.take (i + 1)).map XF.key).filter (takesK p col)).map (numAt col) = xs ++ (([(atF fs i).key].filter (takesK p col)).map (numAt col))) := by
        show _ = _
        rw [take_fact hlti, List.map_append, List.filter_append, List.map_append, ← HE.out]
        rfl
      have HYF : Hid (∀ u, Below w2.heap.size w2 u → FIs u (atF fs i)) := fun u hu => (HLF.out.each i hlti).below hu
      generalize atF fs i = y at x0 x1 htk HYF HX1
      have HNO : Hid (takesK p col y.key = false → xs = (((fs.take (i + 1)).map XF.key).filter (takesK p col)).map (numAt col)) := fun h => by
        rw [htk.out]
        simp [h]
      clear hKS
      by_cases hpe : y.pr = p
      · have hpt : (y.pr.toList == p.toList) = true := by rw [eq_bytesE, decide_eq_true hpe]
        have HPE := Lib.hid hpe
        clear hpe
        have HTN : Hid (takesK p col y.key = numB y.vs col) := by
          show _ = _
          unfold takesK
          rw [decide_eq_true (show y.key.1 = p from HPE.out)]
          rfl
        by_cases hneg : col < 0
        · have HEn := Lib.hid (HNO.out (HTN.out.trans (numB_neg hneg)))
          have hneg' : ¬ (0 : Int) ≤ col := by omega
          clear HX1
          go_wp2
          go_roundw
          case rel => exact ⟨i + 1, sa, sc, xs, by omega, by go_num, rfl, HB, HO, HEn⟩
          case measure => simp [intOf]; omega
        · have hnn : (0 : Int) ≤ col := by omega
          by_cases hfar : (y.vs.length : Int) ≤ col
          · have HEn := Lib.hid (HNO.out (HTN.out.trans (numB_far hfar)))
            have hfar' : ¬ col < (y.vs.length : Int) := by omega
            clear HX1
            go_wp2
            go_roundw
            case rel => exact ⟨i + 1, sa, sc, xs, by omega, by go_num, rfl, HB, HO, HEn⟩
            case measure => simp [intOf]; omega
          · have hql : col.toNat < y.vs.length := by omega
            have hql' : col < (y.vs.length : Int) := by omega
            have HTQ : Hid (takesK p col y.key = isNumV (atV y.vs col.toNat)) := by
              show _ = _
              rw [HTN.out]
              unfold numB
              rw [decide_eq_true hnn, decide_eq_true hql']
              rfl
            obtain ⟨ya, yc, hye, _, _, hyk⟩ := (HYF.out wr HB.out).vs.form
            injection hye with e1 e2 e3
            subst e1 e3
            obtain ⟨g2, off2, hya, hg2, hat⟩ := hyk (by omega)
            rw [hya] at x1
            have z0 : wr.cell? ⟨g2, off2 + col.toNat * 3, none⟩ = some (.int .i8 (atV y.vs col.toNat).k) := (hat col.toNat hql).c0
            have z1 : wr.cell? ⟨g2, off2 + col.toNat * 3 + 1, none⟩ = some (.int .i64 (atV y.vs col.toNat).n) := (hat col.toNat hql).c1
            have z2 : wr.cell? ⟨g2, off2 + col.toNat * 3 + 2, none⟩ = some (.string (atV y.vs col.toNat).s) := (hat col.toNat hql).c2
            have HWF := Lib.hid ((HYF.out wr HB.out).vs.wf (atV y.vs col.toNat) (by rw [atV_eq hql]; exact List.getElem_mem hql))
            have HNM : Hid (numAt col y.key = (atV y.vs col.toNat).n) := by
              show _ = _
              rfl
            have HG2 : Hid (g2 < wr.heap.size) := hg2
            have HYA := Lib.hid hya
            generalize atV y.vs col.toNat = vv at z0 z1 z2 HTQ HWF HNM
            clear hat hyk hg2 hya e2 hneg hfar
            by_cases hk1 : vv.k = 1
            · have hk1' : (vv.k == 1) = true := by simp [hk1]
              have HK1 := Lib.hid hk1
              clear hk1
              go_wp2_with fail
              refine (rcheck_any vv.k vv.n vv.s _ HWF.out.text).mono ?_
              rintro e w5 ⟨rfl, b5⟩
              have HB5 := Lib.hid (HB.out.trans (b5.mono HB.out.size))
              have HO5 := Lib.hid (own_below HO.out b5)
              have HB5' := Lib.hid b5
              clear b5 x0 x1 z0 z2
              by_cases hc : chk vv.k vv.n vv.s = 0
              · have HTT : Hid (takesK p col y.key = true) := by
                  show _ = _
                  rw [HTQ.out]
                  unfold isNumV
                  rw [decide_eq_true HK1.out, decide_eq_true hc]
                  rfl
                rw [hc]
                clear hc
                have w1 : w5.cell? ⟨g, off + i * 2 + 1, none⟩ = some (.slice (some ⟨g2, off2, none⟩) y.vs.length y.c) := by rw [HX1.out w5 HB5.out, HYA.out]
                have w1' : w5.cell? ⟨g2, off2 + col.toNat * 3 + 1, none⟩ = some (.int .i64 vv.n) := by rw [HB5'.out.cell (p := ⟨g2, _, none⟩) HG2.out]; exact z1
                have hcv := run_i2f vv.n
                have hxl : xs.length ≤ fs.length := by
                  rw [HE.out, List.length_map]
                  exact Nat.le_trans (List.length_filter_le _ _) (by rw [List.length_map, List.length_take]; omega)
                obtain ⟨v', w7, hrun, hown', hgrow, hnilx, hloc⟩ := run_append_own_at (P := Tryd.prog) (w5.alloc (.cells #[.float .f64 (fI vv.n)] 24)) w2.heap.size 34 34 24 j0 _ 1 8 Tryd.underlying34 hj0 hy0 hy1 hy2 rfl (by decide) _ _ _ (own_below HO5.out (belowA _)) ⟨_, 0, none⟩ 1 1 [.float .f64 (fI vv.n)] rfl (lit_news _ #[.float .f64 (fI vv.n)] _) (by simp [Value.oneCell']) (by unfold maxLen; omega) (by omega) (by have := HB5.out.size; simp; omega)
                obtain ⟨a7, c7, rfl, _⟩ := own_form hown'
                have hzz := HB5.out.size
                have HBn := Lib.hid ((HB5.out.trans ((belowA (w := w5) (.cells #[.float .f64 (fI vv.n)] 24)).mono HB5.out.size)).grown hgrow (by simp; omega) (fun j hj => (HO5.out.lt j hj).1))
                have HOn : Hid (w7.ownsRow w2.heap.size 24 1 (.slice a7 (xs ++ [vv.n]).length c7) (xs ++ [vv.n]).length ((xs ++ [vv.n]).map fC)) := by
                  show World.ownsRow _ _ _ _ _ _ _
                  have e9 : (xs ++ [vv.n]).length = xs.length + 1 := by simp
                  rw [e9, List.map_append]
                  exact hown'
                have HEn : Hid (xs ++ [vv.n] = (((fs.take (i + 1)).map XF.key).filter (takesK p col)).map (numAt col)) := by
                  show _ = _
                  rw [htk.out]
                  simp [HTT.out, HNM.out]
                have HLn : Hid ((xs ++ [vv.n]).length = xs.length + 1) := by show _ = _; simp
                clear hown' hgrow hnilx hloc hzz hxl z1 HX1
                go_wp2
                go_roundw
                case rel => exact ⟨i + 1, a7, c7, xs ++ [vv.n], by omega, by go_num, by rw [HLn.out], HBn, HOn, HEn⟩
                case measure => simp [intOf]; omega
              · have hc' : (chk vv.k vv.n vv.s == 0) = false := by simp [hc]
                have HEn := Lib.hid (HNO.out (HTQ.out.trans (by simp [isNumV, hc])))
                clear hc HX1 z1
                go_wp2
                go_roundw
                case rel => exact ⟨i + 1, sa, sc, xs, by omega, by go_num, rfl, HB5, HO5, HEn⟩
                case measure => simp [intOf]; omega
            · have hk1' : (vv.k == 1) = false := by simp [hk1]
              have HEn := Lib.hid (HNO.out (HTQ.out.trans (by simp [isNumV, hk1])))
              clear hk1 HX1
              go_wp2
              go_roundw
              case rel => exact ⟨i + 1, sa, sc, xs, by omega, by go_num, rfl, HB, HO, HEn⟩
              case measure => simp [intOf]; omega
      · have hpt : (y.pr.toList == p.toList) = false := by rw [eq_bytesE, decide_eq_false hpe]
        have HEn := Lib.hid (HNO.out (by simp [takesK, XF.key, hpe]))
        clear hpe HX1
        go_wp2
        go_roundw
        case rel => exact ⟨i + 1, sa, sc, xs, by omega, by go_num, rfl, HB, HO, HEn⟩
        case measure => simp [intOf]; omega
    · obtain rfl : i = fs.length := by omega
      obtain ⟨ks, hks⟩ : ∃ ks, ks = (fs.map XF.key).filter (takesK p col) := ⟨_, rfl⟩
      have ht : Told ((l.map XF.key).filter (takesK p col)) ks := by rw [hks]; exact HTOLD.out
      have HIN : Hid (in63 xs ∧ xs.length ≤ l.length) := by
        have h1 := HE.out
        rw [List.take_length, ← hks] at h1
        rw [h1]
        exact nums_in HL.out ht
      have HXS : Hid (ks.map (numAt col) = xs) := by
        have h1 := HE.out
        rw [List.take_length, ← hks] at h1
        exact h1.symm
      have HT := Lib.hid ht
      have hown := HO.out
      have HB := Lib.hid (HB2.out.trans (HB.out.mono HB2.out.size))
      clear hks ht HE HO HFK HLF HTOLD HB2
      generalize wr = W1 at hown HB ⊢
      have hcell : ∀ (i : Nat) (x : Int), xs[i]? = some x → ∃ g, sa = some ⟨g, 0, none⟩ ∧ ∀ u, Below W1.heap.size W1 u → u.cell? ⟨g, i, none⟩ = some (.float .f64 (fI x)) := fun i x hi => by
        rcases hown.2 with ⟨e, h0⟩ | ⟨g, cap, cur, e, _⟩
        · have := (List.getElem?_eq_some_iff.1 hi).1
          omega
        · cases e
          obtain ⟨c1, c2, c3, c4⟩ := own_cellI hown (i := i) (u := fC x) (by rw [List.getElem?_map, hi]; rfl)
          exact ⟨g, rfl, fun u hu => by rw [hu.cell (p := ⟨g, i, none⟩) c3]; exact c1⟩
      have HC := Lib.hid hcell
      clear hcell hown
      by_cases h0 : xs.length = 0
      · have HX0 : Hid (xs = []) := List.eq_nil_of_length_eq_zero h0
        have h0' : ((xs.length : Int) == 0) = true := by simp [h0]
        rw [h0]
        clear h0 h0'
        go_wp2
        go_ret3
        refine ⟨ks, ?_, HT.out, HB.out⟩
        rw [HXS.out, HX0.out]
        rfl
      · have h0' : ((xs.length : Int) == 0) = false := by rw [beq_eq_false_iff_ne]; omega
        have HX0 : Hid (xs ≠ []) := fun e => h0 (by rw [e]; rfl)
        have hlen : xs.length ≤ 1048576 := Nat.le_trans HIN.out.2 hn
        have HLEN := Lib.hid hlen
        have HME := Lib.hid (mean_ok HIN.out.1 HX0.out hlen)
        have HCT : Hid (fCnt (fI (xs.length : Int))) := cnt_int xs.length h0 hlen
        have hcv := run_n2f (xs.length : Int)
        have hmd := run_fdiv HME.out.1
        have HBr := Lib.hid (Below.refl W1.heap.size W1)
        clear h0
        go_wp2
        go_loopw [11, 12] (fun s j wr => ∃ (i : Nat), i ≤ xs.length ∧ j = .int .i64 i ∧ s = .float .f64 (sumF (xs.take i)) ∧ Hid (Below W1.heap.size W1 wr)) (fun _ j _ => xs.length - (intOf j).toNat)
        case atStart => exact ⟨0, Nat.zero_le _, rfl, rfl, HBr⟩
        case round =>
          obtain ⟨i, hi, rfl, rfl, HBi⟩ := hrel
          by_cases hlt : i < xs.length
          · have hlt' : (i : Int) < (xs.length : Int) := by omega
            obtain ⟨x, hx⟩ : ∃ x, xs[i]? = some x := ⟨_, List.getElem?_eq_getElem hlt⟩
            obtain ⟨g, rfl, hc⟩ := HC.out i x hx
            have x0 := hc wr HBi.out
            have hst := sum_step (xs := xs.take i) (x := x) (fun y hy => HIN.out.1 y (List.mem_of_mem_take hy)) (HIN.out.1 _ (List.mem_of_getElem? hx))
            rw [← take_one hx] at hst
            have hadd := run_fadd hst
            clear hst hc hx hcv hmd
            go_wp2
            go_roundw
            case rel => exact ⟨i + 1, by omega, by go_num, rfl, HBi⟩
            case measure => simp [intOf]; omega
          · obtain rfl : i = xs.length := by omega
            rw [List.take_length]
            generalize hmv : meanF xs = mv at hmd
            have HMV := Lib.hid hmv
            clear hmv
            go_wp2
            go_loopw [13, 14] (fun s j wr => ∃ (i : Nat), i ≤ xs.length ∧ j = .int .i64 i ∧ s = .float .f64 (spU mv (fI (xs.length : Int)) (xs.take i)) ∧ Hid (Below W1.heap.size W1 wr)) (fun _ j _ => xs.length - (intOf j).toNat)
            case atStart => exact ⟨0, Nat.zero_le _, rfl, rfl, HBi⟩
            case round =>
              clear HBi hmd
              obtain ⟨i, hi, rfl, rfl, HBi⟩ := hrel
              by_cases hlt : i < xs.length
              · have hlt' : (i : Int) < (xs.length : Int) := by omega
                obtain ⟨x, hx⟩ : ∃ x, xs[i]? = some x := ⟨_, List.getElem?_eq_getElem hlt⟩
                obtain ⟨g, rfl, hc⟩ := HC.out i x hx
                have x0 := hc wr HBi.out
                have hb := HIN.out.1 _ (List.mem_of_getElem? hx)
                have hm : fOk mv := by rw [← HMV.out]; exact HME.out.2
                have hst := spU_step (xs := xs.take i) (x := x) hm HCT.out (fun y hy => HIN.out.1 y (List.mem_of_mem_take hy)) hb
                rw [← take_one hx] at hst
                have hadd := run_fadd hst
                have hoo := off_ok (m := mv) (x := x) hm hb
                have hsub := run_fsub hoo.1
                have hmul := run_fmul (sq_ok hoo.2).1
                have hdiv := run_fdiv (part_ok (x := x) hm HCT.out hb).1
                clear hst hc hx hb hm hoo
                go_wp2
                go_roundw
                case rel => exact ⟨i + 1, by omega, by go_num, rfl, HBi⟩
                case measure => simp [intOf]; omega
              · obtain rfl : i = xs.length := by omega
                rw [List.take_length]
                have HSM : Hid (shM xs = mv ∧ shS xs = spU mv (fI (xs.length : Int)) xs) := by
                  show _ ∧ _
                  unfold shM shS spF
                  rw [if_neg HX0.out, if_neg HX0.out, HMV.out]
                  exact ⟨rfl, rfl⟩
                generalize spU mv (fI (xs.length : Int)) xs = sv at HSM ⊢
                go_wp2
                go_ret3
                refine ⟨ks, ?_, HT.out, HB.out.trans (HBi.out.mono HB.out.size)⟩
                rw [HXS.out, HSM.out.1, HSM.out.2]
                rfl
end Go.Proofs.YtoppgalbmijhdaaDoor
