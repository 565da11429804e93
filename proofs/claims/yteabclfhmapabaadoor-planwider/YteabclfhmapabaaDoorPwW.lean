import Derived.Test.YteabclfhmapabaaDoorPwV
namespace Go.Proofs.YteabclfhmapabaaDoor
open Go.RowKit Go.Maps Go.Shelf
set_option linter.unusedVariables false
set_option linter.unusedSimpArgs false
attribute [local go_sem ↓] Go.wp_at_zero Go.wp_at_succ
attribute [-go_sem] loadVar
theorem neqI_run (x y : Int) (u : World) : (binOp .neq 3 (.int .i64 x) (.int .i64 y)).run Tryd.prog u = .ok (.bool (x != y)) u := by go_simp
theorem ls_more {u : World} {B : Nat} {a : Option Addr} {c : Nat} {l : List ByteArray} {more : ByteArray} (h : u.ownsRow B 9 1 (.slice a (l ++ [more]).length c) (l ++ [more]).length ((l ++ [more]).flatMap strB)) : Ls u (.slice a (l ++ [more]).length c) (l ++ [more]).length ((l ++ [more]).flatMap strB) := ls_own h
set_option maxHeartbeats 25600000 in
set_option maxRecDepth 100000 in
theorem wider_any (d : Nat) (r : R3) (p : RP) (first : Int) (w : World) (hG : KT w ∧ DT w) (hR : RIs w (d + 1) r p) {v : Value} {l : List ByteArray} (hl : Ls w v l.length (l.flatMap strB)) (hsz : ∀ i, i < l.length → (atS l i).size ≤ maxLen) (hll : l.length ≤ 8796093021952) {more : ByteArray} (hms : more.size ≤ maxLen) :
    Calls Tryd.prog 10 #[r.val p, v, .string more, .int .i64 first] w fun e w' => e = .returned (.bool true) ∧ Below w.heap.size w w' := by
  obtain ⟨hKT, hDT⟩ := hG
  obtain ⟨pa, pc, pba, pbc⟩ := p
  unfold R3.val
  simp only at hR ⊢
  have hA0 := belowA (w := w) (.cells #[.string r.pr, .slice pa r.hd.length pc, .slice pba r.bd.length pbc] 25)
  have HB0 := Lib.hid hA0
  have HRL := Lib.hid (rl_new w #[.string r.pr, .slice pa r.hd.length pc, .slice pba r.bd.length pbc] 25)
  have HR := Lib.hid (hR.below hA0)
  have HK := Lib.hid (hKT.below hA0)
  have HD := Lib.hid (hDT.below hA0)
  have HL := Lib.hid (hl.below hA0)
  have HSZ := Lib.hid hsz
  have HSM2 : Hid (∀ i, i < (l ++ [more]).length → (atS (l ++ [more]) i).size ≤ maxLen) := fun i hi => by
    rw [List.length_append] at hi
    by_cases h : i < l.length
    · have e : atS (l ++ [more]) i = atS l i := by
        rw [atS_eq (by rw [List.length_append]; omega), atS_eq h, List.getElem_append_left h]
      rw [e]
      exact hsz i h
    · have hi2 : i = l.length := by simp at hi; omega
      subst hi2
      have e : atS (l ++ [more]) l.length = more := by
        rw [atS_eq (by rw [List.length_append]; simp)]
        simp
      rw [e]
      exact hms
  obtain ⟨la, lc, rfl, hlc1, hlc2, _⟩ := ls_str hl
  unfold maxLen at hlc2
  have hld := load_ruB HRL.out
  have HBY := Lib.hid (beyondRule_any (d + 1) r ⟨pa, pc, pba, pbc⟩ _ HR.out)
  unfold R3.val at HBY
  simp only at HBY
  obtain ⟨i0, hi0, hz0, hz1, hz2⟩ := info_parts infoStrL
  clear hKT hDT hR hl hsz hA0 hms
  go_enter Tryd.func10, Tryd.ntmps10
  go_wp2_with fail
  refine HBY.out.mono ?_
  clear hld HBY
  obtain ⟨W, hW⟩ : ∃ W, W = w.alloc (.cells #[.string r.pr, .slice pa r.hd.length pc, .slice pba r.bd.length pbc] 25) := ⟨_, rfl⟩
  rw [← hW] at HR HB0 HRL HK HD HL ⊢
  clear hW
  rintro e w1 ⟨b, rfl, b1, hsm⟩
  cases b
  case true =>
    have HF := Lib.hid (HB0.out.trans (b1.mono HB0.out.size))
    clear b1 hsm
    go_wp2
    go_ret
    exact ⟨rfl, HF.out⟩
  case false =>
  have HSM := Lib.hid (hsm rfl)
  have l1 := load_ruB (RL.below HRL.out b1)
  have HB1 := Lib.hid b1
  have HM1 := Lib.hid (makeW_any d r ⟨pa, pc, pba, pbc⟩ w1 (HK.out.below b1) (HD.out.below b1) (HR.out.below b1) HSM.out HSM.out.terms (HL.out.below b1) HSZ.out first)
  unfold R3.val at HM1
  simp only at HM1
  clear b1 hsm
  go_wp2_with fail
  refine HM1.out.mono ?_
  rintro e w2 ⟨b2, pr1, ra1, rn1, rc1, ba1, bn1, bc1, sa1, sn1, sc1, er, rfl, hC, hat⟩
  have HB2 : Hid (Below W.heap.size W w2) := HB1.out.trans (b2.mono HB1.out.size)
  have HC := Lib.hid hC
  have HIA := Lib.hid hat
  clear hC hat b2 HM1 l1 HB1
  have hAP := belowA (w := w2) (.cells #[.string pr1, .slice ra1 rn1 rc1, .slice ba1 bn1 bc1, .slice sa1 sn1 sc1] 30)
  have HAP := Lib.hid hAP
  have HPL := Lib.hid (rl_new w2 #[.string pr1, .slice ra1 rn1 rc1, .slice ba1 bn1 bc1, .slice sa1 sn1 sc1] 30)
  have HBP : Hid (Below W.heap.size W (w2.alloc (.cells #[.string pr1, .slice ra1 rn1 rc1, .slice ba1 bn1 bc1, .slice sa1 sn1 sc1] 30))) := HB2.out.trans (hAP.mono HB2.out.size)
  clear hAP HB2
  go_upto_region 4 with fail
  generalize hX : w2.alloc (.cells #[.string pr1, .slice ra1 rn1 rc1, .slice ba1 bn1 bc1, .slice sa1 sn1 sc1] 30) = X at HAP HPL HBP ⊢
  clear hX
  go_upto_region 5 with (at_builtin; refine wpList_appL rfl (.tmp 28) (.tmp 29) 26 9 rfl Tryd.underlying26 hi0 hz0 hz1 hz2 rfl (by decide) (b := X.heap.size) (v := .slice (some ⟨X.heap.size, 0, none⟩) 0 0) (n := 0) (xs := []) (a := la) (c := lc) (m := l.length) (ys := l.flatMap strB) (by simp [Act.eval, Act.put]) (World.ownsRow_lit X #[] 0 (Nat.le_refl _) (by decide) rfl) (by simp [Act.eval, Act.put]) ((HL.out.below HBP.out).below (belowA _)) (strB_cells l) (strB_one l) (by unfold maxLen; omega) (by omega) (by simp) ?_; intro v5 w5 own5 hg5 hl5; have bel5 : Hid (Below X.heap.size X w5) := (belowA _).grown hg5 (by simp) (fun j hj => by simp [Value.ownBlock] at hj; omega); rw [Nat.zero_add, List.nil_append] at own5; clear hg5 hl5)
  obtain ⟨oa, oc, rfl, _⟩ := own_form own5
  have HO5 := Lib.hid own5
  clear own5
  have HLT : Hid (∀ g, (Value.slice oa l.length oc).ownBlock = some g → g < w5.heap.size) := fun g hg => (HO5.out.lt g hg).2
  obtain ⟨L1, hL1⟩ : ∃ L1, L1 = l ++ [more] := ⟨_, rfl⟩
  have HAPP : Hid (∀ u g, u.ownsRow X.heap.size 9 1 (.slice oa l.length oc) l.length (l.flatMap strB) → Below X.heap.size X u → w5.heap.size ≤ g → g < u.heap.size → RL u g 9 [.string more] → ∃ a6 c6 u2, (Builtin.append_ #[26, 26] 26 #[.slice oa l.length oc, .slice (some ⟨g, 0, none⟩) 1 1]).run Tryd.prog u = .ok (.slice a6 L1.length c6) u2 ∧ Below X.heap.size X u2 ∧ u.heap.size ≤ u2.heap.size ∧ (∀ b t cs, w5.heap.size ≤ b → b < u.heap.size → RL u b t cs → RL u2 b t cs) ∧ Ls u2 (.slice a6 L1.length c6) L1.length (L1.flatMap strB)) := by
    intro u g hO hS hgg hgl hG
    obtain ⟨v', u2, hrun, hown, hgr, _, _⟩ := run_append_own_at (P := Tryd.prog) u X.heap.size 26 26 9 i0 _ 1 16 Tryd.underlying26 hi0 hz0 hz1 hz2 rfl (by decide) _ _ _ hO ⟨g, 0, none⟩ 1 1 [.string more] rfl (fun j x hj => by
      have hj0 : j = 0 := by
        have := (List.getElem?_eq_some_iff.1 hj).1
        simp at this
        omega
      subst hj0
      injection hj with hj
      subst hj
      exact RL.at hG (j := 0) rfl) (by simp [Value.oneCell']) (by unfold maxLen; omega) (by omega) hS.size
    obtain ⟨a6, c6, rfl, _⟩ := own_form hown
    have e1 : l.length + 1 = L1.length := by rw [hL1]; simp
    have e2 : l.flatMap strB ++ [.string more] = L1.flatMap strB := by rw [hL1, List.flatMap_append]; rfl
    rw [e1, e2] at hown
    rw [e1] at hrun
    refine ⟨a6, c6, u2, hrun, hS.grown hgr hS.size (fun j hj => (hO.lt j hj).1), hgr.size, fun b t cs hb hbl hRb => ?_, ls_own hown⟩
    refine World.rowIs.of_block hRb (hgr.block b hbl (fun e => ?_))
    have := HLT.out b e.symm
    omega
  have HSM3 : Hid (∀ i, i < L1.length → (atS L1 i).size ≤ maxLen) := by
    rw [hL1]
    exact HSM2.out
  have HL1 := Lib.hid hL1
  have HMK : Hid (∀ (u : World) (a6 : Option Addr) (c6 : Nat), Below X.heap.size X u → Ls u (.slice a6 L1.length c6) L1.length (L1.flatMap strB) → Calls Tryd.prog 6 #[.agg #[.string r.pr, .slice pa r.hd.length pc, .slice pba r.bd.length pbc], .slice a6 L1.length c6, .int .i64 first] u fun e u' => Below u.heap.size u u' ∧ ∃ (pr : ByteArray) (ra : Option Addr) (rn rc : Nat) (ba : Option Addr) (bn bc : Nat) (sa : Option Addr) (sn sc : Nat) (er : Int), e = .returned (.tuple #[.agg #[.string pr, .slice ra rn rc, .slice ba bn bc, .slice sa sn sc], .int .i64 er]) ∧ MkC d r L1 first u' pr ra rn rc ba bn bc sa sn sc er) := by
    intro u a6 c6 hS hN
    have hu : Below W.heap.size W u := HBP.out.trans (hS.mono HBP.out.size)
    have := makeW_any d r ⟨pa, pc, pba, pbc⟩ u (HK.out.below hu) (HD.out.below hu) (HR.out.below hu) HSM.out HSM.out.terms hN HSM3.out first
    unfold R3.val at this
    simp only at this
    refine this.mono ?_
    rintro e u' ⟨q1, pr, ra, rn, rc, ba, bn, bc, sa, sn, sc, er2, q2, q3, _⟩
    exact ⟨q1, pr, ra, rn, rc, ba, bn, bc, sa, sn, sc, er2, q2, q3⟩
  have HLRU : Hid (∀ u, Below X.heap.size X u → (loadVar 25 ⟨w.heap.size, 0, none⟩).run Tryd.prog u = .ok (.agg #[.string r.pr, .slice pa r.hd.length pc, .slice pba r.bd.length pbc]) u) := fun u hu => load_ruB (RL.below HRL.out (HBP.out.trans (hu.mono HBP.out.size)))
  clear hL1 HSM2 HSM3
  go_upto_region 5 with fail
  refine wp_region_noPanic ?_
  refine wp_region_held (S := fun u => Below X.heap.size X u) (by kernel_rfl) ?_
  refine pw5 (w5 := w5) (W0 := X) (O := fun u => u.ownsRow X.heap.size 9 1 (.slice oa l.length oc) l.length (l.flatMap strB)) (N := fun u a c => Ls u (.slice a L1.length c) L1.length (L1.flatMap strB)) (Pf := fun u pr ra rn rc ba bn bc sa sn sc er => MkC d r L1 first u pr ra rn rc ba bn bc sa sn sc er) (b4 := w.heap.size) (nn := L1.length) (rv := .agg #[.string r.pr, .slice pa r.hd.length pc, .slice pba r.bd.length pbc]) (av := .slice oa l.length oc) (s := more) (first := first) rfl rfl rfl rfl rfl rfl rfl rfl rfl rfl rfl rfl rfl (by kernel_rfl) (by kernel_rfl) (by kernel_rfl) (by kernel_rfl) (by kernel_rfl) (by kernel_rfl) (by kernel_rfl) (by kernel_rfl) (by kernel_rfl) (by kernel_rfl) (by kernel_rfl) (by kernel_rfl) (fun _ _ _ _ _ h => h) (by simp) rfl rfl rfl rfl bel5.out.drew bel5.out.size (own_below HO5.out (Below.refl _ _).drew) (fun u o h => own_below h (belowA o)) (fun u o a c h => h.below (belowA o)) HLRU.out HAPP.out HMK.out ?_
  intro af u9 Y b12 pr2 ra2 rn2 rc2 ba2 bn2 bc2 sb2 sn2 sd2 er2 hAg h12 h13 hP hcase hb12 hS hRL
  refine NoPanic.normal ?_
  rename_i hKa hKb
  first | refine hKb _ _ ?_ | refine hKa _ _ ?_
  have hf := hAg.form
  unfold js_pw5 at hf
  simp only [List.foldl_cons, List.foldl_nil] at hf
  have k12 : af.tmps.getD 12 undef = .pointer (some ⟨b12, 0, none⟩) := by simpa [Act.eval] using h12
  rw [k12] at hf
  have k13 : af.tmps.getD 13 undef = .int .i64 er2 := by simpa [Act.eval] using h13
  rw [k13] at hf
  generalize af.tmps.getD 32 undef = g32 at hf
  generalize af.tmps.getD 33 undef = g33 at hf
  generalize af.tmps.getD 34 undef = g34 at hf
  generalize af.tmps.getD 35 undef = g35 at hf
  generalize af.tmps.getD 36 undef = g36 at hf
  generalize af.tmps.getD 37 undef = g37 at hf
  generalize af.tmps.getD 38 undef = g38 at hf
  generalize af.tmps.getD 31 undef = g31 at hf
  generalize af.tmps.getD 39 undef = g39 at hf
  generalize af.tmps.getD 40 undef = g40 at hf
  clear h12 k12 h13 k13 hAg hKa hKb
  subst hf
  simp (config := { maxSteps := 8000000 }) only [List.setIfInBounds_toArray, List.set_cons_succ, List.set_cons_zero]
  have HY : Hid (Below X.heap.size X Y) := hS
  have HBY : Hid (Below W.heap.size W Y) := HBP.out.trans (hS.mono HBP.out.size)
  have HP2 := Lib.hid (And.intro hP hcase)
  have HQL := Lib.hid hRL
  have HPLY := Lib.hid (RL.below HPL.out hS)
  clear hP hcase hRL hS hb12 HAPP HMK HLRU HLT HO5 bel5 HPL
  by_cases her : er = 0
  · subst her
    have hC := HC.out
    have hat := HIA.out rfl
    clear HC HIA
    unfold MkC at hC
    rcases hC with ⟨h, _⟩ | ⟨h, _⟩ | ⟨h, _⟩ | ⟨h, _⟩ | ⟨_, y, q, xs, rfl, rfl, rfl, rfl, rfl, rfl, rfl, rfl, hY⟩
    · exact absurd h (by decide)
    · exact absurd h (by decide)
    · exact absurd h (by decide)
    · exact absurd h (by decide)
    rw [HL1.out] at HP2
    rcases wide_er hY hat HP2.out.1 with h1 | ⟨h1, y2, q2, ys, h2, hY2⟩
    · subst h1
      clear hY hat HP2
      have HLV := Lib.hid (lives12_any (HK.out.below HBY.out) (HD.out.below HBY.out))
      go_wp2_with fail
      refine HLV.out.mono ?_
      rintro e w8 ⟨rfl, b8⟩
      have HF := Lib.hid (HB0.out.trans ((HBY.out.trans (b8.mono HBY.out.size)).mono HB0.out.size))
      clear b8 HLV
      go_wp2
      go_ret
      exact ⟨rfl, HF.out⟩
    · subst h1
      have hylen : ys.length = xs.length := hY2.len.trans hY.len.symm
      rw [hylen] at h2
      subst h2
      have HYL := Lib.hid hylen
      have hnm : ∀ i, i < ys.length → ∀ n ∈ (atZ ys i).s.g, n ≠ noS := by
        obtain ⟨s2, hg2⟩ := hY2.go
        exact go_names (litsB_y hY.rb) hg2
      have HYZ : Hid (Lz Y (.slice sb2 ys.length sd2) ys) := by
        rcases HP2.out.2 with ⟨u, rfl, rfl, hY'⟩ | ⟨hRR, hY'⟩
        · rw [hY']
          exact hY2.lz.below (pl4_below (belowA _) (Nat.le_refl _) _ _ _ _ _ _ _ _ _ _)
        · rw [hY']
          exact lz_box hRR hY2.lz hnm _ _ _ _ _ _ _ _ _ _
      have HXZ := Lib.hid ((hY.lz.below HAP.out).below HY.out)
      have HWD : Hid ((∀ i, i < xs.length → (atZ xs i).s.i = (atZ ys i).s.i) → WdM more xs ys) := fun hs => wide_all hY hY2 hs
      clear hY hY2 hnm hat HP2 hylen
      obtain ⟨a', c', hac, hxc1, hxc2, hxat⟩ := HXZ.out.form
      injection hac with e1 e2 e3
      subst e1 e3
      obtain ⟨a2, c2, hac2, hyc1, hyc2, hyat⟩ := HYZ.out.form
      injection hac2 with e4 e5 e6
      subst e4 e6
      have HXA := Lib.hid hxat
      have HYA := Lib.hid hyat
      unfold maxLen at hxc2 hyc2
      have lx := load_stsP (RL.at HPLY.out (j := 3) rfl)
      have ly := load_stsP (RL.at HQL.out (j := 3) rfl)
      clear hxat hyat e2 e5 hyc1
      go_wp2
      clear lx ly
      go_loopw [14] (fun i wr => ∃ j : Nat, j ≤ xs.length ∧ i = .int .i64 j ∧ Hid (∀ m, m < j → (atZ xs m).s.i = (atZ ys m).s.i) ∧ Hid (Below Y.heap.size Y wr)) (fun i _ => xs.length - (intOf i).toNat)
      case atStart => exact ⟨0, Nat.zero_le _, rfl, fun m hm => absurd hm (Nat.not_lt_zero _), Below.refl _ _⟩
      case round =>
        obtain ⟨j, hj, rfl, HEQ, HB⟩ := hrel
        have lx := load_stsP (RL.at (RL.below HPLY.out HB.out) (j := 3) rfl)
        by_cases hlt : j < xs.length
        · have hlt' : (j : Int) < (xs.length : Int) := by omega
          have hj0 : (0 : Int) ≤ (j : Int) := by omega
          have hjy : j < ys.length := by have := HYL.out; omega
          obtain ⟨g2, o2, rfl, hg2, hr2⟩ := HXA.out (by omega)
          obtain ⟨g3, o3, rfl, hg3, hr3⟩ := HYA.out (by omega)
          have HBD := Lib.hid HB.out.drew
          have HLX := Lib.hid (load_intP ((range_below (hr2 j hlt) HBD.out hg2) 1 _ rfl))
          have HLY := Lib.hid (load_intP ((range_below (hr3 j hjy) HBD.out hg3) 1 _ rfl))
          have HLB := Lib.hid (load_stsP (RL.at (RL.below HPLY.out HBD.out) (j := 3) rfl))
          have HLC := Lib.hid (load_stsP (RL.at (RL.below HQL.out HBD.out) (j := 3) rfl))
          have HE1 : Hid ((atZ xs j).s.i = (atZ ys j).s.i → ∀ m, m < j + 1 → (atZ xs m).s.i = (atZ ys m).s.i) := fun h m hm => by
            by_cases hmj : m = j
            · subst hmj
              exact h
            · exact HEQ.out m (by omega)
          clear hr2 hr3 hg2 hg3 HEQ
          generalize (atZ xs j).s.i = xi at HLX HE1
          generalize (atZ ys j).s.i = yi at HLY HE1
          have HNQ := Lib.hid (neqI_run xi yi)
          obtain ⟨db, hdb⟩ : ∃ db : Bool, db = (xi != yi) := ⟨_, rfl⟩
          rw [← hdb] at HNQ
          have HDB : Hid (db = false → xi = yi) := fun h => by
            rw [hdb, bne_eq_false_iff_eq] at h
            exact h
          clear hdb
          go_upto_region 13 with fail
          refine wp_region_noPanic ?_
          refine wp_region_held (S := fun v => v = wr.drew) (by kernel_rfl) ?_
          refine pw13 (w5 := wr) (S := fun v => v = wr.drew) (b9 := w2.heap.size) (b12 := b12) (g2 := g2) (f2 := o2) (c2 := sc1) (g3 := g3) (f3 := o3) (c3 := sd2) (n := xs.length) (j := j) (x := xi) (y := yi) (db := db) rfl rfl rfl rfl rfl rfl rfl rfl rfl rfl rfl rfl rfl (by kernel_rfl) (by kernel_rfl) (by kernel_rfl) (by intros; assumption) (by simp) rfl rfl rfl rfl hlt (fun v hv => by rw [hv]; exact HLB.out) (fun v hv => by rw [hv]; exact HLC.out) (fun v hv => by rw [hv]; exact HLX.out) (fun v hv => by rw [hv]; exact HLY.out) HNQ.out ?_
          rintro wc rfl
          refine NoPanic.normal ?_
          rename_i hKa hKb
          first | refine hKb _ _ ?_ | refine hKa _ _ ?_
          simp (config := { maxSteps := 8000000 }) only [Act.put, List.getElem_toArray, List.getElem_cons_zero, List.getElem_cons_succ, List.setIfInBounds_toArray, List.set_cons_succ, List.set_cons_zero]
          clear hKa hKb HLX HLY HLB HLC HNQ lx HB
          cases db
          case true =>
            have HB7 : Hid (Below W.heap.size W wr.drew) := HBY.out.trans (HBD.out.mono HBY.out.size)
            generalize wr.drew = V1 at HB7 HBD ⊢
            have HLV := Lib.hid (lives12_any (HK.out.below HB7.out) (HD.out.below HB7.out))
            go_wp2_with fail
            refine HLV.out.mono ?_
            rintro e w8 ⟨rfl, b8⟩
            have HF := Lib.hid (HB0.out.trans ((HB7.out.trans (b8.mono HB7.out.size)).mono HB0.out.size))
            clear b8 HLV
            go_wp2
            go_ret
            exact ⟨rfl, HF.out⟩
          case false =>
            have HEN := Lib.hid (HE1.out (HDB.out rfl))
            go_wp2
            go_roundw
            case rel => exact ⟨j + 1, by omega, by go_num, HEN, HBD⟩
            case measure => simp [intOf]; omega
        · obtain rfl : j = xs.length := by omega
          have HW := Lib.hid (HWD.out HEQ.out)
          have HBZ := HB
          clear HEQ HB HWD
          go_wp2
          clear lx
          go_loopw [15, 16, 17, 18] (fun i _ _ _ wr => ∃ j : Nat, j ≤ xs.length ∧ i = .int .i64 j ∧ Hid (Below Y.heap.size Y wr)) (fun i _ _ _ _ => xs.length - (intOf i).toNat)
          case atStart => exact ⟨0, Nat.zero_le _, rfl, HBZ⟩
          case round =>
            clear HBZ
            obtain ⟨j, hj, rfl, HB⟩ := hrel
            have lx := load_stsP (RL.at (RL.below HPLY.out HB.out) (j := 3) rfl)
            by_cases hlt : j < xs.length
            · have hlt' : (j : Int) < (xs.length : Int) := by omega
              have hj0 : (0 : Int) ≤ (j : Int) := by omega
              have hjy : j < ys.length := by have := HYL.out; omega
              obtain ⟨g2, o2, rfl, hg2, hr2⟩ := HXA.out (by omega)
              obtain ⟨g3, o3, rfl, hg3, hr3⟩ := HYA.out (by omega)
              obtain ⟨ma, mb, em1, em2, hor, hma, hmb⟩ := HW.out.msk j hlt
              have hgv := HW.out.giv j hlt
              have HSX := Lib.hid ((HXZ.out.at_is hlt).below HB.out)
              have HSY := Lib.hid ((HYZ.out.at_is hjy).below HB.out)
              have HLX : Hid (∀ u, Below wr.heap.size wr u → (loadVar 40 ⟨g2, o2 + j * 4, none⟩).run Tryd.prog u = .ok (.agg #[.int .i8 (atZ xs j).s.k, .int .i64 (atZ xs j).s.i, .int .u32 (atZ xs j).s.m, .slice (atZ xs j).a (atZ xs j).s.g.length (atZ xs j).c]) u) := fun u hu => load_stR (range_below (hr2 j hlt) (HB.out.trans (hu.mono HB.out.size)) hg2) rfl
              have HLY : Hid (∀ u, Below wr.heap.size wr u → (loadVar 40 ⟨g3, o3 + j * 4, none⟩).run Tryd.prog u = .ok (.agg #[.int .i8 (atZ ys j).s.k, .int .i64 (atZ ys j).s.i, .int .u32 (atZ ys j).s.m, .slice (atZ ys j).a (atZ ys j).s.g.length (atZ ys j).c]) u) := fun u hu => load_stR (range_below (hr3 j hjy) (HB.out.trans (hu.mono HB.out.size)) hg3) rfl
              have HLB : Hid (∀ u, Below wr.heap.size wr u → (loadVar 28 ⟨w2.heap.size, 3, none⟩).run Tryd.prog u = .ok (.slice (some ⟨g2, o2, none⟩) xs.length sc1) u) := fun u hu => load_stsP (RL.at (RL.below HPLY.out (HB.out.trans (hu.mono HB.out.size))) (j := 3) rfl)
              have HLC : Hid (∀ u, Below wr.heap.size wr u → (loadVar 28 ⟨b12, 3, none⟩).run Tryd.prog u = .ok (.slice (some ⟨g3, o3, none⟩) xs.length sd2) u) := fun u hu => load_stsP (RL.at (RL.below HQL.out (HB.out.trans (hu.mono HB.out.size))) (j := 3) rfl)
              clear hr2 hr3 hg2 hg3
              generalize atZ xs j = zx at em1 hgv HSX HLX
              generalize atZ ys j = zy at em2 hgv HSY HLY
              obtain ⟨⟨kx, ix, mx, gx⟩, ax, cx⟩ := zx
              obtain ⟨⟨ky, iy, my, gy⟩, ay, cy⟩ := zy
              simp only at em1 em2 hgv HSX HSY HLX HLY
              subst em1 em2
              have HGV := Lib.hid hgv
              have HOR := Lib.hid (or_mask hor hma hmb)
              clear hgv hor hma hmb
              go_upto_region 18 with fail
              refine wp_region_noPanic ?_
              refine wp_region_held (S := fun u => Below wr.heap.size wr u) (by kernel_rfl) ?_
              refine pw18 (w5 := wr) (b9 := w2.heap.size) (b12 := b12) (g2 := g2) (f2 := o2) (m2 := sc1) (g3 := g3) (f3 := o3) (m3 := sd2) (n := xs.length) (j := j) (ka := kx) (ia := ix) (ma := (ma : Int)) (aa := ax) (na := gx.length) (ca := cx) (kb := ky) (ib := iy) (mb := (mb : Int)) (ab := ay) (nb := gy.length) (cb := cy) rfl rfl rfl rfl rfl rfl rfl rfl rfl rfl rfl rfl rfl rfl (by kernel_rfl) (by kernel_rfl) (by kernel_rfl) (by kernel_rfl) (by kernel_rfl) (by kernel_rfl) (by kernel_rfl) (by kernel_rfl) (fun _ _ _ _ _ h => h) (by simp) rfl rfl rfl hlt HLB.out HLC.out HLX.out HLY.out ?_
              intro af Z b16 b17 hAg h16 h17 h16r h17r hSZ
              refine NoPanic.normal ?_
              rename_i hKa hKb
              first | refine hKb _ _ ?_ | refine hKa _ _ ?_
              have hf := hAg.form
              unfold js_pw18 at hf
              simp only [List.foldl_cons, List.foldl_nil] at hf
              have k16 : af.tmps.getD 16 undef = .pointer (some ⟨b16, 0, none⟩) := by simpa [Act.eval] using h16
              rw [k16] at hf
              have k17 : af.tmps.getD 17 undef = .pointer (some ⟨b17, 0, none⟩) := by simpa [Act.eval] using h17
              rw [k17] at hf
              generalize af.tmps.getD 91 undef = g91 at hf
              generalize af.tmps.getD 92 undef = g92 at hf
              generalize af.tmps.getD 93 undef = g93 at hf
              generalize af.tmps.getD 94 undef = g94 at hf
              generalize af.tmps.getD 95 undef = g95 at hf
              generalize af.tmps.getD 96 undef = g96 at hf
              generalize af.tmps.getD 97 undef = g97 at hf
              generalize af.tmps.getD 98 undef = g98 at hf
              generalize af.tmps.getD 99 undef = g99 at hf
              generalize af.tmps.getD 100 undef = g100 at hf
              clear h16 k16 h17 k17 hAg hKa hKb
              subst hf
              simp (config := { maxSteps := 8000000 }) only [List.setIfInBounds_toArray, List.set_cons_succ, List.set_cons_zero]
              have HR16 := Lib.hid h16r
              have HR17 := Lib.hid h17r
              have HBZ2 : Hid (Below wr.heap.size wr Z) := hSZ
              have HBYZ : Hid (Below Y.heap.size Y Z) := HB.out.trans (hSZ.mono HB.out.size)
              have HSXZ := Lib.hid (HSX.out.below hSZ)
              have HSYZ := Lib.hid (HSY.out.below hSZ)
              clear h16r h17r hSZ HLX HLY HLB HLC HSX HSY lx HB
              have n1 := load_mkP (RL.at HR16.out (j := 2) rfl)
              have n2 := load_mkP (RL.at HR17.out (j := 2) rfl)
              have hor2 := HOR.out
              obtain ⟨a9, c9, hac9, hq1, hq2, hat9⟩ := ls_str HSYZ.out
              injection hac9 with f1 f2 f3
              subst f1 f3
              have HYT := Lib.hid hat9
              unfold maxLen at hq2
              clear hat9 f2 HBZ2
              go_wp2
              clear n1 n2 hor2
              go_loopw [18] (fun i u => ∃ m : Nat, m ≤ gy.length ∧ i = .int .i64 m ∧ Hid (Below Z.heap.size Z u)) (fun i _ => gy.length - (intOf i).toNat)
              case atStart => exact ⟨0, Nat.zero_le _, rfl, Below.refl _ _⟩
              case round =>
                obtain ⟨m, hm, rfl, HBU⟩ := hrel
                have lg := load_ssP (RL.at (RL.below HR17.out HBU.out) (j := 3) rfl)
                by_cases hlm : m < gy.length
                · have hlm' : (m : Int) < (gy.length : Int) := by omega
                  have hm0 : (0 : Int) ≤ (m : Int) := by omega
                  obtain ⟨g4, o4, rfl, hg4, hc4⟩ := HYT.out (by omega)
                  have HBV := Lib.hid HBU.out.drew
                  have HLA := Lib.hid (load_ssP (RL.at (RL.below HR16.out HBV.out) (j := 3) rfl))
                  have HLG := Lib.hid (load_ssP (RL.at (RL.below HR17.out HBV.out) (j := 3) rfl))
                  have HLS := Lib.hid (load_strP ((HBV.out.cell (p := ⟨g4, o4 + m, none⟩) hg4).trans (hc4 m hlm)))
                  have hgn := HGV.out (atS gy m) (by rw [atS_eq hlm]; exact List.getElem_mem hlm)
                  have HHA := Lib.hid (has_any (HSXZ.out.below HBV.out) (atS gy m))
                  rw [inB_iff.2 hgn.1] at HHA
                  have HEQ2 := Lib.hid (eqlS_run (atS gy m) more)
                  rw [s_ne hgn.2] at HEQ2
                  clear hc4 hg4 hgn
                  generalize atS gy m = zn at HLS HHA HEQ2
                  go_upto_region 24 with fail
                  refine wp_region_noPanic ?_
                  refine wp_region_held (S := fun v => v = wr.drew) (by kernel_rfl) ?_
                  refine pw24 (w5 := wr) (S := fun v => v = wr.drew) (b16 := b16) (b17 := b17) (g := g4) (f := o4) (n := gy.length) (cc := cy) (k := m) (va := .slice ax gx.length cx) (s := zn) (mo := more) rfl rfl rfl rfl rfl rfl rfl rfl rfl rfl rfl rfl rfl rfl rfl rfl rfl rfl (by kernel_rfl) (by kernel_rfl) (by kernel_rfl) (by kernel_rfl) (by intros; assumption) (by simp) rfl rfl rfl rfl rfl hlm (fun v hv => by rw [hv]; exact HLA.out) (fun v hv => by rw [hv]; exact HLG.out) (fun v hv => by rw [hv]; exact HLS.out) (fun v hv => by rw [hv]; exact HHA.out) HEQ2.out ?_
                  rintro wc rfl
                  refine NoPanic.normal ?_
                  rename_i hKa hKb
                  first | refine hKb _ _ ?_ | refine hKa _ _ ?_
                  simp (config := { maxSteps := 8000000 }) only [Act.put, List.getElem_toArray, List.getElem_cons_zero, List.getElem_cons_succ, List.setIfInBounds_toArray, List.set_cons_succ, List.set_cons_zero]
                  clear hKa hKb HLA HLG HLS HHA HEQ2 HBU lg
                  go_wp2
                  go_roundw
                  case rel => exact ⟨m + 1, by omega, by go_num, HBV⟩
                  case measure => simp [intOf]; omega
                · obtain rfl : m = gy.length := by omega
                  have HBQ : Hid (Below Y.heap.size Y wr) := HBYZ.out.trans (HBU.out.mono HBYZ.out.size)
                  clear HBU
                  go_wp2
                  go_roundw
                  case rel => exact ⟨j + 1, by omega, by go_num, HBQ⟩
                  case measure => simp [intOf]; omega
            · obtain rfl : j = xs.length := by omega
              have HB7 : Hid (Below W.heap.size W wr) := HBY.out.trans (HB.out.mono HBY.out.size)
              have HLV := Lib.hid (lives12_any (HK.out.below HB7.out) (HD.out.below HB7.out))
              go_wp2_with fail
              refine HLV.out.mono ?_
              rintro e w8 ⟨rfl, b8⟩
              have HF := Lib.hid (HB0.out.trans ((HB7.out.trans (b8.mono HB7.out.size)).mono HB0.out.size))
              clear b8 HLV
              go_wp2
              go_ret
              exact ⟨rfl, HF.out⟩
  · have hne : (er != 0) = true := by rw [bne_iff_ne]; exact her
    clear her HC HIA HP2
    have HLV := Lib.hid (lives12_any (HK.out.below HBY.out) (HD.out.below HBY.out))
    go_wp2_with fail
    refine HLV.out.mono ?_
    rintro e w8 ⟨rfl, b8⟩
    have HF := Lib.hid (HB0.out.trans ((HBY.out.trans (b8.mono HBY.out.size)).mono HB0.out.size))
    clear b8 HLV
    go_wp2
    go_ret
    exact ⟨rfl, HF.out⟩
set_option maxHeartbeats 3200000 in
set_option maxRecDepth 100000 in
theorem planWider_walk (d : Nat) (r : R3) (p : RP) (l : List ByteArray) (va : Option Addr) (vc : Nat) (more : ByteArray) (first : Int) (w : World) (hG : KT w ∧ DT w) (hR : RIs w (d + 1) r p) (hl : Ls w (.slice va l.length vc) l.length (l.flatMap strB)) (hsz : ∀ i, i < l.length → (atS l i).size ≤ maxLen) (hll : l.length ≤ 8796093021952) (hms : more.size ≤ maxLen) :
    Calls Tryd.prog 4 #[.agg #[.string r.pr, .slice p.a r.hd.length p.c, .slice p.ba r.bd.length p.bc, .slice va l.length vc, .string more, .int .i64 first]] w fun e w' => e = .returned (.bool true) ∧ Below w.heap.size w w' := by
  have hA0 := belowA (w := w) (.cells #[.string r.pr, .slice p.a r.hd.length p.c, .slice p.ba r.bd.length p.bc, .slice va l.length vc, .string more, .int .i64 first] 61)
  have HB0 := Lib.hid hA0
  have HRL := rl_new w #[.string r.pr, .slice p.a r.hd.length p.c, .slice p.ba r.bd.length p.bc, .slice va l.length vc, .string more, .int .i64 first] 61
  have k1 : (loadVar 25 ⟨w.heap.size, 0, none⟩).run Tryd.prog (w.alloc (.cells #[.string r.pr, .slice p.a r.hd.length p.c, .slice p.ba r.bd.length p.bc, .slice va l.length vc, .string more, .int .i64 first] 61)) = .ok (.agg #[.string r.pr, .slice p.a r.hd.length p.c, .slice p.ba r.bd.length p.bc]) _ := load_ruP (cs := [.string r.pr, .slice p.a r.hd.length p.c, .slice p.ba r.bd.length p.bc]) (fun j v hv => by
    have hj : j < 3 := (List.getElem?_eq_some_iff.1 hv).1
    have hj6 : j = 0 ∨ j = 1 ∨ j = 2 := by omega
    rcases hj6 with rfl | rfl | rfl <;> exact RL.at HRL hv) rfl
  have k2 := load_ssP (RL.at HRL (j := 3) rfl)
  have k3 := load_strP (RL.at HRL (j := 4) rfl)
  have k4 := load_intP (RL.at HRL (j := 5) rfl)
  have HW := Lib.hid (wider_any d r p first _ ⟨hG.1.below hA0, hG.2.below hA0⟩ (hR.below hA0) (hl.below hA0) hsz hll hms)
  unfold R3.val at HW
  clear hA0 hG hR hl hsz HRL
  go_enter Tryd.func4, Tryd.ntmps4
  go_wp2_with fail
  refine HW.out.mono ?_
  rintro e w2 ⟨rfl, b2⟩
  have HF := Lib.hid (HB0.out.trans (b2.mono HB0.out.size))
  clear b2 k1 k2 k3 k4 HW
  go_wp2
  go_ret
  exact ⟨rfl, HF.out⟩
end Go.Proofs.YteabclfhmapabaaDoor
