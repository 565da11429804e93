import Derived.Test.YteabclfhmapabaaDoorPeV
import Derived.Test.YteabclfhmapabaaDoorPlLv
namespace Go.Proofs.YteabclfhmapabaaDoor
open Go.RowKit Go.Maps Go.Shelf
set_option linter.unusedVariables false
set_option linter.unusedSimpArgs false
attribute [local go_sem ↓] Go.wp_at_zero Go.wp_at_succ
attribute [-go_sem] loadVar
/-- the number that an atom's must be above -/
def LastOk (l : List XL) (xs : List SX) (first : Int) (n : Nat) (la : Int) : Prop := la = -1 ∨ ∃ j, j < n ∧ (0 < j ∨ first = -1) ∧ (atL l (atZ xs j).s.i.toNat).x.k = 1 ∧ la = (atZ xs j).s.i
theorem LastOk.mono {l : List XL} {xs : List SX} {first : Int} {n : Nat} {la : Int} (h : LastOk l xs first n la) : LastOk l xs first (n + 1) la := by
  rcases h with h | ⟨j, h1, h2, h3, h4⟩
  · exact .inl h
  · exact .inr ⟨j, by omega, h2, h3, h4⟩
theorem LastOk.not {d : Nat} {l : List XL} {ss : List ByteArray} {xs : List SX} {first : Int} {n : Nat} {la : Int} (h : LastOk l xs first n la) (hE : EgM d l ss (fun i => 0 < i ∨ first = -1) xs) (hn : n < xs.length) (hk : (atL l (atZ xs n).s.i.toNat).x.k = 1) : ¬ (atZ xs n).s.i ≤ la := by
  rcases h with h | ⟨j, h1, h2, h3, rfl⟩
  · obtain ⟨k, e, _⟩ := hE.rng n hn
    omega
  · have := hE.pos j n h1 hn h2 h3 hk
    omega
theorem Lb_kd {u u' : World} {d : Nat} {l : List XL} {g f : Nat} (hr : ∀ i, i < l.length → u.rangeAt g (f + i * 16) (atL l i).cells) (hg : g < u.heap.size) (b : Below u.heap.size u u') {k : Nat} (hk : k < l.length) : (loadVar 41 ⟨g, f + k * 16, none⟩).run Tryd.prog u' = .ok (.int .i8 (atL l k).x.k) u' := by
  have lk := load_kindK ((range_below (hr k hk) b hg) 0 _ rfl)
  rw [Nat.add_zero] at lk
  exact lk
set_option maxHeartbeats 25600000 in
set_option maxRecDepth 100000 in
theorem planEager_walk (d : Nat) (r : R3) (p : RP) (first : Int) (w : World) (hG : KT w ∧ DT w) (hR : RIs w (d + 1) r p) {v : Value} {l : List ByteArray} (hl : Ls w v l.length (l.flatMap strB)) (hsz : ∀ i, i < l.length → (atS l i).size ≤ maxLen) (hfw : (Lit.int .i64 first).wf = true) :
    Calls Tryd.prog 3 #[r.val p, v, .int .i64 first] w fun e w' => e = .returned (.bool true) ∧ Below w.heap.size w w' := by
  obtain ⟨hKT, hDT⟩ := hG
  obtain ⟨pa, pc, pba, pbc⟩ := p
  unfold R3.val
  simp only at hR ⊢
  have hA0 := belowA (w := w) (.cells #[.string r.pr, .slice pa r.hd.length pc, .slice pba r.bd.length pbc] 25)
  have HB0 := Lib.hid hA0
  have HRL := Lib.hid (rl_new w #[.string r.pr, .slice pa r.hd.length pc, .slice pba r.bd.length pbc] 25)
  have HR := Lib.hid (hR.below hA0)
  have HK := Lib.hid (hKT.below hA0)
  have HD := Lib.hid (hDT.below hA0)
  have HL := Lib.hid (hl.below hA0)
  have HSZ := Lib.hid hsz
  obtain ⟨la, lc, rfl, hlc1, hlc2, _⟩ := ls_str hl
  unfold maxLen at hlc2
  have hld := load_ruB HRL.out
  have HBY := Lib.hid (beyondRule_any (d + 1) r ⟨pa, pc, pba, pbc⟩ _ HR.out)
  unfold R3.val at HBY
  simp only at HBY
  clear hKT hDT hR hl hsz hA0 hfw
  go_enter Tryd.func3, Tryd.ntmps3
  go_wp2_with fail
  refine HBY.out.mono ?_
  clear hld HBY
  obtain ⟨W, hW⟩ : ∃ W, W = w.alloc (.cells #[.string r.pr, .slice pa r.hd.length pc, .slice pba r.bd.length pbc] 25) := ⟨_, rfl⟩
  rw [← hW] at HR HB0 HRL HK HD HL ⊢
  clear hW
  rintro e w1 ⟨b, rfl, b1, hsm⟩
  cases b
  case true =>
    have HF := Lib.hid (HB0.out.trans (b1.mono HB0.out.size))
    clear b1 hsm
    go_wp2
    go_ret
    exact ⟨rfl, HF.out⟩
  case false =>
  have HSM := Lib.hid (hsm rfl)
  have l1 := load_ruB (RL.below HRL.out b1)
  have HB1 := Lib.hid b1
  have HM1 := Lib.hid (makeE_any d r ⟨pa, pc, pba, pbc⟩ w1 (HK.out.below b1) (HD.out.below b1) (HR.out.below b1) HSM.out HSM.out.terms (HL.out.below b1) HSZ.out first)
  unfold R3.val at HM1
  simp only at HM1
  clear b1 hsm
  go_wp2_with fail
  refine HM1.out.mono ?_
  rintro e w2 ⟨b2, pr1, ra1, rn1, rc1, ba1, bn1, bc1, sa1, sn1, sc1, er, rfl, hC⟩
  have HB2 : Hid (Below W.heap.size W w2) := HB1.out.trans (b2.mono HB1.out.size)
  have HC := Lib.hid hC
  clear hC b2 HM1 l1 HB1
  have hAP := belowA (w := w2) (.cells #[.string pr1, .slice ra1 rn1 rc1, .slice ba1 bn1 bc1, .slice sa1 sn1 sc1] 30)
  have HAP := Lib.hid hAP
  have HPL := Lib.hid (rl_new w2 #[.string pr1, .slice ra1 rn1 rc1, .slice ba1 bn1 bc1, .slice sa1 sn1 sc1] 30)
  have HBP : Hid (Below W.heap.size W (w2.alloc (.cells #[.string pr1, .slice ra1 rn1 rc1, .slice ba1 bn1 bc1, .slice sa1 sn1 sc1] 30))) := HB2.out.trans (hAP.mono HB2.out.size)
  clear hAP HB2
  go_upto_region 4 with fail
  generalize hX : w2.alloc (.cells #[.string pr1, .slice ra1 rn1 rc1, .slice ba1 bn1 bc1, .slice sa1 sn1 sc1] 30) = X at HAP HPL HBP ⊢
  clear hX
  have hC := HC.out
  clear HC
  unfold MkE at hC
  have HLX := Lib.hid (lives12_any (HK.out.below HBP.out) (HD.out.below HBP.out))
  rcases hC with ⟨her, rfl⟩ | ⟨rfl, hfp, y, q, xs, rfl, rfl, rfl, rfl, rfl, rfl, rfl, rfl, hY, hE⟩
  · have hne : (er != 0) = true := by rw [bne_iff_ne]; omega
    have ls := load_stsP (RL.at HPL.out (j := 3) rfl)
    clear her HAP
    go_wp2_with fail
    refine HLX.out.mono ?_
    rintro e w3 ⟨rfl, b3⟩
    have HF := Lib.hid (HB0.out.trans ((HBP.out.trans (b3.mono HBP.out.size)).mono HB0.out.size))
    clear b3 HLX
    go_wp2
    go_ret
    exact ⟨rfl, HF.out⟩
  · obtain ⟨qa, qc, qba, qbc⟩ := q
    simp only at HPL HAP hY ⊢
    have HY := Lib.hid (hY.below HAP.out)
    have HE := Lib.hid hE
    have HFP := Lib.hid hfp
    have hx16 : xs.length ≤ 16 := by rw [hY.len]; exact bodyN_y hY.rb
    obtain ⟨sa', sc', hac, hz1c, hz2c, hat⟩ := HY.out.lz.form
    injection hac with e1 e2 e3
    subst e1 e3
    have HAT := Lib.hid hat
    obtain ⟨a2, c2, hac2, hd1, hd2, hat2⟩ := (HR.out.below HBP.out).bd.form
    injection hac2 with e4 e5 e6
    subst e4 e6
    have HAL := Lib.hid hat2
    unfold maxLen at hz2c hd2
    clear hY hE hfp HAP HLX hat hat2 e2 e5
    go_wp2
    go_loopw [9, 10, 11, 12, 13] (fun lv i _ _ _ wr => ∃ (n : Nat) (lz : Int), n ≤ xs.length ∧ i = .int .i64 n ∧ lv = .int .i64 lz ∧ Hid (LastOk r.bd xs first n lz) ∧ Hid (Below X.heap.size X wr)) (fun _ i _ _ _ _ => xs.length - (intOf i).toNat)
    case atStart => exact ⟨0, -1, Nat.zero_le _, rfl, rfl, .inl rfl, Below.refl _ _⟩
    case round =>
      obtain ⟨n, lz, hn, rfl, rfl, HLA, HB⟩ := hrel
      have ls := load_stsP (RL.at (RL.below HPL.out HB.out) (j := 3) rfl)
      by_cases hlt : n < xs.length
      · have hlt' : (n : Int) < (xs.length : Int) := by omega
        have hn0 : (0 : Int) ≤ (n : Int) := by omega
        obtain ⟨g2, o2, rfl, hg2, hr2⟩ := HAT.out (by omega)
        obtain ⟨k1, hk1, hkl1⟩ := HE.out.rng n hlt
        obtain ⟨g3, o3, rfl, hg3, hr3⟩ := HAL.out (by omega)
        have HG2 := Lib.hid hg2
        have HG3 := Lib.hid hg3
        have HR2 := Lib.hid hr2
        have HR3 := Lib.hid hr3
        have HLS : Hid (∀ u, Below X.heap.size X u → (loadVar 28 ⟨w2.heap.size, 3, none⟩).run Tryd.prog u = .ok (.slice (some ⟨g2, o2, none⟩) xs.length sc1) u) := fun u hu => load_stsP (RL.at (RL.below HPL.out hu) (j := 3) rfl)
        have HLI : Hid (∀ u, Below X.heap.size X u → ∀ m, m < xs.length → (loadVar 3 ⟨g2, o2 + m * 4 + 1, none⟩).run Tryd.prog u = .ok (.int .i64 (atZ xs m).s.i) u) := fun u hu m hm => load_intP ((range_below (HR2.out m hm) hu HG2.out) 1 _ rfl)
        have HLB : Hid (∀ u, Below X.heap.size X u → (loadVar 23 ⟨w.heap.size, 2, none⟩).run Tryd.prog u = .ok (.slice (some ⟨g3, o3, none⟩) r.bd.length pbc) u) := fun u hu => load_litsY (RL.at (RL.below HRL.out (HBP.out.trans (hu.mono HBP.out.size))) (j := 2) rfl)
        have HLK : Hid (∀ u, Below X.heap.size X u → ∀ k, k < r.bd.length → (loadVar 41 ⟨g3, o3 + k * 16, none⟩).run Tryd.prog u = .ok (.int .i8 (atL r.bd k).x.k) u) := fun u hu k hk => Lb_kd (d := d) HR3.out HG3.out hu hk
        have HL1 : Hid (∀ u, Below X.heap.size X u → (loadVar 3 ⟨g2, o2 + n * 4 + 1, none⟩).run Tryd.prog u = .ok (.int .i64 (k1 : Int)) u) := fun u hu => by rw [HLI.out u hu n hlt, hk1]
        have hLN : (atL r.bd k1).x.k = 1 → ¬ (k1 : Int) ≤ lz := fun h => by
          have := HLA.out.not HE.out hlt (by rw [hk1, Int.toNat_natCast]; exact h)
          rw [hk1] at this
          exact this
        have hLO : (0 < n ∨ first = -1) → (atL r.bd k1).x.k = 1 → LastOk r.bd xs first (n + 1) (k1 : Int) := fun h0 h => .inr ⟨n, by omega, h0, by rw [hk1, Int.toNat_natCast]; exact h, hk1.symm⟩
        have HLN := Lib.hid hLN
        have HLO := Lib.hid hLO
        have HKL := Lib.hid hkl1
        have HK1 := Lib.hid hk1
        clear hg2 hg3 hr2 hr3 hLN hLO hk1 ls
        obtain ⟨kd, hkd⟩ : ∃ kd, kd = (atL r.bd k1).x.k := ⟨_, rfl⟩
        obtain ⟨pb, hpb⟩ : ∃ pb : Bool, pb = (kd == 1) := ⟨_, rfl⟩
        have HPB : Hid ((pb = true → (atL r.bd k1).x.k = 1)) := fun h => by
          rw [hpb, beq_iff_eq] at h
          rw [← hkd, h]
        have HBD := Lib.hid HB.out.drew
        have ls := HLS.out _ HB.out
        go_upto_region 10 with fail
        refine wp_region_noPanic ?_
        refine wp_region_held (S := fun v => v = wr.drew) (by kernel_rfl) ?_
        refine pev10 (w5 := wr) (S := fun v => v = wr.drew) (b3 := w.heap.size) (b7 := w2.heap.size) (g2 := g2) (f2 := o2) (n := xs.length) (c2 := sc1) (j := n) (k := k1) (g3 := g3) (f3 := o3) (nb := r.bd.length) (c3 := pbc) rfl rfl rfl rfl rfl rfl rfl rfl rfl rfl rfl rfl rfl rfl rfl rfl rfl rfl rfl (by kernel_rfl) (by kernel_rfl) (by kernel_rfl) (by intros; assumption) (by simp) rfl rfl rfl rfl hlt (fun v hv => by rw [hv]; exact HLS.out _ HBD.out) (fun v hv => by rw [hv]; exact HL1.out _ HBD.out) (fun v hv => by rw [hv]; exact HLB.out _ HBD.out) (lssK_run k1) (geqK_run hkl1) ?_
        rintro wc rfl
        refine NoPanic.normal ?_
        rename_i hKa hKb
        first | refine hKb _ _ ?_ | refine hKa _ _ ?_
        simp (config := { maxSteps := 8000000 }) only [Act.put, List.getElem_toArray, List.getElem_cons_zero, List.getElem_cons_succ, List.setIfInBounds_toArray, List.set_cons_succ, List.set_cons_zero]
        clear hKa hKb ls HB
        generalize wr.drew = V1 at HBD ⊢
        have HBE := Lib.hid HBD.out.drew
        go_upto_region 12 with fail
        refine wp_region_noPanic ?_
        refine wp_region_held (S := fun v => v = V1.drew) (by kernel_rfl) ?_
        refine pev12 (w5 := V1) (S := fun v => v = V1.drew) (b3 := w.heap.size) (b7 := w2.heap.size) (g2 := g2) (f2 := o2) (n := xs.length) (c2 := sc1) (j := n) (k := k1) (g3 := g3) (f3 := o3) (nb := r.bd.length) (c3 := pbc) (kd := kd) (pb := pb) rfl rfl rfl rfl rfl rfl rfl rfl rfl rfl rfl rfl rfl (by kernel_rfl) (by kernel_rfl) (by kernel_rfl) (by intros; assumption) (by simp) rfl rfl rfl rfl hlt hkl1 (fun v hv => by rw [hv]; exact HLS.out _ HBE.out) (fun v hv => by rw [hv]; exact HL1.out _ HBE.out) (fun v hv => by rw [hv]; exact HLB.out _ HBE.out) (fun v hv => by rw [hv, hkd]; exact HLK.out _ HBE.out k1 hkl1) (fun u => by rw [hpb]; exact eqlKd_run kd u) ?_
        rintro wc rfl
        refine NoPanic.normal ?_
        rename_i hKa hKb
        first | refine hKb _ _ ?_ | refine hKa _ _ ?_
        simp (config := { maxSteps := 8000000 }) only [Act.put, List.getElem_toArray, List.getElem_cons_zero, List.getElem_cons_succ, List.setIfInBounds_toArray, List.set_cons_succ, List.set_cons_zero]
        clear hKa hKb HBD hpb hkd
        generalize V1.drew = V at HBE ⊢
        have ls := HLS.out _ HBE.out
        have li := HL1.out _ HBE.out
        have HLM := Lib.hid HLA.out.mono
        by_cases hx0 : n = 0 ∧ first ≠ -1
        · obtain ⟨rfl, hf1⟩ := hx0
          have hf0 : (0 : Int) ≤ first := by
            rcases HFP.out with h | h
            · exact absurd h hf1
            · exact h
          clear hf1 li
          go_wp2
          go_roundw
          case rel => exact ⟨0 + 1, lz, by omega, by go_num, rfl, HLM.out, HBE⟩
          case measure => simp [intOf]; omega
        · have HX0 : Hid (0 < n ∨ first = -1) := by
            by_cases h0 : 0 < n
            · exact .inl h0
            · right
              apply Classical.byContradiction
              intro hh
              exact hx0 ⟨by omega, hh⟩
          have HNO : Hid (∀ m, n < m → m < xs.length → ∀ k2 : Nat, (atZ xs m).s.i = (k2 : Int) → (atL r.bd k2).x.k ≠ 1 → (pb = true ∨ (k2 : Int) < (k1 : Int)) → goR (d + 1) r.bd l (2 ^ r.bd.length - 1) ((mvL xs m n xs.length).map SX.s) = none) := fun m hm hml k2 e2 hk2 hc => by
            obtain ⟨ss', left', h1, h2⟩ := HE.out.no n m hm hml HX0.out (by rw [e2, Int.toNat_natCast]; exact hk2) (by
              rcases hc with hc | hc
              · left
                rw [HK1.out, Int.toNat_natCast]
                exact HPB.out hc
              · right
                rw [e2, HK1.out]
                exact hc)
            exact moved_no hm hml h1 h2
          by_cases h0 : 0 < n
          · have hn1 : ((n : Int) == 0) = false := by rw [beq_eq_false_iff_ne]; omega
            clear hx0 h0
            cases pb
            case true =>
              have hle := HLN.out (HPB.out rfl)
              have HLM2 := Lib.hid (HLO.out HX0.out (HPB.out rfl))
              clear HLN HLO HLM HPB
              go_wp2
              go_loopw [12, 13] (fun i _ u => ∃ m : Nat, n + 1 ≤ m ∧ m ≤ xs.length ∧ i = .int .i64 m ∧ Hid (Below X.heap.size X u)) (fun i _ _ => xs.length - (intOf i).toNat)
              case atStart => exact ⟨n + 1, Nat.le_refl _, by omega, by go_num, HBE⟩
              case round =>
                clear ls li
                obtain ⟨m, hm1, hm2, rfl, HBU⟩ := hrel
                have ls := HLS.out _ HBU.out
                by_cases hlm : m < xs.length
                · have hlm' : (m : Int) < (xs.length : Int) := by omega
                  have hm0 : (0 : Int) ≤ (m : Int) := by omega
                  obtain ⟨k2, hk2, hkl2⟩ := HE.out.rng m hlm
                  have li := HLI.out _ HBU.out m hlm
                  rw [hk2] at li
                  have lb := HLB.out _ HBU.out
                  have li1 := HL1.out _ HBU.out
                  have lk := HLK.out _ HBU.out k2 hkl2
                  have HN2 := Lib.hid (HNO.out m (by omega) hlm k2 hk2)
                  have g1 : ¬ (k2 : Int) < 0 := by omega
                  have g2' : ¬ (r.bd.length : Int) ≤ (k2 : Int) := by omega
                  have g3' : (k2 : Int) < (r.bd.length : Int) := by omega
                  have g4' : (0 : Int) ≤ (k2 : Int) := by omega
                  clear hk2
                  generalize (atL r.bd k2).x.k = kd2 at lk HN2
                  by_cases hk : kd2 = 1
                  · subst hk
                    clear HN2
                    go_wp2
                    go_roundw
                    case rel => exact ⟨m + 1, by omega, by omega, by go_num, HBU⟩
                    case measure => simp [intOf]; omega
                  · have x1 : (kd2 != 1) = true := by rw [bne_iff_ne]; exact hk
                    have x2 : (kd2 == 1) = false := by rw [beq_eq_false_iff_ne]; exact hk
                    have HGN := Lib.hid (HN2.out hk (.inl (by first | rfl | trivial)))
                    have lpl := load_PlP (RL.below HPL.out HBU.out) rfl
                    have HMV := Lib.hid (moved_any (pr := y.pr) (ra := qa) (rn := y.hd.length) (rc := qc) (ba := qba) (bn := y.bd.length) (bc := qbc) ((HY.out.below HBU.out).lz) hx16 hlm (tq := n) (by omega))
                    clear hk HN2
                    go_wp2_with fail
                    refine HMV.out.mono ?_
                    rintro e u1 ⟨b1, ma, mc, rfl, hlz⟩
                    have HBV : Hid (Below X.heap.size X u1) := HBU.out.trans (b1.mono HBU.out.size)
                    have HBW : Hid (Below W.heap.size W u1) := HBP.out.trans (HBV.out.mono HBP.out.size)
                    have HRT := Lib.hid (right_mv (HY.out.below HBV.out) (HK.out.below HBW.out) HSM.out HSM.out.terms (HL.out.below HBW.out) HSZ.out hlz HGN.out)
                    simp only at HRT
                    obtain ⟨M, hM⟩ : ∃ M, M = mvL xs m n xs.length := ⟨_, rfl⟩
                    rw [← hM] at HRT ⊢
                    clear hM hlz HMV b1 lpl HGN
                    go_wp2_with fail
                    refine HRT.out.mono ?_
                    rintro e u2 ⟨rfl, b2⟩
                    have HBZ : Hid (Below X.heap.size X u2) := HBV.out.trans (b2.mono HBV.out.size)
                    clear b2 HRT HBV HBW ls li li1 lb lk
                    go_wp2
                    go_roundw
                    case rel => exact ⟨m + 1, by omega, by omega, by go_num, HBZ⟩
                    case measure => simp [intOf]; omega
                · obtain rfl : m = xs.length := by omega
                  go_wp2
                  go_roundw
                  case rel => exact ⟨n + 1, (k1 : Int), by omega, by go_num, rfl, HLM2, HBU⟩
                  case measure => simp [intOf]; omega
            case false =>
              have HLM2 := HLM
              clear HLN HLO HLM HPB
              go_wp2
              go_loopw [12, 13] (fun i _ u => ∃ m : Nat, n + 1 ≤ m ∧ m ≤ xs.length ∧ i = .int .i64 m ∧ Hid (Below X.heap.size X u)) (fun i _ _ => xs.length - (intOf i).toNat)
              case atStart => exact ⟨n + 1, Nat.le_refl _, by omega, by go_num, HBE⟩
              case round =>
                clear ls li
                obtain ⟨m, hm1, hm2, rfl, HBU⟩ := hrel
                have ls := HLS.out _ HBU.out
                by_cases hlm : m < xs.length
                · have hlm' : (m : Int) < (xs.length : Int) := by omega
                  have hm0 : (0 : Int) ≤ (m : Int) := by omega
                  obtain ⟨k2, hk2, hkl2⟩ := HE.out.rng m hlm
                  have li := HLI.out _ HBU.out m hlm
                  rw [hk2] at li
                  have lb := HLB.out _ HBU.out
                  have li1 := HL1.out _ HBU.out
                  have lk := HLK.out _ HBU.out k2 hkl2
                  have HN2 := Lib.hid (HNO.out m (by omega) hlm k2 hk2)
                  have g1 : ¬ (k2 : Int) < 0 := by omega
                  have g2' : ¬ (r.bd.length : Int) ≤ (k2 : Int) := by omega
                  have g3' : (k2 : Int) < (r.bd.length : Int) := by omega
                  have g4' : (0 : Int) ≤ (k2 : Int) := by omega
                  clear hk2
                  generalize (atL r.bd k2).x.k = kd2 at lk HN2
                  by_cases hk : kd2 = 1
                  · subst hk
                    clear HN2
                    go_wp2
                    go_roundw
                    case rel => exact ⟨m + 1, by omega, by omega, by go_num, HBU⟩
                    case measure => simp [intOf]; omega
                  · have x1 : (kd2 != 1) = true := by rw [bne_iff_ne]; exact hk
                    have x2 : (kd2 == 1) = false := by rw [beq_eq_false_iff_ne]; exact hk
                    by_cases hkk : (k2 : Int) < (k1 : Int)
                    · skip
                      have HGN := Lib.hid (HN2.out hk (.inr hkk))
                      have lpl := load_PlP (RL.below HPL.out HBU.out) rfl
                      have HMV := Lib.hid (moved_any (pr := y.pr) (ra := qa) (rn := y.hd.length) (rc := qc) (ba := qba) (bn := y.bd.length) (bc := qbc) ((HY.out.below HBU.out).lz) hx16 hlm (tq := n) (by omega))
                      clear hk HN2
                      go_wp2_with fail
                      refine HMV.out.mono ?_
                      rintro e u1 ⟨b1, ma, mc, rfl, hlz⟩
                      have HBV : Hid (Below X.heap.size X u1) := HBU.out.trans (b1.mono HBU.out.size)
                      have HBW : Hid (Below W.heap.size W u1) := HBP.out.trans (HBV.out.mono HBP.out.size)
                      have HRT := Lib.hid (right_mv (HY.out.below HBV.out) (HK.out.below HBW.out) HSM.out HSM.out.terms (HL.out.below HBW.out) HSZ.out hlz HGN.out)
                      simp only at HRT
                      obtain ⟨M, hM⟩ : ∃ M, M = mvL xs m n xs.length := ⟨_, rfl⟩
                      rw [← hM] at HRT ⊢
                      clear hM hlz HMV b1 lpl HGN
                      go_wp2_with fail
                      refine HRT.out.mono ?_
                      rintro e u2 ⟨rfl, b2⟩
                      have HBZ : Hid (Below X.heap.size X u2) := HBV.out.trans (b2.mono HBV.out.size)
                      clear b2 HRT HBV HBW ls li li1 lb lk
                      go_wp2
                      go_roundw
                      case rel => exact ⟨m + 1, by omega, by omega, by go_num, HBZ⟩
                      case measure => simp [intOf]; omega
                    · clear HN2
                      go_wp2
                      go_roundw
                      case rel => exact ⟨m + 1, by omega, by omega, by go_num, HBU⟩
                      case measure => simp [intOf]; omega
                · obtain rfl : m = xs.length := by omega
                  go_wp2
                  go_roundw
                  case rel => exact ⟨n + 1, lz, by omega, by go_num, rfl, HLM2, HBU⟩
                  case measure => simp [intOf]; omega
          · have hn1 : ((n : Int) == 0) = true := by rw [beq_iff_eq]; omega
            obtain rfl : first = -1 := by
              rcases HX0.out with h | h
              · omega
              · exact h
            clear hx0 h0
            cases pb
            case true =>
              have hle := HLN.out (HPB.out rfl)
              have HLM2 := Lib.hid (HLO.out HX0.out (HPB.out rfl))
              clear HLN HLO HLM HPB
              go_wp2
              go_loopw [12, 13] (fun i _ u => ∃ m : Nat, n + 1 ≤ m ∧ m ≤ xs.length ∧ i = .int .i64 m ∧ Hid (Below X.heap.size X u)) (fun i _ _ => xs.length - (intOf i).toNat)
              case atStart => exact ⟨n + 1, Nat.le_refl _, by omega, by go_num, HBE⟩
              case round =>
                clear ls li
                obtain ⟨m, hm1, hm2, rfl, HBU⟩ := hrel
                have ls := HLS.out _ HBU.out
                by_cases hlm : m < xs.length
                · have hlm' : (m : Int) < (xs.length : Int) := by omega
                  have hm0 : (0 : Int) ≤ (m : Int) := by omega
                  obtain ⟨k2, hk2, hkl2⟩ := HE.out.rng m hlm
                  have li := HLI.out _ HBU.out m hlm
                  rw [hk2] at li
                  have lb := HLB.out _ HBU.out
                  have li1 := HL1.out _ HBU.out
                  have lk := HLK.out _ HBU.out k2 hkl2
                  have HN2 := Lib.hid (HNO.out m (by omega) hlm k2 hk2)
                  have g1 : ¬ (k2 : Int) < 0 := by omega
                  have g2' : ¬ (r.bd.length : Int) ≤ (k2 : Int) := by omega
                  have g3' : (k2 : Int) < (r.bd.length : Int) := by omega
                  have g4' : (0 : Int) ≤ (k2 : Int) := by omega
                  clear hk2
                  generalize (atL r.bd k2).x.k = kd2 at lk HN2
                  by_cases hk : kd2 = 1
                  · subst hk
                    clear HN2
                    go_wp2
                    go_roundw
                    case rel => exact ⟨m + 1, by omega, by omega, by go_num, HBU⟩
                    case measure => simp [intOf]; omega
                  · have x1 : (kd2 != 1) = true := by rw [bne_iff_ne]; exact hk
                    have x2 : (kd2 == 1) = false := by rw [beq_eq_false_iff_ne]; exact hk
                    have HGN := Lib.hid (HN2.out hk (.inl (by first | rfl | trivial)))
                    have lpl := load_PlP (RL.below HPL.out HBU.out) rfl
                    have HMV := Lib.hid (moved_any (pr := y.pr) (ra := qa) (rn := y.hd.length) (rc := qc) (ba := qba) (bn := y.bd.length) (bc := qbc) ((HY.out.below HBU.out).lz) hx16 hlm (tq := n) (by omega))
                    clear hk HN2
                    go_wp2_with fail
                    refine HMV.out.mono ?_
                    rintro e u1 ⟨b1, ma, mc, rfl, hlz⟩
                    have HBV : Hid (Below X.heap.size X u1) := HBU.out.trans (b1.mono HBU.out.size)
                    have HBW : Hid (Below W.heap.size W u1) := HBP.out.trans (HBV.out.mono HBP.out.size)
                    have HRT := Lib.hid (right_mv (HY.out.below HBV.out) (HK.out.below HBW.out) HSM.out HSM.out.terms (HL.out.below HBW.out) HSZ.out hlz HGN.out)
                    simp only at HRT
                    obtain ⟨M, hM⟩ : ∃ M, M = mvL xs m n xs.length := ⟨_, rfl⟩
                    rw [← hM] at HRT ⊢
                    clear hM hlz HMV b1 lpl HGN
                    go_wp2_with fail
                    refine HRT.out.mono ?_
                    rintro e u2 ⟨rfl, b2⟩
                    have HBZ : Hid (Below X.heap.size X u2) := HBV.out.trans (b2.mono HBV.out.size)
                    clear b2 HRT HBV HBW ls li li1 lb lk
                    go_wp2
                    go_roundw
                    case rel => exact ⟨m + 1, by omega, by omega, by go_num, HBZ⟩
                    case measure => simp [intOf]; omega
                · obtain rfl : m = xs.length := by omega
                  go_wp2
                  go_roundw
                  case rel => exact ⟨n + 1, (k1 : Int), by omega, by go_num, rfl, HLM2, HBU⟩
                  case measure => simp [intOf]; omega
            case false =>
              have HLM2 := HLM
              clear HLN HLO HLM HPB
              go_wp2
              go_loopw [12, 13] (fun i _ u => ∃ m : Nat, n + 1 ≤ m ∧ m ≤ xs.length ∧ i = .int .i64 m ∧ Hid (Below X.heap.size X u)) (fun i _ _ => xs.length - (intOf i).toNat)
              case atStart => exact ⟨n + 1, Nat.le_refl _, by omega, by go_num, HBE⟩
              case round =>
                clear ls li
                obtain ⟨m, hm1, hm2, rfl, HBU⟩ := hrel
                have ls := HLS.out _ HBU.out
                by_cases hlm : m < xs.length
                · have hlm' : (m : Int) < (xs.length : Int) := by omega
                  have hm0 : (0 : Int) ≤ (m : Int) := by omega
                  obtain ⟨k2, hk2, hkl2⟩ := HE.out.rng m hlm
                  have li := HLI.out _ HBU.out m hlm
                  rw [hk2] at li
                  have lb := HLB.out _ HBU.out
                  have li1 := HL1.out _ HBU.out
                  have lk := HLK.out _ HBU.out k2 hkl2
                  have HN2 := Lib.hid (HNO.out m (by omega) hlm k2 hk2)
                  have g1 : ¬ (k2 : Int) < 0 := by omega
                  have g2' : ¬ (r.bd.length : Int) ≤ (k2 : Int) := by omega
                  have g3' : (k2 : Int) < (r.bd.length : Int) := by omega
                  have g4' : (0 : Int) ≤ (k2 : Int) := by omega
                  clear hk2
                  generalize (atL r.bd k2).x.k = kd2 at lk HN2
                  by_cases hk : kd2 = 1
                  · subst hk
                    clear HN2
                    go_wp2
                    go_roundw
                    case rel => exact ⟨m + 1, by omega, by omega, by go_num, HBU⟩
                    case measure => simp [intOf]; omega
                  · have x1 : (kd2 != 1) = true := by rw [bne_iff_ne]; exact hk
                    have x2 : (kd2 == 1) = false := by rw [beq_eq_false_iff_ne]; exact hk
                    by_cases hkk : (k2 : Int) < (k1 : Int)
                    · skip
                      have HGN := Lib.hid (HN2.out hk (.inr hkk))
                      have lpl := load_PlP (RL.below HPL.out HBU.out) rfl
                      have HMV := Lib.hid (moved_any (pr := y.pr) (ra := qa) (rn := y.hd.length) (rc := qc) (ba := qba) (bn := y.bd.length) (bc := qbc) ((HY.out.below HBU.out).lz) hx16 hlm (tq := n) (by omega))
                      clear hk HN2
                      go_wp2_with fail
                      refine HMV.out.mono ?_
                      rintro e u1 ⟨b1, ma, mc, rfl, hlz⟩
                      have HBV : Hid (Below X.heap.size X u1) := HBU.out.trans (b1.mono HBU.out.size)
                      have HBW : Hid (Below W.heap.size W u1) := HBP.out.trans (HBV.out.mono HBP.out.size)
                      have HRT := Lib.hid (right_mv (HY.out.below HBV.out) (HK.out.below HBW.out) HSM.out HSM.out.terms (HL.out.below HBW.out) HSZ.out hlz HGN.out)
                      simp only at HRT
                      obtain ⟨M, hM⟩ : ∃ M, M = mvL xs m n xs.length := ⟨_, rfl⟩
                      rw [← hM] at HRT ⊢
                      clear hM hlz HMV b1 lpl HGN
                      go_wp2_with fail
                      refine HRT.out.mono ?_
                      rintro e u2 ⟨rfl, b2⟩
                      have HBZ : Hid (Below X.heap.size X u2) := HBV.out.trans (b2.mono HBV.out.size)
                      clear b2 HRT HBV HBW ls li li1 lb lk
                      go_wp2
                      go_roundw
                      case rel => exact ⟨m + 1, by omega, by omega, by go_num, HBZ⟩
                      case measure => simp [intOf]; omega
                    · clear HN2
                      go_wp2
                      go_roundw
                      case rel => exact ⟨m + 1, by omega, by omega, by go_num, HBU⟩
                      case measure => simp [intOf]; omega
                · obtain rfl : m = xs.length := by omega
                  go_wp2
                  go_roundw
                  case rel => exact ⟨n + 1, lz, by omega, by go_num, rfl, HLM2, HBU⟩
                  case measure => simp [intOf]; omega
      · obtain rfl : n = xs.length := by omega
        have HB7 : Hid (Below W.heap.size W wr) := HBP.out.trans (HB.out.mono HBP.out.size)
        have HLV := Lib.hid (lives12_any (HK.out.below HB7.out) (HD.out.below HB7.out))
        go_wp2_with fail
        refine HLV.out.mono ?_
        rintro e w8 ⟨rfl, b8⟩
        have HF := Lib.hid (HB0.out.trans ((HB7.out.trans (b8.mono HB7.out.size)).mono HB0.out.size))
        clear b8 HLV
        go_wp2
        go_ret
        exact ⟨rfl, HF.out⟩
end Go.Proofs.YteabclfhmapabaaDoor
