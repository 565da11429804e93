import Derived.Test.YtgfnijhhhgjabaaGreatDoorW3
import Derived.Test.YtgfnijhhhgjabaaGreatDoorG37
section
namespace Go.Proofs.YtgfnijhhhgjabaaGreatDoor.EV
open Go.RowKit Go.Maps
set_option linter.unusedVariables false
set_option linter.unusedSimpArgs false
attribute [local go_sem ↓] Go.wp_at_zero Go.wp_at_succ
attribute [-go_sem] loadVar

/-- a rule's variable under an assignment that is made -/
theorem way_name {d : Nat} {r : R3} {p : RP} {u : World} {tl : List B} {fs : List ByteArray} (hR : ruE (d + 1) r fs = 0) (hI : RIs u (d + 1) r p) (hF : Lim (eqL (d + 1) r.bd) (atN r.bd) fs) (hE : EqA (d + 1) r.bd tl) {n : ByteArray} (hn : n ∈ vsT [] (termsR (d + 1) r)) :
    n.size ≤ maxLen ∧ ∃ x, bok (solL (d + 1) r.bd tl fs) n = true ∧ bn (solL (d + 1) r.bd tl fs) n = x ∧ (bok tl n = true → bn tl n = x) := by
  have hin : n ∈ fs := by
    unfold ruE at hR
    split at hR
    · split at hR
      · rename_i h
        exact inB_iff.1 (List.all_eq_true.1 h n hn)
      · cases hR
    · cases hR
  have hne := (vsT_ne _ [] (fun _ k => by cases k) n hn).1
  obtain ⟨x, h1, h2⟩ := sol_all hF (atN_nodup r.bd) hE hin
  refine ⟨?_, x, ?_⟩
  · rcases vsT_mem _ [] n hn with k | ⟨t, ht, rfl⟩
    · cases k
    · exact (termsR_wf hI t ht).text
  · rw [bn_val hne] at h1
    split at h1
    · rename_i hb
      injection h1 with h1
      refine ⟨hb, h1, fun hk => ?_⟩
      refine h2 _ ?_
      rw [bn_val hne, if_pos hk]
    · cases h1
set_option maxHeartbeats 12800000 in
set_option maxRecDepth 100000 in
theorem checkOneWay_walk (d : Nat) (r : R3) (p : RP) (l : List B) (la : Option Addr) (lc : Nat) (w : World) (hG : KT w ∧ LX.Gl w ∧ AR.Tab w) (hR : RIs w (d + 1) r p) (hlen : l.length ≤ 2932031007402) (hl : Lb w (.slice la l.length lc) l) :
    Calls Tryz.prog 3 #[r.val p, .slice la l.length lc] w fun e w' => e = .returned (.bool true) ∧ Below w.heap.size w w' := by
  have hval : (R3.val r p) = .agg #[.string r.pr, .slice p.a r.hd.length p.c, .slice p.ba r.bd.length p.bc] := rfl
  obtain ⟨W0, hW0⟩ : ∃ W0, W0 = w.alloc (.cells #[.string r.pr, .slice p.a r.hd.length p.c, .slice p.ba r.bd.length p.bc] 25) := ⟨_, rfl⟩
  have b0 : Below w.heap.size w W0 := by rw [hW0]; exact belowA _
  have HR0 : Hid (RL W0 w.heap.size 25 (r.cells p)) := by
    have := rl_new w #[.string r.pr, .slice p.a r.hd.length p.c, .slice p.ba r.bd.length p.bc] 25
    rw [← hW0] at this
    exact this
  have HK := Lib.hid b0
  have HR00 : Hid (RIs W0 (d + 1) r p) := hR.below b0
  have HL00 : Hid (Lb W0 (.slice la l.length lc) l) := hl.below b0
  have HG00 : Hid (KT W0 ∧ LX.Gl W0 ∧ AR.Tab W0) := ⟨hG.1.below b0, hG.2.1.below b0, hG.2.2.below b0⟩
  obtain ⟨fs, hfs⟩ := lim_ex (eqL (d + 1) r.bd) (atN r.bd) (eqL_ok _ _)
  have HF := Lib.hid hfs
  have HC := Lib.hid (beyondRule_any (d + 1) r p W0 HR00.out)
  have HLR0 : Hid (∀ u, Below W0.heap.size W0 u → (loadVar 25 ⟨w.heap.size, 0, none⟩).run Tryz.prog u = .ok (.agg #[.string r.pr, .slice p.a r.hd.length p.c, .slice p.ba r.bd.length p.bc]) u) := fun u hu => (rule_loads (RL.below HR0.out hu)).1
  have HLB0 : Hid (∀ u, Below W0.heap.size W0 u → (loadVar 23 ⟨w.heap.size, 2, none⟩).run Tryz.prog u = .ok (.slice p.ba r.bd.length p.bc) u) := fun u hu => (rule_loads (RL.below HR0.out hu)).2.1
  have hld := HLR0.out W0 (Below.refl _ _)
  rw [hval] at HC ⊢
  clear b0 hR hl hG hfs HR0
  go_enter Tryz.func3, Tryz.ntmps3
  go_upto_region 1 with fail
  rw [← hW0]
  clear hW0
  go_wp2_with fail
  refine HC.out.mono ?_
  rintro e w1 ⟨b, rfl, b1, hs⟩
  have HS := Lib.hid hs
  have B1 := Lib.hid b1
  clear hs HC b1 hld
  cases b
  · have hsm : smallR (d + 1) r := HS.out (by first | rfl | trivial)
    have HSM := Lib.hid hsm
    have HLV := Lib.hid (lives_any w1 ⟨HG00.out.1.below B1.out, HG00.out.2.1.below B1.out⟩)
    clear HS hsm
    go_wp2_with fail
    refine HLV.out.mono ?_
    rintro e w2 ⟨rfl, b2⟩
    have B2 : Hid (Below W0.heap.size W0 w2) := B1.out.trans (b2.mono B1.out.size)
    have hld2 := HLR0.out w2 B2.out
    have HCR := Lib.hid (rcheckRule_any (d + 1) r p w2 (HR00.out.below B2.out) HSM.out)
    rw [hval] at HCR
    clear HLV b2 B1
    cases hrb : ruleB (d + 1) r with
    | false =>
      rw [hrb] at HCR
      have e40 : errB false = 40 := rfl
      rw [e40] at HCR
      go_wp2_with fail
      refine HCR.out.mono ?_
      rintro e w3 ⟨rfl, b3⟩
      have B3 : Hid (Below W0.heap.size W0 w3) := B2.out.trans (b3.mono B2.out.size)
      have hld3 := HLR0.out w3 B3.out
      have HCK := Lib.hid (ckRule_any d r p w3 (HG00.out.1.below B3.out) (HR00.out.below B3.out) HSM.out fs HF.out)
      have e41 : ruE (d + 1) r fs = 40 := by unfold ruE; rw [hrb]; rfl
      rw [e41, hval] at HCK
      clear HCR b3 hld2 B2 hrb e40 e41
      go_wp2_with fail
      refine HCK.out.mono ?_
      rintro e w4 ⟨rfl, b4⟩
      have BE : Hid (Below w.heap.size w w4) := HK.out.trans ((B3.out.trans (b4.mono B3.out.size)).mono HK.out.size)
      clear HCK b4 hld3 B3
      go_wp2
      go_ret
      exact ⟨by first | rfl | simp, BE.out⟩
    | true =>
      rw [hrb] at HCR
      have e0 : errB true = 0 := rfl
      rw [e0] at HCR
      go_wp2_with fail
      refine HCR.out.mono ?_
      rintro e w3 ⟨rfl, b3⟩
      have B3 : Hid (Below W0.heap.size W0 w3) := B2.out.trans (b3.mono B2.out.size)
      have hld3 := HLR0.out w3 B3.out
      have HCK : Hid (∀ u, Below W0.heap.size W0 u → _) := fun u hu => ckRule_any d r p u (HG00.out.1.below hu) (HR00.out.below hu) HSM.out fs HF.out
      have HC3 := Lib.hid (HCK.out w3 B3.out)
      clear HCR b3 hld2 B2 e0
      by_cases hru : ruE (d + 1) r fs = 0
      · have HRU := Lib.hid hru
        rw [hru, hval] at HC3
        clear hru HCK hrb
        go_wp2_with fail
        refine HC3.out.mono ?_
        rintro e w4 ⟨rfl, b4⟩
        have B4 : Hid (Below W0.heap.size W0 w4) := B3.out.trans (b4.mono B3.out.size)
        have hld4 := HLR0.out w4 B4.out
        have HSV := Lib.hid (solved_any d r p (.slice la l.length lc) l fs w4 ⟨HG00.out.1.below B4.out, HG00.out.2.2.below B4.out⟩ (HR00.out.below B4.out) HSM.out HF.out (HL00.out.below B4.out))
        rw [hval] at HSV
        clear HC3 b4 hld3 B3
        go_wp2_with fail
        refine HSV.out.mono ?_
        rintro e W2 ⟨ma, mc, rfl, hml, b5⟩
        have B5 : Hid (Below W0.heap.size W0 W2) := B4.out.trans (b5.mono B4.out.size)
        have HUU : Hid (∀ u, Below W2.heap.size W2 u → Below W0.heap.size W0 u) := fun u hu => B5.out.trans (hu.mono B5.out.size)
        have HR : Hid (∀ u, Below W2.heap.size W2 u → RIs u (d + 1) r p) := fun u hu => HR00.out.below (HUU.out u hu)
        have HG : Hid (∀ u, Below W2.heap.size W2 u → KT u ∧ AR.Tab u) := fun u hu => ⟨HG00.out.1.below (HUU.out u hu), HG00.out.2.2.below (HUU.out u hu)⟩
        have HLR : Hid (∀ u, Below W2.heap.size W2 u → _) := fun u hu => HLR0.out u (HUU.out u hu)
        have HLB : Hid (∀ u, Below W2.heap.size W2 u → _) := fun u hu => HLB0.out u (HUU.out u hu)
        have HT0 : Hid (∀ u, Below W2.heap.size W2 u → Lb u (.slice la l.length lc) l) := fun u hu => HL00.out.below (HUU.out u hu)
        obtain ⟨M, hM⟩ : ∃ M, solL (d + 1) r.bd l fs = M := ⟨_, rfl⟩
        rw [hM] at hml ⊢
        have HT1 : Hid (∀ u, Below W2.heap.size W2 u → Lb u (.slice ma M.length mc) M) := fun u hu => hml.below hu
        have HFI : Hid (∀ u, Below W2.heap.size W2 u → Below w.heap.size w u) := fun u hu => HK.out.trans ((HUU.out u hu).mono HK.out.size)
        clear HSV b5 hld4 B4 hml hM HUU B5 HR00 HG00 HL00 HLR0 HLB0 HK
        go_wp2
        go_loopw [6] (fun i wr => ∃ k : Nat, Hid (Below W2.heap.size W2 wr) ∧ k ≤ 2 ∧ i = .int .i64 k) (fun i _ => 2 - (intOf i).toNat)
        case atStart => exact ⟨0, Below.refl _ _, by omega, rfl⟩
        case round =>
          obtain ⟨k, HBU, hk, rfl⟩ := hrel
          obtain ⟨U, rfl⟩ : ∃ U, U = wr := ⟨_, rfl⟩
          obtain rfl | rfl | rfl : k = 0 ∨ k = 1 ∨ k = 2 := by omega
          · have HEQ := Lib.hid (equal_any d r.bd p.ba p.bc (.slice la l.length lc) l U (HG.out U HBU.out) (HR.out U HBU.out).bd (HT0.out U HBU.out))
            have hlb := HLB.out U HBU.out
            cases heq : eqB (d + 1) r.bd l with
            | false =>
              rw [heq] at HEQ
              clear heq
              go_wp2_with fail
              refine HEQ.out.mono ?_
              rintro e w5 ⟨rfl, b5⟩
              have HB5 : Hid (Below W2.heap.size W2 w5) := HBU.out.trans (b5.mono HBU.out.size)
              clear b5 HEQ hlb HBU
              go_wp2
              go_roundw
              case rel => exact ⟨1, HB5, by omega, by first | rfl | go_num⟩
              case measure => simp [intOf]
            | true =>
              have HEA := Lib.hid (eqB_all heq)
              rw [heq] at HEQ
              clear heq
              go_wp2_with fail
              refine HEQ.out.mono ?_
              rintro e w5 ⟨rfl, b5⟩
              have HB5 : Hid (Below W2.heap.size W2 w5) := HBU.out.trans (b5.mono HBU.out.size)
              have hlr5 := HLR.out w5 HB5.out
              have HSV := Lib.hid (solved_any d r p (.slice la l.length lc) l fs w5 (HG.out w5 HB5.out) (HR.out w5 HB5.out) HSM.out HF.out (HT0.out w5 HB5.out))
              rw [hval] at HSV
              clear b5 HEQ hlb HBU
              go_wp2_with fail
              refine HSV.out.mono ?_
              rintro e w6 ⟨sa, sc, rfl, hsl, b6⟩
              have HB6 : Hid (Below W2.heap.size W2 w6) := HB5.out.trans (b6.mono HB5.out.size)
              have hlr6 := HLR.out w6 HB6.out
              have HRV := Lib.hid (rruleVars_any (d + 1) r p w6 (HR.out w6 HB6.out) HSM.out.terms)
              rw [hval] at HRV
              have HSL := Lib.hid hsl
              clear b6 HSV hlr5 hsl HB5
              go_wp2_with fail
              refine HRV.out.mono ?_
              rintro e w7 ⟨sv, rfl, hvl, b7⟩
              have HB7 : Hid (Below W2.heap.size W2 w7) := HB6.out.trans (b7.mono HB6.out.size)
              have HSL7 := Lib.hid (HSL.out.below b7)
              obtain ⟨na, nc, rfl, hn1, hn2, hnat⟩ := ls_str hvl
              have HNA := Lib.hid hnat
              have HNS : Hid (∀ i, i < (vsT [] (termsR (d + 1) r)).length → (atS (vsT [] (termsR (d + 1) r)) i).size ≤ maxLen ∧ ∃ x, bok (solL (d + 1) r.bd l fs) (atS (vsT [] (termsR (d + 1) r)) i) = true ∧ bn (solL (d + 1) r.bd l fs) (atS (vsT [] (termsR (d + 1) r)) i) = x ∧ (bok l (atS (vsT [] (termsR (d + 1) r)) i) = true → bn l (atS (vsT [] (termsR (d + 1) r)) i) = x)) := fun i hi => by
                have hm : atS (vsT [] (termsR (d + 1) r)) i ∈ vsT [] (termsR (d + 1) r) := by rw [atS_eq hi]; exact List.getElem_mem _
                exact way_name HRU.out (HR.out w7 HB7.out) HF.out HEA.out hm
              obtain ⟨ns, hns⟩ : ∃ ns, vsT [] (termsR (d + 1) r) = ns := ⟨_, rfl⟩
              rw [hns] at hn1 HNA HNS ⊢
              obtain ⟨A, hA⟩ : ∃ A, solL (d + 1) r.bd l fs = A := ⟨_, rfl⟩
              rw [hA] at HSL7 HNS ⊢
              have hnm : ns.length ≤ maxLen := Nat.le_trans hn1 hn2
              unfold maxLen at hnm
              have HSA : Hid (∀ u, Below w7.heap.size w7 u → Lb u (.slice sa A.length sc) A) := fun u hu => HSL7.out.below hu
              have HUP : Hid (∀ u, Below w7.heap.size w7 u → Below W2.heap.size W2 u) := fun u hu => HB7.out.trans (hu.mono HB7.out.size)
              clear b7 HRV hlr6 hvl hnat HSL HSL7 hns hA HB6 HEA HB7
              go_wp2
              go_loopw [10] (fun i wr => ∃ k : Nat, k ≤ ns.length ∧ i = .int .i64 k ∧ Hid (Below w7.heap.size w7 wr)) (fun i _ => ns.length - (intOf i).toNat)
              case atStart => exact ⟨0, Nat.zero_le _, rfl, Below.refl _ _⟩
              case round =>
                obtain ⟨j, hj, rfl, HBX⟩ := hrel
                obtain ⟨X, rfl⟩ : ∃ X, X = wr := ⟨_, rfl⟩
                by_cases hjl : j < ns.length
                · have hjl' : (j : Int) < (ns.length : Int) := by omega
                  have hj0 : (0 : Int) ≤ (j : Int) := by omega
                  obtain ⟨g, off, rfl, hg, hsn⟩ := HNA.out (by omega)
                  obtain ⟨hsz, x, hx1, hx2, hx3⟩ := HNS.out j hjl
                  have HLN : Hid (∀ u, Below w7.heap.size w7 u → (loadVar 9 ⟨g, off + j, none⟩).run Tryz.prog u = .ok (.string (atS ns j)) u) := fun u hu => load_strS (by rw [hu.cell (p := ⟨g, off + j, none⟩) hg]; exact hsn j hjl)
                  obtain ⟨n, hn⟩ : ∃ n, atS ns j = n := ⟨_, rfl⟩
                  rw [hn] at hsz hx1 hx2 hx3 HLN
                  have HX3 := Lib.hid hx3
                  have HC1 := Lib.hid (bound_any n (.slice la l.length lc) l X hsz (HT0.out X (HUP.out X HBX.out)))
                  have hln := HLN.out X HBX.out
                  clear hn hsn hx3
                  go_wp2_with fail
                  refine HC1.out.mono ?_
                  rintro e x1 ⟨rfl, c1⟩
                  obtain ⟨X1, hX1⟩ : ∃ X1, X1 = x1.alloc (.cells #[.int .i8 (bn l n).k, .int .i64 (bn l n).n, .string (bn l n).s] 38) := ⟨_, rfl⟩
                  have d1 : Below x1.heap.size x1 X1 := by rw [hX1]; exact belowA _
                  have HR1 : Hid (RL X1 x1.heap.size 38 [.int .i8 (bn l n).k, .int .i64 (bn l n).n, .string (bn l n).s]) := by
                    have := rl_new x1 #[.int .i8 (bn l n).k, .int .i64 (bn l n).n, .string (bn l n).s] 38
                    rw [← hX1] at this
                    exact this
                  have HB1 : Hid (Below w7.heap.size w7 X1) := HBX.out.trans ((c1.trans (d1.mono c1.size)).mono HBX.out.size)
                  clear HC1 hln c1 d1 HBX
                  go_upto_region 23 with fail
                  rw [← hX1]
                  clear hX1
                  have hln1 := HLN.out X1 HB1.out
                  have HC2 := Lib.hid (bound_any n (.slice sa A.length sc) A X1 hsz (HSA.out X1 HB1.out))
                  rw [hx1, hx2] at HC2
                  go_wp2_with fail
                  refine HC2.out.mono ?_
                  rintro e x2 ⟨rfl, c2⟩
                  obtain ⟨X2, hX2⟩ : ∃ X2, X2 = x2.alloc (.cells #[.int .i8 x.k, .int .i64 x.n, .string x.s] 38) := ⟨_, rfl⟩
                  have d2 : Below x2.heap.size x2 X2 := by rw [hX2]; exact belowA _
                  have d3 := c2.trans (d2.mono c2.size)
                  have HR2 : Hid (RL X2 x2.heap.size 38 [.int .i8 x.k, .int .i64 x.n, .string x.s]) := by
                    have := rl_new x2 #[.int .i8 x.k, .int .i64 x.n, .string x.s] 38
                    rw [← hX2] at this
                    exact this
                  have HR12 := Lib.hid (RL.below HR1.out d3)
                  have HB2 : Hid (Below w7.heap.size w7 X2) := HB1.out.trans (d3.mono HB1.out.size)
                  clear HC2 hln1 c2 d2 d3 HB1 HR1 hx1 hx2
                  go_upto_region 24 with fail
                  rw [← hX2]
                  clear hX2
                  cases hok : bok l n with
                  | false =>
                    clear HR12 HR2 HX3 hok
                    go_wp2
                    go_roundw
                    case rel => exact ⟨j + 1, by omega, by go_num, HB2⟩
                    case measure => simp [intOf]; omega
                  | true =>
                    have e12 := HX3.out hok
                    rw [e12] at HR12
                    have la1 := load_valB HR12.out
                    have la2 := load_valB HR2.out
                    clear HX3 hok e12 HR12 HR2
                    go_wp2
                    go_roundw
                    case rel => exact ⟨j + 1, by omega, by go_num, HB2⟩
                    case measure => simp [intOf]; omega
                · obtain rfl : j = ns.length := by omega
                  have HBE := Lib.hid (HUP.out X HBX.out)
                  clear HBX HUP HSA HNA HNS
                  go_wp2
                  go_roundw
                  case rel => exact ⟨1, HBE, by omega, by first | rfl | go_num⟩
                  case measure => simp [intOf]

          · have HEQ := Lib.hid (equal_any d r.bd p.ba p.bc (.slice ma M.length mc) M U (HG.out U HBU.out) (HR.out U HBU.out).bd (HT1.out U HBU.out))
            have hlb := HLB.out U HBU.out
            cases heq : eqB (d + 1) r.bd M with
            | false =>
              rw [heq] at HEQ
              clear heq
              go_wp2_with fail
              refine HEQ.out.mono ?_
              rintro e w5 ⟨rfl, b5⟩
              have HB5 : Hid (Below W2.heap.size W2 w5) := HBU.out.trans (b5.mono HBU.out.size)
              clear b5 HEQ hlb HBU
              go_wp2
              go_roundw
              case rel => exact ⟨2, HB5, by omega, by first | rfl | go_num⟩
              case measure => simp [intOf]
            | true =>
              have HEA := Lib.hid (eqB_all heq)
              rw [heq] at HEQ
              clear heq
              go_wp2_with fail
              refine HEQ.out.mono ?_
              rintro e w5 ⟨rfl, b5⟩
              have HB5 : Hid (Below W2.heap.size W2 w5) := HBU.out.trans (b5.mono HBU.out.size)
              have hlr5 := HLR.out w5 HB5.out
              have HSV := Lib.hid (solved_any d r p (.slice ma M.length mc) M fs w5 (HG.out w5 HB5.out) (HR.out w5 HB5.out) HSM.out HF.out (HT1.out w5 HB5.out))
              rw [hval] at HSV
              clear b5 HEQ hlb HBU
              go_wp2_with fail
              refine HSV.out.mono ?_
              rintro e w6 ⟨sa, sc, rfl, hsl, b6⟩
              have HB6 : Hid (Below W2.heap.size W2 w6) := HB5.out.trans (b6.mono HB5.out.size)
              have hlr6 := HLR.out w6 HB6.out
              have HRV := Lib.hid (rruleVars_any (d + 1) r p w6 (HR.out w6 HB6.out) HSM.out.terms)
              rw [hval] at HRV
              have HSL := Lib.hid hsl
              clear b6 HSV hlr5 hsl HB5
              go_wp2_with fail
              refine HRV.out.mono ?_
              rintro e w7 ⟨sv, rfl, hvl, b7⟩
              have HB7 : Hid (Below W2.heap.size W2 w7) := HB6.out.trans (b7.mono HB6.out.size)
              have HSL7 := Lib.hid (HSL.out.below b7)
              obtain ⟨na, nc, rfl, hn1, hn2, hnat⟩ := ls_str hvl
              have HNA := Lib.hid hnat
              have HNS : Hid (∀ i, i < (vsT [] (termsR (d + 1) r)).length → (atS (vsT [] (termsR (d + 1) r)) i).size ≤ maxLen ∧ ∃ x, bok (solL (d + 1) r.bd M fs) (atS (vsT [] (termsR (d + 1) r)) i) = true ∧ bn (solL (d + 1) r.bd M fs) (atS (vsT [] (termsR (d + 1) r)) i) = x ∧ (bok M (atS (vsT [] (termsR (d + 1) r)) i) = true → bn M (atS (vsT [] (termsR (d + 1) r)) i) = x)) := fun i hi => by
                have hm : atS (vsT [] (termsR (d + 1) r)) i ∈ vsT [] (termsR (d + 1) r) := by rw [atS_eq hi]; exact List.getElem_mem _
                exact way_name HRU.out (HR.out w7 HB7.out) HF.out HEA.out hm
              obtain ⟨ns, hns⟩ : ∃ ns, vsT [] (termsR (d + 1) r) = ns := ⟨_, rfl⟩
              rw [hns] at hn1 HNA HNS ⊢
              obtain ⟨A, hA⟩ : ∃ A, solL (d + 1) r.bd M fs = A := ⟨_, rfl⟩
              rw [hA] at HSL7 HNS ⊢
              have hnm : ns.length ≤ maxLen := Nat.le_trans hn1 hn2
              unfold maxLen at hnm
              have HSA : Hid (∀ u, Below w7.heap.size w7 u → Lb u (.slice sa A.length sc) A) := fun u hu => HSL7.out.below hu
              have HUP : Hid (∀ u, Below w7.heap.size w7 u → Below W2.heap.size W2 u) := fun u hu => HB7.out.trans (hu.mono HB7.out.size)
              clear b7 HRV hlr6 hvl hnat HSL HSL7 hns hA HB6 HEA HB7
              go_wp2
              go_loopw [10] (fun i wr => ∃ k : Nat, k ≤ ns.length ∧ i = .int .i64 k ∧ Hid (Below w7.heap.size w7 wr)) (fun i _ => ns.length - (intOf i).toNat)
              case atStart => exact ⟨0, Nat.zero_le _, rfl, Below.refl _ _⟩
              case round =>
                obtain ⟨j, hj, rfl, HBX⟩ := hrel
                obtain ⟨X, rfl⟩ : ∃ X, X = wr := ⟨_, rfl⟩
                by_cases hjl : j < ns.length
                · have hjl' : (j : Int) < (ns.length : Int) := by omega
                  have hj0 : (0 : Int) ≤ (j : Int) := by omega
                  obtain ⟨g, off, rfl, hg, hsn⟩ := HNA.out (by omega)
                  obtain ⟨hsz, x, hx1, hx2, hx3⟩ := HNS.out j hjl
                  have HLN : Hid (∀ u, Below w7.heap.size w7 u → (loadVar 9 ⟨g, off + j, none⟩).run Tryz.prog u = .ok (.string (atS ns j)) u) := fun u hu => load_strS (by rw [hu.cell (p := ⟨g, off + j, none⟩) hg]; exact hsn j hjl)
                  obtain ⟨n, hn⟩ : ∃ n, atS ns j = n := ⟨_, rfl⟩
                  rw [hn] at hsz hx1 hx2 hx3 HLN
                  have HX3 := Lib.hid hx3
                  have HC1 := Lib.hid (bound_any n (.slice ma M.length mc) M X hsz (HT1.out X (HUP.out X HBX.out)))
                  have hln := HLN.out X HBX.out
                  clear hn hsn hx3
                  go_wp2_with fail
                  refine HC1.out.mono ?_
                  rintro e x1 ⟨rfl, c1⟩
                  obtain ⟨X1, hX1⟩ : ∃ X1, X1 = x1.alloc (.cells #[.int .i8 (bn M n).k, .int .i64 (bn M n).n, .string (bn M n).s] 38) := ⟨_, rfl⟩
                  have d1 : Below x1.heap.size x1 X1 := by rw [hX1]; exact belowA _
                  have HR1 : Hid (RL X1 x1.heap.size 38 [.int .i8 (bn M n).k, .int .i64 (bn M n).n, .string (bn M n).s]) := by
                    have := rl_new x1 #[.int .i8 (bn M n).k, .int .i64 (bn M n).n, .string (bn M n).s] 38
                    rw [← hX1] at this
                    exact this
                  have HB1 : Hid (Below w7.heap.size w7 X1) := HBX.out.trans ((c1.trans (d1.mono c1.size)).mono HBX.out.size)
                  clear HC1 hln c1 d1 HBX
                  go_upto_region 23 with fail
                  rw [← hX1]
                  clear hX1
                  have hln1 := HLN.out X1 HB1.out
                  have HC2 := Lib.hid (bound_any n (.slice sa A.length sc) A X1 hsz (HSA.out X1 HB1.out))
                  rw [hx1, hx2] at HC2
                  go_wp2_with fail
                  refine HC2.out.mono ?_
                  rintro e x2 ⟨rfl, c2⟩
                  obtain ⟨X2, hX2⟩ : ∃ X2, X2 = x2.alloc (.cells #[.int .i8 x.k, .int .i64 x.n, .string x.s] 38) := ⟨_, rfl⟩
                  have d2 : Below x2.heap.size x2 X2 := by rw [hX2]; exact belowA _
                  have d3 := c2.trans (d2.mono c2.size)
                  have HR2 : Hid (RL X2 x2.heap.size 38 [.int .i8 x.k, .int .i64 x.n, .string x.s]) := by
                    have := rl_new x2 #[.int .i8 x.k, .int .i64 x.n, .string x.s] 38
                    rw [← hX2] at this
                    exact this
                  have HR12 := Lib.hid (RL.below HR1.out d3)
                  have HB2 : Hid (Below w7.heap.size w7 X2) := HB1.out.trans (d3.mono HB1.out.size)
                  clear HC2 hln1 c2 d2 d3 HB1 HR1 hx1 hx2
                  go_upto_region 24 with fail
                  rw [← hX2]
                  clear hX2
                  cases hok : bok M n with
                  | false =>
                    clear HR12 HR2 HX3 hok
                    go_wp2
                    go_roundw
                    case rel => exact ⟨j + 1, by omega, by go_num, HB2⟩
                    case measure => simp [intOf]; omega
                  | true =>
                    have e12 := HX3.out hok
                    rw [e12] at HR12
                    have la1 := load_valB HR12.out
                    have la2 := load_valB HR2.out
                    clear HX3 hok e12 HR12 HR2
                    go_wp2
                    go_roundw
                    case rel => exact ⟨j + 1, by omega, by go_num, HB2⟩
                    case measure => simp [intOf]; omega
                · obtain rfl : j = ns.length := by omega
                  have HBE := Lib.hid (HUP.out X HBX.out)
                  clear HBX HUP HSA HNA HNS
                  go_wp2
                  go_roundw
                  case rel => exact ⟨2, HBE, by omega, by first | rfl | go_num⟩
                  case measure => simp [intOf]

          · have HFE := Lib.hid (HFI.out U HBU.out)
            go_wp2
            go_ret
            exact ⟨by first | rfl | simp, HFE.out⟩
      · have e73 : ruE (d + 1) r fs = 73 := by
          unfold ruE at hru ⊢
          rw [if_pos hrb] at hru ⊢
          split
          · rename_i h
            rw [if_pos h] at hru
            exact absurd rfl hru
          · rfl
        rw [e73, hval] at HC3
        go_wp2_with fail
        refine HC3.out.mono ?_
        rintro e w4 ⟨rfl, b4⟩
        have B4 : Hid (Below W0.heap.size W0 w4) := B3.out.trans (b4.mono B3.out.size)
        have hld4 := HLR0.out w4 B4.out
        have HC4 := Lib.hid (HCK.out w4 B4.out)
        rw [e73, hval] at HC4
        clear HC3 b4 hld3 B3 HCK e73 hru hrb
        go_wp2_with fail
        refine HC4.out.mono ?_
        rintro e w5 ⟨rfl, b5⟩
        have BE : Hid (Below w.heap.size w w5) := HK.out.trans ((B4.out.trans (b5.mono B4.out.size)).mono HK.out.size)
        clear HC4 b5 hld4 B4
        go_wp2
        go_ret
        exact ⟨by first | rfl | simp, BE.out⟩
  · clear HS
    go_wp2
    go_ret
    exact ⟨by first | rfl | simp, HK.out.trans (B1.out.mono HK.out.size)⟩
end Go.Proofs.YtgfnijhhhgjabaaGreatDoor.EV
end
