import Derived.Test.YtlnioaokpmeioaaGreatDoorG50
section
namespace Go.Proofs.YtlnioaokpmeioaaGreatDoor
open Go.RowKit Go.Maps
set_option linter.unusedVariables false
set_option linter.unusedSimpArgs false
attribute [local go_sem ↓] Go.wp_at_zero Go.wp_at_succ
attribute [-go_sem] loadVar storeVar Builtin.append_

/-- the columns that are known, in a map that lies behind w0 -/
structure Cs (w0 : World) (b : Nat) (s : List Pd) (u : World) : Prop where
  mp : MapP u b s
  nd : (s.map Pd.n).Nodup
  bl : Below w0.heap.size w0 u
  lo : w0.heap.size ≤ b
theorem Cs.below {w0 : World} {b : Nat} {s : List Pd} {u u' : World} (h : Cs w0 b s u) (k : Below u.heap.size u u') : Cs w0 b s u' := ⟨h.mp.of_block (k.block _ h.mp.lt), h.nd, h.bl.trans (k.mono h.bl.size), h.lo⟩
theorem Cs.tz {w0 : World} {b : Nat} {s : List Pd} {u u' : World} (h : Cs w0 b s u) (t : Tz (fun k => k = b) u u') : Below w0.heap.size w0 u' := Tz.below h.bl t h.bl.size (fun k e => by rw [e]; exact h.lo)
/-- what one predicate of a user comes to -/
def ipE (s : List Pd) (p : Pd) (vs : List ByteArray) : Int := if inpE [p] vs = 0 then (if (takeP s p).2 = true then 0 else 72) else inpE [p] vs
set_option maxHeartbeats 3200000 in
theorem inputPred_any {w0 w : World} {b : Nat} {s : List Pd} (h : Cs w0 b s w) (p : Pd) (hp : p.n.size ≤ maxLen) (v' : Value) (vs : List ByteArray) (h2 : Ls w v' vs.length (vs.flatMap strB)) :
    Calls Tryz.prog 43 #[.map (some b), .agg p.cells.toArray, v'] w fun e w' => e = .returned (.int .i64 (ipE s p vs)) ∧ Tz (fun k => k = b) w w' ∧ (ipE s p vs = 0 → Cs w0 b (takeP s p).1 w') := by
  obtain ⟨W1, hW1⟩ : ∃ W1, W1 = w.alloc (.cells #[.string p.n, .int .i64 (p.a : Int)] 49) := ⟨_, rfl⟩
  have b1 : Below w.heap.size w W1 := by rw [hW1]; exact belowA _
  have HR1 : Hid (RL W1 w.heap.size 49 [.string p.n, .int .i64 (p.a : Int)]) := by
    have := rl_new w #[.string p.n, .int .i64 (p.a : Int)] 49
    rw [← hW1] at this
    exact this
  have hl1 := load_predV HR1.out
  have b2 := belowA (w := W1) (.cells #[.string p.n, .int .i64 (p.a : Int)] 49)
  have ho : (W1.alloc (.cells #[.string p.n, .int .i64 (p.a : Int)] 49)).ownsRow W1.heap.size 49 2 (.slice (some ⟨W1.heap.size, 0, none⟩) 1 1) 1 [.string p.n, .int .i64 (p.a : Int)] := World.ownsRow_lit W1 #[.string p.n, .int .i64 (p.a : Int)] 1 (Nat.le_refl _) (by decide) rfl
  have HC := Lib.hid (inputPreds_any (.slice (some ⟨W1.heap.size, 0, none⟩) 1 1) v' [p] vs _ (ls_own ho) ((h2.below b1).below b2))
  have HCS := Lib.hid ((h.below b1).below b2)
  have HR2 := Lib.hid (RL.below HR1.out b2)
  have HBW : Hid (Below w.heap.size w (W1.alloc (.cells #[.string p.n, .int .i64 (p.a : Int)] 49))) := b1.trans (b2.mono b1.size)
  have HIP : Hid (ipE s p vs = if inpE [p] vs = 0 then (if (takeP s p).2 = true then 0 else 72) else inpE [p] vs) := rfl
  generalize inpE [p] vs = e1 at HC HIP
  obtain ⟨er, her⟩ : ∃ er, ipE s p vs = er := ⟨_, rfl⟩
  rw [her] at HIP ⊢
  obtain ⟨⟨t2, bt⟩, htp⟩ : ∃ x : List Pd × Bool, takeP s p = x := ⟨_, rfl⟩
  rw [htp] at HIP ⊢
  dsimp only at HIP ⊢
  have HTP := Lib.hid htp
  clear htp
  have hpc : Value.agg p.cells.toArray = .agg #[.string p.n, .int .i64 (p.a : Int)] := rfl
  rw [hpc]
  clear h h2 b1 b2 ho her HR1 hpc
  go_enter Tryz.func43, Tryz.ntmps43
  go_upto_region 1 with fail
  rw [← hW1]
  clear hW1
  go_wp2_with fail
  clear hl1
  generalize W1.alloc (.cells #[.string p.n, .int .i64 (p.a : Int)] 49) = W2 at HC HCS HR2 HBW
  refine HC.out.mono ?_
  rintro e w3 ⟨rfl, b3⟩
  have HC3 := Lib.hid (HCS.out.below b3)
  have HTW : Hid (Tz (fun k => k = b) w w3) := Tz.of_below (HBW.out.trans (b3.mono HBW.out.size))
  have hl3 := load_predV (RL.below HR2.out b3)
  clear b3 HC HCS HR2 HBW
  by_cases hz : e1 = 0
  · subst hz
    rw [if_pos rfl] at HIP
    have HT := Lib.hid (take_any HC3.out.mp HC3.out.nd p hp)
    have hpc : Value.agg p.cells.toArray = .agg #[.string p.n, .int .i64 (p.a : Int)] := rfl
    rw [hpc] at HT
    have HN := Lib.hid (takeP_nodup HC3.out.nd p)
    clear hpc
    rw [HTP.out] at HT HN
    cases bt
    · have HE : Hid (er = 72) := HIP.out
      go_wp2_with fail
      clear hl3
      refine HT.out.mono ?_
      rintro e w4 ⟨rfl, hm, ht⟩
      have HF : Hid (Tz (fun k => k = b) w w4) := HTW.out.trans ht (fun _ _ e => e)
      clear hm ht HT HC3
      go_wp2
      go_ret
      exact ⟨by rw [HE.out]; rfl, HF.out, fun h => by rw [HE.out] at h; cases h⟩
    · have HE : Hid (er = 0) := HIP.out
      go_wp2_with fail
      clear hl3
      refine HT.out.mono ?_
      rintro e w4 ⟨rfl, hm, ht⟩
      have HF : Hid (Cs w0 b t2 w4) := ⟨hm, HN.out, HC3.out.tz ht, HC3.out.lo⟩
      have HF2 : Hid (Tz (fun k => k = b) w w4) := HTW.out.trans ht (fun _ _ e => e)
      clear hm ht HT HC3
      go_wp2
      go_ret
      exact ⟨by rw [HE.out]; rfl, HF2.out, fun _ => HF.out⟩
  · rw [if_neg hz] at HIP
    have e0 : (e1 != 0) = true := by rw [bne_iff_ne]; exact hz
    have HZ := Lib.hid hz
    clear hz
    go_wp2
    go_ret
    exact ⟨by first | (rw [HIP.out]; rfl) | rw [HIP.out], HTW.out, fun h => absurd (HIP.out.symm.trans h) HZ.out⟩
def fiE (s : List Pd) (y : XF) : Int := if factB y = true then ipE s (pdF y) [] else 10
set_option maxHeartbeats 3200000 in
theorem inputFact_any {w0 w : World} {b : Nat} {s : List Pd} (h : Cs w0 b s w) (y : XF) (hG : LX.Gl w) (hF : FIs w y) :
    Calls Tryz.prog 42 #[.map (some b), .agg y.cells.toArray] w fun e w' => e = .returned (.int .i64 (fiE s y)) ∧ Below w0.heap.size w0 w' ∧ (fiE s y = 0 → Cs w0 b (takeP s (pdF y)).1 w') := by
  have b1 := belowA (w := w) (.cells y.cells.toArray 78)
  have hl1 := load_boxF (rl_new w y.cells.toArray 78)
  have HR1 := Lib.hid (rl_new w y.cells.toArray 78)
  have HC := Lib.hid (checkFact_any y _ (hG.below b1) (hF.below b1))
  rw [← XF.val_eq] at HC
  have HCS := Lib.hid (h.below b1)
  have hnm : y.pr.size ≤ maxLen := hF.pb
  have HFE : Hid (fiE s y = if factB y = true then ipE s (pdF y) [] else 10) := rfl
  obtain ⟨er, her⟩ : ∃ er, fiE s y = er := ⟨_, rfl⟩
  rw [her] at HFE ⊢
  have hyc : y.cells.toArray = #[.string y.pr, .slice y.a y.vs.length y.c] := rfl
  have HFP : Hid (∀ u, Calls Tryz.prog 26 #[.agg y.cells.toArray] u fun e w' => e = .returned (.agg #[.string y.pr, .int .i64 (y.vs.length : Int)]) ∧ Below u.heap.size u w') := fun u => factPred_any y.pr y.a y.vs.length y.c u
  rw [hyc] at hl1 HR1 HC HCS HFP ⊢
  clear h b1 hG hF her
  go_enter Tryz.func42, Tryz.ntmps42
  go_upto_region 1 with fail
  have HR2 : Hid (RL (w.alloc (.cells #[.string y.pr, .slice y.a y.vs.length y.c] 78)) w.heap.size 78 y.cells) := HR1.out
  clear HR1
  generalize w.alloc (.cells #[.string y.pr, .slice y.a y.vs.length y.c] 78) = W1 at hl1 HR2 HC HCS ⊢
  go_wp2_with fail
  clear hl1
  refine HC.out.mono ?_
  rintro e w2 ⟨rfl, b2⟩
  have HC2 := Lib.hid (HCS.out.below b2)
  have hl2 : (loadVar 78 ⟨w.heap.size, 0, none⟩).run Tryz.prog w2 = .ok (.agg #[.string y.pr, .slice y.a y.vs.length y.c]) w2 := load_boxF (RL.below HR2.out b2)
  clear b2 HC HCS HR2
  cases hfb : factB y
  · have HE : Hid (er = 10) := by show _ = _; rw [HFE.out, hfb]; rfl
    have e0 : errF false = 10 := rfl
    rw [e0]
    clear hfb e0
    go_wp2
    go_ret
    exact ⟨by first | (rw [HE.out]; rfl) | rw [HE.out], HC2.out.bl, fun h => by rw [HE.out] at h; cases h⟩
  · have HE : Hid (er = ipE s (pdF y) []) := by show _ = _; rw [HFE.out, hfb]; rfl
    have e0 : errF true = 0 := rfl
    rw [e0]
    have HP := Lib.hid (HFP.out w2)
    clear hfb e0 HFP
    go_wp2_with fail
    clear hl2
    refine HP.out.mono ?_
    rintro e w3 ⟨rfl, b3⟩
    have HC3 := Lib.hid (HC2.out.below b3)
    have HI := Lib.hid (inputPred_any HC3.out (pdF y) hnm (.slice none 0 0) [] (ls_nilS w3))
    have hpd : Value.agg (pdF y).cells.toArray = .agg #[.string y.pr, .int .i64 (y.vs.length : Int)] := rfl
    rw [hpd, ← HE.out] at HI
    clear b3 HP HC2 hpd
    go_wp2_with fail
    refine HI.out.mono ?_
    rintro e w4 ⟨rfl, b4, h4⟩
    have HB4 := Lib.hid (HC3.out.tz b4)
    have HH4 := Lib.hid h4
    clear b4 h4 HI HC3
    go_wp2
    go_ret
    exact ⟨rfl, HB4.out, HH4.out⟩
/-- the facts, one behind the other: where it ends, why, and what is known -/
def fsR (s : List Pd) : List XF → Nat → Int × Int × List Pd
  | [], _ => (0, 0, s)
  | y :: l, i => if fiE s y = 0 then fsR (takeP s (pdF y)).1 l (i + 1) else ((i : Int), fiE s y, s)
def faR (s : List Pd) (fs : List XF) : Int × Int × List Pd := if 65536 < fs.length then (0, 70, s) else fsR s fs 0
theorem fsR_step {s : List Pd} {fs : List XF} {k : Nat} (h : k < fs.length) : fsR s (fs.drop k) k = if fiE s (atF fs k) = 0 then fsR (takeP s (pdF (atF fs k))).1 (fs.drop (k + 1)) (k + 1) else ((k : Int), fiE s (atF fs k), s) := by
  rw [List.drop_eq_getElem_cons h, ← atF_eq h, fsR]
set_option maxHeartbeats 3200000 in
theorem inputFacts_any {w0 w : World} {b : Nat} {s : List Pd} (h : Cs w0 b s w) (fs : List XF) (vf : Value) (hG : LX.Gl w0) (hF : Lf w0 vf fs) :
    Calls Tryz.prog 19 #[.map (some b), vf] w fun e w' => e = .returned (.tuple #[.int .i64 (faR s fs).1, .int .i64 (faR s fs).2.1]) ∧ Below w0.heap.size w0 w' ∧ ((faR s fs).2.1 = 0 → Cs w0 b (faR s fs).2.2 w') := by
  have HFE : Hid (∀ i, i < fs.length → ∀ u, Below w0.heap.size w0 u → FIs u (atF fs i)) := fun i hi u hu => (hF.each i hi).below hu
  have HG : Hid (∀ u, Below w0.heap.size w0 u → LX.Gl u) := fun u hu => hG.below hu
  obtain ⟨fa, fc, rfl, hf1, hf2, hfat⟩ := hF.form
  have hmf : fs.length ≤ maxLen := Nat.le_trans hf1 hf2
  unfold maxLen at hmf
  have HFA := Lib.hid hfat
  have HCS := Lib.hid h
  have HD : Hid (faR s fs = if 65536 < fs.length then (0, 70, s) else fsR s fs 0) := rfl
  obtain ⟨R, hR⟩ : ∃ R, faR s fs = R := ⟨_, rfl⟩
  rw [hR] at HD ⊢
  clear hfat hF hG h hR
  go_enter Tryz.func19, Tryz.ntmps19
  by_cases hbig : 65536 < fs.length
  · have hbig' : (65536 : Int) < (fs.length : Int) := by omega
    have HE : Hid (R = (0, 70, s)) := by show _ = _; rw [HD.out, if_pos hbig]
    clear hbig
    go_wp2
    go_ret2
    rw [HE.out]
    exact ⟨rfl, HCS.out.bl, fun h => by cases h⟩
  · have hbig' : ¬ ((65536 : Int) < (fs.length : Int)) := by omega
    have HE : Hid (R = fsR s fs 0) := by show _ = _; rw [HD.out, if_neg hbig]
    clear hbig
    go_wp2
    go_loopw [14] (fun i wr => ∃ (k : Nat) (t : List Pd), k ≤ fs.length ∧ i = .int .i64 k ∧ Hid (R = fsR t (fs.drop k) k) ∧ Hid (Cs w0 b t wr)) (fun i _ => fs.length - (intOf i).toNat)
    case atStart => exact ⟨0, s, Nat.zero_le _, rfl, HE, HCS⟩
    case round =>
      clear HE HCS HD
      obtain ⟨k, t, hk, rfl, HE, HC⟩ := hrel
      obtain ⟨V, rfl⟩ : ∃ V, V = wr := ⟨_, rfl⟩
      by_cases hlt : k < fs.length
      · have hlt' : (k : Int) < (fs.length : Int) := by omega
        have hk0 : (0 : Int) ≤ (k : Int) := by omega
        obtain ⟨g, off, rfl, hg, hT⟩ := HFA.out (by omega)
        have r1 := range_below (hT k hlt) HC.out.bl hg
        have HST := Lib.hid (fsR_step (s := t) hlt)
        rw [← HE.out] at HST
        have HFI := Lib.hid (HFE.out k hlt)
        obtain ⟨y, hy⟩ : ∃ y, atF fs k = y := ⟨_, rfl⟩
        rw [hy] at r1 HST HFI
        have hld := load_Fac r1 rfl
        have hst := fact_storeP V y
        have BA := belowA (w := V) (.cells y.cells.toArray 78)
        have hl8 := load_boxF (rl_new V y.cells.toArray 78)
        have HC2 := Lib.hid (HC.out.below BA)
        clear hT r1 hy BA HC
        generalize V.alloc (.cells y.cells.toArray 78) = W1 at hst hl8 HC2
        have HI := Lib.hid (inputFact_any HC2.out y (HG.out W1 HC2.out.bl) (HFI.out W1 HC2.out.bl))
        generalize Value.agg y.cells.toArray = QV at hld hst hl8 HI
        obtain ⟨e0, he0⟩ : ∃ e0, fiE t y = e0 := ⟨_, rfl⟩
        rw [he0] at HST HI
        clear HFI he0 HC2 HE
        by_cases hz : e0 = 0
        · subst hz
          rw [if_pos rfl] at HST
          go_wp2_with fail
          refine HI.out.mono ?_
          rintro e w2 ⟨rfl, b2, h2⟩
          have HC3 := Lib.hid (h2 (by first | rfl | trivial))
          clear b2 h2 HI hld hst hl8
          go_wp2
          go_roundw
          case rel => exact ⟨k + 1, _, by omega, by go_num, HST, HC3⟩
          case measure => simp [intOf]; omega
        · rw [if_neg hz] at HST
          have e1 : (e0 != 0) = true := by rw [bne_iff_ne]; exact hz
          have HZ := Lib.hid hz
          clear hz
          go_wp2_with fail
          refine HI.out.mono ?_
          rintro e w2 ⟨rfl, b2, h2⟩
          have HB2 := Lib.hid b2
          clear b2 h2 HI hld hst hl8
          go_wp2
          go_ret2
          rw [HST.out]
          exact ⟨rfl, HB2.out, fun h => absurd h HZ.out⟩
      · obtain rfl : k = fs.length := by omega
        rw [List.drop_length, fsR] at HE
        go_wp2
        go_ret2
        rw [HE.out]
        exact ⟨rfl, HC.out.bl, fun _ => HC.out⟩
end Go.Proofs.YtlnioaokpmeioaaGreatDoor
end
section
namespace Go.Proofs.YtlnioaokpmeioaaGreatDoor
open Go.RowKit Go.Maps
set_option linter.unusedVariables false
set_option linter.unusedSimpArgs false
attribute [local go_sem ↓] Go.wp_at_zero Go.wp_at_succ
attribute [-go_sem] loadVar storeVar Builtin.append_

theorem RL.tz {u u' : World} {b g : Nat} {ty : TypeId} {l : List Value} (h : RL u g ty l) (t : Tz (fun k => k = b) u u') (hne : g ≠ b) : RL u' g ty l := World.rowIs.of_block h (t.block g (World.rowIs.lt h) hne)
/-- what a query of a user comes to -/
def qyE (s : List Pd) (pr : ByteArray) (ts : List T) : Int := if atomB pr ts = true then ipE s ⟨pr, ts.length⟩ (vsT [] ts) else 40
set_option maxHeartbeats 3200000 in
theorem inputQuery_any {w0 w : World} {b : Nat} {s : List Pd} (h : Cs w0 b s w) (pr : ByteArray) (ts : List T) (qa : Option Addr) (qc : Nat) (hpr : pr.size ≤ maxLen) (hlen : ts.length ≤ 4398046511104) (hL : Lt w (.slice qa ts.length qc) ts) :
    Calls Tryz.prog 20 #[.map (some b), .agg #[.string pr, .slice qa ts.length qc]] w fun e w' => e = .returned (.int .i64 (qyE s pr ts)) ∧ Below w0.heap.size w0 w' := by
  have b1 := belowA (w := w) (.cells #[.string pr, .slice qa ts.length qc] 26)
  have HR1 := Lib.hid (rl_new w #[.string pr, .slice qa ts.length qc] 26)
  have hl1 := load_atomV HR1.out
  have HC := Lib.hid (checkAtom_any pr _ ts _ hpr (hL.below b1))
  have HCS := Lib.hid (h.below b1)
  have HLT := Lib.hid (hL.below b1)
  have hbw : b < w.heap.size := h.mp.lt
  have HQE : Hid (qyE s pr ts = if atomB pr ts = true then ipE s ⟨pr, ts.length⟩ (vsT [] ts) else 40) := rfl
  obtain ⟨er, her⟩ : ∃ er, qyE s pr ts = er := ⟨_, rfl⟩
  rw [her] at HQE ⊢
  clear h b1 hL her
  go_enter Tryz.func20, Tryz.ntmps20
  go_upto_region 1 with fail
  have HR2 : Hid (RL (w.alloc (.cells #[.string pr, .slice qa ts.length qc] 26)) w.heap.size 26 [.string pr, .slice qa ts.length qc]) := HR1.out
  clear HR1
  generalize w.alloc (.cells #[.string pr, .slice qa ts.length qc] 26) = W1 at hl1 HR2 HC HCS HLT ⊢
  go_wp2_with fail
  clear hl1
  refine HC.out.mono ?_
  rintro e w2 ⟨rfl, b2⟩
  have HC2 := Lib.hid (HCS.out.below b2)
  have HR3 := Lib.hid (RL.below HR2.out b2)
  have HL2 := Lib.hid (HLT.out.below b2)
  clear b2 HC HCS HR2 HLT
  cases hab : atomB pr ts
  · have HE : Hid (er = 40) := by show _ = _; rw [HQE.out, hab]; rfl
    have e0 : errB false = 40 := rfl
    rw [e0]
    clear hab e0
    go_wp2
    go_ret
    exact ⟨by first | (rw [HE.out]; rfl) | rw [HE.out], HC2.out.bl⟩
  · have HE : Hid (er = ipE s ⟨pr, ts.length⟩ (vsT [] ts)) := by show _ = _; rw [HQE.out, hab]; rfl
    have e0 : errB true = 0 := rfl
    rw [e0]
    have hD : Below w2.heap.size w2 w2.drew := (Below.refl _ _).drew
    have HC1 : Hid (Calls Tryz.prog 44 #[.agg #[.string pr, .slice qa ts.length qc]] w2.drew fun e u1 => e = .returned (.agg #[.string pr, .int .i64 (ts.length : Int)]) ∧ Tz (fun k => k = b) w2 u1 ∧ Calls Tryz.prog 45 #[.agg #[.string pr, .slice qa ts.length qc]] u1 fun e u2 => ∃ sv2, e = .returned sv2 ∧ Tz (fun k => k = b) w2 u2 ∧ Calls Tryz.prog 43 #[.map (some b), .agg #[.string pr, .int .i64 (ts.length : Int)], sv2] u2 fun e u3 => e = .returned (.int .i64 er) ∧ Tz (fun k => k = b) w2 u3 ∧ Below w0.heap.size w0 u3) := by
      refine (atomPred_any pr qa ts.length qc w2.drew).mono ?_
      rintro e u1 ⟨rfl, c1⟩
      have k1 : Below w2.heap.size w2 u1 := hD.trans (c1.mono hD.size)
      refine ⟨rfl, Tz.of_below k1, ?_⟩
      refine (vatomVars_any pr _ ts u1 hlen (HL2.out.below k1)).mono ?_
      rintro e u2 ⟨sv2, rfl, ho2, c2⟩
      have k2 : Below w2.heap.size w2 u2 := k1.trans (c2.mono k1.size)
      refine ⟨sv2, rfl, Tz.of_below k2, ?_⟩
      have hc := HC2.out.below k2
      refine (inputPred_any hc ⟨pr, ts.length⟩ hpr sv2 (vsT [] ts) (ls_own ho2)).mono ?_
      rintro e u3 ⟨rfl, t3, _⟩
      exact ⟨by rw [HE.out], (Tz.of_below (ex := fun k => k = b) k2).trans t3 (fun _ _ e => e), hc.tz t3⟩
    have hne : w.heap.size ≠ b := by omega
    have HLD : Hid (∀ u, Tz (fun k => k = b) w2 u → (loadVar 26 ⟨w.heap.size, 0, none⟩).run Tryz.prog u = .ok (.agg #[.string pr, .slice qa ts.length qc]) u) := fun u hu => load_atomV (RL.tz HR3.out hu hne)
    have HDD : Hid (Tz (fun k => k = b) w2 w2.drew) := Tz.of_below hD
    generalize Value.agg #[.string pr, .slice qa ts.length qc] = av at HC1 HLD
    generalize Value.agg #[.string pr, .int .i64 (ts.length : Int)] = pv at HC1
    clear hD HR3 HL2 HE hab e0 hne hbw HQE HC2
    go_upto_region 4 with fail
    refine wp_region_noPanic ?_
    refine wp_region_held (S := fun u => Tz (fun k => k = b) w2 u) (by kernel_rfl) ?_
    refine ciquery (w5 := w2) (S := fun u => Tz (fun k => k = b) w2 u) (b := w.heap.size) (av := av) (pv := pv) (mv := .map (some b)) (er := er) (P := fun u => Below w0.heap.size w0 u) rfl rfl rfl rfl rfl rfl rfl (by kernel_rfl) (by kernel_rfl) (by kernel_rfl) (by kernel_rfl) (by kernel_rfl) (by kernel_rfl) (fun _ _ _ _ _ h => h) (by simp) rfl rfl HDD.out (fun _ _ _ h => h) (fun u hu => HLD.out u hu) HC1.out ?_
    intro wc sv2 hP
    have HP := Lib.hid hP
    clear hP HC1 HLD HDD
    refine NoPanic.normal ?_
    rename_i hK
    refine hK _ _ ?_
    simp (config := { maxSteps := 8000000 }) only [Act.put, List.getElem_toArray, List.getElem_cons_zero, List.getElem_cons_succ, List.setIfInBounds_toArray, List.set_cons_succ, List.set_cons_zero]
    go_wp2
    go_ret
    exact ⟨rfl, HP.out⟩
/-- what a rule of a user comes to, by itself -/
def riE (d : Nat) (F : R3 → List ByteArray) (r : R3) : Int := if ruleB d r = true then (if 12 < r.bd.length then 70 else if inpE (stR r) (vsT [] (termsR d r)) = 0 then ruE d r (F r) else inpE (stR r) (vsT [] (termsR d r))) else 40
set_option maxHeartbeats 3200000 in
set_option maxRecDepth 100000 in
theorem inputRule_any (d : Nat) (F : R3 → List ByteArray) (hF0 : ∀ r, Lim (eqL (d + 1) r.bd) (atN r.bd) (F r)) (r : R3) (p : RP) (w : World) (hT : KT w) (hR : RIs w (d + 1) r p) (hs : smallR (d + 1) r) :
    Calls Tryz.prog 41 #[r.val p] w fun e w' => e = .returned (.int .i64 (riE (d + 1) F r)) ∧ Below w.heap.size w w' := by
  have hB := belowA (w := w) (.cells (r.cells p).toArray 72)
  have HR0 := Lib.hid (rl_new w (r.cells p).toArray 72)
  have HB := Lib.hid hB
  have HR : Hid (∀ u, Below w.heap.size w u → RIs u (d + 1) r p) := fun u hu => hR.below hu
  have HKT : Hid (∀ u, Below w.heap.size w u → KT u) := fun u hu => hT.below hu
  have HC := Lib.hid (checkRule_any (d + 1) r p _ (hT.below hB) (hR.below hB) hs)
  have hld := (rule_loads HR0.out).1
  have HS := Lib.hid hs
  have HF := Lib.hid (hF0 r)
  have HE : Hid (riE (d + 1) F r = if ruleB (d + 1) r = true then (if 12 < r.bd.length then 70 else if inpE (stR r) (vsT [] (termsR (d + 1) r)) = 0 then ruE (d + 1) r (F r) else inpE (stR r) (vsT [] (termsR (d + 1) r))) else 40) := rfl
  obtain ⟨er, her⟩ : ∃ er, riE (d + 1) F r = er := ⟨_, rfl⟩
  rw [her] at HE ⊢
  have hbox : (R3.val r p) = .agg #[.string r.pr, .slice p.a r.hd.length p.c, .slice p.ba r.bd.length p.bc] := rfl
  have hcl : (r.cells p).toArray = #[.string r.pr, .slice p.a r.hd.length p.c, .slice p.ba r.bd.length p.bc] := rfl
  rw [hbox] at hld HC ⊢
  rw [hcl] at hld HC HB HR0
  clear hB hR hs her hT hbox hcl hF0
  go_enter Tryz.func41, Tryz.ntmps41
  go_wp2_with fail
  refine HC.out.mono ?_
  rintro e w1 ⟨rfl, b1⟩
  have B1 : Hid (Below w.heap.size w w1) := HB.out.trans (b1.mono HB.out.size)
  have HR1 : Hid (RL w1 w.heap.size 72 (r.cells p)) := RL.below HR0.out b1
  clear b1 HB HR0 HC hld
  cases hrb : ruleB (d + 1) r
  · have HER : Hid (er = 40) := by show _ = _; rw [HE.out, hrb]; rfl
    have e0 : errB false = 40 := rfl
    rw [e0]
    clear hrb e0
    go_wp2
    go_ret
    exact ⟨by first | (rw [HER.out]; rfl) | rw [HER.out], B1.out⟩
  · have e0 : errB true = 0 := rfl
    rw [e0]
    rw [hrb, if_pos rfl] at HE
    have hlb := (rule_loads HR1.out).2.1
    clear hrb e0
    by_cases h12 : 12 < r.bd.length
    · have h12' : (12 : Int) < (r.bd.length : Int) := by omega
      have HER : Hid (er = 70) := by show _ = _; rw [HE.out, if_pos h12]
      clear h12
      go_wp2
      go_ret
      exact ⟨by first | (rw [HER.out]; rfl) | rw [HER.out], B1.out⟩
    · have h12' : ¬ ((12 : Int) < (r.bd.length : Int)) := by omega
      rw [if_neg h12] at HE
      have hbd : r.bd.length ≤ 1048576 := by omega
      clear h12
      have hD : Below w1.heap.size w1 w1.drew := (Below.refl _ _).drew
      obtain ⟨e1, he1⟩ : ∃ e1, inpE (stR r) (vsT [] (termsR (d + 1) r)) = e1 := ⟨_, rfl⟩
      have HC1 : Hid (Calls Tryz.prog 24 #[r.val p] w1.drew fun e u1 => ∃ sv1, e = .returned sv1 ∧ Below w1.heap.size w1 u1 ∧ Calls Tryz.prog 38 #[r.val p] u1 fun e u2 => ∃ sv2, e = .returned sv2 ∧ Below w1.heap.size w1 u2 ∧ Calls Tryz.prog 60 #[sv1, sv2] u2 fun e u3 => e = .returned (.int .i64 e1) ∧ Below w1.heap.size w1 u3) := by
        have k0 : Below w.heap.size w w1.drew := B1.out.trans (hD.mono B1.out.size)
        refine (rulePreds_any (d + 1) r p w1.drew (HR.out _ k0) hbd).mono ?_
        rintro e u1 ⟨a1, c1, rfl, o1, q1⟩
        have k1 : Below w1.heap.size w1 u1 := hD.trans (q1.mono hD.size)
        have k1w : Below w.heap.size w u1 := B1.out.trans (k1.mono B1.out.size)
        refine ⟨_, rfl, k1, ?_⟩
        refine (vruleVars_any (d + 1) r p u1 (HR.out _ k1w) (by have := HS.out.terms; omega)).mono ?_
        rintro e u2 ⟨sv2, rfl, l2, q2⟩
        have k2 : Below w1.heap.size w1 u2 := k1.trans (q2.mono k1.size)
        refine ⟨sv2, rfl, k2, ?_⟩
        refine (inputPreds_any _ sv2 (stR r) _ u2 ((ls_own o1).below q2) l2).mono ?_
        rintro e u3 ⟨rfl, q3⟩
        exact ⟨by rw [he1], k2.trans (q3.mono k2.size)⟩
      rw [he1] at HE
      have HLD : Hid (∀ u, Below w1.heap.size w1 u → (loadVar 72 ⟨w.heap.size, 0, none⟩).run Tryz.prog u = .ok (r.val p) u) := fun u hu => (rule_loads (RL.below HR1.out hu)).1
      have HCR : Hid (∀ u, Below w1.heap.size w1 u → Calls Tryz.prog 16 #[r.val p] u fun e w' => e = .returned (.int .i64 (ruE (d + 1) r (F r))) ∧ Below u.heap.size u w') := fun u hu => by
        have ku : Below w.heap.size w u := B1.out.trans (hu.mono B1.out.size)
        exact ckRule_any d r p u (HKT.out u ku) (HR.out u ku) HS.out (F r) HF.out
      have HDD := Lib.hid hD
      generalize ruE (d + 1) r (F r) = er2 at HE HCR
      generalize R3.val r p = rv at HLD HC1 HCR
      clear hD HR HR1 HS HF HKT he1 hbd
      go_upto_region 6 with fail
      clear hlb
      refine wp_region_noPanic ?_
      refine wp_region_held (S := fun u => Below w1.heap.size w1 u) (by kernel_rfl) ?_
      refine cirule (w5 := w1) (S := fun u => Below w1.heap.size w1 u) (b := w.heap.size) (rv := rv) (er := e1) rfl rfl rfl rfl rfl rfl (by kernel_rfl) (by kernel_rfl) (by kernel_rfl) (by kernel_rfl) (by kernel_rfl) (by kernel_rfl) (fun _ _ _ _ _ h => h) (by simp) rfl HDD.out (fun _ _ _ h => h) (fun u hu => HLD.out u hu) HC1.out ?_
      intro wc sv1 sv2 hwc
      have B2 : Hid (Below w.heap.size w wc) := B1.out.trans (hwc.mono B1.out.size)
      have hlc := HLD.out wc hwc
      have HRC := Lib.hid (HCR.out wc hwc)
      clear hwc HC1 HLD HDD B1 HCR
      refine NoPanic.normal ?_
      rename_i hK
      refine hK _ _ ?_
      simp (config := { maxSteps := 8000000 }) only [Act.put, List.getElem_toArray, List.getElem_cons_zero, List.getElem_cons_succ, List.setIfInBounds_toArray, List.set_cons_succ, List.set_cons_zero]
      by_cases hz : e1 = 0
      · subst hz
        rw [if_pos rfl] at HE
        go_wp2_with fail
        refine HRC.out.mono ?_
        rintro e w3 ⟨rfl, b3⟩
        have B3 : Hid (Below w.heap.size w w3) := B2.out.trans (b3.mono B2.out.size)
        clear b3 HRC hlc
        go_wp2
        go_ret
        exact ⟨by first | (rw [HE.out]; rfl) | rw [HE.out], B3.out⟩
      · rw [if_neg hz] at HE
        have e0 : (e1 != 0) = true := by rw [bne_iff_ne]; exact hz
        clear hz HRC hlc
        go_wp2
        go_ret
        exact ⟨by first | (rw [HE.out]; rfl) | rw [HE.out], B2.out⟩
/-- the rules, each by itself: where it ends, and why -/
def rcR (d : Nat) (F : R3 → List ByteArray) : List XR → Nat → Int × Int
  | [], _ => (0, 0)
  | y :: l, i => if riE d F y.r = 0 then rcR d F l (i + 1) else ((i : Int), riE d F y.r)
/-- and their columns -/
def rtR (s : List Pd) : List XR → Nat → Int × Int × List Pd
  | [], _ => (0, 0, s)
  | y :: l, i => match letL s (stR y.r) with
    | some t => rtR t l (i + 1)
    | none => ((i : Int), 72, s)
def raR (d : Nat) (F : R3 → List ByteArray) (s : List Pd) (rs : List XR) : Int × Int × List Pd := if 500 < rs.length then (0, 70, s) else if (rcR d F rs 0).2 = 0 then rtR s rs 0 else ((rcR d F rs 0).1, (rcR d F rs 0).2, s)
theorem rcR_step {d : Nat} {F : R3 → List ByteArray} {rs : List XR} {k : Nat} (h : k < rs.length) : rcR d F (rs.drop k) k = if riE d F (atR rs k).r = 0 then rcR d F (rs.drop (k + 1)) (k + 1) else ((k : Int), riE d F (atR rs k).r) := by
  rw [List.drop_eq_getElem_cons h, ← atR_eq h, rcR]
theorem rtR_step {s : List Pd} {rs : List XR} {k : Nat} (h : k < rs.length) : rtR s (rs.drop k) k = match letL s (stR (atR rs k).r) with
    | some t => rtR t (rs.drop (k + 1)) (k + 1)
    | none => ((k : Int), 72, s) := by
  rw [List.drop_eq_getElem_cons h, ← atR_eq h, rtR]
set_option maxHeartbeats 6400000 in
set_option maxRecDepth 100000 in
theorem inputRules_any {w0 w : World} {b : Nat} {s : List Pd} (h : Cs w0 b s w) (d : Nat) (F : R3 → List ByteArray) (hF0 : ∀ r, Lim (eqL (d + 1) r.bd) (atN r.bd) (F r)) (rs : List XR) (ra : Option Addr) (rc : Nat) (hT : KT w0) (hR : Lr w0 (.slice ra rs.length rc) (d + 1) rs) (hsm : ∀ i, i < rs.length → smallR (d + 1) (atR rs i).r) :
    Calls Tryz.prog 18 #[.map (some b), .slice ra rs.length rc] w fun e w' => e = .returned (.tuple #[.int .i64 (raR (d + 1) F s rs).1, .int .i64 (raR (d + 1) F s rs).2.1]) ∧ Below w0.heap.size w0 w' ∧ ((raR (d + 1) F s rs).2.1 = 0 → Cs w0 b (raR (d + 1) F s rs).2.2 w') := by
  have HRE : Hid (∀ i, i < rs.length → ∀ u, Below w0.heap.size w0 u → RIs u (d + 1) (atR rs i).r (atR rs i).p) := fun i hi u hu => (hR.each i hi).below hu
  have HKT : Hid (∀ u, Below w0.heap.size w0 u → KT u) := fun u hu => hT.below hu
  obtain ⟨ra', rc', hv, hr1, hr2, hrat⟩ := hR.form
  injection hv with hv1 _ hv2
  subst hv1 hv2
  have hmr : rs.length ≤ maxLen := Nat.le_trans hr1 hr2
  unfold maxLen at hmr
  have HRA := Lib.hid hrat
  have HSM := Lib.hid hsm
  have HLM := Lib.hid hF0
  have HCS := Lib.hid h
  have HD : Hid (raR (d + 1) F s rs = if 500 < rs.length then (0, 70, s) else if (rcR (d + 1) F rs 0).2 = 0 then rtR s rs 0 else ((rcR (d + 1) F rs 0).1, (rcR (d + 1) F rs 0).2, s)) := rfl
  obtain ⟨R, hR2⟩ : ∃ R, raR (d + 1) F s rs = R := ⟨_, rfl⟩
  rw [hR2] at HD ⊢
  clear hrat hR hT h hR2 hsm hF0
  go_enter Tryz.func18, Tryz.ntmps18
  by_cases hbig : 500 < rs.length
  · have hbig' : (500 : Int) < (rs.length : Int) := by omega
    have HE : Hid (R = (0, 70, s)) := by show _ = _; rw [HD.out, if_pos hbig]
    clear hbig
    go_wp2
    go_ret2
    rw [HE.out]
    exact ⟨rfl, HCS.out.bl, fun h => by cases h⟩
  · have hbig' : ¬ ((500 : Int) < (rs.length : Int)) := by omega
    rw [if_neg hbig] at HD
    clear hbig
    go_wp2
    go_loopw [16] (fun i wr => ∃ (k : Nat), k ≤ rs.length ∧ i = .int .i64 k ∧ Hid (rcR (d + 1) F rs 0 = rcR (d + 1) F (rs.drop k) k) ∧ Hid (Cs w0 b s wr)) (fun i _ => rs.length - (intOf i).toNat)
    case atStart => exact ⟨0, Nat.zero_le _, rfl, rfl, HCS⟩
    case round =>
      clear HCS
      obtain ⟨k, hk, rfl, HE, HC⟩ := hrel
      obtain ⟨U, rfl⟩ : ∃ U, U = wr := ⟨_, rfl⟩
      by_cases hlt : k < rs.length
      · have hlt' : (k : Int) < (rs.length : Int) := by omega
        have hk0 : (0 : Int) ≤ (k : Int) := by omega
        obtain ⟨g, off, rfl, hg, hT⟩ := HRA.out (by omega)
        have r1 := range_below (hT k hlt) HC.out.bl hg
        have HST := Lib.hid (rcR_step (d := d + 1) (F := F) hlt)
        rw [← HE.out] at HST
        have HRI := Lib.hid (HRE.out k hlt)
        have HSR := Lib.hid (HSM.out k hlt)
        obtain ⟨y, hy⟩ : ∃ y, atR rs k = y := ⟨_, rfl⟩
        rw [hy] at r1 HST HRI HSR
        have hld := load_Rul r1 rfl
        have hst := rule_storeP U y
        have BA := belowA (w := U) (.cells y.cells.toArray 72)
        have hl8 := load_boxR (rl_new U y.cells.toArray 72)
        have HC2 := Lib.hid (HC.out.below BA)
        clear hT r1 hy BA HC
        generalize U.alloc (.cells y.cells.toArray 72) = W1 at hst hl8 HC2
        have HI := Lib.hid (inputRule_any d F HLM.out y.r y.p W1 (HKT.out W1 HC2.out.bl) (HRI.out W1 HC2.out.bl) HSR.out)
        rw [← XR.val_eq] at HI
        generalize Value.agg y.cells.toArray = QV at hld hst hl8 HI
        obtain ⟨e0, he0⟩ : ∃ e0, riE (d + 1) F y.r = e0 := ⟨_, rfl⟩
        rw [he0] at HST HI
        clear HRI HSR he0 HE
        by_cases hz : e0 = 0
        · subst hz
          rw [if_pos rfl] at HST
          go_wp2_with fail
          refine HI.out.mono ?_
          rintro e w2 ⟨rfl, b2⟩
          have HC3 := Lib.hid (HC2.out.below b2)
          clear b2 HI hld hst hl8 HC2
          go_wp2
          go_roundw
          case rel => exact ⟨k + 1, by omega, by go_num, HST, HC3⟩
          case measure => simp [intOf]; omega
        · rw [if_neg hz] at HST
          have e1 : (e0 != 0) = true := by rw [bne_iff_ne]; exact hz
          have HZ := Lib.hid hz
          have HER : Hid (R = ((k : Int), e0, s)) := by show _ = _; rw [HD.out, HST.out, if_neg hz]
          clear hz HST
          go_wp2_with fail
          refine HI.out.mono ?_
          rintro e w2 ⟨rfl, b2⟩
          have HC3 := Lib.hid (HC2.out.below b2)
          clear b2 HI hld hst hl8 HC2
          go_wp2
          go_ret2
          rw [HER.out]
          exact ⟨rfl, HC3.out.bl, fun h => absurd h HZ.out⟩
      · obtain rfl : k = rs.length := by omega
        rw [List.drop_length, rcR] at HE
        have HER : Hid (R = rtR s rs 0) := by show _ = _; rw [HD.out, HE.out]; rfl
        clear hlt hk HE HD
        go_wp2
        go_loopw [30] (fun i wr => ∃ (k : Nat) (t : List Pd), k ≤ rs.length ∧ i = .int .i64 k ∧ Hid (R = rtR t (rs.drop k) k) ∧ Hid (Cs w0 b t wr)) (fun i _ => rs.length - (intOf i).toNat)
        case atStart => exact ⟨0, s, Nat.zero_le _, rfl, HER, HC⟩
        case round =>
          clear HER HC
          obtain ⟨k, t, hk, rfl, HE, HC⟩ := hrel
          obtain ⟨V, rfl⟩ : ∃ V, V = wr := ⟨_, rfl⟩
          by_cases hlt : k < rs.length
          · have hlt' : (k : Int) < (rs.length : Int) := by omega
            have hk0 : (0 : Int) ≤ (k : Int) := by omega
            obtain ⟨g, off, rfl, hg, hT⟩ := HRA.out (by omega)
            have r1 := range_below (hT k hlt) HC.out.bl hg
            have HST := Lib.hid (rtR_step (s := t) hlt)
            rw [← HE.out] at HST
            have HRI := Lib.hid (HRE.out k hlt)
            have hb : (atR rs k).r.bd.length ≤ 1048576 := (HSM.out k hlt).bd
            obtain ⟨y, hy⟩ : ∃ y, atR rs k = y := ⟨_, rfl⟩
            rw [hy] at r1 HST HRI hb
            have hld := load_Rul r1 rfl
            have hst := rule_storeP V y
            have BA := belowA (w := V) (.cells y.cells.toArray 72)
            have hl8 := load_boxR (rl_new V y.cells.toArray 72)
            have HC2 := Lib.hid (HC.out.below BA)
            clear hT r1 hy BA HC
            generalize V.alloc (.cells y.cells.toArray 72) = W1 at hst hl8 HC2
            have HCP := Lib.hid (rulePreds_any (d + 1) y.r y.p W1 (HRI.out W1 HC2.out.bl) hb)
            rw [← XR.val_eq] at HCP
            have HNM := Lib.hid (st_names (HRI.out W1 HC2.out.bl))
            have hbz : b < W1.heap.size := HC2.out.mp.lt
            generalize Value.agg y.cells.toArray = QV at hld hst hl8 HCP
            clear HRI HE
            go_wp2_with fail
            refine HCP.out.mono ?_
            rintro e w2 ⟨a2, c2, rfl, own2, bb2⟩
            have HC3 := Lib.hid (HC2.out.below bb2)
            have HTA := Lib.hid (takeAll_any HC3.out.mp HC3.out.nd _ (stR y.r) (ls_own own2) HNM.out (own_ne own2 hbz))
            clear own2 bb2 HCP HC2 hld hst hl8 hb HNM hbz
            go_wp2_with fail
            refine HTA.out.mono ?_
            rintro e w3 ⟨ht, ⟨s', he, rfl, hm, hnd, hle⟩ | ⟨he, rfl⟩⟩
            · rw [he] at HST
              have HC4 : Hid (Cs w0 b s' w3) := ⟨hm, hnd, HC3.out.tz ht, HC3.out.lo⟩
              clear ht he hm hnd hle HTA HC3
              go_wp2
              go_roundw
              case rel => exact ⟨k + 1, s', by omega, by go_num, HST, HC4⟩
              case measure => simp [intOf]; omega
            · rw [he] at HST
              have HBF := Lib.hid (HC3.out.tz ht)
              clear ht he HTA HC3
              go_wp2
              go_ret2
              rw [HST.out]
              exact ⟨rfl, HBF.out, fun h => by cases h⟩
          · obtain rfl : k = rs.length := by omega
            rw [List.drop_length, rtR] at HE
            go_wp2
            go_ret2
            rw [HE.out]
            exact ⟨rfl, HC.out.bl, fun _ => HC.out⟩
/-- the refusal: part, code, place -/
def inR (d : Nat) (F : R3 → List ByteArray) (rs : List XR) (fs : List XF) (pr : ByteArray) (ts : List T) : Int × Int × Int :=
  if (raR d F [] rs).2.1 = 0 then
    (if (faR (raR d F [] rs).2.2 fs).2.1 = 0 then
      (if qyE (faR (raR d F [] rs).2.2 fs).2.2 pr ts = 0 then (0, 0, 0) else (3, qyE (faR (raR d F [] rs).2.2 fs).2.2 pr ts, 0))
    else (2, (faR (raR d F [] rs).2.2 fs).2.1, (faR (raR d F [] rs).2.2 fs).1))
  else (1, (raR d F [] rs).2.1, (raR d F [] rs).1)
def refV (x : Int × Int × Int) : Value := .agg #[.int .i8 x.1, .int .i64 x.2.1, .int .i64 x.2.2]
theorem load_refV {u : World} {b : Nat} {x y z : Int} (h : RL u b 38 [.int .i8 x, .int .i64 y, .int .i64 z]) : (loadVar 38 ⟨b, 0, none⟩).run Tryz.prog u = .ok (.agg #[.int .i8 x, .int .i64 y, .int .i64 z]) u :=
  run_loadVar_mid _ _ 0 38 [.int .i8 x, .int .i64 y, .int .i64 z] _ (RL.range h) Tryz.underlying38 rfl (by kernel_rfl)
end Go.Proofs.YtlnioaokpmeioaaGreatDoor
end
section
namespace Go.Proofs.YtlnioaokpmeioaaGreatDoor
open Go.RowKit Go.Maps
set_option linter.unusedVariables false
set_option linter.unusedSimpArgs false
attribute [local go_sem ↓] Go.wp_at_zero Go.wp_at_succ

theorem ref_set {u : World} {b : Nat} (h : RL u b 38 [.int .i8 0, .int .i64 0, .int .i64 0]) (x y z : Int) : RL (((u.setCell ⟨b, 0, none⟩ (.int .i8 x)).setCell ⟨b, 1, none⟩ (.int .i64 y)).setCell ⟨b, 2, none⟩ (.int .i64 z)) b 38 [.int .i8 x, .int .i64 y, .int .i64 z] := ((h.set 0 _).set 1 _).set 2 _
theorem ref_below {w u : World} {b : Nat} {x y z : Value} (h : Below w.heap.size w u) (hb : w.heap.size ≤ b) : Below w.heap.size w (((u.setCell ⟨b, 0, none⟩ x).setCell ⟨b, 1, none⟩ y).setCell ⟨b, 2, none⟩ z) :=
  ((h.setCell (p := ⟨b, 0, none⟩) hb _).setCell (p := ⟨b, 1, none⟩) hb _).setCell (p := ⟨b, 2, none⟩) hb _
set_option maxHeartbeats 6400000 in
set_option maxRecDepth 100000 in
theorem input_any (d : Nat) (F : R3 → List ByteArray) (hF0 : ∀ r, Lim (eqL (d + 1) r.bd) (atN r.bd) (F r)) (rs : List XR) (fs : List XF) (pr : ByteArray) (ts : List T) (ra : Option Addr) (rc : Nat) (fa : Option Addr) (fc : Nat) (qa : Option Addr) (qc : Nat) (w : World) (hG : KT w ∧ LX.Gl w) (hR : Lr w (.slice ra rs.length rc) (d + 1) rs) (hsm : ∀ i, i < rs.length → smallR (d + 1) (atR rs i).r) (hF : Lf w (.slice fa fs.length fc) fs) (hpr : pr.size ≤ maxLen) (hlen : ts.length ≤ 4398046511104) (hL : Lt w (.slice qa ts.length qc) ts) :
    Calls Tryz.prog 9 #[.agg #[.slice ra rs.length rc], .slice fa fs.length fc, .agg #[.string pr, .slice qa ts.length qc]] w fun e w' => e = .returned (refV (inR (d + 1) F rs fs pr ts)) ∧ Below w.heap.size w w' := by
  obtain ⟨A1, hA1⟩ : ∃ A1, A1 = w.alloc (.cells #[.slice ra rs.length rc] 41) := ⟨_, rfl⟩
  obtain ⟨A2, hA2⟩ : ∃ A2, A2 = A1.alloc (.cells #[.string pr, .slice qa ts.length qc] 26) := ⟨_, rfl⟩
  obtain ⟨W0, hW0⟩ : ∃ W0, W0 = A2.alloc (.cells #[.int .i8 0, .int .i64 0, .int .i64 0] 38) := ⟨_, rfl⟩
  have z1 : A1.heap.size = w.heap.size + 1 := by rw [hA1]; simp
  have z2 : A2.heap.size = w.heap.size + 2 := by rw [hA2]; simp [z1]
  have z3 : W0.heap.size = w.heap.size + 3 := by rw [hW0]; simp [z2]
  have b1 : Below w.heap.size w A1 := by rw [hA1]; exact belowA _
  have b2 : Below A1.heap.size A1 A2 := by rw [hA2]; exact belowA _
  have b3 : Below A2.heap.size A2 W0 := by rw [hW0]; exact belowA _
  have k2 : Below A1.heap.size A1 W0 := b2.trans (b3.mono b2.size)
  have k1 : Below w.heap.size w W0 := b1.trans (k2.mono b1.size)
  have HR3 : Hid (RL W0 w.heap.size 41 [.slice ra rs.length rc]) := by
    have := rl_new w #[.slice ra rs.length rc] 41
    rw [← hA1] at this
    exact RL.below this k2
  have HR5 : Hid (RL W0 (w.heap.size + 1) 26 [.string pr, .slice qa ts.length qc]) := by
    have := rl_new A1 #[.string pr, .slice qa ts.length qc] 26
    rw [← hA2, z1] at this
    exact RL.below this b3
  have HR6 : Hid (RL W0 (w.heap.size + 2) 38 [.int .i8 0, .int .i64 0, .int .i64 0]) := by
    have := rl_new A2 #[.int .i8 0, .int .i64 0, .int .i64 0] 38
    rw [← hW0, z2] at this
    exact this
  have hmk := run_makeCols W0
  have bm := belowA (w := W0) (.map #[] 0)
  have HC0 : Hid (Cs W0 W0.heap.size [] (W0.alloc (.map #[] 0))) := ⟨MapP.made W0, by simp, bm, Nat.le_refl _⟩
  have x0 := RL.at (RL.below HR3.out bm) (j := 0) rfl
  have HI := Lib.hid (inputRules_any HC0.out d F hF0 rs ra rc (hG.1.below k1) (hR.below k1) hsm)
  have HIF : Hid (∀ (u : World) (s : List Pd), Cs W0 W0.heap.size s u → _) := fun u s hu => inputFacts_any hu fs _ (hG.2.below k1) (hF.below k1)
  have HIQ : Hid (∀ (u : World) (s : List Pd), Cs W0 W0.heap.size s u → _) := fun u s hu => inputQuery_any hu pr ts qa qc hpr hlen ((hL.below k1).below (hu.bl))
  have HK1 := Lib.hid k1
  have HZ3 := Lib.hid z3
  have HE : Hid (inR (d + 1) F rs fs pr ts = if (raR (d + 1) F [] rs).2.1 = 0 then (if (faR (raR (d + 1) F [] rs).2.2 fs).2.1 = 0 then (if qyE (faR (raR (d + 1) F [] rs).2.2 fs).2.2 pr ts = 0 then (0, 0, 0) else (3, qyE (faR (raR (d + 1) F [] rs).2.2 fs).2.2 pr ts, 0)) else (2, (faR (raR (d + 1) F [] rs).2.2 fs).2.1, (faR (raR (d + 1) F [] rs).2.2 fs).1)) else (1, (raR (d + 1) F [] rs).2.1, (raR (d + 1) F [] rs).1)) := rfl
  obtain ⟨R, hRR⟩ : ∃ R, inR (d + 1) F rs fs pr ts = R := ⟨_, rfl⟩
  rw [hRR] at HE ⊢
  generalize raR (d + 1) F [] rs = A at HI HE
  obtain ⟨at1, er1, s1⟩ := A
  dsimp only at HI HE
  clear z1 z2 z3 b1 b2 b3 k1 k2 bm hG hR hsm hF hL hF0 hRR
  go_enter Tryz.func9, Tryz.ntmps9
  go_upto_region 1 with fail
  rw [← hA1, ← hA2, ← hW0]
  clear hA1 hA2 hW0
  go_wp2_with fail
  clear hmk x0
  refine HI.out.mono ?_
  rintro e w1 ⟨rfl, b1, h1⟩
  have HH1 := Lib.hid h1
  have HB1 := Lib.hid b1
  clear h1 b1 HI HC0
  by_cases hz1 : er1 = 0
  · subst hz1
    have HC1 := Lib.hid (HH1.out rfl)
    rw [if_pos rfl] at HE
    have HI := Lib.hid (HIF.out w1 s1 HC1.out)
    generalize faR s1 fs = A at HI HE
    obtain ⟨at2, er2, s2⟩ := A
    dsimp only at HI HE
    clear HH1 HIF
    go_wp2_with fail
    refine HI.out.mono ?_
    rintro e w2 ⟨rfl, b2, h2⟩
    have HH2 := Lib.hid h2
    have HB2 := Lib.hid b2
    clear h2 b2 HI HB1 HC1
    by_cases hz2 : er2 = 0
    · subst hz2
      have HC2 := Lib.hid (HH2.out rfl)
      rw [if_pos rfl] at HE
      have HI := Lib.hid (HIQ.out w2 s2 HC2.out)
      have y0 := RL.at (RL.below HR5.out HB2.out) (j := 0) rfl
      have y1 := RL.at (RL.below HR5.out HB2.out) (j := 1) rfl
      generalize qyE s2 pr ts = er3 at HI HE
      clear HH2 HIQ
      go_wp2_with fail
      clear y0 y1
      refine HI.out.mono ?_
      rintro e w3 ⟨rfl, b3⟩
      have HB3 : Hid (Below w.heap.size w w3) := HK1.out.trans (b3.mono HK1.out.size)
      have HR63 : Hid (RL w3 (w.heap.size + 2) 38 [.int .i8 0, .int .i64 0, .int .i64 0]) := RL.below HR6.out b3
      have c0 := RL.at HR63.out (j := 0) rfl
      have c1 := RL.at HR63.out (j := 1) rfl
      have c2 := RL.at HR63.out (j := 2) rfl
      have f0 := World.rowIs.frozen HR63.out 0
      have f1 := World.rowIs.frozen HR63.out 1
      have f2 := World.rowIs.frozen HR63.out 2
      clear b3 HI HB2 HC2
      by_cases hz3 : er3 = 0
      · subst hz3
        rw [if_pos rfl] at HE
        go_wp2
        refine bodyPost_ret (rl_results Tryz.results9 (v := .agg #[.int .i8 0, .int .i64 0, .int .i64 0]) rfl (load_refV (ref_set HR63.out 0 0 0))) rfl ?_
        rw [HE.out]
        exact ⟨rfl, ref_below HB3.out (by omega)⟩
      · rw [if_neg hz3] at HE
        have e0 : (er3 != 0) = true := by rw [bne_iff_ne]; exact hz3
        clear hz3
        go_wp2
        refine bodyPost_ret (rl_results Tryz.results9 (v := .agg #[.int .i8 3, .int .i64 er3, .int .i64 0]) rfl (load_refV (ref_set HR63.out 3 er3 0))) rfl ?_
        rw [HE.out]
        exact ⟨rfl, ref_below HB3.out (by omega)⟩
    · rw [if_neg hz2] at HE
      have e0 : (er2 != 0) = true := by rw [bne_iff_ne]; exact hz2
      have HB3 : Hid (Below w.heap.size w w2) := HK1.out.trans (HB2.out.mono HK1.out.size)
      have HR63 : Hid (RL w2 (w.heap.size + 2) 38 [.int .i8 0, .int .i64 0, .int .i64 0]) := RL.below HR6.out HB2.out
      have c0 := RL.at HR63.out (j := 0) rfl
      have c1 := RL.at HR63.out (j := 1) rfl
      have c2 := RL.at HR63.out (j := 2) rfl
      have f0 := World.rowIs.frozen HR63.out 0
      have f1 := World.rowIs.frozen HR63.out 1
      have f2 := World.rowIs.frozen HR63.out 2
      clear hz2 HH2 HIQ
      go_wp2
      refine bodyPost_ret (rl_results Tryz.results9 (v := .agg #[.int .i8 2, .int .i64 er2, .int .i64 at2]) rfl (load_refV (ref_set HR63.out 2 er2 at2))) rfl ?_
      rw [HE.out]
      exact ⟨rfl, ref_below HB3.out (by omega)⟩
  · rw [if_neg hz1] at HE
    have e0 : (er1 != 0) = true := by rw [bne_iff_ne]; exact hz1
    have HB3 : Hid (Below w.heap.size w w1) := HK1.out.trans (HB1.out.mono HK1.out.size)
    have HR63 : Hid (RL w1 (w.heap.size + 2) 38 [.int .i8 0, .int .i64 0, .int .i64 0]) := RL.below HR6.out HB1.out
    have c0 := RL.at HR63.out (j := 0) rfl
    have c1 := RL.at HR63.out (j := 1) rfl
    have c2 := RL.at HR63.out (j := 2) rfl
    have f0 := World.rowIs.frozen HR63.out 0
    have f1 := World.rowIs.frozen HR63.out 1
    have f2 := World.rowIs.frozen HR63.out 2
    clear hz1 HH1 HIQ HIF
    go_wp2
    refine bodyPost_ret (rl_results Tryz.results9 (v := .agg #[.int .i8 1, .int .i64 er1, .int .i64 at1]) rfl (load_refV (ref_set HR63.out 1 er1 at1))) rfl ?_
    rw [HE.out]
    exact ⟨rfl, ref_below HB3.out (by omega)⟩
end Go.Proofs.YtlnioaokpmeioaaGreatDoor
end
