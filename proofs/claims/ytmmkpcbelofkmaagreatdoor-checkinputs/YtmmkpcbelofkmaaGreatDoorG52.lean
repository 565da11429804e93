import Derived.Test.YtmmkpcbelofkmaaGreatDoorG51
section
namespace Go.Proofs.YtmmkpcbelofkmaaGreatDoor
open Go.RowKit Go.Maps
set_option linter.unusedVariables false
set_option linter.unusedSimpArgs false
attribute [local go_sem ↓] Go.wp_at_zero Go.wp_at_succ

theorem ref_set {u : World} {b : Nat} (h : RL u b 37 [.int .i8 0, .int .i64 0, .int .i64 0]) (x y z : Int) : RL (((u.setCell ⟨b, 0, none⟩ (.int .i8 x)).setCell ⟨b, 1, none⟩ (.int .i64 y)).setCell ⟨b, 2, none⟩ (.int .i64 z)) b 37 [.int .i8 x, .int .i64 y, .int .i64 z] := ((h.set 0 _).set 1 _).set 2 _
theorem ref_below {w u : World} {b : Nat} {x y z : Value} (h : Below w.heap.size w u) (hb : w.heap.size ≤ b) : Below w.heap.size w (((u.setCell ⟨b, 0, none⟩ x).setCell ⟨b, 1, none⟩ y).setCell ⟨b, 2, none⟩ z) :=
  ((h.setCell (p := ⟨b, 0, none⟩) hb _).setCell (p := ⟨b, 1, none⟩) hb _).setCell (p := ⟨b, 2, none⟩) hb _
set_option maxHeartbeats 6400000 in
set_option maxRecDepth 100000 in
theorem input_any (d : Nat) (F : R3 → List ByteArray) (hF0 : ∀ r, Lim (eqL (d + 1) r.bd) (atN r.bd) (F r)) (rs : List XR) (fs : List XF) (pr : ByteArray) (ts : List T) (ra : Option Addr) (rc : Nat) (fa : Option Addr) (fc : Nat) (qa : Option Addr) (qc : Nat) (w : World) (hG : KT w ∧ LX.Gl w) (hR : Lr w (.slice ra rs.length rc) (d + 1) rs) (hsm : ∀ i, i < rs.length → smallR (d + 1) (atR rs i).r) (hF : Lf w (.slice fa fs.length fc) fs) (hpr : pr.size ≤ maxLen) (hlen : ts.length ≤ 4398046511104) (hL : Lt w (.slice qa ts.length qc) ts) :
    Calls Tryz.prog 8 #[.agg #[.slice ra rs.length rc], .slice fa fs.length fc, .agg #[.string pr, .slice qa ts.length qc]] w fun e w' => e = .returned (refV (inR (d + 1) F rs fs pr ts)) ∧ Below w.heap.size w w' := by
  obtain ⟨A1, hA1⟩ : ∃ A1, A1 = w.alloc (.cells #[.slice ra rs.length rc] 24) := ⟨_, rfl⟩
  obtain ⟨A2, hA2⟩ : ∃ A2, A2 = A1.alloc (.cells #[.string pr, .slice qa ts.length qc] 28) := ⟨_, rfl⟩
  obtain ⟨W0, hW0⟩ : ∃ W0, W0 = A2.alloc (.cells #[.int .i8 0, .int .i64 0, .int .i64 0] 37) := ⟨_, rfl⟩
  have z1 : A1.heap.size = w.heap.size + 1 := by rw [hA1]; simp
  have z2 : A2.heap.size = w.heap.size + 2 := by rw [hA2]; simp [z1]
  have z3 : W0.heap.size = w.heap.size + 3 := by rw [hW0]; simp [z2]
  have b1 : Below w.heap.size w A1 := by rw [hA1]; exact belowA _
  have b2 : Below A1.heap.size A1 A2 := by rw [hA2]; exact belowA _
  have b3 : Below A2.heap.size A2 W0 := by rw [hW0]; exact belowA _
  have k2 : Below A1.heap.size A1 W0 := b2.trans (b3.mono b2.size)
  have k1 : Below w.heap.size w W0 := b1.trans (k2.mono b1.size)
  have HR3 : Hid (RL W0 w.heap.size 24 [.slice ra rs.length rc]) := by
    have := rl_new w #[.slice ra rs.length rc] 24
    rw [← hA1] at this
    exact RL.below this k2
  have HR5 : Hid (RL W0 (w.heap.size + 1) 28 [.string pr, .slice qa ts.length qc]) := by
    have := rl_new A1 #[.string pr, .slice qa ts.length qc] 28
    rw [← hA2, z1] at this
    exact RL.below this b3
  have HR6 : Hid (RL W0 (w.heap.size + 2) 37 [.int .i8 0, .int .i64 0, .int .i64 0]) := by
    have := rl_new A2 #[.int .i8 0, .int .i64 0, .int .i64 0] 37
    rw [← hW0, z2] at this
    exact this
  have hmk := run_makeCols W0
  have bm := belowA (w := W0) (.map #[] 0)
  have HC0 : Hid (Cs W0 W0.heap.size [] (W0.alloc (.map #[] 0))) := ⟨MapP.made W0, by simp, bm, Nat.le_refl _⟩
  have x0 := RL.at (RL.below HR3.out bm) (j := 0) rfl
  have HI := Lib.hid (inputRules_any HC0.out d F hF0 rs ra rc (hG.1.below k1) (hR.below k1) hsm)
  have HIF : Hid (∀ (u : World) (s : List Pd), Cs W0 W0.heap.size s u → _) := fun u s hu => inputFacts_any hu fs _ (hG.2.below k1) (hF.below k1)
  have HIQ : Hid (∀ (u : World) (s : List Pd), Cs W0 W0.heap.size s u → _) := fun u s hu => inputQuery_any hu pr ts qa qc hpr hlen ((hL.below k1).below (hu.bl))
  have HK1 := Lib.hid k1
  have HZ3 := Lib.hid z3
  have HE : Hid (inR (d + 1) F rs fs pr ts = if (raR (d + 1) F [] rs).2.1 = 0 then (if (faR (raR (d + 1) F [] rs).2.2 fs).2.1 = 0 then (if qyE (faR (raR (d + 1) F [] rs).2.2 fs).2.2 pr ts = 0 then (0, 0, 0) else (3, qyE (faR (raR (d + 1) F [] rs).2.2 fs).2.2 pr ts, 0)) else (2, (faR (raR (d + 1) F [] rs).2.2 fs).2.1, (faR (raR (d + 1) F [] rs).2.2 fs).1)) else (1, (raR (d + 1) F [] rs).2.1, (raR (d + 1) F [] rs).1)) := rfl
  obtain ⟨R, hRR⟩ : ∃ R, inR (d + 1) F rs fs pr ts = R := ⟨_, rfl⟩
  rw [hRR] at HE ⊢
  generalize raR (d + 1) F [] rs = A at HI HE
  obtain ⟨at1, er1, s1⟩ := A
  dsimp only at HI HE
  clear z1 z2 z3 b1 b2 b3 k1 k2 bm hG hR hsm hF hL hF0 hRR
  go_enter Tryz.func8, Tryz.ntmps8
  go_upto_region 1 with fail
  rw [← hA1, ← hA2, ← hW0]
  clear hA1 hA2 hW0
  go_wp2_with fail
  clear hmk x0
  refine HI.out.mono ?_
  rintro e w1 ⟨rfl, b1, h1⟩
  have HH1 := Lib.hid h1
  have HB1 := Lib.hid b1
  clear h1 b1 HI HC0
  by_cases hz1 : er1 = 0
  · subst hz1
    have HC1 := Lib.hid (HH1.out rfl)
    rw [if_pos rfl] at HE
    have HI := Lib.hid (HIF.out w1 s1 HC1.out)
    generalize faR s1 fs = A at HI HE
    obtain ⟨at2, er2, s2⟩ := A
    dsimp only at HI HE
    clear HH1 HIF
    go_wp2_with fail
    refine HI.out.mono ?_
    rintro e w2 ⟨rfl, b2, h2⟩
    have HH2 := Lib.hid h2
    have HB2 := Lib.hid b2
    clear h2 b2 HI HB1 HC1
    by_cases hz2 : er2 = 0
    · subst hz2
      have HC2 := Lib.hid (HH2.out rfl)
      rw [if_pos rfl] at HE
      have HI := Lib.hid (HIQ.out w2 s2 HC2.out)
      have y0 := RL.at (RL.below HR5.out HB2.out) (j := 0) rfl
      have y1 := RL.at (RL.below HR5.out HB2.out) (j := 1) rfl
      generalize qyE s2 pr ts = er3 at HI HE
      clear HH2 HIQ
      go_wp2_with fail
      clear y0 y1
      refine HI.out.mono ?_
      rintro e w3 ⟨rfl, b3⟩
      have HB3 : Hid (Below w.heap.size w w3) := HK1.out.trans (b3.mono HK1.out.size)
      have HR63 : Hid (RL w3 (w.heap.size + 2) 37 [.int .i8 0, .int .i64 0, .int .i64 0]) := RL.below HR6.out b3
      have c0 := RL.at HR63.out (j := 0) rfl
      have c1 := RL.at HR63.out (j := 1) rfl
      have c2 := RL.at HR63.out (j := 2) rfl
      have f0 := World.rowIs.frozen HR63.out 0
      have f1 := World.rowIs.frozen HR63.out 1
      have f2 := World.rowIs.frozen HR63.out 2
      clear b3 HI HB2 HC2
      by_cases hz3 : er3 = 0
      · subst hz3
        rw [if_pos rfl] at HE
        go_wp2
        refine bodyPost_ret (rl_results Tryz.results8 (v := .agg #[.int .i8 0, .int .i64 0, .int .i64 0]) rfl (load_refV (ref_set HR63.out 0 0 0))) rfl ?_
        rw [HE.out]
        exact ⟨rfl, ref_below HB3.out (by omega)⟩
      · rw [if_neg hz3] at HE
        have e0 : (er3 != 0) = true := by rw [bne_iff_ne]; exact hz3
        clear hz3
        go_wp2
        refine bodyPost_ret (rl_results Tryz.results8 (v := .agg #[.int .i8 3, .int .i64 er3, .int .i64 0]) rfl (load_refV (ref_set HR63.out 3 er3 0))) rfl ?_
        rw [HE.out]
        exact ⟨rfl, ref_below HB3.out (by omega)⟩
    · rw [if_neg hz2] at HE
      have e0 : (er2 != 0) = true := by rw [bne_iff_ne]; exact hz2
      have HB3 : Hid (Below w.heap.size w w2) := HK1.out.trans (HB2.out.mono HK1.out.size)
      have HR63 : Hid (RL w2 (w.heap.size + 2) 37 [.int .i8 0, .int .i64 0, .int .i64 0]) := RL.below HR6.out HB2.out
      have c0 := RL.at HR63.out (j := 0) rfl
      have c1 := RL.at HR63.out (j := 1) rfl
      have c2 := RL.at HR63.out (j := 2) rfl
      have f0 := World.rowIs.frozen HR63.out 0
      have f1 := World.rowIs.frozen HR63.out 1
      have f2 := World.rowIs.frozen HR63.out 2
      clear hz2 HH2 HIQ
      go_wp2
      refine bodyPost_ret (rl_results Tryz.results8 (v := .agg #[.int .i8 2, .int .i64 er2, .int .i64 at2]) rfl (load_refV (ref_set HR63.out 2 er2 at2))) rfl ?_
      rw [HE.out]
      exact ⟨rfl, ref_below HB3.out (by omega)⟩
  · rw [if_neg hz1] at HE
    have e0 : (er1 != 0) = true := by rw [bne_iff_ne]; exact hz1
    have HB3 : Hid (Below w.heap.size w w1) := HK1.out.trans (HB1.out.mono HK1.out.size)
    have HR63 : Hid (RL w1 (w.heap.size + 2) 37 [.int .i8 0, .int .i64 0, .int .i64 0]) := RL.below HR6.out HB1.out
    have c0 := RL.at HR63.out (j := 0) rfl
    have c1 := RL.at HR63.out (j := 1) rfl
    have c2 := RL.at HR63.out (j := 2) rfl
    have f0 := World.rowIs.frozen HR63.out 0
    have f1 := World.rowIs.frozen HR63.out 1
    have f2 := World.rowIs.frozen HR63.out 2
    clear hz1 HH1 HIQ HIF
    go_wp2
    refine bodyPost_ret (rl_results Tryz.results8 (v := .agg #[.int .i8 1, .int .i64 er1, .int .i64 at1]) rfl (load_refV (ref_set HR63.out 1 er1 at1))) rfl ?_
    rw [HE.out]
    exact ⟨rfl, ref_below HB3.out (by omega)⟩
end Go.Proofs.YtmmkpcbelofkmaaGreatDoor
end
section
namespace Go.Proofs.YtmmkpcbelofkmaaGreatDoor
open Go.RowKit Go.Maps
set_option linter.unusedVariables false
set_option linter.unusedSimpArgs false
attribute [local go_sem ↓] Go.wp_at_zero Go.wp_at_succ

theorem rruleVarsO_any (d : Nat) (r : R3) (p : RP) (w : World) (hR : RIs w d r p) (hs : (termsR d r).length ≤ 1048576) : Calls Tryz.prog 73 #[r.val p] w fun e w' => ∃ sv, e = .returned sv ∧ w'.ownsRow w.heap.size 9 1 sv (vsT [] (termsR d r)).length ((vsT [] (termsR d r)).flatMap strB) ∧ Below w.heap.size w w' := by
  have BA := (Below.refl w.heap.size w).alloc (Nat.le_refl _) (.cells #[.string r.pr, .slice p.a r.hd.length p.c, .slice p.ba r.bd.length p.bc] 74)
  have HT : Hid _ := ruleTerms_any d r p _ (hR.below BA) hs
  have hld : (loadVar 74 ⟨w.heap.size, 0, none⟩).run Tryz.prog (w.alloc (.cells #[.string r.pr, .slice p.a r.hd.length p.c, .slice p.ba r.bd.length p.bc] 74)) = .ok (.agg #[.string r.pr, .slice p.a r.hd.length p.c, .slice p.ba r.bd.length p.bc]) _ := run_loadVar_mid _ _ 0 74 [.string r.pr, .slice p.a r.hd.length p.c, .slice p.ba r.bd.length p.bc] _ (RL.range (rl_new w #[.string r.pr, .slice p.a r.hd.length p.c, .slice p.ba r.bd.length p.bc] 74)) Tryz.underlying74 rfl (by kernel_rfl)
  have HWF : Hid _ := termsR_wf hR
  have HB : Hid (Below w.heap.size w _) := BA
  have hs' : (termsR d r).length ≤ 4398046511104 := by omega
  unfold R3.val at HT ⊢
  obtain ⟨ts, hts⟩ : ∃ ts, termsR d r = ts := ⟨_, rfl⟩
  rw [hts] at HT HWF hs' ⊢
  clear hR BA hs hts
  go_enter Tryz.func73, Tryz.ntmps73
  go_wp2_with fail
  refine Calls.mono HT.out ?_
  rintro ee w1 ⟨sv1, rfl, ho1, b1⟩
  have HB1 : Hid (Below w.heap.size w w1) := HB.out.trans (b1.mono HB.out.size)
  have HL1 : Hid (Lt w1 sv1 ts) := ⟨ho1, HWF.out⟩
  clear ho1 b1 hld
  go_wp2_with fail
  refine (vars_any sv1 ts w1 hs' HL1.out).mono ?_
  rintro ee w2 ⟨sv2, rfl, ho2, b2⟩
  go_wp2
  go_ret
  exact ⟨_, rfl, own_lower ho2 HB1.out.size, HB1.out.trans (b2.mono HB1.out.size)⟩
theorem rs_long (s : ByteArray) (h2 : 2 ≤ s.size) : rsN s = ((s.extract 0 2).toList == [113, 95]) := by
  have e : (s.extract 0 2).toList = s.data.toList.take 2 := by
    rw [ByteArray.toList_eq]
    simp
  unfold rsN
  rw [e]
  have h2' : 2 ≤ s.data.toList.length := by simpa using h2
  match s.data.toList, h2' with
  | a :: b :: r, _ => simp [Lib.hasPrefix, List.isPrefixOf, Bool.beq_eq_decide_eq, eq_comm]
theorem rs_short (s : ByteArray) (h2 : ¬ 2 ≤ s.size) : rsN s = false := by
  have h2' : ¬ 2 ≤ s.data.toList.length := by simpa using h2
  unfold rsN
  match s.data.toList, h2' with
  | [], _ => rfl
  | [a], _ => simp [Lib.hasPrefix, List.isPrefixOf]
  | a :: b :: r, h => exact absurd (show 2 ≤ (a :: b :: r).length by simp) h
theorem reserved_any (s : ByteArray) (w : World) : Calls Tryz.prog 47 #[.string s] w fun e w' => e = .returned (.bool (rsN s)) ∧ w' = w := by
  by_cases h2 : 2 ≤ s.size
  · have h2' : (2 : Int) ≤ (s.size : Int) := by omega
    rw [rs_long s h2]
    cases hb : ((s.extract 0 2).toList == [113, 95])
    · clear h2
      go_enter Tryz.func47, Tryz.ntmps47
      go_wp2
      go_ret
      exact ⟨rfl, rfl⟩
    · clear h2
      go_enter Tryz.func47, Tryz.ntmps47
      go_wp2
      go_ret
      exact ⟨rfl, rfl⟩
  · have h2' : ¬ (2 : Int) ≤ (s.size : Int) := by omega
    rw [rs_short s h2]
    clear h2
    go_enter Tryz.func47, Tryz.ntmps47
    go_wp2
    go_ret
    exact ⟨rfl, rfl⟩
theorem rlarge_any (v : Value) (l : List ByteArray) (w : World) (hL : Ls w v l.length (l.flatMap strB)) : Calls Tryz.prog 50 #[v] w fun e w' => e = .returned (.bool (l.any lgN)) ∧ w' = w := by
  obtain ⟨a, c, rfl, hc1, hc2, hat⟩ := ls_str hL
  have hmax : l.length ≤ maxLen := Nat.le_trans hc1 hc2
  unfold maxLen at hmax
  have HAT := Lib.hid hat
  obtain ⟨R, HR⟩ : ∃ R, Hid (l.any lgN = R) := ⟨_, rfl⟩
  rw [HR.out]
  clear hat hL
  go_enter Tryz.func50, Tryz.ntmps50
  go_wp2
  go_loopw [3] (fun i wr => wr = w ∧ ∃ k : Nat, k ≤ l.length ∧ i = .int .i64 k ∧ Hid ((l.take k).any lgN = false)) (fun i _ => l.length - (intOf i).toNat)
  case atStart => exact ⟨rfl, 0, Nat.zero_le _, rfl, rfl⟩
  case round =>
    obtain ⟨rfl, k, hk, rfl, HA⟩ := hrel
    by_cases hlt : k < l.length
    · have hlt' : (k : Int) < (l.length : Int) := by omega
      have hk0 : (0 : Int) ≤ (k : Int) := by omega
      obtain ⟨g, off, rfl, hg, hT⟩ := HAT.out (by omega)
      have x0 := hT k hlt
      have HNX : Hid ((l.take (k + 1)).any lgN = lgN (atS l k)) := by
        show _ = _
        rw [anyS_take hlt, HA.out, Bool.false_or]
      have HY : Hid (lgN (atS l k) = true → l.any lgN = true) := anyS_yes hlt
      generalize atS l k = p at x0 HNX HY
      clear hT
      by_cases hq : 24 < p.size
      · have hq' : (24 : Int) < (p.size : Int) := by omega
        have HF : Hid (R = true) := by show R = _; rw [← HR.out]; exact HY.out (decide_eq_true hq)
        clear hq HY
        go_wp2
        go_ret
        exact ⟨by rw [HF.out]; rfl, rfl⟩
      · have hq' : ¬ (24 : Int) < (p.size : Int) := by omega
        have HN2 : Hid ((l.take (k + 1)).any lgN = false) := by show _ = _; rw [HNX.out]; exact decide_eq_false hq
        clear hq HY HNX
        go_wp2
        go_roundw
        case rel => exact ⟨by first | rfl | trivial, k + 1, by omega, by go_num, HN2⟩
        case measure => simp [intOf]; omega
    · obtain rfl : k = l.length := by omega
      rw [List.take_length] at HA
      have HF : Hid (R = false) := by show R = _; rw [← HR.out]; exact HA.out
      clear HA
      go_wp2
      go_ret
      exact ⟨by rw [HF.out]; rfl, rfl⟩
/-- what is wrong with a fact of a user, by itself -/
def inpF (y : XF) : Int := if factB y = true then inpE [pdF y] [] else 10
theorem inp_one (p : Pd) (vs : List ByteArray) : inpE [p] vs = if (lgN p.n || (decide (8 < p.a) || vs.any lgN)) = true then 70 else if rsN p.n = true then 71 else 0 := by
  unfold inpE lgP rsP
  simp only [List.any_cons, List.any_nil, Bool.or_false, Bool.or_assoc]
set_option maxHeartbeats 1600000 in
theorem ofFact_any (y : XF) (w : World) (hF : FIs w y) :
    Calls Tryz.prog 23 #[.agg y.cells.toArray] w fun e w' => e = .returned (.int .i64 (inpF y)) ∧ Below w.heap.size w w' := by
  have b1 := belowA (w := w) (.cells #[.string y.pr, .slice y.a y.vs.length y.c] 48)
  have HR1 := Lib.hid (rl_new w #[.string y.pr, .slice y.a y.vs.length y.c] 48)
  have c0 := HR1.out.at (j := 0) rfl
  have c1 := HR1.out.at (j := 1) rfl
  have HC := Lib.hid (isFact_any y _ (hF.below b1))
  have HB := Lib.hid b1
  have hv : y.val = .agg #[.string y.pr, .slice y.a y.vs.length y.c] := rfl
  have hyc : Value.agg y.cells.toArray = .agg #[.string y.pr, .slice y.a y.vs.length y.c] := rfl
  rw [hv] at HC
  rw [hyc]
  have HE : Hid (inpF y = if factB y = true then (if (lgN y.pr || (decide (8 < y.vs.length) || false)) = true then 70 else if rsN y.pr = true then 71 else 0) else 10) := by
    show _ = _
    unfold inpF
    rw [inp_one]
    rfl
  obtain ⟨er, her⟩ : ∃ er, inpF y = er := ⟨_, rfl⟩
  rw [her] at HE ⊢
  have HRS := Lib.hid (reserved_any y.pr)
  clear b1 hF her hv hyc
  go_enter Tryz.func23, Tryz.ntmps23
  go_upto_region 1 with fail
  generalize w.alloc (.cells #[.string y.pr, .slice y.a y.vs.length y.c] 48) = W1 at HR1 c0 c1 HC HB ⊢
  go_wp2_with fail
  refine HC.out.mono ?_
  rintro e w2 ⟨rfl, b2⟩
  have d0 := RL.at (RL.below HR1.out b2) (j := 0) rfl
  have d1 := RL.at (RL.below HR1.out b2) (j := 1) rfl
  have HB2 : Hid (Below w.heap.size w w2) := HB.out.trans (b2.mono HB.out.size)
  clear c0 c1 HC HB HR1 b2
  cases hfb : factB y
  · have HE2 : Hid (er = 10) := by show _ = _; rw [HE.out, hfb]; rfl
    clear hfb
    go_wp2
    go_ret
    exact ⟨by first | (rw [HE2.out]; rfl) | rw [HE2.out], HB2.out⟩
  · rw [hfb, if_pos rfl] at HE
    clear hfb
    by_cases h24 : 24 < y.pr.size
    · have h24' : (24 : Int) < (y.pr.size : Int) := by omega
      have HE2 : Hid (er = 70) := by show _ = _; rw [HE.out]; unfold lgN; rw [decide_eq_true h24]; rfl
      clear h24
      go_wp2
      go_ret
      exact ⟨by first | (rw [HE2.out]; rfl) | rw [HE2.out], HB2.out⟩
    · have h24' : ¬ (24 : Int) < (y.pr.size : Int) := by omega
      by_cases h8 : 8 < y.vs.length
      · have h8' : (8 : Int) < (y.vs.length : Int) := by omega
        have HE2 : Hid (er = 70) := by show _ = _; rw [HE.out]; unfold lgN; rw [decide_eq_false h24, decide_eq_true h8]; rfl
        clear h24 h8
        go_wp2
        go_ret
        exact ⟨by first | (rw [HE2.out]; rfl) | rw [HE2.out], HB2.out⟩
      · have h8' : ¬ (8 : Int) < (y.vs.length : Int) := by omega
        have HE2 : Hid (er = if rsN y.pr = true then 71 else 0) := by show _ = _; rw [HE.out]; unfold lgN; rw [decide_eq_false h24, decide_eq_false h8]; rfl
        have HR2 := Lib.hid (HRS.out w2)
        clear h24 h8 HE HRS
        cases hr : rsN y.pr
        · rw [hr] at HR2 HE2
          clear hr
          go_wp2_with fail
          refine HR2.out.mono ?_
          rintro e w3 ⟨rfl, rfl⟩
          clear HR2
          go_wp2
          go_ret
          exact ⟨by first | (rw [HE2.out]; rfl) | rw [HE2.out], HB2.out⟩
        · rw [hr] at HR2 HE2
          clear hr
          go_wp2_with fail
          refine HR2.out.mono ?_
          rintro e w3 ⟨rfl, rfl⟩
          clear HR2
          go_wp2
          go_ret
          exact ⟨by first | (rw [HE2.out]; rfl) | rw [HE2.out], HB2.out⟩
/-- what is wrong with a query of a user, by itself -/
def inpQ (pr : ByteArray) (ts : List T) : Int := if atomB pr ts = true then inpE [⟨pr, ts.length⟩] (vsT [] ts) else 40
set_option maxHeartbeats 1600000 in
theorem ofQuery_any (pr : ByteArray) (ts : List T) (qa : Option Addr) (qc : Nat) (w : World) (hpr : pr.size ≤ maxLen) (hlen : ts.length ≤ 4398046511104) (hL : Lt w (.slice qa ts.length qc) ts) :
    Calls Tryz.prog 25 #[.agg #[.string pr, .slice qa ts.length qc]] w fun e w' => e = .returned (.int .i64 (inpQ pr ts)) ∧ Below w.heap.size w w' := by
  have b1 := belowA (w := w) (.cells #[.string pr, .slice qa ts.length qc] 28)
  have HR1 := Lib.hid (rl_new w #[.string pr, .slice qa ts.length qc] 28)
  have c0 := HR1.out.at (j := 0) rfl
  have c1 := HR1.out.at (j := 1) rfl
  have HC := Lib.hid (r4checkAtom_any pr _ ts _ hpr (hL.below b1))
  have HLT := Lib.hid (hL.below b1)
  have HB := Lib.hid b1
  have HE : Hid (inpQ pr ts = if atomB pr ts = true then (if (lgN pr || (decide (8 < ts.length) || (vsT [] ts).any lgN)) = true then 70 else if rsN pr = true then 71 else 0) else 40) := by
    show _ = _
    unfold inpQ
    rw [inp_one]
  obtain ⟨er, her⟩ : ∃ er, inpQ pr ts = er := ⟨_, rfl⟩
  rw [her] at HE ⊢
  have HRS := Lib.hid (reserved_any pr)
  clear b1 hL her
  go_enter Tryz.func25, Tryz.ntmps25
  go_upto_region 1 with fail
  generalize w.alloc (.cells #[.string pr, .slice qa ts.length qc] 28) = W1 at HR1 c0 c1 HC HB HLT ⊢
  go_wp2_with fail
  refine HC.out.mono ?_
  rintro e w2 ⟨rfl, b2⟩
  have d0 := RL.at (RL.below HR1.out b2) (j := 0) rfl
  have d1 := RL.at (RL.below HR1.out b2) (j := 1) rfl
  have HR2 := Lib.hid (RL.below HR1.out b2)
  have HB2 : Hid (Below w.heap.size w w2) := HB.out.trans (b2.mono HB.out.size)
  have HLT2 := Lib.hid (HLT.out.below b2)
  clear c0 c1 HC HB HR1 b2 HLT
  cases hfb : atomB pr ts
  · have HE2 : Hid (er = 40) := by show _ = _; rw [HE.out, hfb]; rfl
    have e0 : errB false = 40 := rfl
    rw [e0]
    clear hfb e0
    go_wp2
    go_ret
    exact ⟨by first | (rw [HE2.out]; rfl) | rw [HE2.out], HB2.out⟩
  · rw [hfb, if_pos rfl] at HE
    have e0 : errB true = 0 := rfl
    rw [e0]
    clear hfb e0
    by_cases h24 : 24 < pr.size
    · have h24' : (24 : Int) < (pr.size : Int) := by omega
      have HE2 : Hid (er = 70) := by show _ = _; rw [HE.out]; unfold lgN; rw [decide_eq_true h24]; rfl
      clear h24
      go_wp2
      go_ret
      exact ⟨by first | (rw [HE2.out]; rfl) | rw [HE2.out], HB2.out⟩
    · have h24' : ¬ (24 : Int) < (pr.size : Int) := by omega
      by_cases h8 : 8 < ts.length
      · have h8' : (8 : Int) < (ts.length : Int) := by omega
        have HE2 : Hid (er = 70) := by show _ = _; rw [HE.out]; unfold lgN; rw [decide_eq_false h24, decide_eq_true h8]; rfl
        clear h24 h8
        go_wp2
        go_ret
        exact ⟨by first | (rw [HE2.out]; rfl) | rw [HE2.out], HB2.out⟩
      · have h8' : ¬ (8 : Int) < (ts.length : Int) := by omega
        have HE2 : Hid (er = if (vsT [] ts).any lgN = true then 70 else if rsN pr = true then 71 else 0) := by show _ = _; rw [HE.out, show lgN pr = false from decide_eq_false h24, decide_eq_false h8]; rfl
        have HAV := Lib.hid (atomVars_any pr _ ts w2 hlen HLT2.out)
        clear h24 h8 HE
        go_wp2_with fail
        refine HAV.out.mono ?_
        rintro e w3 ⟨sv3, rfl, ho3, b3⟩
        have HLA := Lib.hid (rlarge_any sv3 (vsT [] ts) w3 (ls_own ho3))
        have HB3 : Hid (Below w.heap.size w w3) := HB2.out.trans (b3.mono HB2.out.size)
        have f0 := RL.at (RL.below HR2.out b3) (j := 0) rfl
        clear ho3 b3 HAV HB2 d0 d1 HLT2 HR2
        generalize (vsT [] ts).any lgN = bl at HLA HE2
        cases bl
        · have HE3 : Hid (er = if rsN pr = true then 71 else 0) := HE2.out
          go_wp2_with fail
          refine HLA.out.mono ?_
          rintro e w4 ⟨rfl, rfl⟩
          have HR2 := Lib.hid (HRS.out w4)
          clear HLA HRS HE2
          cases hr : rsN pr
          · rw [hr] at HR2 HE3
            clear hr
            go_wp2_with fail
            refine HR2.out.mono ?_
            rintro e w5 ⟨rfl, rfl⟩
            clear HR2
            go_wp2
            go_ret
            exact ⟨by first | (rw [HE3.out]; rfl) | rw [HE3.out], HB3.out⟩
          · rw [hr] at HR2 HE3
            clear hr
            go_wp2_with fail
            refine HR2.out.mono ?_
            rintro e w5 ⟨rfl, rfl⟩
            clear HR2
            go_wp2
            go_ret
            exact ⟨by first | (rw [HE3.out]; rfl) | rw [HE3.out], HB3.out⟩
        · have HE3 : Hid (er = 70) := HE2.out
          go_wp2_with fail
          refine HLA.out.mono ?_
          rintro e w4 ⟨rfl, rfl⟩
          clear HLA HRS HE2
          go_wp2
          go_ret
          exact ⟨by first | (rw [HE3.out]; rfl) | rw [HE3.out], HB3.out⟩
end Go.Proofs.YtmmkpcbelofkmaaGreatDoor
end
section
namespace Go.Proofs.YtmmkpcbelofkmaaGreatDoor
open Go.RowKit Go.Maps
set_option linter.unusedVariables false
set_option linter.unusedSimpArgs false
attribute [local go_sem ↓] Go.wp_at_zero Go.wp_at_succ
attribute [-go_sem] Builtin.append_

/-- a row of texts that grows by one -/
theorem str_push {w0 u : World} {B : Nat} {a : Option Addr} {c : Nat} {out : List ByteArray} (x : ByteArray) (own : u.ownsRow B 9 1 (.slice a out.length c) out.length (out.flatMap strB)) (hb : Below B w0 u) (hB : B ≤ w0.heap.size) (hl : out.length ≤ 1000000000) :
    ∃ a6 c6 w5, (Builtin.append_ #[90, 90] 90 #[.slice a out.length c, .slice (some ⟨u.heap.size, 0, none⟩) 1 1]).run Tryz.prog (u.alloc (.cells #[.string x] 9)) = .ok (.slice a6 (out.length + 1) c6) w5 ∧ w5.ownsRow B 9 1 (.slice a6 (out ++ [x]).length c6) (out ++ [x]).length ((out ++ [x]).flatMap strB) ∧ Below B w0 w5 := by
  obtain ⟨i0, hi0, hz0, hz1, hz2⟩ := info_parts infoStr
  have hA := belowA (w := u) (.cells #[.string x] 9)
  have hzu : B ≤ u.heap.size := Nat.le_trans hB hb.size
  have hb5 : Below B w0 (u.alloc (.cells #[.string x] 9)) := hb.trans (hA.mono hzu)
  have hz5 : B ≤ (u.alloc (.cells #[.string x] 9)).heap.size := Nat.le_trans hzu hA.size
  have ho := own_below own hA
  obtain ⟨v', w5, hrun, hown', hgrow, hnil, hloc⟩ := run_append_own_at (P := Tryz.prog) (u.alloc (.cells #[.string x] 9)) B 90 90 9 i0 _ 1 16 Tryz.underlying90 hi0 hz0 hz1 hz2 rfl (by decide) _ _ _ ho ⟨_, 0, none⟩ 1 1 [.string x] rfl (lit_news _ #[.string x] _) (by simp [Value.oneCell']) (by unfold maxLen; omega) (by omega) hz5
  obtain ⟨a6, c6, rfl, _⟩ := own_form hown'
  refine ⟨a6, c6, w5, hrun, ?_, hb5.grown hgrow hz5 (fun j hj => (ho.lt j hj).1)⟩
  rw [List.length_append, List.flatMap_append]
  exact hown'
def widN (r : R3) (k : Nat) : Bool := decide (12 < r.bd.length) || ((stR r).take k).any (fun p => decide (8 < p.a))
def resN (r : R3) (k : Nat) : Bool := ((stR r).take k).any rsP
def namN (d : Nat) (r : R3) (k : Nat) : List ByteArray := vsT [] (termsR d r) ++ ((stR r).take k).map Pd.n
/-- as the reference has it -/
def roE (d : Nat) (F : R3 → List ByteArray) (r : R3) : Int := if ruleB d r = true then (if (widN r (stR r).length || (namN d r (stR r).length).any lgN) = true then 70 else if resN r (stR r).length = true then 71 else ruE d r (F r)) else 40
theorem any_or {α : Type} (f g : α → Bool) : ∀ l : List α, l.any (fun x => f x || g x) = (l.any f || l.any g)
  | [] => rfl
  | x :: l => by
    rw [List.any_cons, List.any_cons, List.any_cons, any_or f g l]
    cases f x <;> cases g x <;> cases l.any f <;> rfl
theorem ro_ri (d : Nat) (F : R3 → List ByteArray) (r : R3) : roE d F r = riE d F r := by
  unfold roE riE
  cases ruleB d r
  · rfl
  · rw [if_pos rfl, if_pos rfl]
    unfold widN resN namN inpE
    rw [List.take_length, List.any_append, List.any_map]
    have e : (stR r).any lgP = ((stR r).any (lgN ∘ Pd.n) || (stR r).any (fun p => decide (8 < p.a))) := any_or (lgN ∘ Pd.n) (fun p => decide (8 < p.a)) (stR r)
    rw [e]
    by_cases h : 12 < r.bd.length
    · rw [decide_eq_true h, if_pos h]
      rfl
    · rw [decide_eq_false h, if_neg h]
      generalize (stR r).any (lgN ∘ Pd.n) = b1
      generalize (stR r).any (fun p => decide (8 < p.a)) = b2
      generalize (vsT [] (termsR d r)).any lgN = b3
      generalize (stR r).any rsP = b4
      cases b1 <;> cases b2 <;> cases b3 <;> cases b4 <;> rfl
theorem wid_step {r : R3} {k : Nat} (h : k < (stR r).length) : widN r (k + 1) = (widN r k || decide (8 < (atPd (stR r) k).a)) := by
  unfold widN
  rw [anyP_take h, Bool.or_assoc]
theorem res_step {r : R3} {k : Nat} (h : k < (stR r).length) : resN r (k + 1) = (resN r k || rsP (atPd (stR r) k)) := by
  unfold resN
  rw [anyP_take h]
theorem nam_step {d : Nat} {r : R3} {k : Nat} (h : k < (stR r).length) : namN d r (k + 1) = namN d r k ++ [(atPd (stR r) k).n] := by
  unfold namN
  rw [takePd h, List.map_append, List.append_assoc]
  rfl
theorem nam_len {d : Nat} {r : R3} {k : Nat} : (namN d r k).length ≤ (vsT [] (termsR d r)).length + (stR r).length := by
  unfold namN
  rw [List.length_append, List.length_map, List.length_take]
  omega
attribute [-go_sem] loadVar storeVar
theorem load_pn {u : World} {a : Addr} {s : ByteArray} (h : u.cell? a = some (.string s)) : (loadVar 9 a).run Tryz.prog u = .ok (.string s) u := by rw [loadVar.eq_1]; go_simp
theorem load_pa {u : World} {a : Addr} {n : Int} (h : u.cell? a = some (.int .i64 n)) : (loadVar 3 a).run Tryz.prog u = .ok (.int .i64 n) u := by rw [loadVar.eq_1]; go_simp
set_option maxHeartbeats 6400000 in
set_option maxRecDepth 100000 in
theorem ofRule_any (d : Nat) (F : R3 → List ByteArray) (hF0 : ∀ r, Lim (eqL (d + 1) r.bd) (atN r.bd) (F r)) (r : R3) (p : RP) (w : World) (hR : RIs w (d + 1) r p) (hs : smallR (d + 1) r) (hvl : (vsT [] (termsR (d + 1) r)).length ≤ 1048576) :
    Calls Tryz.prog 44 #[r.val p] w fun e w' => e = .returned (.int .i64 (riE (d + 1) F r)) ∧ Below w.heap.size w w' := by
  rw [← ro_ri]
  have hB := belowA (w := w) (.cells (r.cells p).toArray 74)
  have HR0 := Lib.hid (rl_new w (r.cells p).toArray 74)
  have HB := Lib.hid hB
  have HR : Hid (∀ u, Below w.heap.size w u → RIs u (d + 1) r p) := fun u hu => hR.below hu
  have HC := Lib.hid (rcheckRule_any (d + 1) r p _ (hR.below hB) hs)
  have hld := (rule_loads HR0.out).1
  have HS := Lib.hid hs
  have HF := Lib.hid (hF0 r)
  have HSL : Hid ((stR r).length ≤ 1048577) := by show _ ≤ _; have := stR_len r; have := hs.bd; omega
  have HE : Hid (roE (d + 1) F r = if ruleB (d + 1) r = true then (if (widN r (stR r).length || (namN (d + 1) r (stR r).length).any lgN) = true then 70 else if resN r (stR r).length = true then 71 else ruE (d + 1) r (F r)) else 40) := rfl
  obtain ⟨er, her⟩ : ∃ er, roE (d + 1) F r = er := ⟨_, rfl⟩
  rw [her] at HE ⊢
  have hbox : (R3.val r p) = .agg #[.string r.pr, .slice p.a r.hd.length p.c, .slice p.ba r.bd.length p.bc] := rfl
  have hcl : (r.cells p).toArray = #[.string r.pr, .slice p.a r.hd.length p.c, .slice p.ba r.bd.length p.bc] := rfl
  rw [hbox] at hld HC ⊢
  rw [hcl] at hld HC HB HR0
  clear hB hR hs her hbox hcl hF0
  go_enter Tryz.func44, Tryz.ntmps44
  go_wp2_with fail
  refine HC.out.mono ?_
  rintro e w1 ⟨rfl, b1⟩
  have B1 : Hid (Below w.heap.size w w1) := HB.out.trans (b1.mono HB.out.size)
  have HR1 : Hid (RL w1 w.heap.size 74 (r.cells p)) := RL.below HR0.out b1
  clear b1 HB HR0 HC hld
  cases hrb : ruleB (d + 1) r
  · have HER : Hid (er = 40) := by show _ = _; rw [HE.out, hrb]; rfl
    have e0 : errB false = 40 := rfl
    rw [e0]
    clear hrb e0
    go_wp2
    go_ret
    exact ⟨by first | (rw [HER.out]; rfl) | rw [HER.out], B1.out⟩
  · have e0 : errB true = 0 := rfl
    rw [e0]
    rw [hrb, if_pos rfl] at HE
    have hl1 := (rule_loads HR1.out).1
    have HST := Lib.hid (stand_any (d + 1) r p w1 (HR.out w1 B1.out) (by have := HS.out.bd; omega))
    have HRV : Hid (∀ u, Below w.heap.size w u → Calls Tryz.prog 73 #[r.val p] u fun e w' => ∃ sv, e = .returned sv ∧ w'.ownsRow u.heap.size 9 1 sv (vsT [] (termsR (d + 1) r)).length ((vsT [] (termsR (d + 1) r)).flatMap strB) ∧ Below u.heap.size u w') := fun u hu => rruleVarsO_any (d + 1) r p u (HR.out u hu) HS.out.terms
    have HRU : Hid (∀ u, Below w.heap.size w u → Calls Tryz.prog 74 #[r.val p] u fun e w' => e = .returned (.int .i64 (ruE (d + 1) r (F r))) ∧ Below u.heap.size u w') := fun u hu => rfRule_any d r p u (HR.out u hu) HS.out (F r) HF.out
    have HLV : Hid (∀ u, Below w1.heap.size w1 u → (loadVar 74 ⟨w.heap.size, 0, none⟩).run Tryz.prog u = .ok (r.val p) u ∧ (loadVar 72 ⟨w.heap.size, 2, none⟩).run Tryz.prog u = .ok (.slice p.ba r.bd.length p.bc) u) := fun u hu => ⟨(rule_loads (RL.below HR1.out hu)).1, (rule_loads (RL.below HR1.out hu)).2.1⟩
    generalize R3.val r p = rv at hl1 HST HRV HRU HLV
    clear hrb e0 HR HS HF HR1
    go_wp2_with fail
    refine HST.out.mono ?_
    rintro e w2 ⟨sa, sc, rfl, l2, b2⟩
    obtain ⟨sa', sc', hvv, hc1, hc2, hsat⟩ := pd_form (ls_own l2)
    injection hvv with hv1 _ hv2
    subst hv1 hv2
    have HSA := Lib.hid hsat
    have hl2 := (HLV.out w2 b2).1
    have B2 : Hid (Below w.heap.size w w2) := B1.out.trans (b2.mono B1.out.size)
    have HB12 := Lib.hid b2
    have HV2 := Lib.hid (HRV.out w2 B2.out)
    clear b2 hl1 HST l2 hsat HRV
    go_wp2_with fail
    refine HV2.out.mono ?_
    rintro e w3 ⟨sv3, rfl, o3, b3⟩
    have HB3 := Lib.hid b3
    have hl3 := (HLV.out w3 (HB12.out.trans (b3.mono HB12.out.size))).2
    have HN0 : Hid (vsT [] (termsR (d + 1) r) = namN (d + 1) r 0) := by show _ = _; unfold namN; rw [List.take_zero]; simp
    have HNL : Hid (∀ k, (namN (d + 1) r k).length ≤ 2097153) := fun k => by have := nam_len (d := d + 1) (r := r) (k := k); have := HSL.out; omega
    rw [HN0.out] at o3
    have HW0 : Hid (decide (12 < r.bd.length) = widN r 0) := by show _ = _; unfold widN; rw [List.take_zero]; simp
    have HV0 : Hid (false = resN r 0) := by show _ = _; unfold resN; rw [List.take_zero]; rfl
    have HDD : Hid (decide ((12 : Int) < (r.bd.length : Int)) = widN r 0) := by show _ = _; rw [← HW0.out]; exact decide_eq_decide.2 (by omega)
    obtain ⟨a3, c3, rfl, _⟩ := own_form o3
    have HO3 := Lib.hid o3
    clear o3 b3 hl2 HV2 HN0 HW0 hvl
    go_wp2
    clear hl3
    go_loopw [4, 5, 6, 7] (fun v bwv brv i wr => ∃ (k : Nat) (a' : Option Addr) (c' : Nat) (ns : List ByteArray) (bw br : Bool), k ≤ (stR r).length ∧ i = .int .i64 k ∧ v = .slice a' ns.length c' ∧ bwv = .bool bw ∧ brv = .bool br ∧ Hid (ns = namN (d + 1) r k) ∧ Hid (bw = widN r k) ∧ Hid (br = resN r k) ∧ Hid (wr.ownsRow w2.heap.size 9 1 (.slice a' ns.length c') ns.length (ns.flatMap strB)) ∧ Hid (Below w2.heap.size w2 wr)) (fun _ _ _ i _ => (stR r).length - (intOf i).toNat)
    case atStart => exact ⟨0, a3, c3, namN (d + 1) r 0, decide ((12 : Int) < (r.bd.length : Int)), false, Nat.zero_le _, rfl, rfl, rfl, rfl, rfl, HDD, HV0, HO3, HB3⟩
    case round =>
      clear HO3 HB3 HDD HV0
      obtain ⟨k, a', c', ns, bw, br, hk, rfl, rfl, rfl, rfl, HN, HW, HV, HO, HBW⟩ := hrel
      obtain ⟨U, rfl⟩ : ∃ U, U = wr := ⟨_, rfl⟩
      have hsl : (stR r).length ≤ 1048577 := HSL.out
      by_cases hlt : k < (stR r).length
      · have hlt' : (k : Int) < ((stR r).length : Int) := by omega
        have hk0 : (0 : Int) ≤ (k : Int) := by omega
        obtain ⟨g, off, rfl, hg, hT⟩ := HSA.out (by omega)
        have HWN := Lib.hid (wid_step hlt)
        have HVN := Lib.hid (res_step hlt)
        have HNN := Lib.hid (nam_step (d := d + 1) hlt)
        rw [← HN.out] at HNN
        rw [← HW.out] at HWN
        rw [← HV.out] at HVN
        have hnl : ns.length ≤ 2097153 := by rw [HN.out]; exact HNL.out k
        obtain ⟨x0, x1⟩ := pd_cell hg hT HBW.out hlt
        have HCL : Hid (∀ u, Below w2.heap.size w2 u → u.cell? ⟨g, off + k * 2, none⟩ = some (.string (atPd (stR r) k).n) ∧ u.cell? ⟨g, off + k * 2 + 1, none⟩ = some (.int .i64 ((atPd (stR r) k).a : Int))) := fun u hu => pd_cell hg hT hu hlt
        generalize atPd (stR r) k = q at x0 x1 HWN HVN HNN HCL
        obtain ⟨a7, c7, w5, hrun, ho5, hb5⟩ := str_push q.n HO.out HBW.out (Nat.le_refl _) (by omega)
        have HO5 := Lib.hid ho5
        have HB5 := Lib.hid hb5
        obtain ⟨y0, y1⟩ := HCL.out w5 hb5
        replace x0 := load_pn x0
        replace y0 := load_pn y0
        replace y1 := load_pa y1
        replace HNN : Hid (ns ++ [q.n] = namN (d + 1) r (k + 1)) := HNN.out.symm
        clear ho5 hb5 hT HO HBW HCL HN HW HV
        cases bw <;> cases br
        · -- false false
          have HW2 : Hid (decide ((8 : Int) < (q.a : Int)) = widN r (k + 1)) := by show _ = _; rw [HWN.out]; rw [Bool.false_or]; exact decide_eq_decide.2 (by omega)
          have HV2 : Hid (rsN q.n = resN r (k + 1)) := by show _ = _; rw [HVN.out]; rw [Bool.false_or]; rfl
          have HRS := Lib.hid (reserved_any q.n w5)
          generalize rsN q.n = rb at HRS HV2
          clear HWN HVN
          go_wp2_with fail
          refine HRS.out.mono ?_
          rintro e w6 ⟨rfl, rfl⟩
          clear HRS hrun x0 x1 y0 y1
          go_wp2
          go_roundw
          case rel => exact ⟨k + 1, a7, c7, ns ++ [q.n], decide ((8 : Int) < (q.a : Int)), rb, by omega, by go_num, by simp, rfl, rfl, HNN, HW2, HV2, HO5, HB5⟩
          case measure => simp [intOf]; omega
        · -- false true
          have HW2 : Hid (decide ((8 : Int) < (q.a : Int)) = widN r (k + 1)) := by show _ = _; rw [HWN.out]; rw [Bool.false_or]; exact decide_eq_decide.2 (by omega)
          have HV2 : Hid (true = resN r (k + 1)) := by show _ = _; rw [HVN.out]; rfl
          clear HWN HVN
          go_wp2
          go_roundw
          case rel => exact ⟨k + 1, a7, c7, ns ++ [q.n], decide ((8 : Int) < (q.a : Int)), true, by omega, by go_num, by simp, rfl, rfl, HNN, HW2, HV2, HO5, HB5⟩
          case measure => simp [intOf]; omega
        · -- true false
          have HW2 : Hid (true = widN r (k + 1)) := by show _ = _; rw [HWN.out]; rfl
          have HV2 : Hid (rsN q.n = resN r (k + 1)) := by show _ = _; rw [HVN.out]; rw [Bool.false_or]; rfl
          have HRS := Lib.hid (reserved_any q.n w5)
          generalize rsN q.n = rb at HRS HV2
          clear HWN HVN
          go_wp2_with fail
          refine HRS.out.mono ?_
          rintro e w6 ⟨rfl, rfl⟩
          clear HRS hrun x0 x1 y0 y1
          go_wp2
          go_roundw
          case rel => exact ⟨k + 1, a7, c7, ns ++ [q.n], true, rb, by omega, by go_num, by simp, rfl, rfl, HNN, HW2, HV2, HO5, HB5⟩
          case measure => simp [intOf]; omega
        · -- true true
          have HW2 : Hid (true = widN r (k + 1)) := by show _ = _; rw [HWN.out]; rfl
          have HV2 : Hid (true = resN r (k + 1)) := by show _ = _; rw [HVN.out]; rfl
          clear HWN HVN
          go_wp2
          go_roundw
          case rel => exact ⟨k + 1, a7, c7, ns ++ [q.n], true, true, by omega, by go_num, by simp, rfl, rfl, HNN, HW2, HV2, HO5, HB5⟩
          case measure => simp [intOf]; omega
      · obtain rfl : k = (stR r).length := by omega
        have HLA := Lib.hid (rlarge_any _ ns U (ls_own HO.out))
        have HBU : Hid (Below w.heap.size w U) := B2.out.trans (HBW.out.mono B2.out.size)
        have hlu := (HLV.out U (HB12.out.trans (HBW.out.mono HB12.out.size))).1
        have HRX := Lib.hid (HRU.out U HBU.out)
        rw [← HN.out, ← HW.out, ← HV.out] at HE
        generalize ns.any lgN = bl at HLA HE
        clear HSA HN HW HV HO HBW HLV HRU HNL hlt
        cases bw
        · cases bl
          · cases br
            · have HER : Hid (er = ruE (d + 1) r (F r)) := HE.out
              go_wp2_with fail
              refine HLA.out.mono ?_
              rintro e w4 ⟨rfl, rfl⟩
              clear HLA
              go_wp2_with fail
              refine HRX.out.mono ?_
              rintro e w5 ⟨rfl, b5⟩
              have HB5 : Hid (Below w.heap.size w w5) := HBU.out.trans (b5.mono HBU.out.size)
              clear b5 HRX hlu
              go_wp2
              go_ret
              exact ⟨by first | (rw [HER.out]; rfl) | rw [HER.out], HB5.out⟩
            · have HER : Hid (er = 71) := HE.out
              clear HRX hlu
              go_wp2_with fail
              refine HLA.out.mono ?_
              rintro e w4 ⟨rfl, rfl⟩
              clear HLA
              go_wp2
              go_ret
              exact ⟨by first | (rw [HER.out]; rfl) | rw [HER.out], HBU.out⟩
          · have HER : Hid (er = 70) := HE.out
            clear HRX hlu
            go_wp2_with fail
            refine HLA.out.mono ?_
            rintro e w4 ⟨rfl, rfl⟩
            clear HLA
            go_wp2
            go_ret
            exact ⟨by first | (rw [HER.out]; rfl) | rw [HER.out], HBU.out⟩
        · have HER : Hid (er = 70) := HE.out
          clear HRX hlu HLA
          go_wp2
          go_ret
          exact ⟨by first | (rw [HER.out]; rfl) | rw [HER.out], HBU.out⟩
end Go.Proofs.YtmmkpcbelofkmaaGreatDoor
end
section
namespace Go.Proofs.YtmmkpcbelofkmaaGreatDoor
open Go.RowKit Go.Maps
set_option linter.unusedVariables false
set_option linter.unusedSimpArgs false
attribute [local go_sem ↓] Go.wp_at_zero Go.wp_at_succ
attribute [-go_sem] loadVar Builtin.append_

theorem rl_resTC {fn : Func} {sl s2 : Nat} {ty : TypeId} (hr : fn.results = #[.tmp s2, .cell sl ty]) {W : World} {tmps : Array Value} {b : Nat} {v u : Value} (h3 : tmps.getD s2 undef = u) (h2 : tmps.getD sl undef = .pointer (some ⟨b, 0, none⟩)) (hl : (loadVar ty ⟨b, 0, none⟩).run Tryz.prog W = .ok v W) :
    (results fn tmps).run Tryz.prog W = .ok (.tuple #[u, v]) W := by
  have h2' : tmps[sl]?.getD undef = .pointer (some ⟨b, 0, none⟩) := by simpa using h2
  have h3' : tmps[s2]?.getD undef = u := by simpa using h3
  unfold results
  rw [hr]
  simp [h2', h3', asAddr, hl, Result.andThen]
/-- the columns, as the reference has them -/
def rmR (s : List Pd) : List XR → Nat → Int × Int × List Pd
  | [], _ => (0, 0, s)
  | y :: l, i => match meetL s (stR y.r) with
    | some t => rmR t l (i + 1)
    | none => ((i : Int), 72, s)
def paR (d : Nat) (F : R3 → List ByteArray) (rs : List XR) : Int × Int × List Pd := if 500 < rs.length then (0, 70, []) else if (rcR d F rs 0).2 = 0 then rmR [] rs 0 else ((rcR d F rs 0).1, (rcR d F rs 0).2, [])
def pgV (a : Int × Int × List Pd) : Int × Int × Int := if a.2.1 = 0 then (0, 0, 0) else (1, a.2.1, a.1)
theorem rmR_step {s : List Pd} {rs : List XR} {k : Nat} (h : k < rs.length) : rmR s (rs.drop k) k = match meetL s (stR (atR rs k).r) with
    | some t => rmR t (rs.drop (k + 1)) (k + 1)
    | none => ((k : Int), 72, s) := by
  rw [List.drop_eq_getElem_cons h, ← atR_eq h, rmR]
theorem ref_ls {u : World} {b : Nat} {v : Value} {l : List Pd} {p q r : Int} {x y z : Value} (h : Ls u v l.length (l.flatMap Pd.cells)) (hr : RL u b 37 [.int .i8 p, .int .i64 q, .int .i64 r]) : Ls (((u.setCell ⟨b, 0, none⟩ x).setCell ⟨b, 1, none⟩ y).setCell ⟨b, 2, none⟩ z) v l.length (l.flatMap Pd.cells) := by
  obtain ⟨a0, c0, hv0, _, _, hat⟩ := pd_form h
  obtain ⟨h0, a, c, hv, h1, h2, h3⟩ := h
  refine ⟨h0, a, c, hv, h1, h2, fun hl => ?_⟩
  obtain ⟨g, off, ha, hg, hc⟩ := h3 hl
  obtain ⟨g', off', ha', _, hc'⟩ := hat hl
  have hgo : g' = g := by
    have e := hv0.symm.trans hv
    injection e with e1 _ _
    rw [ha', ha] at e1
    injection e1 with e2
    injection e2 with e3
  subst hgo
  have hgb : g' ≠ b := by
    intro e
    subst e
    have k0 : u.cell? ⟨g', off', none⟩ = some (.string (atPd l 0).n) := by
      have := (hc' 0 hl).1
      simpa using this
    obtain ⟨cs, hb, hs, hcs⟩ := hr
    have k : cs[off']? = some (.string (atPd l 0).n) := by simpa [World.cell?, hb] using k0
    have ho : off' < cs.size := (Array.getElem?_eq_some_iff.1 k).1
    have hs' : cs.size = 3 := hs
    have := hcs off' (by rw [← hs]; exact ho)
    rw [k] at this
    obtain e | e | e : off' = 0 ∨ off' = 1 ∨ off' = 2 := by omega
    · rw [e] at this; cases this
    · rw [e] at this; cases this
    · rw [e] at this; cases this
  refine ⟨g', off, ha, by simpa using hg, fun j hj => ?_⟩
  have e : (((u.setCell ⟨b, 0, none⟩ x).setCell ⟨b, 1, none⟩ y).setCell ⟨b, 2, none⟩ z).heap[g']? = u.heap[g']? := by
    rw [heap_setCell_other _ _ _ _ (by exact hgb), heap_setCell_other _ _ _ _ (by exact hgb), heap_setCell_other _ _ _ _ (by exact hgb)]
  rw [World.cell?_of_block (w := u) e]
  exact hc j hj
set_option maxHeartbeats 6400000 in
set_option maxRecDepth 100000 in
theorem rprogram_any (d : Nat) (F : R3 → List ByteArray) (hF0 : ∀ r, Lim (eqL (d + 1) r.bd) (atN r.bd) (F r)) (rs : List XR) (ra : Option Addr) (rc : Nat) (w : World) (hR : Lr w (.slice ra rs.length rc) (d + 1) rs) (hsm : ∀ i, i < rs.length → smallR (d + 1) (atR rs i).r) :
    Calls Tryz.prog 22 #[.agg #[.slice ra rs.length rc]] w fun e w' => ∃ kv, e = .returned (.tuple #[kv, refV (pgV (paR (d + 1) F rs))]) ∧ Below w.heap.size w w' ∧ ((paR (d + 1) F rs).2.1 = 0 → Ls w' kv (paR (d + 1) F rs).2.2.length ((paR (d + 1) F rs).2.2.flatMap Pd.cells) ∧ (paR (d + 1) F rs).2.2.length ≤ 600000000) := by
  have HRE : Hid (∀ i, i < rs.length → ∀ u, Below w.heap.size w u → RIs u (d + 1) (atR rs i).r (atR rs i).p) := fun i hi u hu => (hR.each i hi).below hu
  obtain ⟨ra', rc', hv, hr1, hr2, hrat⟩ := hR.form
  injection hv with hv1 _ hv2
  subst hv1 hv2
  have hmr : rs.length ≤ maxLen := Nat.le_trans hr1 hr2
  unfold maxLen at hmr
  have HRA := Lib.hid hrat
  have HSM := Lib.hid hsm
  have HLM := Lib.hid hF0
  obtain ⟨A1, hA1⟩ : ∃ A1, A1 = w.alloc (.cells #[.slice ra rs.length rc] 24) := ⟨_, rfl⟩
  obtain ⟨W0, hW0⟩ : ∃ W0, W0 = A1.alloc (.cells #[.int .i8 0, .int .i64 0, .int .i64 0] 37) := ⟨_, rfl⟩
  have z1 : A1.heap.size = w.heap.size + 1 := by rw [hA1]; simp
  have z2 : W0.heap.size = w.heap.size + 2 := by rw [hW0]; simp [z1]
  have b1 : Below w.heap.size w A1 := by rw [hA1]; exact belowA _
  have b2 : Below A1.heap.size A1 W0 := by rw [hW0]; exact belowA _
  have HK1 : Hid (Below w.heap.size w W0) := b1.trans (b2.mono b1.size)
  have HR1 : Hid (RL W0 w.heap.size 24 [.slice ra rs.length rc]) := by
    have := rl_new w #[.slice ra rs.length rc] 24
    rw [← hA1] at this
    exact RL.below this b2
  have HR3 : Hid (RL W0 (w.heap.size + 1) 37 [.int .i8 0, .int .i64 0, .int .i64 0]) := by
    have := rl_new A1 #[.int .i8 0, .int .i64 0, .int .i64 0] 37
    rw [← hW0, z1] at this
    exact this
  have HLR : Hid (∀ u, Below W0.heap.size W0 u → (loadVar 22 ⟨w.heap.size, 0, none⟩).run Tryz.prog u = .ok (.slice ra rs.length rc) u) := fun u hu => load_rules (RL.at (RL.below HR1.out hu) (j := 0) rfl)
  have HRF : Hid (∀ u, Below W0.heap.size W0 u → RL u (w.heap.size + 1) 37 [.int .i8 0, .int .i64 0, .int .i64 0]) := fun u hu => RL.below HR3.out hu
  have HBW : Hid (∀ u, Below W0.heap.size W0 u → Below w.heap.size w u) := fun u hu => HK1.out.trans (hu.mono HK1.out.size)
  have HD : Hid (paR (d + 1) F rs = if 500 < rs.length then (0, 70, []) else if (rcR (d + 1) F rs 0).2 = 0 then rmR [] rs 0 else ((rcR (d + 1) F rs 0).1, (rcR (d + 1) F rs 0).2, [])) := rfl
  obtain ⟨R, hRR⟩ : ∃ R, paR (d + 1) F rs = R := ⟨_, rfl⟩
  rw [hRR] at HD ⊢
  clear z1 z2 b1 b2 hR hsm hF0 hRR hrat HR1 HR3
  go_enter Tryz.func22, Tryz.ntmps22
  go_upto_region 1 with fail
  rw [← hA1, ← hW0]
  clear hA1 hW0
  have hl0 := HLR.out W0 (Below.refl _ _)
  by_cases hbig : 500 < rs.length
  · have hbig' : (500 : Int) < (rs.length : Int) := by omega
    have HE : Hid (R = (0, 70, [])) := by show _ = _; rw [HD.out, if_pos hbig]
    have HR63 := Lib.hid (HRF.out W0 (Below.refl _ _))
    have c0 := RL.at HR63.out (j := 0) rfl
    have c1 := RL.at HR63.out (j := 1) rfl
    have c2 := RL.at HR63.out (j := 2) rfl
    have f0 := World.rowIs.frozen HR63.out 0
    have f1 := World.rowIs.frozen HR63.out 1
    have f2 := World.rowIs.frozen HR63.out 2
    clear hbig
    go_wp2
    refine bodyPost_ret (rl_resTC Tryz.results22 rfl rfl (load_refV (ref_set HR63.out 1 70 0))) rfl ?_
    rw [HE.out]
    exact ⟨_, rfl, ref_below HK1.out (by omega), fun h => by cases h⟩
  · have hbig' : ¬ ((500 : Int) < (rs.length : Int)) := by omega
    have h500 : rs.length ≤ 500 := by omega
    rw [if_neg hbig] at HD
    clear hbig
    go_wp2
    clear hl0
    go_loopw [4] (fun i wr => ∃ (k : Nat), k ≤ rs.length ∧ i = .int .i64 k ∧ Hid (rcR (d + 1) F rs 0 = rcR (d + 1) F (rs.drop k) k) ∧ Hid (Below W0.heap.size W0 wr)) (fun i _ => rs.length - (intOf i).toNat)
    case atStart => exact ⟨0, Nat.zero_le _, rfl, rfl, Below.refl _ _⟩
    case round =>
      obtain ⟨k, hk, rfl, HE, HB⟩ := hrel
      obtain ⟨U, rfl⟩ : ∃ U, U = wr := ⟨_, rfl⟩
      have hl1 := HLR.out U HB.out
      by_cases hlt : k < rs.length
      · have hlt' : (k : Int) < (rs.length : Int) := by omega
        have hk0 : (0 : Int) ≤ (k : Int) := by omega
        obtain ⟨g, off, rfl, hg, hT⟩ := HRA.out (by omega)
        have r1 := range_below (hT k hlt) (HBW.out U HB.out) hg
        have HST := Lib.hid (rcR_step (d := d + 1) (F := F) hlt)
        rw [← HE.out] at HST
        have HRI := Lib.hid (HRE.out k hlt)
        have HSR := Lib.hid (HSM.out k hlt)
        obtain ⟨y, hy⟩ : ∃ y, atR rs k = y := ⟨_, rfl⟩
        rw [hy] at r1 HST HRI HSR
        have hld := load_Rul r1 rfl
        have HI := Lib.hid (ofRule_any d F HLM.out y.r y.p U (HRI.out U (HBW.out U HB.out)) HSR.out (by have h1 := vsT_len (termsR (d + 1) y.r) []; have h2 := HSR.out.terms; simp only [List.length_nil] at h1; omega))
        rw [← XR.val_eq] at HI
        generalize Value.agg y.cells.toArray = QV at hld HI
        obtain ⟨e0, he0⟩ : ∃ e0, riE (d + 1) F y.r = e0 := ⟨_, rfl⟩
        rw [he0] at HST HI
        clear HRI HSR he0 HE hT r1 hy
        by_cases hz : e0 = 0
        · subst hz
          rw [if_pos rfl] at HST
          go_wp2_with fail
          refine HI.out.mono ?_
          rintro e w2 ⟨rfl, b2⟩
          have HB2 : Hid (Below W0.heap.size W0 w2) := HB.out.trans (b2.mono HB.out.size)
          clear b2 HI hld hl1 HB
          go_wp2
          go_roundw
          case rel => exact ⟨k + 1, by omega, by go_num, HST, HB2⟩
          case measure => simp [intOf]; omega
        · rw [if_neg hz] at HST
          have e1 : (e0 != 0) = true := by rw [bne_iff_ne]; exact hz
          have HZ := Lib.hid hz
          have HER : Hid (R = ((k : Int), e0, [])) := by show _ = _; rw [HD.out, HST.out, if_neg hz]
          clear hz HST
          go_wp2_with fail
          refine HI.out.mono ?_
          rintro e w2 ⟨rfl, b2⟩
          have HB2 : Hid (Below W0.heap.size W0 w2) := HB.out.trans (b2.mono HB.out.size)
          have HR63 := Lib.hid (HRF.out w2 HB2.out)
          have c0 := RL.at HR63.out (j := 0) rfl
          have c1 := RL.at HR63.out (j := 1) rfl
          have c2 := RL.at HR63.out (j := 2) rfl
          have f0 := World.rowIs.frozen HR63.out 0
          have f1 := World.rowIs.frozen HR63.out 1
          have f2 := World.rowIs.frozen HR63.out 2
          clear b2 HI hld hl1 HB
          go_wp2
          refine bodyPost_ret (rl_resTC Tryz.results22 rfl rfl (load_refV (ref_set HR63.out 1 e0 k))) rfl ?_
          rw [HER.out]
          refine ⟨.slice none 0 0, ?_, ref_below (HBW.out w2 HB2.out) (by omega), fun h => absurd h HZ.out⟩
          unfold pgV
          rw [if_neg HZ.out]
          rfl
      · obtain rfl : k = rs.length := by omega
        rw [List.drop_length, rcR] at HE
        have HER : Hid (R = rmR [] rs 0) := by show _ = _; rw [HD.out, HE.out]; rfl
        clear hlt hk HE HD
        go_wp2
        clear hl1
        go_loopw [6, 7] (fun v i wr => ∃ (k : Nat) (a' : Option Addr) (c' : Nat) (kn : List Pd), k ≤ rs.length ∧ i = .int .i64 k ∧ v = .slice a' kn.length c' ∧ Hid (R = rmR kn (rs.drop k) k) ∧ Hid (Ls wr (.slice a' kn.length c') kn.length (kn.flatMap Pd.cells)) ∧ Hid (kn.length ≤ k * 1048577) ∧ Hid (Below W0.heap.size W0 wr)) (fun _ i _ => rs.length - (intOf i).toNat)
        case atStart => exact ⟨0, none, 0, [], Nat.zero_le _, rfl, rfl, HER, ls_nilP _, Nat.zero_le _, HB⟩
        case round =>
          clear HER HB
          obtain ⟨k, a', c', kn, hk, rfl, rfl, HE, HLS, HLN, HB⟩ := hrel
          obtain ⟨V, rfl⟩ : ∃ V, V = wr := ⟨_, rfl⟩
          have hl1 := HLR.out V HB.out
          by_cases hlt : k < rs.length
          · have hlt' : (k : Int) < (rs.length : Int) := by omega
            have hk0 : (0 : Int) ≤ (k : Int) := by omega
            obtain ⟨g, off, rfl, hg, hT⟩ := HRA.out (by omega)
            have r1 := range_below (hT k hlt) (HBW.out V HB.out) hg
            have HST := Lib.hid (rmR_step (s := kn) hlt)
            rw [← HE.out] at HST
            have HRI := Lib.hid (HRE.out k hlt)
            have hb : (atR rs k).r.bd.length ≤ 1048576 := (HSM.out k hlt).bd
            obtain ⟨y, hy⟩ : ∃ y, atR rs k = y := ⟨_, rfl⟩
            rw [hy] at r1 HST HRI hb
            have hld := load_Rul r1 rfl
            have HC := Lib.hid (stand_any (d + 1) y.r y.p V (HRI.out V (HBW.out V HB.out)) hb)
            rw [← XR.val_eq] at HC
            have HSL : Hid ((stR y.r).length ≤ 1048577) := by have := stR_len y.r; show _ ≤ _; omega
            generalize Value.agg y.cells.toArray = QV at hld HC
            clear hT r1 hy HRI hb HE
            go_wp2_with fail
            refine HC.out.mono ?_
            rintro e w2 ⟨a2, c2, rfl, own2, bb2⟩
            have HB2 : Hid (Below W0.heap.size W0 w2) := HB.out.trans (bb2.mono HB.out.size)
            have HM := Lib.hid (meet_any (.slice a' kn.length c') _ kn (stR y.r) w2 (HLS.out.below bb2) (ls_own own2) (by have h1 := HLN.out; have h2 := HSL.out; have h3 : k * 1048577 ≤ 500 * 1048577 := Nat.mul_le_mul_right _ (by omega); omega))
            clear own2 bb2 HC hld hl1 HB HLS
            go_wp2_with fail
            refine HM.out.mono ?_
            rintro e w3 ⟨bb3, ⟨r, sv, hm, rfl, hls⟩ | ⟨hm, rfl⟩⟩
            · obtain ⟨a3, c3, rfl, _, _, _⟩ := pd_form hls
              rw [hm] at HST
              have HLS3 := Lib.hid hls
              have HLN3 : Hid (r.length ≤ (k + 1) * 1048577) := by
                have h1 := meetL_len _ _ _ hm
                have h2 := HLN.out
                have h3 := HSL.out
                show _ ≤ _
                rw [Nat.add_mul, Nat.one_mul]
                omega
              have HB3 : Hid (Below W0.heap.size W0 w3) := HB2.out.trans (bb3.mono HB2.out.size)
              clear bb3 hm hls HM HB2 HLN HSL
              go_wp2
              go_roundw
              case rel => exact ⟨k + 1, a3, c3, r, by omega, by go_num, rfl, HST, HLS3, HLN3, HB3⟩
              case measure => simp [intOf]; omega
            · rw [hm] at HST
              have HB3 : Hid (Below W0.heap.size W0 w3) := HB2.out.trans (bb3.mono HB2.out.size)
              have HR63 := Lib.hid (HRF.out w3 HB3.out)
              have c0 := RL.at HR63.out (j := 0) rfl
              have c1 := RL.at HR63.out (j := 1) rfl
              have c2 := RL.at HR63.out (j := 2) rfl
              have f0 := World.rowIs.frozen HR63.out 0
              have f1 := World.rowIs.frozen HR63.out 1
              have f2 := World.rowIs.frozen HR63.out 2
              clear bb3 hm HM HB2 HLN HSL
              go_wp2
              refine bodyPost_ret (rl_resTC Tryz.results22 rfl rfl (load_refV (ref_set HR63.out 1 72 k))) rfl ?_
              rw [HST.out]
              exact ⟨_, rfl, ref_below (HBW.out w3 HB3.out) (by omega), fun h => by cases h⟩
          · obtain rfl : k = rs.length := by omega
            rw [List.drop_length, rmR] at HE
            have HR63 := Lib.hid (HRF.out V HB.out)
            have c0 := RL.at HR63.out (j := 0) rfl
            have c1 := RL.at HR63.out (j := 1) rfl
            have c2 := RL.at HR63.out (j := 2) rfl
            have f0 := World.rowIs.frozen HR63.out 0
            have f1 := World.rowIs.frozen HR63.out 1
            have f2 := World.rowIs.frozen HR63.out 2
            go_wp2
            refine bodyPost_ret (rl_resTC Tryz.results22 rfl rfl (load_refV (ref_set HR63.out 0 0 0))) rfl ?_
            rw [HE.out]
            refine ⟨_, rfl, ref_below (HBW.out V HB.out) (by omega), fun _ => ⟨ref_ls HLS.out HR63.out, ?_⟩⟩
            have h1 := HLN.out
            have h3 : rs.length * 1048577 ≤ 500 * 1048577 := Nat.mul_le_mul_right _ h500
            show kn.length ≤ _
            omega
end Go.Proofs.YtmmkpcbelofkmaaGreatDoor
end
