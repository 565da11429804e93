import Derived.Test.YtgfnijhhhgjabaaGreatDoorE2
import Derived.Test.YtgfnijhhhgjabaaGreatDoorG46
section
namespace Go.Proofs.YtgfnijhhhgjabaaGreatDoor.EV
open Go.RowKit Go.Maps
set_option linter.unusedVariables false
set_option linter.unusedSimpArgs false
attribute [local go_sem ↓] Go.wp_at_zero Go.wp_at_succ
attribute [-go_sem] Builtin.append_

theorem kidsOf_le (n : Nat) : kidsOf n ≤ 3 := by
  by_cases h : n < 11
  · obtain rfl | rfl | rfl | rfl | rfl | rfl | rfl | rfl | rfl | rfl | rfl : n = 0 ∨ n = 1 ∨ n = 2 ∨ n = 3 ∨ n = 4 ∨ n = 5 ∨ n = 6 ∨ n = 7 ∨ n = 8 ∨ n = 9 ∨ n = 10 := by omega
    all_goals decide
  · unfold kidsOf
    have hn : kidTab[n]? = none := List.getElem?_eq_none (by show 11 ≤ n; omega)
    rw [List.getD, hn]
    decide
theorem ev_form {r : Nat} {e : E} (h : exprB (r + 1) e = true) : e.kids.length = kidsOf e.op.toNat ∧ (¬ e.op = 0 → ∀ i, i < e.kids.length → exprB r (atE e.kids i) = true) := by
  unfold exprB at h
  simp only [Bool.and_eq_true, decide_eq_true_eq] at h
  obtain ⟨⟨⟨h1, h2⟩, h3⟩, h4⟩ := h
  refine ⟨h3, fun h0 i hi => ?_⟩
  rw [if_neg h0] at h4
  simp only [Bool.and_eq_true, List.all_eq_true] at h4
  rw [atE_eq hi]
  exact h4.1 _ (List.getElem_mem hi)
theorem ev_few {r : Nat} {op : Int} {t : T} {kids : List E} (h : exprB (r + 1) (.mk op t kids) = true) (h0 : ¬ op = 0) :
    kids.length ≤ 3 ∧ ∀ i, i < kids.length → exprB r (atE kids i) = true := by
  obtain ⟨h1, h2⟩ := ev_form h
  exact ⟨by have := kidsOf_le (E.mk op t kids).op.toNat; rw [← h1] at this; exact this, h2 h0⟩

set_option maxHeartbeats 3200000 in
theorem work_leaf (t : T) (kids : List E) (a : Option Addr) (c : Nat) (v : Value) (l : List B) (w : World) (ht : t.wf) (hl : Lb w v l) :
    Calls Tryz.prog 48 #[(E.mk 0 t kids).val a c, v] w fun e w' => e = .returned (optV (valOf t l)) ∧ Below w.heap.size w w' := by
  unfold E.val
  simp only [op_mk, t_mk, kids_mk]
  have HS0 := Lib.hid (wst_new w #[.int .i8 0, .string t.v, .int .i8 t.a.k, .int .i64 t.a.n, .string t.a.s, .slice a kids.length c])
  simp only [List.toList_toArray] at HS0
  have HV := Lib.hid (valueOf_any t v l _ ht (hl.below HS0.out.bel))
  obtain ⟨k, n, s, b, ho⟩ := optV_form (valOf t l)
  have HO := Lib.hid ho
  rw [ho] at HV
  obtain ⟨a0, c0, hv, -, -, -⟩ := hl.form
  subst hv
  clear hl ho ht
  go_enter Tryz.func48, Tryz.ntmps48
  go_wp2_with fail
  refine HV.out.mono ?_
  rintro e w1 ⟨rfl, b1⟩
  have H1 := Lib.hid (HS0.out.keep b1)
  have y0 := H1.out.r1.at (j := 0) rfl
  have y1 := H1.out.r1.at (j := 1) rfl
  have y2 := H1.out.r1.at (j := 2) rfl
  have f0 := World.rowIs.frozen H1.out.r1 0
  have f1 := World.rowIs.frozen H1.out.r1 1
  have f2 := World.rowIs.frozen H1.out.r1 2
  clear HV HS0 b1
  go_wp2
  exact work_done Tryz.results48 (b := w.heap.size + 1) (by omega) H1.out.bel H1.out.r1 rfl rfl rfl HO.out
set_option maxHeartbeats 6400000 in
set_option maxRecDepth 100000 in
theorem work_step (d r : Nat) (l : List B) (hwfl : ∀ b ∈ l, b.wf) (ih : ∀ (e : E) (a : Option Addr) (c : Nat) (v : Value) (w : World), AR.Tab w → EIs w d e a c → exprB r e = true → Lb w v l → Calls Tryz.prog 48 #[e.val a c, v] w fun r w' => r = .returned (optV (workV l d e)) ∧ Below w.heap.size w w')
    (op : Int) (h0 : ¬ op = 0) (t : T) (kids : List E) (a : Option Addr) (c : Nat) (v : Value) (w : World) (ht : AR.Tab w) (hE : EIs w (d + 1) (.mk op t kids) a c) (he : exprB (r + 1) (.mk op t kids) = true) (hl : Lb w v l) :
    Calls Tryz.prog 48 #[(E.mk op t kids).val a c, v] w fun r w' => r = .returned (optV ((kids.mapM (workV l d)).bind (arO op))) ∧ Below w.heap.size w w' := by
  obtain ⟨i0, hi0, hz0, hz1, hz2⟩ := info_parts infoValE
  obtain ⟨⟨hop, hn⟩, htw, hc1, hc2, hk⟩ := hE
  simp only [op_mk, kids_mk, t_mk] at hop hn htw hc1 hk
  obtain ⟨hkc, hke⟩ := ev_few he h0
  have HKE := Lib.hid hke
  clear he hke
  have HL := Lib.hid hl
  have HW := Lib.hid hwfl
  have HT := Lib.hid ht
  have HK : Hid (∀ i, i < kids.length → ∃ g off a' c', a = some ⟨g, off, none⟩ ∧ ∀ u, Below w.heap.size w u → XAt u g (off + i * 6) (atE kids i).op (atE kids i).t (.slice a' (atE kids i).kids.length c') ∧ EIs u d (atE kids i) a' c') := fun i hi => by
    obtain ⟨g, off, ha, hg, hkk⟩ := hk (by omega)
    obtain ⟨a', c', hx, he⟩ := hkk i hi
    exact ⟨g, off, a', c', ha, fun u hu => ⟨hx.below hu hg, he.below hu⟩⟩
  have HIH := Lib.hid ih
  obtain ⟨R, HR⟩ : ∃ R, Hid (R = optV ((kids.mapM (workV l d)).bind (arO op))) := ⟨_, rfl⟩
  obtain ⟨av, cv, hv, -, -, -⟩ := hl.form
  subst hv
  have hb0 : (op == 0) = false := by simpa using h0
  clear ih hl hwfl hk ht
  unfold E.val
  simp only [op_mk, t_mk, kids_mk]
  have HS0 := Lib.hid (wst_new w #[.int .i8 op, .string t.v, .int .i8 t.a.k, .int .i64 t.a.n, .string t.a.s, .slice a kids.length c])
  simp only [List.toList_toArray] at HS0
  go_enter Tryz.func48, Tryz.ntmps48
  go_upto_region 3 with fail
  generalize (w.alloc (.cells #[.int .i8 op, .string t.v, .int .i8 t.a.k, .int .i64 t.a.n, .string t.a.s, .slice a kids.length c] 53)).alloc (.cells #[.int .i8 0, .int .i64 0, .string ⟨#[]⟩] 38) = W at HS0 ⊢
  have q5 := HS0.out.r0.at (j := 5) rfl
  go_wp2
  clear q5
  go_loopw [6, 23] (fun kv i wr => ∃ (k : Nat) (vs : List V) (a' : Option Addr) (c' : Nat), k ≤ kids.length ∧ Hid (vs.length = k) ∧ i = .int .i64 k ∧ kv = .slice a' vs.length c' ∧ Hid ((kids.take k).mapM (workV l d) = some vs ∧ ∀ x ∈ vs, x.wf) ∧ Hid (WSt w [.int .i8 op, .string t.v, .int .i8 t.a.k, .int .i64 t.a.n, .string t.a.s, .slice a kids.length c] vs a' c' wr)) (fun _ i _ => kids.length - (intOf i).toNat)
  case atStart => exact ⟨0, [], none, 0, by omega, rfl, rfl, rfl, ⟨rfl, by simp⟩, HS0⟩
  case round =>
    obtain ⟨k, vs, a', c', hk, hvl, rfl, rfl, HM, HH⟩ := hrel
    by_cases hlt : k < kids.length
    · have hlt' : (k : Int) < (kids.length : Int) := by omega
      have hk0 : (0 : Int) ≤ (k : Int) := by omega
      obtain ⟨g, off, a1, c1, ha, hX⟩ := HK.out k hlt
      subst ha
      obtain ⟨⟨x0, x1, x2, x3, x4, x5⟩, hEk⟩ := hX wr HH.out.bel
      have hEk' := (hX _ (HH.out.bel.alloc HH.out.bel.size (.cells #[.int .i8 (atE kids k).op, .string (atE kids k).t.v, .int .i8 (atE kids k).t.a.k, .int .i64 (atE kids k).t.a.n, .string (atE kids k).t.a.s, .slice a1 (atE kids k).kids.length c1] 53))).2
      have q5 := HH.out.r0.at (j := 5) rfl
      have HC := Lib.hid (HIH.out (atE kids k) a1 c1 _ (wr.alloc (.cells #[.int .i8 (atE kids k).op, .string (atE kids k).t.v, .int .i8 (atE kids k).t.a.k, .int .i64 (atE kids k).t.a.n, .string (atE kids k).t.a.s, .slice a1 (atE kids k).kids.length c1] 53)) (HT.out.below (HH.out.bel.alloc HH.out.bel.size _)) hEk' (HKE.out k hlt) (HL.out.below (HH.out.bel.alloc HH.out.bel.size _)))
      have HMT := Lib.hid (mapM_take (f := workV l d) hlt)
      have HMN := Lib.hid (fun hn => mapM_none (f := workV l d) hlt hn)
      have HWX := Lib.hid (fun x hx => workV_wf HW.out d (atE kids k) a1 c1 x hEk hx)
      unfold E.val at HC
      clear hX hEk hEk'
      generalize atE kids k = ek at x0 x1 x2 x3 x4 x5 HC HMT HMN HWX
      obtain ⟨oV, hoV⟩ : ∃ o, workV l d ek = o := ⟨_, rfl⟩
      rw [hoV] at HC HMT HMN HWX
      clear hoV
      have HB1 := Lib.hid (HH.out.keep ((Below.refl wr.heap.size wr).alloc (Nat.le_refl _) (.cells #[.int .i8 ek.op, .string ek.t.v, .int .i8 ek.t.a.k, .int .i64 ek.t.a.n, .string ek.t.a.s, .slice a1 ek.kids.length c1] 53)))
      cases oV with
      | none =>
        have HRN : Hid (R = .tuple #[.agg #[.int .i8 0, .int .i64 0, .string ⟨#[]⟩], .bool false]) := by show _ = _; rw [HR.out, HMN.out rfl]; rfl
        unfold optV at HC
        go_wp2_with fail
        refine HC.out.mono ?_
        rintro r w1 ⟨rfl, b1⟩
        have H1 := Lib.hid ((HB1.out.keep b1).keep ((Below.refl w1.heap.size w1).alloc (Nat.le_refl _) (.cells #[.int .i8 0, .int .i64 0, .string ⟨#[]⟩] 38)))
        clear HC b1 HB1 HH x0 x1 x2 x3 x4 x5 q5
        go_upto_region 8 with fail
        generalize w1.alloc (.cells #[.int .i8 0, .int .i64 0, .string ⟨#[]⟩] 38) = W1 at H1 ⊢
        have y0 := H1.out.r1.at (j := 0) rfl
        have y1 := H1.out.r1.at (j := 1) rfl
        have y2 := H1.out.r1.at (j := 2) rfl
        have f0 := World.rowIs.frozen H1.out.r1 0
        have f1 := World.rowIs.frozen H1.out.r1 1
        have f2 := World.rowIs.frozen H1.out.r1 2
        go_wp2
        exact work_done Tryz.results48 (b := w.heap.size + 1) (by omega) H1.out.bel H1.out.r1 rfl rfl rfl (HR.out.symm.trans HRN.out)
      | some x =>
        have HM1 : Hid ((kids.take (k + 1)).mapM (workV l d) = some (vs ++ [x]) ∧ ∀ y ∈ vs ++ [x], y.wf) := by
          refine ⟨by rw [HMT.out, HM.out.1]; rfl, fun y hy => ?_⟩
          rcases List.mem_append.1 hy with hy | hy
          · exact HM.out.2 y hy
          · rw [List.mem_singleton.1 hy]; exact HWX.out x rfl
        unfold optV at HC
        go_wp2_with fail
        refine HC.out.mono ?_
        rintro r w1 ⟨rfl, b1⟩
        have H1 := Lib.hid (HB1.out.keep b1)
        clear HC b1 HB1 HH x0 x1 x2 x3 x4 x5 q5 HMT HMN HWX HM
        go_upto_region 8 with fail
        have l0 : (w1.alloc (.cells #[.int .i8 x.k, .int .i64 x.n, .string x.s] 38)).cell? ⟨w1.heap.size, 0, none⟩ = some (.int .i8 x.k) := (rl_new w1 #[.int .i8 x.k, .int .i64 x.n, .string x.s] 38).at (j := 0) rfl
        have l1 : (w1.alloc (.cells #[.int .i8 x.k, .int .i64 x.n, .string x.s] 38)).cell? ⟨w1.heap.size, 1, none⟩ = some (.int .i64 x.n) := (rl_new w1 #[.int .i8 x.k, .int .i64 x.n, .string x.s] 38).at (j := 1) rfl
        have l2 : (w1.alloc (.cells #[.int .i8 x.k, .int .i64 x.n, .string x.s] 38)).cell? ⟨w1.heap.size, 2, none⟩ = some (.string x.s) := (rl_new w1 #[.int .i8 x.k, .int .i64 x.n, .string x.s] 38).at (j := 2) rfl
        have H2 := Lib.hid (H1.out.keep ((Below.refl w1.heap.size w1).alloc (Nat.le_refl _) (.cells #[.int .i8 x.k, .int .i64 x.n, .string x.s] 38)))
        generalize w1.alloc (.cells #[.int .i8 x.k, .int .i64 x.n, .string x.s] 38) = W1 at H2 l0 l1 l2 ⊢
        have H3 := Lib.hid (H2.out.keep ((Below.refl W1.heap.size W1).alloc (Nat.le_refl _) (.cells #[.int .i8 x.k, .int .i64 x.n, .string x.s] 38)))
        have hz1' := H2.out.sz
        have HOWN := Lib.hid H3.out.own
        clear H1 H2
        obtain ⟨v', w3, hrun, hown', hgrow, hnil, hloc⟩ := run_append_own_at (P := Tryz.prog) (W1.alloc (.cells #[.int .i8 x.k, .int .i64 x.n, .string x.s] 38)) (w.heap.size + 2) 96 96 38 i0 _ 3 32 Tryz.underlying96 hi0 hz0 hz1 hz2 rfl (by decide) _ _ _ HOWN.out ⟨_, 0, none⟩ 1 1 [.int .i8 x.k, .int .i64 x.n, .string x.s] rfl (lit_news _ #[.int .i8 x.k, .int .i64 x.n, .string x.s] _) (by simp [Value.oneCell']) (by have := hvl.out; unfold maxLen; omega) (by have := hvl.out; omega) (by simp; omega)
        obtain ⟨a2, c2, e2, hfin⟩ := H3.out.step (x := x) hown' hgrow
        subst e2
        have HFIN := Lib.hid hfin
        clear hown' hgrow hnil hloc hfin
        go_wp2
        go_roundw
        case rel => exact ⟨k + 1, vs ++ [x], a2, c2, by omega, by show _ = _; simp [hvl.out], by go_num, by first | rfl | simp, HM1, HFIN⟩
        case measure => simp [intOf]; omega
    · obtain rfl : k = kids.length := by omega
      have hlt' : ¬ (kids.length : Int) < (kids.length : Int) := by omega
      have HMF : Hid (kids.mapM (workV l d) = some vs) := by
        have := HM.out.1
        rwa [List.take_of_length_le (Nat.le_refl _)] at this
      have q0 := HH.out.r0.at (j := 0) rfl
      have q5 := HH.out.r0.at (j := 5) rfl
      have HLV := Lib.hid (own_lv HH.out.own HM.out.2)
      have HA := Lib.hid (AR.arith_any op hop _ vs.length (kV vs) (nV vs) (sV vs) wr (HT.out.below HH.out.bel) (lv_lst HLV.out))
      rw [show AR.arithR op vs.length (kV vs) (nV vs) (sV vs) = arRes op vs from rfl, arO_val] at HA
      have HRF : Hid (R = optV (arO op vs)) := by show _ = _; rw [HR.out, HMF.out]; rfl
      obtain ⟨k', n', s', b', ho⟩ := optV_form (arO op vs)
      have HHR := Lib.hid (HR.out.symm.trans (HRF.out.trans ho))
      rw [ho] at HA
      clear ho HRF HMF HM HLV
      go_wp2_with fail
      refine HA.out.mono ?_
      rintro r w1 ⟨rfl, b1⟩
      have H1 := Lib.hid (HH.out.keep b1)
      have y0 := H1.out.r1.at (j := 0) rfl
      have y1 := H1.out.r1.at (j := 1) rfl
      have y2 := H1.out.r1.at (j := 2) rfl
      have f0 := World.rowIs.frozen H1.out.r1 0
      have f1 := World.rowIs.frozen H1.out.r1 1
      have f2 := World.rowIs.frozen H1.out.r1 2
      clear HA b1 HH q0 q5
      go_wp2
      exact work_done Tryz.results48 (b := w.heap.size + 1) (by omega) H1.out.bel H1.out.r1 rfl rfl rfl HHR.out
theorem work_any (l : List B) (hwfl : ∀ b ∈ l, b.wf) : ∀ (d r : Nat) (e : E) (a : Option Addr) (c : Nat) (v : Value) (w : World), AR.Tab w → EIs w d e a c → exprB r e = true → Lb w v l → Calls Tryz.prog 48 #[e.val a c, v] w fun r w' => r = .returned (optV (workV l d e)) ∧ Below w.heap.size w w'
  | 0, r, e, a, c, v, w, _, hE, _, _ => hE.elim
  | d + 1, 0, e, a, c, v, w, _, hE, he, _ => absurd he (by unfold exprB; simp)
  | d + 1, r + 1, .mk op t kids, a, c, v, w, ht, hE, he, hl => by
    by_cases h0 : op = 0
    · subst h0
      have hw := hE.2.1
      exact work_leaf t kids a c v l w hw hl
    · have h := work_step d r l hwfl (fun e a c v w => work_any l hwfl d r e a c v w) op h0 t kids a c v w ht hE he hl
      have e1 : workV l (d + 1) (.mk op t kids) = (kids.mapM (workV l d)).bind (arO op) := by
        show (if (E.mk op t kids).op = 0 then _ else _) = _
        rw [if_neg (show ¬ (E.mk op t kids).op = 0 from h0)]
        rfl
      rw [e1]
      exact h
end Go.Proofs.YtgfnijhhhgjabaaGreatDoor.EV
end
section
namespace Go.Proofs.YtgfnijhhhgjabaaGreatDoor.EV
open Go.RowKit Go.Maps
set_option linter.unusedVariables false
set_option linter.unusedSimpArgs false
attribute [local go_sem ↓] Go.wp_at_zero Go.wp_at_succ

/-- an expression's value, or none -/
def evalV (l : List B) (d : Nat) (e : E) : Option V := if exprB 8 e then workV l d e else none
set_option maxHeartbeats 1600000 in
theorem eval_any (d : Nat) (e : E) (a : Option Addr) (c : Nat) (v : Value) (l : List B) (w : World) (hwfl : ∀ b ∈ l, b.wf) (hK : KT w) (hT : AR.Tab w) (hE : EIs w d e a c) (hl : Lb w v l) :
    Calls Tryz.prog 24 #[e.val a c, v] w fun r w' => r = .returned (optV (evalV l d e)) ∧ Below w.heap.size w w' := by
  have HS0 := Lib.hid (wst_new w #[.int .i8 e.op, .string e.t.v, .int .i8 e.t.a.k, .int .i64 e.t.a.n, .string e.t.a.s, .slice a e.kids.length c])
  simp only [List.toList_toArray] at HS0
  have HI := Lib.hid (isExpr_any 8 d e a c _ (by omega) (hK.below HS0.out.bel) (hE.below HS0.out.bel))
  have HW : Hid (∀ u, Below w.heap.size w u → exprB 8 e = true → Calls Tryz.prog 48 #[e.val a c, v] u fun r w' => r = .returned (optV (workV l d e)) ∧ Below u.heap.size u w') :=
    fun u hu he => work_any l hwfl d 8 e a c v u (hT.below hu) (hE.below hu) he (hl.below hu)
  obtain ⟨a0, c0, hv, -, -, -⟩ := hl.form
  subst hv
  have HV := Lib.hid (show evalV l d e = if exprB 8 e then workV l d e else none from rfl)
  clear hK hT hE hl hwfl
  unfold E.val at HI HW
  unfold E.val
  generalize exprB 8 e = ok at HI HW HV
  cases ok with
  | true =>
    obtain ⟨k, n, s, b, ho⟩ := optV_form (workV l d e)
    have HO : Hid (optV (evalV l d e) = .tuple #[.agg #[.int .i8 k, .int .i64 n, .string s], .bool b]) := by show _ = _; rw [HV.out]; exact ho
    rw [ho] at HW
    clear ho HV
    go_enter Tryz.func24, Tryz.ntmps24
    go_wp2_with fail
    refine HI.out.mono ?_
    rintro r w1 ⟨rfl, b1⟩
    have H1 := Lib.hid (HS0.out.keep b1)
    have q0 := H1.out.r0.at (j := 0) rfl
    have q1 := H1.out.r0.at (j := 1) rfl
    have q2 := H1.out.r0.at (j := 2) rfl
    have q3 := H1.out.r0.at (j := 3) rfl
    have q4 := H1.out.r0.at (j := 4) rfl
    have q5 := H1.out.r0.at (j := 5) rfl
    have HC := Lib.hid (HW.out w1 H1.out.bel (by first | rfl | trivial))
    clear HI HS0 b1 HW
    go_wp2_with fail
    refine HC.out.mono ?_
    rintro r w2 ⟨rfl, b2⟩
    have H2 := Lib.hid (H1.out.keep b2)
    have y0 := H2.out.r1.at (j := 0) rfl
    have y1 := H2.out.r1.at (j := 1) rfl
    have y2 := H2.out.r1.at (j := 2) rfl
    have f0 := World.rowIs.frozen H2.out.r1 0
    have f1 := World.rowIs.frozen H2.out.r1 1
    have f2 := World.rowIs.frozen H2.out.r1 2
    clear HC H1 b2 q0 q1 q2 q3 q4 q5
    go_wp2
    exact work_done Tryz.results24 (b := w.heap.size + 1) (by omega) H2.out.bel H2.out.r1 rfl rfl rfl HO.out
  | false =>
    have HO : Hid (optV (evalV l d e) = .tuple #[.agg #[.int .i8 0, .int .i64 0, .string ⟨#[]⟩], .bool false]) := by show _ = _; rw [HV.out]; rfl
    clear HV HW
    go_enter Tryz.func24, Tryz.ntmps24
    go_wp2_with fail
    refine HI.out.mono ?_
    rintro r w1 ⟨rfl, b1⟩
    have H1 := Lib.hid (HS0.out.keep b1)
    clear HI HS0 b1
    have y0 := H1.out.r1.at (j := 0) rfl
    have y1 := H1.out.r1.at (j := 1) rfl
    have y2 := H1.out.r1.at (j := 2) rfl
    have f0 := World.rowIs.frozen H1.out.r1 0
    have f1 := World.rowIs.frozen H1.out.r1 1
    have f2 := World.rowIs.frozen H1.out.r1 2
    go_wp2
    exact work_done Tryz.results24 (b := w.heap.size + 1) (by omega) H1.out.bel H1.out.r1 rfl rfl rfl HO.out
end Go.Proofs.YtgfnijhhhgjabaaGreatDoor.EV
end
