import Derived.Test.YtkgoceomkkohmaaDoorMnLA
import Derived.Test.YtkgoceomkkohmaaDoorMnAp
import Derived.Test.YtkgoceomkkohmaaDoorMnRg
namespace Go.Proofs.YtkgoceomkkohmaaDoor
open Go.RowKit Go.Maps
set_option linter.unusedVariables false
set_option linter.unusedSimpArgs false
attribute [local go_sem ↓] Go.wp_at_zero Go.wp_at_succ

theorem run_eqlVm (k n : Int) (s : ByteArray) (w : World) : (binOp .eql 26 (.agg #[.int .i8 k, .int .i64 n, .string s]) (.agg #[.int .i8 k, .int .i64 n, .string s])).run Tryd.prog w = .ok (.bool true) w := by go_simp
theorem run_neqVm (k n : Int) (s : ByteArray) (w : World) : (binOp .neq 26 (.agg #[.int .i8 k, .int .i64 n, .string s]) (.agg #[.int .i8 k, .int .i64 n, .string s])).run Tryd.prog w = .ok (.bool false) w := by go_simp
theorem own_step {w : World} {l : List B} {vs : List ByteArray} {i : Nat} (h : i < vs.length) : (∀ b, firstB l (atS vs i) = some b → ownOf l (vs.take (i + 1)) = ownOf l (vs.take i) ++ [b]) ∧ (firstB l (atS vs i) = none → ownOf l (vs.take (i + 1)) = ownOf l (vs.take i)) := by
  rw [takeS h, ownOf_snoc]
  refine ⟨fun b hb => by rw [hb]; rfl, fun hb => by rw [hb]; simp⟩
theorem all_step {l : List B} {vs : List ByteArray} {i : Nat} (h : i < vs.length) : allOf l (vs.take (i + 1)) = (allOf l (vs.take i) && thereB l (atS vs i)) := by
  rw [takeS h, allOf_snoc]
theorem there_of {l : List B} {v : ByteArray} {b : B} (h : firstB l v = some b) : thereB l v = okV b.a := by unfold thereB; rw [h]
theorem there_no {l : List B} {v : ByteArray} (h : firstB l v = none) : thereB l v = false := by unfold thereB; rw [h]
theorem infoVm : (Tryd.prog.info? 26).map (fun i => (i.zero, i.size, i.bytes)) = some (some (.agg #[.int .i8 0, .int .i64 0, .string ⟨#[]⟩]), 3, 32) := by kernel_rfl
theorem kids_few {r : Nat} {e : E} (hx : exprB (r + 1) e = true) : e.kids.length ≤ 1000 := by
  unfold exprB at hx
  simp only [Bool.and_eq_true, decide_eq_true_eq] at hx
  have h1 := hx.1.1.1
  have h2 := hx.1.1.2
  have h3 := hx.1.2
  obtain ⟨n, hn⟩ : ∃ n : Nat, e.op = n := ⟨e.op.toNat, by omega⟩
  rw [hn] at h2 h3
  simp only [Int.toNat_natCast] at h3
  rw [h3]
  have hn11 : n < 11 := by omega
  have : ∀ m, m < 11 → kidsOf m ≤ 1000 := by decide
  exact this n hn11
set_option maxHeartbeats 12800000 in
set_option maxRecDepth 100000 in
theorem termMeans_walk (d : Nat) (e : E) (a : Option Addr) (c : Nat) (l m : List B) (a1 a2 : Option Addr) (c1 c2 : Nat) (w : World) (hG : KT w ∧ AR.Tab w) (hE : EIs w d e a c) (hL : Lb w (.slice a1 l.length c1) l) (hM : Lb w (.slice a2 m.length c2) m) (hll : l.length ≤ 1048576) (hml : m.length ≤ 1048576) :
    Calls Tryd.prog 3 #[e.val a c, .slice a1 l.length c1, .slice a2 m.length c2] w fun r w' => r = .returned (.bool true) ∧ Below w.heap.size w w' := by
  have BA := belowA (w := w) (.cells #[.int .i8 e.op, .string e.t.v, .int .i8 e.t.a.k, .int .i64 e.t.a.n, .string e.t.a.s, .slice a e.kids.length c] 31)
  have HX := Lib.hid (rl_new w #[.int .i8 e.op, .string e.t.v, .int .i8 e.t.a.k, .int .i64 e.t.a.n, .string e.t.a.s, .slice a e.kids.length c] 31)
  have HE : Hid (∀ u, Below w.heap.size w u → EIs u d e a c) := fun u hu => hE.below hu
  have HL : Hid (∀ u, Below w.heap.size w u → Lb u (.slice a1 l.length c1) l) := fun u hu => hL.below hu
  have HM : Hid (∀ u, Below w.heap.size w u → Lb u (.slice a2 m.length c2) m) := fun u hu => hM.below hu
  have HKT : Hid (∀ u, Below w.heap.size w u → KT u) := fun u hu => hG.1.below hu
  have HAT : Hid (∀ u, Below w.heap.size w u → AR.Tab u) := fun u hu => hG.2.below hu
  have HWF : Hid (∀ b ∈ l, b.wf) := hL.wf
  have HWM : Hid (∀ b ∈ m, b.wf) := hM.wf
  obtain ⟨i0, hi0, hz0, hz1, hz2⟩ := info_parts infoBd
  obtain ⟨k, n, s, b, ho⟩ := optV_form (evalV l d e)
  have HO := Lib.hid ho
  have HEV : Hid (∀ u, Below w.heap.size w u → ∀ v' (l' : List B), Lb u v' l' → (∀ x ∈ l', x.wf) → evalV l' d e = evalV l d e → Calls Tryd.prog 6 #[e.val a c, v'] u fun r w' => r = .returned (.tuple #[.agg #[.int .i8 k, .int .i64 n, .string s], .bool b]) ∧ Below u.heap.size u w') := fun u hu v' l' hl' hw' he' => by
    have := eval_any d e a c v' l' u hw' (HKT.out u hu) (HAT.out u hu) (HE.out u hu) hl'
    rw [he', HO.out] at this
    exact this
  clear hG hE hL hM ho
  unfold E.val at HEV ⊢
  go_enter Tryd.func3, Tryd.ntmps3
  go_wp2_with fail
  refine (beyondExprS_any d e a c _ (HE.out _ BA)).mono ?_
  rintro r w1 ⟨bb, rfl, b1, hsm⟩
  have B1 : Hid (Below w.heap.size w w1) := BA.trans (b1.mono BA.size)
  have HX1 := Lib.hid (HX.out.below b1)
  have HSM := Lib.hid hsm
  clear hsm b1 BA HX
  cases bb with
  | true =>
    go_wp2
    go_ret
    exact ⟨rfl, B1.out⟩
  | false =>
  have HSZ := Lib.hid (HSM.out rfl).2
  clear HSM
  go_wp2_with fail
  refine (lives_any w1 (HAT.out _ B1.out) (HKT.out _ B1.out)).mono ?_
  rintro r w2 ⟨rfl, b2⟩
  have B2 : Hid (Below w.heap.size w w2) := B1.out.trans (b2.mono B1.out.size)
  have HX2 := Lib.hid (HX1.out.below b2)
  clear b2 B1 HX1
  have x0 := HX2.out.at (j := 0) rfl
  have x1 := HX2.out.at (j := 1) rfl
  have x2 := HX2.out.at (j := 2) rfl
  have x3 := HX2.out.at (j := 3) rfl
  have x4 := HX2.out.at (j := 4) rfl
  have x5 := HX2.out.at (j := 5) rfl
  go_wp2_with fail
  refine (HEV.out w2 B2.out _ l (HL.out _ B2.out) HWF.out rfl).mono ?_
  rintro r w3 ⟨rfl, b3⟩
  clear x0 x1 x2 x3 x4 x5
  have hA3 := belowA (w := w3) (.cells #[.int .i8 k, .int .i64 n, .string s] 26)
  have hb3 := b3.trans (hA3.mono b3.size)
  have B3 := Lib.hid (B2.out.trans (hb3.mono B2.out.size))
  have HX3 := Lib.hid (HX2.out.below hb3)
  have HV3 := Lib.hid (rl_new w3 #[.int .i8 k, .int .i64 n, .string s] 26)
  clear hA3 hb3 b3 B2 HX2
  go_upto_region 6 with fail
  generalize w3.alloc (.cells #[.int .i8 k, .int .i64 n, .string s] 26) = W3 at B3 HX3 HV3 ⊢
  generalize w3.heap.size = b7 at HV3 ⊢
  have x0 := HX3.out.at (j := 0) rfl
  have x1 := HX3.out.at (j := 1) rfl
  have x2 := HX3.out.at (j := 2) rfl
  have x3 := HX3.out.at (j := 3) rfl
  have x4 := HX3.out.at (j := 4) rfl
  have x5 := HX3.out.at (j := 5) rfl
  have HCE := Lib.hid (rcheckExpr_any d e a c W3 (HE.out _ B3.out))
  unfold E.val at HCE
  go_wp2_with fail
  refine HCE.out.mono ?_
  rintro r w4 ⟨rfl, b4⟩
  have B4 := Lib.hid (B3.out.trans (b4.mono B3.out.size))
  have HX4 := Lib.hid (HX3.out.below b4)
  have HV4 := Lib.hid (HV3.out.below b4)
  clear b4 B3 HX3 HV3 HCE x0 x1 x2 x3 x4 x5
  generalize hxb : exprB 8 e = xb
  cases xb with
  | false =>
    have hno : evalV l d e = none := by unfold evalV; rw [hxb]; rfl
    have h := HO.out
    rw [hno] at h
    simp only [optV, Value.tuple.injEq, Array.mk.injEq, List.cons.injEq, Value.agg.injEq, Value.int.injEq, Value.string.injEq, Value.bool.injEq, and_true, true_and] at h
    obtain ⟨⟨rfl, rfl, rfl⟩, rfl⟩ := h
    have v0 := HV4.out.at (j := 0) rfl
    have v1 := HV4.out.at (j := 1) rfl
    have v2 := HV4.out.at (j := 2) rfl
    have he10 : errB false = 40 := rfl
    clear hno hxb HEV HO
    go_wp2
    go_ret
    exact ⟨rfl, B4.out⟩
  | true =>
  have he0 : errB true = 0 := rfl
  have HXB := Lib.hid hxb
  clear hxb
  have x0 := HX4.out.at (j := 0) rfl
  have x1 := HX4.out.at (j := 1) rfl
  have x2 := HX4.out.at (j := 2) rfl
  have x3 := HX4.out.at (j := 3) rfl
  have x4 := HX4.out.at (j := 4) rfl
  have x5 := HX4.out.at (j := 5) rfl
  have HVS := Lib.hid (rexprVars_any d e a c w4 (HE.out _ B4.out) HSZ.out)
  unfold E.val at HVS
  go_wp2_with fail
  refine HVS.out.mono ?_
  rintro r w5 ⟨sv, rfl, hvs, b5⟩
  obtain ⟨av, cv, rfl, hv1, hv2, hvc⟩ := ls_str hvs
  have B5 := Lib.hid (B4.out.trans (b5.mono B4.out.size))
  have HX5 := Lib.hid (HX4.out.below b5)
  have HV5 := Lib.hid (HV4.out.below b5)
  have HVC := Lib.hid hvc
  have HLS := Lib.hid hvs
  have hvl : (vsT [] (termsD d e)).length ≤ 1048576 := by
    have h1 := vsT_len (termsD d e) []
    have h2 := HSZ.out
    unfold szD at h2
    simp at h1
    omega
  clear hvc hvs hv1 hv2 b5 B4 HX4 HV4 HVS x0 x1 x2 x3 x4 x5 he0
  have HEQ : Hid (∀ l' : List B, (∀ v ∈ vsT [] (termsD d e), seek l' v = seek l v) → evalV l' d e = evalV l d e) := fun l' h => evalV_same h
  have HLO : Hid (allOf l (vsT [] (termsD d e)) = false → b = false ∧ evalV l d e = none) := fun h => by
    have hn := eval_lost (l := l) HXB.out h
    have h2 := HO.out
    rw [hn] at h2
    simp only [optV, Value.tuple.injEq, Array.mk.injEq, List.cons.injEq, Value.bool.injEq, and_true] at h2
    exact ⟨h2.2.symm, hn⟩
  have HAP : Hid (∀ own : List B, (∀ v ∈ vsT [] (termsD d e), seek own v = seek l v) → allOf l (vsT [] (termsD d e)) = true → evalV [] d (applyD (own.map pairB) d e) = evalV l d e) := fun own h1 h2 => eval_apply HXB.out h1 h2
  have HSO : Hid (∀ v ∈ vsT [] (termsD d e), seek (ownOf l (vsT [] (termsD d e))) v = seek l v) := fun v hv => seek_own hv
  generalize hvse : vsT [] (termsD d e) = vs at HVC HLS hvl HEQ HLO HAP HSO ⊢
  clear hvse
  go_wp2
  go_loopw [10, 11, 12] (fun ov av iv wr => ∃ (i : Nat) (a' : Option Addr) (c' : Nat), i ≤ vs.length ∧ iv = .int .i64 i ∧ ov = .slice a' (ownOf l (vs.take i)).length c' ∧ av = .bool (allOf l (vs.take i)) ∧ Hid (wr.ownsRow w5.heap.size 41 4 (.slice a' (ownOf l (vs.take i)).length c') (ownOf l (vs.take i)).length ((ownOf l (vs.take i)).flatMap B.cells)) ∧ Hid (Below w5.heap.size w5 wr)) (fun _ _ iv _ => vs.length - (intOf iv).toNat)
  case atStart => exact ⟨0, none, 0, Nat.zero_le _, rfl, rfl, rfl, World.ownsRow_nil _ _ _ _, Below.refl _ _⟩
  case round =>
    obtain ⟨i, a', c', hi, rfl, rfl, rfl, HOW, HBW⟩ := hrel
    by_cases hlt : i < vs.length
    · have hlt' : (i : Int) < (vs.length : Int) := by omega
      have hi00 : (0 : Int) ≤ (i : Int) := by omega
      obtain ⟨gv, ov, rfl, hgv, hvat⟩ := HVC.out (by omega)
      have HVA : Hid (∀ u, Below w5.heap.size w5 u → u.cell? ⟨gv, ov + i, none⟩ = some (.string (atS vs i))) := fun u hu => by rw [hu.cell (p := ⟨gv, ov + i, none⟩) hgv]; exact hvat i hlt
      have HS1 := Lib.hid (own_step (w := w) (l := l) hlt)
      have HS2 := Lib.hid (all_step (l := l) hlt)
      have hol : (ownOf l (vs.take i)).length ≤ 1048576 := by
        have h1 := ownOf_len l (vs.take i)
        have h2 : (vs.take i).length ≤ vs.length := by rw [List.length_take]; omega
        omega
      generalize ownOf l (vs.take i) = own0 at HOW HS1 hol ⊢
      generalize allOf l (vs.take i) = all0 at HS2 ⊢
      obtain ⟨own1, hown1⟩ : ∃ o, ownOf l (vs.take (i + 1)) = o := ⟨_, rfl⟩
      obtain ⟨all1, hall1⟩ : ∃ o, allOf l (vs.take (i + 1)) = o := ⟨_, rfl⟩
      have HE1 := Lib.hid hown1
      have HE2 := Lib.hid hall1
      rw [hown1] at HS1
      rw [hall1] at HS2
      clear hown1 hall1 hvat
      obtain ⟨v, hv⟩ : ∃ v, atS vs i = v := ⟨_, rfl⟩
      rw [hv] at HVA HS1 HS2
      clear hv
      obtain ⟨W1, rfl⟩ : ∃ W1, W1 = wr := ⟨_, rfl⟩
      go_wp2
      go_loopw [10, 11, 13, 14] (fun ov av tv kv wr => ∃ (kk : Nat) (a3 : Option Addr) (c3 : Nat) (th al2 : Bool) (own2 : List B), kk ≤ l.length ∧ kv = .int .i64 kk ∧ tv = .bool th ∧ ov = .slice a3 own2.length c3 ∧ av = .bool al2 ∧ Hid (wr.ownsRow w5.heap.size 41 4 (.slice a3 own2.length c3) own2.length (own2.flatMap B.cells)) ∧ Hid (Below w5.heap.size w5 wr) ∧ Hid ((th = false ∧ own2 = own0 ∧ al2 = all0 ∧ ∀ j, j < kk → (atB l j).v ≠ v) ∨ (th = true ∧ own2 = own1 ∧ al2 = all1))) (fun _ _ _ kv _ => l.length - (intOf kv).toNat)
      case atStart => exact ⟨0, a', c', false, all0, own0, Nat.zero_le _, rfl, rfl, rfl, rfl, HOW, HBW, .inl ⟨rfl, rfl, rfl, fun j hj => absurd hj (by omega)⟩⟩
      case round =>
        obtain ⟨kk, a3, c3, th, al2, own2, hkk, rfl, rfl, rfl, rfl, HOX, HBX, HD⟩ := hrel
        clear HOW HBW
        rcases HD.out with ⟨rfl, rfl, rfl, hno⟩ | ⟨rfl, rfl, rfl⟩
        · have HNO := Lib.hid hno
          clear hno HD
          by_cases hkl : kk < l.length
          · have hkl' : (kk : Int) < (l.length : Int) := by omega
            have hk0 : (0 : Int) ≤ (kk : Int) := by omega
            obtain ⟨aL, cL, eL, _, _, hLf⟩ := (HL.out w5 B5.out).form
            cases eL
            obtain ⟨gl, ol, rfl, hgl, hTA⟩ := hLf (by omega)
            have HTA : Hid (∀ u, Below w5.heap.size w5 u → TAt u gl (ol + kk * 4) ⟨(atB l kk).v, (atB l kk).a⟩) := fun u hu => (hTA kk hkl).below hu hgl
            obtain ⟨y0, y1, y2, y3⟩ := HTA.out wr HBX.out
            have z0 := HVA.out wr HBX.out
            have hEq := eq_bytes (atB l kk).v v
            have HFH : Hid ((atB l kk).v = v → firstB l v = some (atB l kk)) := fun e => first_here hkl HNO.out e
            have HBwf : Hid (atB l kk).wf := by show (atB l kk).wf; rw [atB_eq hkl]; exact HWF.out _ (List.getElem_mem hkl)
            have HNX : Hid ((atB l kk).v ≠ v → ∀ j, j < kk + 1 → (atB l j).v ≠ v) := fun e j hj => by
              by_cases hj2 : j < kk
              · exact HNO.out j hj2
              · obtain rfl : j = kk := by omega
                exact e
            clear hTA hLf
            generalize atB l kk = bk at HTA y0 y1 y2 y3 hEq HFH HBwf HNX
            by_cases hbv : bk.v = v
            · rw [decide_eq_true hbv] at hEq
              have hf := HFH.out hbv
              have HO1 : Hid (own1 = own2 ++ [bk]) := HS1.out.1 _ hf
              have HA1 : Hid (all1 = (al2 && okV bk.a)) := by show all1 = _; rw [HS2.out, there_of hf]
              have hck : (chk bk.a.k bk.a.n bk.a.s == (0 : Int)) = okV bk.a := rfl
              clear hbv HNX HFH HNO hf
              go_wp2_with fail
              go_quiet (fail)
              have HB2 : Hid (Below w5.heap.size w5 (wr.drewN nq)) := below_drewN HBX.out nq
              have HO2 := Lib.hid (own_below HOX.out (below_drewN (Below.refl wr.heap.size wr) nq))
              obtain ⟨p0, p1, p2, p3⟩ := HTA.out _ HB2.out
              generalize wr.drewN nq = W2 at HB2 HO2 p0 p1 p2 p3 ⊢
              clear y0 y1 y2 y3 z0 HOX HBX
              have hbs : w5.heap.size ≤ W2.heap.size := HB2.out.size
              cases al2 with
              | true =>
                go_wp2_with (at_builtin; refine wpList_append_own_at _ rfl _ _ 32 rfl w5.heap.size 41 i0 _ 4 48 Tryd.underlying32 hi0 hz0 hz1 hz2 rfl (by decide) _ _ _ rfl (own_below HO2.out (belowA _)) ⟨_, 0, none⟩ 1 1 [.string bk.v, .int .i8 bk.a.k, .int .i64 bk.a.n, .string bk.a.s] rfl rfl (lit_news _ #[.string bk.v, .int .i8 bk.a.k, .int .i64 bk.a.n, .string bk.a.s] _) (by simp [Value.oneCell']) (by unfold maxLen; omega) (by omega) (by simp; omega) ?_; intro v' w6 hown' hgrow hnil hloc; obtain ⟨a5, c5, rfl, _⟩ := own_form hown'; have HB6 : Hid (Below w5.heap.size w5 w6) := (HB2.out.alloc HB2.out.size _).grown hgrow (by simp; omega) (fun j hj => (HO2.out.lt j hj).1); obtain ⟨q0, q1, q2, q3⟩ := HTA.out _ HB6.out)
                refine (rcheck_any bk.a.k bk.a.n bk.a.s _ HBwf.out.val.text).mono ?_
                rintro r w7 ⟨rfl, b7x⟩
                have HB7 := Lib.hid (HB6.out.trans (b7x.mono HB6.out.size))
                have HO7 : Hid (w7.ownsRow w5.heap.size 41 4 (.slice a5 (own2 ++ [bk]).length c5) (own2 ++ [bk]).length ((own2 ++ [bk]).flatMap B.cells)) := by
                  show World.ownsRow _ _ _ _ _ _ _
                  rw [List.length_append, List.flatMap_append]
                  exact own_below hown' b7x
                have HLn : Hid ((own2 ++ [bk]).length = own2.length + 1) := by show _ = _; simp
                clear hown' hgrow hnil hloc b7x HB6 q0 q1 q2 q3
                go_wp2
                go_roundw
                case rel => exact ⟨kk + 1, a5, c5, true, okV bk.a, own2 ++ [bk], by omega, by go_num, rfl, by rw [HLn.out], rfl, HO7, HB7, .inr ⟨rfl, HO1.out.symm, by rw [HA1.out]; rfl⟩⟩
                case measure => simp [intOf]; omega
              | false =>
                go_wp2_with (at_builtin; refine wpList_append_own_at _ rfl _ _ 32 rfl w5.heap.size 41 i0 _ 4 48 Tryd.underlying32 hi0 hz0 hz1 hz2 rfl (by decide) _ _ _ rfl (own_below HO2.out (belowA _)) ⟨_, 0, none⟩ 1 1 [.string bk.v, .int .i8 bk.a.k, .int .i64 bk.a.n, .string bk.a.s] rfl rfl (lit_news _ #[.string bk.v, .int .i8 bk.a.k, .int .i64 bk.a.n, .string bk.a.s] _) (by simp [Value.oneCell']) (by unfold maxLen; omega) (by omega) (by simp; omega) ?_; intro v' w6 hown' hgrow hnil hloc; obtain ⟨a5, c5, rfl, _⟩ := own_form hown'; have HB6 : Hid (Below w5.heap.size w5 w6) := (HB2.out.alloc HB2.out.size _).grown hgrow (by simp; omega) (fun j hj => (HO2.out.lt j hj).1); obtain ⟨q0, q1, q2, q3⟩ := HTA.out _ HB6.out)
                have HO7 : Hid (w6.ownsRow w5.heap.size 41 4 (.slice a5 (own2 ++ [bk]).length c5) (own2 ++ [bk]).length ((own2 ++ [bk]).flatMap B.cells)) := by
                  show World.ownsRow _ _ _ _ _ _ _
                  rw [List.length_append, List.flatMap_append]
                  exact hown'
                have HLn : Hid ((own2 ++ [bk]).length = own2.length + 1) := by show _ = _; simp
                clear hown' hgrow hnil hloc q0 q1 q2 q3
                go_wp2
                go_roundw
                case rel => exact ⟨kk + 1, a5, c5, true, false, own2 ++ [bk], by omega, by go_num, rfl, by rw [HLn.out], rfl, HO7, HB6, .inr ⟨rfl, HO1.out.symm, by rw [HA1.out]; rfl⟩⟩
                case measure => simp [intOf]; omega
            · rw [decide_eq_false hbv] at hEq
              have HNX' := Lib.hid (HNX.out hbv)
              clear hbv HNX HFH HNO
              go_wp2_with fail
              go_quiet (fail)
              go_wp2
              go_roundw
              case rel => exact ⟨kk + 1, a3, c3, false, al2, own2, by omega, by go_num, rfl, rfl, rfl, own_below HOX.out (below_drewN (Below.refl _ _) _), below_drewN HBX.out _, .inl ⟨rfl, rfl, rfl, HNX'.out⟩⟩
              case measure => simp [intOf]; omega
          · obtain rfl : kk = l.length := by omega
            have hfn := first_no HNO.out
            have HO1 : Hid (own1 = own2) := HS1.out.2 hfn
            have HA1 : Hid (all1 = false) := by show all1 = false; rw [HS2.out, there_no hfn, Bool.and_false]
            clear hfn HNO
            cases al2 with
            | true =>
              go_wp2
              go_roundw
              case rel => exact ⟨i + 1, a3, c3, by omega, by go_num, by rw [HE1.out, HO1.out], by rw [HE2.out, HA1.out], by rw [HE1.out, HO1.out]; exact HOX, HBX⟩
              case measure => simp [intOf]; omega
            | false =>
              go_wp2
              go_roundw
              case rel => exact ⟨i + 1, a3, c3, by omega, by go_num, by rw [HE1.out, HO1.out], by rw [HE2.out, HA1.out], by rw [HE1.out, HO1.out]; exact HOX, HBX⟩
              case measure => simp [intOf]; omega
        · clear HD
          by_cases hkl : (kk : Int) < (l.length : Int)
          all_goals
            cases al2 with
            | true =>
              go_wp2
              go_roundw
              case rel => exact ⟨i + 1, a3, c3, by omega, by go_num, by rw [HE1.out], by rw [HE2.out], by rw [HE1.out]; exact HOX, HBX⟩
              case measure => simp [intOf]; omega
            | false =>
              go_wp2
              go_roundw
              case rel => exact ⟨i + 1, a3, c3, by omega, by go_num, by rw [HE1.out], by rw [HE2.out], by rw [HE1.out]; exact HOX, HBX⟩
              case measure => simp [intOf]; omega
    · obtain rfl : i = vs.length := by omega
      rw [List.take_length] at HOW ⊢
      have hol : (ownOf l vs).length ≤ 1048576 := by have h1 := ownOf_len l vs; omega
      have HOWF : Hid (∀ x ∈ ownOf l vs, x.wf) := ownOf_wf HWF.out vs
      have HTH : Hid (allOf l vs = true → ∀ v ∈ vs, thereB l v = true) := fun h => all_there h
      generalize ownOf l vs = own0 at HOW HSO hol HOWF ⊢
      generalize allOf l vs = all0 at HLO HAP HTH ⊢
      have BW := Lib.hid (B5.out.trans (HBW.out.mono B5.out.size))
      have x0 := (HX5.out.below HBW.out).at (j := 0) rfl
      have x1 := (HX5.out.below HBW.out).at (j := 1) rfl
      have x2 := (HX5.out.below HBW.out).at (j := 2) rfl
      have x3 := (HX5.out.below HBW.out).at (j := 3) rfl
      have x4 := (HX5.out.below HBW.out).at (j := 4) rfl
      have x5 := (HX5.out.below HBW.out).at (j := 5) rfl
      clear hi hlt
      go_wp2_with fail
      refine (HEV.out wr BW.out _ own0 (own_lb HOW.out HOWF.out) HOWF.out (HEQ.out own0 HSO.out)).mono ?_
      rintro r w6 ⟨rfl, b6⟩
      clear x0 x1 x2 x3 x4 x5 BW
      have hA6 := belowA (w := w6) (.cells #[.int .i8 k, .int .i64 n, .string s] 26)
      have hb6 := b6.trans (hA6.mono b6.size)
      have HB6 := Lib.hid (HBW.out.trans (hb6.mono HBW.out.size))
      have HO6 := Lib.hid (own_below HOW.out hb6)
      have HU6 := Lib.hid (rl_new w6 #[.int .i8 k, .int .i64 n, .string s] 26)
      clear hA6 hb6 b6 HOW HBW
      go_upto_region 24 with fail
      generalize w6.alloc (.cells #[.int .i8 k, .int .i64 n, .string s] 26) = W6 at HB6 HO6 HU6 ⊢
      generalize w6.heap.size = b15 at HU6 ⊢
      have v0 := (HV5.out.below HB6.out).at (j := 0) rfl
      have v1 := (HV5.out.below HB6.out).at (j := 1) rfl
      have v2 := (HV5.out.below HB6.out).at (j := 2) rfl
      have u0 := HU6.out.at (j := 0) rfl
      have u1 := HU6.out.at (j := 1) rfl
      have u2 := HU6.out.at (j := 2) rfl
      have hne := run_neqVm k n s
      have hbb : (b != b) = false := by simp
      go_cut [117] (fun x wc => x = .bool false ∧ Hid (wc = W6))
      case first =>
        cases all0 with
        | true =>
          go_wp2_with fail
          go_meet
          case rel => exact ⟨rfl, rfl⟩
        | false =>
          obtain ⟨hbf, -⟩ := HLO.out rfl
          subst hbf
          go_wp2_with fail
          go_meet
          case rel => exact ⟨rfl, rfl⟩
      case rest =>
        obtain ⟨rfl, hwc⟩ := hcut
        obtain rfl := hwc.out
        clear hwc v0 v1 v2 u0 u1 u2 HU6
        have HO0 : Hid (∃ own : List B, own = own0) := ⟨_, rfl⟩
        go_wp2
        go_loopw [10, 17] (fun ov iv wr => ∃ (i : Nat) (a' : Option Addr) (c' : Nat) (own : List B), i ≤ m.length ∧ iv = .int .i64 i ∧ ov = .slice a' own.length c' ∧ own.length ≤ 1048576 + i ∧ Hid (wr.ownsRow w5.heap.size 41 4 (.slice a' own.length c') own.length (own.flatMap B.cells)) ∧ Hid (Below w5.heap.size w5 wr) ∧ Hid (∀ x ∈ own, x.wf) ∧ Hid (∀ v ∈ vs, seek own v = seek l v)) (fun _ iv _ => m.length - (intOf iv).toNat)
        case atStart => exact ⟨0, _, _, own0, Nat.zero_le _, rfl, rfl, by omega, HO6, HB6, HOWF, HSO⟩
        case round =>
          obtain ⟨i, a3, c3, own, hi, rfl, rfl, hon, HOX, HBX, HWO, HSK⟩ := hrel
          clear HO6 HB6 HOWF HSO
          by_cases hlt : i < m.length
          · have hlt' : (i : Int) < (m.length : Int) := by omega
            have hi00 : (0 : Int) ≤ (i : Int) := by omega
            obtain ⟨aM, cM, eM, _, _, hMf⟩ := (HM.out w5 B5.out).form
            cases eM
            obtain ⟨gm, om, rfl, hgm, hTM⟩ := hMf (by omega)
            obtain ⟨y0, y1, y2, y3⟩ := (hTM i hlt).below HBX.out hgm
            have HBwf : Hid (atB m i).wf := by show (atB m i).wf; rw [atB_eq hlt]; exact HWM.out _ (List.getElem_mem hlt)
            have HSM := Lib.hid (seek_more HSK.out HTH.out (atB m i))
            clear hTM hMf
            generalize atB m i = bm at y0 y1 y2 y3 HBwf HSM
            have HIN := Lib.hid (in_any bm.v _ vs wr (HLS.out.below HBX.out))
            obtain ⟨ib, hib⟩ : ∃ ib, inB vs bm.v = ib := ⟨_, rfl⟩
            rw [hib] at HIN
            have HIB := Lib.hid hib
            clear hib
            have hbs : w5.heap.size ≤ wr.heap.size := HBX.out.size
            have HLn : Hid ((own ++ [bm]).length = own.length + 1) := by show _ = _; simp
            have HLc : Hid ((bm :: own).length = 1 + own.length) := by show _ = _; simp; omega
            have HWA : Hid (∀ x ∈ own ++ [bm], x.wf) := fun x hx => by
              rcases List.mem_append.1 hx with h | h
              · exact HWO.out x h
              · rw [List.mem_singleton.1 h]; exact HBwf.out
            have HWC : Hid (∀ x ∈ bm :: own, x.wf) := fun x hx => by
              rcases List.mem_cons.1 hx with h | h
              · rw [h]; exact HBwf.out
              · exact HWO.out x h
            go_wp2_with fail
            refine HIN.out.mono ?_
            rintro r wr' ⟨rfl, rfl⟩
            cases ib with
            | true =>
              cases all0 with
              | true =>
                go_wp2_with (at_builtin; refine wpList_append_own_at _ rfl _ _ 32 rfl w5.heap.size 41 i0 _ 4 48 Tryd.underlying32 hi0 hz0 hz1 hz2 rfl (by decide) _ _ _ rfl (own_below HOX.out (belowA _)) ⟨_, 0, none⟩ 1 1 [.string bm.v, .int .i8 bm.a.k, .int .i64 bm.a.n, .string bm.a.s] rfl rfl (lit_news _ #[.string bm.v, .int .i8 bm.a.k, .int .i64 bm.a.n, .string bm.a.s] _) (by simp [Value.oneCell']) (by unfold maxLen; omega) (by omega) (by simp; omega) ?_; intro v' w7 hown' hgrow hnil hloc; obtain ⟨a5, c5, rfl, _⟩ := own_form hown'; have HB7 : Hid (Below w5.heap.size w5 w7) := (HBX.out.alloc HBX.out.size _).grown hgrow (by simp; omega) (fun j hj => (HOX.out.lt j hj).1))
                have HO7 : Hid (w7.ownsRow w5.heap.size 41 4 (.slice a5 (own ++ [bm]).length c5) (own ++ [bm]).length ((own ++ [bm]).flatMap B.cells)) := by
                  show World.ownsRow _ _ _ _ _ _ _
                  rw [List.length_append, List.flatMap_append]
                  exact hown'
                clear hown' hgrow hnil hloc y0 y1 y2 y3
                go_wp2
                go_roundw
                case rel => exact ⟨i + 1, a5, c5, own ++ [bm], by omega, by go_num, by rw [HLn.out], by rw [HLn.out]; omega, HO7, HB7, HWA, HSM.out.1 (by first | exact HIB.out | trivial) (by first | rfl | trivial)⟩
                case measure => simp [intOf]; omega
              | false =>
                go_wp2_with fail
                refine HIN.out.mono ?_
                rintro r wr' ⟨rfl, rfl⟩
                go_wp2
                go_roundw
                case rel => exact ⟨i + 1, a3, c3, own, by omega, by go_num, rfl, by omega, HOX, HBX, HWO, HSK⟩
                case measure => simp [intOf]; omega
            | false =>
              go_wp2_with fail
              refine HIN.out.mono ?_
              rintro r wr' ⟨rfl, rfl⟩
              have HFO : Hid ((wr'.alloc (.cells #[.string bm.v, .int .i8 bm.a.k, .int .i64 bm.a.n, .string bm.a.s] 41)).ownsRow w5.heap.size 41 4 (.slice (some ⟨wr'.heap.size, 0, none⟩) 1 1) 1 [.string bm.v, .int .i8 bm.a.k, .int .i64 bm.a.n, .string bm.a.s]) := World.ownsRow_lit (base := w5.heap.size) (e := 41) (size := 4) wr' #[.string bm.v, .int .i8 bm.a.k, .int .i64 bm.a.n, .string bm.a.s] 1 hbs (by decide) rfl
              have HLY := Lib.hid (own_lb (own_below HOX.out (belowA (w := wr') (.cells #[.string bm.v, .int .i8 bm.a.k, .int .i64 bm.a.n, .string bm.a.s] 41))) HWO.out)
              go_wp2_with (at_builtin; refine wpList_appB rfl _ _ rfl (b := w5.heap.size) rfl HFO.out (ts := own) rfl HLY.out (by omega) (by simp; omega) ?_; intro v' w7 hown' hgrow hloc; obtain ⟨a5, c5, rfl, _⟩ := own_form hown'; have HB7 : Hid (Below w5.heap.size w5 w7) := (HBX.out.alloc HBX.out.size _).grown hgrow (by simp; omega) (fun j hj => (HFO.out.lt j hj).1))
              have HO7 : Hid (w7.ownsRow w5.heap.size 41 4 (.slice a5 (bm :: own).length c5) (bm :: own).length ((bm :: own).flatMap B.cells)) := by
                show World.ownsRow _ _ _ _ _ _ _
                rw [HLc.out, List.flatMap_cons]
                exact hown'
              clear hown' hgrow hloc y0 y1 y2 y3
              go_wp2
              go_roundw
              case rel => exact ⟨i + 1, a5, c5, bm :: own, by omega, by go_num, by rw [HLc.out], by rw [HLc.out]; omega, HO7, HB7, HWC, HSM.out.2 (by first | exact HIB.out | trivial)⟩
              case measure => simp [intOf]; omega
          · obtain rfl : i = m.length := by omega
            have BW := Lib.hid (B5.out.trans (HBX.out.mono B5.out.size))
            have x0 := (HX5.out.below HBX.out).at (j := 0) rfl
            have x1 := (HX5.out.below HBX.out).at (j := 1) rfl
            have x2 := (HX5.out.below HBX.out).at (j := 2) rfl
            have x3 := (HX5.out.below HBX.out).at (j := 3) rfl
            have x4 := (HX5.out.below HBX.out).at (j := 4) rfl
            have x5 := (HX5.out.below HBX.out).at (j := 5) rfl
            clear hi hlt
            go_wp2_with fail
            refine (HEV.out wr BW.out _ own (own_lb HOX.out HWO.out) HWO.out (HEQ.out own HSK.out)).mono ?_
            rintro r w7 ⟨rfl, b7y⟩
            clear x0 x1 x2 x3 x4 x5 BW
            have hA7 := belowA (w := w7) (.cells #[.int .i8 k, .int .i64 n, .string s] 26)
            have hb7 := b7y.trans (hA7.mono b7y.size)
            have HB7 := Lib.hid (HBX.out.trans (hb7.mono HBX.out.size))
            have HO7 := Lib.hid (own_below HOX.out hb7)
            have HU7 := Lib.hid (rl_new w7 #[.int .i8 k, .int .i64 n, .string s] 26)
            clear hA7 hb7 b7y HOX HBX
            go_upto_region 34 with fail
            generalize w7.alloc (.cells #[.int .i8 k, .int .i64 n, .string s] 26) = W7 at HB7 HO7 HU7 ⊢
            generalize w7.heap.size = b18 at HU7 ⊢
            have v0 := (HV5.out.below HB7.out).at (j := 0) rfl
            have v1 := (HV5.out.below HB7.out).at (j := 1) rfl
            have v2 := (HV5.out.below HB7.out).at (j := 2) rfl
            have u0 := HU7.out.at (j := 0) rfl
            have u1 := HU7.out.at (j := 1) rfl
            have u2 := HU7.out.at (j := 2) rfl
            go_upto_if 170 with fail
            clear v0 v1 v2 u0 u1 u2 HU7
            go_cut [] (fun wc => Hid (Below w5.heap.size w5 wc))
            case first =>
              cases all0 with
              | false =>
                go_wp2_with fail
                go_meet
                case rel => exact HB7
              | true =>
                have HAPP := Lib.hid (HAP.out own HSK.out (by first | rfl | trivial))
                have BW7 := Lib.hid (B5.out.trans (HB7.out.mono B5.out.size))
                have HC1 : Hid (∀ u, Below W7.heap.size W7 u → Calls Tryd.prog 12 #[.slice a3 own.length c3] u fun e' w' => ∃ sp, e' = .returned sp ∧ Below u.heap.size u w' ∧
                    ∀ u2, Below w'.heap.size w' u2 → Calls Tryd.prog 11 #[sp, .agg #[.int .i8 e.op, .string e.t.v, .int .i8 e.t.a.k, .int .i64 e.t.a.n, .string e.t.a.s, .slice a e.kids.length c]] u2 fun e' w'' => ∃ ev', e' = .returned ev' ∧ Below u2.heap.size u2 w'' ∧
                    ∀ u3, Below w''.heap.size w'' u3 → Calls Tryd.prog 6 #[ev', .slice none 0 0] u3 fun e' w3 => e' = .returned (.tuple #[.agg #[.int .i8 k, .int .i64 n, .string s], .bool b]) ∧ Below u3.heap.size u3 w3) := fun u hu => by
                  have bu : Below w.heap.size w u := BW7.out.trans (hu.mono BW7.out.size)
                  refine (pairsOf_any a3 c3 own u (own_lb (own_below HO7.out hu) HWO.out) (by omega)).mono ?_
                  rintro e1 w' ⟨sp, rfl, hLp, b1⟩
                  have bw' := bu.trans (b1.mono bu.size)
                  refine ⟨sp, rfl, b1, fun u2 h2 => ?_⟩
                  have bu2 := bw'.trans (h2.mono bw'.size)
                  have hap := applyExpr_any (own.map pairB) d 8 e a c sp u2 (HE.out _ bu2) HXB.out (hLp.below h2)
                  unfold E.val at hap
                  refine hap.mono ?_
                  rintro e2 w'' ⟨a', c', rfl, b2, hfr⟩
                  have bw2 := bu2.trans (b2.mono bu2.size)
                  refine ⟨_, rfl, b2, fun u3 h3 => ?_⟩
                  have bu3 := bw2.trans (h3.mono bw2.size)
                  have hev := eval_any d (applyD (own.map pairB) d e) a' c' (.slice none 0 0) [] u3 (by simp) (HKT.out _ bu3) (HAT.out _ bu3) (hfr.eis.below h3) (own_lb (b := 0) (World.ownsRow_nil _ _ _ _) (by simp))
                  rw [HAPP.out, HO.out] at hev
                  exact hev
                have HLE : Hid (∀ u, Below W7.heap.size W7 u → (loadVar 31 ⟨w.heap.size, 0, none⟩).run Tryd.prog u = .ok (.agg #[.int .i8 e.op, .string e.t.v, .int .i8 e.t.a.k, .int .i64 e.t.a.n, .string e.t.a.s, .slice a e.kids.length c]) u) := fun u hu =>
                  run_loadVar_mid u _ 0 31 [.int .i8 e.op, .string e.t.v, .int .i8 e.t.a.k, .int .i64 e.t.a.n, .string e.t.a.s, .slice a e.kids.length c] _ ((HX5.out.below (HB7.out.trans (hu.mono HB7.out.size))).range) Tryd.underlying31 rfl (by kernel_rfl)
                go_upto_region 37 with fail
                refine wp_region_noPanic ?_
                refine wp_region_held (S := fun u => Below W7.heap.size W7 u) (by kernel_rfl) ?_
                refine reg37 (w5 := W7) (b3 := w.heap.size) (own := .slice a3 own.length c3) (ev := .agg #[.int .i8 e.op, .string e.t.v, .int .i8 e.t.a.k, .int .i64 e.t.a.n, .string e.t.a.s, .slice a e.kids.length c]) (k := k) (n := n) (s := s) (b := b) rfl rfl rfl rfl rfl rfl rfl rfl rfl rfl rfl (by kernel_rfl) (by kernel_rfl) (by kernel_rfl) (by kernel_rfl) (by kernel_rfl) (by kernel_rfl) (by kernel_rfl) (by kernel_rfl) (by kernel_rfl) (by kernel_rfl) (by kernel_rfl) (fun _ _ _ _ _ h => h) (by simp) rfl rfl HLE.out HC1.out ?_
                intro af wf b20 hAg h20 h21 hRL hBf
                refine NoPanic.normal ?_
                rename_i hK
                refine hK _ _ ?_
                have hf := hAg.form
                unfold js37 at hf
                simp only [List.foldl_cons, List.foldl_nil] at hf
                have h20' : af.tmps.getD 20 undef = .pointer (some ⟨b20, 0, none⟩) := by simpa [Act.eval] using h20
                have h21' : af.tmps.getD 21 undef = .bool b := by simpa [Act.eval] using h21
                rw [h20', h21'] at hf
                generalize af.tmps.getD 171 undef = g171 at hf
                generalize af.tmps.getD 172 undef = g172 at hf
                generalize af.tmps.getD 173 undef = g173 at hf
                generalize af.tmps.getD 174 undef = g174 at hf
                generalize af.tmps.getD 175 undef = g175 at hf
                generalize af.tmps.getD 176 undef = g176 at hf
                generalize af.tmps.getD 177 undef = g177 at hf
                generalize af.tmps.getD 178 undef = g178 at hf
                clear h20 h21 h20' h21' hAg
                subst hf
                have HBF := Lib.hid (HB7.out.trans (hBf.mono HB7.out.size))
                have v0 := (HV5.out.below HBF.out).at (j := 0) rfl
                have v1 := (HV5.out.below HBF.out).at (j := 1) rfl
                have v2 := (HV5.out.below HBF.out).at (j := 2) rfl
                have u0 := hRL.at (j := 0) rfl
                have u1 := hRL.at (j := 1) rfl
                have u2 := hRL.at (j := 2) rfl
                clear hRL hBf HC1 HLE HAPP
                simp (config := { maxSteps := 8000000 }) only [List.setIfInBounds_toArray, List.set_cons_succ, List.set_cons_zero]
                go_wp2_with fail
                go_meet
                case rel => exact HBF
            case rest =>
              have HBC := hcut
              clear hcut HO7 HB7 HWO HSK HLO HAP HTH HEQ HLS HVC
              obtain ⟨d, rfl⟩ : ∃ d', d = d' + 1 := by
                cases d with
                | zero => exact absurd (HE.out w5 B5.out) (fun h => h)
                | succ d => exact ⟨d, rfl⟩
              have x0 := (HX5.out.below HBC.out).at (j := 0) rfl
              by_cases h0 : e.op = 0
              · have hop : (e.op == 0) = true := by simp [h0]
                have hev : evalV l (d + 1) e = valOf e.t l := by
                  unfold evalV
                  rw [if_pos HXB.out]
                  unfold workV
                  rw [if_pos h0]
                have x1 := (HX5.out.below HBC.out).at (j := 1) rfl
                by_cases ht : e.t.v = noS
                · have hte : (e.t.v.toList).isEmpty = true := by rw [ht, ByteArray.toList_eq]; rfl
                  have hok : evalV l (d + 1) e = some e.t.a := by rw [hev]; unfold valOf; rw [if_pos ht]
                  have h := HO.out
                  rw [hok] at h
                  simp only [optV, Value.tuple.injEq, Array.mk.injEq, List.cons.injEq, Value.agg.injEq, Value.int.injEq, Value.string.injEq, Value.bool.injEq, and_true, true_and] at h
                  obtain ⟨⟨rfl, rfl, rfl⟩, rfl⟩ := h
                  have x2 := (HX5.out.below HBC.out).at (j := 2) rfl
                  have x3 := (HX5.out.below HBC.out).at (j := 3) rfl
                  have x4 := (HX5.out.below HBC.out).at (j := 4) rfl
                  have v0 := (HV5.out.below HBC.out).at (j := 0) rfl
                  have v1 := (HV5.out.below HBC.out).at (j := 1) rfl
                  have v2 := (HV5.out.below HBC.out).at (j := 2) rfl
                  have heq := run_eqlVm e.t.a.k e.t.a.n e.t.a.s
                  have BF := Lib.hid (B5.out.trans (HBC.out.mono B5.out.size))
                  clear h0 hev ht hok HO HEV HX5 HV5 HBC
                  go_wp2
                  go_ret
                  exact ⟨rfl, BF.out⟩
                · have hte := some_iff e.t.v ht
                  have BF := Lib.hid (B5.out.trans (HBC.out.mono B5.out.size))
                  clear h0 hev ht HO HEV HX5 HV5 HBC
                  go_wp2
                  go_ret
                  exact ⟨rfl, BF.out⟩
              · have hop : (e.op == 0) = false := by simpa using h0
                have HVL : Hid (evalV l (d + 1) e = (e.kids.mapM (workV l d)).bind (arO e.op)) := by
                  show _ = _
                  unfold evalV
                  rw [if_pos HXB.out]
                  unfold workV
                  rw [if_neg h0]
                have hkx : ∀ x ∈ e.kids, exprB 8 x = true := fun x hx => by
                  rcases exprB_parts (r := 7) HXB.out with ⟨h, _, _⟩ | ⟨_, h, _⟩
                  · exact absurd h h0
                  · exact exprB_more 7 x (h x hx)
                have HKV : Hid (∀ j, j < e.kids.length → evalV l d (atE e.kids j) = workV l d (atE e.kids j)) := fun j hj => by
                  unfold evalV
                  rw [if_pos (hkx _ (by rw [atE_eq hj]; exact List.getElem_mem hj))]
                have hEE := HE.out w5 B5.out
                obtain ⟨⟨hopb, hkl⟩, _, _, _, hKS⟩ := hEE
                have hk2 : e.kids.length ≤ 1000 := kids_few HXB.out
                have HKS := Lib.hid hKS
                have HOB := Lib.hid hopb
                have HNE := Lib.hid h0
                clear hkx hKS hopb h0 hkl
                have x5 := (HX5.out.below HBC.out).at (j := 5) rfl
                obtain ⟨j0, hj0, hy0, hy1, hy2⟩ := info_parts infoVm
                have BC0 := Lib.hid (Below.refl wc.heap.size wc)
                go_wp2
                clear x0 x5
                go_loopw [22, 23] (fun sv iv wr => ∃ (j : Nat) (a' : Option Addr) (c' : Nat) (ys : List V), j ≤ e.kids.length ∧ iv = .int .i64 j ∧ sv = .slice a' ys.length c' ∧ Hid (ys.length = j) ∧ Hid (wr.ownsRow wc.heap.size 26 3 (.slice a' ys.length c') ys.length (ys.flatMap V.cells)) ∧ Hid (Below wc.heap.size wc wr) ∧ Hid ((e.kids.take j).mapM (workV l d) = some ys) ∧ Hid (∀ y ∈ ys, y.wf)) (fun _ iv _ => e.kids.length - (intOf iv).toNat)
                case atStart => exact ⟨0, none, 0, [], Nat.zero_le _, rfl, rfl, rfl, World.ownsRow_nil _ _ _ _, BC0, rfl, by simp [Hid]⟩
                case round =>
                  obtain ⟨j, a3, c3, ys, hj, rfl, rfl, HYL, HOY, HBY, HMY, HYW⟩ := hrel
                  clear BC0
                  have HB9 := Lib.hid (HBC.out.trans (HBY.out.mono HBC.out.size))
                  have BW9 := Lib.hid (B5.out.trans (HB9.out.mono B5.out.size))
                  have x5 := (HX5.out.below HB9.out).at (j := 5) rfl
                  by_cases hlt : j < e.kids.length
                  · have hlt' : (j : Int) < (e.kids.length : Int) := by omega
                    have hj00 : (0 : Int) ≤ (j : Int) := by omega
                    obtain ⟨gk, ok, rfl, hgk, hkk⟩ := HKS.out (by omega)
                    obtain ⟨a4, c4, hxk, hek⟩ := hkk j hlt
                    obtain ⟨z0, z1, z2, z3, z4, z5⟩ := hxk.below HB9.out hgk
                    have HKE := Lib.hid (eval_any d (atE e.kids j) a4 c4 _ l wr HWF.out (HKT.out _ BW9.out) (HAT.out _ BW9.out) (hek.below HB9.out) (HL.out _ BW9.out))
                    rw [HKV.out j hlt] at HKE
                    have HMT := Lib.hid (mapM_take (f := workV l d) hlt)
                    have HMN : Hid (workV l d (atE e.kids j) = none → b = false) := fun h => by
                      have h1 := HVL.out
                      rw [mapM_none hlt h] at h1
                      have h2 := HO.out
                      rw [h1] at h2
                      simp only [optV, Option.bind, Value.tuple.injEq, Array.mk.injEq, List.cons.injEq, Value.bool.injEq, and_true] at h2
                      exact h2.2.symm
                    have HKW : Hid (∀ x, workV l d (atE e.kids j) = some x → x.wf) := fun x hx => workV_wf HWF.out d _ a4 c4 x hek hx
                    rw [HMY.out] at HMT
                    unfold E.val at HKE
                    clear hkk hxk hek
                    generalize workV l d (atE e.kids j) = wv at HKE HMT HMN HKW
                    generalize atE e.kids j = ke at HKE z0 z1 z2 z3 z4 z5
                    cases wv with
                    | none =>
                      have hbf := HMN.out rfl
                      subst hbf
                      unfold optV at HKE
                      simp only at HKE
                      go_wp2_with fail
                      refine HKE.out.mono ?_
                      rintro r w9 ⟨rfl, b9⟩
                      have BF := Lib.hid (BW9.out.trans (b9.mono BW9.out.size))
                      clear b9 z0 z1 z2 z3 z4 z5 x5 HKE
                      have BF2 := Lib.hid (BF.out.alloc BF.out.size (.cells #[.int .i8 0, .int .i64 0, .string ⟨#[]⟩] 26))
                      go_wp2
                      go_ret
                      exact ⟨rfl, BF2.out⟩
                    | some y =>
                      have HYw := Lib.hid (HKW.out y rfl)
                      unfold optV at HKE
                      simp only at HKE
                      go_wp2_with fail
                      refine HKE.out.mono ?_
                      rintro r w9 ⟨rfl, b9⟩
                      have hA9 := belowA (w := w9) (.cells #[.int .i8 y.k, .int .i64 y.n, .string y.s] 26)
                      have hb9 := b9.trans (hA9.mono b9.size)
                      have HBA := Lib.hid (HBY.out.trans (hb9.mono HBY.out.size))
                      have HOA := Lib.hid (own_below HOY.out hb9)
                      have HRA := Lib.hid (rl_new w9 #[.int .i8 y.k, .int .i64 y.n, .string y.s] 26)
                      clear hA9 hb9 b9 z0 z1 z2 z3 z4 z5 x5 HKE HOY HBY HB9 BW9
                      go_upto_region 49 with fail
                      generalize w9.alloc (.cells #[.int .i8 y.k, .int .i64 y.n, .string y.s] 26) = WA at HBA HOA HRA ⊢
                      generalize w9.heap.size = b24 at HRA ⊢
                      have y0 := HRA.out.at (j := 0) rfl
                      have y1 := HRA.out.at (j := 1) rfl
                      have y2 := HRA.out.at (j := 2) rfl
                      have hbs : wc.heap.size ≤ WA.heap.size := HBA.out.size
                      have hyl : ys.length ≤ 1000 := by have := HYL.out; omega
                      go_wp2_with (at_builtin; refine wpList_append_own_at _ rfl _ _ 47 rfl wc.heap.size 26 j0 _ 3 32 Tryd.underlying47 hj0 hy0 hy1 hy2 rfl (by decide) _ _ _ rfl (own_below HOA.out (belowA _)) ⟨_, 0, none⟩ 1 1 [.int .i8 y.k, .int .i64 y.n, .string y.s] rfl rfl (lit_news _ #[.int .i8 y.k, .int .i64 y.n, .string y.s] _) (by simp [Value.oneCell']) (by unfold maxLen; omega) (by omega) (by simp; omega) ?_; intro v' wB hown' hgrow hnil hloc; obtain ⟨a5, c5, rfl, _⟩ := own_form hown'; have HBB : Hid (Below wc.heap.size wc wB) := (HBA.out.alloc HBA.out.size _).grown hgrow (by simp; omega) (fun j hj => (HOA.out.lt j hj).1))
                      have HOB2 : Hid (wB.ownsRow wc.heap.size 26 3 (.slice a5 (ys ++ [y]).length c5) (ys ++ [y]).length ((ys ++ [y]).flatMap V.cells)) := by
                        show World.ownsRow _ _ _ _ _ _ _
                        rw [List.length_append, List.flatMap_append]
                        exact hown'
                      have HLn : Hid ((ys ++ [y]).length = ys.length + 1) := by show _ = _; simp
                      have HWn : Hid (∀ z ∈ ys ++ [y], z.wf) := fun z hz => by
                        rcases List.mem_append.1 hz with h | h
                        · exact HYW.out z h
                        · rw [List.mem_singleton.1 h]; exact HYw.out
                      have HMn : Hid ((e.kids.take (j + 1)).mapM (workV l d) = some (ys ++ [y])) := HMT.out
                      clear hown' hgrow hnil hloc y0 y1 y2 HRA
                      go_wp2
                      go_roundw
                      case rel => exact ⟨j + 1, a5, c5, ys ++ [y], by omega, by go_num, by rw [HLn.out], by show _ = _; rw [HLn.out, HYL.out], HOB2, HBB, HMn, HWn⟩
                      case measure => simp [intOf]; omega
                  · obtain rfl : j = e.kids.length := by omega
                    rw [List.take_length] at HMY
                    have HAO : Hid ((arRes e.op ys).val = .tuple #[.agg #[.int .i8 k, .int .i64 n, .string s], .bool b]) := by
                      show _ = _
                      rw [arO_val, ← HO.out, HVL.out, HMY.out]
                      rfl
                    have HAR := Lib.hid (AR.arith_any e.op HOB.out _ ys.length (kV ys) (nV ys) (sV ys) wr (HAT.out _ BW9.out) (lv_lst (own_lv HOY.out HYW.out)))
                    unfold arRes at HAO
                    rw [HAO.out] at HAR
                    have x0 := (HX5.out.below HB9.out).at (j := 0) rfl
                    go_wp2_with fail
                    refine HAR.out.mono ?_
                    rintro r w9 ⟨rfl, b9⟩
                    have hA9 := belowA (w := w9) (.cells #[.int .i8 k, .int .i64 n, .string s] 26)
                    have hb9 := b9.trans (hA9.mono b9.size)
                    have HBA := Lib.hid (HB9.out.trans (hb9.mono HB9.out.size))
                    have HRA := Lib.hid (rl_new w9 #[.int .i8 k, .int .i64 n, .string s] 26)
                    clear hA9 hb9 b9 x0 x5 HAR HAO
                    go_upto_region 51 with fail
                    generalize w9.alloc (.cells #[.int .i8 k, .int .i64 n, .string s] 26) = WA at HBA HRA ⊢
                    generalize w9.heap.size = b26 at HRA ⊢
                    have y0 := HRA.out.at (j := 0) rfl
                    have y1 := HRA.out.at (j := 1) rfl
                    have y2 := HRA.out.at (j := 2) rfl
                    have v0 := (HV5.out.below HBA.out).at (j := 0) rfl
                    have v1 := (HV5.out.below HBA.out).at (j := 1) rfl
                    have v2 := (HV5.out.below HBA.out).at (j := 2) rfl
                    have heq := run_eqlVm k n s
                    have BF := Lib.hid (B5.out.trans (HBA.out.mono B5.out.size))
                    cases b
                    all_goals
                      go_wp2
                      go_ret
                      exact ⟨rfl, BF.out⟩
end Go.Proofs.YtkgoceomkkohmaaDoor
