import Derived.Test.YtlajlofccpnilaaDoorTmMostA
import Derived.Deep.RegionHeld3
namespace Go.Proofs.YtlajlofccpnilaaDoor
open Go.RowKit Go.Maps
set_option linter.unusedVariables false
set_option linter.unusedSimpArgs false
attribute [local go_sem ↓] Go.wp_at_zero Go.wp_at_succ

/-- what TermMost keeps at its loops: the boxes, the two facts and their lists -/
structure M2 (w : World) (p : ByteArray) (n : Nat) (aa ab : Option Addr) (ca cb bf bg : Nat) (a1 a2 : Option Addr) (c1 c2 : Nat) (ga gb : List V) (wc : World) : Prop where
  u : U2 w p p n n aa ab ca cb wc
  f : RL wc bf 28 [.string p, .slice a1 n c1]
  g : RL wc bg 28 [.string p, .slice a2 n c2]
  lf : Lv wc (.slice a1 n c1) ga
  lg : Lv wc (.slice a2 n c2) gb
theorem M2.next {w : World} {p : ByteArray} {n : Nat} {aa ab : Option Addr} {ca cb bf bg : Nat} {a1 a2 : Option Addr} {c1 c2 : Nat} {ga gb : List V} {u v : World} (h : M2 w p n aa ab ca cb bf bg a1 a2 c1 c2 ga gb u) (b : Below u.heap.size u v) : M2 w p n aa ab ca cb bf bg a1 a2 c1 c2 ga gb v :=
  ⟨h.u.next b, h.f.below b, h.g.below b, h.lf.below b, h.lg.below b⟩
theorem lt_at {w : World} {a : Option Addr} {n c : Nat} {l : List T} (h : Lt w (.slice a n c) l) (hl : l.length = n) {k : Nat} (hk : k < n) : ∃ g off, a = some ⟨g, off, none⟩ ∧ g < w.heap.size ∧ TAt w g (off + k * 4) (atT l k) := by
  obtain ⟨a', c', e, _, _, hh⟩ := h.form
  injection e with e1 e2 e3
  obtain ⟨g, off, ha, hg, hx⟩ := hh (by omega)
  exact ⟨g, off, by rw [e1, ha], hg, hx k (by omega)⟩
theorem lv_at {w : World} {a : Option Addr} {n c : Nat} {l : List V} (h : Lv w (.slice a n c) l) (hl : l.length = n) {k : Nat} (hk : k < n) : ∃ g off, a = some ⟨g, off, none⟩ ∧ g < w.heap.size ∧ VAt w g (off + k * 3) (atV l k) := by
  obtain ⟨a', c', e, _, _, hh⟩ := h.form
  injection e with e1 e2 e3
  obtain ⟨g, off, ha, hg, hx⟩ := hh (by omega)
  exact ⟨g, off, by rw [e1, ha], hg, hx k (by omega)⟩
theorem neqVt {x y : V} (h : x = y) (w : World) : (binOp .neq 39 (.agg #[.int .i8 x.k, .int .i64 x.n, .string x.s]) (.agg #[.int .i8 y.k, .int .i64 y.n, .string y.s])).run Tryd.prog w = .ok (.bool false) w := by
  have := run_neqV x.k x.n x.s y.k y.n y.s w
  rw [decide_eq_true (by rw [h])] at this
  exact this
theorem neqVf {x y : V} (h : ¬ x = y) (w : World) : (binOp .neq 39 (.agg #[.int .i8 x.k, .int .i64 x.n, .string x.s]) (.agg #[.int .i8 y.k, .int .i64 y.n, .string y.s])).run Tryd.prog w = .ok (.bool true) w := by
  have := run_neqV x.k x.n x.s y.k y.n y.s w
  rw [decide_eq_false (fun e => h (by cases x; cases y; simpa using e))] at this
  exact this
set_option maxHeartbeats 25600000 in
set_option maxRecDepth 100000 in
theorem most_yes (p : ByteArray) (la lb : List T) (aa ab : Option Addr) (ca cb : Nat) (l : List B) (al : Option Addr) (cl : Nat) (w : World) (hG : Gm w) (hp : p.size ≤ maxLen) (hA : Lt w (.slice aa la.length ca) la) (hB : Lt w (.slice ab la.length cb) lb) (hL : Lb w (.slice al l.length cl) l)
    (hn : la.length = lb.length) (h3 : atomB p la = true) (h4 : atomB p lb = true) :
    Calls Tryd.prog 4 #[.agg #[.string p, .slice aa la.length ca], .agg #[.string p, .slice ab la.length cb], .slice al l.length cl] w fun e w' => e = .returned (.bool true) ∧ Below w.heap.size w w' := by
  have HU0 : Hid _ := u2_new w p p la.length la.length aa ab ca cb
  have HLi : Hid _ := lives_any _ (hG.below HU0.out.bel).tk (hG.below HU0.out.bel).kt
  have h24 : la.length ≤ 24 := atomB_len h3
  have HC1 : Hid (∀ u, Below w.heap.size w u → Calls Tryd.prog 6 #[.agg #[.string p, .slice aa la.length ca]] u fun e w' => e = .returned (.int .i64 0) ∧ Below u.heap.size u w') := fun u hu => by
    have := rcheckAtom_any p _ la u hp (hA.below hu)
    rw [h3] at this
    exact this
  have HC2 : Hid (∀ u, Below w.heap.size w u → Calls Tryd.prog 6 #[.agg #[.string p, .slice ab la.length cb]] u fun e w' => e = .returned (.int .i64 0) ∧ Below u.heap.size u w') := fun u hu => by
    have := rcheckAtom_any p _ lb u hp (hB.below hu)
    rw [h4] at this
    exact this
  have HG1 : Hid (∀ u, Below w.heap.size w u → Calls Tryd.prog 8 #[.agg #[.string p, .slice aa la.length ca], .slice al l.length cl] u fun e w' => ∃ a1 c1, e = .returned (.agg #[.string p, .slice a1 la.length c1]) ∧ Lv w' (.slice a1 la.length c1) (gr l la) ∧ Below u.heap.size u w') := fun u hu => by
    refine (ground_any p aa ca la _ l u (hA.below hu) (hL.below hu) h24).mono ?_
    rintro e w' ⟨v', rfl, hv, hb⟩
    obtain ⟨a1, c1, rfl, _⟩ := hv.form
    rw [gr_len] at hv ⊢
    exact ⟨a1, c1, rfl, hv, hb⟩
  have HG2 : Hid (∀ u, Below w.heap.size w u → Calls Tryd.prog 8 #[.agg #[.string p, .slice ab la.length cb], .slice al l.length cl] u fun e w' => ∃ a1 c1, e = .returned (.agg #[.string p, .slice a1 la.length c1]) ∧ Lv w' (.slice a1 la.length c1) (gr l lb) ∧ Below u.heap.size u w') := fun u hu => by
    have hB' : Lt u (.slice ab lb.length cb) lb := by rw [← hn]; exact hB.below hu
    have := ground_any p ab cb lb _ l u hB' (hL.below hu) (atomB_len h4)
    rw [← hn] at this
    refine this.mono ?_
    rintro e w' ⟨v', rfl, hv, hb⟩
    obtain ⟨a1, c1, rfl, _⟩ := hv.form
    rw [gr_len, ← hn] at hv ⊢
    exact ⟨a1, c1, rfl, hv, hb⟩
  have HUn : Hid (∀ u, Below w.heap.size w u → Calls Tryd.prog 11 #[.agg #[.string p, .slice aa la.length ca], .agg #[.string p, .slice ab la.length cb]] u fun e w' => UniPost u.heap.size (uni [] la lb) e w' ∧ Below u.heap.size u w') := fun u hu => unify_yes p _ _ la lb u hp (hA.below hu) (hB.below hu) hn h3 h4
  have HIS : Hid (∀ n u, Below w.heap.size w u → Calls Tryd.prog 12 #[.slice al l.length cl, .string n] u fun e w' => e = .returned (.agg #[.int .i8 (isV l n).k, .int .i64 (isV l n).n, .string (isV l n).s]) ∧ Below u.heap.size u w') := fun n u hu => is_any _ l n u (hL.below hu)
  have HXA : Hid (∀ k, k < la.length → ∃ g off, aa = some ⟨g, off, none⟩ ∧ ∀ u, Below w.heap.size w u → u.cell? ⟨g, off + k * 4, none⟩ = some (.string (atT la k).v)) := fun k hk => by
    obtain ⟨g, off, e, hg, hx⟩ := lt_at hA rfl hk
    exact ⟨g, off, e, fun u hu => (hx.below hu hg).c0⟩
  have HXB : Hid (∀ k, k < la.length → ∃ g off, ab = some ⟨g, off, none⟩ ∧ ∀ u, Below w.heap.size w u → u.cell? ⟨g, off + k * 4, none⟩ = some (.string (atT lb k).v)) := fun k hk => by
    obtain ⟨g, off, e, hg, hx⟩ := lt_at hB hn.symm hk
    exact ⟨g, off, e, fun u hu => (hx.below hu hg).c0⟩
  have HMo : Hid ((∀ j, j < la.length → OneAt l la lb j) → ∃ s, uni [] la lb = some s ∧ Inv (isV l) s) := most_of hn
  have HN : Hid (la.length = lb.length) := hn
  have e0 : (p.toList == p.toList) = true := by simp
  clear hG hp hA hB hL h3 h4 hn
  go_enter Tryd.func4, Tryd.ntmps4
  go_wp2_with fail
  refine Calls.mono HLi.out ?_
  rintro e w1 ⟨rfl, b1⟩
  have HU1 : Hid (U2 w p p la.length la.length aa ab ca cb w1) := HU0.out.next b1
  clear b1 HU0 HLi
  have x0 := HU1.out.b0.at (j := 0) rfl
  have x1 := HU1.out.b0.at (j := 1) rfl
  go_wp2_with fail
  refine Calls.mono (HC1.out _ HU1.out.bel) ?_
  rintro e w2 ⟨rfl, b2⟩
  have HU2 : Hid (U2 w p p la.length la.length aa ab ca cb w2) := HU1.out.next b2
  clear b2 HU1 x0 x1 HC1
  have x0 := HU2.out.b1.at (j := 0) rfl
  have x1 := HU2.out.b1.at (j := 1) rfl
  go_wp2_with fail
  refine Calls.mono (HC2.out _ HU2.out.bel) ?_
  rintro e w3 ⟨rfl, b3⟩
  have HU3 : Hid (U2 w p p la.length la.length aa ab ca cb w3) := HU2.out.next b3
  clear b3 HU2 x0 x1 HC2
  have x0 := HU3.out.b0.at (j := 0) rfl
  have x1 := HU3.out.b0.at (j := 1) rfl
  have y0 := HU3.out.b1.at (j := 0) rfl
  have y1 := HU3.out.b1.at (j := 1) rfl
  go_wp2_with fail
  refine Calls.mono (HG1.out _ HU3.out.bel) ?_
  rintro e w4 ⟨a1, c1, rfl, hv1, b4⟩
  have HV1 : Hid (Lv w4 (.slice a1 la.length c1) (gr l la)) := hv1
  have HU4 : Hid (U2 w p p la.length la.length aa ab ca cb w4) := HU3.out.next b4
  clear b4 hv1 HU3 HG1 x0 x1 y0 y1
  go_upto_region 7 with fail
  have HM4 : Hid (U2 w p p la.length la.length aa ab ca cb (w4.alloc (.cells #[.string p, .slice a1 la.length c1] 28)) ∧ RL (w4.alloc (.cells #[.string p, .slice a1 la.length c1] 28)) w4.heap.size 28 [.string p, .slice a1 la.length c1] ∧ Lv (w4.alloc (.cells #[.string p, .slice a1 la.length c1] 28)) (.slice a1 la.length c1) (gr l la)) := ⟨HU4.out.next ((Below.refl _ _).alloc (Nat.le_refl _) _), rl_new w4 #[.string p, .slice a1 la.length c1] 28, HV1.out.below ((Below.refl _ _).alloc (Nat.le_refl _) _)⟩
  generalize w4.alloc (.cells #[.string p, .slice a1 la.length c1] 28) = W4 at HM4 ⊢
  generalize w4.heap.size = bf at HM4 ⊢
  clear HV1 HU4
  have x0 := HM4.out.1.b1.at (j := 0) rfl
  have x1 := HM4.out.1.b1.at (j := 1) rfl
  go_wp2_with fail
  refine Calls.mono (HG2.out _ HM4.out.1.bel) ?_
  rintro e w5 ⟨a2, c2, rfl, hv2, b5⟩
  have HM5 : Hid (U2 w p p la.length la.length aa ab ca cb w5 ∧ RL w5 bf 28 [.string p, .slice a1 la.length c1] ∧ Lv w5 (.slice a1 la.length c1) (gr l la) ∧ Lv w5 (.slice a2 la.length c2) (gr l lb)) := ⟨HM4.out.1.next b5, HM4.out.2.1.below b5, HM4.out.2.2.below b5, hv2⟩
  clear b5 hv2 HM4 HG2 x0 x1
  go_upto_region 8 with fail
  have HM6 : Hid (M2 w p la.length aa ab ca cb bf w5.heap.size a1 a2 c1 c2 (gr l la) (gr l lb) (w5.alloc (.cells #[.string p, .slice a2 la.length c2] 28))) := by
    have b : Below w5.heap.size w5 (w5.alloc (.cells #[.string p, .slice a2 la.length c2] 28)) := (Below.refl _ _).alloc (Nat.le_refl _) _
    exact ⟨HM5.out.1.next b, HM5.out.2.1.below b, rl_new w5 #[.string p, .slice a2 la.length c2] 28, HM5.out.2.2.1.below b, HM5.out.2.2.2.below b⟩
  generalize w5.alloc (.cells #[.string p, .slice a2 la.length c2] 28) = W at HM6 ⊢
  generalize w5.heap.size = bg at HM6 ⊢
  clear HM5
  have HVA : Hid (∀ k, k < la.length → ∃ g off, a1 = some ⟨g, off, none⟩ ∧ ∀ u, Below W.heap.size W u → VAt u g (off + k * 3) (grT l (atT la k))) := fun k hk => by
    obtain ⟨g, off, e, hg, hx⟩ := lv_at HM6.out.lf (gr_len l la) hk
    rw [atV_gr l la hk] at hx
    exact ⟨g, off, e, fun u hu => hx.below hu hg⟩
  have HVB : Hid (∀ k, k < la.length → ∃ g off, a2 = some ⟨g, off, none⟩ ∧ ∀ u, Below W.heap.size W u → VAt u g (off + k * 3) (grT l (atT lb k))) := fun k hk => by
    obtain ⟨g, off, e, hg, hx⟩ := lv_at HM6.out.lg ((gr_len l lb).trans HN.out.symm) hk
    rw [atV_gr l lb (by rw [← HN.out]; exact hk)] at hx
    exact ⟨g, off, e, fun u hu => hx.below hu hg⟩
  have q1 := HM6.out.f.at (j := 1) rfl
  go_wp2
  clear q1
  go_loopw [11] (fun i wr => ∃ k : Nat, k ≤ la.length ∧ i = .int .i64 k ∧ Below W.heap.size W wr ∧ Hid (∀ j, j < k → OneAt l la lb j)) (fun i _ => la.length - (intOf i).toNat)
  case atStart => exact ⟨0, Nat.zero_le _, rfl, Below.refl _ _, fun j hj => absurd hj (by omega)⟩
  case round =>
    obtain ⟨k, hk, rfl, bel, HS⟩ := hrel
    have HMr : Hid (M2 w p la.length aa ab ca cb bf bg a1 a2 c1 c2 (gr l la) (gr l lb) wr) := HM6.out.next bel
    have q1 := HMr.out.f.at (j := 1) rfl
    by_cases hlt : k < la.length
    · have hlt' : (k : Int) < (la.length : Int) := by omega
      have hk0 : (0 : Int) ≤ (k : Int) := by omega
      obtain ⟨ga, oa, rfl, hxa⟩ := HXA.out k hlt
      obtain ⟨gb, ob, rfl, hxb⟩ := HXB.out k hlt
      obtain ⟨gf, of, rfl, hvf⟩ := HVA.out k hlt
      obtain ⟨gg, og, rfl, hvg⟩ := HVB.out k hlt
      have x0 := hxa wr HMr.out.u.bel
      have y0 := hxb wr HMr.out.u.bel
      obtain ⟨v0, v1, v2⟩ := hvf wr bel
      obtain ⟨z0, z1, z2⟩ := hvg wr bel
      have k1 := HMr.out.u.b0.at (j := 1) rfl
      have k2 := HMr.out.u.b1.at (j := 1) rfl
      have q2 := HMr.out.g.at (j := 1) rfl
      clear hxa hxb hvf hvg
      have HO : Hid ((atT la k).v = blankS ∨ (atT lb k).v = blankS ∨ grT l (atT la k) = grT l (atT lb k) → ∀ j, j < k + 1 → OneAt l la lb j) := fun h j hj => by
        by_cases e : j = k
        · rw [e]; exact h
        · exact HS.out j (by omega)
      generalize (atT la k).v = xa at x0 HO
      generalize (atT lb k).v = xb at y0 HO
      generalize grT l (atT la k) = ua at v0 v1 v2 HO
      generalize grT l (atT lb k) = ub at z0 z1 z2 HO
      by_cases ea : xa = blankS
      · have f1 : (xa.toList == [95]) = true := by rw [ea, blank_list]; rfl
        have HO2 : Hid _ := HO.out (.inl ea)
        clear ea HO HMr
        go_wp2_with fail
        go_quiet (fail)
        go_wp2
        go_roundw
        case rel => exact ⟨k + 1, by omega, by go_num, below_drewN bel _, HO2⟩
        case measure => simp [intOf]; omega
      · have f1 := blank_not ea
        by_cases eb : xb = blankS
        · have f2 : (xb.toList == [95]) = true := by rw [eb, blank_list]; rfl
          have HO2 : Hid _ := HO.out (.inr (.inl eb))
          clear ea eb HO HMr
          go_wp2_with fail
          go_quiet (fail)
          go_wp2
          go_roundw
          case rel => exact ⟨k + 1, by omega, by go_num, below_drewN bel _, HO2⟩
          case measure => simp [intOf]; omega
        · have f2 := blank_not eb
          by_cases ev : ua = ub
          · have hQ := neqVt ev
            have HO2 : Hid _ := HO.out (.inr (.inr ev))
            clear ea eb ev HO HMr
            go_wp2_with fail
            go_quiet (fail)
            go_wp2
            go_roundw
            case rel => exact ⟨k + 1, by omega, by go_num, below_drewN bel _, HO2⟩
            case measure => simp [intOf]; omega
          · have hQ := neqVf ev
            have HBr : Hid (Below w.heap.size w wr) := HMr.out.u.bel
            clear ea eb ev HO HMr
            go_wp2_with fail
            go_quiet (fail)
            go_wp2
            go_ret
            exact ⟨rfl, below_drewN HBr.out _⟩
    · obtain rfl : k = la.length := by omega
      obtain ⟨s, hs, hinv⟩ := HMo.out HS.out
      have HUn2 : Hid _ := HUn.out wr HMr.out.u.bel
      rw [hs] at HUn2
      have HI : Hid (Inv (isV l) s) := hinv
      have x0 := HMr.out.u.b0.at (j := 0) rfl
      have x1 := HMr.out.u.b0.at (j := 1) rfl
      have y0 := HMr.out.u.b1.at (j := 0) rfl
      have y1 := HMr.out.u.b1.at (j := 1) rfl
      have HBr : Hid (Below w.heap.size w wr) := HMr.out.u.bel
      clear hs hinv HMr HS HMo HUn HVA HVB HXA HXB
      go_wp2_with fail
      refine Calls.mono HUn2.out ?_
      rintro e w7 ⟨⟨sv, rfl, _, hss⟩, b7⟩
      obtain ⟨hown, hwf, hs24⟩ := hss _ rfl
      obtain ⟨ss, cs, rfl, _⟩ := own_form hown
      have HLp : Hid (Lp w7 (.slice ss s.length cs) s) := ⟨ls_own hown, hwf⟩
      have HB7 : Hid (Below w.heap.size w w7) := HBr.out.trans (b7.mono HBr.out.size)
      clear hss hown hwf b7 HBr HUn2 x0 x1 y0 y1 q1 bel
      obtain ⟨ss', cs', es, _, _, hpk⟩ := HLp.out.form
      injection es with es1 es2 es3
      subst es1 es3
      have HPK : Hid _ := hpk
      clear hpk
      go_wp2
      go_loopw [14] (fun i wr => ∃ k : Nat, k ≤ s.length ∧ i = .int .i64 k ∧ Below w7.heap.size w7 wr) (fun i _ => s.length - (intOf i).toNat)
      case atStart => exact ⟨0, Nat.zero_le _, rfl, Below.refl _ _⟩
      case round =>
        obtain ⟨k, hk, rfl, bel⟩ := hrel
        by_cases hlt : k < s.length
        · have hlt' : (k : Int) < (s.length : Int) := by omega
          have hk0 : (0 : Int) ≤ (k : Int) := by omega
          obtain ⟨g, off, rfl, hg, hat⟩ := HPK.out (by omega)
          have hinv := HI.out (atP s k) (atP_mem hlt)
          obtain ⟨p0, p1, p2, p3, p4⟩ := (hat k hlt).below bel hg
          have HPC : Hid (∀ u, Below wr.heap.size wr u → u.cell? ⟨g, off + k * 5, none⟩ = some (.string (atP s k).v)) := fun u hu => by
            have h1 := (hat k hlt).below (bel.trans (hu.mono bel.size)) hg
            exact h1.c0
          have HE : Hid (isV l (atP s k).v = if (atP s k).t.v = noS then (atP s k).t.a else isV l (atP s k).t.v) := hinv.2
          generalize (atP s k).v = pv at p0 HPC HE
          generalize (atP s k).t = pt at p1 p2 p3 p4 HE
          clear hat hinv
          have HBw : Hid (Below w.heap.size w wr) := HB7.out.trans (bel.mono HB7.out.size)
          have HT1 : Hid (RL (wr.alloc (.cells #[.string pt.v, .int .i8 pt.a.k, .int .i64 pt.a.n, .string pt.a.s] 41)) wr.heap.size 41 [.string pt.v, .int .i8 pt.a.k, .int .i64 pt.a.n, .string pt.a.s]) := rl_new wr #[.string pt.v, .int .i8 pt.a.k, .int .i64 pt.a.n, .string pt.a.s] 41
          go_upto_region 20 with fail
          have BT : Hid (Below wr.heap.size wr (wr.alloc (.cells #[.string pt.v, .int .i8 pt.a.k, .int .i64 pt.a.n, .string pt.a.s] 41))) := (Below.refl _ _).alloc (Nat.le_refl _) _
          generalize wr.alloc (.cells #[.string pt.v, .int .i8 pt.a.k, .int .i64 pt.a.n, .string pt.a.s] 41) = WT at HT1 BT ⊢
          generalize wr.heap.size = bT at HT1 ⊢
          have t0 := HT1.out.at (j := 0) rfl
          have t1 := HT1.out.at (j := 1) rfl
          have t2 := HT1.out.at (j := 2) rfl
          have t3 := HT1.out.at (j := 3) rfl
          go_upto_region 21 with fail
          have HV1 : Hid (RL (WT.alloc (.cells #[.int .i8 pt.a.k, .int .i64 pt.a.n, .string pt.a.s] 39)) WT.heap.size 39 [.int .i8 pt.a.k, .int .i64 pt.a.n, .string pt.a.s]) := rl_new WT #[.int .i8 pt.a.k, .int .i64 pt.a.n, .string pt.a.s] 39
          have BV : Hid (Below wr.heap.size wr (WT.alloc (.cells #[.int .i8 pt.a.k, .int .i64 pt.a.n, .string pt.a.s] 39))) := BT.out.alloc BT.out.size _
          have HT2 : Hid (RL (WT.alloc (.cells #[.int .i8 pt.a.k, .int .i64 pt.a.n, .string pt.a.s] 39)) bT 41 [.string pt.v, .int .i8 pt.a.k, .int .i64 pt.a.n, .string pt.a.s]) := RL.below HT1.out ((Below.refl _ _).alloc (Nat.le_refl _) _)
          have HVL : Hid (wr.heap.size ≤ WT.heap.size) := BT.out.size
          generalize WT.alloc (.cells #[.int .i8 pt.a.k, .int .i64 pt.a.n, .string pt.a.s] 39) = WV at HV1 BV HT2 ⊢
          generalize WT.heap.size = bV at HV1 HVL ⊢
          clear HT1 BT t0 t1 t2 t3 p0 p1 p2 p3 p4
          have t0 := HT2.out.at (j := 0) rfl
          by_cases et : pt.v = noS
          · have f0 : pt.v.toList.isEmpty = true := by rw [et, noS_list]; rfl
            have f1 : pt.v.toList = [] := by rw [et]; exact noS_list
            have HE2 : Hid (isV l pv = pt.a) := by show _ = _; rw [HE.out, if_pos et]
            have HRV : Hid (RL WV bV 39 _) := HV1.out
            have HPC2 : Hid (∀ u, Below WV.heap.size WV u → u.cell? ⟨g, off + k * 5, none⟩ = some (.string pv)) := fun u hu => HPC.out u (BV.out.trans (hu.mono BV.out.size))
            have HBX : Hid (Below w.heap.size w WV) := HBw.out.trans (BV.out.mono HBw.out.size)
            have HB7X : Hid (∀ u, Below WV.heap.size WV u → Below w7.heap.size w7 u) := fun u hu => bel.trans ((BV.out.trans (hu.mono BV.out.size)).mono bel.size)
            clear et HE HPC HV1 BV HT2 HVL HBw
            go_upto_region 23 with fail
            have HC : Hid (∀ u, Below WV.heap.size WV u → (u.cell? ⟨bV, 0, none⟩ = some (.int .i8 pt.a.k) ∧ u.cell? ⟨bV, 1, none⟩ = some (.int .i64 pt.a.n) ∧ u.cell? ⟨bV, 2, none⟩ = some (.string pt.a.s)) ∧ u.cell? ⟨g, off + k * 5, none⟩ = some (.string pv)) := fun u hu => ⟨⟨(RL.below HRV.out hu).at (j := 0) rfl, (RL.below HRV.out hu).at (j := 1) rfl, (RL.below HRV.out hu).at (j := 2) rfl⟩, HPC2.out u hu⟩
            have hQ := neqVt HE2.out
            have HI2 : Hid _ := HIS.out pv
            have HIu : Hid (∀ u, Below WV.heap.size WV u → Calls Tryd.prog 12 #[.slice al l.length cl, .string pv] u fun e w' => e = .returned (.agg #[.int .i8 (isV l pv).k, .int .i64 (isV l pv).n, .string (isV l pv).s]) ∧ Below u.heap.size u w') := fun u hu => HI2.out u (HBX.out.trans (hu.mono HBX.out.size))
            generalize isV l pv = iv at hQ HIu
            have belx : Below WV.heap.size WV WV := Below.refl _ _
            have hS0 := HC.out _ belx
            clear HI2 HPC2 HRV HE2
            go_wp2_with fail
            go_region_held3 (fun u => (Below WV.heap.size WV u) ∧ (u.cell? ⟨bV, 0, none⟩ = some (.int .i8 pt.a.k) ∧ u.cell? ⟨bV, 1, none⟩ = some (.int .i64 pt.a.n) ∧ u.cell? ⟨bV, 2, none⟩ = some (.string pt.a.s)) ∧ u.cell? ⟨g, off + k * 5, none⟩ = some (.string pv))
              (first
                | assumption
                | exact ⟨belx.drew, HC.out _ belx.drew⟩
                | exact ⟨(by assumption), HC.out _ (by assumption)⟩)
              (first
                | (go_at_call 12; refine Calls.mono (HIu.out _ (by first | assumption | exact belx.drew)) ?_; rintro ee wz ⟨rfl, bz⟩; have bz' : Below WV.heap.size WV wz := lv_next (by first | assumption | exact belx.drew) bz)
                | fail)
            all_goals
              go_wp2
              go_roundw
              case rel => exact ⟨k + 1, by omega, by go_num, HB7X.out _ (by first | assumption | exact belx.drew)⟩
              case measure => simp [intOf]; omega
          · have f0 := empty_not et
            have HE2 : Hid (isV l pv = isV l pt.v) := by show _ = _; rw [HE.out, if_neg et]
            have HI3 : Hid _ := HIS.out pt.v WV (HBw.out.trans (BV.out.mono HBw.out.size))
            generalize isV l pt.v = wv at HE2 HI3
            clear et HE
            go_wp2_with fail
            refine Calls.mono HI3.out ?_
            rintro ee w8 ⟨rfl, b8⟩
            have r8 : RL w8 bV 39 _ := RL.below HV1.out b8
            have d0 := r8.at (j := 0) rfl
            have d1 := r8.at (j := 1) rfl
            have d2 := r8.at (j := 2) rfl
            have g0 := World.rowIs.frozen r8 0
            have g1 := World.rowIs.frozen r8 1
            have g2 := World.rowIs.frozen r8 2
            have B8 : Hid (Below wr.heap.size wr w8) := BV.out.trans (b8.mono BV.out.size)
            have HR8 : Hid (RL (((w8.setCell ⟨bV, 0, none⟩ (.int .i8 wv.k)).setCell ⟨bV, 1, none⟩ (.int .i64 wv.n)).setCell ⟨bV, 2, none⟩ (.string wv.s)) bV 39 [.int .i8 wv.k, .int .i64 wv.n, .string wv.s]) := ((r8.set 0 _).set 1 _).set 2 _
            have B9 : Hid (Below wr.heap.size wr (((w8.setCell ⟨bV, 0, none⟩ (.int .i8 wv.k)).setCell ⟨bV, 1, none⟩ (.int .i64 wv.n)).setCell ⟨bV, 2, none⟩ (.string wv.s))) := ((B8.out.setCell (p := ⟨bV, 0, none⟩) HVL.out _).setCell (p := ⟨bV, 1, none⟩) HVL.out _).setCell (p := ⟨bV, 2, none⟩) HVL.out _
            clear b8 r8 HI3 HV1 BV HT2 B8 t0
            go_upto_region 23 with fail
            generalize ((w8.setCell ⟨bV, 0, none⟩ (.int .i8 wv.k)).setCell ⟨bV, 1, none⟩ (.int .i64 wv.n)).setCell ⟨bV, 2, none⟩ (.string wv.s) = WX at HR8 B9 ⊢
            have HRV : Hid (RL WX bV 39 _) := HR8.out
            have HPC2 : Hid (∀ u, Below WX.heap.size WX u → u.cell? ⟨g, off + k * 5, none⟩ = some (.string pv)) := fun u hu => HPC.out u (B9.out.trans (hu.mono B9.out.size))
            have HBX : Hid (Below w.heap.size w WX) := HBw.out.trans (B9.out.mono HBw.out.size)
            have HB7X : Hid (∀ u, Below WX.heap.size WX u → Below w7.heap.size w7 u) := fun u hu => bel.trans ((B9.out.trans (hu.mono B9.out.size)).mono bel.size)
            clear HPC HR8 B9 HVL HBw d0 d1 d2 g0 g1 g2
            have HC : Hid (∀ u, Below WX.heap.size WX u → (u.cell? ⟨bV, 0, none⟩ = some (.int .i8 wv.k) ∧ u.cell? ⟨bV, 1, none⟩ = some (.int .i64 wv.n) ∧ u.cell? ⟨bV, 2, none⟩ = some (.string wv.s)) ∧ u.cell? ⟨g, off + k * 5, none⟩ = some (.string pv)) := fun u hu => ⟨⟨(RL.below HRV.out hu).at (j := 0) rfl, (RL.below HRV.out hu).at (j := 1) rfl, (RL.below HRV.out hu).at (j := 2) rfl⟩, HPC2.out u hu⟩
            have hQ := neqVt HE2.out
            have HI2 : Hid _ := HIS.out pv
            have HIu : Hid (∀ u, Below WX.heap.size WX u → Calls Tryd.prog 12 #[.slice al l.length cl, .string pv] u fun e w' => e = .returned (.agg #[.int .i8 (isV l pv).k, .int .i64 (isV l pv).n, .string (isV l pv).s]) ∧ Below u.heap.size u w') := fun u hu => HI2.out u (HBX.out.trans (hu.mono HBX.out.size))
            generalize isV l pv = iv at hQ HIu
            have belx : Below WX.heap.size WX WX := Below.refl _ _
            have hS0 := HC.out _ belx
            clear HI2 HPC2 HRV HE2
            go_wp2_with fail
            go_region_held3 (fun u => (Below WX.heap.size WX u) ∧ (u.cell? ⟨bV, 0, none⟩ = some (.int .i8 wv.k) ∧ u.cell? ⟨bV, 1, none⟩ = some (.int .i64 wv.n) ∧ u.cell? ⟨bV, 2, none⟩ = some (.string wv.s)) ∧ u.cell? ⟨g, off + k * 5, none⟩ = some (.string pv))
              (first
                | assumption
                | exact ⟨belx.drew, HC.out _ belx.drew⟩
                | exact ⟨(by assumption), HC.out _ (by assumption)⟩)
              (first
                | (go_at_call 12; refine Calls.mono (HIu.out _ (by first | assumption | exact belx.drew)) ?_; rintro ee wz ⟨rfl, bz⟩; have bz' : Below WX.heap.size WX wz := lv_next (by first | assumption | exact belx.drew) bz)
                | fail)
            all_goals
              go_wp2
              go_roundw
              case rel => exact ⟨k + 1, by omega, by go_num, HB7X.out _ (by first | assumption | exact belx.drew)⟩
              case measure => simp [intOf]; omega
        · obtain rfl : k = s.length := by omega
          go_wp2
          go_ret
          exact ⟨rfl, HB7.out.trans (bel.mono HB7.out.size)⟩
end Go.Proofs.YtlajlofccpnilaaDoor
