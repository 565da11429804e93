import Derived.Test.YtlajlofccpnilaaDoorTmFitsA
namespace Go.Proofs.YtlajlofccpnilaaDoor
open Go.RowKit Go.Maps
set_option linter.unusedVariables false
set_option linter.unusedSimpArgs false
attribute [local go_sem ↓] Go.wp_at_zero Go.wp_at_succ

/-- what TermFits keeps: the boxes, the fact that the atom becomes -/
structure F2 (w : World) (p pf : ByteArray) (na nf : Nat) (aa af : Option Addr) (ca cf bg : Nat) (a1 : Option Addr) (c1 : Nat) (gs : List V) (wc : World) : Prop where
  u : U3 w p pf na nf aa af ca cf wc
  g : RL wc bg 28 [.string p, .slice a1 na c1]
  lg : Lv wc (.slice a1 na c1) gs
theorem F2.next {w : World} {p pf : ByteArray} {na nf : Nat} {aa af : Option Addr} {ca cf bg : Nat} {a1 : Option Addr} {c1 : Nat} {gs : List V} {u v : World} (h : F2 w p pf na nf aa af ca cf bg a1 c1 gs u) (b : Below u.heap.size u v) : F2 w p pf na nf aa af ca cf bg a1 c1 gs v :=
  ⟨h.u.next b, h.g.below b, h.lg.below b⟩
theorem sayB_wf {l : List B} {ts : List T} (hl : ∀ b ∈ l, b.wf) (ht : ∀ t ∈ ts, t.wf) : ∀ b ∈ sayB l ts, b.wf := fun b hb => by
  unfold sayB at hb
  obtain ⟨n, hn, rfl⟩ := List.mem_map.1 hb
  rcases vsT_good ts [] n hn with h | ⟨_, _, t, h, rfl⟩
  · cases h
  · exact ⟨(ht t h).text, isV_wf hl _⟩
set_option maxHeartbeats 25600000 in
set_option maxRecDepth 100000 in
theorem fits_yes (p pf : ByteArray) (la : List T) (lf : List V) (aa af al : Option Addr) (ca cf cl : Nat) (l : List B) (w : World) (hG : Gm w) (hp : p.size ≤ maxLen) (hpf : pf.size ≤ maxLen) (hA : Lt w (.slice aa la.length ca) la) (hL : Lb w (.slice al l.length cl) l) (hF : Lv w (.slice af lf.length cf) lf) (h3 : atomB p la = true) :
    Calls Tryd.prog 3 #[.agg #[.string p, .slice aa la.length ca], .slice al l.length cl, .agg #[.string pf, .slice af lf.length cf]] w fun e w' => e = .returned (.bool true) ∧ Below w.heap.size w w' := by
  have HU0 : Hid _ := u3_new w p pf la.length lf.length aa af ca cf
  have HLi : Hid _ := lives_any _ (hG.below HU0.out.bel).tk (hG.below HU0.out.bel).kt
  have h24 : la.length ≤ 24 := atomB_len h3
  have hlfm : lf.length ≤ maxLen := hF.lies.1
  unfold maxLen at hlfm
  have hall : la.all termB = true := by unfold atomB at h3; simp only [Bool.and_eq_true] at h3; exact h3.2
  have HC1 : Hid (∀ u, Below w.heap.size w u → Calls Tryd.prog 6 #[.agg #[.string p, .slice aa la.length ca]] u fun e w' => e = .returned (.int .i64 0) ∧ Below u.heap.size u w') := fun u hu => by
    have := rcheckAtom_any p _ la u hp (hA.below hu)
    rw [h3] at this
    exact this
  have HG : Hid (∀ (v : Value) (s : List B) u, Below w.heap.size w u → Lb u v s → Calls Tryd.prog 8 #[.agg #[.string p, .slice aa la.length ca], v] u fun e w' => ∃ a1 c1, e = .returned (.agg #[.string p, .slice a1 la.length c1]) ∧ Lv w' (.slice a1 la.length c1) (gr s la) ∧ Below u.heap.size u w') := fun v s u hu hs => by
    refine (ground_any p aa ca la v s u (hA.below hu) hs h24).mono ?_
    rintro e w' ⟨v', rfl, hv, hb⟩
    obtain ⟨a1, c1, rfl, _⟩ := hv.form
    rw [gr_len] at hv ⊢
    exact ⟨a1, c1, rfl, hv, hb⟩
  have HLb : Hid (∀ u, Below w.heap.size w u → Lb u (.slice al l.length cl) l) := fun u hu => hL.below hu
  have HMG : Hid (∀ a1 c1 u, Below w.heap.size w u → Lv u (.slice a1 la.length c1) (gr l la) → Calls Tryd.prog 7 #[.agg #[.string p, .slice aa la.length ca], .agg #[.string p, .slice a1 la.length c1]] u fun e w' => ∃ ag cg, e = .returned (.tuple #[.slice ag (vsT [] la).length cg, .bool true]) ∧ Lb w' (.slice ag (vsT [] la).length cg) (sayB l la) ∧ Below u.heap.size u w') := fun a1 c1 u hu hv => by
    have := match_yes p _ _ la (gr l la) u hp (hA.below hu) hv (gr_len l la).symm h3
    rw [mat_gr l hall] at this
    refine this.mono ?_
    rintro e w' ⟨⟨sv, rfl, _, hs⟩, hb⟩
    obtain ⟨hown, _, _⟩ := hs _ rfl
    obtain ⟨ag, cg, rfl, _⟩ := own_form hown
    rw [show ((vsT [] la).map (fun n => (⟨n, isV l n⟩ : B))).length = (vsT [] la).length by simp] at hown ⊢
    refine ⟨ag, cg, rfl, ⟨?_, sayB_wf hL.wf hA.wf⟩, hb⟩
    rw [sayB_len]
    exact ls_own hown
  have HSa : Hid (∀ ag cg u, Below w.heap.size w u → Lb u (.slice ag (vsT [] la).length cg) (sayB l la) → Calls Tryd.prog 9 #[.slice ag (vsT [] la).length cg, .agg #[.string p, .slice aa la.length ca], .slice al l.length cl] u fun e w' => e = .returned (.bool true) ∧ Below u.heap.size u w') := fun ag cg u hu hs => says_any p aa ag al ca cg cl la l u (hA.below hu) h24 (hL.below hu) hs
  have HTU : Hid (∀ k, k < la.length → ∀ u a1 c1, Below w.heap.size w u → Lv u (.slice a1 la.length c1) (gr l la) → (atT la k).v ≠ blankS → Calls Tryd.prog 10 #[.agg #[.string p, .slice aa la.length ca], .agg #[.string p, .slice a1 la.length c1], .int .i64 k] u fun e w' => e = .returned (.bool true) ∧ Below u.heap.size u w') := fun k hk u a1 c1 hu hv hb => turned_any p aa a1 ca c1 la l k u hp (hA.below hu) hv h3 hk hb
  have HMF : Hid ((∀ u, Below w.heap.size w u → Calls Tryd.prog 7 #[.agg #[.string p, .slice aa la.length ca], .agg #[.string pf, .slice af lf.length cf]] u fun e w' => e = .returned (.tuple #[.slice none 0 0, .bool false]) ∧ Below u.heap.size u w') ∨ ((p = pf ∧ la.length = lf.length) ∧ ∃ s, mat [] la lf = some s ∧ ∀ u, Below w.heap.size w u → Calls Tryd.prog 7 #[.agg #[.string p, .slice aa la.length ca], .agg #[.string pf, .slice af lf.length cf]] u fun e w' => ∃ ag cg, e = .returned (.tuple #[.slice ag s.length cg, .bool true]) ∧ Lb w' (.slice ag s.length cg) s ∧ Below u.heap.size u w')) := by
    by_cases h : p = pf ∧ la.length = lf.length
    · obtain ⟨rfl, hn⟩ := h
      cases hm : mat [] la lf with
      | none =>
        refine .inl fun u hu => ?_
        have := match_yes p _ _ la lf u hp (hA.below hu) (hF.below hu) hn h3
        rw [hm] at this
        refine this.mono ?_
        rintro e w' ⟨⟨sv, rfl, hs, _⟩, hb⟩
        rw [hs rfl]
        exact ⟨rfl, hb⟩
      | some s =>
        refine .inr ⟨⟨rfl, hn⟩, s, rfl, fun u hu => ?_⟩
        have := match_yes p _ _ la lf u hp (hA.below hu) (hF.below hu) hn h3
        rw [hm] at this
        refine this.mono ?_
        rintro e w' ⟨⟨sv, rfl, _, hs⟩, hb⟩
        obtain ⟨hown, hwf, _⟩ := hs _ rfl
        obtain ⟨ag, cg, rfl, _⟩ := own_form hown
        exact ⟨ag, cg, rfl, ⟨ls_own hown, hwf⟩, hb⟩
    · exact .inl fun u hu => match_no p pf _ _ la lf u hp hpf (hA.below hu) (hF.below hu) (fun hh => h ⟨hh.1, hh.2.1⟩)
  have HBk : Hid (∀ s, la.length = lf.length → mat [] la lf = some s → ∀ i, i < la.length → (atT la i).v ≠ blankS → atV lf i = grT s (atT la i)) := fun s hn hm i hi hb => back_fit hn hm hi hb
  have HXF : Hid (∀ k, k < lf.length → ∃ g off, af = some ⟨g, off, none⟩ ∧ ∀ u, Below w.heap.size w u → VAt u g (off + k * 3) (atV lf k)) := fun k hk => by
    obtain ⟨g, off, e, hg, hx⟩ := lv_at hF rfl hk
    exact ⟨g, off, e, fun u hu => hx.below hu hg⟩
  have HX : Hid (∀ k, k < la.length → ∃ g off, aa = some ⟨g, off, none⟩ ∧ ∀ u, Below w.heap.size w u → u.cell? ⟨g, off + k * 4, none⟩ = some (.string (atT la k).v)) := fun k hk => by
    obtain ⟨g, off, e, hg, hx⟩ := lt_at hA rfl hk
    exact ⟨g, off, e, fun u hu => (hx.below hu hg).c0⟩
  clear hG hp hpf hA hL hF h3 hall
  go_enter Tryd.func3, Tryd.ntmps3
  go_wp2_with fail
  refine Calls.mono HLi.out ?_
  rintro e w1 ⟨rfl, b1⟩
  have HU1 : Hid (U3 w p pf la.length lf.length aa af ca cf w1) := HU0.out.next b1
  clear b1 HU0 HLi
  have x0 := HU1.out.b0.at (j := 0) rfl
  have x1 := HU1.out.b0.at (j := 1) rfl
  go_wp2_with fail
  refine Calls.mono (HC1.out _ HU1.out.bel) ?_
  rintro e w2 ⟨rfl, b2⟩
  have HU2 : Hid (U3 w p pf la.length lf.length aa af ca cf w2) := HU1.out.next b2
  clear b2 HU1 x0 x1 HC1
  have x0 := HU2.out.b0.at (j := 0) rfl
  have x1 := HU2.out.b0.at (j := 1) rfl
  go_wp2_with fail
  refine Calls.mono (HG.out _ l _ HU2.out.bel (HLb.out _ HU2.out.bel)) ?_
  rintro e w3 ⟨a1, c1, rfl, hv1, b3⟩
  have HV1 : Hid (Lv w3 (.slice a1 la.length c1) (gr l la)) := hv1
  have HU3 : Hid (U3 w p pf la.length lf.length aa af ca cf w3) := HU2.out.next b3
  clear b3 hv1 HU2 x0 x1
  go_upto_region 7 with fail
  have HF4 : Hid (F2 w p pf la.length lf.length aa af ca cf w3.heap.size a1 c1 (gr l la) (w3.alloc (.cells #[.string p, .slice a1 la.length c1] 28))) := ⟨HU3.out.next ((Below.refl _ _).alloc (Nat.le_refl _) _), rl_new w3 #[.string p, .slice a1 la.length c1] 28, HV1.out.below ((Below.refl _ _).alloc (Nat.le_refl _) _)⟩
  generalize w3.alloc (.cells #[.string p, .slice a1 la.length c1] 28) = W4 at HF4 ⊢
  generalize w3.heap.size = bg at HF4 ⊢
  clear HV1 HU3
  have x0 := HF4.out.u.b0.at (j := 0) rfl
  have x1 := HF4.out.u.b0.at (j := 1) rfl
  have y0 := HF4.out.g.at (j := 0) rfl
  have y1 := HF4.out.g.at (j := 1) rfl
  go_wp2_with fail
  refine Calls.mono (HMG.out a1 c1 _ HF4.out.u.bel HF4.out.lg) ?_
  rintro e w5 ⟨ag, cg, rfl, hgs, b5⟩
  have HF5 : Hid (F2 w p pf la.length lf.length aa af ca cf bg a1 c1 (gr l la) w5) := HF4.out.next b5
  have HS5 : Hid _ := HSa.out ag cg w5 HF5.out.u.bel hgs
  clear b5 hgs HF4 HMG HSa x0 x1 y0 y1
  have x0 := HF5.out.u.b0.at (j := 0) rfl
  have x1 := HF5.out.u.b0.at (j := 1) rfl
  go_wp2_with fail
  refine Calls.mono HS5.out ?_
  rintro e w6 ⟨rfl, b6⟩
  have HF6 : Hid (F2 w p pf la.length lf.length aa af ca cf bg a1 c1 (gr l la) w6) := HF5.out.next b6
  clear b6 HF5 HS5 x0 x1
  have x0 := HF6.out.u.b0.at (j := 0) rfl
  have x1 := HF6.out.u.b0.at (j := 1) rfl
  have y0 := HF6.out.u.b1.at (j := 0) rfl
  have y1 := HF6.out.u.b1.at (j := 1) rfl
  rcases HMF.out with hno | ⟨⟨hpp, hnn⟩, s, hms, hyes⟩
  · have HM6 : Hid _ := hno w6 HF6.out.u.bel
    clear hno HMF HBk HXF HG HLb
    go_wp2_with fail
    refine Calls.mono HM6.out ?_
    rintro e w7 ⟨rfl, b7⟩
    have HF7 : Hid (F2 w p pf la.length lf.length aa af ca cf bg a1 c1 (gr l la) w7) := HF6.out.next b7
    clear b7 HF6 HM6 x0 x1 y0 y1
    have k1 := HF7.out.u.b0.at (j := 1) rfl
    go_wp2
    clear k1
    go_loopw [16] (fun i wr => ∃ k : Nat, k ≤ la.length ∧ i = .int .i64 k ∧ Below w7.heap.size w7 wr) (fun i _ => la.length - (intOf i).toNat)
    case atStart => exact ⟨0, Nat.zero_le _, rfl, Below.refl _ _⟩
    case round =>
      obtain ⟨k, hk, rfl, bel⟩ := hrel
      have HFr : Hid (F2 w p pf la.length lf.length aa af ca cf bg a1 c1 (gr l la) wr) := HF7.out.next bel
      have k0 := HFr.out.u.b0.at (j := 0) rfl
      have k1 := HFr.out.u.b0.at (j := 1) rfl
      by_cases hlt : k < la.length
      · have hlt' : (k : Int) < (la.length : Int) := by omega
        have hk0 : (0 : Int) ≤ (k : Int) := by omega
        obtain ⟨ga, oa, rfl, hxa⟩ := HX.out k hlt
        have x0 := hxa wr HFr.out.u.bel
        clear hxa
        have HTu : Hid _ := HTU.out k hlt wr a1 c1 HFr.out.u.bel HFr.out.lg
        have g0 := HFr.out.g.at (j := 0) rfl
        have g1 := HFr.out.g.at (j := 1) rfl
        generalize (atT la k).v = xv at x0 HTu
        by_cases e : xv = blankS
        · have f1 : (xv.toList == [95]) = true := by rw [e, blank_list]; rfl
          clear e HTu HFr
          go_wp2
          go_roundw
          case rel => exact ⟨k + 1, by omega, by go_num, bel⟩
          case measure => simp [intOf]; omega
        · have f1 := blank_not e
          have HTv : Hid _ := HTu.out e
          clear e HTu
          go_wp2_with fail
          refine Calls.mono HTv.out ?_
          rintro ee wz ⟨rfl, bz⟩
          have bz' : Below w7.heap.size w7 wz := bel.trans (bz.mono bel.size)
          clear bz bel HTv HFr
          go_wp2
          go_roundw
          case rel => exact ⟨k + 1, by omega, by go_num, bz'⟩
          case measure => simp [intOf]; omega
      · obtain rfl : k = la.length := by omega
        have HBr : Hid (Below w.heap.size w wr) := HFr.out.u.bel
        go_wp2
        go_ret
        exact ⟨rfl, HBr.out⟩
  · have HM6 : Hid _ := hyes w6 HF6.out.u.bel
    have HBs : Hid _ := HBk.out s hnn hms
    have HPP : Hid (p = pf) := hpp
    have HNN : Hid (la.length = lf.length) := hnn
    have epp : (pf.toList == p.toList) = true := by rw [hpp]; simp
    have enn : ((lf.length : Int) != (la.length : Int)) = false := by rw [hnn]; simp
    clear hyes hms hpp hnn HMF HBk
    go_wp2_with fail
    refine Calls.mono HM6.out ?_
    rintro e w7 ⟨as7, cs7, rfl, hlb, b7⟩
    have HF7 : Hid (F2 w p pf la.length lf.length aa af ca cf bg a1 c1 (gr l la) w7) := HF6.out.next b7
    have HG7 : Hid _ := HG.out _ s w7 HF7.out.u.bel hlb
    clear b7 hlb HF6 HM6 HG HLb x0 x1 y0 y1
    have x0 := HF7.out.u.b0.at (j := 0) rfl
    have x1 := HF7.out.u.b0.at (j := 1) rfl
    have y0 := HF7.out.u.b1.at (j := 0) rfl
    have y1 := HF7.out.u.b1.at (j := 1) rfl
    go_wp2_with fail
    refine Calls.mono HG7.out ?_
    rintro e w8 ⟨a3, c3, rfl, hv3, b8⟩
    have HF8 : Hid (F2 w p pf la.length lf.length aa af ca cf bg a1 c1 (gr l la) w8 ∧ Lv w8 (.slice a3 la.length c3) (gr s la)) := ⟨HF7.out.next b8, hv3⟩
    clear b8 hv3 HF7 HG7 x0 x1 y0 y1
    go_upto_region 15 with fail
    have HF9 : Hid (F2 w p pf la.length lf.length aa af ca cf bg a1 c1 (gr l la) (w8.alloc (.cells #[.string p, .slice a3 la.length c3] 28)) ∧ RL (w8.alloc (.cells #[.string p, .slice a3 la.length c3] 28)) w8.heap.size 28 [.string p, .slice a3 la.length c3] ∧ Lv (w8.alloc (.cells #[.string p, .slice a3 la.length c3] 28)) (.slice a3 la.length c3) (gr s la)) := ⟨HF8.out.1.next ((Below.refl _ _).alloc (Nat.le_refl _) _), rl_new w8 #[.string p, .slice a3 la.length c3] 28, HF8.out.2.below ((Below.refl _ _).alloc (Nat.le_refl _) _)⟩
    generalize w8.alloc (.cells #[.string p, .slice a3 la.length c3] 28) = W9 at HF9 ⊢
    generalize w8.heap.size = bh at HF9 ⊢
    clear HF8
    have HVH : Hid (∀ k, k < la.length → ∃ g off, a3 = some ⟨g, off, none⟩ ∧ ∀ u, Below W9.heap.size W9 u → VAt u g (off + k * 3) (grT s (atT la k))) := fun k hk => by
      obtain ⟨g, off, e, hg, hx⟩ := lv_at HF9.out.2.2 (gr_len s la) hk
      rw [atV_gr s la hk] at hx
      exact ⟨g, off, e, fun u hu => hx.below hu hg⟩
    have q1 := HF9.out.1.u.b1.at (j := 1) rfl
    go_wp2
    clear q1
    go_loopw [15] (fun i wr => ∃ k : Nat, k ≤ lf.length ∧ i = .int .i64 k ∧ Below W9.heap.size W9 wr) (fun i _ => lf.length - (intOf i).toNat)
    case atStart => exact ⟨0, Nat.zero_le _, rfl, Below.refl _ _⟩
    case round =>
      obtain ⟨k, hk, rfl, bel⟩ := hrel
      have HFr : Hid (F2 w p pf la.length lf.length aa af ca cf bg a1 c1 (gr l la) wr) := HF9.out.1.next bel
      have q1 := HFr.out.u.b1.at (j := 1) rfl
      by_cases hlt : k < lf.length
      · have hlt' : (k : Int) < (lf.length : Int) := by omega
        have hk0 : (0 : Int) ≤ (k : Int) := by omega
        have hlta : k < la.length := by rw [HNN.out]; exact hlt
        have hlta' : (k : Int) < (la.length : Int) := by omega
        obtain ⟨gf, of, rfl, hvf⟩ := HXF.out k hlt
        obtain ⟨gh, oh, rfl, hvh⟩ := HVH.out k hlta
        obtain ⟨ga, oa, rfl, hxa⟩ := HX.out k hlta
        have x0 := hxa wr HFr.out.u.bel
        obtain ⟨v0, v1, v2⟩ := hvf wr HFr.out.u.bel
        obtain ⟨z0, z1, z2⟩ := hvh wr bel
        have k1 := HFr.out.u.b0.at (j := 1) rfl
        have q2 := (HF9.out.2.1.below bel).at (j := 1) rfl
        have HE : Hid _ := HBs.out k hlta
        clear hvf hvh hxa hlta
        generalize (atT la k).v = xv at x0 HE
        generalize atV lf k = ua at v0 v1 v2 HE
        generalize grT s (atT la k) = ub at z0 z1 z2 HE
        by_cases e : xv = blankS
        · have f1 : (xv.toList == [95]) = true := by rw [e, blank_list]; rfl
          clear e HE HFr
          go_wp2_with fail
          go_quiet (fail)
          go_wp2
          go_roundw
          case rel => exact ⟨k + 1, by omega, by go_num, below_drewN bel _⟩
          case measure => simp [intOf]; omega
        · have f1 := blank_not e
          have hQ := neqVt (HE.out e)
          clear e HE HFr
          go_wp2_with fail
          go_quiet (fail)
          go_wp2
          go_roundw
          case rel => exact ⟨k + 1, by omega, by go_num, below_drewN bel _⟩
          case measure => simp [intOf]; omega
      · obtain rfl : k = lf.length := by omega
        have HFq : Hid (F2 w p pf la.length lf.length aa af ca cf bg a1 c1 (gr l la) wr) := HFr
        clear HVH HXF HBs HPP HNN q1 epp enn HF9 bel HFr
        generalize wr = wq at HFq ⊢
        have q1 := HFq.out.u.b1.at (j := 1) rfl
        have k1 := HFq.out.u.b0.at (j := 1) rfl
        go_wp2
        clear k1
        go_loopw [16] (fun i wr => ∃ k : Nat, k ≤ la.length ∧ i = .int .i64 k ∧ Below wq.heap.size wq wr) (fun i _ => la.length - (intOf i).toNat)
        case atStart => exact ⟨0, Nat.zero_le _, rfl, Below.refl _ _⟩
        case round =>
          obtain ⟨k, hk, rfl, bel⟩ := hrel
          have HFr : Hid (F2 w p pf la.length lf.length aa af ca cf bg a1 c1 (gr l la) wr) := HFq.out.next bel
          have k0 := HFr.out.u.b0.at (j := 0) rfl
          have k1 := HFr.out.u.b0.at (j := 1) rfl
          by_cases hlt : k < la.length
          · have hlt' : (k : Int) < (la.length : Int) := by omega
            have hk0 : (0 : Int) ≤ (k : Int) := by omega
            obtain ⟨ga, oa, rfl, hxa⟩ := HX.out k hlt
            have x0 := hxa wr HFr.out.u.bel
            clear hxa
            have HTu : Hid _ := HTU.out k hlt wr a1 c1 HFr.out.u.bel HFr.out.lg
            have g0 := HFr.out.g.at (j := 0) rfl
            have g1 := HFr.out.g.at (j := 1) rfl
            generalize (atT la k).v = xv at x0 HTu
            by_cases e : xv = blankS
            · have f1 : (xv.toList == [95]) = true := by rw [e, blank_list]; rfl
              clear e HTu HFr
              go_wp2
              go_roundw
              case rel => exact ⟨k + 1, by omega, by go_num, bel⟩
              case measure => simp [intOf]; omega
            · have f1 := blank_not e
              have HTv : Hid _ := HTu.out e
              clear e HTu
              go_wp2_with fail
              refine Calls.mono HTv.out ?_
              rintro ee wz ⟨rfl, bz⟩
              have bz' : Below wq.heap.size wq wz := bel.trans (bz.mono bel.size)
              clear bz bel HTv HFr
              go_wp2
              go_roundw
              case rel => exact ⟨k + 1, by omega, by go_num, bz'⟩
              case measure => simp [intOf]; omega
          · obtain rfl : k = la.length := by omega
            have HBr : Hid (Below w.heap.size w wr) := HFr.out.u.bel
            go_wp2
            go_ret
            exact ⟨rfl, HBr.out⟩
end Go.Proofs.YtlajlofccpnilaaDoor
