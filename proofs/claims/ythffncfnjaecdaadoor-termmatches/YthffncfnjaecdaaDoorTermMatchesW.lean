import Derived.Test.YthffncfnjaecdaaDoorTermMatchR
import Derived.Test.YthffncfnjaecdaaDoorLitTwin
import Derived.Test.YthffncfnjaecdaaDoorFact
namespace Go.Proofs.YthffncfnjaecdaaDoor
open Go.RowKit Go.Maps
set_option linter.unusedVariables false
set_option linter.unusedSimpArgs false
attribute [local go_sem ↓] Go.wp_at_zero Go.wp_at_succ

theorem lst_of_lv {w : World} {v : Value} {l : List V} (h : Lv w v l) : Lst w v l.length (fun i => (atV l i).k) (fun i => (atV l i).n) (fun i => (atV l i).s) := by
  have hwf := h.wf
  obtain ⟨a, c, rfl, h1, h2, hat⟩ := h.form
  refine ⟨Nat.le_trans h1 h2, ?_⟩
  by_cases h0 : 0 < l.length
  · obtain ⟨g, off, rfl, hg, hV⟩ := hat h0
    exact .inr ⟨g, off, c, rfl, h1, h2, ⟨fun _ => hg, fun i hi => (hV i hi).c0, fun i hi => (hV i hi).c1, fun i hi => (hV i hi).c2, fun i hi => (atV_wf hwf i).text⟩⟩
  · have e : l.length = 0 := by omega
    exact .inl ⟨a, c, by rw [e], e⟩
theorem lv_of_at {w : World} {g off n c : Nat} {l : List V} (hn : l.length = n) (hc1 : n ≤ c) (hc2 : c ≤ maxLen) (hg : g < w.heap.size) (h : ∀ i, i < l.length → VAt w g (off + i * 3) (atV l i)) (hwf : ∀ t ∈ l, t.wf) : Lv w (.slice (some ⟨g, off, none⟩) n c) l := by
  subst hn
  refine ⟨⟨Nat.le_trans hc1 hc2, _, c, rfl, hc1, hc2, fun _ => ⟨g, off, rfl, hg, fun i hi => ?_⟩⟩, hwf⟩
  have hl : (l.flatMap V.cells).length = l.length * 3 := flat_len V.cells 3 (fun _ => rfl) l
  have hi3 : i / 3 < l.length := by omega
  have hx := flat_at V.cells 3 (fun _ => rfl) V0 l (i / 3) (i % 3) hi3 (by omega)
  rw [show i / 3 * 3 + i % 3 = i by omega] at hx
  have ht := h (i / 3) hi3
  have key : w.cell? ⟨g, off + i, none⟩ = (V.cells (atV l (i / 3)))[i % 3]? := by
    obtain h0 | h0 | h0 : i % 3 = 0 ∨ i % 3 = 1 ∨ i % 3 = 2 := by omega
    · have e := ht.c0
      rw [show off + i / 3 * 3 = off + i by omega] at e
      rw [e, h0]; rfl
    · have e := ht.c1
      rw [show off + i / 3 * 3 + 1 = off + i by omega] at e
      rw [e, h0]; rfl
    · have e := ht.c2
      rw [show off + i / 3 * 3 + 2 = off + i by omega] at e
      rw [e, h0]; rfl
  rw [key]
  have e2 : (l.flatMap V.cells)[i]? = (V.cells (atV l (i / 3)))[i % 3]? := hx
  rw [← e2, List.getElem?_eq_getElem hi]
theorem lv_of_marks {w : World} {b : Nat} {l : List V} (hc : Cells w b 0 (l.length + 1) (markK l.length (fun i => (atV l i).k)) (markN l.length (fun i => (atV l i).n)) (markS l.length (fun i => (atV l i).s))) (hm : l.length + 1 ≤ maxLen) (hwf : ∀ t ∈ l, t.wf) : Lv w (.slice (some ⟨b, 0, none⟩) l.length (l.length + 1)) l := by
  refine lv_of_at rfl (Nat.le_succ _) hm (hc.lt (by omega)) (fun i hi => ?_) hwf
  have hne : ¬ i = l.length := by omega
  have k0 := hc.kind i (by omega)
  have k1 := hc.num i (by omega)
  have k2 := hc.text i (by omega)
  unfold markK at k0
  unfold markN at k1
  unfold markS at k2
  rw [if_neg hne] at k0 k1 k2
  exact ⟨k0, k1, k2⟩
theorem lb_nil (w : World) : Lb w (.slice none 0 0) [] := ⟨⟨by show 0 ≤ _; omega, none, 0, rfl, Nat.le_refl _, by decide, fun h => absurd (show (0 : Nat) < 0 from h) (by omega)⟩, fun t ht => by cases ht⟩
/-- what either Match answers: the list, or nothing -/
def Told (B0 : Nat) (r : Option (List B)) (e : Ending) (w' : World) : Prop := ∃ sv, e = .returned (.tuple #[sv, .bool r.isSome]) ∧ Lb w' sv (r.getD [])
theorem told_of {B0 : Nat} {r : Option (List B)} {e : Ending} {w' : World} (h : MatPost B0 r e w') : Told B0 r e w' := by
  obtain ⟨sv, he, h1, h2⟩ := h
  refine ⟨sv, he, ?_⟩
  cases r with
  | none => rw [h1 rfl]; exact lb_nil w'
  | some s =>
    obtain ⟨ho, hwf, -⟩ := h2 s rfl
    exact ⟨ls_own ho, hwf⟩
def resM (pa pb : ByteArray) (la : List T) (lf : List V) : Option (List B) := if pa = pb ∧ la.length = lf.length ∧ atomB pa la = true then mat [] la lf else none
theorem rmatch_any (pa pb : ByteArray) (va vb : Value) (la : List T) (lf : List V) (w : World) (hpa : pa.size ≤ maxLen) (hpb : pb.size ≤ maxLen) (ha : Lt w va la) (hb : Lv w vb lf) :
    Calls Tryd.prog 4 #[.agg #[.string pa, va], .agg #[.string pb, vb]] w fun e w' => Told w.heap.size (resM pa pb la lf) e w' ∧ Below w.heap.size w w' := by
  unfold resM
  by_cases h : pa = pb ∧ la.length = lf.length ∧ atomB pa la = true
  · rw [if_pos h]
    obtain ⟨rfl, h2, h3⟩ := h
    exact (rmatch_yes pa va vb la lf w hpa ha hb h2 h3).mono fun e w' ⟨h1, h2⟩ => ⟨told_of h1, h2⟩
  · rw [if_neg h]
    refine (rmatch_no pa pb va vb la lf w hpa hpb ha hb h).mono ?_
    rintro e w' ⟨rfl, h2⟩
    exact ⟨⟨_, rfl, lb_nil w'⟩, h2⟩
theorem match_any (pa pb : ByteArray) (va vb : Value) (la : List T) (lf : List V) (w : World) (hpa : pa.size ≤ maxLen) (hpb : pb.size ≤ maxLen) (ha : Lt w va la) (hb : Lv w vb lf) :
    Calls Tryd.prog 7 #[.agg #[.string pa, va], .agg #[.string pb, vb]] w fun e w' => Told w.heap.size (resM pa pb la lf) e w' ∧ Below w.heap.size w w' := by
  unfold resM
  by_cases h : pa = pb ∧ la.length = lf.length ∧ atomB pa la = true
  · rw [if_pos h]
    obtain ⟨rfl, h2, h3⟩ := h
    exact (match_yes pa va vb la lf w hpa ha hb h2 h3).mono fun e w' ⟨h1, h2⟩ => ⟨told_of h1, h2⟩
  · rw [if_neg h]
    refine (match_no pa pb va vb la lf w hpa hpb ha hb h).mono ?_
    rintro e w' ⟨rfl, h2⟩
    exact ⟨⟨_, rfl, lb_nil w'⟩, h2⟩
set_option maxHeartbeats 3200000 in
theorem termMatches_walk (pa : ByteArray) (la : List T) (aa : Option Addr) (ca : Nat) (pb : ByteArray) (lf : List V) (ab : Option Addr) (cb : Nat) (w : World) (hp : PWt w) (hpa : pa.size ≤ maxLen) (hla : la.length ≤ 4398046511104) (hL : Lt w (.slice aa la.length ca) la) (hpb : pb.size ≤ maxLen) (hlf : lf.length ≤ 4398046511104) (hV : Lv w (.slice ab lf.length cb) lf) :
    Calls Tryd.prog 3 #[.agg #[.string pa, .slice aa la.length ca], .agg #[.string pb, .slice ab lf.length cb]] w fun r w' => r = .returned (.bool true) ∧ Below w.heap.size w w' := by
  have HP : Hid (∀ u, Below w.heap.size w u → PWt u) := fun u hu => tab_below hp hu
  have HL : Hid (∀ u, Below w.heap.size w u → Lt u (.slice aa la.length ca) la) := fun u hu => hL.below hu
  have HV : Hid (∀ u, Below w.heap.size w u → Lv u (.slice ab lf.length cb) lf) := fun u hu => hV.below hu
  have HWF : Hid (∀ t ∈ lf, t.wf) := hV.wf
  have HPA : Hid (pa.size ≤ maxLen) := hpa
  have HPB : Hid (pb.size ≤ maxLen) := hpb
  have BA := (Below.refl w.heap.size w).alloc (Nat.le_refl _) (.cells #[.string pa, .slice aa la.length ca] 24)
  have BB := BA.alloc BA.size (.cells #[.string pb, .slice ab lf.length cb] 27)
  have HRA : Hid (RL ((w.alloc (.cells #[.string pa, .slice aa la.length ca] 24)).alloc (.cells #[.string pb, .slice ab lf.length cb] 27)) w.heap.size 24 [.string pa, .slice aa la.length ca]) := (rl_new w #[.string pa, .slice aa la.length ca] 24).below ((Below.refl _ _).alloc (Nat.le_refl _) _)
  have HRF : Hid (RL ((w.alloc (.cells #[.string pa, .slice aa la.length ca] 24)).alloc (.cells #[.string pb, .slice ab lf.length cb] 27)) (w.heap.size + 1) 27 [.string pb, .slice ab lf.length cb]) := by
    have := rl_new (w.alloc (.cells #[.string pa, .slice aa la.length ca] 24)) #[.string pb, .slice ab lf.length cb] 27
    rw [World.size_alloc] at this
    exact this
  have HB0 : Hid (Below w.heap.size w _) := BB
  obtain ⟨r, hr⟩ : ∃ r, resM pa pb la lf = r := ⟨_, rfl⟩
  have HM1 : Hid (∀ u, Below w.heap.size w u → Calls Tryd.prog 4 #[.agg #[.string pa, .slice aa la.length ca], .agg #[.string pb, .slice ab lf.length cb]] u fun e w' => Told u.heap.size r e w' ∧ Below u.heap.size u w') := fun u hu => by
    have := rmatch_any pa pb _ _ la lf u hpa hpb (hL.below hu) (hV.below hu)
    rw [hr] at this
    exact this
  have HM2 : Hid (∀ u va vb, Lt u va la → Lv u vb lf → Calls Tryd.prog 7 #[.agg #[.string pa, va], .agg #[.string pb, vb]] u fun e w' => Told u.heap.size r e w' ∧ Below u.heap.size u w') := fun u va vb h1 h2 => by
    have := match_any pa pb va vb la lf u hpa hpb h1 h2
    rw [hr] at this
    exact this
  clear hp hL hV hpa hpb BA BB hr
  go_enter Tryd.func3, Tryd.ntmps3
  go_wp2_with fail
  refine Calls.mono (HM1.out _ HB0.out) ?_
  rintro e w1 ⟨⟨sv1, rfl, hs1⟩, b1⟩
  have B1 : Hid (Below w.heap.size w w1) := HB0.out.trans (b1.mono HB0.out.size)
  have RA1 : Hid (RL w1 w.heap.size 24 [.string pa, .slice aa la.length ca]) := RL.below HRA.out b1
  have RF1 : Hid (RL w1 (w.heap.size + 1) 27 [.string pb, .slice ab lf.length cb]) := RL.below HRF.out b1
  have S1 : Hid (Lb w1 sv1 (r.getD [])) := hs1
  clear b1 hs1 HRA HRF HB0 HM1
  have x0 := RA1.out.at (j := 0) rfl
  have x1 := RA1.out.at (j := 1) rfl
  go_wp2_with fail
  refine Calls.mono (twinAtom_any pa _ la w1 (HP.out _ B1.out) hla (HL.out _ B1.out)) ?_
  rintro e w2 ⟨a2, rfl, b2, t2⟩
  have G2 : Hid (∀ u, Below w2.heap.size w2 u → Below w1.heap.size w1 u) := fun u hu => b2.trans (hu.mono b2.size)
  have TT : Hid (∀ u, Below w2.heap.size w2 u → TwT u w1.heap.size la a2 (la.length + 1)) := fun u hu => t2.below hu
  have R7 : Hid (RL (w2.alloc (.cells #[.string pa, .slice a2 la.length (la.length + 1)] 24)) w2.heap.size 24 [.string pa, .slice a2 la.length (la.length + 1)]) := rl_new w2 #[.string pa, .slice a2 la.length (la.length + 1)] 24
  have B3 : Hid (Below w2.heap.size w2 (w2.alloc (.cells #[.string pa, .slice a2 la.length (la.length + 1)] 24))) := (Below.refl _ _).alloc (Nat.le_refl _) _
  clear x0 x1 b2 t2
  have RF3 : Hid (RL (w2.alloc (.cells #[.string pa, .slice a2 la.length (la.length + 1)] 24)) (w.heap.size + 1) 27 [.string pb, .slice ab lf.length cb]) := RL.below RF1.out (G2.out _ B3.out)
  go_upto_region 3 with fail
  generalize w2.alloc (.cells #[.string pa, .slice a2 la.length (la.length + 1)] 24) = W3 at R7 B3 RF3 ⊢
  have x0 := RF3.out.at (j := 0) rfl
  have x1 := RF3.out.at (j := 1) rfl
  have BW3 : Hid (Below w.heap.size w W3) := B1.out.trans ((G2.out _ B3.out).mono B1.out.size)
  go_wp2_with fail
  refine Calls.mono (twinFact_any pb _ lf.length _ _ _ W3 hlf (lst_of_lv (HV.out _ BW3.out))) ?_
  rintro e w4 ⟨b, rfl, b4, t4⟩
  have G4 : Hid (∀ u, Below w4.heap.size w4 u → Below W3.heap.size W3 u) := fun u hu => b4.trans (hu.mono b4.size)
  have TF : Hid (∀ u, Below w4.heap.size w4 u → Cells u b 0 (lf.length + 1) (markK lf.length (fun i => (atV lf i).k)) (markN lf.length (fun i => (atV lf i).n)) (markS lf.length (fun i => (atV lf i).s))) := fun u hu => t4.below hu
  have R8 : Hid (RL (w4.alloc (.cells #[.string pb, .slice (some ⟨b, 0, none⟩) lf.length (lf.length + 1)] 27)) w4.heap.size 27 [.string pb, .slice (some ⟨b, 0, none⟩) lf.length (lf.length + 1)]) := rl_new w4 #[.string pb, .slice (some ⟨b, 0, none⟩) lf.length (lf.length + 1)] 27
  have B5 : Hid (Below w4.heap.size w4 (w4.alloc (.cells #[.string pb, .slice (some ⟨b, 0, none⟩) lf.length (lf.length + 1)] 27))) := (Below.refl _ _).alloc (Nat.le_refl _) _
  clear x0 x1 b4 t4
  go_upto_region 4 with fail
  generalize w4.alloc (.cells #[.string pb, .slice (some ⟨b, 0, none⟩) lf.length (lf.length + 1)] 27) = W5 at R8 B5 ⊢
  have HU : Hid (∀ u, Below W5.heap.size W5 u → Below w4.heap.size w4 u ∧ Below W3.heap.size W3 u ∧ Below w2.heap.size w2 u ∧ Below w1.heap.size w1 u ∧ Below w.heap.size w u) := fun u hu => by
    have h4 := B5.out.trans (hu.mono B5.out.size)
    have h3 := G4.out _ h4
    have h2 := B3.out.trans (h3.mono B3.out.size)
    have h1 := G2.out _ h2
    exact ⟨h4, h3, h2, h1, B1.out.trans (h1.mono B1.out.size)⟩
  have HR7 : Hid (∀ u, Below W5.heap.size W5 u → RL u w2.heap.size 24 [.string pa, .slice a2 la.length (la.length + 1)]) := fun u hu => RL.below R7.out (HU.out u hu).2.1
  have HRA5 : Hid (∀ u, Below W5.heap.size W5 u → RL u w.heap.size 24 [.string pa, .slice aa la.length ca]) := fun u hu => RL.below RA1.out (HU.out u hu).2.2.2.1
  have HRF5 : Hid (∀ u, Below W5.heap.size W5 u → RL u (w.heap.size + 1) 27 [.string pb, .slice ab lf.length cb]) := fun u hu => RL.below RF1.out (HU.out u hu).2.2.2.1
  have HS5 : Hid (∀ u, Below W5.heap.size W5 u → Lb u sv1 (r.getD [])) := fun u hu => S1.out.below (HU.out u hu).2.2.2.1
  have HT5 : Hid (∀ u, Below W5.heap.size W5 u → TwT u w1.heap.size la a2 (la.length + 1)) := fun u hu => TT.out _ (HU.out u hu).2.2.1
  have HF5 : Hid (∀ u, Below W5.heap.size W5 u → Cells u b 0 (lf.length + 1) (markK lf.length (fun i => (atV lf i).k)) (markN lf.length (fun i => (atV lf i).n)) (markS lf.length (fun i => (atV lf i).s))) := fun u hu => TF.out _ (HU.out u hu).1
  clear TT TF S1 RA1 RF1 RF3 R7 B3 B5 G2 G4 B1 BW3
  have hR5 : Below W5.heap.size W5 W5 := Below.refl _ _
  have x0 := (HR7.out _ hR5).at (j := 0) rfl
  have x1 := (HR7.out _ hR5).at (j := 1) rfl
  have y0 := R8.out.at (j := 0) rfl
  have y1 := R8.out.at (j := 1) rfl
  have HMM : Hid _ := HM2.out W5 _ _ ((HT5.out _ hR5).lt (HL.out _ (HU.out _ hR5).2.2.2.2) hla) (lv_of_marks (HF5.out _ hR5) (by unfold maxLen; omega) HWF.out)
  clear HM2
  go_wp2_with fail
  refine Calls.mono HMM.out ?_
  rintro e w6 ⟨⟨sv2, rfl, hs2⟩, b6⟩
  clear x0 x1 y0 y1 HMM
  have HSM : Hid _ := sameBinds_same sv2 sv1 (r.getD []) w6 hs2 (HS5.out _ b6)
  have HR8 : Hid (∀ u, Below w6.heap.size w6 u → Below W5.heap.size W5 u ∧ RL u w4.heap.size 27 [.string pb, .slice (some ⟨b, 0, none⟩) lf.length (lf.length + 1)]) := fun u hu => ⟨b6.trans (hu.mono b6.size), RL.below (RL.below R8.out b6) hu⟩
  clear hs2 b6 R8
  generalize r.isSome = bo
  go_wp2_with (first
    | (go_at_call 8; refine Calls.mono HSM.out ?_; rintro e w7 ⟨rfl, b7⟩; obtain ⟨u7, -⟩ := HR8.out w7 b7; have p0 := (HR7.out _ u7).at (j := 0) rfl; have p1 := (HR7.out _ u7).at (j := 1) rfl; have q0 := (HRA5.out _ u7).at (j := 0) rfl; have q1 := (HRA5.out _ u7).at (j := 1) rfl)
    | (go_at_call 9; refine Calls.mono (leftAtom_any pa la a2 aa (la.length + 1) ca w1.heap.size _ hla (HP.out _ (HU.out _ u7).2.2.2.2) (HT5.out _ u7) (HL.out _ (HU.out _ u7).2.2.2.2)) ?_; rintro e w8 ⟨rfl, b8⟩; have b8' := b7.trans (b8.mono b7.size); obtain ⟨u8, f8⟩ := HR8.out w8 b8'; have p0' := f8.at (j := 0) rfl; have p1' := f8.at (j := 1) rfl; have q0' := (HRF5.out _ u8).at (j := 0) rfl; have q1' := (HRF5.out _ u8).at (j := 1) rfl)
    | (go_at_call 10; refine Calls.mono (leftFact_true pb _ b lf.length _ _ _ _ hlf (HF5.out _ u8) (lst_of_lv (HV.out _ (HU.out _ u8).2.2.2.2))) ?_; rintro e w9 ⟨rfl, b9⟩))
  go_ret
  exact ⟨rfl, (HU.out _ (u8.trans (b9.mono u8.size))).2.2.2.2⟩
end Go.Proofs.YthffncfnjaecdaaDoor
