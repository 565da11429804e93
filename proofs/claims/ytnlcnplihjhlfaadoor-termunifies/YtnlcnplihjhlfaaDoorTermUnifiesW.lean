import Derived.Test.YtnlcnplihjhlfaaDoorTermUniR
import Derived.Test.YtnlcnplihjhlfaaDoorLitTwin
namespace Go.Proofs.YtnlcnplihjhlfaaDoor
open Go.RowKit Go.Maps
set_option linter.unusedVariables false
set_option linter.unusedSimpArgs false
attribute [local go_sem ↓] Go.wp_at_zero Go.wp_at_succ

theorem runify_any (pa pb : ByteArray) (va vb : Value) (la lb : List T) (w : World) (hpa : pa.size ≤ maxLen) (hpb : pb.size ≤ maxLen) (ha : Lt w va la) (hb : Lt w vb lb) :
    Calls Tryd.prog 4 #[.agg #[.string pa, va], .agg #[.string pb, vb]] w fun e w' => ToldP (uniA pa pb la lb) e w' ∧ Below w.heap.size w w' := by
  by_cases h : pa = pb ∧ la.length = lb.length ∧ atomB pa la = true ∧ atomB pb lb = true
  · have e : uniA pa pb la lb = uni [] la lb := if_pos h
    rw [e]
    obtain ⟨rfl, h2, h3, h4⟩ := h
    exact runify_yes pa va vb la lb w hpa ha hb h2 h3 h4
  · rw [uniA_no h]
    refine (runify_no pa pb va vb la lb w hpa hpb ha hb h).mono ?_
    rintro e w' ⟨rfl, h2⟩
    exact ⟨⟨_, rfl, lp_nil w'⟩, h2⟩
theorem unify_any (pa pb : ByteArray) (va vb : Value) (la lb : List T) (w : World) (hpa : pa.size ≤ maxLen) (hpb : pb.size ≤ maxLen) (ha : Lt w va la) (hb : Lt w vb lb) :
    Calls Tryd.prog 6 #[.agg #[.string pa, va], .agg #[.string pb, vb]] w fun e w' => ToldP (uniA pa pb la lb) e w' ∧ Below w.heap.size w w' := by
  by_cases h : pa = pb ∧ la.length = lb.length ∧ atomB pa la = true ∧ atomB pb lb = true
  · have e : uniA pa pb la lb = uni [] la lb := if_pos h
    rw [e]
    obtain ⟨rfl, h2, h3, h4⟩ := h
    exact (unify_yes pa va vb la lb w hpa ha hb h2 h3 h4).mono fun e w' ⟨h1, h2⟩ => ⟨toldP_of h1, h2⟩
  · rw [uniA_no h]
    refine (unify_no pa pb va vb la lb w hpa hpb ha hb h).mono ?_
    rintro e w' ⟨rfl, h2⟩
    exact ⟨⟨_, rfl, lp_nil w'⟩, h2⟩
set_option maxHeartbeats 3200000 in
theorem termUnifies_walk (pa : ByteArray) (la : List T) (aa : Option Addr) (ca : Nat) (pb : ByteArray) (lb : List T) (ab : Option Addr) (cb : Nat) (w : World) (hp : PWt w) (hpa : pa.size ≤ maxLen) (hla : la.length ≤ 4398046511104) (hL : Lt w (.slice aa la.length ca) la) (hpb : pb.size ≤ maxLen) (hlb : lb.length ≤ 4398046511104) (hV : Lt w (.slice ab lb.length cb) lb) :
    Calls Tryd.prog 3 #[.agg #[.string pa, .slice aa la.length ca], .agg #[.string pb, .slice ab lb.length cb]] w fun r w' => r = .returned (.bool true) ∧ Below w.heap.size w w' := by
  have HP : Hid (∀ u, Below w.heap.size w u → PWt u) := fun u hu => tab_below hp hu
  have HL : Hid (∀ u, Below w.heap.size w u → Lt u (.slice aa la.length ca) la) := fun u hu => hL.below hu
  have HV : Hid (∀ u, Below w.heap.size w u → Lt u (.slice ab lb.length cb) lb) := fun u hu => hV.below hu
  have BA := (Below.refl w.heap.size w).alloc (Nat.le_refl _) (.cells #[.string pa, .slice aa la.length ca] 24)
  have BB := BA.alloc BA.size (.cells #[.string pb, .slice ab lb.length cb] 24)
  have HRA : Hid (RL ((w.alloc (.cells #[.string pa, .slice aa la.length ca] 24)).alloc (.cells #[.string pb, .slice ab lb.length cb] 24)) w.heap.size 24 [.string pa, .slice aa la.length ca]) := (rl_new w #[.string pa, .slice aa la.length ca] 24).below ((Below.refl _ _).alloc (Nat.le_refl _) _)
  have HRF : Hid (RL ((w.alloc (.cells #[.string pa, .slice aa la.length ca] 24)).alloc (.cells #[.string pb, .slice ab lb.length cb] 24)) (w.heap.size + 1) 24 [.string pb, .slice ab lb.length cb]) := by
    have := rl_new (w.alloc (.cells #[.string pa, .slice aa la.length ca] 24)) #[.string pb, .slice ab lb.length cb] 24
    rw [World.size_alloc] at this
    exact this
  have HB0 : Hid (Below w.heap.size w _) := BB
  obtain ⟨r, hr⟩ : ∃ r, uniA pa pb la lb = r := ⟨_, rfl⟩
  have HM1 : Hid (∀ u, Below w.heap.size w u → Calls Tryd.prog 4 #[.agg #[.string pa, .slice aa la.length ca], .agg #[.string pb, .slice ab lb.length cb]] u fun e w' => ToldP r e w' ∧ Below u.heap.size u w') := fun u hu => by
    have := runify_any pa pb _ _ la lb u hpa hpb (hL.below hu) (hV.below hu)
    rw [hr] at this
    exact this
  have HM2 : Hid (∀ u va vb, Lt u va la → Lt u vb lb → Calls Tryd.prog 6 #[.agg #[.string pa, va], .agg #[.string pb, vb]] u fun e w' => ToldP r e w' ∧ Below u.heap.size u w') := fun u va vb h1 h2 => by
    have := unify_any pa pb va vb la lb u hpa hpb h1 h2
    rw [hr] at this
    exact this
  clear hp hL hV hpa hpb BA BB hr
  go_enter Tryd.func3, Tryd.ntmps3
  go_wp2_with fail
  refine Calls.mono (HM1.out _ HB0.out) ?_
  rintro e w1 ⟨⟨sv1, rfl, hs1⟩, b1⟩
  have B1 : Hid (Below w.heap.size w w1) := HB0.out.trans (b1.mono HB0.out.size)
  have RA1 : Hid (RL w1 w.heap.size 24 [.string pa, .slice aa la.length ca]) := RL.below HRA.out b1
  have RF1 : Hid (RL w1 (w.heap.size + 1) 24 [.string pb, .slice ab lb.length cb]) := RL.below HRF.out b1
  have S1 : Hid (Lp w1 sv1 (r.getD [])) := hs1
  clear b1 hs1 HRA HRF HB0 HM1
  have x0 := RA1.out.at (j := 0) rfl
  have x1 := RA1.out.at (j := 1) rfl
  go_wp2_with fail
  refine Calls.mono (twinAtom_any pa _ la w1 (HP.out _ B1.out) hla (HL.out _ B1.out)) ?_
  rintro e w2 ⟨a2, rfl, b2, t2⟩
  have G2 : Hid (∀ u, Below w2.heap.size w2 u → Below w1.heap.size w1 u) := fun u hu => b2.trans (hu.mono b2.size)
  have TT : Hid (∀ u, Below w2.heap.size w2 u → TwT u w1.heap.size la a2 (la.length + 1)) := fun u hu => t2.below hu
  have R7 : Hid (RL (w2.alloc (.cells #[.string pa, .slice a2 la.length (la.length + 1)] 24)) w2.heap.size 24 [.string pa, .slice a2 la.length (la.length + 1)]) := rl_new w2 #[.string pa, .slice a2 la.length (la.length + 1)] 24
  have B3 : Hid (Below w2.heap.size w2 (w2.alloc (.cells #[.string pa, .slice a2 la.length (la.length + 1)] 24))) := (Below.refl _ _).alloc (Nat.le_refl _) _
  clear x0 x1 b2 t2
  have RF3 : Hid (RL (w2.alloc (.cells #[.string pa, .slice a2 la.length (la.length + 1)] 24)) (w.heap.size + 1) 24 [.string pb, .slice ab lb.length cb]) := RL.below RF1.out (G2.out _ B3.out)
  go_upto_region 3 with fail
  generalize w2.alloc (.cells #[.string pa, .slice a2 la.length (la.length + 1)] 24) = W3 at R7 B3 RF3 ⊢
  have x0 := RF3.out.at (j := 0) rfl
  have x1 := RF3.out.at (j := 1) rfl
  have BW3 : Hid (Below w.heap.size w W3) := B1.out.trans ((G2.out _ B3.out).mono B1.out.size)
  go_wp2_with fail
  refine Calls.mono (twinAtom_any pb _ lb W3 (HP.out _ BW3.out) hlb (HV.out _ BW3.out)) ?_
  rintro e w4 ⟨a4, rfl, b4, t4⟩
  have G4 : Hid (∀ u, Below w4.heap.size w4 u → Below W3.heap.size W3 u) := fun u hu => b4.trans (hu.mono b4.size)
  have TF : Hid (∀ u, Below w4.heap.size w4 u → TwT u W3.heap.size lb a4 (lb.length + 1)) := fun u hu => t4.below hu
  have R8 : Hid (RL (w4.alloc (.cells #[.string pb, .slice a4 lb.length (lb.length + 1)] 24)) w4.heap.size 24 [.string pb, .slice a4 lb.length (lb.length + 1)]) := rl_new w4 #[.string pb, .slice a4 lb.length (lb.length + 1)] 24
  have B5 : Hid (Below w4.heap.size w4 (w4.alloc (.cells #[.string pb, .slice a4 lb.length (lb.length + 1)] 24))) := (Below.refl _ _).alloc (Nat.le_refl _) _
  clear x0 x1 b4 t4
  go_upto_region 4 with fail
  generalize w4.alloc (.cells #[.string pb, .slice a4 lb.length (lb.length + 1)] 24) = W5 at R8 B5 ⊢
  have HU : Hid (∀ u, Below W5.heap.size W5 u → Below w4.heap.size w4 u ∧ Below W3.heap.size W3 u ∧ Below w2.heap.size w2 u ∧ Below w1.heap.size w1 u ∧ Below w.heap.size w u) := fun u hu => by
    have h4 := B5.out.trans (hu.mono B5.out.size)
    have h3 := G4.out _ h4
    have h2 := B3.out.trans (h3.mono B3.out.size)
    have h1 := G2.out _ h2
    exact ⟨h4, h3, h2, h1, B1.out.trans (h1.mono B1.out.size)⟩
  have HR7 : Hid (∀ u, Below W5.heap.size W5 u → RL u w2.heap.size 24 [.string pa, .slice a2 la.length (la.length + 1)]) := fun u hu => RL.below R7.out (HU.out u hu).2.1
  have HRA5 : Hid (∀ u, Below W5.heap.size W5 u → RL u w.heap.size 24 [.string pa, .slice aa la.length ca]) := fun u hu => RL.below RA1.out (HU.out u hu).2.2.2.1
  have HRF5 : Hid (∀ u, Below W5.heap.size W5 u → RL u (w.heap.size + 1) 24 [.string pb, .slice ab lb.length cb]) := fun u hu => RL.below RF1.out (HU.out u hu).2.2.2.1
  have HS5 : Hid (∀ u, Below W5.heap.size W5 u → Lp u sv1 (r.getD [])) := fun u hu => S1.out.below (HU.out u hu).2.2.2.1
  have HT5 : Hid (∀ u, Below W5.heap.size W5 u → TwT u w1.heap.size la a2 (la.length + 1)) := fun u hu => TT.out _ (HU.out u hu).2.2.1
  have HF5 : Hid (∀ u, Below W5.heap.size W5 u → TwT u W3.heap.size lb a4 (lb.length + 1)) := fun u hu => TF.out _ (HU.out u hu).1
  clear TT TF S1 RA1 RF1 RF3 R7 B3 B5 G2 G4 B1 BW3
  have hR5 : Below W5.heap.size W5 W5 := Below.refl _ _
  have x0 := (HR7.out _ hR5).at (j := 0) rfl
  have x1 := (HR7.out _ hR5).at (j := 1) rfl
  have y0 := R8.out.at (j := 0) rfl
  have y1 := R8.out.at (j := 1) rfl
  have HMM : Hid _ := HM2.out W5 _ _ ((HT5.out _ hR5).lt (HL.out _ (HU.out _ hR5).2.2.2.2) hla) ((HF5.out _ hR5).lt (HV.out _ (HU.out _ hR5).2.2.2.2) hlb)
  clear HM2
  go_wp2_with fail
  refine Calls.mono HMM.out ?_
  rintro e w6 ⟨⟨sv2, rfl, hs2⟩, b6⟩
  clear x0 x1 y0 y1 HMM
  have HSM : Hid _ := samePairs_same sv2 sv1 (r.getD []) w6 hs2 (HS5.out _ b6)
  have HR8 : Hid (∀ u, Below w6.heap.size w6 u → Below W5.heap.size W5 u ∧ RL u w4.heap.size 24 [.string pb, .slice a4 lb.length (lb.length + 1)]) := fun u hu => ⟨b6.trans (hu.mono b6.size), RL.below (RL.below R8.out b6) hu⟩
  clear hs2 b6 R8
  generalize r.isSome = bo
  have HK1 : Hid (∀ u, Below W5.heap.size W5 u → Calls Tryd.prog 8 #[.agg #[.string pa, .slice a2 la.length (la.length + 1)], .agg #[.string pa, .slice aa la.length ca]] u fun r w' => r = .returned (.bool true) ∧ Below u.heap.size u w') := fun u hu => leftAtom_any pa la a2 aa (la.length + 1) ca w1.heap.size _ hla (HP.out _ (HU.out _ hu).2.2.2.2) (HT5.out _ hu) (HL.out _ (HU.out _ hu).2.2.2.2)
  have HK2 : Hid (∀ u, Below W5.heap.size W5 u → Calls Tryd.prog 8 #[.agg #[.string pb, .slice a4 lb.length (lb.length + 1)], .agg #[.string pb, .slice ab lb.length cb]] u fun r w' => r = .returned (.bool true) ∧ Below u.heap.size u w') := fun u hu => leftAtom_any pb lb a4 ab (lb.length + 1) cb W3.heap.size _ hlb (HP.out _ (HU.out _ hu).2.2.2.2) (HF5.out _ hu) (HV.out _ (HU.out _ hu).2.2.2.2)
  go_wp2_with fail
  refine Calls.mono HSM.out ?_
  rintro e w7 ⟨rfl, b7⟩
  obtain ⟨u7, -⟩ := HR8.out w7 b7
  have p0 := (HR7.out _ u7).at (j := 0) rfl
  have p1 := (HR7.out _ u7).at (j := 1) rfl
  have q0 := (HRA5.out _ u7).at (j := 0) rfl
  have q1 := (HRA5.out _ u7).at (j := 1) rfl
  go_wp2_with fail
  refine Calls.mono (HK1.out _ u7) ?_
  rintro e w8 ⟨rfl, b8⟩
  have b8' := b7.trans (b8.mono b7.size)
  obtain ⟨u8, f8⟩ := HR8.out w8 b8'
  clear p0 p1 q0 q1
  have p0 := f8.at (j := 0) rfl
  have p1 := f8.at (j := 1) rfl
  have q0 := (HRF5.out _ u8).at (j := 0) rfl
  have q1 := (HRF5.out _ u8).at (j := 1) rfl
  go_wp2_with fail
  refine Calls.mono (HK2.out _ u8) ?_
  rintro e w9 ⟨rfl, b9⟩
  go_wp2
  go_ret
  exact ⟨rfl, (HU.out _ (u8.trans (b9.mono u8.size))).2.2.2.2⟩
end Go.Proofs.YtnlcnplihjhlfaaDoor
