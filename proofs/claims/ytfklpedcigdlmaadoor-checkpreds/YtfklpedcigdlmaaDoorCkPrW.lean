import Derived.Test.YtfklpedcigdlmaaDoorPgTw
namespace Go.Proofs.YtfklpedcigdlmaaDoor
open Go.RowKit Go.Maps
set_option linter.unusedVariables false
set_option linter.unusedSimpArgs false
attribute [local go_sem ↓] Go.wp_at_zero Go.wp_at_succ

theorem stR_map (r : R3) : stR r = ⟨r.pr, r.hd.length⟩ :: (r.bd.map XL.x).flatMap (fun x => if x.k = 1 ∨ x.k = 2 then [⟨x.pr, x.ts.length⟩] else []) := by
  unfold stR
  rw [List.flatMap_map]
  rfl
theorem LikeR.st {r s : R3} (h : LikeR r s) : stR s = stR r := by
  rw [stR_map, stR_map, h.map, h.pr, h.hd]
theorem map_likeR {β : Type} {l l' : List XR} (f : R3 → β) (hl : l'.length = l.length) (hx : ∀ i, i < l.length → f (atR l' i).r = f (atR l i).r) : l'.map (fun y => f y.r) = l.map (fun y => f y.r) := by
  refine List.ext_getElem (by simp [hl]) fun i h1 h2 => ?_
  simp only [List.length_map] at h1 h2
  have := hx i h2
  rw [atR_eq h1, atR_eq h2] at this
  simpa using this
theorem map_likeF {β : Type} {l l' : List XF} (f : XF → β) (hl : l'.length = l.length) (hx : ∀ i, i < l.length → f (atF l' i) = f (atF l i)) : l'.map f = l.map f := by
  refine List.ext_getElem (by simp [hl]) fun i h1 h2 => ?_
  simp only [List.length_map] at h1 h2
  have := hx i h2
  rw [atF_eq h1, atF_eq h2] at this
  simpa using this
theorem ps_map (rs : List XR) (fs : List XF) : psS rs fs = (rs.map (fun y => stR y.r)).flatMap id ++ fs.map pdF := by
  unfold psS
  rw [List.flatMap_map]
  rfl
theorem ps_same {l l' : List XR} {m m' : List XF} (hl : l'.length = l.length) (hx : ∀ i, i < l.length → LikeR (atR l i).r (atR l' i).r) (hm : m'.length = m.length) (hy : ∀ i, i < m.length → LikeF (atF m i) (atF m' i)) : psS l' m' = psS l m := by
  rw [ps_map, ps_map, map_likeR stR hl (fun i hi => (hx i hi).st), map_likeF pdF hm (fun i hi => by unfold pdF; rw [(hy i hi).pr, (hy i hi).vs])]
theorem bd_terms (d : Nat) : ∀ l : List XL, l.length ≤ (l.flatMap (fun y => termsL (d + 1) y.x)).length
  | [] => Nat.le_refl _
  | y :: l => by
    have := bd_terms d l
    rw [List.flatMap_cons, List.length_append, List.length_cons]
    have h2 : 1 ≤ (termsL (d + 1) y.x).length := by
      unfold termsL
      rw [termsD_succ]
      simp only [List.length_append, List.length_cons]
      omega
    omega
theorem ps_len (d : Nat) : ∀ (rs : List XR) (fs : List XF), (psS rs fs).length ≤ rs.length + (rs.flatMap (fun y => termsR (d + 1) y.r)).length + fs.length
  | [], fs => by unfold psS; simp
  | y :: rs, fs => by
    have h1 := ps_len d rs fs
    unfold psS at h1 ⊢
    rw [List.length_append] at h1 ⊢
    rw [List.flatMap_cons, List.flatMap_cons, List.length_append, List.length_append, List.length_cons]
    have h2 := stR_len y.r
    have h3 := bd_terms d y.r.bd
    have h4 : (y.r.bd.flatMap (fun z => termsL (d + 1) z.x)).length ≤ (termsR (d + 1) y.r).length := by unfold termsR; rw [List.length_append]; omega
    omega
theorem TwS.lrJ {w w0 : World} {lo d : Nat} {l l' : List XR} {a : Option Addr} {c : Nat} {v : Value} (h : TwS w lo d l' a c) (hl : l'.length = l.length) (hx : ∀ i, i < l.length → LikeR (atR l i).r (atR l' i).r) (h0 : Lr w0 v d l) (hs : smallS d l) : Lr w (.slice a l'.length c) d l' := by
  have hcap := h.cap
  obtain ⟨g, ha, hg, _, hk⟩ := h.range
  have hll := hs.len
  refine ⟨?_, fun i hi => ?_⟩
  · rw [ha, hcap]
    exact ls_of_range (f := XR.cells) (k := 3) (by omega) (fun _ => rfl) XR0 (by omega) (by unfold maxLen; omega) hg hk
  · have hi' : i < l.length := by omega
    exact (h.each i hi).is (hx i hi') (h0.each i hi') (hs.each i hi')
theorem TwG.lfJ {u w0 : World} {lo : Nat} {l l' : List XF} {a : Option Addr} {c : Nat} {v : Value} (h : TwG u lo l' a c) (h0 : Lf w0 v l) (hs : smallF l) (hl' : l'.length = l.length) (hx' : ∀ i, i < l.length → LikeF (atF l i) (atF l' i)) : Lf u (.slice a l'.length c) l' := by
  have hc := h.cap
  obtain ⟨g, rfl, hg, _, hks⟩ := h.range
  subst hc
  exact ⟨ls_of_range (f := XF.cells) (k := 2) (by omega) (fun _ => rfl) XF0 (by omega) (by have := hs.len; unfold maxLen; omega) hg hks, fun i hi => TwF.is (h.each i hi) (hx' i (by omega)) (h0.each i (by omega)) (hs.each i (by omega))⟩
set_option maxHeartbeats 800000 in
theorem beyondJob_any (d : Nat) (v u : Value) (l : List XR) (m : List XF) (w : World) (hll : l.length ≤ 281474976710656) (hlm : m.length ≤ 281474976710656) (hL : Lr w v d l) (hM : Lf w u m) :
    Calls Tryd.prog 4 #[v, u] w fun e w' => ∃ b : Bool, e = .returned (.bool b) ∧ Below w.heap.size w w' ∧ (b = false → smallS d l ∧ smallF m) := by
  have HR : Hid _ := beyondRules_any d v l w hll hL
  have HF : Hid (∀ w', Below w.heap.size w w' → Calls Tryd.prog 13 #[u] w' fun e w2 => ∃ b : Bool, e = .returned (.bool b) ∧ Below w'.heap.size w' w2 ∧ (b = false → smallF m)) := fun w' hb => beyondFacts_any u m w' hlm (hM.below hb)
  obtain ⟨a, c, rfl, hc1, hc2, -⟩ := hL.form
  obtain ⟨a2, c2, rfl, hd1, hd2, -⟩ := hM.form
  clear hL hM
  go_enter Tryd.func4, Tryd.ntmps4
  go_wp2_with fail
  refine Calls.mono HR.out ?_
  rintro e w1 ⟨b, rfl, b1, hs⟩
  have HS : Hid _ := hs
  have HB1 : Hid _ := b1
  clear hs b1
  cases b
  · go_wp2_with fail
    refine Calls.mono (HF.out _ HB1.out) ?_
    rintro e w2 ⟨b2, rfl, b2', hs2⟩
    have HS2 : Hid _ := hs2
    clear hs2
    go_wp2
    go_ret
    exact ⟨b2, rfl, HB1.out.trans (b2'.mono HB1.out.size), fun h => ⟨HS.out (by first | rfl | trivial), HS2.out h⟩⟩
  · go_wp2
    go_ret
    exact ⟨true, rfl, HB1.out, fun h => by cases h⟩
attribute [-go_sem] loadVar storeVar
/-- what one side's Preds comes to: predicates and an error -/
def EndP (o : Option (List Pd)) (r : List Pd) (er : Int) : Prop := (er = 0 ∧ ∃ s, o = some s ∧ r.Perm s ∧ Up r) ∨ (er = 72 ∧ o = none ∧ r = [])
theorem RpP.one {B : Nat} {w w' : World} {l : List Pd} {e : Ending} (h : RpP B w (meetL [] l) e w') : ∃ sv r er, e = .returned (.tuple #[sv, .int .i64 er]) ∧ Ls w' sv r.length (r.flatMap Pd.cells) ∧ EndP (meetL [] l) r er ∧ Below B w w' := by
  obtain ⟨b, ⟨r, sv, ho, he, hl⟩ | ⟨ho, he⟩⟩ := h
  · refine ⟨sv, r, 0, he, hl, .inl ⟨rfl, r, ho, List.Perm.refl _, ?_⟩, b⟩
    have := both_meet l [] [] (List.Perm.refl _) List.Pairwise.nil
    rw [ho] at this
    generalize letL [] l = o at this
    cases this with
    | some _ hu => exact hu
  · exact ⟨_, [], 72, he, ls_nilP w', .inr ⟨rfl, ho, rfl⟩, b⟩
theorem PsP.one {B : Nat} {w w' : World} {o : Option (List Pd)} {e : Ending} (h : PsP B w o e w') : ∃ sv r er, e = .returned (.tuple #[sv, .int .i64 er]) ∧ Ls w' sv r.length (r.flatMap Pd.cells) ∧ EndP o r er ∧ Below B w w' := by
  obtain ⟨b, ⟨s, a, c, r, ho, he, hp, hu, hl⟩ | ⟨ho, he⟩⟩ := h
  · exact ⟨_, r, 0, he, ls_own hl, .inl ⟨rfl, s, ho, hp, hu⟩, b⟩
  · exact ⟨_, [], 72, he, ls_nilP w', .inr ⟨rfl, ho, rfl⟩, b⟩
theorem endP_one {l r r' : List Pd} {er er' : Int} (h : EndP (letL [] l) r er) (h' : EndP (meetL [] l) r' er') : er' = er ∧ r' = r := by
  have hb := both_meet l [] [] (List.Perm.refl _) List.Pairwise.nil
  rcases h with ⟨h1, s, h2, h3, h4⟩ | ⟨h1, h2, h3⟩ <;> rcases h' with ⟨k1, s', k2, k3, k4⟩ | ⟨k1, k2, k3⟩
  · rw [h2, k2] at hb
    cases hb with
    | some hp hu => exact ⟨by rw [h1, k1], up_unique _ _ (k3.trans (hp.symm.trans h3.symm)) k4 h4⟩
  · rw [h2, k2] at hb
    cases hb
  · rw [h2, k2] at hb
    cases hb
  · exact ⟨by rw [h1, k1], by rw [h3, k3]⟩
theorem load_pg {u : World} {b : Nat} {v : Value} (h : RL u b 24 [v]) : (loadVar 24 ⟨b, 0, none⟩).run Tryd.prog u = .ok (.agg #[v]) u :=
  run_loadVar_mid _ _ 0 24 [v] _ (RL.range h) Tryd.underlying24 rfl (by kernel_rfl)
theorem store_pg (u : World) (a : Option Addr) (n c : Nat) : (storeVar 24 ⟨u.heap.size, 0, none⟩ (.agg #[.slice a n c])).run Tryd.prog (u.alloc (.cells #[.slice none 0 0] 24)) = .ok () (u.alloc (.cells #[.slice a n c] 24)) :=
  run_storeVar_new u 24 #[.slice none 0 0] #[.slice a n c] (by kernel_rfl) rfl (by simp [Value.oneCell'])
set_option maxHeartbeats 6400000 in
theorem checkPreds_walk (d : Nat) (l : List XR) (a : Option Addr) (c : Nat) (m : List XF) (a2 : Option Addr) (c2 : Nat) (w : World) (hG : PWt w) (hl : l.length ≤ 281474976710656) (hL : Lr w (.slice a l.length c) (d + 1) l) (hm : m.length ≤ 281474976710656) (hM : Lf w (.slice a2 m.length c2) m) :
    Calls Tryd.prog 3 #[.agg #[.slice a l.length c], .slice a2 m.length c2] w fun r w' => r = .returned (.bool true) ∧ Below w.heap.size w w' := by
  have BA := belowA (w := w) (.cells #[.slice a l.length c] 24)
  have HR0 := Lib.hid (rl_new w #[.slice a l.length c] 24)
  have HL0 := Lib.hid (hL.below BA)
  have HM0 := Lib.hid (hM.below BA)
  have HG0 := Lib.hid (tab_below hG BA)
  have HLw := Lib.hid hL
  have HMw := Lib.hid hM
  have hz : (w.alloc (.cells #[.slice a l.length c] 24)).heap.size = w.heap.size + 1 := by simp
  have HBA := Lib.hid BA
  have hf0 : (loadVar 22 ⟨w.heap.size, 0, none⟩).run Tryd.prog (w.alloc (.cells #[.slice a l.length c] 24)) = .ok (.slice a l.length c) _ := load_rules (HR0.out.at (j := 0) rfl)
  have HB := Lib.hid (beyondJob_any (d + 1) _ _ l m _ hl hm HL0.out HM0.out)
  clear hG hL hM BA
  go_enter Tryd.func3, Tryd.ntmps3
  go_wp2_with fail
  clear hf0
  generalize w.alloc (.cells #[.slice a l.length c] 24) = W0 at HR0 HL0 HM0 HG0 HB hz HBA ⊢
  refine HB.out.mono ?_
  rintro e w1 ⟨b, rfl, b1, hs⟩
  have HS := Lib.hid hs
  have B1 : Hid (Below W0.heap.size W0 w1) := b1
  have HL : Hid (∀ u, Below W0.heap.size W0 u → Lr u (.slice a l.length c) (d + 1) l) := fun u hu => HL0.out.below hu
  have HM : Hid (∀ u, Below W0.heap.size W0 u → Lf u (.slice a2 m.length c2) m) := fun u hu => HM0.out.below hu
  have HG : Hid (∀ u, Below W0.heap.size W0 u → PWt u) := fun u hu => tab_below HG0.out hu
  have HLD : Hid (∀ u, Below W0.heap.size W0 u → (loadVar 24 ⟨w.heap.size, 0, none⟩).run Tryd.prog u = .ok (.agg #[.slice a l.length c]) u) := fun u hu => load_pg (RL.below HR0.out hu)
  clear hs HB b1 HL0 HM0 HG0 HR0
  cases b
  · obtain ⟨hsS, hsF⟩ := HS.out (by first | rfl | trivial)
    have HSS := Lib.hid hsS
    have HSF := Lib.hid hsF
    have HPL : Hid ((psS l m).length ≤ 100000000) := by
      have h1 := ps_len d l m
      have h2 := HSS.out.len
      have h3 := HSS.out.terms
      have h4 := HSF.out.len
      show _ ≤ _
      omega
    have hl1 := HLD.out w1 B1.out
    have HT := Lib.hid (rpreds_any (d + 1) l m a c _ w1 (HL.out w1 B1.out) (HM.out w1 B1.out) (fun i hi => (HSS.out.each i hi).bd) HPL.out)
    clear HS hsS hsF
    go_wp2_with fail
    clear hl1
    refine HT.out.mono ?_
    rintro e w2 hq
    obtain ⟨sv, r, er, rfl, hls, hen, b2⟩ := hq.one
    have B2 : Hid (Below W0.heap.size W0 w2) := B1.out.trans (b2.mono B1.out.size)
    have HLS := Lib.hid hls
    have HEN := Lib.hid hen
    have hl2 := HLD.out w2 B2.out
    have HU := Lib.hid (twinProgram_any (d + 1) a c l w2 (HG.out w2 B2.out) HSS.out.len HSS.out.each (HL.out w2 B2.out))
    clear hq hls hen b2 HT
    go_wp2_with fail
    clear hl2
    refine HU.out.mono ?_
    rintro e w3 ⟨a', l', rfl, b3, hl2, hx2, hw2⟩
    have B3 : Hid (Below W0.heap.size W0 w3) := B2.out.trans (b3.mono B2.out.size)
    have HL2 : Hid (l'.length = l.length) := hl2
    have HX2 := Lib.hid hx2
    have hst := store_pg w3 a' l.length (l.length + 1)
    have BP := belowA (w := w3) (.cells #[.slice a' l.length (l.length + 1)] 24)
    have HRP := Lib.hid (rl_new w3 #[.slice a' l.length (l.length + 1)] 24)
    have HW2 := Lib.hid (hw2.below BP)
    have HLS3 := Lib.hid ((HLS.out.below b3).below BP)
    have hzP : (w3.alloc (.cells #[.slice a' l.length (l.length + 1)] 24)).heap.size = w3.heap.size + 1 := by simp
    have B4 : Hid (Below W0.heap.size W0 (w3.alloc (.cells #[.slice a' l.length (l.length + 1)] 24))) := B3.out.trans (BP.mono B3.out.size)
    clear b3 hl2 hx2 hw2 HU BP HLS
    generalize w3.alloc (.cells #[.slice a' l.length (l.length + 1)] 24) = W4 at hst HRP HW2 HLS3 hzP B4
    have HF := Lib.hid (twinFs_any _ m W4 (HG.out W4 B4.out) HSF.out.len HSF.out.each (HM.out W4 B4.out))
    go_wp2_with fail
    clear hst
    refine HF.out.mono ?_
    rintro e w5 ⟨a3, m', rfl, b5, hm3, hy3, hw3⟩
    have B5 : Hid (Below W0.heap.size W0 w5) := B4.out.trans (b5.mono B4.out.size)
    have HM3 : Hid (m'.length = m.length) := hm3
    have HY3 := Lib.hid hy3
    have HW3 := Lib.hid hw3
    have HW2b := Lib.hid (HW2.out.below b5)
    have HLS5 := Lib.hid (HLS3.out.below b5)
    have HRP5 := Lib.hid (RL.below HRP.out b5)
    have hl5 := load_pg HRP5.out
    have HLr : Hid (Lr w5 (.slice a' l'.length (l.length + 1)) (d + 1) l') := HW2b.out.lrJ HL2.out HX2.out HLw.out HSS.out
    have HLf : Hid (Lf w5 (.slice a3 m'.length (m.length + 1)) m') := hw3.lfJ HMw.out HSF.out hm3 hy3
    have HPS := Lib.hid (ps_same HL2.out HX2.out hm3 hy3)
    have HP := Lib.hid (predsP_any (d + 1) l' m' a' (l.length + 1) _ w5 HLr.out HLf.out (fun i hi => ((HX2.out i (by have := HL2.out; omega)).small (HSS.out.each i (by have := HL2.out; omega))).bd) (by rw [HPS.out]; exact HPL.out))
    rw [HPS.out, HL2.out, HM3.out] at HP
    clear b5 hm3 hy3 hw3 HF HW2 HLr HLf HLS3 HRP
    go_wp2_with fail
    clear hl5
    refine HP.out.mono ?_
    rintro e w6 hq
    obtain ⟨sv', r', er', rfl, hls', hen', b6⟩ := hq.one
    obtain ⟨he1, he2⟩ := endP_one hen' HEN.out
    subst he1 he2
    have B6 : Hid (Below W0.heap.size W0 w6) := B5.out.trans (b6.mono B5.out.size)
    have HW2c := Lib.hid (HW2b.out.below b6)
    have HW3c := Lib.hid (HW3.out.below b6)
    have HRP6 := Lib.hid (RL.below HRP5.out b6)
    have HSP := Lib.hid (samePreds_same _ _ _ w6 hls' (HLS5.out.below b6))
    clear hq hls' hen' b6 HP HEN HPS HPL HW2b HW3 HRP5 HLS5
    go_wp2_with fail
    refine HSP.out.mono ?_
    rintro e w7 ⟨rfl, b7⟩
    have B7 : Hid (Below W0.heap.size W0 w7) := B6.out.trans (b7.mono B6.out.size)
    have hl7 := HLD.out w7 B7.out
    have hm7 := load_pg (RL.below HRP6.out b7)
    have HE := Lib.hid (leftProgram_any (d + 1) l l' a' a (l.length + 1) c _ w7 HL2.out HX2.out HSS.out (HG.out w7 B7.out) (HW2c.out.below b7) (HL.out w7 B7.out))
    have HW3d := Lib.hid (HW3c.out.below b7)
    clear b7 HSP HW2c HW3c HRP6
    go_wp2_with fail
    clear hl7 hm7
    refine HE.out.mono ?_
    rintro e w8 ⟨rfl, b8⟩
    have B8 : Hid (Below W0.heap.size W0 w8) := B7.out.trans (b8.mono B7.out.size)
    have HE2 := Lib.hid (leftFs_any m m' a3 a2 (m.length + 1) c2 _ w8 HM3.out HY3.out HSF.out (HG.out w8 B8.out) (HW3d.out.below b8) (HM.out w8 B8.out))
    clear b8 HE HW3d
    go_wp2_with fail
    refine HE2.out.mono ?_
    rintro e w9 ⟨rfl, b9⟩
    have B9 : Hid (Below W0.heap.size W0 w9) := B8.out.trans (b9.mono B8.out.size)
    clear b9 HE2
    go_wp2
    go_ret
    exact ⟨by first | rfl | simp, HBA.out.trans (B9.out.mono HBA.out.size)⟩
  · clear HS
    go_wp2
    go_ret
    exact ⟨by first | rfl | simp, HBA.out.trans (B1.out.mono HBA.out.size)⟩
end Go.Proofs.YtfklpedcigdlmaaDoor
