import Derived.Test.YtfklpedcigdlmaaGreatDoorG37
import Derived.Test.YtfklpedcigdlmaaGreatDoorG26
import Derived.Test.YtfklpedcigdlmaaGreatDoorG29
namespace Go.Proofs.YtfklpedcigdlmaaGreatDoor
open Go.RowKit Go.Maps
set_option linter.unusedVariables false
set_option linter.unusedSimpArgs false
attribute [local go_sem ↓] Go.wp_at_zero Go.wp_at_succ

theorem LikeR.avJ {r s : R3} (h : LikeR r s) : avL s.bd = avL r.bd := avL_same h.map
theorem LikeR.eqJ {r s : R3} (h : LikeR r s) (d : Nat) : eqL d s.bd = eqL d r.bd := eqL_same d h.map
theorem LikeR.atJ {r s : R3} (h : LikeR r s) : atN s.bd = atN r.bd := by unfold atN; rw [h.avJ]
theorem LikeR.ruJ {r s : R3} (h : LikeR r s) (d : Nat) (fs : List ByteArray) : ruE d s fs = ruE d r fs := by
  unfold Go.Proofs.YtfklpedcigdlmaaGreatDoor.ruE
  rw [h.ruleB, h.terms]
theorem stR_map (r : R3) : stR r = ⟨r.pr, r.hd.length⟩ :: (r.bd.map XL.x).flatMap (fun x => if x.k = 1 ∨ x.k = 2 then [⟨x.pr, x.ts.length⟩] else []) := by
  unfold stR
  rw [List.flatMap_map]
  rfl
theorem LikeR.st {r s : R3} (h : LikeR r s) : stR s = stR r := by
  rw [stR_map, stR_map, h.map, h.pr, h.hd]
theorem map_likeR {β : Type} {l l' : List XR} (f : R3 → β) (hl : l'.length = l.length) (hx : ∀ i, i < l.length → f (atR l' i).r = f (atR l i).r) : l'.map (fun y => f y.r) = l.map (fun y => f y.r) := by
  refine List.ext_getElem (by simp [hl]) fun i h1 h2 => ?_
  simp only [List.length_map] at h1 h2
  have := hx i h2
  rw [atR_eq h1, atR_eq h2] at this
  simpa using this
theorem map_likeF {β : Type} {l l' : List XF} (f : XF → β) (hl : l'.length = l.length) (hx : ∀ i, i < l.length → f (atF l' i) = f (atF l i)) : l'.map f = l.map f := by
  refine List.ext_getElem (by simp [hl]) fun i h1 h2 => ?_
  simp only [List.length_map] at h1 h2
  have := hx i h2
  rw [atF_eq h1, atF_eq h2] at this
  simpa using this
/-- the first that is not nought -/
def fnz : List Int → Int
  | [] => 0
  | x :: l => if x = 0 then fnz l else x
theorem jr_map (d : Nat) (F : R3 → List ByteArray) : ∀ l : List XR, jrE d F l = fnz (l.map (fun y => ruE d y.r (F y.r)))
  | [] => rfl
  | y :: l => by rw [jrE, List.map_cons, fnz, jr_map d F l]
theorem ps_map (rs : List XR) (fs : List XF) : psS rs fs = (rs.map (fun y => stR y.r)).flatMap id ++ fs.map pdF := by
  unfold psS
  rw [List.flatMap_map]
  rfl
theorem all_mapF (fs : List XF) : fs.all factB = (fs.map factB).all id := by rw [List.all_map]; rfl
theorem job_same {d : Nat} {F : R3 → List ByteArray} (hF : ∀ r, Lim (eqL d r.bd) (atN r.bd) (F r)) {l l' : List XR} {m m' : List XF} (hl : l'.length = l.length) (hx : ∀ i, i < l.length → LikeR (atR l i).r (atR l' i).r) (hm : m'.length = m.length) (hy : ∀ i, i < m.length → LikeF (atF m i) (atF m' i)) : jobE d F l' m' = jobE d F l m ∧ psS l' m' = psS l m := by
  have e1 : jrE d F l' = jrE d F l := by
    rw [jr_map, jr_map, map_likeR (fun r => ruE d r (F r)) hl (fun i hi => by
      have h := hx i hi
      have hf : F (atR l' i).r = F (atR l i).r := by
        have h1 := hF (atR l' i).r
        rw [h.eqJ, h.atJ] at h1
        exact h1.one (hF (atR l i).r)
      rw [hf, h.ruJ])]
  have e2 : psS l' m' = psS l m := by
    rw [ps_map, ps_map, map_likeR stR hl (fun i hi => (hx i hi).st), map_likeF pdF hm (fun i hi => by unfold pdF; rw [(hy i hi).pr, (hy i hi).vs])]
  have e3 : m'.all factB = m.all factB := by
    rw [all_mapF, all_mapF, map_likeF factB hm (fun i hi => by unfold factB; rw [(hy i hi).pr, (hy i hi).vs])]
  refine ⟨?_, e2⟩
  unfold jobE tlE
  rw [e1, e2, e3]
theorem bd_terms (d : Nat) : ∀ l : List XL, l.length ≤ (l.flatMap (fun y => termsL (d + 1) y.x)).length
  | [] => Nat.le_refl _
  | y :: l => by
    have := bd_terms d l
    rw [List.flatMap_cons, List.length_append, List.length_cons]
    have h2 : 1 ≤ (termsL (d + 1) y.x).length := by
      unfold termsL
      rw [termsD_succ]
      simp only [List.length_append, List.length_cons]
      omega
    omega
theorem ps_len (d : Nat) : ∀ (rs : List XR) (fs : List XF), (psS rs fs).length ≤ rs.length + (rs.flatMap (fun y => termsR (d + 1) y.r)).length + fs.length
  | [], fs => by unfold psS; simp
  | y :: rs, fs => by
    have h1 := ps_len d rs fs
    unfold psS at h1 ⊢
    rw [List.length_append] at h1 ⊢
    rw [List.flatMap_cons, List.flatMap_cons, List.length_append, List.length_append, List.length_cons]
    have h2 := stR_len y.r
    have h3 := bd_terms d y.r.bd
    have h4 : (y.r.bd.flatMap (fun z => termsL (d + 1) z.x)).length ≤ (termsR (d + 1) y.r).length := by unfold termsR; rw [List.length_append]; omega
    omega
theorem TwS.lrJ {w w0 : World} {lo d : Nat} {l l' : List XR} {a : Option Addr} {c : Nat} {v : Value} (h : TwS w lo d l' a c) (hl : l'.length = l.length) (hx : ∀ i, i < l.length → LikeR (atR l i).r (atR l' i).r) (h0 : Lr w0 v d l) (hs : smallS d l) : Lr w (.slice a l'.length c) d l' := by
  have hcap := h.cap
  obtain ⟨g, ha, hg, _, hk⟩ := h.range
  have hll := hs.len
  refine ⟨?_, fun i hi => ?_⟩
  · rw [ha, hcap]
    exact ls_of_range (f := XR.cells) (k := 3) (by omega) (fun _ => rfl) XR0 (by omega) (by unfold maxLen; omega) hg hk
  · have hi' : i < l.length := by omega
    exact (h.each i hi).is (hx i hi') (h0.each i hi') (hs.each i hi')
theorem TwG.lfJ {u w0 : World} {lo : Nat} {l l' : List XF} {a : Option Addr} {c : Nat} {v : Value} (h : TwG u lo l' a c) (h0 : Lf w0 v l) (hs : smallF l) (hl' : l'.length = l.length) (hx' : ∀ i, i < l.length → LikeF (atF l i) (atF l' i)) : Lf u (.slice a l'.length c) l' := by
  have hc := h.cap
  obtain ⟨g, rfl, hg, _, hks⟩ := h.range
  subst hc
  exact ⟨ls_of_range (f := XF.cells) (k := 2) (by omega) (fun _ => rfl) XF0 (by omega) (by have := hs.len; unfold maxLen; omega) hg hks, fun i hi => TwF.is (h.each i hi) (hx' i (by omega)) (h0.each i (by omega)) (hs.each i (by omega))⟩
set_option maxHeartbeats 800000 in
theorem beyondJob_any (d : Nat) (v u : Value) (l : List XR) (m : List XF) (w : World) (hll : l.length ≤ 281474976710656) (hlm : m.length ≤ 281474976710656) (hL : Lr w v d l) (hM : Lf w u m) :
    Calls Tryz.prog 4 #[v, u] w fun e w' => ∃ b : Bool, e = .returned (.bool b) ∧ Below w.heap.size w w' ∧ (b = false → smallS d l ∧ smallF m) := by
  have HR : Hid _ := beyondRules_any d v l w hll hL
  have HF : Hid (∀ w', Below w.heap.size w w' → Calls Tryz.prog 12 #[u] w' fun e w2 => ∃ b : Bool, e = .returned (.bool b) ∧ Below w'.heap.size w' w2 ∧ (b = false → smallF m)) := fun w' hb => beyondFacts_any u m w' hlm (hM.below hb)
  obtain ⟨a, c, rfl, hc1, hc2, -⟩ := hL.form
  obtain ⟨a2, c2, rfl, hd1, hd2, -⟩ := hM.form
  clear hL hM
  go_enter Tryz.func4, Tryz.ntmps4
  go_wp2_with fail
  refine Calls.mono HR.out ?_
  rintro e w1 ⟨b, rfl, b1, hs⟩
  have HS : Hid _ := hs
  have HB1 : Hid _ := b1
  clear hs b1
  cases b
  · go_wp2_with fail
    refine Calls.mono (HF.out _ HB1.out) ?_
    rintro e w2 ⟨b2, rfl, b2', hs2⟩
    have HS2 : Hid _ := hs2
    clear hs2
    go_wp2
    go_ret
    exact ⟨b2, rfl, HB1.out.trans (b2'.mono HB1.out.size), fun h => ⟨HS.out (by first | rfl | trivial), HS2.out h⟩⟩
  · go_wp2
    go_ret
    exact ⟨true, rfl, HB1.out, fun h => by cases h⟩
set_option maxHeartbeats 6400000 in
theorem checkJobs_walk (d : Nat) (l : List XR) (a : Option Addr) (c : Nat) (m : List XF) (a2 : Option Addr) (c2 : Nat) (w : World) (hG : PWt w ∧ KT w ∧ LX.Gl w) (hl : l.length ≤ 281474976710656) (hL : Lr w (.slice a l.length c) (d + 1) l) (hm : m.length ≤ 281474976710656) (hM : Lf w (.slice a2 m.length c2) m) :
    Calls Tryz.prog 3 #[.slice a l.length c, .slice a2 m.length c2] w fun r w' => r = .returned (.bool true) ∧ Below w.heap.size w w' := by
  have HB := Lib.hid (beyondJob_any (d + 1) _ _ l m w hl hm hL hM)
  have HL : Hid (∀ u, Below w.heap.size w u → Lr u (.slice a l.length c) (d + 1) l) := fun u hu => hL.below hu
  have HM : Hid (∀ u, Below w.heap.size w u → Lf u (.slice a2 m.length c2) m) := fun u hu => hM.below hu
  have HG : Hid (∀ u, Below w.heap.size w u → PWt u ∧ KT u ∧ LX.Gl u) := fun u hu => ⟨tab_below hG.1 hu, hG.2.1.below hu, hG.2.2.below hu⟩
  obtain ⟨F, hF⟩ : ∃ F : R3 → List ByteArray, ∀ r, Lim (eqL (d + 1) r.bd) (atN r.bd) (F r) := Classical.axiomOfChoice (fun (r : R3) => lim_ex (eqL (d + 1) r.bd) (atN r.bd) (eqL_ok _ _))
  have HF := Lib.hid hF
  clear hG hL hM hF
  go_enter Tryz.func3, Tryz.ntmps3
  go_wp2_with fail
  refine HB.out.mono ?_
  rintro e w1 ⟨b, rfl, b1, hs⟩
  have HS := Lib.hid hs
  have B1 := Lib.hid b1
  clear hs HB b1
  cases b
  · obtain ⟨hsS, hsF⟩ := HS.out (by first | rfl | trivial)
    have HSS := Lib.hid hsS
    have HSF := Lib.hid hsF
    have HT := Lib.hid (twinRules_any (d + 1) _ l w1 (HG.out w1 B1.out).1 hsS.len hsS.each (HL.out w1 B1.out))
    clear HS hsS hsF
    go_wp2_with fail
    refine HT.out.mono ?_
    rintro e w2 ⟨a', l', rfl, b2, hl2, hx2, hw2⟩
    have B2 : Hid (Below w.heap.size w w2) := B1.out.trans (b2.mono B1.out.size)
    have HL2 : Hid (l'.length = l.length) := hl2
    have HX2 := Lib.hid hx2
    have HW2 := Lib.hid hw2
    have HU := Lib.hid (twinFs_any _ m w2 (HG.out w2 B2.out).1 HSF.out.len HSF.out.each (HM.out w2 B2.out))
    clear b2 hl2 hx2 hw2 HT
    go_wp2_with fail
    refine HU.out.mono ?_
    rintro e w3 ⟨a3, m', rfl, b3, hm3, hy3, hw3⟩
    have B3 : Hid (Below w.heap.size w w3) := B2.out.trans (b3.mono B2.out.size)
    have HM3 : Hid (m'.length = m.length) := hm3
    have HY3 := Lib.hid hy3
    have HW3 := Lib.hid hw3
    have HW2b := Lib.hid (HW2.out.below b3)
    have HLr : Hid (Lr w3 (.slice a' l'.length (l.length + 1)) (d + 1) l') := HW2b.out.lrJ HL2.out HX2.out (HL.out w (Below.refl _ _)) HSS.out
    have HLf : Hid (Lf w3 (.slice a3 m'.length (m.length + 1)) m') := hw3.lfJ (HM.out w (Below.refl _ _)) HSF.out hm3 hy3
    have HJS := Lib.hid (job_same HF.out HL2.out HX2.out hm3 hy3)
    have HPL : Hid ((psS l m).length ≤ 100000000) := by
      have h1 := ps_len d l m
      have h2 := HSS.out.len
      have h3 := HSS.out.terms
      have h4 := HSF.out.len
      show _ ≤ _
      omega
    have HJ := Lib.hid (ckJob_any d F HF.out l' m' a' (l.length + 1) _ w3 (HG.out w3 B3.out).2 HLr.out HLf.out (fun i hi => (HX2.out i (by have := HL2.out; omega)).small (HSS.out.each i (by have := HL2.out; omega))) (by rw [HJS.out.2]; exact HPL.out))
    rw [HJS.out.1, HL2.out, HM3.out] at HJ
    clear b3 hm3 hy3 hw3 HU HW2
    go_wp2_with fail
    refine HJ.out.mono ?_
    rintro e w4 ⟨rfl, b4⟩
    have B4 : Hid (Below w.heap.size w w4) := B3.out.trans (b4.mono B3.out.size)
    have HW2c := Lib.hid (HW2b.out.below b4)
    have HW3c := Lib.hid (HW3.out.below b4)
    have HR := Lib.hid (rfJob_any d F HF.out l m a c _ w4 (HL.out w4 B4.out) (HM.out w4 B4.out) HSS.out.each HPL.out)
    generalize jobE (d + 1) F l m = er at HR
    clear b4 HJ HLr HLf HJS HPL HW2b HW3
    go_wp2_with fail
    refine HR.out.mono ?_
    rintro e w5 ⟨rfl, b5⟩
    have B5 : Hid (Below w.heap.size w w5) := B4.out.trans (b5.mono B4.out.size)
    have HE := Lib.hid (leftRules_any (d + 1) l l' a' a (l.length + 1) c w1.heap.size w5 HL2.out HX2.out HSS.out (HG.out w5 B5.out).1 (HW2c.out.below b5) (HL.out w5 B5.out))
    have HW3d := Lib.hid (HW3c.out.below b5)
    clear b5 HR HW2c HW3c
    go_wp2_with fail
    refine HE.out.mono ?_
    rintro e w6 ⟨rfl, b6⟩
    have B6 : Hid (Below w.heap.size w w6) := B5.out.trans (b6.mono B5.out.size)
    have HE2 := Lib.hid (leftFs_any m m' a3 a2 (m.length + 1) c2 w2.heap.size w6 HM3.out HY3.out HSF.out (HG.out w6 B6.out).1 (HW3d.out.below b6) (HM.out w6 B6.out))
    clear b6 HE HW3d
    go_wp2_with fail
    refine HE2.out.mono ?_
    rintro e w7 ⟨rfl, b7⟩
    have B7 : Hid (Below w.heap.size w w7) := B6.out.trans (b7.mono B6.out.size)
    clear b7 HE2
    go_wp2
    go_ret
    exact ⟨by first | rfl | simp, B7.out⟩
  · clear HS
    go_wp2
    go_ret
    exact ⟨by first | rfl | simp, B1.out⟩
end Go.Proofs.YtfklpedcigdlmaaGreatDoor
