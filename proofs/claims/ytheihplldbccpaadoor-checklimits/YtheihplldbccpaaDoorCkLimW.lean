import Derived.Test.YtheihplldbccpaaDoorLmLmW
import Derived.Test.YtheihplldbccpaaDoorG18
namespace Go.Proofs.YtheihplldbccpaaDoor
open Go.RowKit Go.Maps
set_option linter.unusedVariables false
set_option linter.unusedSimpArgs false
attribute [local go_sem ↓] Go.wp_at_zero Go.wp_at_succ
attribute [-go_sem] loadVar storeVar

theorem same_map {l l' : List XL} (hl : l'.length = l.length) (hx : ∀ i, i < l.length → (atL l' i).x = (atL l i).x) : l'.map XL.x = l.map XL.x := by
  refine List.ext_getElem (by simp [hl]) fun i h1 h2 => ?_
  simp only [List.length_map] at h1 h2
  have := hx i h2
  rw [atL_eq h1, atL_eq h2] at this
  simpa using this
theorem avL_map (l : List XL) : avL l = (l.map XL.x).flatMap (fun x => if x.k = 1 then vsT [] x.ts else []) := by rw [List.flatMap_map]; rfl
theorem eqL_map (d : Nat) (l : List XL) : eqL d l = (l.map XL.x).flatMap (fun x => if x.k = 3 ∧ x.rel = 1 then [(sdE d x.l, sdE d x.r)] else []) := by rw [List.flatMap_map]; rfl
theorem avL_same {l l' : List XL} (h : l'.map XL.x = l.map XL.x) : avL l' = avL l := by rw [avL_map, avL_map, h]
theorem eqL_same {l l' : List XL} (d : Nat) (h : l'.map XL.x = l.map XL.x) : eqL d l' = eqL d l := by rw [eqL_map, eqL_map, h]
theorem avL_len (d : Nat) : ∀ l : List XL, (avL l).length ≤ (l.flatMap (fun y => termsL d y.x)).length
  | [] => Nat.le_refl _
  | y :: l => by
    have h1 := avL_len d l
    unfold avL at h1 ⊢
    rw [List.flatMap_cons, List.flatMap_cons, List.length_append, List.length_append]
    have h2 : (avX y).length ≤ (termsL d y.x).length := by
      unfold avX termsL
      split
      · have := vsT_len y.x.ts []
        simp only [List.length_nil, List.length_append] at this ⊢
        omega
      · exact Nat.zero_le _
    omega
theorem loneL_len : ∀ qs : List Qn, (loneL qs).length ≤ 2 * qs.length
  | [] => Nat.le_refl _
  | q :: qs => by
    have h1 := loneL_len qs
    unfold loneL at h1 ⊢
    rw [List.flatMap_cons, List.length_append, List.length_append, List.length_cons]
    have h2 : ∀ o : Option ByteArray, o.toList.length ≤ 1 := fun o => by cases o <;> simp
    have := h2 q.1.lone
    have := h2 q.2.lone
    omega
theorem TwB.lb {w w0 : World} {lo d : Nat} {l l' : List XL} {a : Option Addr} {c : Nat} {v : Value} (h : TwB w lo d l' a c) (h0 : Lb w0 v d l) (hl : l'.length = l.length) (hx : ∀ i, i < l.length → (atL l' i).x = (atL l i).x) (hs : l.length ≤ 1048576) (hsm : ∀ y ∈ l, smallL d y.x) : Lb w (.slice a l'.length c) d l' := by
  refine ⟨?_, fun y hy => ?_⟩
  · have hcap := h.cap
    obtain ⟨g, ha, _, hg, _, hk⟩ := h.lies
    rw [ha, hcap]
    exact ls_of_range (f := XL.cells) (k := 16) (by omega) (fun _ => rfl) XL0 (by omega) (by unfold maxLen; omega) hg hk
  · obtain ⟨i, hi, rfl⟩ := List.getElem_of_mem hy
    have hir : i < l.length := by omega
    have h1 := h.each i hi
    have h2 := h0.at_is hir
    have h3 := hx i hir
    have h4 : (atL l i).x.ts.length ≤ 1048576 := by rw [atL_eq hir]; exact (hsm _ (List.getElem_mem hir)).1
    rw [← h3] at h2 h4
    have h5 := h1.toIs h2 h4
    rw [atL_eq hi] at h5
    exact h5
/-- BeyondLiterals of any list -/
theorem beyondLits_any (d : Nat) (l : List XL) (a : Option Addr) (c : Nat) (w : World) (hl : l.length ≤ 281474976710656) (hL : Lb w (.slice a l.length c) d l) :
    Calls Tryd.prog 4 #[.slice a l.length c] w fun e w' => ∃ b : Bool, e = .returned (.bool b) ∧ Below w.heap.size w w' ∧ (b = false → l.length ≤ 1048576 ∧ (∀ y ∈ l, smallL d y.x) ∧ (avL l).length ≤ 1048576) := by
  have hR : RIs w d ⟨⟨#[]⟩, [], l⟩ ⟨none, 0, a, c⟩ := ⟨by show (⟨#[]⟩ : ByteArray).size ≤ maxLen; decide, by show 0 ≤ _; omega, hl, ⟨⟨by show 0 ≤ _; omega, none, 0, rfl, Nat.le_refl _, by decide, fun h => absurd (show (0 : Nat) < 0 from h) (by omega)⟩, fun t ht => by cases ht⟩, hL⟩
  have HP := Lib.hid (rulePartsR_any d ⟨⟨#[]⟩, [], l⟩ ⟨none, 0, a, c⟩ w hR)
  have HZ : Hid (smallR d ⟨⟨#[]⟩, [], l⟩ → l.length ≤ 1048576 ∧ (∀ y ∈ l, smallL d y.x) ∧ (avL l).length ≤ 1048576) := fun hs => by
    refine ⟨hs.bd, hs.each, ?_⟩
    have h1 := hs.terms
    have h2 := avL_len d l
    unfold termsR at h1
    simp only [List.map_nil, List.nil_append] at h1
    omega
  clear hR hL
  unfold R3.val at HP
  simp only [List.length_nil] at HP
  go_enter Tryd.func4, Tryd.ntmps4
  go_wp2_with fail
  refine HP.out.mono ?_
  rintro r w1 ⟨n, rfl, b1, hs⟩
  have HS := Lib.hid hs
  clear hs HP
  go_wp2
  go_ret
  exact ⟨_, rfl, b1, fun h => HZ.out (HS.out (by simpa using h))⟩
set_option maxHeartbeats 3200000 in
theorem checkLimits_walk (d : Nat) (l : List XL) (a : Option Addr) (c : Nat) (w : World) (hG : PWt w) (hl : l.length ≤ 281474976710656) (hL : Lb w (.slice a l.length c) (d + 1) l) :
    Calls Tryd.prog 3 #[.slice a l.length c] w fun r w' => r = .returned (.bool true) ∧ Below w.heap.size w w' := by
  have HB := Lib.hid (beyondLits_any (d + 1) l a c w hl hL)
  have HL : Hid (∀ u, Below w.heap.size w u → Lb u (.slice a l.length c) (d + 1) l) := fun u hu => hL.below hu
  have HG : Hid (∀ u, Below w.heap.size w u → PWt u) := fun u hu => tab_below hG hu
  clear hG hL
  go_enter Tryd.func3, Tryd.ntmps3
  go_wp2_with fail
  refine HB.out.mono ?_
  rintro e w1 ⟨b, rfl, b1, hs⟩
  have HS := Lib.hid hs
  have B1 := Lib.hid b1
  clear hs HB
  cases b
  · obtain ⟨hl1, hsm, hav⟩ := HS.out (by first | rfl | trivial)
    have HSM := Lib.hid hsm
    have HAV := Lib.hid hav
    have HT := Lib.hid (twinLiterals_any (d + 1) (.slice a l.length c) l w1 (HG.out w1 b1) hl1 hsm (HL.out w1 b1))
    clear b1 HS hsm hav
    go_wp2_with fail
    refine HT.out.mono ?_
    rintro e w2 ⟨a', l', rfl, b2, hl2, hx2, hw2⟩
    have B2 : Hid (Below w.heap.size w w2) := B1.out.trans (b2.mono B1.out.size)
    have HX := Lib.hid hx2
    have HW := Lib.hid hw2
    have HL2 : Hid (l'.length = l.length) := hl2
    have HMP : Hid (l'.map XL.x = l.map XL.x) := same_map hl2 hx2
    have hLb : Lb w2 (.slice a' l.length (l.length + 1)) (d + 1) l' := by
      have := hw2.lb (HL.out w (Below.refl _ _)) hl2 hx2 hl1 HSM.out
      rw [hl2] at this
      exact this
    have hts : ∀ i, i < l'.length → (atL l' i).x.ts.length ≤ 1048576 := fun i hi => by
      rw [hx2 i (by omega), atL_eq (by omega)]
      exact (HSM.out _ (List.getElem_mem _)).1
    have hsz : ∀ i, i < l'.length → szD (d + 1) (atL l' i).x.l ≤ 1048576 ∧ szD (d + 1) (atL l' i).x.r ≤ 1048576 := fun i hi => by
      rw [hx2 i (by omega), atL_eq (by omega)]
      have := HSM.out _ (List.getElem_mem (l := l) (n := i) (by omega))
      exact ⟨this.2.1.2, this.2.2.2⟩
    have HC := Lib.hid (limited_any d _ l' w2 hLb hts (by rw [avL_same HMP.out]; exact HAV.out) (by omega) hsz)
    rw [show atN l' = atN l from by unfold atN; rw [avL_same HMP.out], eqL_same _ HMP.out] at HC
    clear b2 hl2 hx2 hw2 hLb hts hsz HT B1
    go_wp2_with fail
    refine HC.out.mono ?_
    rintro e w3 ⟨sv3, fs3, rfl, hown3, b3, hk3, hs3⟩
    have B3 : Hid (Below w.heap.size w w3) := B2.out.trans (b3.mono B2.out.size)
    have HW3 := Lib.hid (HW.out.below b3)
    have HK3 := Lib.hid hk3
    have HS3 := Lib.hid hs3
    have HL3 := Lib.hid (ls_own hown3)
    have HR := Lib.hid (rlimited_any d _ l w3 (HL.out w3 B3.out) (fun i hi => by rw [atL_eq hi]; exact (HSM.out _ (List.getElem_mem hi)).1) HAV.out hl1 (fun i hi => by rw [atL_eq hi]; have := HSM.out _ (List.getElem_mem hi); exact ⟨this.2.1.2, this.2.2.2⟩) (by have h1 := loneL_len (eqL (d + 1) l); have h2 := eqL_len (d + 1) l; omega))
    clear hown3 b3 hk3 hs3 HC HW
    go_wp2_with fail
    refine HR.out.mono ?_
    rintro e w4 ⟨sv4, fs4, rfl, hown4, b4, hk4, hs4⟩
    have B4 : Hid (Below w.heap.size w w4) := B3.out.trans (b4.mono B3.out.size)
    have HW4 := Lib.hid (HW3.out.below b4)
    have hfs : fs3 = fs4 := by
      obtain ⟨k3, e3⟩ := HK3.out
      obtain ⟨k4, e4⟩ := hk4
      have h3 := HS3.out
      rw [e3] at h3 ⊢
      rw [e4] at hs4 ⊢
      exact itQ_one h3 hs4
    subst hfs
    have HT := Lib.hid (sameTexts_same sv3 sv4 fs3 w4 (HL3.out.below b4) (ls_own hown4))
    clear hown4 b4 hk4 hs4 HR HW3 HK3 HS3 HL3
    go_wp2_with fail
    refine HT.out.mono ?_
    rintro e w5 ⟨rfl, b5⟩
    have B5 : Hid (Below w.heap.size w w5) := B4.out.trans (b5.mono B4.out.size)
    have HE := Lib.hid (leftLiterals_any (d + 1) l l' a' a (l.length + 1) c w1.heap.size w5 hl1 HL2.out HX.out HSM.out (HG.out w5 B5.out) (HW4.out.below b5) (HL.out w5 B5.out))
    clear b5 HT HW4
    go_wp2_with fail
    refine HE.out.mono ?_
    rintro e w6 ⟨rfl, b6⟩
    have B6 : Hid (Below w.heap.size w w6) := B5.out.trans (b6.mono B5.out.size)
    clear b6 HE
    go_wp2
    go_ret
    exact ⟨by first | rfl | simp, B6.out⟩
  · clear HS
    go_wp2
    go_ret
    exact ⟨by first | rfl | simp, B1.out⟩
end Go.Proofs.YtheihplldbccpaaDoor
