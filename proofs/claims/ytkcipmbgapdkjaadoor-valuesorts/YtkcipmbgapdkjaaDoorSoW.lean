import Derived.Test.YtkcipmbgapdkjaaDoorSoRefT
import Derived.Test.YtkcipmbgapdkjaaDoorSoTl
namespace Go.Proofs.YtkcipmbgapdkjaaDoor
open Go.RowKit Go.Maps
set_option linter.unusedVariables false
set_option linter.unusedSimpArgs false
attribute [local go_sem ↓] Go.wp_at_zero Go.wp_at_succ

theorem like_keys {l l' : List XF} (hl' : l'.length = l.length) (hx' : ∀ i, i < l.length → LikeF (atF l i) (atF l' i)) : l'.map XF.key = l.map XF.key := by
  apply List.ext_getElem
  · simpa using hl'
  · intro i h1 h2
    simp only [List.length_map] at h1 h2
    have := hx' i h2
    rw [atF_eq h1, atF_eq h2] at this
    simp only [List.getElem_map, XF.key, this.pr, this.vs]
theorem small_mem {l : List XF} (h : smallF l) {y : XF} (hy : y ∈ l) : y.vs.length ≤ 1048576 := by
  obtain ⟨i, hi, rfl⟩ := List.getElem_of_mem hy
  have := h.each i hi
  rw [atF_eq hi] at this
  exact this
theorem small_like {l l' : List XF} (h : smallF l) (hl' : l'.length = l.length) (hx' : ∀ i, i < l.length → LikeF (atF l i) (atF l' i)) {y : XF} (hy : y ∈ l') : y.vs.length ≤ 1048576 := by
  obtain ⟨i, hi, rfl⟩ := List.getElem_of_mem hy
  have h1 := h.each i (by omega)
  have h2 := (hx' i (by omega)).vs
  rw [atF_eq hi] at h2
  rw [h2]
  exact h1
theorem TwU.lu {u w0 : World} {lo : Nat} {l l' : List XF} {a : Option Addr} {c : Nat} {v : Value} (h : TwU u lo l' a c) (h0 : Lu w0 v l) (hs : smallF l) (hl' : l'.length = l.length) (hx' : ∀ i, i < l.length → LikeF (atF l i) (atF l' i)) : Lu u (.slice a l'.length c) l' := by
  obtain ⟨h1, ⟨g, m, h2, h3, h4, h5, h6, h7⟩, h8⟩ := h
  subst h2 h1
  refine ⟨ls_of_range (f := XF.tcells) (k := 1) (by omega) (fun _ => rfl) XF0 (by omega) (by have := hs.len; unfold maxLen; omega) h3 (fun i hi j v hv => ?_), fun y hy => ?_⟩
  · have hj : j = 0 := by have := (List.getElem?_eq_some_iff.1 hv).1; simp [XF.tcells] at this; exact this
    subst hj
    rw [Nat.mul_one, Nat.add_zero]
    have := h7 i hi
    rw [this]
    exact hv
  · obtain ⟨i, hi, rfl⟩ := List.getElem_of_mem hy
    have e := h0.at (show i < l.length by omega)
    have := TwF.is (h8 i hi) (hx' i (by omega)) e.1 (hs.each i (by omega))
    have p := (hx' i (by omega)).pr
    rw [atF_eq hi] at this p
    exact ⟨this, p.trans e.2⟩
theorem TwG.lf {u w0 : World} {lo : Nat} {l l' : List XF} {a : Option Addr} {c : Nat} {v : Value} (h : TwG u lo l' a c) (h0 : Lf w0 v l) (hs : smallF l) (hl' : l'.length = l.length) (hx' : ∀ i, i < l.length → LikeF (atF l i) (atF l' i)) : Lf u (.slice a l'.length c) l' := by
  have hc := h.cap
  obtain ⟨g, rfl, hg, _, hks⟩ := h.range
  subst hc
  exact ⟨ls_of_range (f := XF.cells) (k := 2) (by omega) (fun _ => rfl) XF0 (by omega) (by have := hs.len; unfold maxLen; omega) hg hks, fun i hi => TwF.is (h.each i hi) (hx' i (by omega)) (h0.each i (by omega)) (hs.each i (by omega))⟩
set_option maxHeartbeats 6400000 in
set_option maxRecDepth 100000 in
theorem valueSorts_walk (l : List XF) (a : Option Addr) (c : Nat) (f : List XF) (a2 : Option Addr) (c2 : Nat) (w : World) (hp : PWt w) (hl : l.length ≤ 281474976710656) (hL : Lu w (.slice a l.length c) l) (hf : f.length ≤ 281474976710656) (hF : Lf w (.slice a2 f.length c2) f) :
    Calls Tryd.prog 3 #[.slice a l.length c, .slice a2 f.length c2] w fun e w' => e = .returned (.bool true) ∧ Below w.heap.size w w' := by
  have HP : Hid (∀ u, Below w.heap.size w u → PWt u) := fun u hu => tab_below hp hu
  have HL : Hid (∀ u, Below w.heap.size w u → Lu u (.slice a l.length c) l) := fun u hu => hL.below hu
  have HF : Hid (∀ u, Below w.heap.size w u → Lf u (.slice a2 f.length c2) f) := fun u hu => hF.below hu
  have HBT := Lib.hid (beyondTuples_any _ l w hl hL)
  clear hp hL hF
  go_enter Tryd.func3, Tryd.ntmps3
  go_wp2_with fail
  refine HBT.out.mono ?_
  rintro e w1 ⟨bb, rfl, b1, hsm⟩
  have B1 := Lib.hid b1
  have HSM := Lib.hid hsm
  clear b1 hsm HBT
  cases bb
  · have HSL : Hid (smallF l) := HSM.out (by first | rfl | trivial)
    have HBF := Lib.hid (beyondFacts_any _ f w1 hf (HF.out _ B1.out))
    clear HSM
    go_wp2_with fail
    refine HBF.out.mono ?_
    rintro e w2 ⟨cc, rfl, b2, hsm⟩
    have B2 : Hid (Below w.heap.size w w2) := B1.out.trans (b2.mono B1.out.size)
    have HSM := Lib.hid hsm
    clear b2 hsm HBF B1
    cases cc
    · have HSF : Hid (smallF f) := HSM.out (by first | rfl | trivial)
      clear HSM
      have HRT := Lib.hid (rtuples_any l.length l a c w2 (Nat.le_refl _) (HL.out _ B2.out).lies (fun y hy => ((HL.out _ B2.out).each y hy).1) HSL.out.len (fun y hy => small_mem HSL.out hy) (fun y hy => ((HL.out _ B2.out).each y hy).2))
      go_wp2_with fail
      refine HRT.out.mono ?_
      rintro e w3 ⟨aA, cA, A, rfl, b3, tA, lA, fA, nA⟩
      have B3 : Hid (Below w.heap.size w w3) := B2.out.trans (b3.mono B2.out.size)
      have HTA := Lib.hid tA
      have HA : Hid (∀ u, Below w3.heap.size w3 u → Lu u (.slice aA A.length cA) A) := fun u hu => (Lu.mk lA (fun y hy => ⟨fA y hy, told_pr tA (fun z hz => ((HL.out _ B2.out).each z hz).2) y hy⟩)).below hu
      clear b3 tA lA fA nA HRT
      have HRF := Lib.hid (rfacts_any f.length f a2 c2 w3 (Nat.le_refl _) (HF.out _ B3.out).lies (fun y hy => by obtain ⟨i, hi, rfl⟩ := List.getElem_of_mem hy; have := (HF.out _ B3.out).each i hi; rw [atF_eq hi] at this; exact this) HSF.out.len (fun y hy => small_mem HSF.out hy))
      go_wp2_with fail
      refine HRF.out.mono ?_
      rintro e w4 ⟨aB, cB, B, rfl, b4, tB, lB, fB, nB⟩
      have B4 : Hid (Below w.heap.size w w4) := B3.out.trans (b4.mono B3.out.size)
      have HTB := Lib.hid tB
      have HA4 : Hid (∀ u, Below w4.heap.size w4 u → Lu u (.slice aA A.length cA) A) := fun u hu => HA.out u (b4.trans (hu.mono b4.size))
      have HB : Hid (∀ u, Below w4.heap.size w4 u → Lf u (.slice aB B.length cB) B) := fun u hu => (Lf.mk lB (fun i hi => by rw [atF_eq hi]; exact fB _ (List.getElem_mem hi))).below hu
      clear b4 tB lB fB nB HRF HA
      have HTT := Lib.hid (twinT_any _ l w4 HSL.out.len HSL.out.each (HL.out _ B4.out))
      go_wp2_with fail
      refine HTT.out.mono ?_
      rintro e w5 ⟨aT, T, rfl, b5, hT1, hT2, hT3⟩
      have B5 : Hid (Below w.heap.size w w5) := B4.out.trans (b5.mono B4.out.size)
      have B45 := Lib.hid b5
      have HLT := Lib.hid (And.intro hT1 hT2)
      have HT5 : Hid (∀ u, Below w5.heap.size w5 u → TwU u w4.heap.size T aT (l.length + 1)) := fun u hu => hT3.below hu
      obtain ⟨gT, mT, haT, _⟩ := hT3.lies
      subst haT
      clear b5 hT1 hT2 hT3 HTT
      have HTF := Lib.hid (twinFs_any _ f w5 (HP.out _ B5.out) HSF.out.len HSF.out.each (HF.out _ B5.out))
      go_wp2_with fail
      refine HTF.out.mono ?_
      rintro e w6 ⟨aG, G, rfl, b6, hG1, hG2, hG3⟩
      have B6 : Hid (Below w.heap.size w w6) := B5.out.trans (b6.mono B5.out.size)
      have B46 : Hid (Below w4.heap.size w4 w6) := B45.out.trans (b6.mono B45.out.size)
      have HLG := Lib.hid (And.intro hG1 hG2)
      have HT6 : Hid (∀ u, Below w6.heap.size w6 u → TwU u w4.heap.size T (some ⟨gT, 0, none⟩) (l.length + 1)) := fun u hu => HT5.out u (b6.trans (hu.mono b6.size))
      have HG6 : Hid (∀ u, Below w6.heap.size w6 u → TwG u w5.heap.size G aG (f.length + 1)) := fun u hu => hG3.below hu
      obtain ⟨gG, haG, _⟩ := hG3.range
      subst haG
      have HVT := Lib.hid (vtuples_any ((HT6.out _ (Below.refl _ _)).lu (HL.out _ B6.out) HSL.out HLT.out.1 HLT.out.2) (fun h => by cases h) (by rw [HLT.out.1]; exact HSL.out.len) (fun y hy => small_like HSL.out HLT.out.1 HLT.out.2 hy))
      rw [HLT.out.1] at HVT
      clear b6 hG1 hG2 hG3 HTF HT5 B45
      go_wp2_with fail
      refine HVT.out.mono ?_
      rintro e w7 ⟨aO, cO, O, rfl, b7, tO, lO⟩
      have HKO : Hid (O.map XF.key = A.map XF.key) := by
        show _ = _
        rw [like_keys HLT.out.1 HLT.out.2] at tO
        exact tO.eq HTA.out
      have B67 := Lib.hid b7
      have HST := Lib.hid (sameTs_same _ _ O A w7 lO (HA4.out _ (B46.out.trans (b7.mono B46.out.size))) HKO.out)
      clear b7 tO lO HVT
      go_wp2_with fail
      refine HST.out.mono ?_
      rintro e w8 ⟨rfl, b8⟩
      have B68 : Hid (Below w6.heap.size w6 w8) := B67.out.trans (b8.mono B67.out.size)
      have HLE := Lib.hid (leftT_any l T (some ⟨gT, 0, none⟩) a (l.length + 1) c w4.heap.size w8 HLT.out.1 HLT.out.2 HSL.out (HT6.out _ B68.out) (HL.out _ (B6.out.trans (B68.out.mono B6.out.size))))
      clear b8 HST B67
      go_wp2_with fail
      refine HLE.out.mono ?_
      rintro e w9 ⟨rfl, b9⟩
      have B69 : Hid (Below w6.heap.size w6 w9) := B68.out.trans (b9.mono B68.out.size)
      have HVF := Lib.hid (vfacts_any ((HG6.out _ B69.out).lf (HF.out _ (B6.out.trans (B69.out.mono B6.out.size))) HSF.out HLG.out.1 HLG.out.2) (fun h => by cases h) (by rw [HLG.out.1]; exact HSF.out.len) (fun y hy => small_like HSF.out HLG.out.1 HLG.out.2 hy))
      rw [HLG.out.1] at HVF
      clear b9 HLE B68
      go_wp2_with fail
      refine HVF.out.mono ?_
      rintro e w10 ⟨aQ, cQ, Q, rfl, b10, tQ, lQ⟩
      have HKQ : Hid (Q.map XF.key = B.map XF.key) := by
        show _ = _
        rw [like_keys HLG.out.1 HLG.out.2] at tQ
        exact tQ.eq HTB.out
      have B610 : Hid (Below w6.heap.size w6 w10) := B69.out.trans (b10.mono B69.out.size)
      have HSF2 := Lib.hid (sameFs_same _ _ Q B w10 lQ (HB.out _ (B46.out.trans (B610.out.mono B46.out.size))) HKQ.out)
      clear b10 tQ lQ HVF B69
      go_wp2_with fail
      refine HSF2.out.mono ?_
      rintro e w11 ⟨rfl, b11⟩
      have B611 : Hid (Below w6.heap.size w6 w11) := B610.out.trans (b11.mono B610.out.size)
      have HLF := Lib.hid (leftFs_any f G (some ⟨gG, 0, none⟩) a2 (f.length + 1) c2 w5.heap.size w11 HLG.out.1 HLG.out.2 HSF.out (HP.out _ (B6.out.trans (B611.out.mono B6.out.size))) (HG6.out _ B611.out) (HF.out _ (B6.out.trans (B611.out.mono B6.out.size))))
      clear b11 HSF2 B610
      go_wp2_with fail
      refine HLF.out.mono ?_
      rintro e w12 ⟨rfl, b12⟩
      have B612 : Hid (Below w6.heap.size w6 w12) := B611.out.trans (b12.mono B611.out.size)
      go_wp2
      go_ret
      exact ⟨rfl, B6.out.trans (B612.out.mono B6.out.size)⟩
    · go_wp2
      go_ret
      exact ⟨rfl, B2.out⟩
  · go_wp2
    go_ret
    exact ⟨rfl, B1.out⟩
end Go.Proofs.YtkcipmbgapdkjaaDoor
