import Derived.Test.YthdcgikhcghigaaSpLists
namespace Go.Proofs.Ythdcgikhcghigaa
open Go.RowKit Go.Maps Go.Shelf
set_option linter.unusedVariables false
set_option linter.unusedSimpArgs false
attribute [local go_sem ↓] Go.wp_at_zero Go.wp_at_succ

/-- a row of 24 numbers of 32 bits -/
structure Row24 (r : List Int) : Prop where
  len : r.length = 24
  num : ∀ x ∈ r, -2147483648 ≤ x ∧ x ≤ 2147483647
theorem Row24.size {r : List Int} (h : Row24 r) : (List.map cellI r).toArray.size = 24 := by simp [h.len]
theorem Row24.at {r : List Int} (h : Row24 r) (i : Nat) (hi : i < 24) : (List.map cellI r).toArray[i]? = some (.int .i32 (r.getD i 0)) := by
  have hl : i < r.length := by rw [h.len]; exact hi
  simp [List.getD, List.getElem?_eq_getElem hl, cellI]
theorem Row24.rng {r : List Int} (h : Row24 r) (i : Nat) (hi : i < 24) : -2147483648 ≤ r.getD i 0 ∧ r.getD i 0 ≤ 2147483647 := by
  have hl : i < r.length := by rw [h.len]; exact hi
  refine h.num _ ?_
  simp [List.getD, List.getElem?_eq_getElem hl]
section
variable {w w' : World} {b o : Nat} {pT pR : Value} {mo : Option Int} {mb : Nat} {vs : List V} {E : Nat → Prop}
set_option maxHeartbeats 6400000 in
set_option maxRecDepth 100000 in
theorem rows_tuple (hx : Bx w b o pT pR) (hp : Pa w pT pR mo mb vs vs E) (hlen : vs.length ≤ 800000000) (on n m : Int) (v : V) (lv : Value) (r : List Int) (hr : Row24 r) :
    Calls Try.prog 19 #[.pointer (some ⟨b, o, none⟩), .agg (opL on 6 n m v lv r).toArray] w fun e w' => e = .returned (.bool true) ∧ Below w.heap.size w w' := by
  have O := Lib.hid (opAt_new w on 6 n m v lv r)
  have HB := Lib.hid (belowA (w := w) (.cells (opL on 6 n m v lv r).toArray 45))
  have HN := Lib.hid (hx.keep HB.out)
  obtain ⟨xs, er, hxl, hTT, hTR⟩ := pa_tuple (hp.keep HB.out) (by omega) (List.map cellI r).toArray hr.size (fun i => r.getD i 0) hr.at hr.rng n
  have HTT := Lib.hid hTT
  have HTR := Lib.hid hTR
  have hur := Try.underlying43
  have hir : (Try.prog.info? 43).map (·.size) = some (List.map cellI r).length := by rw [List.length_map, hr.len]; exact infoRow
  clear hx hp hTT hTR
  go_enter Try.func19, Try.ntmps19
  go_upto_region 1 with fail
  generalize w.alloc (.cells (opL on 6 n m v lv r).toArray 45) = W at O HB HN HTT HTR ⊢
  have hc1 := O.out.c1
  go_upto_region 2 with fail
  clear hc1
  have hB0 : Below W.heap.size W W.drew := (Below.refl _ _).drew
  have HS : Hid (∀ u, Below W.heap.size W u → Below W.heap.size W u ∧ u.cell? ⟨b, o, none⟩ = some pT ∧ u.cell? ⟨w.heap.size, 2, none⟩ = some (.int .i64 n) ∧ u.rangeAt w.heap.size 8 (List.map cellI r)) := fun u hu => ⟨hu, (HN.out.keep hu).cT, (O.out.below hu).c2, (O.out.below hu).row⟩
  have HS2 : Hid (∀ u, Below W.heap.size W u → u.cell? ⟨b, o + 1, none⟩ = some pR ∧ u.cell? ⟨w.heap.size, 2, none⟩ = some (.int .i64 n) ∧ u.rangeAt w.heap.size 8 (List.map cellI r)) := fun u hu => ⟨(HN.out.keep hu).cR, (O.out.below hu).c2, (O.out.below hu).row⟩
  go_region_held3 (fun u => Below W.heap.size W u ∧ u.cell? ⟨b, o, none⟩ = some pT ∧ u.cell? ⟨w.heap.size, 2, none⟩ = some (.int .i64 n) ∧ u.rangeAt w.heap.size 8 (List.map cellI r))
    (first | assumption | exact HS.out _ hB0 | exact HS.out _ (by assumption))
    (first
      | (go_at_call 27; refine (HTT.out _ hB0).mono ?_; rintro ee w2 ⟨⟨a1, c1, rfl, hv1⟩, b2⟩; have b2' : Below W.heap.size W w2 := hB0.trans (b2.mono hB0.size); have HV1 := Lib.hid hv1; clear b2 hv1)
      | fail)
  simp only [Exit.then]
  go_at_K
  clear hB0 HS HTT
  have HB2 := Lib.hid b2'
  have HS3 : Hid (∀ u, Below w2.heap.size w2 u → Below w2.heap.size w2 u ∧ u.cell? ⟨b, o + 1, none⟩ = some pR ∧ u.cell? ⟨w.heap.size, 2, none⟩ = some (.int .i64 n) ∧ u.rangeAt w.heap.size 8 (List.map cellI r)) := fun u hu => ⟨hu, HS2.out u (HB2.out.trans (hu.mono HB2.out.size))⟩
  clear b2' HS2
  go_upto_region 3 with fail
  have hB0 : Below w2.heap.size w2 w2.drew := (Below.refl _ _).drew
  go_region_held3 (fun u => Below w2.heap.size w2 u ∧ u.cell? ⟨b, o + 1, none⟩ = some pR ∧ u.cell? ⟨w.heap.size, 2, none⟩ = some (.int .i64 n) ∧ u.rangeAt w.heap.size 8 (List.map cellI r))
    (first | assumption | exact HS3.out _ hB0 | exact HS3.out _ (by assumption))
    (first
      | (go_at_call 28; refine (HTR.out _ (HB2.out.trans (hB0.mono HB2.out.size))).mono ?_; rintro ee w3 ⟨⟨a2, c2, rfl, hv2⟩, b3⟩; have b3' : Below w2.heap.size w2 w3 := hB0.trans (b3.mono hB0.size); have HV2 := Lib.hid hv2; clear b3 hv2)
      | fail)
  simp only [Exit.then]
  go_at_K
  clear HS3 hB0 HTR
  have HB3 := Lib.hid (HB.out.trans ((HB2.out.trans (b3'.mono HB2.out.size)).mono HB.out.size))
  have HV1' := Lib.hid (HV1.out.below b3')
  clear b3' HB2 HB HV1
  go_wp2_with fail
  refine (same_self _ a1 a2 c1 c2 xs HV1'.out HV2.out (by omega)).mono ?_
  rintro e w4 ⟨rfl, b4⟩
  go_wp2
  go_ret
  exact ⟨rfl, HB3.out.trans (b4.mono HB3.out.size)⟩
end
/-- how far a list is written over from its end -/
def turnT (us : List V) (i : Nat) : List V := us.reverse.take i ++ us.drop i
theorem turnT_len (us : List V) (i : Nat) (h : i ≤ us.length) : (turnT us i).length = us.length := by simp [turnT]; omega
theorem turnT_0 (us : List V) : turnT us 0 = us := by simp [turnT]
theorem turnT_n (us : List V) : turnT us us.length = us.reverse := by
  unfold turnT
  rw [List.take_of_length_le (by simp), List.drop_of_length_le (Nat.le_refl _), List.append_nil]
theorem atV_get {us : List V} {i : Nat} (h : i < us.length) : us[i]? = some (atV us i) := by
  unfold atV
  simp [List.getD, List.getElem?_eq_getElem h]
theorem turnT_set {us : List V} {i : Nat} (h : i < us.length) : (turnT us i).set i (atV us.reverse i) = turnT us (i + 1) := by
  unfold turnT
  have hl : (us.reverse.take i).length = i := by simp; omega
  have h' : i < us.reverse.length := by simpa using h
  rw [List.set_append_right _ _ (by omega), hl, Nat.sub_self, List.drop_eq_getElem_cons h, List.set_cons_zero, List.take_add_one, atV_get h']
  simp
theorem atV_rev {us : List V} {k : Nat} (h : k < us.length) : atV us.reverse k = atV us (us.length - 1 - k) := by
  unfold atV
  simp [List.getD, List.getElem?_reverse h]
theorem take_atV {us : List V} {k : Nat} (h : k < us.length) : us.take (k + 1) = us.take k ++ [atV us k] := by
  rw [List.take_add_one, atV_get h]
  rfl
theorem gs_mid {E E1 E2 : Nat → Prop} {w u v w' : World} {g : Nat} (h1 : Gs E E1 w u) (h2 : Tc (fun k => k = g) u v) (hg : w.heap.size ≤ g) (h3 : Gs E1 E2 v w') : Gs E E2 w w' := by
  have t1 : Tc E w v := h1.1.trans h2 (fun k hk e => by omega)
  have z1 := t1.size
  refine ⟨t1.trans h3.1 (fun k hk e => (h1.2 k e).elim id (fun e => by omega)), fun k hk => ?_⟩
  rcases h3.2 k hk with e | e
  · exact h1.2 k e
  · exact .inr (by omega)
theorem put3_tc {w w' : World} {g j : Nat} {u : V} {E : Nat → Prop} (h : Tc E w w') (hg : E g) : Tc E w (put3 w' g j u) :=
  ((h.setCell (p := ⟨g, _, none⟩) (.inr hg) _).setCell (p := ⟨g, _, none⟩) (.inr hg) _).setCell (p := ⟨g, _, none⟩) (.inr hg) _
section
attribute [-go_sem] Builtin.append_
variable {w w' : World} {b o : Nat} {pT pR : Value} {mo : Option Int} {mb : Nat} {vs : List V} {E : Nat → Prop}
set_option maxHeartbeats 6400000 in
set_option maxRecDepth 100000 in
theorem rows_list (hx : Bx w b o pT pR) (hp : Pa w pT pR mo mb vs vs E) (hnb : ¬ E b) (hlen : vs.length ≤ 700000000) (on k n m : Int) (v : V) (a : Option Addr) (c : Nat) (us : List V) (r : List Int) (hk : k ≠ 6) (hv : Lv w (.slice a us.length c) us) (hvE : Apt E a us.length) (hl : us.length ≤ 1048576) :
    Calls Try.prog 19 #[.pointer (some ⟨b, o, none⟩), .agg (opL on k n m v (.slice a us.length c) r).toArray] w fun e w' => e = .returned (.bool true) ∧ ∃ vs' E', Pa w' pT pR mo mb vs' vs' E' ∧ Gs E E' w w' ∧ vs'.length ≤ vs.length + 48 := by
  have O := Lib.hid (opAt_new w on k n m v (.slice a us.length c) r)
  have HB := Lib.hid (belowA (w := w) (.cells (opL on k n m v (.slice a us.length c) r).toArray 45))
  have HN := Lib.hid (hx.keep HB.out)
  have HP := Lib.hid (hp.keep HB.out)
  have HV := Lib.hid (hv.below HB.out)
  have HVE := Lib.hid hvE
  have hEs : ∀ q, E q → q < w.heap.size := fun q hq => hp.lt hq
  have HES := Lib.hid hEs
  have hbl : b < w.heap.size := hx.lt
  have e6 : ((k : Int) == 6) = false := by simpa using hk
  have HGW : Hid (Gs E E w (w.alloc (.cells (opL on k n m v (.slice a us.length c) r).toArray 45))) := Gs.of HB.out
  clear hv hvE hx hp hEs
  go_enter Try.func19, Try.ntmps19
  go_upto_region 1 with fail
  generalize w.alloc (.cells (opL on k n m v (.slice a us.length c) r).toArray 45) = W at O HB HN HV HP HGW ⊢
  have hc1 := O.out.c1
  have hc7 := O.out.c7
  go_wp2_with fail
  refine (lent_any W a c us HV.out hl).mono ?_
  rintro e w1 ⟨g, cap, rfl, hL, hg, b1⟩
  have HL1 := Lib.hid hL
  have HB1 := Lib.hid b1
  have O1 := Lib.hid (O.out.below b1)
  have hgl : g < w1.heap.size := hL.lt
  have hWw := HB.out.size
  have hwg : w.heap.size ≤ g := by omega
  have hOw : w.heap.size < W.heap.size := O.out.lt
  have HGE : Hid (¬ E g) := fun e => by have := HES.out g e; omega
  have HOE : Hid (¬ E w.heap.size) := fun e => by have := HES.out _ e; omega
  clear hL b1 hc1 hc7
  have hc1 := O1.out.c1
  have hc7 := O1.out.c7
  have HLS := Lib.hid (lists_any (HN.out.keep HB1.out) (HP.out.keep HB1.out) hnb (by omega) k HL1.out HGE.out a c (HV.out.below HB1.out) HVE.out hl)
  go_wp2_with fail
  refine HLS.out.mono ?_
  rintro e w2 ⟨rfl, E1, hp2, hg2⟩
  have hL2 := HL1.out.block (hg2.1.block g hgl HGE.out)
  have HL2 := Lib.hid hL2
  have O2 : Hid (OpAt w2 w.heap.size on k n m v (.slice a us.length c) r) := (hg2.1.block _ O1.out.lt HOE.out).trans O1.out
  have HP2 := Lib.hid hp2
  have HG2 : Hid (Gs E E1 w w2) := (HGW.out.keep HB1.out).trans hg2
  have HX2 := Lib.hid ((HN.out.keep HB1.out).tc hg2.1 hnb)
  have hg2l : g < w2.heap.size := hL2.lt
  have HV2 := Lib.hid ((HV.out.below HB1.out).tc rfl hg2.1 HVE.out)
  have HE1 : Hid (∀ q, E1 q → q < w2.heap.size ∧ q ≠ g ∧ q ≠ b) := fun q hq => ⟨hp2.lt hq, fun e => by
      rcases hg2.2 q hq with h2 | h2
      · exact HGE.out (e ▸ h2)
      · omega, fun e => by
      rcases hg2.2 q hq with h2 | h2
      · exact hnb (e ▸ h2)
      · have := HB1.out.size; omega⟩
  have hl1 := lsV_len k mo vs us
  generalize lsV k mo vs us = vs1 at HP2 hl1
  clear hp2 hg2 hL2 hc1 hc7 HL1 O1 HLS hgl HP HGW HN
  have hc7 := O2.out.c7
  have iw : IntKind.i64.wrap ((us.length : Int) - 1) = (us.length : Int) - 1 := by rw [IntKind.wrap_i64]; omega
  have HL1' : Hid (vs1.length ≤ vs.length + 24) := hl1
  clear hl1
  go_wp2
  clear hc7
  go_loopw [10, 11] (fun o i wr => ∃ k : Nat, k ≤ us.length ∧ i = .int .i64 ((us.length : Int) - 1 - (k : Int)) ∧ Hid (wr.ownsRow w2.heap.size 39 3 o k ((us.reverse.take k).flatMap V.cells) ∧ Below w2.heap.size w2 wr)) (fun _ i _ => (intOf i + 1).toNat)
  case atStart => exact ⟨0, Nat.zero_le _, by simp, World.ownsRow_nil _ _ _ _, Below.refl _ _⟩
  case round =>
    obtain ⟨q, hq, rfl, HI⟩ := hrel
    by_cases hlt : q < us.length
    · have hc7 := (O2.out.below HI.out.2).c7
      obtain ⟨gl, off, rfl, hgl, x0, x1, x2⟩ := (HV2.out.below HI.out.2).at (i := us.length - 1 - q) (by omega)
      have i0 : (0 : Int) ≤ (us.length : Int) - 1 - (q : Int) := by omega
      have i1 : (us.length : Int) - 1 - (q : Int) < (us.length : Int) := by omega
      have i2 : ((us.length : Int) - 1 - (q : Int)).toNat = us.length - 1 - q := by omega
      have i3 : IntKind.i64.wrap ((us.length : Int) - 1 - (q : Int) - 1) = (us.length : Int) - 1 - ((q + 1 : Nat) : Int) := by rw [IntKind.wrap_i64]; omega
      have hlr : q < us.reverse.length := by simpa using hlt
      obtain ⟨o', w', h1, h2, h3, _⟩ := app_one (vs := us.reverse.take q) (by simp; omega) HI.out.1 HI.out.2 HI.out.2.size (by omega) (atV us (us.length - 1 - q)) 40
      have HX : Hid (w'.ownsRow w2.heap.size 39 3 o' (q + 1) ((us.reverse.take (q + 1)).flatMap V.cells) ∧ Below w2.heap.size w2 w') := ⟨by rw [take_atV hlr, atV_rev hlt]; exact h2, h3⟩
      generalize atV us (us.length - 1 - q) = u at x0 x1 x2 h1
      clear h2 h3 HI
      go_wp2
      go_roundw
      case rel => exact ⟨q + 1, by omega, by first | rfl | (rw [i3]) | go_num, HX⟩
      case measure => simp [intOf]; omega
    · obtain rfl : q = us.length := by omega
      have hrl : us.reverse.length = us.length := List.length_reverse
      have hown := HI.out.1
      rw [List.take_of_length_le (Nat.le_of_eq hrl)] at hown
      obtain ⟨ab, cb, rfl, hm, _⟩ := ownsRow_form hown
      have HL3 := Lib.hid (HL2.out.below HI.out.2)
      have HW3 : Hid (Tc (fun k => k = g) w2 wr) := Tc.of HI.out.2
      have HO3 := Lib.hid hown
      have i0 : ¬ (0 : Int) ≤ (us.length : Int) - 1 - (us.length : Int) := by omega
      clear HI HL2 hown HV2 iw hm
      go_wp2
      clear i0
      go_loopw [12] (fun i wx => ∃ q : Nat, q ≤ us.length ∧ i = .int .i64 q ∧ Hid (LentAt wx W.heap.size g cap (turnT us q) ∧ wx.ownsRow w2.heap.size 39 3 (.slice ab us.length cb) us.length (us.reverse.flatMap V.cells) ∧ Tc (fun k => k = g) w2 wx)) (fun i _ => us.length - (intOf i).toNat)
      case atStart => exact ⟨0, Nat.zero_le _, rfl, by rw [turnT_0]; exact HL3.out, HO3.out, HW3.out⟩
      case round =>
        obtain ⟨q, hq, rfl, HI⟩ := hrel
        clear HL3 HO3 HW3
        by_cases hlt : q < us.length
        · have hlt' : (q : Int) < (us.length : Int) := by omega
          have hq0 : (0 : Int) ≤ (q : Int) := by omega
          have htl := turnT_len us q hq
          obtain ⟨_, c0, c1, c2⟩ := HI.out.1.at (i := q) (by omega)
          have f0 := HI.out.1.frozen (q * 3)
          have f1 := HI.out.1.frozen (q * 3 + 1)
          have f2 := HI.out.1.frozen (q * 3 + 2)
          have ho := HI.out.2.1
          rw [← hrl] at ho
          obtain ⟨gb, cb', e, y0, y1, y2⟩ := row_at ho (i := q) (by omega)
          have hgb := (ho.lt gb (by rw [e]; rfl)).1
          rw [hrl] at e
          cases e
          have hpl := HI.out.1.put (i := q) (by omega) (atV us.reverse q)
          rw [turnT_set hlt] at hpl
          have hpo : (put3 wr g q (atV us.reverse q)).ownsRow w2.heap.size 39 3 (.slice (some ⟨gb, 0, none⟩) us.length cb) us.length (us.reverse.flatMap V.cells) := ownsRow_of_block HI.out.2.1 (fun g' hg' => by
            have : gb = g' := by simpa [Value.ownBlock] using hg'
            subst this
            exact put3_other (by omega))
          have HX := Lib.hid (And.intro hpl (And.intro hpo (put3_tc (j := q) (u := atV us.reverse q) HI.out.2.2 rfl)))
          clear HI hpl hpo ho htl
          unfold put3 at HX
          generalize atV us.reverse q = u at y0 y1 y2 HX
          generalize atV (turnT us q ++ marks 70) q = u2 at c0 c1 c2
          go_wp2
          go_roundw
          case rel => exact ⟨q + 1, by omega, by go_num, HX⟩
          case measure => simp [intOf]; omega
        · obtain rfl : q = us.length := by omega
          have hL := HI.out.1
          rw [turnT_n] at hL
          have ht := HI.out.2.2
          have hLv : Lv wr (.slice ab us.length cb) us.reverse := lv_of_row (by rw [hrl]; exact HI.out.2.1) (fun x hx => HV.out.1 x (List.mem_reverse.1 hx))
          have hLv' : Lv wr (.slice ab us.reverse.length cb) us.reverse := by rw [hrl]; exact hLv
          have hPr : Pa wr pT pR mo mb vs1 vs1 E1 := HP2.out.blocks (fun q hq => ht.block q (HE1.out q hq).1 (HE1.out q hq).2.1)
          have hBr : Bx wr b o pT pR := HX2.out.tc ht (by omega)
          have hAb : Apt E1 ab us.reverse.length := fun _ g' off e hE => by
            have h1 := (HE1.out g' hE).1
            rcases HI.out.2.1.2 with ⟨e2, _⟩ | ⟨g2, cap2, cur2, e2, hg2, _⟩
            · injection e2 with e3 _ _
              rw [e3] at e
              cases e
            · injection e2 with e3 _ _
              rw [e3] at e
              injection e with e
              injection e with e _ _
              omega
          have HC := lists_any hBr hPr (fun e => (HE1.out b e).2.2 rfl) (by have := HL1'.out; omega) k hL (fun e => (HE1.out g e).2.1 rfl) ab cb hLv' hAb (by rw [hrl]; exact hl)
          rw [hrl] at HC
          have HCC := Lib.hid HC
          have hc1 : wr.cell? ⟨w.heap.size, 1, none⟩ = some (.int .i64 k) := ht.cell O2.out.lt (by omega) O2.out.c1
          have HTT := Lib.hid ht
          clear HC hL hLv hLv' HI ht hPr hBr hAb
          go_wp2_with fail
          refine HCC.out.mono ?_
          rintro e w9 ⟨rfl, E2, hp9, hg9⟩
          have HF := Lib.hid (And.intro hp9 (gs_mid HG2.out HTT.out hwg hg9))
          clear hp9 hg9 HCC
          go_wp2
          go_ret
          exact ⟨rfl, _, E2, HF.out.1, HF.out.2, by have := lsV_len k mo vs1 us.reverse; have := HL1'.out; omega⟩
end
end Go.Proofs.Ythdcgikhcghigaa
