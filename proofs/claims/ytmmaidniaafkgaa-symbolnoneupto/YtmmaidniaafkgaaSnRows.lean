import Derived.Test.YtmmaidniaafkgaaSnOp
namespace Go.Proofs.Ytmmaidniaafkgaa
open Go.RowKit Go.Maps Go.Shelf
set_option linter.unusedVariables false
set_option linter.unusedSimpArgs false
attribute [local go_sem ↓] Go.wp_at_zero Go.wp_at_succ

theorem same_nil (w : World) : Calls Try.prog 22 #[.slice none 0 0, .slice none 0 0] w fun e w' => e = .returned (.bool true) ∧ Below w.heap.size w w' :=
  same_self w none none 0 0 [] ⟨by simp, by simp, none, 0, rfl, fun i hi => absurd hi (by simp)⟩ ⟨by simp, by simp, none, 0, rfl, fun i hi => absurd hi (by simp)⟩ (by simp)
set_option maxHeartbeats 3200000 in
set_option maxRecDepth 100000 in
theorem rows_tuple {w : World} {t : Nat} {p : Value} (h : BothNo w t p) (on n m : Int) (v : V) (a : Option Addr) (c : Nat) (us : List V) (r : List Int) (hr : r.length = 24) :
    Calls Try.prog 13 #[.pointer (some ⟨t, 0, none⟩), .agg (opL on 6 n m v (.slice a us.length c) r).toArray] w fun e w' => e = .returned (.bool true) ∧ Below w.heap.size w w' := by
  have O := Lib.hid (opAt_new w on 6 n m v (.slice a us.length c) r)
  have HB := Lib.hid (belowA (w := w) (.cells (opL on 6 n m v (.slice a us.length c) r).toArray 31))
  have HN := Lib.hid (h.below HB.out)
  have hur := Try.underlying29
  have hir : (Try.prog.info? 29).map (·.size) = some (List.map cellI r).length := by rw [List.length_map, hr]; exact infoRow
  clear h
  go_enter Try.func13, Try.ntmps13
  go_upto_region 1 with fail
  generalize w.alloc (.cells (opL on 6 n m v (.slice a us.length c) r).toArray 31) = W at O HB HN ⊢
  have hc1 := O.out.c1
  go_upto_region 2 with fail
  clear hc1
  have hB0 : Below W.heap.size W W.drew := (Below.refl _ _).drew
  have HS : Hid (∀ u, Below W.heap.size W u → Below W.heap.size W u ∧ u.cell? ⟨t, 0, none⟩ = some p ∧ u.cell? ⟨w.heap.size, 2, none⟩ = some (.int .i64 n) ∧ u.rangeAt w.heap.size 8 (List.map cellI r)) := fun u hu => ⟨hu, (HN.out.below hu).c0, (O.out.below hu).c2, (O.out.below hu).row⟩
  have HS2 : Hid (∀ u, Below W.heap.size W u → u.cell? ⟨t, 1, none⟩ = some (.pointer none) ∧ u.cell? ⟨w.heap.size, 2, none⟩ = some (.int .i64 n) ∧ u.rangeAt w.heap.size 8 (List.map cellI r)) := fun u hu => ⟨(HN.out.below hu).c1, (O.out.below hu).c2, (O.out.below hu).row⟩
  go_region_held3 (fun u => Below W.heap.size W u ∧ u.cell? ⟨t, 0, none⟩ = some p ∧ u.cell? ⟨w.heap.size, 2, none⟩ = some (.int .i64 n) ∧ u.rangeAt w.heap.size 8 (List.map cellI r))
    (first | assumption | exact HS.out _ hB0 | exact HS.out _ (by assumption))
    (first
      | (go_at_call 20; refine (tuple_no (HN.out.below hB0).no _ n).mono ?_; rintro ee w2 ⟨rfl, b2⟩; have b2' : Below W.heap.size W w2 := hB0.trans (b2.mono hB0.size); clear b2)
      | fail)
  simp only [Exit.then]
  go_at_K
  clear hB0 HS
  have HB2 := Lib.hid b2'
  have HS3 : Hid (∀ u, Below w2.heap.size w2 u → Below w2.heap.size w2 u ∧ u.cell? ⟨t, 1, none⟩ = some (.pointer none) ∧ u.cell? ⟨w.heap.size, 2, none⟩ = some (.int .i64 n) ∧ u.rangeAt w.heap.size 8 (List.map cellI r)) := fun u hu => ⟨hu, HS2.out u (HB2.out.trans (hu.mono HB2.out.size))⟩
  clear b2' HS2
  go_upto_region 3 with fail
  have hB0 : Below w2.heap.size w2 w2.drew := (Below.refl _ _).drew
  go_region_held3 (fun u => Below w2.heap.size w2 u ∧ u.cell? ⟨t, 1, none⟩ = some (.pointer none) ∧ u.cell? ⟨w.heap.size, 2, none⟩ = some (.int .i64 n) ∧ u.rangeAt w.heap.size 8 (List.map cellI r))
    (first | assumption | exact HS3.out _ hB0 | exact HS3.out _ (by assumption))
    (first
      | (go_at_call 21; refine (rtuple_nil _ n).mono ?_; rintro ee w3 ⟨rfl, b3⟩; have b3' : Below w2.heap.size w2 w3 := hB0.trans (b3.mono hB0.size); clear b3)
      | fail)
  simp only [Exit.then]
  go_at_K
  clear HS3 hB0
  have HB3 := Lib.hid (HB.out.trans ((HB2.out.trans (b3'.mono HB2.out.size)).mono HB.out.size))
  clear b3' HB2 HB
  go_wp2_with fail
  refine (same_nil _).mono ?_
  rintro e w4 ⟨rfl, b4⟩
  go_wp2
  go_ret
  exact ⟨rfl, HB3.out.trans (b4.mono HB3.out.size)⟩
/-- how far a list is written over from its end -/
def turnT (us : List V) (i : Nat) : List V := us.reverse.take i ++ us.drop i
theorem turnT_len (us : List V) (i : Nat) (h : i ≤ us.length) : (turnT us i).length = us.length := by simp [turnT]; omega
theorem turnT_0 (us : List V) : turnT us 0 = us := by simp [turnT]
theorem turnT_n (us : List V) : turnT us us.length = us.reverse := by
  unfold turnT
  rw [List.take_of_length_le (by simp), List.drop_of_length_le (Nat.le_refl _), List.append_nil]
theorem atV_get {us : List V} {i : Nat} (h : i < us.length) : us[i]? = some (atV us i) := by
  unfold atV
  simp [List.getD, List.getElem?_eq_getElem h]
theorem turnT_set {us : List V} {i : Nat} (h : i < us.length) : (turnT us i).set i (atV us.reverse i) = turnT us (i + 1) := by
  unfold turnT
  have hl : (us.reverse.take i).length = i := by simp; omega
  have h' : i < us.reverse.length := by simpa using h
  rw [List.set_append_right _ _ (by omega), hl, Nat.sub_self, List.drop_eq_getElem_cons h, List.set_cons_zero, List.take_add_one, atV_get h']
  simp
theorem atV_rev {us : List V} {k : Nat} (h : k < us.length) : atV us.reverse k = atV us (us.length - 1 - k) := by
  unfold atV
  simp [List.getD, List.getElem?_reverse h]
theorem take_atV {us : List V} {k : Nat} (h : k < us.length) : us.take (k + 1) = us.take k ++ [atV us k] := by
  rw [List.take_add_one, atV_get h]
  rfl
attribute [-go_sem] Builtin.append_
set_option maxHeartbeats 3200000 in
set_option maxRecDepth 100000 in
theorem rows_list {w : World} {t : Nat} {p : Value} (h : BothNo w t p) (on k n m : Int) (v : V) (a : Option Addr) (c : Nat) (us : List V) (r : List Int) (hk : k ≠ 6) (hv : Lv w (.slice a us.length c) us) (hl : us.length ≤ 1048576) :
    Calls Try.prog 13 #[.pointer (some ⟨t, 0, none⟩), .agg (opL on k n m v (.slice a us.length c) r).toArray] w fun e w' => e = .returned (.bool true) ∧ Below w.heap.size w w' := by
  have O := Lib.hid (opAt_new w on k n m v (.slice a us.length c) r)
  have HB := Lib.hid (belowA (w := w) (.cells (opL on k n m v (.slice a us.length c) r).toArray 31))
  have HN := Lib.hid (h.below HB.out)
  have HV := Lib.hid (hv.below HB.out)
  have e6 : ((k : Int) == 6) = false := by simpa using hk
  clear hv
  clear h
  go_enter Try.func13, Try.ntmps13
  go_upto_region 1 with fail
  generalize w.alloc (.cells (opL on k n m v (.slice a us.length c) r).toArray 31) = W at O HB HN HV ⊢
  have hc1 := O.out.c1
  have hc7 := O.out.c7
  go_wp2_with fail
  refine (lent_any W a c us HV.out hl).mono ?_
  rintro e w1 ⟨g, cap, rfl, hL, hg, b1⟩
  have HL1 := Lib.hid hL
  have HB1 := Lib.hid b1
  have O1 := Lib.hid (O.out.below b1)
  have hgl : g < w1.heap.size := (hL.2.2.lt g rfl).2
  have hWw := HB.out.size
  have hwg : w.heap.size ≤ g := by omega
  have OW := O
  clear hL b1 hc1 hc7 O hWw
  have hc1 := O1.out.c1
  have hc7 := O1.out.c7
  go_wp2_with fail
  refine (lists_any (HN.out.below HB1.out) k HL1.out a c (HV.out.below HB1.out) hl).mono ?_
  rintro e w2 ⟨rfl, b2⟩
  have HL2 := Lib.hid (HL1.out.below b2)
  have O2 := Lib.hid (O1.out.below b2)
  have HB2 := Lib.hid (HB1.out.trans (b2.mono HB1.out.size))
  have hg2 : g < w2.heap.size := Nat.lt_of_lt_of_le hgl b2.size
  clear b2 hc1 hc7 HL1 O1 HB1 hgl
  have hc7 := O2.out.c7
  have iw : IntKind.i64.wrap ((us.length : Int) - 1) = (us.length : Int) - 1 := by rw [IntKind.wrap_i64]; omega
  have HV2 := Lib.hid (HV.out.below HB2.out)
  go_wp2
  clear hc7
  go_loopw [10, 11] (fun o i wr => ∃ k : Nat, k ≤ us.length ∧ i = .int .i64 ((us.length : Int) - 1 - (k : Int)) ∧ Hid (wr.ownsRow w2.heap.size 25 3 o k ((us.reverse.take k).flatMap V.cells) ∧ Below w2.heap.size w2 wr)) (fun _ i _ => (intOf i + 1).toNat)
  case atStart => exact ⟨0, Nat.zero_le _, by simp, World.ownsRow_nil _ _ _ _, Below.refl _ _⟩
  case round =>
    obtain ⟨q, hq, rfl, HI⟩ := hrel
    by_cases hlt : q < us.length
    · have hc7 := (O2.out.below HI.out.2).c7
      obtain ⟨gl, off, rfl, hgl, x0, x1, x2⟩ := (HV2.out.below HI.out.2).at (i := us.length - 1 - q) (by omega)
      have i0 : (0 : Int) ≤ (us.length : Int) - 1 - (q : Int) := by omega
      have i1 : (us.length : Int) - 1 - (q : Int) < (us.length : Int) := by omega
      have i2 : ((us.length : Int) - 1 - (q : Int)).toNat = us.length - 1 - q := by omega
      have i3 : IntKind.i64.wrap ((us.length : Int) - 1 - (q : Int) - 1) = (us.length : Int) - 1 - ((q + 1 : Nat) : Int) := by rw [IntKind.wrap_i64]; omega
      have hlr : q < us.reverse.length := by simpa using hlt
      obtain ⟨o', w', h1, h2, h3, _⟩ := app_one (vs := us.reverse.take q) (by simp; omega) HI.out.1 HI.out.2 HI.out.2.size (by omega) (atV us (us.length - 1 - q)) 26
      have HX : Hid (w'.ownsRow w2.heap.size 25 3 o' (q + 1) ((us.reverse.take (q + 1)).flatMap V.cells) ∧ Below w2.heap.size w2 w') := ⟨by rw [take_atV hlr, atV_rev hlt]; exact h2, h3⟩
      generalize atV us (us.length - 1 - q) = u at x0 x1 x2 h1
      clear h2 h3 HI
      go_wp2
      go_roundw
      case rel => exact ⟨q + 1, by omega, by first | rfl | (rw [i3]) | go_num, HX⟩
      case measure => simp [intOf]; omega
    · obtain rfl : q = us.length := by omega
      have hrl : us.reverse.length = us.length := List.length_reverse
      have hown := HI.out.1
      rw [List.take_of_length_le (Nat.le_of_eq hrl)] at hown
      obtain ⟨ab, cb, rfl, hm, _⟩ := ownsRow_form hown
      have HL3 := Lib.hid (HL2.out.below HI.out.2)
      have HW3 := Lib.hid (HB2.out.trans (HI.out.2.mono HB2.out.size))
      have HO3 := Lib.hid hown
      have i0 : ¬ (0 : Int) ≤ (us.length : Int) - 1 - (us.length : Int) := by omega
      clear HI HL2 HB2 hown HV2 O2 iw hm
      go_wp2
      clear i0
      go_loopw [12] (fun i wx => ∃ q : Nat, q ≤ us.length ∧ i = .int .i64 q ∧ Hid (LentAt wx W.heap.size g cap (turnT us q) ∧ wx.ownsRow w2.heap.size 25 3 (.slice ab us.length cb) us.length (us.reverse.flatMap V.cells) ∧ Below W.heap.size W wx)) (fun i _ => us.length - (intOf i).toNat)
      case atStart => exact ⟨0, Nat.zero_le _, rfl, by rw [turnT_0]; exact HL3.out, HO3.out, HW3.out⟩
      case round =>
        obtain ⟨q, hq, rfl, HI⟩ := hrel
        clear HL3 HO3 HW3
        by_cases hlt : q < us.length
        · have hlt' : (q : Int) < (us.length : Int) := by omega
          have hq0 : (0 : Int) ≤ (q : Int) := by omega
          have htl := turnT_len us q hq
          obtain ⟨_, c0, c1, c2⟩ := HI.out.1.at (i := q) (by omega)
          have f0 := HI.out.1.frozen (q * 3)
          have f1 := HI.out.1.frozen (q * 3 + 1)
          have f2 := HI.out.1.frozen (q * 3 + 2)
          have ho := HI.out.2.1
          rw [← hrl] at ho
          obtain ⟨gb, cb', e, y0, y1, y2⟩ := row_at ho (i := q) (by omega)
          have hgb := (ho.lt gb (by rw [e]; rfl)).1
          rw [hrl] at e
          cases e
          have hpl := HI.out.1.put (i := q) (by omega) (atV us.reverse q)
          rw [turnT_set hlt] at hpl
          have hpo : (put3 wr g q (atV us.reverse q)).ownsRow w2.heap.size 25 3 (.slice (some ⟨gb, 0, none⟩) us.length cb) us.length (us.reverse.flatMap V.cells) := ownsRow_of_block HI.out.2.1 (fun g' hg' => by
            have : gb = g' := by simpa [Value.ownBlock] using hg'
            subst this
            exact put3_other (by omega))
          have HX := Lib.hid (And.intro hpl (And.intro hpo (put3_below (j := q) (u := atV us.reverse q) HI.out.2.2 hg)))
          clear HI hpl hpo ho htl
          unfold put3 at HX
          generalize atV us.reverse q = u at y0 y1 y2 HX
          generalize atV (turnT us q ++ marks 70) q = u2 at c0 c1 c2
          go_wp2
          go_roundw
          case rel => exact ⟨q + 1, by omega, by go_num, HX⟩
          case measure => simp [intOf]; omega
        · obtain rfl : q = us.length := by omega
          have hL := HI.out.1
          rw [turnT_n] at hL
          have hb := HI.out.2.2
          have hLv : Lv wr (.slice ab us.length cb) us.reverse := lv_of_row (by rw [hrl]; exact HI.out.2.1) (fun x hx => HV.out.1 x (List.mem_reverse.1 hx))
          have hLv' : Lv wr (.slice ab us.reverse.length cb) us.reverse := by rw [hrl]; exact hLv
          have HC := lists_any (HN.out.below hb) k hL ab cb hLv' (by rw [hrl]; exact hl)
          rw [hrl] at HC
          have HCC := Lib.hid HC
          have hc1 := (OW.out.below hb).c1
          have HBB := Lib.hid (HB.out.trans (hb.mono HB.out.size))
          clear HC hL hLv hLv' HI hb
          go_wp2_with fail
          refine HCC.out.mono ?_
          rintro e w9 ⟨rfl, b9⟩
          go_wp2
          go_ret
          exact ⟨rfl, HBB.out.trans (b9.mono HBB.out.size)⟩
end Go.Proofs.Ytmmaidniaafkgaa
