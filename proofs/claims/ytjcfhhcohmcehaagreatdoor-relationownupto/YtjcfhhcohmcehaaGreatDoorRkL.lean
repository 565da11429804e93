import Derived.Test.YtjcfhhcohmcehaaGreatDoorRkR
namespace Go.Proofs.YtjcfhhcohmcehaaGreatDoor.BK
open Go.RowKit Go.Maps
set_option linter.unusedVariables false
set_option linter.unusedSimpArgs false
attribute [local go_sem ↓] Go.wp_at_zero Go.wp_at_succ

theorem region_RB {P : Program} {id : Nat} {ops : Array Oper} {b : Bool} {Q : Exit → Act → World → Prop} {a : Act} {w : World} (R : World → Prop)
    (h : ∃ A, (Code.region id ops b).wp P (fun e a' w' => e = .normal ∧ a' = A ∧ R w') a w ∧ ∀ w', R w' → Q .normal A w') : (Code.region id ops b).wp P Q a w := by
  obtain ⟨A, h, hk⟩ := h
  exact Code.wp_mono (fun e a' w' h => by obtain ⟨rfl, rfl, hr⟩ := h; exact hk _ hr) h
theorem load_slI {u : World} {g o : Nat} {a : Option Addr} {n c : Nat} (h : u.cell? ⟨g, o, none⟩ = some (.slice a n c)) : (loadVar 33 ⟨g, o, none⟩).run Tryz.prog u = .ok (.slice a n c) u := by go_simp
theorem load_slR {u : World} {g o : Nat} {a : Option Addr} {n c : Nat} (h : u.cell? ⟨g, o, none⟩ = some (.slice a n c)) : (loadVar 30 ⟨g, o, none⟩).run Tryz.prog u = .ok (.slice a n c) u := by go_simp
theorem load_intB {u : World} {g o : Nat} {n : Int} (h : u.cell? ⟨g, o, none⟩ = some (.int .i64 n)) : (loadVar 3 ⟨g, o, none⟩).run Tryz.prog u = .ok (.int .i64 n) u := by go_simp
/-- what stands at a place of a list full of marks -/
theorem markI_at {S : Nat} {w : World} {v : Value} {n m : Nat} {xs : List (KI).α} (hl : xs.length = n) (h : Ls w v n (xs.flatMap ((KI).cel m))) (hg : Gd KI S none w m xs) (hm : m ≤ 2000000000) :
    ∃ a c, v = .slice a n c ∧ (0 < n → ∃ g off, a = some ⟨g, off, none⟩ ∧ ∀ k, k < n → ∃ X, ∀ u, Below w.heap.size w u → (loadVar 3 ⟨g, off + k, none⟩).run Tryz.prog u = .ok X u ∧ Calls Tryz.prog 194 #[X, .int .i64 m] u fun e w' => e = .returned (.bool true) ∧ Below u.heap.size u w') := by
  subst hl
  obtain ⟨a, c, h1, h2, h3, h4⟩ := ls_range (f := (KI).cel m) (k := 1) ((KI).len m) () h
  refine ⟨a, c, h1, fun h0 => ?_⟩
  obtain ⟨g, off, h5, h6, h7⟩ := h4 h0
  refine ⟨g, off, h5, fun k hk => ?_⟩
  have h8 := h7 k hk
  refine ⟨.int .i64 (-1000 - (m : Int)), fun u hu => ⟨?_, isIn m hm u⟩⟩
  have := (range_below h8 hu h6) 0 _ rfl
  rw [Nat.mul_one, Nat.add_zero] at this
  exact load_intB this
set_option maxHeartbeats 6400000 in
set_option maxRecDepth 100000 in
theorem lookI_any {w : World} {bk B n S : Nat} {vI vR : Value} {hsI hsR : List Hd} (hB : Bk w bk B n vI vR hsI hsR) (hD : ∀ h ∈ hsI, Dn KI S w h) (hnum : ∀ h ∈ hsI, h.m ≤ 2000000000 ∧ h.n ≤ 2097152) (hlen : hsI.length ≤ 1000000000) :
    Calls Tryz.prog 150 #[.pointer (some ⟨bk, 0, none⟩)] w fun e w' => e = .returned (.bool true) ∧ Below w.heap.size w w' := by
  have HBK : Hid (∀ u, Below w.heap.size w u → Bk u bk B n vI vR hsI hsR) := fun u hu => hB.below hu
  have HD : Hid (∀ u, Below w.heap.size w u → ∀ h ∈ hsI, Dn KI S u h) := fun u hu h hm => (hD h hm).keep hu.size (fun g hg _ => hu.block g hg)
  have HN := Lib.hid hnum
  obtain ⟨av, cv, hvv, _⟩ := own_form hB.rI
  clear hB hD hnum
  subst hvv
  go_enter Tryz.func150, Tryz.ntmps150
  go_wp2
  go_loopw [3] (fun iv wr => ∃ i : Nat, i ≤ hsI.length ∧ iv = .int .i64 i ∧ Hid (Below w.heap.size w wr)) (fun iv _ => hsI.length - (intOf iv).toNat)
  case atStart => exact ⟨0, Nat.zero_le _, rfl, Below.refl _ _⟩
  case round =>
    obtain ⟨i, hi, rfl, HT⟩ := hrel
    have HBR := Lib.hid (HBK.out wr HT.out)
    have m1 := HBR.out.box.at (j := 14) rfl
    by_cases hlt : i < hsI.length
    · have hlt' : (i : Int) < (hsI.length : Int) := by omega
      have hi0 : (0 : Int) ≤ (i : Int) := by omega
      obtain ⟨r, cr, e1, _, _, _, hrow⟩ := rowAt HBR.out.rI (by omega)
      simp only [Value.slice.injEq] at e1
      obtain ⟨rfl, _, rfl⟩ := e1
      have HH := Lib.hid (hrow i hlt)
      have HNM := Lib.hid (HN.out _ (atH_mem hlt))
      have hA : Below wr.heap.size wr (wr.alloc (.cells #[.slice (atH hsI i).a (atH hsI i).n (atH hsI i).c, .slice (atH hsI i).la (atH hsI i).ln (atH hsI i).lc, .int .i64 (atH hsI i).m] 108)) := (Below.refl _ _).alloc (Nat.le_refl _) _
      have HBOX := Lib.hid (rl_new wr #[.slice (atH hsI i).a (atH hsI i).n (atH hsI i).c, .slice (atH hsI i).la (atH hsI i).ln (atH hsI i).lc, .int .i64 (atH hsI i).m] 108)
      have HDN := Lib.hid (HD.out _ (HT.out.trans (hA.mono HT.out.size)) _ (atH_mem hlt))
      have HTA := Lib.hid (HT.out.trans (hA.mono HT.out.size))
      obtain ⟨h, hh⟩ : ∃ h, h = atH hsI i := ⟨_, rfl⟩
      rw [← hh] at HH HNM HDN HBOX HTA
      have y0 : wr.cell? ⟨r, i * 3, none⟩ = some (.slice h.a h.n h.c) := HH.out 0 _ rfl
      have y1 : wr.cell? ⟨r, i * 3 + 1, none⟩ = some (.slice h.la h.ln h.lc) := HH.out 1 _ rfl
      have y2 : wr.cell? ⟨r, i * 3 + 2, none⟩ = some (.int .i64 h.m) := HH.out 2 _ rfl
      have hn1 := HNM.out.2
      have hwl : IntKind.i64.wrap ((h.n : Int) + 70) = (h.n : Int) + 70 := by rw [IntKind.wrap_i64]; omega
      have HLN := Lib.hid HDN.out.ln
      have hne : ((h.ln : Int) != (h.n : Int) + 70) = false := by rw [HLN.out]; simp
      have b0 := HBOX.out.at (j := 0) rfl
      have b1 := HBOX.out.at (j := 1) rfl
      clear hh hrow hA HH
      obtain ⟨W1, rfl⟩ : ∃ W1, W1 = wr := ⟨_, rfl⟩
      go_wp2
      generalize W1.alloc (.cells #[.slice h.a h.n h.c, .slice h.la h.ln h.lc, .int .i64 h.m] 108) = Wb at HBOX HTA HDN b0 b1 ⊢
      clear y0 y1 y2 m1 b0 b1 hwl
      have hlnb : h.ln ≤ 2097222 := by rw [HLN.out]; omega
      go_loopw [5] (fun kv wr => ∃ k : Nat, k ≤ h.ln ∧ kv = .int .i64 k ∧ Hid (Below Wb.heap.size Wb wr)) (fun kv _ => h.ln - (intOf kv).toNat)
      case atStart => exact ⟨0, Nat.zero_le _, rfl, Below.refl _ _⟩
      case round =>
        obtain ⟨k, hk, rfl, HW⟩ := hrel
        have HBI : Hid (∀ u, Below wr.heap.size wr u → RL u W1.heap.size 108 [.slice h.a h.n h.c, .slice h.la h.ln h.lc, .int .i64 h.m]) := fun u hu => (HBOX.out.below HW.out).below hu
        have x1 := (HBI.out wr (Below.refl _ _)).at (j := 1) rfl
        by_cases hkl : k < h.ln
        · have hkl' : (k : Int) < (h.ln : Int) := by omega
          obtain ⟨ys, l1, l2, l3⟩ := HDN.out.long
          obtain ⟨a9, c9, e9, h9⟩ := markI_at l1 l2 l3 HNM.out.1
          obtain ⟨g, off, e10, h10⟩ := h9 (by omega)
          obtain ⟨X, hX⟩ := h10 k hkl
          have hla : h.la = some ⟨g, off, none⟩ := by unfold Hd.lv at e9; simp only [Value.slice.injEq] at e9; rw [e9.1, e10]
          have HX : Hid (∀ u, Below wr.heap.size wr u → (loadVar 3 ⟨g, off + k, none⟩).run Tryz.prog u = .ok X u ∧ Calls Tryz.prog 194 #[X, .int .i64 h.m] u fun e w' => e = .returned (.bool true) ∧ Below u.heap.size u w') := fun u hu => hX u (HW.out.trans (hu.mono HW.out.size))
          have HBJ : Hid (∀ u, Below wr.heap.size wr u → RL u W1.heap.size 108 [.slice h.a h.n h.c, .slice (some ⟨g, off, none⟩) h.ln h.lc, .int .i64 h.m]) := fun u hu => by
            have := HBI.out u hu
            rw [hla] at this
            exact this
          clear l1 l2 l3 e9 h9 e10 h10 hX hla
          have HW0 : Hid (Below wr.heap.size wr wr.drew) := (Below.refl _ _).drew
          by_cases hkn : k < h.n
          · have hdk : decide (k < h.n) = true := by simp [hkn]
            obtain ⟨xs, l1, l2, l3⟩ := HDN.out.l
            obtain ⟨a9, c9, e9, h9⟩ := markI_at l1 l2 l3 HNM.out.1
            obtain ⟨g2, off2, e10, h10⟩ := h9 (by omega)
            obtain ⟨Y, hY⟩ := h10 k hkn
            have hla : h.a = some ⟨g2, off2, none⟩ := by unfold Hd.sv at e9; simp only [Value.slice.injEq] at e9; rw [e9.1, e10]
            have HY : Hid (∀ u, Below wr.heap.size wr u → (loadVar 3 ⟨g2, off2 + k, none⟩).run Tryz.prog u = .ok Y u ∧ Calls Tryz.prog 194 #[Y, .int .i64 h.m] u fun e w' => e = .returned (.bool true) ∧ Below u.heap.size u w') := fun u hu => hY u (HW.out.trans (hu.mono HW.out.size))
            have HBH : Hid (∀ u, Below wr.heap.size wr u → RL u W1.heap.size 108 [.slice (some ⟨g2, off2, none⟩) h.n h.c, .slice (some ⟨g, off, none⟩) h.ln h.lc, .int .i64 h.m]) := fun u hu => by
              have := HBJ.out u hu
              rw [hla] at this
              exact this
            clear l1 l2 l3 e9 h9 e10 h10 hY hla hdk
            go_upto_region 10 with fail
            refine region_RB (fun u => Below wr.heap.size wr u) ?_
            apply Exists.intro
            refine ⟨?_, ?_⟩
            · refine wp_region_noPanic ?_
              refine wp_region_held (S := fun u => Below wr.heap.size wr u) (by kernel_rfl) ?_
              refine lregIA (w5 := wr) (S := fun u => Below wr.heap.size wr u) (bx := W1.heap.size) (g := g) (off := off) (nl := h.ln) (cl := h.lc) (nn := h.n) (cc := h.c) (k := k) (m := h.m) (g2 := g2) (off2 := off2) (X := X) (Y := Y) rfl rfl rfl rfl rfl rfl rfl rfl rfl rfl rfl rfl rfl rfl rfl rfl rfl rfl rfl rfl rfl rfl rfl rfl rfl rfl rfl (by kernel_rfl) (by kernel_rfl) (by kernel_rfl) (by kernel_rfl) (by kernel_rfl) (fun _ _ _ _ _ h => h) (by simp) rfl rfl HW0.out (fun u u' h b => h.trans (b.mono h.size)) hkl (by simp [hkn]) (fun u hu => load_slI ((HBH.out u hu).at (j := 0) rfl)) (fun u hu => load_slI ((HBH.out u hu).at (j := 1) rfl)) (fun u hu => load_intB ((HBH.out u hu).at (j := 2) rfl)) (fun u hu => (HX.out u hu).1) (fun u hu => (HX.out u hu).2) hkn (fun u hu => (HY.out u hu).1) (fun u hu => (HY.out u hu).2) ?_
              intro wf hS
              exact NoPanic.normal ⟨rfl, rfl, hS⟩
            intro w10 hb10
            simp (config := { maxSteps := 10000000 }) only [Act.put, List.getElem_toArray, List.getElem_cons_zero, List.getElem_cons_succ, List.setIfInBounds_toArray, List.set_cons_succ, List.set_cons_zero]
            have HBN : Hid (Below Wb.heap.size Wb w10) := HW.out.trans (hb10.mono HW.out.size)
            clear hb10 HX HY HBH HBJ HBI x1
            go_wp2
            go_roundw
            case rel => exact ⟨k + 1, by omega, by go_num, HBN⟩
            case measure => simp [intOf]; omega
          · go_upto_region 10 with fail
            refine region_RB (fun u => Below wr.heap.size wr u) ?_
            apply Exists.intro
            refine ⟨?_, ?_⟩
            · refine wp_region_noPanic ?_
              refine wp_region_held (S := fun u => Below wr.heap.size wr u) (by kernel_rfl) ?_
              refine lregIB (w5 := wr) (S := fun u => Below wr.heap.size wr u) (bx := W1.heap.size) (g := g) (off := off) (nl := h.ln) (cl := h.lc) (nn := h.n) (cc := h.c) (k := k) (m := h.m) (sa := h.a) (X := X) rfl rfl rfl rfl rfl rfl rfl rfl rfl rfl rfl rfl rfl rfl rfl rfl rfl rfl rfl rfl rfl rfl rfl rfl rfl rfl rfl (by kernel_rfl) (by kernel_rfl) (by kernel_rfl) (by kernel_rfl) (fun _ _ _ _ _ h => h) (by simp) rfl rfl HW0.out (fun u u' h b => h.trans (b.mono h.size)) hkl (by simp [hkn]) (fun u hu => load_slI ((HBJ.out u hu).at (j := 0) rfl)) (fun u hu => load_slI ((HBJ.out u hu).at (j := 1) rfl)) (fun u hu => load_intB ((HBJ.out u hu).at (j := 2) rfl)) (fun u hu => (HX.out u hu).1) (fun u hu => (HX.out u hu).2) ?_
              intro wf hS
              exact NoPanic.normal ⟨rfl, rfl, hS⟩
            intro w10 hb10
            simp (config := { maxSteps := 10000000 }) only [Act.put, List.getElem_toArray, List.getElem_cons_zero, List.getElem_cons_succ, List.setIfInBounds_toArray, List.set_cons_succ, List.set_cons_zero]
            have HBN : Hid (Below Wb.heap.size Wb w10) := HW.out.trans (hb10.mono HW.out.size)
            clear hb10 HX HBJ HBI x1
            go_wp2
            go_roundw
            case rel => exact ⟨k + 1, by omega, by go_num, HBN⟩
            case measure => simp [intOf]; omega
        · obtain rfl : k = h.ln := by omega
          have HE : Hid (Below w.heap.size w wr) := HTA.out.trans (HW.out.mono HTA.out.size)
          clear HBI HBOX HDN HBR
          go_wp2
          go_roundw
          case rel => exact ⟨i + 1, by omega, by go_num, HE⟩
          case measure => simp [intOf]; omega
    · obtain rfl : i = hsI.length := by omega
      go_wp2
      go_ret
      exact ⟨rfl, HT.out⟩
/-- what stands at a place of a list full of marks -/
theorem markR_at {S : Nat} {w : World} {v : Value} {n m : Nat} {xs : List (KR).α} (hl : xs.length = n) (h : Ls w v n (xs.flatMap ((KR).cel m))) (hg : Gd KR S none w m xs) (hm : m ≤ 2000000000) :
    ∃ a c, v = .slice a n c ∧ (0 < n → ∃ g off, a = some ⟨g, off, none⟩ ∧ ∀ k, k < n → ∃ X, ∀ u, Below w.heap.size w u → (loadVar 27 ⟨g, off + k * 24, none⟩).run Tryz.prog u = .ok X u ∧ Calls Tryz.prog 195 #[X, .int .i64 m] u fun e w' => e = .returned (.bool true) ∧ Below u.heap.size u w') := by
  subst hl
  obtain ⟨a, c, h1, h2, h3, h4⟩ := ls_range (f := (KR).cel m) (k := 24) ((KR).len m) () h
  refine ⟨a, c, h1, fun h0 => ?_⟩
  obtain ⟨g, off, h5, h6, h7⟩ := h4 h0
  refine ⟨g, off, h5, fun k hk => ?_⟩
  have h8 := h7 k hk
  exact ⟨rowV (mkR m), fun u hu => ⟨run_loadVar_mid u g (off + k * 24) _ ((mkR m).map cellI) _ (range_below h8 hu h6) Tryz.underlying27 rfl (by rw [List.length_map, mkR_len]; kernel_rfl), isRn m hm u⟩⟩
set_option maxHeartbeats 6400000 in
set_option maxRecDepth 100000 in
theorem lookR_any {w : World} {bk B n S : Nat} {vI vR : Value} {hsI hsR : List Hd} (hB : Bk w bk B n vI vR hsI hsR) (hD : ∀ h ∈ hsR, Dn KR S w h) (hnum : ∀ h ∈ hsR, h.m ≤ 2000000000 ∧ h.n ≤ 2097152) (hlen : hsR.length ≤ 1000000000) :
    Calls Tryz.prog 151 #[.pointer (some ⟨bk, 0, none⟩)] w fun e w' => e = .returned (.bool true) ∧ Below w.heap.size w w' := by
  have HBK : Hid (∀ u, Below w.heap.size w u → Bk u bk B n vI vR hsI hsR) := fun u hu => hB.below hu
  have HD : Hid (∀ u, Below w.heap.size w u → ∀ h ∈ hsR, Dn KR S u h) := fun u hu h hm => (hD h hm).keep hu.size (fun g hg _ => hu.block g hg)
  have HN := Lib.hid hnum
  obtain ⟨av, cv, hvv, _⟩ := own_form hB.rR
  clear hB hD hnum
  subst hvv
  go_enter Tryz.func151, Tryz.ntmps151
  go_wp2
  go_loopw [3] (fun iv wr => ∃ i : Nat, i ≤ hsR.length ∧ iv = .int .i64 i ∧ Hid (Below w.heap.size w wr)) (fun iv _ => hsR.length - (intOf iv).toNat)
  case atStart => exact ⟨0, Nat.zero_le _, rfl, Below.refl _ _⟩
  case round =>
    obtain ⟨i, hi, rfl, HT⟩ := hrel
    have HBR := Lib.hid (HBK.out wr HT.out)
    have m1 := HBR.out.box.at (j := 15) rfl
    by_cases hlt : i < hsR.length
    · have hlt' : (i : Int) < (hsR.length : Int) := by omega
      have hi0 : (0 : Int) ≤ (i : Int) := by omega
      obtain ⟨r, cr, e1, _, _, _, hrow⟩ := rowAt HBR.out.rR (by omega)
      simp only [Value.slice.injEq] at e1
      obtain ⟨rfl, _, rfl⟩ := e1
      have HH := Lib.hid (hrow i hlt)
      have HNM := Lib.hid (HN.out _ (atH_mem hlt))
      have hA : Below wr.heap.size wr (wr.alloc (.cells #[.slice (atH hsR i).a (atH hsR i).n (atH hsR i).c, .slice (atH hsR i).la (atH hsR i).ln (atH hsR i).lc, .int .i64 (atH hsR i).m] 110)) := (Below.refl _ _).alloc (Nat.le_refl _) _
      have HBOX := Lib.hid (rl_new wr #[.slice (atH hsR i).a (atH hsR i).n (atH hsR i).c, .slice (atH hsR i).la (atH hsR i).ln (atH hsR i).lc, .int .i64 (atH hsR i).m] 110)
      have HDN := Lib.hid (HD.out _ (HT.out.trans (hA.mono HT.out.size)) _ (atH_mem hlt))
      have HTA := Lib.hid (HT.out.trans (hA.mono HT.out.size))
      obtain ⟨h, hh⟩ : ∃ h, h = atH hsR i := ⟨_, rfl⟩
      rw [← hh] at HH HNM HDN HBOX HTA
      have y0 : wr.cell? ⟨r, i * 3, none⟩ = some (.slice h.a h.n h.c) := HH.out 0 _ rfl
      have y1 : wr.cell? ⟨r, i * 3 + 1, none⟩ = some (.slice h.la h.ln h.lc) := HH.out 1 _ rfl
      have y2 : wr.cell? ⟨r, i * 3 + 2, none⟩ = some (.int .i64 h.m) := HH.out 2 _ rfl
      have hn1 := HNM.out.2
      have hwl : IntKind.i64.wrap ((h.n : Int) + 70) = (h.n : Int) + 70 := by rw [IntKind.wrap_i64]; omega
      have HLN := Lib.hid HDN.out.ln
      have hne : ((h.ln : Int) != (h.n : Int) + 70) = false := by rw [HLN.out]; simp
      have b0 := HBOX.out.at (j := 0) rfl
      have b1 := HBOX.out.at (j := 1) rfl
      clear hh hrow hA HH
      obtain ⟨W1, rfl⟩ : ∃ W1, W1 = wr := ⟨_, rfl⟩
      go_wp2
      generalize W1.alloc (.cells #[.slice h.a h.n h.c, .slice h.la h.ln h.lc, .int .i64 h.m] 110) = Wb at HBOX HTA HDN b0 b1 ⊢
      clear y0 y1 y2 m1 b0 b1 hwl
      have hlnb : h.ln ≤ 2097222 := by rw [HLN.out]; omega
      go_loopw [5] (fun kv wr => ∃ k : Nat, k ≤ h.ln ∧ kv = .int .i64 k ∧ Hid (Below Wb.heap.size Wb wr)) (fun kv _ => h.ln - (intOf kv).toNat)
      case atStart => exact ⟨0, Nat.zero_le _, rfl, Below.refl _ _⟩
      case round =>
        obtain ⟨k, hk, rfl, HW⟩ := hrel
        have HBI : Hid (∀ u, Below wr.heap.size wr u → RL u W1.heap.size 110 [.slice h.a h.n h.c, .slice h.la h.ln h.lc, .int .i64 h.m]) := fun u hu => (HBOX.out.below HW.out).below hu
        have x1 := (HBI.out wr (Below.refl _ _)).at (j := 1) rfl
        by_cases hkl : k < h.ln
        · have hkl' : (k : Int) < (h.ln : Int) := by omega
          obtain ⟨ys, l1, l2, l3⟩ := HDN.out.long
          obtain ⟨a9, c9, e9, h9⟩ := markR_at l1 l2 l3 HNM.out.1
          obtain ⟨g, off, e10, h10⟩ := h9 (by omega)
          obtain ⟨X, hX⟩ := h10 k hkl
          have hla : h.la = some ⟨g, off, none⟩ := by unfold Hd.lv at e9; simp only [Value.slice.injEq] at e9; rw [e9.1, e10]
          have HX : Hid (∀ u, Below wr.heap.size wr u → (loadVar 27 ⟨g, off + k * 24, none⟩).run Tryz.prog u = .ok X u ∧ Calls Tryz.prog 195 #[X, .int .i64 h.m] u fun e w' => e = .returned (.bool true) ∧ Below u.heap.size u w') := fun u hu => hX u (HW.out.trans (hu.mono HW.out.size))
          have HBJ : Hid (∀ u, Below wr.heap.size wr u → RL u W1.heap.size 110 [.slice h.a h.n h.c, .slice (some ⟨g, off, none⟩) h.ln h.lc, .int .i64 h.m]) := fun u hu => by
            have := HBI.out u hu
            rw [hla] at this
            exact this
          clear l1 l2 l3 e9 h9 e10 h10 hX hla
          have HW0 : Hid (Below wr.heap.size wr wr.drew) := (Below.refl _ _).drew
          by_cases hkn : k < h.n
          · have hdk : decide (k < h.n) = true := by simp [hkn]
            obtain ⟨xs, l1, l2, l3⟩ := HDN.out.l
            obtain ⟨a9, c9, e9, h9⟩ := markR_at l1 l2 l3 HNM.out.1
            obtain ⟨g2, off2, e10, h10⟩ := h9 (by omega)
            obtain ⟨Y, hY⟩ := h10 k hkn
            have hla : h.a = some ⟨g2, off2, none⟩ := by unfold Hd.sv at e9; simp only [Value.slice.injEq] at e9; rw [e9.1, e10]
            have HY : Hid (∀ u, Below wr.heap.size wr u → (loadVar 27 ⟨g2, off2 + k * 24, none⟩).run Tryz.prog u = .ok Y u ∧ Calls Tryz.prog 195 #[Y, .int .i64 h.m] u fun e w' => e = .returned (.bool true) ∧ Below u.heap.size u w') := fun u hu => hY u (HW.out.trans (hu.mono HW.out.size))
            have HBH : Hid (∀ u, Below wr.heap.size wr u → RL u W1.heap.size 110 [.slice (some ⟨g2, off2, none⟩) h.n h.c, .slice (some ⟨g, off, none⟩) h.ln h.lc, .int .i64 h.m]) := fun u hu => by
              have := HBJ.out u hu
              rw [hla] at this
              exact this
            clear l1 l2 l3 e9 h9 e10 h10 hY hla hdk
            go_upto_region 10 with fail
            refine region_RB (fun u => Below wr.heap.size wr u) ?_
            apply Exists.intro
            refine ⟨?_, ?_⟩
            · refine wp_region_noPanic ?_
              refine wp_region_held (S := fun u => Below wr.heap.size wr u) (by kernel_rfl) ?_
              refine lregRA (w5 := wr) (S := fun u => Below wr.heap.size wr u) (bx := W1.heap.size) (g := g) (off := off) (nl := h.ln) (cl := h.lc) (nn := h.n) (cc := h.c) (k := k) (m := h.m) (g2 := g2) (off2 := off2) (X := X) (Y := Y) rfl rfl rfl rfl rfl rfl rfl rfl rfl rfl rfl rfl rfl rfl rfl rfl rfl rfl rfl rfl rfl rfl rfl rfl rfl rfl rfl (by kernel_rfl) (by kernel_rfl) (by kernel_rfl) (by kernel_rfl) (by kernel_rfl) (fun _ _ _ _ _ h => h) (by simp) rfl rfl HW0.out (fun u u' h b => h.trans (b.mono h.size)) hkl (by simp [hkn]) (fun u hu => load_slR ((HBH.out u hu).at (j := 0) rfl)) (fun u hu => load_slR ((HBH.out u hu).at (j := 1) rfl)) (fun u hu => load_intB ((HBH.out u hu).at (j := 2) rfl)) (fun u hu => (HX.out u hu).1) (fun u hu => (HX.out u hu).2) hkn (fun u hu => (HY.out u hu).1) (fun u hu => (HY.out u hu).2) ?_
              intro wf hS
              exact NoPanic.normal ⟨rfl, rfl, hS⟩
            intro w10 hb10
            simp (config := { maxSteps := 10000000 }) only [Act.put, List.getElem_toArray, List.getElem_cons_zero, List.getElem_cons_succ, List.setIfInBounds_toArray, List.set_cons_succ, List.set_cons_zero]
            have HBN : Hid (Below Wb.heap.size Wb w10) := HW.out.trans (hb10.mono HW.out.size)
            clear hb10 HX HY HBH HBJ HBI x1
            go_wp2
            go_roundw
            case rel => exact ⟨k + 1, by omega, by go_num, HBN⟩
            case measure => simp [intOf]; omega
          · go_upto_region 10 with fail
            refine region_RB (fun u => Below wr.heap.size wr u) ?_
            apply Exists.intro
            refine ⟨?_, ?_⟩
            · refine wp_region_noPanic ?_
              refine wp_region_held (S := fun u => Below wr.heap.size wr u) (by kernel_rfl) ?_
              refine lregRB (w5 := wr) (S := fun u => Below wr.heap.size wr u) (bx := W1.heap.size) (g := g) (off := off) (nl := h.ln) (cl := h.lc) (nn := h.n) (cc := h.c) (k := k) (m := h.m) (sa := h.a) (X := X) rfl rfl rfl rfl rfl rfl rfl rfl rfl rfl rfl rfl rfl rfl rfl rfl rfl rfl rfl rfl rfl rfl rfl rfl rfl rfl rfl (by kernel_rfl) (by kernel_rfl) (by kernel_rfl) (by kernel_rfl) (fun _ _ _ _ _ h => h) (by simp) rfl rfl HW0.out (fun u u' h b => h.trans (b.mono h.size)) hkl (by simp [hkn]) (fun u hu => load_slR ((HBJ.out u hu).at (j := 0) rfl)) (fun u hu => load_slR ((HBJ.out u hu).at (j := 1) rfl)) (fun u hu => load_intB ((HBJ.out u hu).at (j := 2) rfl)) (fun u hu => (HX.out u hu).1) (fun u hu => (HX.out u hu).2) ?_
              intro wf hS
              exact NoPanic.normal ⟨rfl, rfl, hS⟩
            intro w10 hb10
            simp (config := { maxSteps := 10000000 }) only [Act.put, List.getElem_toArray, List.getElem_cons_zero, List.getElem_cons_succ, List.setIfInBounds_toArray, List.set_cons_succ, List.set_cons_zero]
            have HBN : Hid (Below Wb.heap.size Wb w10) := HW.out.trans (hb10.mono HW.out.size)
            clear hb10 HX HBJ HBI x1
            go_wp2
            go_roundw
            case rel => exact ⟨k + 1, by omega, by go_num, HBN⟩
            case measure => simp [intOf]; omega
        · obtain rfl : k = h.ln := by omega
          have HE : Hid (Below w.heap.size w wr) := HTA.out.trans (HW.out.mono HTA.out.size)
          clear HBI HBOX HDN HBR
          go_wp2
          go_roundw
          case rel => exact ⟨i + 1, by omega, by go_num, HE⟩
          case measure => simp [intOf]; omega
    · obtain rfl : i = hsR.length := by omega
      go_wp2
      go_ret
      exact ⟨rfl, HT.out⟩
end Go.Proofs.YtjcfhhcohmcehaaGreatDoor.BK
