import Derived.Test.YtoagnkbmeafmoaaGreatDoorBkR
import Derived.Test.YtoagnkbmeafmoaaGreatDoorBkB
import Derived.Test.YtoagnkbmeafmoaaGreatDoorSoTl
namespace Go.Proofs.YtoagnkbmeafmoaaGreatDoor
open Go.RowKit Go.Maps
set_option linter.unusedVariables false
set_option linter.unusedSimpArgs false
attribute [local go_sem ↓] Go.wp_at_zero Go.wp_at_succ

theorem region_RB {P : Program} {id : Nat} {ops : Array Oper} {b : Bool} {Q : Exit → Act → World → Prop} {a : Act} {w : World} (R : World → Prop)
    (h : ∃ A, (Code.region id ops b).wp P (fun e a' w' => e = .normal ∧ a' = A ∧ R w') a w ∧ ∀ w', R w' → Q .normal A w') : (Code.region id ops b).wp P Q a w := by
  obtain ⟨A, h, hk⟩ := h
  exact Code.wp_mono (fun e a' w' h => by obtain ⟨rfl, rfl, hr⟩ := h; exact hk _ hr) h
theorem load_slV {u : World} {g o : Nat} {a : Option Addr} {n c : Nat} (h : u.cell? ⟨g, o, none⟩ = some (.slice a n c)) : (loadVar 26 ⟨g, o, none⟩).run Tryz.prog u = .ok (.slice a n c) u := by go_simp
theorem load_slT {u : World} {g o : Nat} {a : Option Addr} {n c : Nat} (h : u.cell? ⟨g, o, none⟩ = some (.slice a n c)) : (loadVar 25 ⟨g, o, none⟩).run Tryz.prog u = .ok (.slice a n c) u := by go_simp
theorem load_slF {u : World} {g o : Nat} {a : Option Addr} {n c : Nat} (h : u.cell? ⟨g, o, none⟩ = some (.slice a n c)) : (loadVar 22 ⟨g, o, none⟩).run Tryz.prog u = .ok (.slice a n c) u := by go_simp
theorem load_intB {u : World} {g o : Nat} {n : Int} (h : u.cell? ⟨g, o, none⟩ = some (.int .i64 n)) : (loadVar 3 ⟨g, o, none⟩).run Tryz.prog u = .ok (.int .i64 n) u := by go_simp
theorem load_markV {u : World} {g o : Nat} {cs : List Value} (h : u.rangeAt g o cs) (hl : cs.length = 3) : (loadVar 69 ⟨g, o, none⟩).run Tryz.prog u = .ok (.agg cs.toArray) u :=
  run_loadVar_mid u g o _ cs _ h Tryz.underlying69 rfl (by rw [hl]; kernel_rfl)
theorem load_markF {u : World} {g o : Nat} {cs : List Value} (h : u.rangeAt g o cs) (hl : cs.length = 2) : (loadVar 28 ⟨g, o, none⟩).run Tryz.prog u = .ok (.agg cs.toArray) u :=
  run_loadVar_mid u g o _ cs _ h Tryz.underlying28 rfl (by rw [hl]; kernel_rfl)
/-- what stands at a place of a list full of marks -/
theorem markV_at {S : Nat} {w : World} {v : Value} {n m : Nat} {xs : List (KV).α} (hl : xs.length = n) (h : Ls w v n (xs.flatMap ((KV).cel m))) (hg : Gd KV S none w m xs) (hm : m ≤ 2000000000) :
    ∃ a c, v = .slice a n c ∧ (0 < n → ∃ g off, a = some ⟨g, off, none⟩ ∧ ∀ k, k < n → ∃ X, ∀ u, Below w.heap.size w u → (loadVar 69 ⟨g, off + k * 3, none⟩).run Tryz.prog u = .ok X u ∧ Calls Tryz.prog 202 #[X, .int .i64 m] u fun e w' => e = .returned (.bool true) ∧ Below u.heap.size u w') := by
  subst hl
  obtain ⟨a, c, h1, h2, h3, h4⟩ := ls_range (f := (KV).cel m) (k := 3) ((KV).len m) () h
  refine ⟨a, c, h1, fun h0 => ?_⟩
  obtain ⟨g, off, h5, h6, h7⟩ := h4 h0
  refine ⟨g, off, h5, fun k hk => ?_⟩
  have h8 := h7 k hk
  exact ⟨.agg ((KV).cel m (xs.getD k ())).toArray, fun u hu => ⟨load_markV (range_below h8 hu h6) rfl, isVn m u⟩⟩
set_option maxHeartbeats 6400000 in
set_option maxRecDepth 100000 in
theorem lookV_any {w : World} {bk B n S : Nat} {vv vt vf : Value} {hv ht hf : List Hd} (hB : Bk w bk B n vv vt vf hv ht hf) (hD : ∀ h ∈ hv, Dn KV S w h) (hnum : ∀ h ∈ hv, h.m ≤ 2000000000 ∧ h.n ≤ 2097152) (hlen : hv.length ≤ 1000000000) :
    Calls Tryz.prog 155 #[.pointer (some ⟨bk, 0, none⟩)] w fun e w' => e = .returned (.bool true) ∧ Below w.heap.size w w' := by
  have HBK : Hid (∀ u, Below w.heap.size w u → Bk u bk B n vv vt vf hv ht hf) := fun u hu => hB.below hu
  have HD : Hid (∀ u, Below w.heap.size w u → ∀ h ∈ hv, Dn KV S u h) := fun u hu h hm => (hD h hm).keep hu.size (fun g hg _ => hu.block g hg)
  have HN := Lib.hid hnum
  obtain ⟨av, cv, hvv, _⟩ := own_form hB.rv
  clear hB hD hnum
  subst hvv
  go_enter Tryz.func155, Tryz.ntmps155
  go_wp2
  go_loopw [3] (fun iv wr => ∃ i : Nat, i ≤ hv.length ∧ iv = .int .i64 i ∧ Hid (Below w.heap.size w wr)) (fun iv _ => hv.length - (intOf iv).toNat)
  case atStart => exact ⟨0, Nat.zero_le _, rfl, Below.refl _ _⟩
  case round =>
    obtain ⟨i, hi, rfl, HT⟩ := hrel
    have HBR := Lib.hid (HBK.out wr HT.out)
    have m1 := HBR.out.box.at (j := 1) rfl
    by_cases hlt : i < hv.length
    · have hlt' : (i : Int) < (hv.length : Int) := by omega
      have hi0 : (0 : Int) ≤ (i : Int) := by omega
      obtain ⟨r, cr, e1, _, _, _, hrow⟩ := rowAt HBR.out.rv (by omega)
      simp only [Value.slice.injEq] at e1
      obtain ⟨rfl, _, rfl⟩ := e1
      have HH := Lib.hid (hrow i hlt)
      have HNM := Lib.hid (HN.out _ (atH_mem hlt))
      have hA : Below wr.heap.size wr (wr.alloc (.cells #[.slice (atH hv i).a (atH hv i).n (atH hv i).c, .slice (atH hv i).la (atH hv i).ln (atH hv i).lc, .int .i64 (atH hv i).m] 116)) := (Below.refl _ _).alloc (Nat.le_refl _) _
      have HBOX := Lib.hid (rl_new wr #[.slice (atH hv i).a (atH hv i).n (atH hv i).c, .slice (atH hv i).la (atH hv i).ln (atH hv i).lc, .int .i64 (atH hv i).m] 116)
      have HDN := Lib.hid (HD.out _ (HT.out.trans (hA.mono HT.out.size)) _ (atH_mem hlt))
      have HTA := Lib.hid (HT.out.trans (hA.mono HT.out.size))
      obtain ⟨h, hh⟩ : ∃ h, h = atH hv i := ⟨_, rfl⟩
      rw [← hh] at HH HNM HDN HBOX HTA
      have y0 : wr.cell? ⟨r, i * 3, none⟩ = some (.slice h.a h.n h.c) := HH.out 0 _ rfl
      have y1 : wr.cell? ⟨r, i * 3 + 1, none⟩ = some (.slice h.la h.ln h.lc) := HH.out 1 _ rfl
      have y2 : wr.cell? ⟨r, i * 3 + 2, none⟩ = some (.int .i64 h.m) := HH.out 2 _ rfl
      have hn1 := HNM.out.2
      have hwl : IntKind.i64.wrap ((h.n : Int) + 70) = (h.n : Int) + 70 := by rw [IntKind.wrap_i64]; omega
      have HLN := Lib.hid HDN.out.ln
      have hne : ((h.ln : Int) != (h.n : Int) + 70) = false := by rw [HLN.out]; simp
      have b0 := HBOX.out.at (j := 0) rfl
      have b1 := HBOX.out.at (j := 1) rfl
      clear hh hrow hA HH
      obtain ⟨W1, rfl⟩ : ∃ W1, W1 = wr := ⟨_, rfl⟩
      go_wp2
      generalize W1.alloc (.cells #[.slice h.a h.n h.c, .slice h.la h.ln h.lc, .int .i64 h.m] 116) = Wb at HBOX HTA HDN b0 b1 ⊢
      clear y0 y1 y2 m1 b0 b1 hwl
      have hlnb : h.ln ≤ 2097222 := by rw [HLN.out]; omega
      go_loopw [5] (fun kv wr => ∃ k : Nat, k ≤ h.ln ∧ kv = .int .i64 k ∧ Hid (Below Wb.heap.size Wb wr)) (fun kv _ => h.ln - (intOf kv).toNat)
      case atStart => exact ⟨0, Nat.zero_le _, rfl, Below.refl _ _⟩
      case round =>
        obtain ⟨k, hk, rfl, HW⟩ := hrel
        have HBI : Hid (∀ u, Below wr.heap.size wr u → RL u W1.heap.size 116 [.slice h.a h.n h.c, .slice h.la h.ln h.lc, .int .i64 h.m]) := fun u hu => (HBOX.out.below HW.out).below hu
        have x1 := (HBI.out wr (Below.refl _ _)).at (j := 1) rfl
        by_cases hkl : k < h.ln
        · have hkl' : (k : Int) < (h.ln : Int) := by omega
          obtain ⟨ys, l1, l2, l3⟩ := HDN.out.long
          obtain ⟨a9, c9, e9, h9⟩ := markV_at l1 l2 l3 HNM.out.1
          obtain ⟨g, off, e10, h10⟩ := h9 (by omega)
          obtain ⟨X, hX⟩ := h10 k hkl
          have hla : h.la = some ⟨g, off, none⟩ := by unfold Hd.lv at e9; simp only [Value.slice.injEq] at e9; rw [e9.1, e10]
          have HX : Hid (∀ u, Below wr.heap.size wr u → (loadVar 69 ⟨g, off + k * 3, none⟩).run Tryz.prog u = .ok X u ∧ Calls Tryz.prog 202 #[X, .int .i64 h.m] u fun e w' => e = .returned (.bool true) ∧ Below u.heap.size u w') := fun u hu => hX u (HW.out.trans (hu.mono HW.out.size))
          have HBJ : Hid (∀ u, Below wr.heap.size wr u → RL u W1.heap.size 116 [.slice h.a h.n h.c, .slice (some ⟨g, off, none⟩) h.ln h.lc, .int .i64 h.m]) := fun u hu => by
            have := HBI.out u hu
            rw [hla] at this
            exact this
          clear l1 l2 l3 e9 h9 e10 h10 hX hla
          have HW0 : Hid (Below wr.heap.size wr wr.drew) := (Below.refl _ _).drew
          by_cases hkn : k < h.n
          · have hdk : decide (k < h.n) = true := by simp [hkn]
            obtain ⟨xs, l1, l2, l3⟩ := HDN.out.l
            obtain ⟨a9, c9, e9, h9⟩ := markV_at l1 l2 l3 HNM.out.1
            obtain ⟨g2, off2, e10, h10⟩ := h9 (by omega)
            obtain ⟨Y, hY⟩ := h10 k hkn
            have hla : h.a = some ⟨g2, off2, none⟩ := by unfold Hd.sv at e9; simp only [Value.slice.injEq] at e9; rw [e9.1, e10]
            have HY : Hid (∀ u, Below wr.heap.size wr u → (loadVar 69 ⟨g2, off2 + k * 3, none⟩).run Tryz.prog u = .ok Y u ∧ Calls Tryz.prog 202 #[Y, .int .i64 h.m] u fun e w' => e = .returned (.bool true) ∧ Below u.heap.size u w') := fun u hu => hY u (HW.out.trans (hu.mono HW.out.size))
            have HBH : Hid (∀ u, Below wr.heap.size wr u → RL u W1.heap.size 116 [.slice (some ⟨g2, off2, none⟩) h.n h.c, .slice (some ⟨g, off, none⟩) h.ln h.lc, .int .i64 h.m]) := fun u hu => by
              have := HBJ.out u hu
              rw [hla] at this
              exact this
            clear l1 l2 l3 e9 h9 e10 h10 hY hla hdk
            go_upto_region 10 with fail
            refine region_RB (fun u => Below wr.heap.size wr u) ?_
            apply Exists.intro
            refine ⟨?_, ?_⟩
            · refine wp_region_noPanic ?_
              refine wp_region_held (S := fun u => Below wr.heap.size wr u) (by kernel_rfl) ?_
              refine lregVA (w5 := wr) (S := fun u => Below wr.heap.size wr u) (bx := W1.heap.size) (g := g) (off := off) (nl := h.ln) (cl := h.lc) (nn := h.n) (cc := h.c) (k := k) (m := h.m) (g2 := g2) (off2 := off2) (X := X) (Y := Y) rfl rfl rfl rfl rfl rfl rfl rfl rfl rfl rfl rfl rfl rfl rfl rfl rfl rfl rfl rfl rfl rfl rfl rfl rfl rfl rfl (by kernel_rfl) (by kernel_rfl) (by kernel_rfl) (by kernel_rfl) (by kernel_rfl) (fun _ _ _ _ _ h => h) (by simp) rfl rfl HW0.out (fun u u' h b => h.trans (b.mono h.size)) hkl (by simp [hkn]) (fun u hu => load_slV ((HBH.out u hu).at (j := 0) rfl)) (fun u hu => load_slV ((HBH.out u hu).at (j := 1) rfl)) (fun u hu => load_intB ((HBH.out u hu).at (j := 2) rfl)) (fun u hu => (HX.out u hu).1) (fun u hu => (HX.out u hu).2) hkn (fun u hu => (HY.out u hu).1) (fun u hu => (HY.out u hu).2) ?_
              intro wf hS
              exact NoPanic.normal ⟨rfl, rfl, hS⟩
            intro w10 hb10
            simp (config := { maxSteps := 10000000 }) only [Act.put, List.getElem_toArray, List.getElem_cons_zero, List.getElem_cons_succ, List.setIfInBounds_toArray, List.set_cons_succ, List.set_cons_zero]
            have HBN : Hid (Below Wb.heap.size Wb w10) := HW.out.trans (hb10.mono HW.out.size)
            clear hb10 HX HY HBH HBJ HBI x1
            go_wp2
            go_roundw
            case rel => exact ⟨k + 1, by omega, by go_num, HBN⟩
            case measure => simp [intOf]; omega
          · go_upto_region 10 with fail
            refine region_RB (fun u => Below wr.heap.size wr u) ?_
            apply Exists.intro
            refine ⟨?_, ?_⟩
            · refine wp_region_noPanic ?_
              refine wp_region_held (S := fun u => Below wr.heap.size wr u) (by kernel_rfl) ?_
              refine lregVB (w5 := wr) (S := fun u => Below wr.heap.size wr u) (bx := W1.heap.size) (g := g) (off := off) (nl := h.ln) (cl := h.lc) (nn := h.n) (cc := h.c) (k := k) (m := h.m) (sa := h.a) (X := X) rfl rfl rfl rfl rfl rfl rfl rfl rfl rfl rfl rfl rfl rfl rfl rfl rfl rfl rfl rfl rfl rfl rfl rfl rfl rfl rfl (by kernel_rfl) (by kernel_rfl) (by kernel_rfl) (by kernel_rfl) (fun _ _ _ _ _ h => h) (by simp) rfl rfl HW0.out (fun u u' h b => h.trans (b.mono h.size)) hkl (by simp [hkn]) (fun u hu => load_slV ((HBJ.out u hu).at (j := 0) rfl)) (fun u hu => load_slV ((HBJ.out u hu).at (j := 1) rfl)) (fun u hu => load_intB ((HBJ.out u hu).at (j := 2) rfl)) (fun u hu => (HX.out u hu).1) (fun u hu => (HX.out u hu).2) ?_
              intro wf hS
              exact NoPanic.normal ⟨rfl, rfl, hS⟩
            intro w10 hb10
            simp (config := { maxSteps := 10000000 }) only [Act.put, List.getElem_toArray, List.getElem_cons_zero, List.getElem_cons_succ, List.setIfInBounds_toArray, List.set_cons_succ, List.set_cons_zero]
            have HBN : Hid (Below Wb.heap.size Wb w10) := HW.out.trans (hb10.mono HW.out.size)
            clear hb10 HX HBJ HBI x1
            go_wp2
            go_roundw
            case rel => exact ⟨k + 1, by omega, by go_num, HBN⟩
            case measure => simp [intOf]; omega
        · obtain rfl : k = h.ln := by omega
          have HE : Hid (Below w.heap.size w wr) := HTA.out.trans (HW.out.mono HTA.out.size)
          clear HBI HBOX HDN HBR
          go_wp2
          go_roundw
          case rel => exact ⟨i + 1, by omega, by go_num, HE⟩
          case measure => simp [intOf]; omega
    · obtain rfl : i = hv.length := by omega
      go_wp2
      go_ret
      exact ⟨rfl, HT.out⟩
/-- what stands at a place of a list full of marks -/
theorem markT_at {S : Nat} {w : World} {v : Value} {n m : Nat} {xs : List (KT).α} (hl : xs.length = n) (h : Ls w v n (xs.flatMap ((KT).cel m))) (hg : Gd KT S none w m xs) (hm : m ≤ 2000000000) :
    ∃ a c, v = .slice a n c ∧ (0 < n → ∃ g off, a = some ⟨g, off, none⟩ ∧ ∀ k, k < n → ∃ X, ∀ u, Below w.heap.size w u → (loadVar 26 ⟨g, off + k, none⟩).run Tryz.prog u = .ok X u ∧ Calls Tryz.prog 203 #[X, .int .i64 m] u fun e w' => e = .returned (.bool true) ∧ Below u.heap.size u w') := by
  subst hl
  obtain ⟨a, c, h1, h2, h3, h4⟩ := ls_range (f := (KT).cel m) (k := 1) ((KT).len m) (0 : Nat) h
  refine ⟨a, c, h1, fun h0 => ?_⟩
  obtain ⟨g, off, h5, h6, h7⟩ := h4 h0
  refine ⟨g, off, h5, fun k hk => ?_⟩
  have h8 := h7 k hk
  have hx : xs.getD k (0 : Nat) ∈ xs := by
    have e : xs.getD k (0 : Nat) = xs[k] := by simp [List.getD, List.getElem?_eq_getElem hk]; rfl
    rw [e]
    exact List.getElem_mem hk
  obtain ⟨o1, o2⟩ := hg _ hx
  refine ⟨.slice (some ⟨xs.getD k (0 : Nat), 0, none⟩) 1 1, fun u hu => ⟨?_, ?_⟩⟩
  · have := (range_below h8 hu h6) 0 _ rfl
    rw [Nat.mul_one, Nat.add_zero] at this
    exact load_slV this
  · exact isTn m u _ (range_below o1 hu (o2 _ rfl).2.1)
set_option maxHeartbeats 6400000 in
set_option maxRecDepth 100000 in
theorem lookT_any {w : World} {bk B n S : Nat} {vv vt vf : Value} {hv ht hf : List Hd} (hB : Bk w bk B n vv vt vf hv ht hf) (hD : ∀ h ∈ ht, Dn KT S w h) (hnum : ∀ h ∈ ht, h.m ≤ 2000000000 ∧ h.n ≤ 2097152) (hlen : ht.length ≤ 1000000000) :
    Calls Tryz.prog 156 #[.pointer (some ⟨bk, 0, none⟩)] w fun e w' => e = .returned (.bool true) ∧ Below w.heap.size w w' := by
  have HBK : Hid (∀ u, Below w.heap.size w u → Bk u bk B n vv vt vf hv ht hf) := fun u hu => hB.below hu
  have HD : Hid (∀ u, Below w.heap.size w u → ∀ h ∈ ht, Dn KT S u h) := fun u hu h hm => (hD h hm).keep hu.size (fun g hg _ => hu.block g hg)
  have HN := Lib.hid hnum
  obtain ⟨av, cv, hvv, _⟩ := own_form hB.rt
  clear hB hD hnum
  subst hvv
  go_enter Tryz.func156, Tryz.ntmps156
  go_wp2
  go_loopw [3] (fun iv wr => ∃ i : Nat, i ≤ ht.length ∧ iv = .int .i64 i ∧ Hid (Below w.heap.size w wr)) (fun iv _ => ht.length - (intOf iv).toNat)
  case atStart => exact ⟨0, Nat.zero_le _, rfl, Below.refl _ _⟩
  case round =>
    obtain ⟨i, hi, rfl, HT⟩ := hrel
    have HBR := Lib.hid (HBK.out wr HT.out)
    have m1 := HBR.out.box.at (j := 2) rfl
    by_cases hlt : i < ht.length
    · have hlt' : (i : Int) < (ht.length : Int) := by omega
      have hi0 : (0 : Int) ≤ (i : Int) := by omega
      obtain ⟨r, cr, e1, _, _, _, hrow⟩ := rowAt HBR.out.rt (by omega)
      simp only [Value.slice.injEq] at e1
      obtain ⟨rfl, _, rfl⟩ := e1
      have HH := Lib.hid (hrow i hlt)
      have HNM := Lib.hid (HN.out _ (atH_mem hlt))
      have hA : Below wr.heap.size wr (wr.alloc (.cells #[.slice (atH ht i).a (atH ht i).n (atH ht i).c, .slice (atH ht i).la (atH ht i).ln (atH ht i).lc, .int .i64 (atH ht i).m] 118)) := (Below.refl _ _).alloc (Nat.le_refl _) _
      have HBOX := Lib.hid (rl_new wr #[.slice (atH ht i).a (atH ht i).n (atH ht i).c, .slice (atH ht i).la (atH ht i).ln (atH ht i).lc, .int .i64 (atH ht i).m] 118)
      have HDN := Lib.hid (HD.out _ (HT.out.trans (hA.mono HT.out.size)) _ (atH_mem hlt))
      have HTA := Lib.hid (HT.out.trans (hA.mono HT.out.size))
      obtain ⟨h, hh⟩ : ∃ h, h = atH ht i := ⟨_, rfl⟩
      rw [← hh] at HH HNM HDN HBOX HTA
      have y0 : wr.cell? ⟨r, i * 3, none⟩ = some (.slice h.a h.n h.c) := HH.out 0 _ rfl
      have y1 : wr.cell? ⟨r, i * 3 + 1, none⟩ = some (.slice h.la h.ln h.lc) := HH.out 1 _ rfl
      have y2 : wr.cell? ⟨r, i * 3 + 2, none⟩ = some (.int .i64 h.m) := HH.out 2 _ rfl
      have hn1 := HNM.out.2
      have hwl : IntKind.i64.wrap ((h.n : Int) + 70) = (h.n : Int) + 70 := by rw [IntKind.wrap_i64]; omega
      have HLN := Lib.hid HDN.out.ln
      have hne : ((h.ln : Int) != (h.n : Int) + 70) = false := by rw [HLN.out]; simp
      have b0 := HBOX.out.at (j := 0) rfl
      have b1 := HBOX.out.at (j := 1) rfl
      clear hh hrow hA HH
      obtain ⟨W1, rfl⟩ : ∃ W1, W1 = wr := ⟨_, rfl⟩
      go_wp2
      generalize W1.alloc (.cells #[.slice h.a h.n h.c, .slice h.la h.ln h.lc, .int .i64 h.m] 118) = Wb at HBOX HTA HDN b0 b1 ⊢
      clear y0 y1 y2 m1 b0 b1 hwl
      have hlnb : h.ln ≤ 2097222 := by rw [HLN.out]; omega
      go_loopw [5] (fun kv wr => ∃ k : Nat, k ≤ h.ln ∧ kv = .int .i64 k ∧ Hid (Below Wb.heap.size Wb wr)) (fun kv _ => h.ln - (intOf kv).toNat)
      case atStart => exact ⟨0, Nat.zero_le _, rfl, Below.refl _ _⟩
      case round =>
        obtain ⟨k, hk, rfl, HW⟩ := hrel
        have HBI : Hid (∀ u, Below wr.heap.size wr u → RL u W1.heap.size 118 [.slice h.a h.n h.c, .slice h.la h.ln h.lc, .int .i64 h.m]) := fun u hu => (HBOX.out.below HW.out).below hu
        have x1 := (HBI.out wr (Below.refl _ _)).at (j := 1) rfl
        by_cases hkl : k < h.ln
        · have hkl' : (k : Int) < (h.ln : Int) := by omega
          obtain ⟨ys, l1, l2, l3⟩ := HDN.out.long
          obtain ⟨a9, c9, e9, h9⟩ := markT_at l1 l2 l3 HNM.out.1
          obtain ⟨g, off, e10, h10⟩ := h9 (by omega)
          obtain ⟨X, hX⟩ := h10 k hkl
          have hla : h.la = some ⟨g, off, none⟩ := by unfold Hd.lv at e9; simp only [Value.slice.injEq] at e9; rw [e9.1, e10]
          have HX : Hid (∀ u, Below wr.heap.size wr u → (loadVar 26 ⟨g, off + k, none⟩).run Tryz.prog u = .ok X u ∧ Calls Tryz.prog 203 #[X, .int .i64 h.m] u fun e w' => e = .returned (.bool true) ∧ Below u.heap.size u w') := fun u hu => hX u (HW.out.trans (hu.mono HW.out.size))
          have HBJ : Hid (∀ u, Below wr.heap.size wr u → RL u W1.heap.size 118 [.slice h.a h.n h.c, .slice (some ⟨g, off, none⟩) h.ln h.lc, .int .i64 h.m]) := fun u hu => by
            have := HBI.out u hu
            rw [hla] at this
            exact this
          clear l1 l2 l3 e9 h9 e10 h10 hX hla
          have HW0 : Hid (Below wr.heap.size wr wr.drew) := (Below.refl _ _).drew
          by_cases hkn : k < h.n
          · have hdk : decide (k < h.n) = true := by simp [hkn]
            obtain ⟨xs, l1, l2, l3⟩ := HDN.out.l
            obtain ⟨a9, c9, e9, h9⟩ := markT_at l1 l2 l3 HNM.out.1
            obtain ⟨g2, off2, e10, h10⟩ := h9 (by omega)
            obtain ⟨Y, hY⟩ := h10 k hkn
            have hla : h.a = some ⟨g2, off2, none⟩ := by unfold Hd.sv at e9; simp only [Value.slice.injEq] at e9; rw [e9.1, e10]
            have HY : Hid (∀ u, Below wr.heap.size wr u → (loadVar 26 ⟨g2, off2 + k, none⟩).run Tryz.prog u = .ok Y u ∧ Calls Tryz.prog 203 #[Y, .int .i64 h.m] u fun e w' => e = .returned (.bool true) ∧ Below u.heap.size u w') := fun u hu => hY u (HW.out.trans (hu.mono HW.out.size))
            have HBH : Hid (∀ u, Below wr.heap.size wr u → RL u W1.heap.size 118 [.slice (some ⟨g2, off2, none⟩) h.n h.c, .slice (some ⟨g, off, none⟩) h.ln h.lc, .int .i64 h.m]) := fun u hu => by
              have := HBJ.out u hu
              rw [hla] at this
              exact this
            clear l1 l2 l3 e9 h9 e10 h10 hY hla hdk
            go_upto_region 10 with fail
            refine region_RB (fun u => Below wr.heap.size wr u) ?_
            apply Exists.intro
            refine ⟨?_, ?_⟩
            · refine wp_region_noPanic ?_
              refine wp_region_held (S := fun u => Below wr.heap.size wr u) (by kernel_rfl) ?_
              refine lregTA (w5 := wr) (S := fun u => Below wr.heap.size wr u) (bx := W1.heap.size) (g := g) (off := off) (nl := h.ln) (cl := h.lc) (nn := h.n) (cc := h.c) (k := k) (m := h.m) (g2 := g2) (off2 := off2) (X := X) (Y := Y) rfl rfl rfl rfl rfl rfl rfl rfl rfl rfl rfl rfl rfl rfl rfl rfl rfl rfl rfl rfl rfl rfl rfl rfl rfl rfl rfl (by kernel_rfl) (by kernel_rfl) (by kernel_rfl) (by kernel_rfl) (by kernel_rfl) (fun _ _ _ _ _ h => h) (by simp) rfl rfl HW0.out (fun u u' h b => h.trans (b.mono h.size)) hkl (by simp [hkn]) (fun u hu => load_slT ((HBH.out u hu).at (j := 0) rfl)) (fun u hu => load_slT ((HBH.out u hu).at (j := 1) rfl)) (fun u hu => load_intB ((HBH.out u hu).at (j := 2) rfl)) (fun u hu => (HX.out u hu).1) (fun u hu => (HX.out u hu).2) hkn (fun u hu => (HY.out u hu).1) (fun u hu => (HY.out u hu).2) ?_
              intro wf hS
              exact NoPanic.normal ⟨rfl, rfl, hS⟩
            intro w10 hb10
            simp (config := { maxSteps := 10000000 }) only [Act.put, List.getElem_toArray, List.getElem_cons_zero, List.getElem_cons_succ, List.setIfInBounds_toArray, List.set_cons_succ, List.set_cons_zero]
            have HBN : Hid (Below Wb.heap.size Wb w10) := HW.out.trans (hb10.mono HW.out.size)
            clear hb10 HX HY HBH HBJ HBI x1
            go_wp2
            go_roundw
            case rel => exact ⟨k + 1, by omega, by go_num, HBN⟩
            case measure => simp [intOf]; omega
          · go_upto_region 10 with fail
            refine region_RB (fun u => Below wr.heap.size wr u) ?_
            apply Exists.intro
            refine ⟨?_, ?_⟩
            · refine wp_region_noPanic ?_
              refine wp_region_held (S := fun u => Below wr.heap.size wr u) (by kernel_rfl) ?_
              refine lregTB (w5 := wr) (S := fun u => Below wr.heap.size wr u) (bx := W1.heap.size) (g := g) (off := off) (nl := h.ln) (cl := h.lc) (nn := h.n) (cc := h.c) (k := k) (m := h.m) (sa := h.a) (X := X) rfl rfl rfl rfl rfl rfl rfl rfl rfl rfl rfl rfl rfl rfl rfl rfl rfl rfl rfl rfl rfl rfl rfl rfl rfl rfl rfl (by kernel_rfl) (by kernel_rfl) (by kernel_rfl) (by kernel_rfl) (fun _ _ _ _ _ h => h) (by simp) rfl rfl HW0.out (fun u u' h b => h.trans (b.mono h.size)) hkl (by simp [hkn]) (fun u hu => load_slT ((HBJ.out u hu).at (j := 0) rfl)) (fun u hu => load_slT ((HBJ.out u hu).at (j := 1) rfl)) (fun u hu => load_intB ((HBJ.out u hu).at (j := 2) rfl)) (fun u hu => (HX.out u hu).1) (fun u hu => (HX.out u hu).2) ?_
              intro wf hS
              exact NoPanic.normal ⟨rfl, rfl, hS⟩
            intro w10 hb10
            simp (config := { maxSteps := 10000000 }) only [Act.put, List.getElem_toArray, List.getElem_cons_zero, List.getElem_cons_succ, List.setIfInBounds_toArray, List.set_cons_succ, List.set_cons_zero]
            have HBN : Hid (Below Wb.heap.size Wb w10) := HW.out.trans (hb10.mono HW.out.size)
            clear hb10 HX HBJ HBI x1
            go_wp2
            go_roundw
            case rel => exact ⟨k + 1, by omega, by go_num, HBN⟩
            case measure => simp [intOf]; omega
        · obtain rfl : k = h.ln := by omega
          have HE : Hid (Below w.heap.size w wr) := HTA.out.trans (HW.out.mono HTA.out.size)
          clear HBI HBOX HDN HBR
          go_wp2
          go_roundw
          case rel => exact ⟨i + 1, by omega, by go_num, HE⟩
          case measure => simp [intOf]; omega
    · obtain rfl : i = ht.length := by omega
      go_wp2
      go_ret
      exact ⟨rfl, HT.out⟩
/-- what stands at a place of a list full of marks -/
theorem markF_at {S : Nat} {w : World} {v : Value} {n m : Nat} {xs : List (KF).α} (hl : xs.length = n) (h : Ls w v n (xs.flatMap ((KF).cel m))) (hg : Gd KF S none w m xs) (hp : PWt w) (hm : m ≤ 2000000000) :
    ∃ a c, v = .slice a n c ∧ (0 < n → ∃ g off, a = some ⟨g, off, none⟩ ∧ ∀ k, k < n → ∃ X, ∀ u, Below w.heap.size w u → (loadVar 28 ⟨g, off + k * 2, none⟩).run Tryz.prog u = .ok X u ∧ Calls Tryz.prog 204 #[X, .int .i64 m] u fun e w' => e = .returned (.bool true) ∧ Below u.heap.size u w') := by
  subst hl
  obtain ⟨a, c, h1, h2, h3, h4⟩ := ls_range (f := (KF).cel m) (k := 2) ((KF).len m) () h
  refine ⟨a, c, h1, fun h0 => ?_⟩
  obtain ⟨g, off, h5, h6, h7⟩ := h4 h0
  refine ⟨g, off, h5, fun k hk => ?_⟩
  have h8 := h7 k hk
  exact ⟨.agg ((KF).cel m (xs.getD k ())).toArray, fun u hu => ⟨load_markF (range_below h8 hu h6) rfl, isFn m hm u (tab_below hp hu)⟩⟩
set_option maxHeartbeats 6400000 in
set_option maxRecDepth 100000 in
theorem lookF_any {w : World} {bk B n S : Nat} {vv vt vf : Value} {hv ht hf : List Hd} (hB : Bk w bk B n vv vt vf hv ht hf) (hD : ∀ h ∈ hf, Dn KF S w h) (hnum : ∀ h ∈ hf, h.m ≤ 2000000000 ∧ h.n ≤ 2097152) (hlen : hf.length ≤ 1000000000) (hp : PWt w) :
    Calls Tryz.prog 157 #[.pointer (some ⟨bk, 0, none⟩)] w fun e w' => e = .returned (.bool true) ∧ Below w.heap.size w w' := by
  have HBK : Hid (∀ u, Below w.heap.size w u → Bk u bk B n vv vt vf hv ht hf) := fun u hu => hB.below hu
  have HD : Hid (∀ u, Below w.heap.size w u → ∀ h ∈ hf, Dn KF S u h) := fun u hu h hm => (hD h hm).keep hu.size (fun g hg _ => hu.block g hg)
  have HN := Lib.hid hnum
  have HP : Hid (∀ u, Below w.heap.size w u → PWt u) := fun u hu => tab_below hp hu
  clear hp
  obtain ⟨av, cv, hvv, _⟩ := own_form hB.rf
  clear hB hD hnum
  subst hvv
  go_enter Tryz.func157, Tryz.ntmps157
  go_wp2
  go_loopw [3] (fun iv wr => ∃ i : Nat, i ≤ hf.length ∧ iv = .int .i64 i ∧ Hid (Below w.heap.size w wr)) (fun iv _ => hf.length - (intOf iv).toNat)
  case atStart => exact ⟨0, Nat.zero_le _, rfl, Below.refl _ _⟩
  case round =>
    obtain ⟨i, hi, rfl, HT⟩ := hrel
    have HBR := Lib.hid (HBK.out wr HT.out)
    have m1 := HBR.out.box.at (j := 3) rfl
    by_cases hlt : i < hf.length
    · have hlt' : (i : Int) < (hf.length : Int) := by omega
      have hi0 : (0 : Int) ≤ (i : Int) := by omega
      obtain ⟨r, cr, e1, _, _, _, hrow⟩ := rowAt HBR.out.rf (by omega)
      simp only [Value.slice.injEq] at e1
      obtain ⟨rfl, _, rfl⟩ := e1
      have HH := Lib.hid (hrow i hlt)
      have HNM := Lib.hid (HN.out _ (atH_mem hlt))
      have hA : Below wr.heap.size wr (wr.alloc (.cells #[.slice (atH hf i).a (atH hf i).n (atH hf i).c, .slice (atH hf i).la (atH hf i).ln (atH hf i).lc, .int .i64 (atH hf i).m] 114)) := (Below.refl _ _).alloc (Nat.le_refl _) _
      have HBOX := Lib.hid (rl_new wr #[.slice (atH hf i).a (atH hf i).n (atH hf i).c, .slice (atH hf i).la (atH hf i).ln (atH hf i).lc, .int .i64 (atH hf i).m] 114)
      have HDN := Lib.hid (HD.out _ (HT.out.trans (hA.mono HT.out.size)) _ (atH_mem hlt))
      have HTA := Lib.hid (HT.out.trans (hA.mono HT.out.size))
      obtain ⟨h, hh⟩ : ∃ h, h = atH hf i := ⟨_, rfl⟩
      rw [← hh] at HH HNM HDN HBOX HTA
      have y0 : wr.cell? ⟨r, i * 3, none⟩ = some (.slice h.a h.n h.c) := HH.out 0 _ rfl
      have y1 : wr.cell? ⟨r, i * 3 + 1, none⟩ = some (.slice h.la h.ln h.lc) := HH.out 1 _ rfl
      have y2 : wr.cell? ⟨r, i * 3 + 2, none⟩ = some (.int .i64 h.m) := HH.out 2 _ rfl
      have hn1 := HNM.out.2
      have hwl : IntKind.i64.wrap ((h.n : Int) + 70) = (h.n : Int) + 70 := by rw [IntKind.wrap_i64]; omega
      have HLN := Lib.hid HDN.out.ln
      have hne : ((h.ln : Int) != (h.n : Int) + 70) = false := by rw [HLN.out]; simp
      have b0 := HBOX.out.at (j := 0) rfl
      have b1 := HBOX.out.at (j := 1) rfl
      clear hh hrow hA HH
      obtain ⟨W1, rfl⟩ : ∃ W1, W1 = wr := ⟨_, rfl⟩
      go_wp2
      generalize W1.alloc (.cells #[.slice h.a h.n h.c, .slice h.la h.ln h.lc, .int .i64 h.m] 114) = Wb at HBOX HTA HDN b0 b1 ⊢
      clear y0 y1 y2 m1 b0 b1 hwl
      have hlnb : h.ln ≤ 2097222 := by rw [HLN.out]; omega
      go_loopw [5] (fun kv wr => ∃ k : Nat, k ≤ h.ln ∧ kv = .int .i64 k ∧ Hid (Below Wb.heap.size Wb wr)) (fun kv _ => h.ln - (intOf kv).toNat)
      case atStart => exact ⟨0, Nat.zero_le _, rfl, Below.refl _ _⟩
      case round =>
        obtain ⟨k, hk, rfl, HW⟩ := hrel
        have HBI : Hid (∀ u, Below wr.heap.size wr u → RL u W1.heap.size 114 [.slice h.a h.n h.c, .slice h.la h.ln h.lc, .int .i64 h.m]) := fun u hu => (HBOX.out.below HW.out).below hu
        have x1 := (HBI.out wr (Below.refl _ _)).at (j := 1) rfl
        by_cases hkl : k < h.ln
        · have hkl' : (k : Int) < (h.ln : Int) := by omega
          obtain ⟨ys, l1, l2, l3⟩ := HDN.out.long
          obtain ⟨a9, c9, e9, h9⟩ := markF_at l1 l2 l3 (HP.out _ HTA.out) HNM.out.1
          obtain ⟨g, off, e10, h10⟩ := h9 (by omega)
          obtain ⟨X, hX⟩ := h10 k hkl
          have hla : h.la = some ⟨g, off, none⟩ := by unfold Hd.lv at e9; simp only [Value.slice.injEq] at e9; rw [e9.1, e10]
          have HX : Hid (∀ u, Below wr.heap.size wr u → (loadVar 28 ⟨g, off + k * 2, none⟩).run Tryz.prog u = .ok X u ∧ Calls Tryz.prog 204 #[X, .int .i64 h.m] u fun e w' => e = .returned (.bool true) ∧ Below u.heap.size u w') := fun u hu => hX u (HW.out.trans (hu.mono HW.out.size))
          have HBJ : Hid (∀ u, Below wr.heap.size wr u → RL u W1.heap.size 114 [.slice h.a h.n h.c, .slice (some ⟨g, off, none⟩) h.ln h.lc, .int .i64 h.m]) := fun u hu => by
            have := HBI.out u hu
            rw [hla] at this
            exact this
          clear l1 l2 l3 e9 h9 e10 h10 hX hla
          have HW0 : Hid (Below wr.heap.size wr wr.drew) := (Below.refl _ _).drew
          by_cases hkn : k < h.n
          · have hdk : decide (k < h.n) = true := by simp [hkn]
            obtain ⟨xs, l1, l2, l3⟩ := HDN.out.l
            obtain ⟨a9, c9, e9, h9⟩ := markF_at l1 l2 l3 (HP.out _ HTA.out) HNM.out.1
            obtain ⟨g2, off2, e10, h10⟩ := h9 (by omega)
            obtain ⟨Y, hY⟩ := h10 k hkn
            have hla : h.a = some ⟨g2, off2, none⟩ := by unfold Hd.sv at e9; simp only [Value.slice.injEq] at e9; rw [e9.1, e10]
            have HY : Hid (∀ u, Below wr.heap.size wr u → (loadVar 28 ⟨g2, off2 + k * 2, none⟩).run Tryz.prog u = .ok Y u ∧ Calls Tryz.prog 204 #[Y, .int .i64 h.m] u fun e w' => e = .returned (.bool true) ∧ Below u.heap.size u w') := fun u hu => hY u (HW.out.trans (hu.mono HW.out.size))
            have HBH : Hid (∀ u, Below wr.heap.size wr u → RL u W1.heap.size 114 [.slice (some ⟨g2, off2, none⟩) h.n h.c, .slice (some ⟨g, off, none⟩) h.ln h.lc, .int .i64 h.m]) := fun u hu => by
              have := HBJ.out u hu
              rw [hla] at this
              exact this
            clear l1 l2 l3 e9 h9 e10 h10 hY hla hdk
            go_upto_region 10 with fail
            refine region_RB (fun u => Below wr.heap.size wr u) ?_
            apply Exists.intro
            refine ⟨?_, ?_⟩
            · refine wp_region_noPanic ?_
              refine wp_region_held (S := fun u => Below wr.heap.size wr u) (by kernel_rfl) ?_
              refine lregFA (w5 := wr) (S := fun u => Below wr.heap.size wr u) (bx := W1.heap.size) (g := g) (off := off) (nl := h.ln) (cl := h.lc) (nn := h.n) (cc := h.c) (k := k) (m := h.m) (g2 := g2) (off2 := off2) (X := X) (Y := Y) rfl rfl rfl rfl rfl rfl rfl rfl rfl rfl rfl rfl rfl rfl rfl rfl rfl rfl rfl rfl rfl rfl rfl rfl rfl rfl rfl (by kernel_rfl) (by kernel_rfl) (by kernel_rfl) (by kernel_rfl) (by kernel_rfl) (fun _ _ _ _ _ h => h) (by simp) rfl rfl HW0.out (fun u u' h b => h.trans (b.mono h.size)) hkl (by simp [hkn]) (fun u hu => load_slF ((HBH.out u hu).at (j := 0) rfl)) (fun u hu => load_slF ((HBH.out u hu).at (j := 1) rfl)) (fun u hu => load_intB ((HBH.out u hu).at (j := 2) rfl)) (fun u hu => (HX.out u hu).1) (fun u hu => (HX.out u hu).2) hkn (fun u hu => (HY.out u hu).1) (fun u hu => (HY.out u hu).2) ?_
              intro wf hS
              exact NoPanic.normal ⟨rfl, rfl, hS⟩
            intro w10 hb10
            simp (config := { maxSteps := 10000000 }) only [Act.put, List.getElem_toArray, List.getElem_cons_zero, List.getElem_cons_succ, List.setIfInBounds_toArray, List.set_cons_succ, List.set_cons_zero]
            have HBN : Hid (Below Wb.heap.size Wb w10) := HW.out.trans (hb10.mono HW.out.size)
            clear hb10 HX HY HBH HBJ HBI x1
            go_wp2
            go_roundw
            case rel => exact ⟨k + 1, by omega, by go_num, HBN⟩
            case measure => simp [intOf]; omega
          · go_upto_region 10 with fail
            refine region_RB (fun u => Below wr.heap.size wr u) ?_
            apply Exists.intro
            refine ⟨?_, ?_⟩
            · refine wp_region_noPanic ?_
              refine wp_region_held (S := fun u => Below wr.heap.size wr u) (by kernel_rfl) ?_
              refine lregFB (w5 := wr) (S := fun u => Below wr.heap.size wr u) (bx := W1.heap.size) (g := g) (off := off) (nl := h.ln) (cl := h.lc) (nn := h.n) (cc := h.c) (k := k) (m := h.m) (sa := h.a) (X := X) rfl rfl rfl rfl rfl rfl rfl rfl rfl rfl rfl rfl rfl rfl rfl rfl rfl rfl rfl rfl rfl rfl rfl rfl rfl rfl rfl (by kernel_rfl) (by kernel_rfl) (by kernel_rfl) (by kernel_rfl) (fun _ _ _ _ _ h => h) (by simp) rfl rfl HW0.out (fun u u' h b => h.trans (b.mono h.size)) hkl (by simp [hkn]) (fun u hu => load_slF ((HBJ.out u hu).at (j := 0) rfl)) (fun u hu => load_slF ((HBJ.out u hu).at (j := 1) rfl)) (fun u hu => load_intB ((HBJ.out u hu).at (j := 2) rfl)) (fun u hu => (HX.out u hu).1) (fun u hu => (HX.out u hu).2) ?_
              intro wf hS
              exact NoPanic.normal ⟨rfl, rfl, hS⟩
            intro w10 hb10
            simp (config := { maxSteps := 10000000 }) only [Act.put, List.getElem_toArray, List.getElem_cons_zero, List.getElem_cons_succ, List.setIfInBounds_toArray, List.set_cons_succ, List.set_cons_zero]
            have HBN : Hid (Below Wb.heap.size Wb w10) := HW.out.trans (hb10.mono HW.out.size)
            clear hb10 HX HBJ HBI x1
            go_wp2
            go_roundw
            case rel => exact ⟨k + 1, by omega, by go_num, HBN⟩
            case measure => simp [intOf]; omega
        · obtain rfl : k = h.ln := by omega
          have HE : Hid (Below w.heap.size w wr) := HTA.out.trans (HW.out.mono HTA.out.size)
          clear HBI HBOX HDN HBR
          go_wp2
          go_roundw
          case rel => exact ⟨i + 1, by omega, by go_num, HE⟩
          case measure => simp [intOf]; omega
    · obtain rfl : i = hf.length := by omega
      go_wp2
      go_ret
      exact ⟨rfl, HT.out⟩
open Go.RowKit Go.Maps
set_option linter.unusedVariables false
set_option linter.unusedSimpArgs false
attribute [local go_sem ↓] Go.wp_at_zero Go.wp_at_succ

theorem fillTerm_no {w : World} {bk : Nat} (h : w.cell? ⟨bk, 4, none⟩ = some (.slice none 0 0)) : Calls Tryz.prog 43 #[.pointer (some ⟨bk, 0, none⟩)] w fun e w' => e = .returned (.tuple #[]) ∧ w' = w := by
  go_enter Tryz.func43, Tryz.ntmps43
  go_wp2
  go_loopw [2] (fun iv wr => iv = .int .i64 0 ∧ wr = w) (fun _ _ => 0)
  case atStart => exact ⟨rfl, rfl⟩
  case round =>
    obtain ⟨rfl, rfl⟩ := hrel
    go_wp2
    go_end0
    exact ⟨rfl, rfl⟩
theorem growTerm_no {w : World} {bk : Nat} (h : w.cell? ⟨bk, 4, none⟩ = some (.slice none 0 0)) : Calls Tryz.prog 127 #[.pointer (some ⟨bk, 0, none⟩)] w fun e w' => e = .returned (.tuple #[]) ∧ w' = w := by
  go_enter Tryz.func127, Tryz.ntmps127
  go_wp2
  go_loopw [2] (fun iv wr => iv = .int .i64 0 ∧ wr = w) (fun _ _ => 0)
  case atStart => exact ⟨rfl, rfl⟩
  case round =>
    obtain ⟨rfl, rfl⟩ := hrel
    go_wp2
    go_end0
    exact ⟨rfl, rfl⟩
theorem lookTerm_no {w : World} {bk : Nat} (h : w.cell? ⟨bk, 4, none⟩ = some (.slice none 0 0)) : Calls Tryz.prog 158 #[.pointer (some ⟨bk, 0, none⟩)] w fun e w' => e = .returned (.bool true) ∧ w' = w := by
  go_enter Tryz.func158, Tryz.ntmps158
  go_wp2
  go_loopw [3] (fun iv wr => iv = .int .i64 0 ∧ wr = w) (fun _ _ => 0)
  case atStart => exact ⟨rfl, rfl⟩
  case round =>
    obtain ⟨rfl, rfl⟩ := hrel
    go_wp2
    go_ret
    exact ⟨rfl, rfl⟩
theorem fillExpr_no {w : World} {bk : Nat} (h : w.cell? ⟨bk, 5, none⟩ = some (.slice none 0 0)) : Calls Tryz.prog 44 #[.pointer (some ⟨bk, 0, none⟩)] w fun e w' => e = .returned (.tuple #[]) ∧ w' = w := by
  go_enter Tryz.func44, Tryz.ntmps44
  go_wp2
  go_loopw [2] (fun iv wr => iv = .int .i64 0 ∧ wr = w) (fun _ _ => 0)
  case atStart => exact ⟨rfl, rfl⟩
  case round =>
    obtain ⟨rfl, rfl⟩ := hrel
    go_wp2
    go_end0
    exact ⟨rfl, rfl⟩
theorem growExpr_no {w : World} {bk : Nat} (h : w.cell? ⟨bk, 5, none⟩ = some (.slice none 0 0)) : Calls Tryz.prog 128 #[.pointer (some ⟨bk, 0, none⟩)] w fun e w' => e = .returned (.tuple #[]) ∧ w' = w := by
  go_enter Tryz.func128, Tryz.ntmps128
  go_wp2
  go_loopw [2] (fun iv wr => iv = .int .i64 0 ∧ wr = w) (fun _ _ => 0)
  case atStart => exact ⟨rfl, rfl⟩
  case round =>
    obtain ⟨rfl, rfl⟩ := hrel
    go_wp2
    go_end0
    exact ⟨rfl, rfl⟩
theorem lookExpr_no {w : World} {bk : Nat} (h : w.cell? ⟨bk, 5, none⟩ = some (.slice none 0 0)) : Calls Tryz.prog 159 #[.pointer (some ⟨bk, 0, none⟩)] w fun e w' => e = .returned (.bool true) ∧ w' = w := by
  go_enter Tryz.func159, Tryz.ntmps159
  go_wp2
  go_loopw [3] (fun iv wr => iv = .int .i64 0 ∧ wr = w) (fun _ _ => 0)
  case atStart => exact ⟨rfl, rfl⟩
  case round =>
    obtain ⟨rfl, rfl⟩ := hrel
    go_wp2
    go_ret
    exact ⟨rfl, rfl⟩
theorem fillLiteral_no {w : World} {bk : Nat} (h : w.cell? ⟨bk, 6, none⟩ = some (.slice none 0 0)) : Calls Tryz.prog 45 #[.pointer (some ⟨bk, 0, none⟩)] w fun e w' => e = .returned (.tuple #[]) ∧ w' = w := by
  go_enter Tryz.func45, Tryz.ntmps45
  go_wp2
  go_loopw [2] (fun iv wr => iv = .int .i64 0 ∧ wr = w) (fun _ _ => 0)
  case atStart => exact ⟨rfl, rfl⟩
  case round =>
    obtain ⟨rfl, rfl⟩ := hrel
    go_wp2
    go_end0
    exact ⟨rfl, rfl⟩
theorem growLiteral_no {w : World} {bk : Nat} (h : w.cell? ⟨bk, 6, none⟩ = some (.slice none 0 0)) : Calls Tryz.prog 129 #[.pointer (some ⟨bk, 0, none⟩)] w fun e w' => e = .returned (.tuple #[]) ∧ w' = w := by
  go_enter Tryz.func129, Tryz.ntmps129
  go_wp2
  go_loopw [2] (fun iv wr => iv = .int .i64 0 ∧ wr = w) (fun _ _ => 0)
  case atStart => exact ⟨rfl, rfl⟩
  case round =>
    obtain ⟨rfl, rfl⟩ := hrel
    go_wp2
    go_end0
    exact ⟨rfl, rfl⟩
theorem lookLiteral_no {w : World} {bk : Nat} (h : w.cell? ⟨bk, 6, none⟩ = some (.slice none 0 0)) : Calls Tryz.prog 160 #[.pointer (some ⟨bk, 0, none⟩)] w fun e w' => e = .returned (.bool true) ∧ w' = w := by
  go_enter Tryz.func160, Tryz.ntmps160
  go_wp2
  go_loopw [3] (fun iv wr => iv = .int .i64 0 ∧ wr = w) (fun _ _ => 0)
  case atStart => exact ⟨rfl, rfl⟩
  case round =>
    obtain ⟨rfl, rfl⟩ := hrel
    go_wp2
    go_ret
    exact ⟨rfl, rfl⟩
theorem fillArg_no {w : World} {bk : Nat} (h : w.cell? ⟨bk, 7, none⟩ = some (.slice none 0 0)) : Calls Tryz.prog 46 #[.pointer (some ⟨bk, 0, none⟩)] w fun e w' => e = .returned (.tuple #[]) ∧ w' = w := by
  go_enter Tryz.func46, Tryz.ntmps46
  go_wp2
  go_loopw [2] (fun iv wr => iv = .int .i64 0 ∧ wr = w) (fun _ _ => 0)
  case atStart => exact ⟨rfl, rfl⟩
  case round =>
    obtain ⟨rfl, rfl⟩ := hrel
    go_wp2
    go_end0
    exact ⟨rfl, rfl⟩
theorem growArg_no {w : World} {bk : Nat} (h : w.cell? ⟨bk, 7, none⟩ = some (.slice none 0 0)) : Calls Tryz.prog 130 #[.pointer (some ⟨bk, 0, none⟩)] w fun e w' => e = .returned (.tuple #[]) ∧ w' = w := by
  go_enter Tryz.func130, Tryz.ntmps130
  go_wp2
  go_loopw [2] (fun iv wr => iv = .int .i64 0 ∧ wr = w) (fun _ _ => 0)
  case atStart => exact ⟨rfl, rfl⟩
  case round =>
    obtain ⟨rfl, rfl⟩ := hrel
    go_wp2
    go_end0
    exact ⟨rfl, rfl⟩
theorem lookArg_no {w : World} {bk : Nat} (h : w.cell? ⟨bk, 7, none⟩ = some (.slice none 0 0)) : Calls Tryz.prog 161 #[.pointer (some ⟨bk, 0, none⟩)] w fun e w' => e = .returned (.bool true) ∧ w' = w := by
  go_enter Tryz.func161, Tryz.ntmps161
  go_wp2
  go_loopw [3] (fun iv wr => iv = .int .i64 0 ∧ wr = w) (fun _ _ => 0)
  case atStart => exact ⟨rfl, rfl⟩
  case round =>
    obtain ⟨rfl, rfl⟩ := hrel
    go_wp2
    go_ret
    exact ⟨rfl, rfl⟩
theorem fillRule_no {w : World} {bk : Nat} (h : w.cell? ⟨bk, 8, none⟩ = some (.slice none 0 0)) : Calls Tryz.prog 47 #[.pointer (some ⟨bk, 0, none⟩)] w fun e w' => e = .returned (.tuple #[]) ∧ w' = w := by
  go_enter Tryz.func47, Tryz.ntmps47
  go_wp2
  go_loopw [2] (fun iv wr => iv = .int .i64 0 ∧ wr = w) (fun _ _ => 0)
  case atStart => exact ⟨rfl, rfl⟩
  case round =>
    obtain ⟨rfl, rfl⟩ := hrel
    go_wp2
    go_end0
    exact ⟨rfl, rfl⟩
theorem growRule_no {w : World} {bk : Nat} (h : w.cell? ⟨bk, 8, none⟩ = some (.slice none 0 0)) : Calls Tryz.prog 131 #[.pointer (some ⟨bk, 0, none⟩)] w fun e w' => e = .returned (.tuple #[]) ∧ w' = w := by
  go_enter Tryz.func131, Tryz.ntmps131
  go_wp2
  go_loopw [2] (fun iv wr => iv = .int .i64 0 ∧ wr = w) (fun _ _ => 0)
  case atStart => exact ⟨rfl, rfl⟩
  case round =>
    obtain ⟨rfl, rfl⟩ := hrel
    go_wp2
    go_end0
    exact ⟨rfl, rfl⟩
theorem lookRule_no {w : World} {bk : Nat} (h : w.cell? ⟨bk, 8, none⟩ = some (.slice none 0 0)) : Calls Tryz.prog 162 #[.pointer (some ⟨bk, 0, none⟩)] w fun e w' => e = .returned (.bool true) ∧ w' = w := by
  go_enter Tryz.func162, Tryz.ntmps162
  go_wp2
  go_loopw [3] (fun iv wr => iv = .int .i64 0 ∧ wr = w) (fun _ _ => 0)
  case atStart => exact ⟨rfl, rfl⟩
  case round =>
    obtain ⟨rfl, rfl⟩ := hrel
    go_wp2
    go_ret
    exact ⟨rfl, rfl⟩
theorem fillPair_no {w : World} {bk : Nat} (h : w.cell? ⟨bk, 9, none⟩ = some (.slice none 0 0)) : Calls Tryz.prog 48 #[.pointer (some ⟨bk, 0, none⟩)] w fun e w' => e = .returned (.tuple #[]) ∧ w' = w := by
  go_enter Tryz.func48, Tryz.ntmps48
  go_wp2
  go_loopw [2] (fun iv wr => iv = .int .i64 0 ∧ wr = w) (fun _ _ => 0)
  case atStart => exact ⟨rfl, rfl⟩
  case round =>
    obtain ⟨rfl, rfl⟩ := hrel
    go_wp2
    go_end0
    exact ⟨rfl, rfl⟩
theorem growPair_no {w : World} {bk : Nat} (h : w.cell? ⟨bk, 9, none⟩ = some (.slice none 0 0)) : Calls Tryz.prog 132 #[.pointer (some ⟨bk, 0, none⟩)] w fun e w' => e = .returned (.tuple #[]) ∧ w' = w := by
  go_enter Tryz.func132, Tryz.ntmps132
  go_wp2
  go_loopw [2] (fun iv wr => iv = .int .i64 0 ∧ wr = w) (fun _ _ => 0)
  case atStart => exact ⟨rfl, rfl⟩
  case round =>
    obtain ⟨rfl, rfl⟩ := hrel
    go_wp2
    go_end0
    exact ⟨rfl, rfl⟩
theorem lookPair_no {w : World} {bk : Nat} (h : w.cell? ⟨bk, 9, none⟩ = some (.slice none 0 0)) : Calls Tryz.prog 163 #[.pointer (some ⟨bk, 0, none⟩)] w fun e w' => e = .returned (.bool true) ∧ w' = w := by
  go_enter Tryz.func163, Tryz.ntmps163
  go_wp2
  go_loopw [3] (fun iv wr => iv = .int .i64 0 ∧ wr = w) (fun _ _ => 0)
  case atStart => exact ⟨rfl, rfl⟩
  case round =>
    obtain ⟨rfl, rfl⟩ := hrel
    go_wp2
    go_ret
    exact ⟨rfl, rfl⟩
theorem fillBind_no {w : World} {bk : Nat} (h : w.cell? ⟨bk, 10, none⟩ = some (.slice none 0 0)) : Calls Tryz.prog 49 #[.pointer (some ⟨bk, 0, none⟩)] w fun e w' => e = .returned (.tuple #[]) ∧ w' = w := by
  go_enter Tryz.func49, Tryz.ntmps49
  go_wp2
  go_loopw [2] (fun iv wr => iv = .int .i64 0 ∧ wr = w) (fun _ _ => 0)
  case atStart => exact ⟨rfl, rfl⟩
  case round =>
    obtain ⟨rfl, rfl⟩ := hrel
    go_wp2
    go_end0
    exact ⟨rfl, rfl⟩
theorem growBind_no {w : World} {bk : Nat} (h : w.cell? ⟨bk, 10, none⟩ = some (.slice none 0 0)) : Calls Tryz.prog 133 #[.pointer (some ⟨bk, 0, none⟩)] w fun e w' => e = .returned (.tuple #[]) ∧ w' = w := by
  go_enter Tryz.func133, Tryz.ntmps133
  go_wp2
  go_loopw [2] (fun iv wr => iv = .int .i64 0 ∧ wr = w) (fun _ _ => 0)
  case atStart => exact ⟨rfl, rfl⟩
  case round =>
    obtain ⟨rfl, rfl⟩ := hrel
    go_wp2
    go_end0
    exact ⟨rfl, rfl⟩
theorem lookBind_no {w : World} {bk : Nat} (h : w.cell? ⟨bk, 10, none⟩ = some (.slice none 0 0)) : Calls Tryz.prog 164 #[.pointer (some ⟨bk, 0, none⟩)] w fun e w' => e = .returned (.bool true) ∧ w' = w := by
  go_enter Tryz.func164, Tryz.ntmps164
  go_wp2
  go_loopw [3] (fun iv wr => iv = .int .i64 0 ∧ wr = w) (fun _ _ => 0)
  case atStart => exact ⟨rfl, rfl⟩
  case round =>
    obtain ⟨rfl, rfl⟩ := hrel
    go_wp2
    go_ret
    exact ⟨rfl, rfl⟩
theorem fillBindList_no {w : World} {bk : Nat} (h : w.cell? ⟨bk, 11, none⟩ = some (.slice none 0 0)) : Calls Tryz.prog 50 #[.pointer (some ⟨bk, 0, none⟩)] w fun e w' => e = .returned (.tuple #[]) ∧ w' = w := by
  go_enter Tryz.func50, Tryz.ntmps50
  go_wp2
  go_loopw [2] (fun iv wr => iv = .int .i64 0 ∧ wr = w) (fun _ _ => 0)
  case atStart => exact ⟨rfl, rfl⟩
  case round =>
    obtain ⟨rfl, rfl⟩ := hrel
    go_wp2
    go_end0
    exact ⟨rfl, rfl⟩
theorem growBindList_no {w : World} {bk : Nat} (h : w.cell? ⟨bk, 11, none⟩ = some (.slice none 0 0)) : Calls Tryz.prog 134 #[.pointer (some ⟨bk, 0, none⟩)] w fun e w' => e = .returned (.tuple #[]) ∧ w' = w := by
  go_enter Tryz.func134, Tryz.ntmps134
  go_wp2
  go_loopw [2] (fun iv wr => iv = .int .i64 0 ∧ wr = w) (fun _ _ => 0)
  case atStart => exact ⟨rfl, rfl⟩
  case round =>
    obtain ⟨rfl, rfl⟩ := hrel
    go_wp2
    go_end0
    exact ⟨rfl, rfl⟩
theorem lookBindList_no {w : World} {bk : Nat} (h : w.cell? ⟨bk, 11, none⟩ = some (.slice none 0 0)) : Calls Tryz.prog 165 #[.pointer (some ⟨bk, 0, none⟩)] w fun e w' => e = .returned (.bool true) ∧ w' = w := by
  go_enter Tryz.func165, Tryz.ntmps165
  go_wp2
  go_loopw [3] (fun iv wr => iv = .int .i64 0 ∧ wr = w) (fun _ _ => 0)
  case atStart => exact ⟨rfl, rfl⟩
  case round =>
    obtain ⟨rfl, rfl⟩ := hrel
    go_wp2
    go_ret
    exact ⟨rfl, rfl⟩
theorem fillText_no {w : World} {bk : Nat} (h : w.cell? ⟨bk, 12, none⟩ = some (.slice none 0 0)) : Calls Tryz.prog 51 #[.pointer (some ⟨bk, 0, none⟩)] w fun e w' => e = .returned (.tuple #[]) ∧ w' = w := by
  go_enter Tryz.func51, Tryz.ntmps51
  go_wp2
  go_loopw [2] (fun iv wr => iv = .int .i64 0 ∧ wr = w) (fun _ _ => 0)
  case atStart => exact ⟨rfl, rfl⟩
  case round =>
    obtain ⟨rfl, rfl⟩ := hrel
    go_wp2
    go_end0
    exact ⟨rfl, rfl⟩
theorem growText_no {w : World} {bk : Nat} (h : w.cell? ⟨bk, 12, none⟩ = some (.slice none 0 0)) : Calls Tryz.prog 135 #[.pointer (some ⟨bk, 0, none⟩)] w fun e w' => e = .returned (.tuple #[]) ∧ w' = w := by
  go_enter Tryz.func135, Tryz.ntmps135
  go_wp2
  go_loopw [2] (fun iv wr => iv = .int .i64 0 ∧ wr = w) (fun _ _ => 0)
  case atStart => exact ⟨rfl, rfl⟩
  case round =>
    obtain ⟨rfl, rfl⟩ := hrel
    go_wp2
    go_end0
    exact ⟨rfl, rfl⟩
theorem lookText_no {w : World} {bk : Nat} (h : w.cell? ⟨bk, 12, none⟩ = some (.slice none 0 0)) : Calls Tryz.prog 166 #[.pointer (some ⟨bk, 0, none⟩)] w fun e w' => e = .returned (.bool true) ∧ w' = w := by
  go_enter Tryz.func166, Tryz.ntmps166
  go_wp2
  go_loopw [3] (fun iv wr => iv = .int .i64 0 ∧ wr = w) (fun _ _ => 0)
  case atStart => exact ⟨rfl, rfl⟩
  case round =>
    obtain ⟨rfl, rfl⟩ := hrel
    go_wp2
    go_ret
    exact ⟨rfl, rfl⟩
theorem fillTextList_no {w : World} {bk : Nat} (h : w.cell? ⟨bk, 13, none⟩ = some (.slice none 0 0)) : Calls Tryz.prog 52 #[.pointer (some ⟨bk, 0, none⟩)] w fun e w' => e = .returned (.tuple #[]) ∧ w' = w := by
  go_enter Tryz.func52, Tryz.ntmps52
  go_wp2
  go_loopw [2] (fun iv wr => iv = .int .i64 0 ∧ wr = w) (fun _ _ => 0)
  case atStart => exact ⟨rfl, rfl⟩
  case round =>
    obtain ⟨rfl, rfl⟩ := hrel
    go_wp2
    go_end0
    exact ⟨rfl, rfl⟩
theorem growTextList_no {w : World} {bk : Nat} (h : w.cell? ⟨bk, 13, none⟩ = some (.slice none 0 0)) : Calls Tryz.prog 136 #[.pointer (some ⟨bk, 0, none⟩)] w fun e w' => e = .returned (.tuple #[]) ∧ w' = w := by
  go_enter Tryz.func136, Tryz.ntmps136
  go_wp2
  go_loopw [2] (fun iv wr => iv = .int .i64 0 ∧ wr = w) (fun _ _ => 0)
  case atStart => exact ⟨rfl, rfl⟩
  case round =>
    obtain ⟨rfl, rfl⟩ := hrel
    go_wp2
    go_end0
    exact ⟨rfl, rfl⟩
theorem lookTextList_no {w : World} {bk : Nat} (h : w.cell? ⟨bk, 13, none⟩ = some (.slice none 0 0)) : Calls Tryz.prog 167 #[.pointer (some ⟨bk, 0, none⟩)] w fun e w' => e = .returned (.bool true) ∧ w' = w := by
  go_enter Tryz.func167, Tryz.ntmps167
  go_wp2
  go_loopw [3] (fun iv wr => iv = .int .i64 0 ∧ wr = w) (fun _ _ => 0)
  case atStart => exact ⟨rfl, rfl⟩
  case round =>
    obtain ⟨rfl, rfl⟩ := hrel
    go_wp2
    go_ret
    exact ⟨rfl, rfl⟩
theorem fillInt_no {w : World} {bk : Nat} (h : w.cell? ⟨bk, 14, none⟩ = some (.slice none 0 0)) : Calls Tryz.prog 53 #[.pointer (some ⟨bk, 0, none⟩)] w fun e w' => e = .returned (.tuple #[]) ∧ w' = w := by
  go_enter Tryz.func53, Tryz.ntmps53
  go_wp2
  go_loopw [2] (fun iv wr => iv = .int .i64 0 ∧ wr = w) (fun _ _ => 0)
  case atStart => exact ⟨rfl, rfl⟩
  case round =>
    obtain ⟨rfl, rfl⟩ := hrel
    go_wp2
    go_end0
    exact ⟨rfl, rfl⟩
theorem growInt_no {w : World} {bk : Nat} (h : w.cell? ⟨bk, 14, none⟩ = some (.slice none 0 0)) : Calls Tryz.prog 137 #[.pointer (some ⟨bk, 0, none⟩)] w fun e w' => e = .returned (.tuple #[]) ∧ w' = w := by
  go_enter Tryz.func137, Tryz.ntmps137
  go_wp2
  go_loopw [2] (fun iv wr => iv = .int .i64 0 ∧ wr = w) (fun _ _ => 0)
  case atStart => exact ⟨rfl, rfl⟩
  case round =>
    obtain ⟨rfl, rfl⟩ := hrel
    go_wp2
    go_end0
    exact ⟨rfl, rfl⟩
theorem lookInt_no {w : World} {bk : Nat} (h : w.cell? ⟨bk, 14, none⟩ = some (.slice none 0 0)) : Calls Tryz.prog 168 #[.pointer (some ⟨bk, 0, none⟩)] w fun e w' => e = .returned (.bool true) ∧ w' = w := by
  go_enter Tryz.func168, Tryz.ntmps168
  go_wp2
  go_loopw [3] (fun iv wr => iv = .int .i64 0 ∧ wr = w) (fun _ _ => 0)
  case atStart => exact ⟨rfl, rfl⟩
  case round =>
    obtain ⟨rfl, rfl⟩ := hrel
    go_wp2
    go_ret
    exact ⟨rfl, rfl⟩
theorem fillRow_no {w : World} {bk : Nat} (h : w.cell? ⟨bk, 15, none⟩ = some (.slice none 0 0)) : Calls Tryz.prog 54 #[.pointer (some ⟨bk, 0, none⟩)] w fun e w' => e = .returned (.tuple #[]) ∧ w' = w := by
  go_enter Tryz.func54, Tryz.ntmps54
  go_wp2
  go_loopw [2] (fun iv wr => iv = .int .i64 0 ∧ wr = w) (fun _ _ => 0)
  case atStart => exact ⟨rfl, rfl⟩
  case round =>
    obtain ⟨rfl, rfl⟩ := hrel
    go_wp2
    go_end0
    exact ⟨rfl, rfl⟩
theorem growRow_no {w : World} {bk : Nat} (h : w.cell? ⟨bk, 15, none⟩ = some (.slice none 0 0)) : Calls Tryz.prog 138 #[.pointer (some ⟨bk, 0, none⟩)] w fun e w' => e = .returned (.tuple #[]) ∧ w' = w := by
  go_enter Tryz.func138, Tryz.ntmps138
  go_wp2
  go_loopw [2] (fun iv wr => iv = .int .i64 0 ∧ wr = w) (fun _ _ => 0)
  case atStart => exact ⟨rfl, rfl⟩
  case round =>
    obtain ⟨rfl, rfl⟩ := hrel
    go_wp2
    go_end0
    exact ⟨rfl, rfl⟩
theorem lookRow_no {w : World} {bk : Nat} (h : w.cell? ⟨bk, 15, none⟩ = some (.slice none 0 0)) : Calls Tryz.prog 169 #[.pointer (some ⟨bk, 0, none⟩)] w fun e w' => e = .returned (.bool true) ∧ w' = w := by
  go_enter Tryz.func169, Tryz.ntmps169
  go_wp2
  go_loopw [3] (fun iv wr => iv = .int .i64 0 ∧ wr = w) (fun _ _ => 0)
  case atStart => exact ⟨rfl, rfl⟩
  case round =>
    obtain ⟨rfl, rfl⟩ := hrel
    go_wp2
    go_ret
    exact ⟨rfl, rfl⟩
theorem fillToken_no {w : World} {bk : Nat} (h : w.cell? ⟨bk, 16, none⟩ = some (.slice none 0 0)) : Calls Tryz.prog 55 #[.pointer (some ⟨bk, 0, none⟩)] w fun e w' => e = .returned (.tuple #[]) ∧ w' = w := by
  go_enter Tryz.func55, Tryz.ntmps55
  go_wp2
  go_loopw [2] (fun iv wr => iv = .int .i64 0 ∧ wr = w) (fun _ _ => 0)
  case atStart => exact ⟨rfl, rfl⟩
  case round =>
    obtain ⟨rfl, rfl⟩ := hrel
    go_wp2
    go_end0
    exact ⟨rfl, rfl⟩
theorem growToken_no {w : World} {bk : Nat} (h : w.cell? ⟨bk, 16, none⟩ = some (.slice none 0 0)) : Calls Tryz.prog 139 #[.pointer (some ⟨bk, 0, none⟩)] w fun e w' => e = .returned (.tuple #[]) ∧ w' = w := by
  go_enter Tryz.func139, Tryz.ntmps139
  go_wp2
  go_loopw [2] (fun iv wr => iv = .int .i64 0 ∧ wr = w) (fun _ _ => 0)
  case atStart => exact ⟨rfl, rfl⟩
  case round =>
    obtain ⟨rfl, rfl⟩ := hrel
    go_wp2
    go_end0
    exact ⟨rfl, rfl⟩
theorem lookToken_no {w : World} {bk : Nat} (h : w.cell? ⟨bk, 16, none⟩ = some (.slice none 0 0)) : Calls Tryz.prog 170 #[.pointer (some ⟨bk, 0, none⟩)] w fun e w' => e = .returned (.bool true) ∧ w' = w := by
  go_enter Tryz.func170, Tryz.ntmps170
  go_wp2
  go_loopw [3] (fun iv wr => iv = .int .i64 0 ∧ wr = w) (fun _ _ => 0)
  case atStart => exact ⟨rfl, rfl⟩
  case round =>
    obtain ⟨rfl, rfl⟩ := hrel
    go_wp2
    go_ret
    exact ⟨rfl, rfl⟩
theorem fillPred_no {w : World} {bk : Nat} (h : w.cell? ⟨bk, 17, none⟩ = some (.slice none 0 0)) : Calls Tryz.prog 56 #[.pointer (some ⟨bk, 0, none⟩)] w fun e w' => e = .returned (.tuple #[]) ∧ w' = w := by
  go_enter Tryz.func56, Tryz.ntmps56
  go_wp2
  go_loopw [2] (fun iv wr => iv = .int .i64 0 ∧ wr = w) (fun _ _ => 0)
  case atStart => exact ⟨rfl, rfl⟩
  case round =>
    obtain ⟨rfl, rfl⟩ := hrel
    go_wp2
    go_end0
    exact ⟨rfl, rfl⟩
theorem growPred_no {w : World} {bk : Nat} (h : w.cell? ⟨bk, 17, none⟩ = some (.slice none 0 0)) : Calls Tryz.prog 140 #[.pointer (some ⟨bk, 0, none⟩)] w fun e w' => e = .returned (.tuple #[]) ∧ w' = w := by
  go_enter Tryz.func140, Tryz.ntmps140
  go_wp2
  go_loopw [2] (fun iv wr => iv = .int .i64 0 ∧ wr = w) (fun _ _ => 0)
  case atStart => exact ⟨rfl, rfl⟩
  case round =>
    obtain ⟨rfl, rfl⟩ := hrel
    go_wp2
    go_end0
    exact ⟨rfl, rfl⟩
theorem lookPred_no {w : World} {bk : Nat} (h : w.cell? ⟨bk, 17, none⟩ = some (.slice none 0 0)) : Calls Tryz.prog 171 #[.pointer (some ⟨bk, 0, none⟩)] w fun e w' => e = .returned (.bool true) ∧ w' = w := by
  go_enter Tryz.func171, Tryz.ntmps171
  go_wp2
  go_loopw [3] (fun iv wr => iv = .int .i64 0 ∧ wr = w) (fun _ _ => 0)
  case atStart => exact ⟨rfl, rfl⟩
  case round =>
    obtain ⟨rfl, rfl⟩ := hrel
    go_wp2
    go_ret
    exact ⟨rfl, rfl⟩
theorem fillType_no {w : World} {bk : Nat} (h : w.cell? ⟨bk, 18, none⟩ = some (.slice none 0 0)) : Calls Tryz.prog 57 #[.pointer (some ⟨bk, 0, none⟩)] w fun e w' => e = .returned (.tuple #[]) ∧ w' = w := by
  go_enter Tryz.func57, Tryz.ntmps57
  go_wp2
  go_loopw [2] (fun iv wr => iv = .int .i64 0 ∧ wr = w) (fun _ _ => 0)
  case atStart => exact ⟨rfl, rfl⟩
  case round =>
    obtain ⟨rfl, rfl⟩ := hrel
    go_wp2
    go_end0
    exact ⟨rfl, rfl⟩
theorem growType_no {w : World} {bk : Nat} (h : w.cell? ⟨bk, 18, none⟩ = some (.slice none 0 0)) : Calls Tryz.prog 141 #[.pointer (some ⟨bk, 0, none⟩)] w fun e w' => e = .returned (.tuple #[]) ∧ w' = w := by
  go_enter Tryz.func141, Tryz.ntmps141
  go_wp2
  go_loopw [2] (fun iv wr => iv = .int .i64 0 ∧ wr = w) (fun _ _ => 0)
  case atStart => exact ⟨rfl, rfl⟩
  case round =>
    obtain ⟨rfl, rfl⟩ := hrel
    go_wp2
    go_end0
    exact ⟨rfl, rfl⟩
theorem lookType_no {w : World} {bk : Nat} (h : w.cell? ⟨bk, 18, none⟩ = some (.slice none 0 0)) : Calls Tryz.prog 172 #[.pointer (some ⟨bk, 0, none⟩)] w fun e w' => e = .returned (.bool true) ∧ w' = w := by
  go_enter Tryz.func172, Tryz.ntmps172
  go_wp2
  go_loopw [3] (fun iv wr => iv = .int .i64 0 ∧ wr = w) (fun _ _ => 0)
  case atStart => exact ⟨rfl, rfl⟩
  case round =>
    obtain ⟨rfl, rfl⟩ := hrel
    go_wp2
    go_ret
    exact ⟨rfl, rfl⟩
theorem fillSig_no {w : World} {bk : Nat} (h : w.cell? ⟨bk, 19, none⟩ = some (.slice none 0 0)) : Calls Tryz.prog 58 #[.pointer (some ⟨bk, 0, none⟩)] w fun e w' => e = .returned (.tuple #[]) ∧ w' = w := by
  go_enter Tryz.func58, Tryz.ntmps58
  go_wp2
  go_loopw [2] (fun iv wr => iv = .int .i64 0 ∧ wr = w) (fun _ _ => 0)
  case atStart => exact ⟨rfl, rfl⟩
  case round =>
    obtain ⟨rfl, rfl⟩ := hrel
    go_wp2
    go_end0
    exact ⟨rfl, rfl⟩
theorem growSig_no {w : World} {bk : Nat} (h : w.cell? ⟨bk, 19, none⟩ = some (.slice none 0 0)) : Calls Tryz.prog 142 #[.pointer (some ⟨bk, 0, none⟩)] w fun e w' => e = .returned (.tuple #[]) ∧ w' = w := by
  go_enter Tryz.func142, Tryz.ntmps142
  go_wp2
  go_loopw [2] (fun iv wr => iv = .int .i64 0 ∧ wr = w) (fun _ _ => 0)
  case atStart => exact ⟨rfl, rfl⟩
  case round =>
    obtain ⟨rfl, rfl⟩ := hrel
    go_wp2
    go_end0
    exact ⟨rfl, rfl⟩
theorem lookSig_no {w : World} {bk : Nat} (h : w.cell? ⟨bk, 19, none⟩ = some (.slice none 0 0)) : Calls Tryz.prog 173 #[.pointer (some ⟨bk, 0, none⟩)] w fun e w' => e = .returned (.bool true) ∧ w' = w := by
  go_enter Tryz.func173, Tryz.ntmps173
  go_wp2
  go_loopw [3] (fun iv wr => iv = .int .i64 0 ∧ wr = w) (fun _ _ => 0)
  case atStart => exact ⟨rfl, rfl⟩
  case round =>
    obtain ⟨rfl, rfl⟩ := hrel
    go_wp2
    go_ret
    exact ⟨rfl, rfl⟩
theorem fillEdge_no {w : World} {bk : Nat} (h : w.cell? ⟨bk, 20, none⟩ = some (.slice none 0 0)) : Calls Tryz.prog 59 #[.pointer (some ⟨bk, 0, none⟩)] w fun e w' => e = .returned (.tuple #[]) ∧ w' = w := by
  go_enter Tryz.func59, Tryz.ntmps59
  go_wp2
  go_loopw [2] (fun iv wr => iv = .int .i64 0 ∧ wr = w) (fun _ _ => 0)
  case atStart => exact ⟨rfl, rfl⟩
  case round =>
    obtain ⟨rfl, rfl⟩ := hrel
    go_wp2
    go_end0
    exact ⟨rfl, rfl⟩
theorem growEdge_no {w : World} {bk : Nat} (h : w.cell? ⟨bk, 20, none⟩ = some (.slice none 0 0)) : Calls Tryz.prog 143 #[.pointer (some ⟨bk, 0, none⟩)] w fun e w' => e = .returned (.tuple #[]) ∧ w' = w := by
  go_enter Tryz.func143, Tryz.ntmps143
  go_wp2
  go_loopw [2] (fun iv wr => iv = .int .i64 0 ∧ wr = w) (fun _ _ => 0)
  case atStart => exact ⟨rfl, rfl⟩
  case round =>
    obtain ⟨rfl, rfl⟩ := hrel
    go_wp2
    go_end0
    exact ⟨rfl, rfl⟩
theorem lookEdge_no {w : World} {bk : Nat} (h : w.cell? ⟨bk, 20, none⟩ = some (.slice none 0 0)) : Calls Tryz.prog 174 #[.pointer (some ⟨bk, 0, none⟩)] w fun e w' => e = .returned (.bool true) ∧ w' = w := by
  go_enter Tryz.func174, Tryz.ntmps174
  go_wp2
  go_loopw [3] (fun iv wr => iv = .int .i64 0 ∧ wr = w) (fun _ _ => 0)
  case atStart => exact ⟨rfl, rfl⟩
  case round =>
    obtain ⟨rfl, rfl⟩ := hrel
    go_wp2
    go_ret
    exact ⟨rfl, rfl⟩
theorem fillLevel_no {w : World} {bk : Nat} (h : w.cell? ⟨bk, 21, none⟩ = some (.slice none 0 0)) : Calls Tryz.prog 60 #[.pointer (some ⟨bk, 0, none⟩)] w fun e w' => e = .returned (.tuple #[]) ∧ w' = w := by
  go_enter Tryz.func60, Tryz.ntmps60
  go_wp2
  go_loopw [2] (fun iv wr => iv = .int .i64 0 ∧ wr = w) (fun _ _ => 0)
  case atStart => exact ⟨rfl, rfl⟩
  case round =>
    obtain ⟨rfl, rfl⟩ := hrel
    go_wp2
    go_end0
    exact ⟨rfl, rfl⟩
theorem growLevel_no {w : World} {bk : Nat} (h : w.cell? ⟨bk, 21, none⟩ = some (.slice none 0 0)) : Calls Tryz.prog 144 #[.pointer (some ⟨bk, 0, none⟩)] w fun e w' => e = .returned (.tuple #[]) ∧ w' = w := by
  go_enter Tryz.func144, Tryz.ntmps144
  go_wp2
  go_loopw [2] (fun iv wr => iv = .int .i64 0 ∧ wr = w) (fun _ _ => 0)
  case atStart => exact ⟨rfl, rfl⟩
  case round =>
    obtain ⟨rfl, rfl⟩ := hrel
    go_wp2
    go_end0
    exact ⟨rfl, rfl⟩
theorem lookLevel_no {w : World} {bk : Nat} (h : w.cell? ⟨bk, 21, none⟩ = some (.slice none 0 0)) : Calls Tryz.prog 175 #[.pointer (some ⟨bk, 0, none⟩)] w fun e w' => e = .returned (.bool true) ∧ w' = w := by
  go_enter Tryz.func175, Tryz.ntmps175
  go_wp2
  go_loopw [3] (fun iv wr => iv = .int .i64 0 ∧ wr = w) (fun _ _ => 0)
  case atStart => exact ⟨rfl, rfl⟩
  case round =>
    obtain ⟨rfl, rfl⟩ := hrel
    go_wp2
    go_ret
    exact ⟨rfl, rfl⟩
theorem fillMask_no {w : World} {bk : Nat} (h : w.cell? ⟨bk, 22, none⟩ = some (.slice none 0 0)) : Calls Tryz.prog 61 #[.pointer (some ⟨bk, 0, none⟩)] w fun e w' => e = .returned (.tuple #[]) ∧ w' = w := by
  go_enter Tryz.func61, Tryz.ntmps61
  go_wp2
  go_loopw [2] (fun iv wr => iv = .int .i64 0 ∧ wr = w) (fun _ _ => 0)
  case atStart => exact ⟨rfl, rfl⟩
  case round =>
    obtain ⟨rfl, rfl⟩ := hrel
    go_wp2
    go_end0
    exact ⟨rfl, rfl⟩
theorem growMask_no {w : World} {bk : Nat} (h : w.cell? ⟨bk, 22, none⟩ = some (.slice none 0 0)) : Calls Tryz.prog 145 #[.pointer (some ⟨bk, 0, none⟩)] w fun e w' => e = .returned (.tuple #[]) ∧ w' = w := by
  go_enter Tryz.func145, Tryz.ntmps145
  go_wp2
  go_loopw [2] (fun iv wr => iv = .int .i64 0 ∧ wr = w) (fun _ _ => 0)
  case atStart => exact ⟨rfl, rfl⟩
  case round =>
    obtain ⟨rfl, rfl⟩ := hrel
    go_wp2
    go_end0
    exact ⟨rfl, rfl⟩
theorem lookMask_no {w : World} {bk : Nat} (h : w.cell? ⟨bk, 22, none⟩ = some (.slice none 0 0)) : Calls Tryz.prog 176 #[.pointer (some ⟨bk, 0, none⟩)] w fun e w' => e = .returned (.bool true) ∧ w' = w := by
  go_enter Tryz.func176, Tryz.ntmps176
  go_wp2
  go_loopw [3] (fun iv wr => iv = .int .i64 0 ∧ wr = w) (fun _ _ => 0)
  case atStart => exact ⟨rfl, rfl⟩
  case round =>
    obtain ⟨rfl, rfl⟩ := hrel
    go_wp2
    go_ret
    exact ⟨rfl, rfl⟩
theorem fillStep_no {w : World} {bk : Nat} (h : w.cell? ⟨bk, 23, none⟩ = some (.slice none 0 0)) : Calls Tryz.prog 62 #[.pointer (some ⟨bk, 0, none⟩)] w fun e w' => e = .returned (.tuple #[]) ∧ w' = w := by
  go_enter Tryz.func62, Tryz.ntmps62
  go_wp2
  go_loopw [2] (fun iv wr => iv = .int .i64 0 ∧ wr = w) (fun _ _ => 0)
  case atStart => exact ⟨rfl, rfl⟩
  case round =>
    obtain ⟨rfl, rfl⟩ := hrel
    go_wp2
    go_end0
    exact ⟨rfl, rfl⟩
theorem growStep_no {w : World} {bk : Nat} (h : w.cell? ⟨bk, 23, none⟩ = some (.slice none 0 0)) : Calls Tryz.prog 146 #[.pointer (some ⟨bk, 0, none⟩)] w fun e w' => e = .returned (.tuple #[]) ∧ w' = w := by
  go_enter Tryz.func146, Tryz.ntmps146
  go_wp2
  go_loopw [2] (fun iv wr => iv = .int .i64 0 ∧ wr = w) (fun _ _ => 0)
  case atStart => exact ⟨rfl, rfl⟩
  case round =>
    obtain ⟨rfl, rfl⟩ := hrel
    go_wp2
    go_end0
    exact ⟨rfl, rfl⟩
theorem lookStep_no {w : World} {bk : Nat} (h : w.cell? ⟨bk, 23, none⟩ = some (.slice none 0 0)) : Calls Tryz.prog 177 #[.pointer (some ⟨bk, 0, none⟩)] w fun e w' => e = .returned (.bool true) ∧ w' = w := by
  go_enter Tryz.func177, Tryz.ntmps177
  go_wp2
  go_loopw [3] (fun iv wr => iv = .int .i64 0 ∧ wr = w) (fun _ _ => 0)
  case atStart => exact ⟨rfl, rfl⟩
  case round =>
    obtain ⟨rfl, rfl⟩ := hrel
    go_wp2
    go_ret
    exact ⟨rfl, rfl⟩
theorem fillRanked_no {w : World} {bk : Nat} (h : w.cell? ⟨bk, 24, none⟩ = some (.slice none 0 0)) : Calls Tryz.prog 63 #[.pointer (some ⟨bk, 0, none⟩)] w fun e w' => e = .returned (.tuple #[]) ∧ w' = w := by
  go_enter Tryz.func63, Tryz.ntmps63
  go_wp2
  go_loopw [2] (fun iv wr => iv = .int .i64 0 ∧ wr = w) (fun _ _ => 0)
  case atStart => exact ⟨rfl, rfl⟩
  case round =>
    obtain ⟨rfl, rfl⟩ := hrel
    go_wp2
    go_end0
    exact ⟨rfl, rfl⟩
theorem growRanked_no {w : World} {bk : Nat} (h : w.cell? ⟨bk, 24, none⟩ = some (.slice none 0 0)) : Calls Tryz.prog 147 #[.pointer (some ⟨bk, 0, none⟩)] w fun e w' => e = .returned (.tuple #[]) ∧ w' = w := by
  go_enter Tryz.func147, Tryz.ntmps147
  go_wp2
  go_loopw [2] (fun iv wr => iv = .int .i64 0 ∧ wr = w) (fun _ _ => 0)
  case atStart => exact ⟨rfl, rfl⟩
  case round =>
    obtain ⟨rfl, rfl⟩ := hrel
    go_wp2
    go_end0
    exact ⟨rfl, rfl⟩
theorem lookRanked_no {w : World} {bk : Nat} (h : w.cell? ⟨bk, 24, none⟩ = some (.slice none 0 0)) : Calls Tryz.prog 178 #[.pointer (some ⟨bk, 0, none⟩)] w fun e w' => e = .returned (.bool true) ∧ w' = w := by
  go_enter Tryz.func178, Tryz.ntmps178
  go_wp2
  go_loopw [3] (fun iv wr => iv = .int .i64 0 ∧ wr = w) (fun _ _ => 0)
  case atStart => exact ⟨rfl, rfl⟩
  case round =>
    obtain ⟨rfl, rfl⟩ := hrel
    go_wp2
    go_ret
    exact ⟨rfl, rfl⟩
theorem fillAdorned_no {w : World} {bk : Nat} (h : w.cell? ⟨bk, 25, none⟩ = some (.slice none 0 0)) : Calls Tryz.prog 64 #[.pointer (some ⟨bk, 0, none⟩)] w fun e w' => e = .returned (.tuple #[]) ∧ w' = w := by
  go_enter Tryz.func64, Tryz.ntmps64
  go_wp2
  go_loopw [2] (fun iv wr => iv = .int .i64 0 ∧ wr = w) (fun _ _ => 0)
  case atStart => exact ⟨rfl, rfl⟩
  case round =>
    obtain ⟨rfl, rfl⟩ := hrel
    go_wp2
    go_end0
    exact ⟨rfl, rfl⟩
theorem growAdorned_no {w : World} {bk : Nat} (h : w.cell? ⟨bk, 25, none⟩ = some (.slice none 0 0)) : Calls Tryz.prog 148 #[.pointer (some ⟨bk, 0, none⟩)] w fun e w' => e = .returned (.tuple #[]) ∧ w' = w := by
  go_enter Tryz.func148, Tryz.ntmps148
  go_wp2
  go_loopw [2] (fun iv wr => iv = .int .i64 0 ∧ wr = w) (fun _ _ => 0)
  case atStart => exact ⟨rfl, rfl⟩
  case round =>
    obtain ⟨rfl, rfl⟩ := hrel
    go_wp2
    go_end0
    exact ⟨rfl, rfl⟩
theorem lookAdorned_no {w : World} {bk : Nat} (h : w.cell? ⟨bk, 25, none⟩ = some (.slice none 0 0)) : Calls Tryz.prog 179 #[.pointer (some ⟨bk, 0, none⟩)] w fun e w' => e = .returned (.bool true) ∧ w' = w := by
  go_enter Tryz.func179, Tryz.ntmps179
  go_wp2
  go_loopw [3] (fun iv wr => iv = .int .i64 0 ∧ wr = w) (fun _ _ => 0)
  case atStart => exact ⟨rfl, rfl⟩
  case round =>
    obtain ⟨rfl, rfl⟩ := hrel
    go_wp2
    go_ret
    exact ⟨rfl, rfl⟩
theorem fillTable_no {w : World} {bk : Nat} (h : w.cell? ⟨bk, 26, none⟩ = some (.slice none 0 0)) : Calls Tryz.prog 65 #[.pointer (some ⟨bk, 0, none⟩)] w fun e w' => e = .returned (.tuple #[]) ∧ w' = w := by
  go_enter Tryz.func65, Tryz.ntmps65
  go_wp2
  go_loopw [2] (fun iv wr => iv = .int .i64 0 ∧ wr = w) (fun _ _ => 0)
  case atStart => exact ⟨rfl, rfl⟩
  case round =>
    obtain ⟨rfl, rfl⟩ := hrel
    go_wp2
    go_end0
    exact ⟨rfl, rfl⟩
theorem growTable_no {w : World} {bk : Nat} (h : w.cell? ⟨bk, 26, none⟩ = some (.slice none 0 0)) : Calls Tryz.prog 149 #[.pointer (some ⟨bk, 0, none⟩)] w fun e w' => e = .returned (.tuple #[]) ∧ w' = w := by
  go_enter Tryz.func149, Tryz.ntmps149
  go_wp2
  go_loopw [2] (fun iv wr => iv = .int .i64 0 ∧ wr = w) (fun _ _ => 0)
  case atStart => exact ⟨rfl, rfl⟩
  case round =>
    obtain ⟨rfl, rfl⟩ := hrel
    go_wp2
    go_end0
    exact ⟨rfl, rfl⟩
theorem lookTable_no {w : World} {bk : Nat} (h : w.cell? ⟨bk, 26, none⟩ = some (.slice none 0 0)) : Calls Tryz.prog 180 #[.pointer (some ⟨bk, 0, none⟩)] w fun e w' => e = .returned (.bool true) ∧ w' = w := by
  go_enter Tryz.func180, Tryz.ntmps180
  go_wp2
  go_loopw [3] (fun iv wr => iv = .int .i64 0 ∧ wr = w) (fun _ _ => 0)
  case atStart => exact ⟨rfl, rfl⟩
  case round =>
    obtain ⟨rfl, rfl⟩ := hrel
    go_wp2
    go_ret
    exact ⟨rfl, rfl⟩
theorem fillProof_no {w : World} {bk : Nat} (h : w.cell? ⟨bk, 27, none⟩ = some (.slice none 0 0)) : Calls Tryz.prog 66 #[.pointer (some ⟨bk, 0, none⟩)] w fun e w' => e = .returned (.tuple #[]) ∧ w' = w := by
  go_enter Tryz.func66, Tryz.ntmps66
  go_wp2
  go_loopw [2] (fun iv wr => iv = .int .i64 0 ∧ wr = w) (fun _ _ => 0)
  case atStart => exact ⟨rfl, rfl⟩
  case round =>
    obtain ⟨rfl, rfl⟩ := hrel
    go_wp2
    go_end0
    exact ⟨rfl, rfl⟩
theorem growProof_no {w : World} {bk : Nat} (h : w.cell? ⟨bk, 27, none⟩ = some (.slice none 0 0)) : Calls Tryz.prog 150 #[.pointer (some ⟨bk, 0, none⟩)] w fun e w' => e = .returned (.tuple #[]) ∧ w' = w := by
  go_enter Tryz.func150, Tryz.ntmps150
  go_wp2
  go_loopw [2] (fun iv wr => iv = .int .i64 0 ∧ wr = w) (fun _ _ => 0)
  case atStart => exact ⟨rfl, rfl⟩
  case round =>
    obtain ⟨rfl, rfl⟩ := hrel
    go_wp2
    go_end0
    exact ⟨rfl, rfl⟩
theorem lookProof_no {w : World} {bk : Nat} (h : w.cell? ⟨bk, 27, none⟩ = some (.slice none 0 0)) : Calls Tryz.prog 181 #[.pointer (some ⟨bk, 0, none⟩)] w fun e w' => e = .returned (.bool true) ∧ w' = w := by
  go_enter Tryz.func181, Tryz.ntmps181
  go_wp2
  go_loopw [3] (fun iv wr => iv = .int .i64 0 ∧ wr = w) (fun _ _ => 0)
  case atStart => exact ⟨rfl, rfl⟩
  case round =>
    obtain ⟨rfl, rfl⟩ := hrel
    go_wp2
    go_ret
    exact ⟨rfl, rfl⟩
theorem fillSize_no {w : World} {bk : Nat} (h : w.cell? ⟨bk, 28, none⟩ = some (.slice none 0 0)) : Calls Tryz.prog 67 #[.pointer (some ⟨bk, 0, none⟩)] w fun e w' => e = .returned (.tuple #[]) ∧ w' = w := by
  go_enter Tryz.func67, Tryz.ntmps67
  go_wp2
  go_loopw [2] (fun iv wr => iv = .int .i64 0 ∧ wr = w) (fun _ _ => 0)
  case atStart => exact ⟨rfl, rfl⟩
  case round =>
    obtain ⟨rfl, rfl⟩ := hrel
    go_wp2
    go_end0
    exact ⟨rfl, rfl⟩
theorem growSize_no {w : World} {bk : Nat} (h : w.cell? ⟨bk, 28, none⟩ = some (.slice none 0 0)) : Calls Tryz.prog 151 #[.pointer (some ⟨bk, 0, none⟩)] w fun e w' => e = .returned (.tuple #[]) ∧ w' = w := by
  go_enter Tryz.func151, Tryz.ntmps151
  go_wp2
  go_loopw [2] (fun iv wr => iv = .int .i64 0 ∧ wr = w) (fun _ _ => 0)
  case atStart => exact ⟨rfl, rfl⟩
  case round =>
    obtain ⟨rfl, rfl⟩ := hrel
    go_wp2
    go_end0
    exact ⟨rfl, rfl⟩
theorem lookSize_no {w : World} {bk : Nat} (h : w.cell? ⟨bk, 28, none⟩ = some (.slice none 0 0)) : Calls Tryz.prog 182 #[.pointer (some ⟨bk, 0, none⟩)] w fun e w' => e = .returned (.bool true) ∧ w' = w := by
  go_enter Tryz.func182, Tryz.ntmps182
  go_wp2
  go_loopw [3] (fun iv wr => iv = .int .i64 0 ∧ wr = w) (fun _ _ => 0)
  case atStart => exact ⟨rfl, rfl⟩
  case round =>
    obtain ⟨rfl, rfl⟩ := hrel
    go_wp2
    go_ret
    exact ⟨rfl, rfl⟩
theorem fillFloat_no {w : World} {bk : Nat} (h : w.cell? ⟨bk, 29, none⟩ = some (.slice none 0 0)) : Calls Tryz.prog 68 #[.pointer (some ⟨bk, 0, none⟩)] w fun e w' => e = .returned (.tuple #[]) ∧ w' = w := by
  go_enter Tryz.func68, Tryz.ntmps68
  go_wp2
  go_loopw [2] (fun iv wr => iv = .int .i64 0 ∧ wr = w) (fun _ _ => 0)
  case atStart => exact ⟨rfl, rfl⟩
  case round =>
    obtain ⟨rfl, rfl⟩ := hrel
    go_wp2
    go_end0
    exact ⟨rfl, rfl⟩
theorem growFloat_no {w : World} {bk : Nat} (h : w.cell? ⟨bk, 29, none⟩ = some (.slice none 0 0)) : Calls Tryz.prog 152 #[.pointer (some ⟨bk, 0, none⟩)] w fun e w' => e = .returned (.tuple #[]) ∧ w' = w := by
  go_enter Tryz.func152, Tryz.ntmps152
  go_wp2
  go_loopw [2] (fun iv wr => iv = .int .i64 0 ∧ wr = w) (fun _ _ => 0)
  case atStart => exact ⟨rfl, rfl⟩
  case round =>
    obtain ⟨rfl, rfl⟩ := hrel
    go_wp2
    go_end0
    exact ⟨rfl, rfl⟩
theorem lookFloat_no {w : World} {bk : Nat} (h : w.cell? ⟨bk, 29, none⟩ = some (.slice none 0 0)) : Calls Tryz.prog 183 #[.pointer (some ⟨bk, 0, none⟩)] w fun e w' => e = .returned (.bool true) ∧ w' = w := by
  go_enter Tryz.func183, Tryz.ntmps183
  go_wp2
  go_loopw [3] (fun iv wr => iv = .int .i64 0 ∧ wr = w) (fun _ _ => 0)
  case atStart => exact ⟨rfl, rfl⟩
  case round =>
    obtain ⟨rfl, rfl⟩ := hrel
    go_wp2
    go_ret
    exact ⟨rfl, rfl⟩
theorem fillCommit_no {w : World} {bk : Nat} (h : w.cell? ⟨bk, 30, none⟩ = some (.slice none 0 0)) : Calls Tryz.prog 69 #[.pointer (some ⟨bk, 0, none⟩)] w fun e w' => e = .returned (.tuple #[]) ∧ w' = w := by
  go_enter Tryz.func69, Tryz.ntmps69
  go_wp2
  go_loopw [2] (fun iv wr => iv = .int .i64 0 ∧ wr = w) (fun _ _ => 0)
  case atStart => exact ⟨rfl, rfl⟩
  case round =>
    obtain ⟨rfl, rfl⟩ := hrel
    go_wp2
    go_end0
    exact ⟨rfl, rfl⟩
theorem growCommit_no {w : World} {bk : Nat} (h : w.cell? ⟨bk, 30, none⟩ = some (.slice none 0 0)) : Calls Tryz.prog 153 #[.pointer (some ⟨bk, 0, none⟩)] w fun e w' => e = .returned (.tuple #[]) ∧ w' = w := by
  go_enter Tryz.func153, Tryz.ntmps153
  go_wp2
  go_loopw [2] (fun iv wr => iv = .int .i64 0 ∧ wr = w) (fun _ _ => 0)
  case atStart => exact ⟨rfl, rfl⟩
  case round =>
    obtain ⟨rfl, rfl⟩ := hrel
    go_wp2
    go_end0
    exact ⟨rfl, rfl⟩
theorem lookCommit_no {w : World} {bk : Nat} (h : w.cell? ⟨bk, 30, none⟩ = some (.slice none 0 0)) : Calls Tryz.prog 184 #[.pointer (some ⟨bk, 0, none⟩)] w fun e w' => e = .returned (.bool true) ∧ w' = w := by
  go_enter Tryz.func184, Tryz.ntmps184
  go_wp2
  go_loopw [3] (fun iv wr => iv = .int .i64 0 ∧ wr = w) (fun _ _ => 0)
  case atStart => exact ⟨rfl, rfl⟩
  case round =>
    obtain ⟨rfl, rfl⟩ := hrel
    go_wp2
    go_ret
    exact ⟨rfl, rfl⟩
theorem fillEvent_no {w : World} {bk : Nat} (h : w.cell? ⟨bk, 31, none⟩ = some (.slice none 0 0)) : Calls Tryz.prog 70 #[.pointer (some ⟨bk, 0, none⟩)] w fun e w' => e = .returned (.tuple #[]) ∧ w' = w := by
  go_enter Tryz.func70, Tryz.ntmps70
  go_wp2
  go_loopw [2] (fun iv wr => iv = .int .i64 0 ∧ wr = w) (fun _ _ => 0)
  case atStart => exact ⟨rfl, rfl⟩
  case round =>
    obtain ⟨rfl, rfl⟩ := hrel
    go_wp2
    go_end0
    exact ⟨rfl, rfl⟩
theorem growEvent_no {w : World} {bk : Nat} (h : w.cell? ⟨bk, 31, none⟩ = some (.slice none 0 0)) : Calls Tryz.prog 154 #[.pointer (some ⟨bk, 0, none⟩)] w fun e w' => e = .returned (.tuple #[]) ∧ w' = w := by
  go_enter Tryz.func154, Tryz.ntmps154
  go_wp2
  go_loopw [2] (fun iv wr => iv = .int .i64 0 ∧ wr = w) (fun _ _ => 0)
  case atStart => exact ⟨rfl, rfl⟩
  case round =>
    obtain ⟨rfl, rfl⟩ := hrel
    go_wp2
    go_end0
    exact ⟨rfl, rfl⟩
theorem lookEvent_no {w : World} {bk : Nat} (h : w.cell? ⟨bk, 31, none⟩ = some (.slice none 0 0)) : Calls Tryz.prog 185 #[.pointer (some ⟨bk, 0, none⟩)] w fun e w' => e = .returned (.bool true) ∧ w' = w := by
  go_enter Tryz.func185, Tryz.ntmps185
  go_wp2
  go_loopw [3] (fun iv wr => iv = .int .i64 0 ∧ wr = w) (fun _ _ => 0)
  case atStart => exact ⟨rfl, rfl⟩
  case round =>
    obtain ⟨rfl, rfl⟩ := hrel
    go_wp2
    go_ret
    exact ⟨rfl, rfl⟩
open Go.RowKit Go.Maps
set_option linter.unusedVariables false
set_option linter.unusedSimpArgs false
attribute [local go_sem ↓] Go.wp_at_zero Go.wp_at_succ

theorem fil_keep {K : Kd} {S : Nat} {w w' : World} {E : Nat → Prop} {l : List Hd} (h : ∀ h ∈ l, Fil K S w h) (t : Tch E w w') (hE : ∀ g, E g → g < S ∧ ¬ RG l g) : ∀ h ∈ l, Fil K S w' h := fun x hx => (h x hx).keep t.size (fun g hg hor => t.block g hg (fun e => by
  rcases hor with q | q
  · have := (hE g e).1; omega
  · exact (hE g e).2 ⟨x, hx, q⟩))
theorem dn_keep {K : Kd} {S : Nat} {w w' : World} {E : Nat → Prop} {l : List Hd} (h : ∀ h ∈ l, Dn K S w h) (t : Tch E w w') (hE : ∀ g, E g → g < S ∧ ¬ RG l g) : ∀ h ∈ l, Dn K S w' h := fun x hx => (h x hx).keep t.size (fun g hg hor => t.block g hg (fun e => by
  rcases hor with q | q
  · have := (hE g e).1; omega
  · exact (hE g e).2 ⟨x, hx, q⟩))
theorem Rg.keep {K : Kd} {w w' : World} {L bk B : Nat} {E : Nat → Prop} {l : List Hd} (h : Rg K w L bk B l) (t : Tch E w w') (hE : ∀ g, E g → ¬ RG l g) : Rg K w' L bk B l :=
  ⟨fun x hx => by
    obtain ⟨O, ho⟩ := h.reg x hx
    exact ⟨O, own_of_block ho (fun g hg => t.block g (ho.lt g hg).2 (fun e => hE g e ⟨x, hx, hg⟩))⟩, h.blt, h.nd, h.num, h.len⟩
theorem Rg.of_fil {K : Kd} {w w' : World} {L bk B S : Nat} {l : List Hd} (h : Rg K w L bk B l) (f : ∀ h ∈ l, Fil K S w' h) : Rg K w' L bk B l :=
  ⟨fun x hx => by
    obtain ⟨xs, _, ho, _⟩ := f x hx
    exact ⟨_, ho⟩, h.blt, h.nd, h.num, h.len⟩
theorem Rg.at {K : Kd} {w : World} {L bk B : Nat} {l : List Hd} (h : Rg K w L bk B l) {g : Nat} (hg : RG l g) : L ≤ g ∧ g < B ∧ g ≠ bk := by
  obtain ⟨x, hx, e⟩ := hg
  exact h.blt x hx g e
theorem Bk.tch {w w' : World} {bk B n : Nat} {vv vt vf : Value} {hv ht hf : List Hd} {E : Nat → Prop} (h : Bk w bk B n vv vt vf hv ht hf) (t : Tch E w w') (hE : ∀ g, E g → g < B ∧ g ≠ bk) : Bk w' bk B n vv vt vf hv ht hf := h.keep (fun g hg hor => t.block g hg (fun e => by
  obtain ⟨q1, q2⟩ := hE g e
  rcases hor with q | q | q | q
  · exact q2 q
  · have := (h.rv.lt g q).1; omega
  · have := (h.rt.lt g q).1; omega
  · have := (h.rf.lt g q).1; omega))
theorem like_rg {l l' : List Hd} (h : Like l l') {g : Nat} (hg : RG l' g) : RG l g := by
  obtain ⟨x, hx, e⟩ := hg
  obtain ⟨i, hi, rfl⟩ := mem_atH hx
  rw [h.1] at hi
  exact ⟨_, atH_mem hi, by rw [← h.blk hi]; exact e⟩
theorem like_num {l l' : List Hd} (h : Like l l') (hn : ∀ h ∈ l, h.m ≤ 2000000000 ∧ h.n ≤ 2097152) : ∀ h ∈ l', h.m ≤ 2000000000 ∧ h.n ≤ 2097152 := fun x hx => by
  obtain ⟨i, hi, rfl⟩ := mem_atH hx
  rw [h.1] at hi
  obtain ⟨_, q2, _, q4⟩ := h.2 i hi
  rw [q2, q4]
  exact hn _ (atH_mem hi)
theorem nilcell {w : World} {bk n : Nat} {v1 v2 v3 : Value} (h : RL w bk 63 (bkCells n v1 v2 v3)) {j : Nat} (h1 : 4 ≤ j) (h2 : j < 32) : w.cell? ⟨bk, j, none⟩ = some (.slice none 0 0) := by
  refine h.at ?_
  obtain ⟨i, rfl⟩ : ∃ i, j = i + 4 := ⟨j - 4, by omega⟩
  show (List.replicate 28 (Value.slice none 0 0))[i]? = _
  rw [List.getElem?_replicate, if_pos (by omega)]
/-- the lists of the three kinds lie apart, and above L -/
structure Sep (L bk B : Nat) (hv ht hf : List Hd) : Prop where
  vt : ∀ g, RG hv g → ¬ RG ht g
  vf : ∀ g, RG hv g → ¬ RG hf g
  tf : ∀ g, RG ht g → ¬ RG hf g
set_option maxHeartbeats 6400000 in
set_option maxRecDepth 100000 in
theorem growAll_any {w : World} {L bk B n S : Nat} {vv vt vf : Value} {hv ht hf : List Hd} (hB : Bk w bk B n vv vt vf hv ht hf) (hBS : B ≤ S) (hS : S ≤ w.heap.size) (hL : L ≤ bk) (hrw : ∀ g, (vv.ownBlock = some g ∨ vt.ownBlock = some g ∨ vf.ownBlock = some g) → g < S) (r1 : Rg KV w L bk B hv) (r2 : Rg KT w L bk B ht) (r3 : Rg KF w L bk B hf) (sep : Sep L bk B hv ht hf) (hp : ∀ u, Below L w u → PWt u) (f1 : ∀ h ∈ hv, Fil KV S w h) (f2 : ∀ h ∈ ht, Fil KT S w h) (f3 : ∀ h ∈ hf, Fil KF S w h) :
    Calls Tryz.prog 71 #[.pointer (some ⟨bk, 0, none⟩)] w fun e w' => e = .returned (.tuple #[]) ∧ Below L w w' ∧ ∃ hv' ht' hf', Like hv hv' ∧ Like ht ht' ∧ Like hf hf' ∧ Bk w' bk B n vv vt vf hv' ht' hf' ∧ (∀ h ∈ hv', Dn KV S w' h) ∧ (∀ h ∈ ht', Dn KT S w' h) ∧ (∀ h ∈ hf', Dn KF S w' h) := by
  have hbB := hB.lt
  have hbs := World.rowIs.lt hB.box
  have HG1 := Lib.hid (growV_any hB hBS hS (fun g hg => hrw g (.inl hg)) r1 f1)
  have HX := Lib.hid (And.intro hB (And.intro hrw (And.intro r1 (And.intro r2 (And.intro r3 (And.intro sep (And.intro hp (And.intro f2 f3))))))))
  clear hB hrw r1 r2 r3 sep hp f1 f2 f3
  go_enter Tryz.func71, Tryz.ntmps71
  go_wp2_with fail
  refine HG1.out.mono ?_
  rintro e w1 ⟨rfl, t1, hv', lk1, B1, d1⟩
  have H1 := Lib.hid (And.intro t1 (And.intro lk1 (And.intro B1 d1)))
  have HG2 : Hid (Calls Tryz.prog 125 #[.pointer (some ⟨bk, 0, none⟩)] w1 fun e w' => e = .returned (.tuple #[]) ∧ Tch (fun g => RG ht g ∨ vt.ownBlock = some g) w1 w' ∧ ∃ hx, Like ht hx ∧ Bk w' bk B n vv vt vf hv' hx hf ∧ ∀ h ∈ hx, Dn KT S w' h) := by
    obtain ⟨hB, hrw, r1, r2, r3, sep, hp, f2, f3⟩ := HX.out
    have hE : ∀ g, (RG hv g ∨ vv.ownBlock = some g) → g < S ∧ ¬ RG ht g := fun g hg => by
      rcases hg with q | q
      · exact ⟨Nat.lt_of_lt_of_le (r1.at q).2.1 hBS, sep.vt g q⟩
      · exact ⟨hrw g (.inl q), fun q2 => by have := (hB.rv.lt g q).1; have := (r2.at q2).2.1; omega⟩
    exact growT_any B1 hBS (Nat.le_trans hS t1.size) (fun g hg => hrw g (.inr (.inl hg))) (r2.keep t1 (fun g e => (hE g e).2)) (fil_keep f2 t1 hE)
  clear t1 lk1 B1 d1 HG1
  go_wp2_with fail
  refine HG2.out.mono ?_
  rintro e w2 ⟨rfl, t2, ht', lk2, B2, d2⟩
  have H2 := Lib.hid (And.intro t2 (And.intro lk2 (And.intro B2 d2)))
  have HG3 : Hid (Calls Tryz.prog 126 #[.pointer (some ⟨bk, 0, none⟩)] w2 fun e w' => e = .returned (.tuple #[]) ∧ Tch (fun g => RG hf g ∨ vf.ownBlock = some g) w2 w' ∧ ∃ hx, Like hf hx ∧ Bk w' bk B n vv vt vf hv' ht' hx ∧ ∀ h ∈ hx, Dn KF S w' h) := by
    obtain ⟨hB, hrw, r1, r2, r3, sep, hp, f2, f3⟩ := HX.out
    obtain ⟨t1, lk1, B1, d1⟩ := H1.out
    have hE1 : ∀ g, (RG hv g ∨ vv.ownBlock = some g) → g < S ∧ ¬ RG hf g := fun g hg => by
      rcases hg with q | q
      · exact ⟨Nat.lt_of_lt_of_le (r1.at q).2.1 hBS, sep.vf g q⟩
      · exact ⟨hrw g (.inl q), fun q2 => by have := (hB.rv.lt g q).1; have := (r3.at q2).2.1; omega⟩
    have hE2 : ∀ g, (RG ht g ∨ vt.ownBlock = some g) → g < S ∧ ¬ RG hf g := fun g hg => by
      rcases hg with q | q
      · exact ⟨Nat.lt_of_lt_of_le (r2.at q).2.1 hBS, sep.tf g q⟩
      · exact ⟨hrw g (.inr (.inl q)), fun q2 => by have := (hB.rt.lt g q).1; have := (r3.at q2).2.1; omega⟩
    have bl1 : Below L w w1 := t1.below (by omega) (fun g hg e => by
      rcases e with q | q
      · have := (r1.at q).1; omega
      · have := (hB.rv.lt g q).1; omega)
    have bl2 : Below L w1 w2 := t2.below (by have := t1.size; omega) (fun g hg e => by
      rcases e with q | q
      · have := (r2.at q).1; omega
      · have := (hB.rt.lt g q).1; omega)
    exact growF_any B2 hBS (Nat.le_trans hS (Nat.le_trans t1.size t2.size)) (fun g hg => hrw g (.inr (.inr hg))) ((r3.keep t1 (fun g e => (hE1 g e).2)).keep t2 (fun g e => (hE2 g e).2)) (by have := t1.size; have := t2.size; omega) (by omega) (fun u hu => hp u (bl1.trans (bl2.trans hu))) (fil_keep (fil_keep f3 t1 hE1) t2 hE2)
  clear t2 lk2 B2 d2 HG2
  go_wp2_with fail
  refine HG3.out.mono ?_
  rintro e w3 ⟨rfl, t3, hf', lk3, B3, d3⟩
  have HFIN : Hid (Below L w w3 ∧ ∃ hv' ht' hf', Like hv hv' ∧ Like ht ht' ∧ Like hf hf' ∧ Bk w3 bk B n vv vt vf hv' ht' hf' ∧ (∀ h ∈ hv', Dn KV S w3 h) ∧ (∀ h ∈ ht', Dn KT S w3 h) ∧ (∀ h ∈ hf', Dn KF S w3 h)) := by
    obtain ⟨hB, hrw, r1, r2, r3, sep, hp, f2, f3⟩ := HX.out
    obtain ⟨t1, lk1, B1, d1⟩ := H1.out
    obtain ⟨t2, lk2, B2, d2⟩ := H2.out
    have bl : ∀ {u u' : World} {E : Nat → Prop}, Tch E u u' → w.heap.size ≤ u.heap.size → (∀ g, E g → L ≤ g) → Below L u u' := fun t hs hE => t.below (by omega) (fun g hg e => by have := hE g e; omega)
    refine ⟨((bl t1 (Nat.le_refl _) (fun g e => ?_)).trans (bl t2 t1.size (fun g e => ?_))).trans (bl t3 (Nat.le_trans t1.size t2.size) (fun g e => ?_)), hv', ht', hf', lk1, lk2, lk3, B3, ?_, ?_, d3⟩
    · rcases e with q | q
      · exact (r1.at q).1
      · have := (hB.rv.lt g q).1; omega
    · rcases e with q | q
      · exact (r2.at q).1
      · have := (hB.rt.lt g q).1; omega
    · rcases e with q | q
      · exact (r3.at q).1
      · have := (hB.rf.lt g q).1; omega
    · refine dn_keep (dn_keep d1 t2 (fun g e => ?_)) t3 (fun g e => ?_)
      · rcases e with q | q
        · exact ⟨Nat.lt_of_lt_of_le (r2.at q).2.1 hBS, fun q2 => sep.vt g (like_rg lk1 q2) q⟩
        · exact ⟨hrw g (.inr (.inl q)), fun q2 => by have := (hB.rt.lt g q).1; have := (r1.at (like_rg lk1 q2)).2.1; omega⟩
      · rcases e with q | q
        · exact ⟨Nat.lt_of_lt_of_le (r3.at q).2.1 hBS, fun q2 => sep.vf g (like_rg lk1 q2) q⟩
        · exact ⟨hrw g (.inr (.inr q)), fun q2 => by have := (hB.rf.lt g q).1; have := (r1.at (like_rg lk1 q2)).2.1; omega⟩
    · refine dn_keep d2 t3 (fun g e => ?_)
      rcases e with q | q
      · exact ⟨Nat.lt_of_lt_of_le (r3.at q).2.1 hBS, fun q2 => sep.tf g (like_rg lk2 q2) q⟩
      · exact ⟨hrw g (.inr (.inr q)), fun q2 => by have := (hB.rf.lt g q).1; have := (r2.at (like_rg lk2 q2)).2.1; omega⟩
  have HN : Hid (∀ j, 4 ≤ j → j < 32 → w3.cell? ⟨bk, j, none⟩ = some (.slice none 0 0)) := fun j h1 h2 => nilcell B3.box h1 h2
  clear t3 lk3 B3 d3 HG3 H1 H2 HX
  go_wp2_with fail
  refine (growTerm_no (HN.out 4 (by omega) (by omega))).mono ?_
  rintro e w9 ⟨rfl, hw9⟩
  have hw8 := hw9.symm
  subst hw8
  clear hw9
  go_wp2_with fail
  refine (growExpr_no (HN.out 5 (by omega) (by omega))).mono ?_
  rintro e w9 ⟨rfl, hw9⟩
  have hw8 := hw9.symm
  subst hw8
  clear hw9
  go_wp2_with fail
  refine (growLiteral_no (HN.out 6 (by omega) (by omega))).mono ?_
  rintro e w9 ⟨rfl, hw9⟩
  have hw8 := hw9.symm
  subst hw8
  clear hw9
  go_wp2_with fail
  refine (growArg_no (HN.out 7 (by omega) (by omega))).mono ?_
  rintro e w9 ⟨rfl, hw9⟩
  have hw8 := hw9.symm
  subst hw8
  clear hw9
  go_wp2_with fail
  refine (growRule_no (HN.out 8 (by omega) (by omega))).mono ?_
  rintro e w9 ⟨rfl, hw9⟩
  have hw8 := hw9.symm
  subst hw8
  clear hw9
  go_wp2_with fail
  refine (growPair_no (HN.out 9 (by omega) (by omega))).mono ?_
  rintro e w9 ⟨rfl, hw9⟩
  have hw8 := hw9.symm
  subst hw8
  clear hw9
  go_wp2_with fail
  refine (growBind_no (HN.out 10 (by omega) (by omega))).mono ?_
  rintro e w9 ⟨rfl, hw9⟩
  have hw8 := hw9.symm
  subst hw8
  clear hw9
  go_wp2_with fail
  refine (growBindList_no (HN.out 11 (by omega) (by omega))).mono ?_
  rintro e w9 ⟨rfl, hw9⟩
  have hw8 := hw9.symm
  subst hw8
  clear hw9
  go_wp2_with fail
  refine (growText_no (HN.out 12 (by omega) (by omega))).mono ?_
  rintro e w9 ⟨rfl, hw9⟩
  have hw8 := hw9.symm
  subst hw8
  clear hw9
  go_wp2_with fail
  refine (growTextList_no (HN.out 13 (by omega) (by omega))).mono ?_
  rintro e w9 ⟨rfl, hw9⟩
  have hw8 := hw9.symm
  subst hw8
  clear hw9
  go_wp2_with fail
  refine (growInt_no (HN.out 14 (by omega) (by omega))).mono ?_
  rintro e w9 ⟨rfl, hw9⟩
  have hw8 := hw9.symm
  subst hw8
  clear hw9
  go_wp2_with fail
  refine (growRow_no (HN.out 15 (by omega) (by omega))).mono ?_
  rintro e w9 ⟨rfl, hw9⟩
  have hw8 := hw9.symm
  subst hw8
  clear hw9
  go_wp2_with fail
  refine (growToken_no (HN.out 16 (by omega) (by omega))).mono ?_
  rintro e w9 ⟨rfl, hw9⟩
  have hw8 := hw9.symm
  subst hw8
  clear hw9
  go_wp2_with fail
  refine (growPred_no (HN.out 17 (by omega) (by omega))).mono ?_
  rintro e w9 ⟨rfl, hw9⟩
  have hw8 := hw9.symm
  subst hw8
  clear hw9
  go_wp2_with fail
  refine (growType_no (HN.out 18 (by omega) (by omega))).mono ?_
  rintro e w9 ⟨rfl, hw9⟩
  have hw8 := hw9.symm
  subst hw8
  clear hw9
  go_wp2_with fail
  refine (growSig_no (HN.out 19 (by omega) (by omega))).mono ?_
  rintro e w9 ⟨rfl, hw9⟩
  have hw8 := hw9.symm
  subst hw8
  clear hw9
  go_wp2_with fail
  refine (growEdge_no (HN.out 20 (by omega) (by omega))).mono ?_
  rintro e w9 ⟨rfl, hw9⟩
  have hw8 := hw9.symm
  subst hw8
  clear hw9
  go_wp2_with fail
  refine (growLevel_no (HN.out 21 (by omega) (by omega))).mono ?_
  rintro e w9 ⟨rfl, hw9⟩
  have hw8 := hw9.symm
  subst hw8
  clear hw9
  go_wp2_with fail
  refine (growMask_no (HN.out 22 (by omega) (by omega))).mono ?_
  rintro e w9 ⟨rfl, hw9⟩
  have hw8 := hw9.symm
  subst hw8
  clear hw9
  go_wp2_with fail
  refine (growStep_no (HN.out 23 (by omega) (by omega))).mono ?_
  rintro e w9 ⟨rfl, hw9⟩
  have hw8 := hw9.symm
  subst hw8
  clear hw9
  go_wp2_with fail
  refine (growRanked_no (HN.out 24 (by omega) (by omega))).mono ?_
  rintro e w9 ⟨rfl, hw9⟩
  have hw8 := hw9.symm
  subst hw8
  clear hw9
  go_wp2_with fail
  refine (growAdorned_no (HN.out 25 (by omega) (by omega))).mono ?_
  rintro e w9 ⟨rfl, hw9⟩
  have hw8 := hw9.symm
  subst hw8
  clear hw9
  go_wp2_with fail
  refine (growTable_no (HN.out 26 (by omega) (by omega))).mono ?_
  rintro e w9 ⟨rfl, hw9⟩
  have hw8 := hw9.symm
  subst hw8
  clear hw9
  go_wp2_with fail
  refine (growProof_no (HN.out 27 (by omega) (by omega))).mono ?_
  rintro e w9 ⟨rfl, hw9⟩
  have hw8 := hw9.symm
  subst hw8
  clear hw9
  go_wp2_with fail
  refine (growSize_no (HN.out 28 (by omega) (by omega))).mono ?_
  rintro e w9 ⟨rfl, hw9⟩
  have hw8 := hw9.symm
  subst hw8
  clear hw9
  go_wp2_with fail
  refine (growFloat_no (HN.out 29 (by omega) (by omega))).mono ?_
  rintro e w9 ⟨rfl, hw9⟩
  have hw8 := hw9.symm
  subst hw8
  clear hw9
  go_wp2_with fail
  refine (growCommit_no (HN.out 30 (by omega) (by omega))).mono ?_
  rintro e w9 ⟨rfl, hw9⟩
  have hw8 := hw9.symm
  subst hw8
  clear hw9
  go_wp2_with fail
  refine (growEvent_no (HN.out 31 (by omega) (by omega))).mono ?_
  rintro e w9 ⟨rfl, hw9⟩
  have hw8 := hw9.symm
  subst hw8
  clear hw9
  go_wp2
  go_end0
  exact ⟨rfl, HFIN.out⟩
set_option maxHeartbeats 6400000 in
set_option maxRecDepth 100000 in
theorem lookOne_any {w : World} {bk B n S : Nat} {vv vt vf : Value} {hv ht hf : List Hd} (hB : Bk w bk B n vv vt vf hv ht hf) (n1 : ∀ h ∈ hv, h.m ≤ 2000000000 ∧ h.n ≤ 2097152) (n2 : ∀ h ∈ ht, h.m ≤ 2000000000 ∧ h.n ≤ 2097152) (n3 : ∀ h ∈ hf, h.m ≤ 2000000000 ∧ h.n ≤ 2097152) (l1 : hv.length ≤ 1000000000) (l2 : ht.length ≤ 1000000000) (l3 : hf.length ≤ 1000000000) (hp : PWt w) (d1 : ∀ h ∈ hv, Dn KV S w h) (d2 : ∀ h ∈ ht, Dn KT S w h) (d3 : ∀ h ∈ hf, Dn KF S w h) :
    Calls Tryz.prog 72 #[.pointer (some ⟨bk, 0, none⟩)] w fun e w' => e = .returned (.bool true) ∧ Below w.heap.size w w' := by
  have kp : ∀ {K : Kd} {l : List Hd}, (∀ h ∈ l, Dn K S w h) → ∀ u, Below w.heap.size w u → ∀ h ∈ l, Dn K S u h := fun d u hu h hm => (d h hm).keep hu.size (fun g hg _ => hu.block g hg)
  have HLV : Hid (∀ u, Below w.heap.size w u → Calls Tryz.prog 155 #[.pointer (some ⟨bk, 0, none⟩)] u fun e w' => e = .returned (.bool true) ∧ Below u.heap.size u w') := fun u hu => lookV_any (hB.below hu) (kp d1 u hu) n1 l1
  have HLT : Hid (∀ u, Below w.heap.size w u → Calls Tryz.prog 156 #[.pointer (some ⟨bk, 0, none⟩)] u fun e w' => e = .returned (.bool true) ∧ Below u.heap.size u w') := fun u hu => lookT_any (hB.below hu) (kp d2 u hu) n2 l2
  have HLF : Hid (∀ u, Below w.heap.size w u → Calls Tryz.prog 157 #[.pointer (some ⟨bk, 0, none⟩)] u fun e w' => e = .returned (.bool true) ∧ Below u.heap.size u w') := fun u hu => lookF_any (hB.below hu) (kp d3 u hu) n3 l3 (tab_below hp hu)
  have HBB : Hid (∀ u, Below w.heap.size w u → Bk u bk B n vv vt vf hv ht hf) := fun u hu => hB.below hu
  have HB0 := Lib.hid (Below.refl w.heap.size w)
  clear hB n1 n2 n3 l1 l2 l3 hp d1 d2 d3 kp
  go_enter Tryz.func72, Tryz.ntmps72
  go_wp2_with fail
  refine (HLV.out _ HB0.out).mono ?_
  rintro e x1 ⟨rfl, b1⟩
  have HB1 : Hid (Below w.heap.size w x1) := HB0.out.trans (b1.mono HB0.out.size)
  clear b1
  go_wp2_with fail
  refine (HLT.out _ HB1.out).mono ?_
  rintro e x2 ⟨rfl, b2⟩
  have HB2 : Hid (Below w.heap.size w x2) := HB1.out.trans (b2.mono HB1.out.size)
  clear b2
  go_wp2_with fail
  refine (HLF.out _ HB2.out).mono ?_
  rintro e x3 ⟨rfl, b3⟩
  have HB3 : Hid (Below w.heap.size w x3) := HB2.out.trans (b3.mono HB2.out.size)
  clear b3
  have HN : Hid (∀ j, 4 ≤ j → j < 32 → x3.cell? ⟨bk, j, none⟩ = some (.slice none 0 0)) := fun j h1 h2 => nilcell (HBB.out x3 HB3.out).box h1 h2
  go_wp2_with fail
  refine (lookTerm_no (HN.out 4 (by omega) (by omega))).mono ?_
  rintro e w9 ⟨rfl, hw9⟩
  have hw8 := hw9.symm
  subst hw8
  clear hw9
  go_wp2_with fail
  refine (lookExpr_no (HN.out 5 (by omega) (by omega))).mono ?_
  rintro e w9 ⟨rfl, hw9⟩
  have hw8 := hw9.symm
  subst hw8
  clear hw9
  go_wp2_with fail
  refine (lookLiteral_no (HN.out 6 (by omega) (by omega))).mono ?_
  rintro e w9 ⟨rfl, hw9⟩
  have hw8 := hw9.symm
  subst hw8
  clear hw9
  go_wp2_with fail
  refine (lookArg_no (HN.out 7 (by omega) (by omega))).mono ?_
  rintro e w9 ⟨rfl, hw9⟩
  have hw8 := hw9.symm
  subst hw8
  clear hw9
  go_wp2_with fail
  refine (lookRule_no (HN.out 8 (by omega) (by omega))).mono ?_
  rintro e w9 ⟨rfl, hw9⟩
  have hw8 := hw9.symm
  subst hw8
  clear hw9
  go_wp2_with fail
  refine (lookPair_no (HN.out 9 (by omega) (by omega))).mono ?_
  rintro e w9 ⟨rfl, hw9⟩
  have hw8 := hw9.symm
  subst hw8
  clear hw9
  go_wp2_with fail
  refine (lookBind_no (HN.out 10 (by omega) (by omega))).mono ?_
  rintro e w9 ⟨rfl, hw9⟩
  have hw8 := hw9.symm
  subst hw8
  clear hw9
  go_wp2_with fail
  refine (lookBindList_no (HN.out 11 (by omega) (by omega))).mono ?_
  rintro e w9 ⟨rfl, hw9⟩
  have hw8 := hw9.symm
  subst hw8
  clear hw9
  go_wp2_with fail
  refine (lookText_no (HN.out 12 (by omega) (by omega))).mono ?_
  rintro e w9 ⟨rfl, hw9⟩
  have hw8 := hw9.symm
  subst hw8
  clear hw9
  go_wp2_with fail
  refine (lookTextList_no (HN.out 13 (by omega) (by omega))).mono ?_
  rintro e w9 ⟨rfl, hw9⟩
  have hw8 := hw9.symm
  subst hw8
  clear hw9
  go_wp2_with fail
  refine (lookInt_no (HN.out 14 (by omega) (by omega))).mono ?_
  rintro e w9 ⟨rfl, hw9⟩
  have hw8 := hw9.symm
  subst hw8
  clear hw9
  go_wp2_with fail
  refine (lookRow_no (HN.out 15 (by omega) (by omega))).mono ?_
  rintro e w9 ⟨rfl, hw9⟩
  have hw8 := hw9.symm
  subst hw8
  clear hw9
  go_wp2_with fail
  refine (lookToken_no (HN.out 16 (by omega) (by omega))).mono ?_
  rintro e w9 ⟨rfl, hw9⟩
  have hw8 := hw9.symm
  subst hw8
  clear hw9
  go_wp2
  go_ret
  exact ⟨rfl, HB3.out⟩
set_option maxHeartbeats 6400000 in
set_option maxRecDepth 100000 in
theorem lookTwo_any {w : World} {bk n : Nat} {v1 v2 v3 : Value} (hB : RL w bk 63 (bkCells n v1 v2 v3)) :
    Calls Tryz.prog 73 #[.pointer (some ⟨bk, 0, none⟩)] w fun e w' => e = .returned (.bool true) ∧ w' = w := by
  have HN : Hid (∀ j, 4 ≤ j → j < 32 → w.cell? ⟨bk, j, none⟩ = some (.slice none 0 0)) := fun j h1 h2 => nilcell hB h1 h2
  clear hB
  go_enter Tryz.func73, Tryz.ntmps73
  go_wp2_with fail
  refine (lookPred_no (HN.out 17 (by omega) (by omega))).mono ?_
  rintro e w9 ⟨rfl, hw9⟩
  have hw8 := hw9.symm
  subst hw8
  clear hw9
  go_wp2_with fail
  refine (lookType_no (HN.out 18 (by omega) (by omega))).mono ?_
  rintro e w9 ⟨rfl, hw9⟩
  have hw8 := hw9.symm
  subst hw8
  clear hw9
  go_wp2_with fail
  refine (lookSig_no (HN.out 19 (by omega) (by omega))).mono ?_
  rintro e w9 ⟨rfl, hw9⟩
  have hw8 := hw9.symm
  subst hw8
  clear hw9
  go_wp2_with fail
  refine (lookEdge_no (HN.out 20 (by omega) (by omega))).mono ?_
  rintro e w9 ⟨rfl, hw9⟩
  have hw8 := hw9.symm
  subst hw8
  clear hw9
  go_wp2_with fail
  refine (lookLevel_no (HN.out 21 (by omega) (by omega))).mono ?_
  rintro e w9 ⟨rfl, hw9⟩
  have hw8 := hw9.symm
  subst hw8
  clear hw9
  go_wp2_with fail
  refine (lookMask_no (HN.out 22 (by omega) (by omega))).mono ?_
  rintro e w9 ⟨rfl, hw9⟩
  have hw8 := hw9.symm
  subst hw8
  clear hw9
  go_wp2_with fail
  refine (lookStep_no (HN.out 23 (by omega) (by omega))).mono ?_
  rintro e w9 ⟨rfl, hw9⟩
  have hw8 := hw9.symm
  subst hw8
  clear hw9
  go_wp2_with fail
  refine (lookRanked_no (HN.out 24 (by omega) (by omega))).mono ?_
  rintro e w9 ⟨rfl, hw9⟩
  have hw8 := hw9.symm
  subst hw8
  clear hw9
  go_wp2_with fail
  refine (lookAdorned_no (HN.out 25 (by omega) (by omega))).mono ?_
  rintro e w9 ⟨rfl, hw9⟩
  have hw8 := hw9.symm
  subst hw8
  clear hw9
  go_wp2_with fail
  refine (lookTable_no (HN.out 26 (by omega) (by omega))).mono ?_
  rintro e w9 ⟨rfl, hw9⟩
  have hw8 := hw9.symm
  subst hw8
  clear hw9
  go_wp2_with fail
  refine (lookProof_no (HN.out 27 (by omega) (by omega))).mono ?_
  rintro e w9 ⟨rfl, hw9⟩
  have hw8 := hw9.symm
  subst hw8
  clear hw9
  go_wp2_with fail
  refine (lookSize_no (HN.out 28 (by omega) (by omega))).mono ?_
  rintro e w9 ⟨rfl, hw9⟩
  have hw8 := hw9.symm
  subst hw8
  clear hw9
  go_wp2_with fail
  refine (lookFloat_no (HN.out 29 (by omega) (by omega))).mono ?_
  rintro e w9 ⟨rfl, hw9⟩
  have hw8 := hw9.symm
  subst hw8
  clear hw9
  go_wp2_with fail
  refine (lookCommit_no (HN.out 30 (by omega) (by omega))).mono ?_
  rintro e w9 ⟨rfl, hw9⟩
  have hw8 := hw9.symm
  subst hw8
  clear hw9
  go_wp2_with fail
  refine (lookEvent_no (HN.out 31 (by omega) (by omega))).mono ?_
  rintro e w9 ⟨rfl, hw9⟩
  have hw8 := hw9.symm
  subst hw8
  clear hw9
  go_wp2
  go_ret
  exact ⟨rfl, rfl⟩
set_option maxHeartbeats 6400000 in
set_option maxRecDepth 100000 in
theorem apart_any {w : World} {L bk B n : Nat} {vv vt vf : Value} {hv ht hf : List Hd} (hB : Bk w bk B n vv vt vf hv ht hf) (hBs : B ≤ w.heap.size) (hL : L ≤ bk) (r1 : Rg KV w L bk B hv) (r2 : Rg KT w L bk B ht) (r3 : Rg KF w L bk B hf) (sep : Sep L bk B hv ht hf) (hp : ∀ u, Below L w u → PWt u) :
    Calls Tryz.prog 17 #[.pointer (some ⟨bk, 0, none⟩)] w fun e w' => e = .returned (.bool true) ∧ Below L w w' := by
  have hbB := hB.lt
  have hbs := World.rowIs.lt hB.box
  obtain ⟨S, hS⟩ : ∃ S, S = w.heap.size := ⟨_, rfl⟩
  have hBS : B ≤ S := by omega
  have hrw : ∀ g, (vv.ownBlock = some g ∨ vt.ownBlock = some g ∨ vf.ownBlock = some g) → g < S := fun g hg => by
    rcases hg with q | q | q
    · rw [hS]; exact (hB.rv.lt g q).2
    · rw [hS]; exact (hB.rt.lt g q).2
    · rw [hS]; exact (hB.rf.lt g q).2
  have HG1 := Lib.hid (fillV_any hB hBS (Nat.le_of_eq hS) r1)
  have HX := Lib.hid (And.intro hB (And.intro hrw (And.intro r1 (And.intro r2 (And.intro r3 (And.intro sep hp))))))
  have HS := Lib.hid hS
  clear hB hrw r1 r2 r3 sep hp hS
  go_enter Tryz.func17, Tryz.ntmps17
  go_wp2_with fail
  refine HG1.out.mono ?_
  rintro e w1 ⟨rfl, t1, f1⟩
  have H1 : Hid (Tch (RG hv) w w1 ∧ Bk w1 bk B n vv vt vf hv ht hf ∧ Rg KV w1 L bk B hv ∧ Rg KT w1 L bk B ht ∧ Rg KF w1 L bk B hf ∧ (∀ h ∈ hv, Fil KV S w1 h)) := by
    obtain ⟨hB, hrw, r1, r2, r3, sep, hp⟩ := HX.out
    exact ⟨t1, hB.tch t1 (fun g e => (r1.at e).2), r1.of_fil f1, r2.keep t1 sep.vt, r3.keep t1 sep.vf, f1⟩
  clear t1 f1 HG1
  have HG2 := Lib.hid (fillT_any H1.out.2.1 hBS (by have := H1.out.1.size; have := HS.out; omega) H1.out.2.2.2.1)
  go_wp2_with fail
  refine HG2.out.mono ?_
  rintro e w2 ⟨rfl, t2, f2⟩
  have H2 : Hid (Tch (RG ht) w1 w2 ∧ Bk w2 bk B n vv vt vf hv ht hf ∧ Rg KV w2 L bk B hv ∧ Rg KT w2 L bk B ht ∧ Rg KF w2 L bk B hf ∧ (∀ h ∈ hv, Fil KV S w2 h) ∧ (∀ h ∈ ht, Fil KT S w2 h)) := by
    obtain ⟨hB, hrw, r1, r2, r3, sep, hp⟩ := HX.out
    obtain ⟨t1, B1, q1, q2, q3, f1⟩ := H1.out
    have f1' := fil_keep f1 t2 (fun g e => ⟨Nat.lt_of_lt_of_le (r2.at e).2.1 hBS, fun q => sep.vt g q e⟩)
    exact ⟨t2, B1.tch t2 (fun g e => (r2.at e).2), q1.of_fil f1', q2.of_fil f2, q3.keep t2 sep.tf, f1', f2⟩
  clear t2 f2 HG2
  have bl : ∀ {u u' : World} {E : Nat → Prop}, Tch E u u' → w.heap.size ≤ u.heap.size → (∀ g, E g → L ≤ g) → Below L u u' := fun t hs hE => t.below (by omega) (fun g hg e => by have := hE g e; omega)
  have HBL2 : Hid (Below L w w2) := (bl H1.out.1 (Nat.le_refl _) (fun g e => (HX.out.2.2.1.at e).1)).trans (bl H2.out.1 H1.out.1.size (fun g e => (HX.out.2.2.2.1.at e).1))
  have HG3 := Lib.hid (fillF_any H2.out.2.1 hBS (by have := H1.out.1.size; have := H2.out.1.size; have := HS.out; omega) H2.out.2.2.2.2.1 (by have := H1.out.1.size; have := H2.out.1.size; omega) (fun u hu => HX.out.2.2.2.2.2.2 u (HBL2.out.trans hu)))
  go_wp2_with fail
  refine HG3.out.mono ?_
  rintro e w3 ⟨rfl, t3, f3⟩
  have H3 : Hid (Below L w w3 ∧ w.heap.size ≤ w3.heap.size ∧ Bk w3 bk B n vv vt vf hv ht hf ∧ Rg KV w3 L bk B hv ∧ Rg KT w3 L bk B ht ∧ Rg KF w3 L bk B hf ∧ (∀ h ∈ hv, Fil KV S w3 h) ∧ (∀ h ∈ ht, Fil KT S w3 h) ∧ (∀ h ∈ hf, Fil KF S w3 h)) := by
    obtain ⟨hB, hrw, r1, r2, r3, sep, hp⟩ := HX.out
    obtain ⟨t1, _⟩ := H1.out
    obtain ⟨t2, B2, q1, q2, q3, f1, f2⟩ := H2.out
    have f1' := fil_keep f1 t3 (fun g e => ⟨Nat.lt_of_lt_of_le (r3.at e).2.1 hBS, fun q => sep.vf g q e⟩)
    have f2' := fil_keep f2 t3 (fun g e => ⟨Nat.lt_of_lt_of_le (r3.at e).2.1 hBS, fun q => sep.tf g q e⟩)
    exact ⟨HBL2.out.trans (bl t3 (Nat.le_trans t1.size t2.size) (fun g e => (r3.at e).1)), Nat.le_trans t1.size (Nat.le_trans t2.size t3.size), B2.tch t3 (fun g e => (r3.at e).2), q1.of_fil f1', q2.of_fil f2', q3.of_fil f3, f1', f2', f3⟩
  have HN : Hid (∀ j, 4 ≤ j → j < 32 → w3.cell? ⟨bk, j, none⟩ = some (.slice none 0 0)) := fun j h1 h2 => nilcell H3.out.2.2.1.box h1 h2
  clear t3 f3 HG3 H1 H2 HBL2 bl
  go_wp2_with fail
  refine (fillTerm_no (HN.out 4 (by omega) (by omega))).mono ?_
  rintro e w9 ⟨rfl, hw9⟩
  have hw8 := hw9.symm
  subst hw8
  clear hw9
  go_wp2_with fail
  refine (fillExpr_no (HN.out 5 (by omega) (by omega))).mono ?_
  rintro e w9 ⟨rfl, hw9⟩
  have hw8 := hw9.symm
  subst hw8
  clear hw9
  go_wp2_with fail
  refine (fillLiteral_no (HN.out 6 (by omega) (by omega))).mono ?_
  rintro e w9 ⟨rfl, hw9⟩
  have hw8 := hw9.symm
  subst hw8
  clear hw9
  go_wp2_with fail
  refine (fillArg_no (HN.out 7 (by omega) (by omega))).mono ?_
  rintro e w9 ⟨rfl, hw9⟩
  have hw8 := hw9.symm
  subst hw8
  clear hw9
  go_wp2_with fail
  refine (fillRule_no (HN.out 8 (by omega) (by omega))).mono ?_
  rintro e w9 ⟨rfl, hw9⟩
  have hw8 := hw9.symm
  subst hw8
  clear hw9
  go_wp2_with fail
  refine (fillPair_no (HN.out 9 (by omega) (by omega))).mono ?_
  rintro e w9 ⟨rfl, hw9⟩
  have hw8 := hw9.symm
  subst hw8
  clear hw9
  go_wp2_with fail
  refine (fillBind_no (HN.out 10 (by omega) (by omega))).mono ?_
  rintro e w9 ⟨rfl, hw9⟩
  have hw8 := hw9.symm
  subst hw8
  clear hw9
  go_wp2_with fail
  refine (fillBindList_no (HN.out 11 (by omega) (by omega))).mono ?_
  rintro e w9 ⟨rfl, hw9⟩
  have hw8 := hw9.symm
  subst hw8
  clear hw9
  go_wp2_with fail
  refine (fillText_no (HN.out 12 (by omega) (by omega))).mono ?_
  rintro e w9 ⟨rfl, hw9⟩
  have hw8 := hw9.symm
  subst hw8
  clear hw9
  go_wp2_with fail
  refine (fillTextList_no (HN.out 13 (by omega) (by omega))).mono ?_
  rintro e w9 ⟨rfl, hw9⟩
  have hw8 := hw9.symm
  subst hw8
  clear hw9
  go_wp2_with fail
  refine (fillInt_no (HN.out 14 (by omega) (by omega))).mono ?_
  rintro e w9 ⟨rfl, hw9⟩
  have hw8 := hw9.symm
  subst hw8
  clear hw9
  go_wp2_with fail
  refine (fillRow_no (HN.out 15 (by omega) (by omega))).mono ?_
  rintro e w9 ⟨rfl, hw9⟩
  have hw8 := hw9.symm
  subst hw8
  clear hw9
  go_wp2_with fail
  refine (fillToken_no (HN.out 16 (by omega) (by omega))).mono ?_
  rintro e w9 ⟨rfl, hw9⟩
  have hw8 := hw9.symm
  subst hw8
  clear hw9
  go_wp2_with fail
  refine (fillPred_no (HN.out 17 (by omega) (by omega))).mono ?_
  rintro e w9 ⟨rfl, hw9⟩
  have hw8 := hw9.symm
  subst hw8
  clear hw9
  go_wp2_with fail
  refine (fillType_no (HN.out 18 (by omega) (by omega))).mono ?_
  rintro e w9 ⟨rfl, hw9⟩
  have hw8 := hw9.symm
  subst hw8
  clear hw9
  go_wp2_with fail
  refine (fillSig_no (HN.out 19 (by omega) (by omega))).mono ?_
  rintro e w9 ⟨rfl, hw9⟩
  have hw8 := hw9.symm
  subst hw8
  clear hw9
  go_wp2_with fail
  refine (fillEdge_no (HN.out 20 (by omega) (by omega))).mono ?_
  rintro e w9 ⟨rfl, hw9⟩
  have hw8 := hw9.symm
  subst hw8
  clear hw9
  go_wp2_with fail
  refine (fillLevel_no (HN.out 21 (by omega) (by omega))).mono ?_
  rintro e w9 ⟨rfl, hw9⟩
  have hw8 := hw9.symm
  subst hw8
  clear hw9
  go_wp2_with fail
  refine (fillMask_no (HN.out 22 (by omega) (by omega))).mono ?_
  rintro e w9 ⟨rfl, hw9⟩
  have hw8 := hw9.symm
  subst hw8
  clear hw9
  go_wp2_with fail
  refine (fillStep_no (HN.out 23 (by omega) (by omega))).mono ?_
  rintro e w9 ⟨rfl, hw9⟩
  have hw8 := hw9.symm
  subst hw8
  clear hw9
  go_wp2_with fail
  refine (fillRanked_no (HN.out 24 (by omega) (by omega))).mono ?_
  rintro e w9 ⟨rfl, hw9⟩
  have hw8 := hw9.symm
  subst hw8
  clear hw9
  go_wp2_with fail
  refine (fillAdorned_no (HN.out 25 (by omega) (by omega))).mono ?_
  rintro e w9 ⟨rfl, hw9⟩
  have hw8 := hw9.symm
  subst hw8
  clear hw9
  go_wp2_with fail
  refine (fillTable_no (HN.out 26 (by omega) (by omega))).mono ?_
  rintro e w9 ⟨rfl, hw9⟩
  have hw8 := hw9.symm
  subst hw8
  clear hw9
  go_wp2_with fail
  refine (fillProof_no (HN.out 27 (by omega) (by omega))).mono ?_
  rintro e w9 ⟨rfl, hw9⟩
  have hw8 := hw9.symm
  subst hw8
  clear hw9
  go_wp2_with fail
  refine (fillSize_no (HN.out 28 (by omega) (by omega))).mono ?_
  rintro e w9 ⟨rfl, hw9⟩
  have hw8 := hw9.symm
  subst hw8
  clear hw9
  go_wp2_with fail
  refine (fillFloat_no (HN.out 29 (by omega) (by omega))).mono ?_
  rintro e w9 ⟨rfl, hw9⟩
  have hw8 := hw9.symm
  subst hw8
  clear hw9
  go_wp2_with fail
  refine (fillCommit_no (HN.out 30 (by omega) (by omega))).mono ?_
  rintro e w9 ⟨rfl, hw9⟩
  have hw8 := hw9.symm
  subst hw8
  clear hw9
  go_wp2_with fail
  refine (fillEvent_no (HN.out 31 (by omega) (by omega))).mono ?_
  rintro e w9 ⟨rfl, hw9⟩
  have hw8 := hw9.symm
  subst hw8
  clear hw9
  have HGA : Hid (Calls Tryz.prog 71 #[.pointer (some ⟨bk, 0, none⟩)] w3 fun e w' => e = .returned (.tuple #[]) ∧ Below L w3 w' ∧ ∃ hv' ht' hf', Like hv hv' ∧ Like ht ht' ∧ Like hf hf' ∧ Bk w' bk B n vv vt vf hv' ht' hf' ∧ (∀ h ∈ hv', Dn KV S w' h) ∧ (∀ h ∈ ht', Dn KT S w' h) ∧ (∀ h ∈ hf', Dn KF S w' h)) := by
    obtain ⟨hB, hrw, r1, r2, r3, sep, hp⟩ := HX.out
    obtain ⟨b3, s3, B3, q1, q2, q3, f1, f2, f3⟩ := H3.out
    exact growAll_any B3 hBS (by have := HS.out; omega) hL hrw q1 q2 q3 sep (fun u hu => hp u (b3.trans hu)) f1 f2 f3
  go_wp2_with fail
  refine HGA.out.mono ?_
  rintro e w4 ⟨rfl, b4, hv', ht', hf', lk1, lk2, lk3, B4, d1, d2, d3⟩
  have HB4 : Hid (Below L w w4) := H3.out.1.trans b4
  have HLO : Hid (Calls Tryz.prog 72 #[.pointer (some ⟨bk, 0, none⟩)] w4 fun e w' => e = .returned (.bool true) ∧ Below w4.heap.size w4 w') := by
    obtain ⟨hB, hrw, r1, r2, r3, sep, hp⟩ := HX.out
    exact lookOne_any B4 (like_num lk1 r1.num) (like_num lk2 r2.num) (like_num lk3 r3.num) (by rw [lk1.1]; exact r1.len) (by rw [lk2.1]; exact r2.len) (by rw [lk3.1]; exact r3.len) (hp _ HB4.out) d1 d2 d3
  have HBX : Hid (∀ u, Below w4.heap.size w4 u → RL u bk 63 (bkCells n vv vt vf)) := fun u hu => (B4.below hu).box
  have HS4 : Hid (L ≤ w4.heap.size) := by have := World.rowIs.lt B4.box; show _ ≤ _; omega
  clear b4 lk1 lk2 lk3 B4 d1 d2 d3 HGA H3 HN
  go_wp2_with fail
  refine HLO.out.mono ?_
  rintro e w5 ⟨rfl, b5⟩
  have HLT := Lib.hid (lookTwo_any (HBX.out w5 b5))
  have HB5 : Hid (Below L w w5) := HB4.out.trans (b5.mono HS4.out)
  clear b5 HLO
  go_wp2_with fail
  refine HLT.out.mono ?_
  rintro e w6 ⟨rfl, hw6⟩
  have hw7 := hw6.symm
  subst hw7
  clear hw6
  go_wp2
  go_ret
  exact ⟨rfl, HB5.out⟩
open Go.RowKit Go.Maps
set_option linter.unusedVariables false
set_option linter.unusedSimpArgs false
attribute [local go_sem ↓] Go.wp_at_zero Go.wp_at_succ

/-- a list of facts (or tuples) all of whose rows are its own, in blocks from lo on and below hi -/
structure Bun (ty : TypeId) (k : Nat) (cel : XF → List Value) (w : World) (lo hi : Nat) (a : Option Addr) (c : Nat) (out : List XF) : Prop where
  own : w.ownsRow lo ty k (.slice a out.length c) out.length (out.flatMap cel)
  each : ∀ y ∈ out, w.ownsRow lo 69 3 (.slice y.a y.vs.length y.c) y.vs.length (y.vs.flatMap V.cells)
  dj : ∀ g, (Value.slice a out.length c).ownBlock = some g → ∀ y ∈ out, y.blk ≠ some g
  nd : out.Pairwise ApX
  lt1 : ∀ g, (Value.slice a out.length c).ownBlock = some g → lo ≤ g ∧ g < hi
  lt2 : ∀ y ∈ out, ∀ g, y.blk = some g → lo ≤ g ∧ g < hi
theorem Bun.keep {ty : TypeId} {k : Nat} {cel : XF → List Value} {w w' : World} {lo hi : Nat} {a : Option Addr} {c : Nat} {out : List XF} (h : Bun ty k cel w lo hi a c out) (hb : ∀ g, lo ≤ g → g < hi → w'.heap[g]? = w.heap[g]?) : Bun ty k cel w' lo hi a c out :=
  ⟨own_of_block h.own (fun g hg => hb g (h.lt1 g hg).1 (h.lt1 g hg).2), fun y hy => own_of_block (h.each y hy) (fun g hg => hb g (h.lt2 y hy g hg).1 (h.lt2 y hy g hg).2), h.dj, h.nd, h.lt1, h.lt2⟩
theorem EoS.bun {ty : TypeId} {k : Nat} {cel : XF → List Value} {B lo : Nat} {out : List XF} {a : Option Addr} {c : Nat} {w : World} (h : EoS ty k cel B out a c w) (hl : lo ≤ B) : Bun ty k cel w lo w.heap.size a c out :=
  ⟨h.own.mono hl, fun y hy => (h.fr y hy).own.mono hl, h.dj, h.nd, fun g hg => ⟨Nat.le_trans hl (h.own.lt g hg).1, (h.own.lt g hg).2⟩, fun y hy g hg => ⟨Nat.le_trans hl ((h.fr y hy).lt hg).1, ((h.fr y hy).lt hg).2⟩⟩
theorem pw_at {l : List XF} (h : ∀ i j, i < j → j < l.length → ApX (atF l i) (atF l j)) : l.Pairwise ApX := List.pairwise_iff_getElem.2 (fun i j hi hj hij => by
  have := h i j hij hj
  rw [atF_eq hi, atF_eq hj] at this
  exact this)
theorem mem_atF {l : List XF} {y : XF} (h : y ∈ l) : ∃ i, i < l.length ∧ atF l i = y := by
  obtain ⟨i, hi, rfl⟩ := List.getElem_of_mem h
  exact ⟨i, hi, atF_eq hi⟩
theorem TwG.bun {w : World} {lo : Nat} {l : List XF} {a : Option Addr} {c : Nat} (h : TwG w lo l a c) (hs : l.length ≤ 1048576) : Bun 28 2 XF.cells w lo w.heap.size a c l := by
  have hc := h.cap
  obtain ⟨g, rfl, hlo, hg, hrow⟩ := h.lies
  subst hc
  have ho : w.ownsRow lo 28 2 (.slice (some ⟨g, 0, none⟩) l.length (l.length + 1)) l.length (l.flatMap XF.cells) := own_of_rowF (f := XF.cells) (k := 2) (by omega) (fun _ => rfl) XF0 hrow (fun i hi => by rw [if_neg (by omega)]; rfl) hlo (by omega) (by unfold maxLen; omega)
  refine ⟨ho, fun y hy => ?_, fun g' hg' y hy e => ?_, pw_at h.nd, fun g' hg' => ⟨(ho.lt g' hg').1, (ho.lt g' hg').2⟩, fun y hy g' hg' => ?_⟩
  · obtain ⟨i, hi, rfl⟩ := mem_atF hy
    exact (h.each i hi).own
  · obtain ⟨i, hi, rfl⟩ := mem_atF hy
    have h1 := ((h.apart g rfl i hi).lt e).1
    have : g = g' := by simpa [Value.ownBlock] using hg'
    omega
  · obtain ⟨i, hi, rfl⟩ := mem_atF hy
    exact (h.each i hi).lt hg'
theorem TwU.bun {w : World} {lo : Nat} {l : List XF} {a : Option Addr} {c : Nat} (h : TwU w lo l a c) : Bun 26 1 XF.tcells w lo w.heap.size a c l := by
  have ho := h.own
  obtain ⟨g, m, e0, _⟩ := h.lies
  refine ⟨ho, fun y hy => ?_, fun g' hg' y hy e => ?_, pw_at h.nd, fun g' hg' => ⟨(ho.lt g' hg').1, (ho.lt g' hg').2⟩, fun y hy g' hg' => ?_⟩
  · obtain ⟨i, hi, rfl⟩ := mem_atF hy
    exact (h.each i hi).own
  · obtain ⟨i, hi, rfl⟩ := mem_atF hy
    have h1 := ((h.dj g e0 i hi).lt e).1
    have : g = g' := by rw [e0] at hg'; simpa [Value.ownBlock] using hg'
    omega
  · obtain ⟨i, hi, rfl⟩ := mem_atF hy
    exact (h.each i hi).lt hg'

/-- a book, and what it holds: all apart; C: where that lies -/
structure Reg (w : World) (L bk B n : Nat) (C : Nat → Prop) (vv vt vf : Value) (hv ht hf : List Hd) : Prop where
  b : Bk w bk B n vv vt vf hv ht hf
  r1 : Rg KV w L bk B hv
  r2 : Rg KT w L bk B ht
  r3 : Rg KF w L bk B hf
  sep : Sep L bk B hv ht hf
  cov : ∀ g, (RG hv g ∨ RG ht g ∨ RG hf g) → C g
  lens : hv.length ≤ n ∧ ht.length ≤ n ∧ hf.length ≤ n
theorem rg_app {l : List Hd} {h : Hd} {g : Nat} (hg : RG (l ++ [h]) g) : RG l g ∨ h.blk = some g := by
  obtain ⟨x, hx, e⟩ := hg
  rcases List.mem_append.1 hx with q | q
  · exact .inl ⟨x, q, e⟩
  · rw [List.mem_singleton.1 q] at e; exact .inr e
theorem Rg.push {K : Kd} {w w' : World} {L bk B n : Nat} {l : List Hd} {h : Hd} {O : List Value} (r : Rg K w L bk B l) (t : Tch (EB bk B) w w') (ho : w.ownsRow 0 K.e K.sz h.sv h.n O) (hb : ∀ g, h.blk = some g → L ≤ g ∧ g < B ∧ g ≠ bk) (hn : ∀ g, h.blk = some g → ¬ RG l g) (h1 : h.m ≤ 2000000000 ∧ h.n ≤ 2097152) (h2 : l.length < 1000000000) : Rg K w' L bk B (l ++ [h]) := by
  have hr := r.keep t (fun g e q => by
    obtain ⟨_, q2, q3⟩ := r.at q
    rcases e with e | e
    · exact q3 e
    · omega)
  refine ⟨fun x hx => ?_, fun x hx => ?_, List.pairwise_append.2 ⟨r.nd, List.pairwise_singleton _ _, fun x hx y hy g e1 e2 => ?_⟩, fun x hx => ?_, by simp; omega⟩
  · rcases List.mem_append.1 hx with q | q
    · exact hr.reg x q
    · rw [List.mem_singleton.1 q]
      exact ⟨O, own_of_block ho (fun g hg => t.block g (ho.lt g hg).2 (fun e => by
        obtain ⟨_, q2, q3⟩ := hb g hg
        rcases e with e | e
        · exact q3 e
        · omega))⟩
  · rcases List.mem_append.1 hx with q | q
    · exact r.blt x q
    · rw [List.mem_singleton.1 q]; exact hb
  · rw [List.mem_singleton.1 hy] at e2
    exact hn g e2 ⟨x, hx, e1⟩
  · rcases List.mem_append.1 hx with q | q
    · exact r.num x q
    · rw [List.mem_singleton.1 q]; exact h1
theorem Rg.other {K : Kd} {w w' : World} {L bk B : Nat} {l : List Hd} (r : Rg K w L bk B l) (t : Tch (EB bk B) w w') : Rg K w' L bk B l := r.keep t (fun g e q => by
  obtain ⟨_, q2, q3⟩ := r.at q
  rcases e with e | e
  · exact q3 e
  · omega)
theorem Reg.pushV {w w' : World} {L bk B n : Nat} {C : Nat → Prop} {vv vt vf v' : Value} {hv ht hf : List Hd} {h : Hd} {O : List Value} (hR : Reg w L bk B n C vv vt vf hv ht hf) (hb' : Bk w' bk B (n + 1) v' vt vf (hv ++ [h]) ht hf) (t : Tch (EB bk B) w w') (ho : w.ownsRow 0 (KV).e (KV).sz h.sv h.n O) (hb : ∀ g, h.blk = some g → L ≤ g ∧ g < B ∧ g ≠ bk) (hC : ∀ g, h.blk = some g → ¬ C g) (hm : h.m ≤ 2000000000 ∧ h.n ≤ 2097152) (hn : n < 1000000000) : Reg w' L bk B (n + 1) (fun g => C g ∨ h.blk = some g) v' vt vf (hv ++ [h]) ht hf :=
  ⟨hb', hR.r1.push (n := n) t ho hb (fun g e q => hC g e (hR.cov g (.inl q))) hm (by have := hR.lens; omega), hR.r2.other t, hR.r3.other t, ⟨fun g h1 h2 => (rg_app h1).elim (fun q => hR.sep.vt g q h2) (fun q => hC g q (hR.cov g (.inr (.inl h2)))), fun g h1 h2 => (rg_app h1).elim (fun q => hR.sep.vf g q h2) (fun q => hC g q (hR.cov g (.inr (.inr h2)))), hR.sep.tf⟩, fun g e => by
    rcases e with q | q | q
    · exact (rg_app q).elim (fun q => .inl (hR.cov g (.inl q))) (fun q => .inr q)
    · exact .inl (hR.cov g (.inr (.inl q)))
    · exact .inl (hR.cov g (.inr (.inr q))), ⟨by have := hR.lens.1; simp; omega, by have := hR.lens.2.1; omega, by have := hR.lens.2.2; omega⟩⟩
theorem Reg.pushT {w w' : World} {L bk B n : Nat} {C : Nat → Prop} {vv vt vf v' : Value} {hv ht hf : List Hd} {h : Hd} {O : List Value} (hR : Reg w L bk B n C vv vt vf hv ht hf) (hb' : Bk w' bk B (n + 1) vv v' vf hv (ht ++ [h]) hf) (t : Tch (EB bk B) w w') (ho : w.ownsRow 0 (KT).e (KT).sz h.sv h.n O) (hb : ∀ g, h.blk = some g → L ≤ g ∧ g < B ∧ g ≠ bk) (hC : ∀ g, h.blk = some g → ¬ C g) (hm : h.m ≤ 2000000000 ∧ h.n ≤ 2097152) (hn : n < 1000000000) : Reg w' L bk B (n + 1) (fun g => C g ∨ h.blk = some g) vv v' vf hv (ht ++ [h]) hf :=
  ⟨hb', hR.r1.other t, hR.r2.push (n := n) t ho hb (fun g e q => hC g e (hR.cov g (.inr (.inl q)))) hm (by have := hR.lens; omega), hR.r3.other t, ⟨fun g h1 h2 => (rg_app h2).elim (fun q => hR.sep.vt g h1 q) (fun q => hC g q (hR.cov g (.inl h1))), hR.sep.vf, fun g h1 h2 => (rg_app h1).elim (fun q => hR.sep.tf g q h2) (fun q => hC g q (hR.cov g (.inr (.inr h2))))⟩, fun g e => by
    rcases e with q | q | q
    · exact .inl (hR.cov g (.inl q))
    · exact (rg_app q).elim (fun q => .inl (hR.cov g (.inr (.inl q)))) (fun q => .inr q)
    · exact .inl (hR.cov g (.inr (.inr q))), ⟨by have := hR.lens.1; omega, by have := hR.lens.2.1; simp; omega, by have := hR.lens.2.2; omega⟩⟩
theorem Reg.pushF {w w' : World} {L bk B n : Nat} {C : Nat → Prop} {vv vt vf v' : Value} {hv ht hf : List Hd} {h : Hd} {O : List Value} (hR : Reg w L bk B n C vv vt vf hv ht hf) (hb' : Bk w' bk B (n + 1) vv vt v' hv ht (hf ++ [h])) (t : Tch (EB bk B) w w') (ho : w.ownsRow 0 (KF).e (KF).sz h.sv h.n O) (hb : ∀ g, h.blk = some g → L ≤ g ∧ g < B ∧ g ≠ bk) (hC : ∀ g, h.blk = some g → ¬ C g) (hm : h.m ≤ 2000000000 ∧ h.n ≤ 2097152) (hn : n < 1000000000) : Reg w' L bk B (n + 1) (fun g => C g ∨ h.blk = some g) vv vt v' hv ht (hf ++ [h]) :=
  ⟨hb', hR.r1.other t, hR.r2.other t, hR.r3.push (n := n) t ho hb (fun g e q => hC g e (hR.cov g (.inr (.inr q)))) hm (by have := hR.lens; omega), ⟨hR.sep.vt, fun g h1 h2 => (rg_app h2).elim (fun q => hR.sep.vf g h1 q) (fun q => hC g q (hR.cov g (.inl h1))), fun g h1 h2 => (rg_app h2).elim (fun q => hR.sep.tf g h1 q) (fun q => hC g q (hR.cov g (.inr (.inl h1))))⟩, fun g e => by
    rcases e with q | q | q
    · exact .inl (hR.cov g (.inl q))
    · exact .inl (hR.cov g (.inr (.inl q)))
    · exact (rg_app q).elim (fun q => .inl (hR.cov g (.inr (.inr q)))) (fun q => .inr q), ⟨by have := hR.lens.1; omega, by have := hR.lens.2.1; omega, by have := hR.lens.2.2; simp; omega⟩⟩
theorem Reg.mono {w : World} {L bk B n : Nat} {C C' : Nat → Prop} {vv vt vf : Value} {hv ht hf : List Hd} (h : Reg w L bk B n C vv vt vf hv ht hf) (hc : ∀ g, C g → C' g) : Reg w L bk B n C' vv vt vf hv ht hf := ⟨h.b, h.r1, h.r2, h.r3, h.sep, fun g e => hc g (h.cov g e), h.lens⟩
theorem len_le : ∀ (out ks : List Key), out.Pairwise kl → (∀ x ∈ out, x ∈ ks) → out.length ≤ ks.length
  | [], _, _, _ => Nat.zero_le _
  | x :: out, ks, hp, hm => by
    obtain ⟨hx, hp'⟩ := List.pairwise_cons.1 hp
    obtain ⟨s, t, rfl⟩ := List.append_of_mem (hm x List.mem_cons_self)
    have := len_le out (s ++ t) hp' (fun y hy => by
      have h1 := hm y (List.mem_cons_of_mem _ hy)
      rcases List.mem_append.1 h1 with q | q
      · exact List.mem_append.2 (.inl q)
      · rcases List.mem_cons.1 q with q | q
        · rw [q] at hy; exact absurd (hx x hy) (kl_irrefl x)
        · exact List.mem_append.2 (.inr q))
    simp only [List.length_append, List.length_cons] at this ⊢
    omega
theorem told_len {l out : List XF} (h : Told (l.map XF.key) (out.map XF.key)) : out.length ≤ l.length := by
  have := len_le _ _ h.rises (fun x hx => (h.same x).1 hx)
  simpa using this
theorem told_small {l out : List XF} (h : Told (l.map XF.key) (out.map XF.key)) (hs : ∀ i, i < l.length → (atF l i).vs.length ≤ 1048576) : ∀ y ∈ out, y.vs.length ≤ 1048576 := fun y hy => by
  obtain ⟨z, hz, e⟩ := List.mem_map.1 ((h.same y.key).1 (List.mem_map.2 ⟨y, hy, rfl⟩))
  obtain ⟨i, hi, rfl⟩ := mem_atF hz
  have : (atF l i).vs = y.vs := congrArg Prod.snd e
  rw [← this]
  exact hs i hi
/-- where the elements' lists are told -/
theorem Bun.celF {w : World} {lo hi : Nat} {a : Option Addr} {c : Nat} {out : List XF} (h : Bun 28 2 XF.cells w lo hi a c out) (h0 : 0 < out.length) : ∃ g, a = some ⟨g, 0, none⟩ ∧ lo ≤ g ∧ g < hi ∧ ∀ i, i < out.length → w.cell? ⟨g, i * 2 + 1, none⟩ = some (.slice (atF out i).a (atF out i).vs.length (atF out i).c) := by
  have hr := ls_range (f := XF.cells) (k := 2) (fun _ => rfl) XF0 (ls_own h.own)
  have hlt := h.lt1
  rcases h.own.2 with ⟨_, e0⟩ | ⟨g, cap, cur, e1, hb, hg, _⟩
  · omega
  · obtain ⟨a2, c2, e2, _, _, hk⟩ := hr
    cases e1
    cases e2
    obtain ⟨g', off, e3, hg', hc⟩ := hk h0
    cases e3
    refine ⟨g, rfl, (hlt g rfl).1, (hlt g rfl).2, fun i hi => ?_⟩
    · have q := hc i hi 1 _ rfl
      rw [Nat.zero_add] at q
      exact q
set_option maxHeartbeats 6400000 in
set_option maxRecDepth 100000 in
theorem bkFacts_any {w : World} {L bk B n lo hi : Nat} {C : Nat → Prop} {vv vt vf : Value} {hv ht hf : List Hd} {a : Option Addr} {c : Nat} {out : List XF} (hR : Reg w L bk B n C vv vt vf hv ht hf) (hBs : B ≤ w.heap.size) (hn : n + out.length + 1 ≤ 1000000000) (hu : Bun 28 2 XF.cells w lo hi a c out) (hlo : L ≤ lo) (hhi : hi ≤ B) (hbk : bk < lo ∨ hi ≤ bk) (hC : ∀ g, lo ≤ g → g < hi → ¬ C g) (hs1 : out.length ≤ 1048576) (hs2 : ∀ y ∈ out, y.vs.length ≤ 1048576) :
    Calls Tryz.prog 15 #[.pointer (some ⟨bk, 0, none⟩), .slice a out.length c] w fun e w' => e = .returned (.tuple #[]) ∧ Tch (EB bk B) w w' ∧ ∃ vv' vt' vf' hv' ht' hf', Reg w' L bk B (n + out.length + 1) (fun g => C g ∨ (lo ≤ g ∧ g < hi)) vv' vt' vf' hv' ht' hf' := by
  have hst : ∀ u, Tch (EB bk B) w u → ∀ g, lo ≤ g → g < hi → u.heap[g]? = w.heap[g]? := fun u t g h1 h2 => t.block g (by omega) (fun e => by rcases e with e | e <;> omega)
  have HBU : Hid (∀ u, Tch (EB bk B) w u → Bun 28 2 XF.cells u lo hi a c out) := fun u t => hu.keep (hst u t)
  have HK1 := Lib.hid (keepF_any hR.b hBs a out.length c (by omega) (by have := hR.lens; omega))
  have hn1 : n ≤ 1000000000 := by omega
  have HR1 : Hid (∀ w1 a1 c1, Bk w1 bk B (n + 1) vv vt (.slice a1 (hf.length + 1) c1) hv ht (hf ++ [⟨a, out.length, c, none, 0, 0, n + 1⟩]) → Tch (EB bk B) w w1 → ∃ vv' vt' vf' hv' ht' hf', Reg w1 L bk B (n + 1) (fun g => C g ∨ (Value.slice a out.length c).ownBlock = some g) vv' vt' vf' hv' ht' hf') := fun w1 a1 c1 hb t => ⟨_, _, _, _, _, _, hR.pushF hb t (h := ⟨a, out.length, c, none, 0, 0, n + 1⟩) (hu.own.mono (Nat.zero_le _)) (fun g hg => by have h1 := hu.lt1 g hg; refine ⟨by omega, by omega, by omega⟩) (fun g hg => hC g (hu.lt1 g hg).1 (hu.lt1 g hg).2) ⟨by show n + 1 ≤ _; omega, by show out.length ≤ _; omega⟩ (by omega)⟩
  have HND : Hid (∀ i j, i < j → j < out.length → ∀ g, (atF out j).blk = some g → (atF out i).blk ≠ some g) := fun i j hij hj g e1 e2 => by
    have := (List.pairwise_iff_getElem.1 hu.nd) i j (by omega) hj hij
    rw [atF_eq hj] at e1
    rw [atF_eq (by omega)] at e2
    exact this g e2 e1
  have HDJ : Hid (∀ j, j < out.length → ∀ g, (atF out j).blk = some g → (Value.slice a out.length c).ownBlock ≠ some g) := fun j hj g e1 e2 => hu.dj g e2 _ (by rw [atF_eq hj]; exact List.getElem_mem hj) e1
  have HLT : Hid (∀ j, j < out.length → ∀ g, (atF out j).blk = some g → lo ≤ g ∧ g < hi) := fun j hj g e => hu.lt2 _ (by rw [atF_eq hj]; exact List.getElem_mem hj) g e
  have HLO : Hid (∀ g, (Value.slice a out.length c).ownBlock = some g → lo ≤ g ∧ g < hi) := hu.lt1
  have HSM : Hid (∀ j, j < out.length → (atF out j).vs.length ≤ 1048576) := fun j hj => hs2 _ (by rw [atF_eq hj]; exact List.getElem_mem hj)
  have HCC := Lib.hid hC
  clear hR hu hC hs2 hst
  go_enter Tryz.func15, Tryz.ntmps15
  go_wp2_with fail
  refine HK1.out.mono ?_
  rintro e w1 ⟨rfl, a1, c1, hb1, t1⟩
  have HG1 := Lib.hid (HR1.out w1 a1 c1 hb1 t1)
  have HT1 := Lib.hid t1
  clear hb1 t1 HK1 HR1
  go_wp2
  go_loopw [4] (fun iv wr => ∃ i : Nat, i ≤ out.length ∧ iv = .int .i64 i ∧ Hid (Tch (EB bk B) w wr) ∧ Hid (∃ vv' vt' vf' hv' ht' hf', Reg wr L bk B (n + 1 + i) (fun g => C g ∨ (Value.slice a out.length c).ownBlock = some g ∨ ∃ j, j < i ∧ (atF out j).blk = some g) vv' vt' vf' hv' ht' hf')) (fun iv _ => out.length - (intOf iv).toNat)
  case atStart =>
    refine ⟨0, Nat.zero_le _, rfl, HT1, ?_⟩
    obtain ⟨x1, x2, x3, x4, x5, x6, hx⟩ := HG1.out
    exact ⟨x1, x2, x3, x4, x5, x6, hx.mono (fun g e => e.imp_right .inl)⟩
  case round =>
    obtain ⟨i, hi', rfl, HT, HG⟩ := hrel
    by_cases hlt : i < out.length
    · have hlt' : (i : Int) < (out.length : Int) := by omega
      have hi0 : (0 : Int) ≤ (i : Int) := by omega
      obtain ⟨g, rfl, hg1, hg2, hce⟩ := (HBU.out wr HT.out).celF (by omega)
      have y1 := hce i hlt
      have hev := (HBU.out wr HT.out).each (atF out i) (by rw [atF_eq hlt]; exact List.getElem_mem hlt)
      obtain ⟨y, hy⟩ : ∃ y, y = atF out i := ⟨_, rfl⟩
      rw [← hy] at y1 hev
      obtain ⟨x1, x2, x3, x4, x5, x6, hx⟩ := HG.out
      have HK := Lib.hid (keepV_any hx.b (by have := HT.out.size; omega) y.a y.vs.length y.c (by omega) (by have := hx.lens.1; omega))
      have HPU : Hid (∀ w1 a1 c1, Bk w1 bk B (n + 1 + i + 1) (.slice a1 (x4.length + 1) c1) x2 x3 (x4 ++ [⟨y.a, y.vs.length, y.c, none, 0, 0, n + 1 + i + 1⟩]) x5 x6 → Tch (EB bk B) wr w1 → ∃ vv' vt' vf' hv' ht' hf', Reg w1 L bk B (n + 1 + (i + 1)) (fun g' => C g' ∨ (Value.slice (some ⟨g, 0, none⟩) out.length c).ownBlock = some g' ∨ ∃ j, j < i + 1 ∧ (atF out j).blk = some g') vv' vt' vf' hv' ht' hf') := fun w1 a1 c1 hb t => by
        have hblk : ∀ g', (⟨y.a, y.vs.length, y.c, none, 0, 0, n + 1 + i + 1⟩ : Hd).blk = some g' → (atF out i).blk = some g' := fun g' e => by rw [← hy]; exact e
        have hp := hx.pushV hb t (h := ⟨y.a, y.vs.length, y.c, none, 0, 0, n + 1 + i + 1⟩) (hev.mono (Nat.zero_le _)) (fun g' e => by have h1 := HLT.out i hlt g' (hblk g' e); refine ⟨by omega, by omega, by omega⟩) (fun g' e => by
          have e' := hblk g' e
          have h1 := HLT.out i hlt g' e'
          rintro (q | q | ⟨j, hj, q⟩)
          · exact HCC.out g' h1.1 h1.2 q
          · exact HDJ.out i hlt g' e' q
          · exact HND.out j i hj hlt g' e' q) ⟨by show n + 1 + i + 1 ≤ _; omega, by show y.vs.length ≤ _; have := HSM.out i hlt; rw [← hy] at this; omega⟩ (by omega)
        exact ⟨_, _, _, _, _, _, hp.mono (fun g' e => by
          rcases e with (q | q | ⟨j, hj, q⟩) | q
          · exact .inl q
          · exact .inr (.inl q)
          · exact .inr (.inr ⟨j, by omega, q⟩)
          · exact .inr (.inr ⟨i, by omega, hblk g' q⟩))⟩
      clear hce hev hx hy HG
      go_wp2_with fail
      refine HK.out.mono ?_
      rintro e w2 ⟨rfl, a2, c2, hb2, t2⟩
      have HGN := Lib.hid (HPU.out w2 a2 c2 hb2 t2)
      have HTN := Lib.hid (HT.out.trans t2)
      clear hb2 t2 HK HPU y1
      go_wp2
      go_roundw
      case rel => exact ⟨i + 1, by omega, by go_num, HTN, HGN⟩
      case measure => simp [intOf]; omega
    · obtain rfl : i = out.length := by omega
      have HFN : Hid (∃ vv' vt' vf' hv' ht' hf', Reg wr L bk B (n + out.length + 1) (fun g => C g ∨ (lo ≤ g ∧ g < hi)) vv' vt' vf' hv' ht' hf') := by
        obtain ⟨x1, x2, x3, x4, x5, x6, hx⟩ := HG.out
        refine ⟨x1, x2, x3, x4, x5, x6, ?_⟩
        have hq := hx.mono (C' := fun g => C g ∨ (lo ≤ g ∧ g < hi)) (fun g e => by
          rcases e with q | q | ⟨j, hj, q⟩
          · exact .inl q
          · exact .inr (HLO.out g q)
          · exact .inr (HLT.out j hj g q))
        rw [show n + out.length + 1 = n + 1 + out.length by omega]
        exact hq
      go_wp2
      go_end0
      exact ⟨rfl, HT.out, HFN.out⟩
/-- where the elements' lists are told -/
theorem Bun.celT {w : World} {lo hi : Nat} {a : Option Addr} {c : Nat} {out : List XF} (h : Bun 26 1 XF.tcells w lo hi a c out) (h0 : 0 < out.length) : ∃ g, a = some ⟨g, 0, none⟩ ∧ lo ≤ g ∧ g < hi ∧ ∀ i, i < out.length → w.cell? ⟨g, i, none⟩ = some (.slice (atF out i).a (atF out i).vs.length (atF out i).c) := by
  have hr := ls_range (f := XF.tcells) (k := 1) (fun _ => rfl) XF0 (ls_own h.own)
  have hlt := h.lt1
  rcases h.own.2 with ⟨_, e0⟩ | ⟨g, cap, cur, e1, hb, hg, _⟩
  · omega
  · obtain ⟨a2, c2, e2, _, _, hk⟩ := hr
    cases e1
    cases e2
    obtain ⟨g', off, e3, hg', hc⟩ := hk h0
    cases e3
    refine ⟨g, rfl, (hlt g rfl).1, (hlt g rfl).2, fun i hi => ?_⟩
    · have q := hc i hi 0 _ rfl
      rw [Nat.zero_add, Nat.mul_one, Nat.add_zero] at q
      exact q
set_option maxHeartbeats 6400000 in
set_option maxRecDepth 100000 in
theorem bkTuples_any {w : World} {L bk B n lo hi : Nat} {C : Nat → Prop} {vv vt vf : Value} {hv ht hf : List Hd} {a : Option Addr} {c : Nat} {out : List XF} (hR : Reg w L bk B n C vv vt vf hv ht hf) (hBs : B ≤ w.heap.size) (hn : n + out.length + 1 ≤ 1000000000) (hu : Bun 26 1 XF.tcells w lo hi a c out) (hlo : L ≤ lo) (hhi : hi ≤ B) (hbk : bk < lo ∨ hi ≤ bk) (hC : ∀ g, lo ≤ g → g < hi → ¬ C g) (hs1 : out.length ≤ 1048576) (hs2 : ∀ y ∈ out, y.vs.length ≤ 1048576) :
    Calls Tryz.prog 16 #[.pointer (some ⟨bk, 0, none⟩), .slice a out.length c] w fun e w' => e = .returned (.tuple #[]) ∧ Tch (EB bk B) w w' ∧ ∃ vv' vt' vf' hv' ht' hf', Reg w' L bk B (n + out.length + 1) (fun g => C g ∨ (lo ≤ g ∧ g < hi)) vv' vt' vf' hv' ht' hf' := by
  have hst : ∀ u, Tch (EB bk B) w u → ∀ g, lo ≤ g → g < hi → u.heap[g]? = w.heap[g]? := fun u t g h1 h2 => t.block g (by omega) (fun e => by rcases e with e | e <;> omega)
  have HBU : Hid (∀ u, Tch (EB bk B) w u → Bun 26 1 XF.tcells u lo hi a c out) := fun u t => hu.keep (hst u t)
  have HK1 := Lib.hid (keepT_any hR.b hBs a out.length c (by omega) (by have := hR.lens; omega))
  have hn1 : n ≤ 1000000000 := by omega
  have HR1 : Hid (∀ w1 a1 c1, Bk w1 bk B (n + 1) vv (.slice a1 (ht.length + 1) c1) vf hv (ht ++ [⟨a, out.length, c, none, 0, 0, n + 1⟩]) hf → Tch (EB bk B) w w1 → ∃ vv' vt' vf' hv' ht' hf', Reg w1 L bk B (n + 1) (fun g => C g ∨ (Value.slice a out.length c).ownBlock = some g) vv' vt' vf' hv' ht' hf') := fun w1 a1 c1 hb t => ⟨_, _, _, _, _, _, hR.pushT hb t (h := ⟨a, out.length, c, none, 0, 0, n + 1⟩) (hu.own.mono (Nat.zero_le _)) (fun g hg => by have h1 := hu.lt1 g hg; refine ⟨by omega, by omega, by omega⟩) (fun g hg => hC g (hu.lt1 g hg).1 (hu.lt1 g hg).2) ⟨by show n + 1 ≤ _; omega, by show out.length ≤ _; omega⟩ (by omega)⟩
  have HND : Hid (∀ i j, i < j → j < out.length → ∀ g, (atF out j).blk = some g → (atF out i).blk ≠ some g) := fun i j hij hj g e1 e2 => by
    have := (List.pairwise_iff_getElem.1 hu.nd) i j (by omega) hj hij
    rw [atF_eq hj] at e1
    rw [atF_eq (by omega)] at e2
    exact this g e2 e1
  have HDJ : Hid (∀ j, j < out.length → ∀ g, (atF out j).blk = some g → (Value.slice a out.length c).ownBlock ≠ some g) := fun j hj g e1 e2 => hu.dj g e2 _ (by rw [atF_eq hj]; exact List.getElem_mem hj) e1
  have HLT : Hid (∀ j, j < out.length → ∀ g, (atF out j).blk = some g → lo ≤ g ∧ g < hi) := fun j hj g e => hu.lt2 _ (by rw [atF_eq hj]; exact List.getElem_mem hj) g e
  have HLO : Hid (∀ g, (Value.slice a out.length c).ownBlock = some g → lo ≤ g ∧ g < hi) := hu.lt1
  have HSM : Hid (∀ j, j < out.length → (atF out j).vs.length ≤ 1048576) := fun j hj => hs2 _ (by rw [atF_eq hj]; exact List.getElem_mem hj)
  have HCC := Lib.hid hC
  clear hR hu hC hs2 hst
  go_enter Tryz.func16, Tryz.ntmps16
  go_wp2_with fail
  refine HK1.out.mono ?_
  rintro e w1 ⟨rfl, a1, c1, hb1, t1⟩
  have HG1 := Lib.hid (HR1.out w1 a1 c1 hb1 t1)
  have HT1 := Lib.hid t1
  clear hb1 t1 HK1 HR1
  go_wp2
  go_loopw [4] (fun iv wr => ∃ i : Nat, i ≤ out.length ∧ iv = .int .i64 i ∧ Hid (Tch (EB bk B) w wr) ∧ Hid (∃ vv' vt' vf' hv' ht' hf', Reg wr L bk B (n + 1 + i) (fun g => C g ∨ (Value.slice a out.length c).ownBlock = some g ∨ ∃ j, j < i ∧ (atF out j).blk = some g) vv' vt' vf' hv' ht' hf')) (fun iv _ => out.length - (intOf iv).toNat)
  case atStart =>
    refine ⟨0, Nat.zero_le _, rfl, HT1, ?_⟩
    obtain ⟨x1, x2, x3, x4, x5, x6, hx⟩ := HG1.out
    exact ⟨x1, x2, x3, x4, x5, x6, hx.mono (fun g e => e.imp_right .inl)⟩
  case round =>
    obtain ⟨i, hi', rfl, HT, HG⟩ := hrel
    by_cases hlt : i < out.length
    · have hlt' : (i : Int) < (out.length : Int) := by omega
      have hi0 : (0 : Int) ≤ (i : Int) := by omega
      obtain ⟨g, rfl, hg1, hg2, hce⟩ := (HBU.out wr HT.out).celT (by omega)
      have y1 := hce i hlt
      have hev := (HBU.out wr HT.out).each (atF out i) (by rw [atF_eq hlt]; exact List.getElem_mem hlt)
      obtain ⟨y, hy⟩ : ∃ y, y = atF out i := ⟨_, rfl⟩
      rw [← hy] at y1 hev
      obtain ⟨x1, x2, x3, x4, x5, x6, hx⟩ := HG.out
      have HK := Lib.hid (keepV_any hx.b (by have := HT.out.size; omega) y.a y.vs.length y.c (by omega) (by have := hx.lens.1; omega))
      have HPU : Hid (∀ w1 a1 c1, Bk w1 bk B (n + 1 + i + 1) (.slice a1 (x4.length + 1) c1) x2 x3 (x4 ++ [⟨y.a, y.vs.length, y.c, none, 0, 0, n + 1 + i + 1⟩]) x5 x6 → Tch (EB bk B) wr w1 → ∃ vv' vt' vf' hv' ht' hf', Reg w1 L bk B (n + 1 + (i + 1)) (fun g' => C g' ∨ (Value.slice (some ⟨g, 0, none⟩) out.length c).ownBlock = some g' ∨ ∃ j, j < i + 1 ∧ (atF out j).blk = some g') vv' vt' vf' hv' ht' hf') := fun w1 a1 c1 hb t => by
        have hblk : ∀ g', (⟨y.a, y.vs.length, y.c, none, 0, 0, n + 1 + i + 1⟩ : Hd).blk = some g' → (atF out i).blk = some g' := fun g' e => by rw [← hy]; exact e
        have hp := hx.pushV hb t (h := ⟨y.a, y.vs.length, y.c, none, 0, 0, n + 1 + i + 1⟩) (hev.mono (Nat.zero_le _)) (fun g' e => by have h1 := HLT.out i hlt g' (hblk g' e); refine ⟨by omega, by omega, by omega⟩) (fun g' e => by
          have e' := hblk g' e
          have h1 := HLT.out i hlt g' e'
          rintro (q | q | ⟨j, hj, q⟩)
          · exact HCC.out g' h1.1 h1.2 q
          · exact HDJ.out i hlt g' e' q
          · exact HND.out j i hj hlt g' e' q) ⟨by show n + 1 + i + 1 ≤ _; omega, by show y.vs.length ≤ _; have := HSM.out i hlt; rw [← hy] at this; omega⟩ (by omega)
        exact ⟨_, _, _, _, _, _, hp.mono (fun g' e => by
          rcases e with (q | q | ⟨j, hj, q⟩) | q
          · exact .inl q
          · exact .inr (.inl q)
          · exact .inr (.inr ⟨j, by omega, q⟩)
          · exact .inr (.inr ⟨i, by omega, hblk g' q⟩))⟩
      clear hce hev hx hy HG
      go_wp2_with fail
      refine HK.out.mono ?_
      rintro e w2 ⟨rfl, a2, c2, hb2, t2⟩
      have HGN := Lib.hid (HPU.out w2 a2 c2 hb2 t2)
      have HTN := Lib.hid (HT.out.trans t2)
      clear hb2 t2 HK HPU y1
      go_wp2
      go_roundw
      case rel => exact ⟨i + 1, by omega, by go_num, HTN, HGN⟩
      case measure => simp [intOf]; omega
    · obtain rfl : i = out.length := by omega
      have HFN : Hid (∃ vv' vt' vf' hv' ht' hf', Reg wr L bk B (n + out.length + 1) (fun g => C g ∨ (lo ≤ g ∧ g < hi)) vv' vt' vf' hv' ht' hf') := by
        obtain ⟨x1, x2, x3, x4, x5, x6, hx⟩ := HG.out
        refine ⟨x1, x2, x3, x4, x5, x6, ?_⟩
        have hq := hx.mono (C' := fun g => C g ∨ (lo ≤ g ∧ g < hi)) (fun g e => by
          rcases e with q | q | ⟨j, hj, q⟩
          · exact .inl q
          · exact .inr (HLO.out g q)
          · exact .inr (HLT.out j hj g q))
        rw [show n + out.length + 1 = n + 1 + out.length by omega]
        exact hq
      go_wp2
      go_end0
      exact ⟨rfl, HT.out, HFN.out⟩
end Go.Proofs.YtoagnkbmeafmoaaGreatDoor
