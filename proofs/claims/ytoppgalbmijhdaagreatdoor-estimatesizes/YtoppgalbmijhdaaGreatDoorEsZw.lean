import Derived.Test.YtoppgalbmijhdaaGreatDoorEsRzs
import Derived.Test.YtoppgalbmijhdaaGreatDoorEsSe
import Derived.Test.YtoppgalbmijhdaaGreatDoorEsLv
import Derived.Test.YtoppgalbmijhdaaGreatDoorEsTg
import Derived.Test.YtoppgalbmijhdaaGreatDoorFaBeyond
namespace Go.Proofs.YtoppgalbmijhdaaGreatDoor
open Go.RowKit Go.Maps Go.ChangeMaps
set_option linter.unusedVariables false
set_option linter.unusedSimpArgs false
attribute [local go_sem ↓] Go.wp_at_zero Go.wp_at_succ
attribute [-go_sem] loadVar storeVar

/-! EstimateSizes -/
theorem zg_zl {W : World} {B : Nat} {sa : Option Addr} {sc : Nat} {zs : List ZS} {l : List XF} {W0 : World} {v : Value} (h : Zg B W sa sc zs) (hS : Szs (l.map XF.key) (zs.map ZS.sz)) (hL : Lf W0 v l) : Zl W sa sc zs := by
  refine ⟨ls_own h.own, fun z hz => ⟨ls_own (h.ds z hz).1, ?_⟩⟩
  obtain ⟨t, ht⟩ := (hS.mem z.pr).1 (by
    rw [List.map_map]
    exact List.mem_map.2 ⟨z, hz, rfl⟩)
  obtain ⟨y, hy, e⟩ := List.mem_map.1 ht
  obtain ⟨i, hi, rfl⟩ := List.getElem_of_mem hy
  have h1 := (hL.each i hi).pb
  rw [atF_eq hi] at h1
  have h2 : (l[i]).pr = z.pr := congrArg Prod.fst e
  rw [← h2]
  exact h1
/-- a list of facts written over: the row's block g, the facts U -/
structure Ov (w0 wr : World) (n g : Nat) (U : Nat → XF) : Prop where
  lt : g < wr.heap.size
  row : wr.rowIs g 31 ((n + 1) * 2) (rowF 2 (fun i => if i = n then [.string markW, .slice none 0 0] else (U i).cells))
  each : ∀ i, i < n → ∃ x, FIs w0 x ∧ x.vs.length ≤ 1048576 ∧ LikeF x (U i) ∧ TwF wr (g + 1) (U i)
theorem Ov.below {w0 wr w' : World} {n g : Nat} {U : Nat → XF} (h : Ov w0 wr n g U) (b : Below wr.heap.size wr w') : Ov w0 w' n g U :=
  ⟨Nat.lt_of_lt_of_le h.lt b.size, h.row.of_block (b.block _ h.lt), fun i hi => by
    obtain ⟨x, h1, h2, h3, h4⟩ := h.each i hi
    exact ⟨x, h1, h2, h3, h4.below b⟩⟩
theorem Ov.set {w0 wr : World} {n g k : Nat} {U : Nat → XF} (h : Ov w0 wr n g U) (hk : k < n) {x y : XF} (hx : FIs w0 x) (hs : x.vs.length ≤ 1048576) (hl : LikeF x y) (ht : TwF wr (g + 1) y) : Ov w0 (wr.setCells g (k * 2) y.cells) n g (fun i => if i = k then y else U i) := by
  have hrow := rowF_set (k := k) (by decide) h.row y.cells rfl
  refine ⟨World.rowIs.lt hrow, ?_, fun i hi => ?_⟩
  · refine hrow.congr fun j _ => ?_
    show rowF _ _ _ = rowF _ _ _
    congr 1
    funext i
    by_cases e : i = k
    · subst e
      rw [if_pos rfl, if_neg (by omega), if_pos rfl]
    · rw [if_neg e, if_neg e]
  · by_cases e : i = k
    · subst e
      simp only [if_true]
      exact ⟨x, hx, hs, hl, twF_setCells (by omega) _ _ _ ht⟩
    · simp only [if_neg e]
      obtain ⟨x', h1, h2, h3, h4⟩ := h.each i hi
      exact ⟨x', h1, h2, h3, twF_setCells (by omega) _ _ _ h4⟩
theorem Ov.lf {w0 wr : World} {n g : Nat} {U : Nat → XF} (h : Ov w0 wr n g U) (hn : n ≤ 1048576) : ∃ tl : List XF, tl.length = n ∧ Lf wr (.slice (some ⟨g, 0, none⟩) tl.length (n + 1)) tl ∧ ∀ y ∈ tl, y.vs.length ≤ 1048576 := by
  have hlen : ((List.range n).map U).length = n := by simp
  refine ⟨(List.range n).map U, hlen, ⟨?_, fun i hi => ?_⟩, fun y hy => ?_⟩
  · refine ls_of_range (f := XF.cells) (k := 2) (by omega) (fun _ => rfl) XF0 (by rw [hlen]; omega) (by unfold maxLen; omega) h.lt (fun i hi => ?_)
    rw [hlen] at hi
    have := rowF_range h.row rfl (i := i) (by omega) (by rw [if_neg (by omega)]; rfl)
    rw [if_neg (by omega)] at this
    rw [show ((List.range n).map U).getD i XF0 = U i from atF_map U hi]
    exact this
  · rw [hlen] at hi
    rw [atF_map U hi]
    obtain ⟨x, h1, h2, h3, h4⟩ := h.each i hi
    exact TwF.is h4 h3 h1 h2
  · obtain ⟨i, hi, rfl⟩ := List.mem_map.1 hy
    obtain ⟨x, h1, h2, h3, h4⟩ := h.each i (List.mem_range.1 hi)
    rw [h3.vs]
    exact h2
theorem TwG.ov {w0 u : World} {lo : Nat} {l l' : List XF} {a : Option Addr} {c : Nat} (h : TwG u lo l' a c) (hl' : l'.length = l.length) (hx' : ∀ i, i < l.length → LikeF (atF l i) (atF l' i)) {v : Value} (hL : Lf w0 v l) (hs : ∀ i, i < l.length → (atF l i).vs.length ≤ 1048576) : ∃ g, a = some ⟨g, 0, none⟩ ∧ lo ≤ g ∧ c = l.length + 1 ∧ Ov w0 u l.length g (atF l') := by
  obtain ⟨hc, ⟨g, ha, h1, h2, h3⟩, h4, h5⟩ := h
  rw [hl'] at hc h3 h5
  exact ⟨g, ha, h1, hc, ⟨h2, h3, fun i hi => ⟨atF l i, hL.each i hi, hs i hi, hx' i hi, h5 g ha i hi⟩⟩⟩
/-- Sizes of facts whose keys' sizes are known -/
theorem sizes_same (l l' : List XF) (v : Value) (zs : List ZS) (w : World) (hk : l'.map XF.key = l.map XF.key) (hL : Lf w v l') (hn : l'.length ≤ 1048576) (hsm : ∀ y ∈ l', y.vs.length ≤ 1048576) (hS : Szs (l.map XF.key) (zs.map ZS.sz)) :
    Calls Tryz.prog 8 #[v] w fun e w' => ∃ sa sc zs', e = .returned (.slice sa zs'.length sc) ∧ Below w.heap.size w w' ∧ Zl w' sa sc zs' ∧ zs'.map ZS.sz = zs.map ZS.sz := by
  refine (sizes_any v l' w hL hn hsm).mono ?_
  rintro e w' ⟨sa, sc, zs', rfl, hb, hz, hs⟩
  exact ⟨sa, sc, zs', rfl, hb, zg_zl hz hs hL, hs.eq hS (fun k => by rw [hk])⟩
set_option maxHeartbeats 12800000 in
set_option maxRecDepth 100000 in
theorem estimateSizes_walk (l : List XF) (a : Option Addr) (c : Nat) (m : List XF) (b : Option Addr) (d : Nat) (w : World) (hG : PWt w) (hll : l.length ≤ 281474976710656) (hL : Lf w (.slice a l.length c) l) (hlm : m.length ≤ 281474976710656) (hM : Lf w (.slice b m.length d) m) :
    Calls Tryz.prog 3 #[.slice a l.length c, .slice b m.length d] w fun e w' => e = .returned (.bool true) ∧ Below w.heap.size w w' := by
  have HBF := Lib.hid (beyondFacts_any _ l w hll hL)
  have HBG := Lib.hid (fun u (hu : Below w.heap.size w u) => beyondFacts_any _ m u hlm (hM.below hu))
  have HL := Lib.hid hL
  have HM := Lib.hid hM
  have HP := Lib.hid hG
  clear hG hL hM hll hlm
  go_enter Tryz.func3, Tryz.ntmps3
  go_wp2_with fail
  refine HBF.out.mono ?_
  rintro e w1 ⟨b1, rfl, hb1, hsl⟩
  cases b1
  · have HSL := Lib.hid (hsl rfl)
    have HB1 := Lib.hid hb1
    have HBG1 := Lib.hid (HBG.out w1 hb1)
    clear hb1 hsl HBF HBG
    go_wp2_with fail
    refine HBG1.out.mono ?_
    rintro e w2 ⟨b2, rfl, hb2, hsl2⟩
    cases b2
    · have HSN := Lib.hid (hsl2 rfl)
      have HB2 := Lib.hid (HB1.out.trans (hb2.mono HB1.out.size))
      have HR := Lib.hid (rsizes_any _ l w2 (HL.out.below HB2.out) HSL.out.len (fun y hy => by obtain ⟨i, hi, rfl⟩ := List.getElem_of_mem hy; have := HSL.out.each i hi; rw [atF_eq hi] at this; exact this))
      clear hb2 hsl2 HBG1 HB1
      go_wp2_with fail
      refine HR.out.mono ?_
      rintro e w3 ⟨sa, sc, zs, rfl, hb3, hzg, hszs⟩
      have HB3 := Lib.hid (HB2.out.trans (hb3.mono HB2.out.size))
      have HZL := Lib.hid (zg_zl hzg hszs HL.out)
      have HSZ := Lib.hid hszs
      have HTW := Lib.hid (twinFs_any _ l w3 (tab_below HP.out HB3.out) HSL.out.len HSL.out.each (HL.out.below HB3.out))
      clear hb3 hzg hszs HR HB2
      go_wp2_with fail
      refine HTW.out.mono ?_
      rintro e w4 ⟨ta, l', rfl, hb4, hl1, hl2, htg⟩
      have HB4 := Lib.hid (HB3.out.trans (hb4.mono HB3.out.size))
      have HZL4 := Lib.hid (HZL.out.below hb4)
      have hlf := htg.lf HL.out HSL.out.len HSL.out.each hl1 hl2
      have hkk := like_keys hl1 hl2
      rw [hl1] at hlf
      have HES : Hid (∀ u, Below w4.heap.size w4 u → Calls Tryz.prog 8 #[.slice ta l.length (l.length + 1)] u fun e w' => ∃ sa sc zs', e = .returned (.slice sa zs'.length sc) ∧ Below u.heap.size u w' ∧ Zl w' sa sc zs' ∧ zs'.map ZS.sz = zs.map ZS.sz) := fun u hu => sizes_same l l' _ zs u hkk (hlf.below hu) (by rw [hl1]; exact HSL.out.len) (fun y hy => small_like HSL.out.each hl1 hl2 hy) HSZ.out
      have HLE : Hid (∀ u, Below w4.heap.size w4 u → Calls Tryz.prog 9 #[.slice ta l.length (l.length + 1), .slice a l.length c] u fun r w' => r = .returned (.bool true) ∧ Below u.heap.size u w') := fun u hu => leftFs_any l l' ta a (l.length + 1) c w3.heap.size u hl1 hl2 HSL.out (tab_below HP.out (HB4.out.trans (hu.mono HB4.out.size))) (htg.below hu) (HL.out.below (HB4.out.trans (hu.mono HB4.out.size)))
      obtain ⟨gt, rfl, hgl, hgc, hov⟩ := htg.ov hl1 hl2 HL.out HSL.out.each
      have HOV := Lib.hid hov
      have HGL : Hid (w.heap.size ≤ gt) := Nat.le_trans HB3.out.size hgl
      have HE1 := Lib.hid (HES.out w4 (Below.refl _ _))
      clear hb4 hl1 hl2 htg hlf hkk hgl hgc hov HTW HZL HB3
      go_wp2_with fail
      refine HE1.out.mono ?_
      rintro e w5 ⟨sa1, sc1, zs1, rfl, hb5, hz5, hq5⟩
      have HB5 := Lib.hid hb5
      have HS1 := Lib.hid (sameSs_same sa1 sa sc1 sc zs1 zs w5 hz5 (HZL4.out.below hb5) hq5)
      clear hb5 hz5 hq5 HE1
      go_wp2_with fail
      refine HS1.out.mono ?_
      rintro e w6 ⟨rfl, hb6⟩
      have HB6 := Lib.hid (HB5.out.trans (hb6.mono HB5.out.size))
      have HL6 := Lib.hid (HLE.out w6 HB6.out)
      clear hb6 HS1 HB5 HLE
      go_wp2_with fail
      refine HL6.out.mono ?_
      rintro e w7 ⟨rfl, hb7⟩
      have HB7 := Lib.hid (HB6.out.trans (hb7.mono HB6.out.size))
      have HE2 := Lib.hid (HES.out w7 HB7.out)
      clear hb7 HL6 HB6 HES
      go_wp2_with fail
      refine HE2.out.mono ?_
      rintro e w8 ⟨sa2, sc2, zs2, rfl, hb8, hz8, hq8⟩
      have HB8 := Lib.hid (HB7.out.trans (hb8.mono HB7.out.size))
      have HS2 := Lib.hid (sameSs_same sa2 sa sc2 sc zs2 zs w8 hz8 (HZL4.out.below HB8.out) hq8)
      clear hb8 hz8 hq8 HE2 HB7
      go_wp2_with fail
      refine HS2.out.mono ?_
      rintro e w9 ⟨rfl, hb9⟩
      have HB9 := Lib.hid (HB8.out.trans (hb9.mono HB8.out.size))
      have HO9 := Lib.hid (HOV.out.below HB9.out)
      have HW9 := Lib.hid (HB4.out.trans (HB9.out.mono HB4.out.size))
      clear hb9 HS2 HB8 HB9 HOV HB4 HZL4 HSZ HL
      obtain ⟨ma, mc, he, hm1, hm2, hmk⟩ := HM.out.form
      injection he with e1 e2 e3
      subst e1 e3
      have HMK := Lib.hid hmk
      clear hm1 hm2 hmk e2
      have hlb := HSL.out.len
      go_wp2_with fail
      go_loopw [7] (fun j wr => ∃ (k : Nat) (U : Nat → XF), k ≤ l.length ∧ j = .int .i64 k ∧ Hid (Below w.heap.size w wr) ∧ Hid (Ov w wr l.length gt U)) (fun j _ => l.length - (intOf j).toNat)
      case atStart => exact ⟨0, _, Nat.zero_le _, rfl, HW9, HO9⟩
      case round =>
        clear HW9 HO9
        obtain ⟨k, U, hk, rfl, HB, HO⟩ := hrel
        have AFTER : k = k := rfl
        by_cases hlt : k < l.length
        · have hlt' : (k : Int) < (l.length : Int) := by omega
          have hk0 : (0 : Int) ≤ (k : Int) := by omega
          by_cases hltm : k < m.length
          · have hltm' : (k : Int) < (m.length : Int) := by omega
            obtain ⟨g, off, rfl, hg, hKS⟩ := HMK.out (by omega)
            have hld := load_Fac (range_below (hKS k hltm) HB.out hg) rfl
            rw [XF.val_eq] at hld
            have HX := Lib.hid (And.intro (HM.out.each k hltm) (HSN.out.each k hltm))
            have HT := Lib.hid (twinF_any (atF m k) wr (HSN.out.each k hltm) ((HM.out.each k hltm).below HB.out))
            generalize hxv : atF m k = x at hld HX HT
            generalize x.val = QV at hld HT
            clear hKS hxv hg AFTER
            go_wp2_with fail
            refine HT.out.mono ?_
            rintro e w10 ⟨s, rfl, hb10, hlk, htw⟩
            have HO10 := Lib.hid (HO.out.below hb10)
            have hgt : gt < wr.heap.size := HO.out.lt
            have hst := store_Fac (rowF_there HO10.out.row rfl (i := k) (by omega)) (cs := s.cells) rfl (oneCells_fact _)
            have HOn := Lib.hid (HO10.out.set hlt HX.out.1 HX.out.2 hlk (htw.lower hgt))
            have HBn := Lib.hid (below_setCells (b := gt) HGL.out s.cells (k * 2) _ (HB.out.trans (hb10.mono HB.out.size)))
            rw [XF.val_eq] at hst
            generalize w10.setCells gt (k * 2) s.cells = W2 at hst HOn HBn
            obtain ⟨RV, hrv⟩ : ∃ RV, s.val = RV := ⟨_, rfl⟩
            rw [hrv] at hst ⊢
            have hk1 : (k : Int) < (l.length : Int) + 1 := by omega
            clear hb10 hlk htw hgt HO10 hrv hld HT HB HO
            go_wp2
            go_roundw
            case rel => exact ⟨k + 1, _, by omega, by go_num, HBn, HOn⟩
            case measure => simp [intOf]; omega
          · have hltm' : ¬ (k : Int) < (m.length : Int) := by omega
            clear AFTER
            obtain ⟨tl, htn, htf, hts⟩ := HO.out.lf hlb
            rw [htn] at htf
            have HTF := Lib.hid htf
            have HTS := Lib.hid hts
            have HTN := Lib.hid htn
            have hsmt : ∀ i, i < tl.length → (atF tl i).vs.length ≤ 1048576 := fun i hi => by rw [atF_eq hi]; exact hts _ (List.getElem_mem hi)
            have HST := Lib.hid hsmt
            have HT := Lib.hid (twinFs_any _ tl wr (tab_below HP.out HB.out) (by rw [htn]; exact hlb) hsmt htf)
            clear htf hts htn hsmt hlt hltm
            go_wp2_with fail
            refine HT.out.mono ?_
            rintro e wA ⟨ua, l2, rfl, hbA, hl1, hl2, htg⟩
            have HBA := Lib.hid hbA
            have hlf := htg.lf HTF.out (by rw [HTN.out]; exact hlb) HST.out hl1 hl2
            have HKK := Lib.hid (like_keys hl1 hl2)
            have hrz := rsizes_any _ l2 wA hlf (by rw [hl1, HTN.out]; exact hlb) (fun y hy => small_like HST.out hl1 hl2 hy)
            rw [hl1] at hrz
            have HRZ := Lib.hid hrz
            have HLF2 := Lib.hid hlf
            clear hbA hl1 hl2 htg hlf hrz HT
            go_wp2_with fail
            refine HRZ.out.mono ?_
            rintro e wB ⟨sa3, sc3, zs3, rfl, hbB, hzB, hsB⟩
            have HBB := Lib.hid (HBA.out.trans (hbB.mono HBA.out.size))
            have HZ3 := Lib.hid (zg_zl hzB hsB HLF2.out)
            have HES := Lib.hid (sizes_same l2 tl _ zs3 wB HKK.out.symm (HTF.out.below HBB.out) (by rw [HTN.out]; exact hlb) HTS.out hsB)
            clear hbB hzB hsB HRZ HLF2 HKK HBA
            go_wp2_with fail
            refine HES.out.mono ?_
            rintro e wC ⟨sa4, sc4, zs4, rfl, hbC, hzC, hqC⟩
            have HBC := Lib.hid (HBB.out.trans (hbC.mono HBB.out.size))
            have HSS := Lib.hid (sameSs_same sa4 sa3 sc4 sc3 zs4 zs3 wC hzC (HZ3.out.below hbC) hqC)
            clear hbC hzC hqC HES HZ3
            go_wp2_with fail
            refine HSS.out.mono ?_
            rintro e wD ⟨rfl, hbD⟩
            have HBD := Lib.hid (HBC.out.trans (hbD.mono HBC.out.size))
            clear hbD HSS HBC HBB
            go_wp2_with fail
            refine (lives25_any _).mono ?_
            rintro e wE ⟨rfl, hbE⟩
            go_wp2
            go_ret
            exact ⟨rfl, HB.out.trans ((HBD.out.trans (hbE.mono HBD.out.size)).mono HB.out.size)⟩
        · have hlt' : ¬ (k : Int) < (l.length : Int) := by omega
          clear AFTER
          obtain ⟨tl, htn, htf, hts⟩ := HO.out.lf hlb
          rw [htn] at htf
          have HTF := Lib.hid htf
          have HTS := Lib.hid hts
          have HTN := Lib.hid htn
          have hsmt : ∀ i, i < tl.length → (atF tl i).vs.length ≤ 1048576 := fun i hi => by rw [atF_eq hi]; exact hts _ (List.getElem_mem hi)
          have HST := Lib.hid hsmt
          have HT := Lib.hid (twinFs_any _ tl wr (tab_below HP.out HB.out) (by rw [htn]; exact hlb) hsmt htf)
          clear htf hts htn hsmt hlt
          go_wp2_with fail
          refine HT.out.mono ?_
          rintro e wA ⟨ua, l2, rfl, hbA, hl1, hl2, htg⟩
          have HBA := Lib.hid hbA
          have hlf := htg.lf HTF.out (by rw [HTN.out]; exact hlb) HST.out hl1 hl2
          have HKK := Lib.hid (like_keys hl1 hl2)
          have hrz := rsizes_any _ l2 wA hlf (by rw [hl1, HTN.out]; exact hlb) (fun y hy => small_like HST.out hl1 hl2 hy)
          rw [hl1] at hrz
          have HRZ := Lib.hid hrz
          have HLF2 := Lib.hid hlf
          clear hbA hl1 hl2 htg hlf hrz HT
          go_wp2_with fail
          refine HRZ.out.mono ?_
          rintro e wB ⟨sa3, sc3, zs3, rfl, hbB, hzB, hsB⟩
          have HBB := Lib.hid (HBA.out.trans (hbB.mono HBA.out.size))
          have HZ3 := Lib.hid (zg_zl hzB hsB HLF2.out)
          have HES := Lib.hid (sizes_same l2 tl _ zs3 wB HKK.out.symm (HTF.out.below HBB.out) (by rw [HTN.out]; exact hlb) HTS.out hsB)
          clear hbB hzB hsB HRZ HLF2 HKK HBA
          go_wp2_with fail
          refine HES.out.mono ?_
          rintro e wC ⟨sa4, sc4, zs4, rfl, hbC, hzC, hqC⟩
          have HBC := Lib.hid (HBB.out.trans (hbC.mono HBB.out.size))
          have HSS := Lib.hid (sameSs_same sa4 sa3 sc4 sc3 zs4 zs3 wC hzC (HZ3.out.below hbC) hqC)
          clear hbC hzC hqC HES HZ3
          go_wp2_with fail
          refine HSS.out.mono ?_
          rintro e wD ⟨rfl, hbD⟩
          have HBD := Lib.hid (HBC.out.trans (hbD.mono HBC.out.size))
          clear hbD HSS HBC HBB
          go_wp2_with fail
          refine (lives25_any _).mono ?_
          rintro e wE ⟨rfl, hbE⟩
          go_wp2
          go_ret
          exact ⟨rfl, HB.out.trans ((HBD.out.trans (hbE.mono HBD.out.size)).mono HB.out.size)⟩
    · clear hsl2 HBG1
      have HB2 := Lib.hid (HB1.out.trans (hb2.mono HB1.out.size))
      clear hb2 HB1
      go_wp2
      go_ret
      exact ⟨rfl, HB2.out⟩
  · clear hsl
    go_wp2
    go_ret
    exact ⟨rfl, hb1⟩
end Go.Proofs.YtoppgalbmijhdaaGreatDoor
