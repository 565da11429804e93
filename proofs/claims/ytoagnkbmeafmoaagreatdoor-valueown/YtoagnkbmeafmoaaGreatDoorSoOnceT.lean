import Derived.Test.YtoagnkbmeafmoaaGreatDoorSoOnce
namespace Go.Proofs.YtoagnkbmeafmoaaGreatDoor
open Go.RowKit Go.Maps
set_option linter.unusedVariables false
set_option linter.unusedSimpArgs false
attribute [local go_sem ↓] Go.wp_at_zero Go.wp_at_succ
attribute [-go_sem] Builtin.append_

def XF.tcells (y : XF) : List Value := [y.tcell]
theorem tcells_map (l : List XF) : l.flatMap XF.tcells = l.map XF.tcell := by
  induction l with
  | nil => rfl
  | cons x l ih => rw [List.flatMap_cons, List.map_cons, ih]; rfl
theorem cellsT_one (l : List XF) : ∀ u ∈ l.flatMap XF.tcells, u.oneCell' = true := by
  intro u hu
  obtain ⟨t, _, ht⟩ := List.mem_flatMap.1 hu
  simp [XF.tcells] at ht
  subst ht
  rfl
/-- a list of tuples in memory -/
structure Lu (w : World) (v : Value) (l : List XF) : Prop where
  lies : Ls w v l.length (l.flatMap XF.tcells)
  each : ∀ y ∈ l, FIs w y ∧ y.pr = noS
theorem Lu.below {w w' : World} {v : Value} {l : List XF} (h : Lu w v l) (b : Below w.heap.size w w') : Lu w' v l := ⟨h.lies.below b, fun y hy => ⟨(h.each y hy).1.below b, (h.each y hy).2⟩⟩
theorem told_pr {l out : List XF} (h : Told (l.map XF.key) (out.map XF.key)) (hl : ∀ z ∈ l, z.pr = noS) (y : XF) (hy : y ∈ out) : y.pr = noS := by
  have := (h.same y.key).1 (List.mem_map.2 ⟨y, hy, rfl⟩)
  obtain ⟨z, hz, e⟩ := List.mem_map.1 this
  have e1 : z.pr = y.pr := congrArg Prod.fst e
  rw [← e1]
  exact hl z hz
theorem sortTuplesF {w0 w : World} {a : Option Addr} {cap : Nat} {l : List XF} (bel : Below w0.heap.size w0 w) (own : w.ownsRow w0.heap.size 26 1 (.slice a l.length cap) l.length (l.flatMap XF.tcells)) (ok : ∀ y ∈ l, FIs w0 y ∧ y.pr = noS) (hlen : l.length ≤ 1000000000) :
    Calls Tryz.prog 94 #[.slice a l.length cap, .func (.func 33) #[] #[]] w fun e w' => e = .returned (.tuple #[]) ∧ ∃ rs, InOrder l rs ∧ w'.ownsRow w0.heap.size 26 1 (.slice a l.length cap) l.length (rs.flatMap XF.tcells) ∧ Below w0.heap.size w w' := by
  rw [tcells_map] at own
  refine (sortTuples bel own ok hlen).mono ?_
  rintro e w' ⟨he, rs, h1, h2, h3⟩
  exact ⟨he, rs, h1, by rw [tcells_map]; exact h2, h3⟩
theorem tuples_some (ad : Addr) (n c : Nat) (w : World) : (binOp .eql 25 (.slice (some ad) n c) (.slice none 0 0)).run Tryz.prog w = .ok (.bool false) w := by kernel_rfl
theorem tuples_nil (w : World) : (binOp .eql 25 (.slice none 0 0) (.slice none 0 0)).run Tryz.prog w = .ok (.bool true) w := by kernel_rfl
set_option maxHeartbeats 1600000 in
set_option maxRecDepth 100000 in
theorem cloneTuples_any {w : World} {a : Option Addr} {c : Nat} {l : List XF} (hl : Ls w (.slice a l.length c) l.length (l.flatMap XF.tcells)) (hnil : a = none → l = [] ∧ c = 0) (hn : l.length ≤ 1048576) :
    Calls Tryz.prog 93 #[.slice a l.length c] w fun e w' => ∃ a' c', e = .returned (.slice a' l.length c') ∧ w'.ownsRow w.heap.size 26 1 (.slice a' l.length c') l.length (l.flatMap XF.tcells) ∧ Below w.heap.size w w' := by
  cases a with
  | none =>
    obtain ⟨rfl, rfl⟩ := hnil rfl
    have hq := tuples_nil w
    simp only [List.length_nil]
    go_enter Tryz.func93, Tryz.ntmps93
    go_wp2
    go_ret
    exact ⟨none, 0, rfl, World.ownsRow_nil _ _ _ _, Below.refl _ _⟩
  | some ad =>
    obtain ⟨i0, hi0, hz0, hz1, hz2⟩ := info_partsS infoTs
    have hq := fun w => tuples_some ad l.length c w
    have hb := belowA (w := w) (.cells #[] 26)
    have ho : (w.alloc (.cells #[] 26)).ownsRow w.heap.size 26 1 (.slice (some ⟨w.heap.size, 0, none⟩) 0 0) 0 [] := ⟨rfl, .inr ⟨_, _, _, rfl, Nat.le_refl _, heap_alloc_new w _, Nat.le_refl _, Nat.zero_le _, rfl, rfl⟩⟩
    obtain ⟨v', w1, hr, ho1, hg, hloc⟩ := run_app_ls (w := w.alloc (.cells #[] 26)) (b := w.heap.size) 25 25 26 i0 _ Tryz.underlying25 hi0 hz0 hz1 hz2 rfl (by decide) ho (hl.below hb) (flat_len XF.tcells 1 (fun _ => rfl) l) (cellsT_one l) (by unfold maxLen; omega) (by omega) (by simp)
    rw [Nat.zero_add, List.nil_append] at ho1
    obtain ⟨a', c', rfl, _⟩ := own_form ho1
    have HF : Hid (w1.ownsRow w.heap.size 26 1 (.slice a' l.length c') l.length (l.flatMap XF.tcells) ∧ Below w.heap.size w w1) := ⟨ho1, hb.grown hg hb.size (fun j hj => by have := (ho.lt j hj).1; exact this)⟩
    clear hl hb ho ho1 hg hloc hnil
    go_enter Tryz.func93, Tryz.ntmps93
    go_wp2
    go_ret
    exact ⟨a', c', rfl, HF.out⟩
set_option maxHeartbeats 6400000 in
set_option maxRecDepth 100000 in
theorem eachOnceT_any {w : World} {a : Option Addr} {c : Nat} {l : List XF} (hl : Ls w (.slice a l.length c) l.length (l.flatMap XF.tcells)) (hnil : a = none → l = [] ∧ c = 0) (hn : l.length ≤ 1048576) (ok : ∀ y ∈ l, FIs w y ∧ y.pr = noS) (hsm : ∀ y ∈ l, y.vs.length ≤ 1048576) :
    Calls Tryz.prog 32 #[.slice a l.length c, .func (.func 33) #[] #[], .func (.func 34) #[] #[]] w fun e w' => ∃ a' c' out, e = .returned (.slice a' out.length c') ∧ Below w.heap.size w w' ∧ Told (l.map XF.key) (out.map XF.key) ∧ Lu w' (.slice a' out.length c') out ∧ ∃ B, w.heap.size ≤ B ∧ EoS 26 1 XF.tcells B out a' c' w' := by
  obtain ⟨i0, hi0, hz0, hz1, hz2⟩ := info_partsS infoTs
  have HC := Lib.hid (cloneTuples_any hl hnil hn)
  have HOK := Lib.hid ok
  have HSM := Lib.hid hsm
  clear hl hnil ok hsm
  go_enter Tryz.func32, Tryz.ntmps32
  go_wp2_with fail
  refine HC.out.mono ?_
  rintro e w1 ⟨a1, c1, rfl, ho1, b1⟩
  have HS := Lib.hid (sortTuplesF b1 ho1 HOK.out (by omega))
  have HB1 := Lib.hid b1
  clear ho1 b1 HC
  go_wp2_with fail
  refine HS.out.mono ?_
  rintro e w2 ⟨rfl, rs, hio, ho2, b2⟩
  have HIO := Lib.hid hio
  have HO2 := Lib.hid ho2
  have HB2 := Lib.hid (HB1.out.trans b2)
  have hrl : rs.length = l.length := hio.perm.length_eq
  have HRS : Hid (∀ y ∈ rs, (FIs w y ∧ y.pr = noS) ∧ y.vs.length ≤ 1048576) := fun y hy => ⟨HOK.out y (hio.perm.mem_iff.1 hy), HSM.out y (hio.perm.mem_iff.1 hy)⟩
  have HRL := Lib.hid hrl
  clear hio ho2 b2 HS HB1 hrl
  have HBW0 := Lib.hid (Below.refl w2.heap.size w2)
  have HE0 := Lib.hid (eoS_nil 26 1 XF.tcells w2.heap.size w2)
  go_wp2
  go_loopw [8, 18] (fun ov iv wr => ∃ (i : Nat) (a' : Option Addr) (c' : Nat) (out : List XF), i ≤ l.length ∧ iv = .int .i64 i ∧ ov = .slice a' out.length c' ∧ out.length ≤ i ∧ Hid (EoS 26 1 XF.tcells w2.heap.size out a' c' wr) ∧ Hid (Below w2.heap.size w2 wr) ∧ Hid (Sofar rs i out)) (fun _ iv _ => l.length - (intOf iv).toNat)
  case atStart => exact ⟨0, none, 0, [], Nat.zero_le _, rfl, rfl, Nat.le_refl _, HE0, HBW0, .inl ⟨rfl, rfl⟩⟩
  case round =>
    obtain ⟨i, a', c', out, hi, rfl, rfl, hol, HE, HBW, HSF⟩ := hrel
    clear HBW0 HE0
    by_cases hlt : i < l.length
    · have hlt' : (i : Int) < (l.length : Int) := by omega
      have hi00 : (0 : Int) ≤ (i : Int) := by omega
      obtain ⟨y, hy⟩ : ∃ y, rs[i]? = some y := ⟨rs[i]'(by have := HRL.out; omega), List.getElem?_eq_getElem _⟩
      have hlies := ls_own HO2.out
      obtain ⟨_, aa, cc, hv, _, _, hfl⟩ := hlies
      cases hv
      obtain ⟨g1, off1, rfl, hg1, hflat⟩ := hfl (by omega)
      have hcell : ∀ (j : Nat) (z : XF), rs[j]? = some z → ∀ u, Below w2.heap.size w2 u → u.cell? ⟨g1, off1 + j, none⟩ = some (.slice z.a z.vs.length z.c) := fun j z hz u hu => by
        obtain ⟨hjl, hjz⟩ := List.getElem?_eq_some_iff.1 hz
        have hz' : rs.getD j XF0 = z := by rw [List.getD, hz]; rfl
        have e0 := hflat.elem (k := 1) (f := XF.tcells) (fun _ => rfl) XF0 hjl (j := 0) (by omega) (u := .slice z.a z.vs.length z.c) (by rw [hz']; rfl)
        rw [hu.cell (p := ⟨g1, off1 + j, none⟩) hg1]
        simpa using e0
      have HCL := Lib.hid hcell
      clear hflat hfl hcell
      have y0 := HCL.out i y hy wr HBW.out
      have HY := Lib.hid (And.intro hy (HRS.out y (List.mem_of_getElem? hy)))
      have HBX := HBW
      have HEX := HE
      obtain ⟨WX, rfl⟩ : ∃ WX, WX = wr := ⟨_, rfl⟩
      clear hy HE HBW
      have HCP : Hid (∀ u, Below WX.heap.size WX u → Calls Tryz.prog 34 #[.slice y.a y.vs.length y.c] u fun e w' => ∃ y', e = .returned (.slice y'.a y'.vs.length y'.c) ∧ LikeF y y' ∧ Below u.heap.size u w' ∧ FrF u.heap.size w' (fun _ => False) y') := fun u hu => by
        have hF := HY.out.2.1.1.below (HB2.out.trans ((HBX.out.trans (hu.mono HBX.out.size)).mono HB2.out.size))
        refine (copyTuple_any y.a y.c y.vs u hF.vs HY.out.2.2).mono ?_
        rintro e w' ⟨a', c', rfl, ho, hb⟩
        exact ⟨⟨y.pr, y.vs, a', c'⟩, rfl, ⟨rfl, rfl⟩, hb, frF_own hF.pb hF.ln hF.vs.wf ho⟩
      rcases Nat.eq_zero_or_pos i with h0 | hpos
      · have HOE : Hid (out = []) := by
          rcases HSF.out with ⟨_, h⟩ | ⟨_, h, _⟩
          · exact h
          · omega
        have HFI : Hid (∀ y', LikeF y y' → Sofar rs (i + 1) (out ++ [y'])) := fun y' hlk => by
          have h1 := HY.out.1
          rw [h0] at h1 ⊢
          rw [HOE.out]
          exact sofar_first h1 hlk
        have hz0' : ((i : Int) == 0) = true := by simp [h0]
        clear h0
        have HBQ := Lib.hid (Below.refl WX.heap.size WX)
        have HEQ := HEX
        have HB5 := HBX
        go_wp2_with fail
        refine (HCP.out WX HBQ.out).mono ?_
        rintro e w5 ⟨y', rfl, hlk, b5, hfr⟩
        have B5 := Lib.hid b5
        have HE5 := HEQ
        obtain ⟨v', w6, hrun, hown', hgrow, hnilx, hloc⟩ := run_append_own_at (P := Tryz.prog) (w5.alloc (.cells #[.slice y'.a y'.vs.length y'.c] 26)) w2.heap.size 25 25 26 i0 _ 1 24 Tryz.underlying25 hi0 hz0 hz1 hz2 rfl (by decide) _ _ _ (own_below (own_below HE5.out.own b5) (belowA _)) ⟨_, 0, none⟩ 1 1 [.slice y'.a y'.vs.length y'.c] rfl (lit_news w5 #[.slice y'.a y'.vs.length y'.c] _) (by simp [Value.oneCell']) (by unfold maxLen; omega) (by omega) (by have h1 := HB5.out.size; have h2 := b5.size; simp; omega)
        obtain ⟨a6, c6, rfl, hst, hbl⟩ := HE5.out.step HB5.out.size b5 y' hfr hown' hgrow hloc
        have HST := Lib.hid hst
        have HB6 := Lib.hid (hbl HB5.out)
        have HNX := Lib.hid (HFI.out y' hlk)
        have HLn : Hid ((out ++ [y']).length = out.length + 1) := by show _ = _; simp
        clear hown' hgrow hnilx hloc hst hbl hfr hlk b5
        go_wp2
        go_roundw
        case rel => exact ⟨i + 1, a6, c6, out ++ [y'], by omega, by go_num, by rw [HLn.out], by rw [HLn.out]; omega, HST, HB6, HNX⟩
        case measure => simp [intOf]; omega
      · obtain ⟨j, hij⟩ : ∃ j, i = j + 1 := ⟨i - 1, by omega⟩
        obtain ⟨p, hp⟩ : ∃ p, rs[j]? = some p := ⟨rs[j]'(by have := HRL.out; omega), List.getElem?_eq_getElem _⟩
        have HSN : Hid ((ko p.key y.key = 0 → Sofar rs (i + 1) out) ∧ (ko p.key y.key ≠ 0 → ∀ y', LikeF y y' → Sofar rs (i + 1) (out ++ [y']))) := by
          have h1 := HSF.out
          have h2 := HY.out.1
          rw [hij] at h1 h2
          show _ ∧ _
          rw [hij]
          exact sofar_next HIO.out h1 hp h2
        have HP := Lib.hid (HRS.out p (List.mem_of_getElem? hp))
        have p0 := HCL.out j p hp WX HBX.out
        obtain ⟨cv, hcv⟩ : ∃ cv, ko p.key y.key = cv := ⟨_, rfl⟩
        have HCM : Hid (∀ u, Below WX.heap.size WX u → Calls Tryz.prog 33 #[.slice p.a p.vs.length p.c, .slice y.a y.vs.length y.c] u fun e w' => e = .returned (.int .i64 cv) ∧ Below u.heap.size u w') := fun u hu => by
          have hb : Below w.heap.size w u := HB2.out.trans ((HBX.out.trans (hu.mono HBX.out.size)).mono HB2.out.size)
          have := AR.vct p.fc y.fc u (XF.lies (HP.out.1.1.below hb)) (XF.lies (HY.out.2.1.1.below hb))
          rw [ko_tc HP.out.1.2 HY.out.2.1.2, hcv] at this
          exact this
        rw [hcv] at HSN
        have hge : ((i : Int) == 0) = false := by simp; omega
        have hsub : IntKind.i64.wrap ((i : Int) - 1) = (j : Int) := by rw [IntKind.wrap_i64]; omega
        have hj0 : (0 : Int) ≤ (j : Int) := by omega
        have hjl : (j : Int) < (l.length : Int) := by omega
        have hi1 : i + 1 ≤ l.length := by omega
        clear hcv hp hij hpos
        by_cases hcv0 : cv = 0
        · have hcb : (cv != 0) = false := by simp [hcv0]
          have HNX := Lib.hid (HSN.out.1 hcv0)
          clear hcv0 HSN
          go_wp2_with fail
          refine (HCM.out WX (Below.refl _ _)).mono ?_
          rintro ee WY ⟨rfl, hbY⟩
          have HEY := Lib.hid (HEX.out.keep hbY)
          have HBY := Lib.hid (HBX.out.trans (hbY.mono HBX.out.size))
          clear hbY p0
          go_wp2
          go_roundw
          case rel => exact ⟨i + 1, a', c', out, by omega, by go_num, rfl, by omega, HEY, HBY, HNX⟩
          case measure => simp [intOf]; omega
        · have hcb : (cv != 0) = true := by simp [hcv0]
          have HSNN := Lib.hid (HSN.out.2 hcv0)
          clear hcv0 HSN
          go_wp2_with fail
          refine (HCM.out WX (Below.refl _ _)).mono ?_
          rintro ee WY ⟨rfl, hbY⟩
          have HBQ := Lib.hid hbY
          have HEQ := Lib.hid (HEX.out.keep hbY)
          have HB5 := Lib.hid (HBX.out.trans (hbY.mono HBX.out.size))
          clear hbY p0
          go_wp2_with fail
          refine (HCP.out WY HBQ.out).mono ?_
          rintro e w5 ⟨y', rfl, hlk, b5, hfr⟩
          have B5 := Lib.hid b5
          have HE5 := HEQ
          obtain ⟨v', w6, hrun, hown', hgrow, hnilx, hloc⟩ := run_append_own_at (P := Tryz.prog) (w5.alloc (.cells #[.slice y'.a y'.vs.length y'.c] 26)) w2.heap.size 25 25 26 i0 _ 1 24 Tryz.underlying25 hi0 hz0 hz1 hz2 rfl (by decide) _ _ _ (own_below (own_below HE5.out.own b5) (belowA _)) ⟨_, 0, none⟩ 1 1 [.slice y'.a y'.vs.length y'.c] rfl (lit_news w5 #[.slice y'.a y'.vs.length y'.c] _) (by simp [Value.oneCell']) (by unfold maxLen; omega) (by omega) (by have h1 := HB5.out.size; have h2 := b5.size; simp; omega)
          obtain ⟨a6, c6, rfl, hst, hbl⟩ := HE5.out.step HB5.out.size b5 y' hfr hown' hgrow hloc
          have HST := Lib.hid hst
          have HB6 := Lib.hid (hbl HB5.out)
          have HNX := Lib.hid (HSNN.out y' hlk)
          have HLn : Hid ((out ++ [y']).length = out.length + 1) := by show _ = _; simp
          clear hown' hgrow hnilx hloc hst hbl hfr hlk b5
          go_wp2
          go_roundw
          case rel => exact ⟨i + 1, a6, c6, out ++ [y'], by omega, by go_num, by rw [HLn.out], by rw [HLn.out]; omega, HST, HB6, HNX⟩
          case measure => simp [intOf]; omega
    · obtain rfl : i = l.length := by omega
      have HT : Hid (Told (l.map XF.key) (out.map XF.key)) := by
        have h := HSF.out
        rw [← HRL.out] at h
        exact sofar_told HIO.out h
      have HF : Hid (Below w.heap.size w wr) := HB2.out.trans (HBW.out.mono HB2.out.size)
      have HEF : Hid (Lu wr (.slice a' out.length c') out) := ⟨ls_own HE.out.own, fun y hy => ⟨(HE.out.fr y hy).is, told_pr HT.out (fun z hz => (HOK.out z hz).2) y hy⟩⟩
      go_wp2
      go_ret
      exact ⟨a', c', out, rfl, HF.out, HT.out, HEF.out, _, HB2.out.size, HE.out⟩
theorem vtuples_any {w : World} {a : Option Addr} {c : Nat} {l : List XF} (hl : Lu w (.slice a l.length c) l) (hnil : a = none → l = [] ∧ c = 0) (hn : l.length ≤ 1048576) (hsm : ∀ y ∈ l, y.vs.length ≤ 1048576) :
    Calls Tryz.prog 11 #[.slice a l.length c] w fun e w' => ∃ a' c' out, e = .returned (.slice a' out.length c') ∧ Below w.heap.size w w' ∧ Told (l.map XF.key) (out.map XF.key) ∧ Lu w' (.slice a' out.length c') out ∧ ∃ B, w.heap.size ≤ B ∧ EoS 26 1 XF.tcells B out a' c' w' := by
  have H := Lib.hid (eachOnceT_any hl.lies hnil hn hl.each hsm)
  clear hl hnil hsm
  go_enter Tryz.func11, Tryz.ntmps11
  go_wp2_with fail
  refine H.out.mono ?_
  rintro e w1 ⟨a', c', out, rfl, h1, h2, h3⟩
  have HF := Lib.hid (And.intro h1 (And.intro h2 h3))
  clear h1 h2 h3 H
  go_wp2
  go_ret
  exact ⟨a', c', out, rfl, HF.out⟩
theorem vfacts_any {w : World} {a : Option Addr} {c : Nat} {l : List XF} (hl : Lf w (.slice a l.length c) l) (hnil : a = none → l = [] ∧ c = 0) (hn : l.length ≤ 1048576) (hsm : ∀ y ∈ l, y.vs.length ≤ 1048576) :
    Calls Tryz.prog 10 #[.slice a l.length c] w fun e w' => ∃ a' c' out, e = .returned (.slice a' out.length c') ∧ Below w.heap.size w w' ∧ Told (l.map XF.key) (out.map XF.key) ∧ Lf w' (.slice a' out.length c') out ∧ ∃ B, w.heap.size ≤ B ∧ EoS 28 2 XF.cells B out a' c' w' := by
  have H := Lib.hid (eachOnceF_any hl.lies hnil hn (fun y hy => by obtain ⟨i, hi, rfl⟩ := List.getElem_of_mem hy; have := hl.each i hi; rw [atF_eq hi] at this; exact this) hsm)
  clear hl hnil hsm
  go_enter Tryz.func10, Tryz.ntmps10
  go_wp2_with fail
  refine H.out.mono ?_
  rintro e w1 ⟨a', c', out, rfl, h1, h2, h3⟩
  have HF := Lib.hid (And.intro h1 (And.intro h2 h3))
  clear h1 h2 h3 H
  go_wp2
  go_ret
  exact ⟨a', c', out, rfl, HF.out⟩
end Go.Proofs.YtoagnkbmeafmoaaGreatDoor
