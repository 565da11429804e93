import Derived.Test.YtoppgalbmijhdaaGreatDoorEsSz
namespace Go.Proofs.YtoppgalbmijhdaaGreatDoor
open Go.RowKit Go.Maps Go.ChangeMaps
set_option linter.unusedVariables false
set_option linter.unusedSimpArgs false
attribute [local go_sem ↓] Go.wp_at_zero Go.wp_at_succ
attribute [-go_sem] Builtin.append_

/-! Share: the numbers of a column -/
theorem run_fadd {a b z : Nat} (h : fD.add a b = some z) (u : World) : (binOp .add 57 (.float .f64 a) (.float .f64 b)).run Tryz.prog u = .ok (.float .f64 z) u := by
  have h' : FloatKind.f64.format.add a b = some z := h
  simp [binOp, Op.floatArith, h', go_sem]
theorem run_fsub {a b z : Nat} (h : fD.sub a b = some z) (u : World) : (binOp .sub 57 (.float .f64 a) (.float .f64 b)).run Tryz.prog u = .ok (.float .f64 z) u := by
  have h' : FloatKind.f64.format.sub a b = some z := h
  simp [binOp, Op.floatArith, h', go_sem]
theorem run_fmul {a b z : Nat} (h : fD.mul a b = some z) (u : World) : (binOp .mul 57 (.float .f64 a) (.float .f64 b)).run Tryz.prog u = .ok (.float .f64 z) u := by
  have h' : FloatKind.f64.format.mul a b = some z := h
  simp [binOp, Op.floatArith, h', go_sem]
theorem run_fdiv {a b z : Nat} (h : fD.div a b = some z) (u : World) : (binOp .quo 57 (.float .f64 a) (.float .f64 b)).run Tryz.prog u = .ok (.float .f64 z) u := by
  have h' : FloatKind.f64.format.div a b = some z := h
  simp [binOp, Op.floatArith, h', go_sem]
theorem run_i2f (n : Int) (u : World) : (convert 2 57 (.int .i64 n)).run Tryz.prog u = .ok (.float .f64 (fI n)) u := by
  simp [convert, run_underlying Tryz.underlying57, Conv.intToFloat, Result.andThen, go_sem]
theorem run_n2f (n : Int) (u : World) : (convert 3 57 (.int .i64 n)).run Tryz.prog u = .ok (.float .f64 (fI n)) u := by
  simp [convert, run_underlying Tryz.underlying57, Conv.intToFloat, Result.andThen, go_sem]
def fC (x : Int) : Value := .float .f64 (fI x)
theorem infoFl : (Tryz.prog.info? 57).map (fun i => (i.zero, i.size, i.bytes)) = some (some (.float .f64 0), 1, 8) := by kernel_rfl
/-- a copy of some facts, whose lists lie where they lay -/
structure Sm (B : Nat) (wr : World) (a : Option Addr) (c : Nat) (out : List XF) : Prop where
  own : wr.ownsRow B 31 2 (.slice a out.length c) out.length (out.flatMap XF.cells)
  each : ∀ y ∈ out, FIs wr y
theorem Sm.lf {B : Nat} {wr : World} {a : Option Addr} {c : Nat} {out : List XF} (h : Sm B wr a c out) : Lf wr (.slice a out.length c) out ∧ (a = none → out = [] ∧ c = 0) := by
  refine ⟨⟨ls_own h.own, fun i hi => by rw [atF_eq hi]; exact h.each _ (List.getElem_mem hi)⟩, fun ha => ?_⟩
  subst ha
  rcases h.own.2 with ⟨e, h0⟩ | ⟨g, cap, cur, e, _⟩
  · injection e with e1 e2 e3
    exact ⟨List.eq_nil_of_length_eq_zero h0, e3⟩
  · injection e with e1
    cases e1
def isNumV (v : V) : Bool := decide (v.k = 1) && decide (chk v.k v.n v.s = 0)
def numB (vs : List V) (col : Int) : Bool := decide (0 ≤ col) && (decide (col < (vs.length : Int)) && isNumV (atV vs col.toNat))
theorem numB_neg {vs : List V} {col : Int} (h : col < 0) : numB vs col = false := by
  unfold numB
  rw [decide_eq_false (by omega : ¬ 0 ≤ col)]
  rfl
theorem numB_far {vs : List V} {col : Int} (h : (vs.length : Int) ≤ col) : numB vs col = false := by
  unfold numB
  rw [decide_eq_false (by omega : ¬ col < (vs.length : Int))]
  simp
theorem numB_at {vs : List V} {k : Nat} (h : k < vs.length) : numB vs (k : Int) = isNumV (atV vs k) := by
  unfold numB
  rw [decide_eq_true (by omega : (0 : Int) ≤ (k : Int)), decide_eq_true (by omega : (k : Int) < (vs.length : Int))]
  simp
def takesK (p : ByteArray) (col : Int) (k : Key) : Bool := decide (k.1 = p) && numB k.2 col
def numAt (col : Int) (k : Key) : Int := (atV k.2 col.toNat).n
theorem eq_bytesE (x y : ByteArray) : (x.toList == y.toList) = decide (x = y) := by
  by_cases h : x = y
  · subst h; simp
  · rw [decide_eq_false h]
    simp only [beq_eq_false_iff_ne, ne_eq]
    exact fun e => h (toList_inj e)
set_option maxHeartbeats 1600000 in
theorem hasN_any (v : Value) (vs : List V) (col : Int) (w : World) (hV : Lv w v vs) :
    Calls Tryz.prog 42 #[v, .int .i64 col] w fun e w' => e = .returned (.bool (numB vs col)) ∧ Below w.heap.size w w' := by
  obtain ⟨a, c, rfl, h1, h2, hk⟩ := hV.form
  have HV := Lib.hid hV
  have HK := Lib.hid hk
  clear hV hk h2
  by_cases hneg : col < 0
  · have HB := Lib.hid (numB_neg (vs := vs) hneg)
    go_enter Tryz.func42, Tryz.ntmps42
    go_wp2
    go_ret
    exact ⟨by rw [HB.out]; rfl, Below.refl _ _⟩
  · by_cases hfar : (vs.length : Int) ≤ col
    · have HB := Lib.hid (numB_far hfar)
      go_enter Tryz.func42, Tryz.ntmps42
      go_wp2
      go_ret
      exact ⟨by rw [HB.out]; rfl, Below.refl _ _⟩
    · obtain ⟨k, rfl⟩ : ∃ k : Nat, col = (k : Int) := ⟨col.toNat, by omega⟩
      have hlt : k < vs.length := by omega
      have hlt' : (k : Int) < (vs.length : Int) := by omega
      obtain ⟨g, off, rfl, hg, hat⟩ := HK.out (by omega)
      have y0 := (hat k hlt).c0
      have y1 := (hat k hlt).c1
      have y2 := (hat k hlt).c2
      have hw := HV.out.wf (atV vs k) (by rw [atV_eq hlt]; exact List.getElem_mem hlt)
      have HB := Lib.hid (numB_at hlt)
      generalize atV vs k = x at y0 y1 y2 hw HB
      have HW := Lib.hid hw
      clear hat hw
      by_cases hk1 : x.k = 1
      · have hk1' : (x.k == 1) = true := by simp [hk1]
        have HK1 := Lib.hid hk1
        clear hk1
        go_enter Tryz.func42, Tryz.ntmps42
        go_wp2_with fail
        refine (vcheck_any x.k x.n x.s _ HW.out.text).mono ?_
        rintro e w1 ⟨rfl, b1⟩
        have HB2 : Hid (isNumV x = decide (chk x.k x.n x.s = 0)) := by show _ = _; simp [isNumV, HK1.out]
        by_cases hc : chk x.k x.n x.s = 0
        · rw [hc]
          have HC := Lib.hid hc
          clear hc
          go_wp2
          go_ret
          exact ⟨by rw [HB.out, HB2.out, HC.out]; rfl, b1⟩
        · have hc' : (chk x.k x.n x.s == 0) = false := by simp [hc]
          have HC := Lib.hid hc
          clear hc
          go_wp2
          go_ret
          exact ⟨by rw [HB.out, HB2.out, decide_eq_false HC.out]; rfl, b1⟩
      · have hk1' : (x.k == 1) = false := by simp [hk1]
        have HB2 : Hid (isNumV x = false) := by show _ = _; simp [isNumV, hk1]
        clear hk1
        go_enter Tryz.func42, Tryz.ntmps42
        go_wp2
        go_ret
        exact ⟨by rw [HB.out, HB2.out]; rfl, Below.refl _ _⟩
set_option maxHeartbeats 6400000 in
theorem nums_any (v : Value) (l : List XF) (p : ByteArray) (col : Int) (w : World) (hL : Lf w v l) (hn : l.length ≤ 1048576) (hsm : ∀ y ∈ l, y.vs.length ≤ 1048576) :
    Calls Tryz.prog 34 #[v, .string p, .int .i64 col] w fun e w' => ∃ a c ks, e = .returned (.slice a (ks.map (numAt col)).length c) ∧ Told ((l.map XF.key).filter (takesK p col)) ks ∧ w'.ownsRow w.heap.size 57 1 (.slice a (ks.map (numAt col)).length c) (ks.map (numAt col)).length ((ks.map (numAt col)).map fC) ∧ Below w.heap.size w w' := by
  obtain ⟨i0, hi0, hz0, hz1, hz2⟩ := info_partsS infoFs
  obtain ⟨j0, hj0, hy0, hy1, hy2⟩ := info_partsS infoFl
  obtain ⟨a, c, rfl, hc1, hc2, hk⟩ := hL.form
  have HL := Lib.hid hL
  have HK := Lib.hid hk
  have HS := Lib.hid hsm
  clear hL hk hsm hc2
  go_enter Tryz.func34, Tryz.ntmps34
  go_wp2
  go_loopw [7, 15] (fun sv j wr => ∃ (k : Nat) (sa : Option Addr) (sc : Nat) (out : List XF), k ≤ l.length ∧ j = .int .i64 k ∧ sv = .slice sa out.length sc ∧ Hid (Below w.heap.size w wr) ∧ Hid (wr.ownsRow w.heap.size 31 2 (.slice sa out.length sc) out.length (out.flatMap XF.cells)) ∧ Hid (out = (l.take k).filter (fun y => takesK p col y.key))) (fun _ j _ => l.length - (intOf j).toNat)
  case atStart => exact ⟨0, none, 0, [], Nat.zero_le _, rfl, rfl, Lib.hid (Below.refl _ _), Lib.hid (World.ownsRow_nil _ _ _ _), Lib.hid rfl⟩
  case round =>
    obtain ⟨k, sa, sc, out, hk, rfl, rfl, HB, HO, HE⟩ := hrel
    by_cases hlt : k < l.length
    · have hlt' : (k : Int) < (l.length : Int) := by omega
      obtain ⟨g, off, rfl, hg, hKS⟩ := HK.out (by omega)
      have x0 : wr.cell? ⟨g, off + k * 2, none⟩ = some (.string (atF l k).pr) := by rw [HB.out.cell (p := ⟨g, _, none⟩) hg]; exact hKS k hlt 0 _ rfl
      have x1 : wr.cell? ⟨g, off + k * 2 + 1, none⟩ = some (.slice (atF l k).a (atF l k).vs.length (atF l k).c) := by rw [HB.out.cell (p := ⟨g, _, none⟩) hg]; exact hKS k hlt 1 _ rfl
      have HYF : Hid (FIs w (atF l k)) := HL.out.each k hlt
      have htk := Lib.hid (take_fact hlt)
      generalize hyv : atF l k = y at x0 x1 htk HYF
      have HRX := Lib.hid (rl_new wr #[.string y.pr, .slice y.a y.vs.length y.c] 31)
      have HBU := Lib.hid (belowA (w := wr) (.cells #[.string y.pr, .slice y.a y.vs.length y.c] 31))
      have HOL : Hid (out.length ≤ k) := by
        show _ ≤ _
        rw [HE.out]
        exact Nat.le_trans (List.length_filter_le _ _) (by rw [List.length_take]; omega)
      clear hyv hKS
      by_cases hpe : y.pr = p
      · have hpt : (y.pr.toList == p.toList) = true := by rw [eq_bytesE, decide_eq_true hpe]
        have HPE := Lib.hid hpe
        clear hpe
        go_wp2_with fail
        refine (hasN_any _ y.vs col _ (HYF.out.vs.below (HB.out.trans (HBU.out.mono HB.out.size)))).mono ?_
        rintro e w5 ⟨rfl, b5⟩
        have HR5 := Lib.hid (HRX.out.below b5)
        have HO5 := Lib.hid (own_below (own_below HO.out HBU.out) b5)
        have HB5 := Lib.hid ((HB.out.trans (HBU.out.mono HB.out.size)).trans (b5.mono (Nat.le_trans HB.out.size HBU.out.size)))
        clear b5
        cases hnb : numB y.vs col
        · have HEn : Hid (out = (l.take (k + 1)).filter (fun y => takesK p col y.key)) := by
            show _ = _
            rw [htk.out, List.filter_append, ← HE.out]
            simp [takesK, XF.key, hnb]
          clear hnb HRX HR5
          go_wp2
          go_roundw
          case rel => exact ⟨k + 1, sa, sc, out, by omega, by go_num, rfl, HB5, HO5, HEn⟩
          case measure => simp [intOf]; omega
        · have HEn : Hid (out ++ [y] = (l.take (k + 1)).filter (fun y => takesK p col y.key)) := by
            show _ = _
            rw [htk.out, List.filter_append, ← HE.out]
            simp [takesK, XF.key, hnb, HPE.out]
          clear hnb
          have e0 := HR5.out.at (j := 0) rfl
          have e1 := HR5.out.at (j := 1) rfl
          have hol := HOL.out
          obtain ⟨v', w7, hrun, hown', hgrow, hnilx, hloc⟩ := run_append_own_at (P := Tryz.prog) (w5.alloc (.cells #[.string y.pr, .slice y.a y.vs.length y.c] 31)) w.heap.size 22 22 31 i0 _ 2 40 Tryz.underlying22 hi0 hz0 hz1 hz2 rfl (by decide) _ _ _ (own_below HO5.out (belowA _)) ⟨_, 0, none⟩ 1 1 [.string y.pr, .slice y.a y.vs.length y.c] rfl (lit_news w5 #[.string y.pr, .slice y.a y.vs.length y.c] _) (by simp [Value.oneCell']) (by unfold maxLen; omega) (by omega) (by have := HB5.out.size; simp; omega)
          obtain ⟨a7, c7, rfl, _⟩ := own_form hown'
          have hBn : Below w.heap.size w w7 := (HB5.out.trans ((belowA (w := w5) _).mono HB5.out.size)).grown hgrow (by have := HB5.out.size; simp; omega) (fun j hj => (HO5.out.lt j hj).1)
          have HBn := Lib.hid hBn
          have HOn : Hid (w7.ownsRow w.heap.size 31 2 (.slice a7 (out ++ [y]).length c7) (out ++ [y]).length ((out ++ [y]).flatMap XF.cells)) := by
            show World.ownsRow _ _ _ _ _ _ _
            have e9 : (out ++ [y]).length = out.length + 1 := by simp
            rw [e9, List.flatMap_append]
            simpa [XF.cells] using hown'
          have HLn : Hid ((out ++ [y]).length = out.length + 1) := by show _ = _; simp
          clear hown' hgrow hnilx hloc hBn HRX HR5 hol
          go_wp2
          go_roundw
          case rel => exact ⟨k + 1, a7, c7, out ++ [y], by omega, by go_num, by rw [HLn.out], HBn, HOn, HEn⟩
          case measure => simp [intOf]; omega
      · have hpt : (y.pr.toList == p.toList) = false := by rw [eq_bytesE, decide_eq_false hpe]
        have HEn : Hid (out = (l.take (k + 1)).filter (fun y => takesK p col y.key)) := by
          show _ = _
          rw [htk.out, List.filter_append, ← HE.out]
          simp [takesK, XF.key, hpe]
        have HOn := Lib.hid (own_below HO.out HBU.out)
        have HBn := Lib.hid (HB.out.trans (HBU.out.mono HB.out.size))
        clear hpe HRX HBU
        go_wp2
        go_roundw
        case rel => exact ⟨k + 1, sa, sc, out, by omega, by go_num, rfl, HBn, HOn, HEn⟩
        case measure => simp [intOf]; omega
    · obtain rfl : k = l.length := by omega
      have hE := HE.out
      rw [List.take_length] at hE
      have HSm : Hid (Sm w.heap.size wr sa sc out) := ⟨HO.out, fun y hy => by
        rw [hE] at hy
        obtain ⟨i, hi, rfl⟩ := List.getElem_of_mem (List.mem_filter.1 hy).1
        have := HL.out.each i hi
        rw [atF_eq hi] at this
        exact this.below HB.out⟩
      have hol : out.length ≤ l.length := by rw [hE]; exact List.length_filter_le _ _
      have HVF := Lib.hid (vfacts_any HSm.out.lf.1 HSm.out.lf.2 (by omega) (fun y hy => HS.out y (by rw [hE] at hy; exact (List.mem_filter.1 hy).1)))
      have HKE : Hid (out.map XF.key = (l.map XF.key).filter (takesK p col)) := by
        show _ = _
        rw [hE, List.filter_map]
        rfl
      have HOL := Lib.hid hol
      clear hE hol HE HO HSm
      go_wp2_with fail
      refine HVF.out.mono ?_
      rintro e w2 ⟨fa, fc, fs, rfl, b2, htold, hLf⟩
      have hfl : fs.length ≤ out.length := by
        have h1 := nodup_sub (fs.map XF.key) (out.map XF.key) htold.nodup (fun k hk => (htold.same k).1 hk)
        simpa using h1
      have HFL : Hid (fs.length ≤ 1048576) := by show _ ≤ _; have := HOL.out; omega
      have hnum : ∀ i, i < fs.length → numB (atF fs i).vs col = true := fun i hi => by
        have h1 := (htold.same (atF fs i).key).1 (List.mem_map_of_mem (by rw [atF_eq hi]; exact List.getElem_mem hi))
        rw [HKE.out] at h1
        have h2 := (List.mem_filter.1 h1).2
        unfold takesK at h2
        exact (Bool.and_eq_true _ _ ▸ h2).2
      have HNUM := Lib.hid hnum
      have HTOLD : Hid (Told ((l.map XF.key).filter (takesK p col)) (fs.map XF.key)) := by
        have := htold
        rw [HKE.out] at this
        exact this
      obtain ⟨fa', fc', hfe, hf1, hf2, hfk⟩ := hLf.form
      injection hfe with e1 e2 e3
      subst e1 e3
      have HLF := Lib.hid hLf
      have HFK := Lib.hid hfk
      have HB2 := Lib.hid (HB.out.trans (b2.mono HB.out.size))
      have HBr := Lib.hid (Below.refl w2.heap.size w2)
      have hwz : w.heap.size ≤ w2.heap.size := Nat.le_trans HB.out.size b2.size
      have HWZ := Lib.hid hwz
      clear htold hLf hfk hnum hfl b2 HVF HKE HOL e2 hf2 HB hwz
      go_wp2
      go_loopw [10, 37] (fun sv j wz => ∃ (i : Nat) (sa : Option Addr) (sc : Nat), i ≤ fs.length ∧ j = .int .i64 i ∧ sv = .slice sa i sc ∧ Hid (Below w2.heap.size w2 wz) ∧ Hid (wz.ownsRow w2.heap.size 57 1 (.slice sa i sc) i (((fs.take i).map (fun y => numAt col y.key)).map fC))) (fun _ j _ => fs.length - (intOf j).toNat)
      case atStart => exact ⟨0, none, 0, Nat.zero_le _, rfl, rfl, HBr, Lib.hid (World.ownsRow_nil _ _ _ _)⟩
      case round =>
        obtain ⟨i, sa, sc, hi, rfl, rfl, HB, HO⟩ := hrel
        by_cases hlti : i < fs.length
        · have hlti' : (i : Int) < (fs.length : Int) := by omega
          obtain ⟨g, off, rfl, hg, hKS⟩ := HFK.out (by omega)
          have x0 : wr.cell? ⟨g, off + i * 2, none⟩ = some (.string (atF fs i).pr) := by rw [HB.out.cell (p := ⟨g, _, none⟩) hg]; exact hKS i hlti 0 _ rfl
          have x1 : wr.cell? ⟨g, off + i * 2 + 1, none⟩ = some (.slice (atF fs i).a (atF fs i).vs.length (atF fs i).c) := by rw [HB.out.cell (p := ⟨g, _, none⟩) hg]; exact hKS i hlti 1 _ rfl
          have htk : Hid ((fs.take (i + 1)).map (fun y => numAt col y.key) = (fs.take i).map (fun y => numAt col y.key) ++ [numAt col (atF fs i).key]) := by
            show _ = _
            rw [take_fact hlti, List.map_append]
            rfl
          have hyF := (HLF.out.each i hlti).below HB.out
          have hnb := HNUM.out i hlti
          generalize atF fs i = y at x0 x1 htk hyF hnb
          obtain ⟨q, hq⟩ : ∃ q : Nat, col = (q : Int) := by
            refine ⟨col.toNat, ?_⟩
            have : ¬ col < 0 := fun e => by rw [numB_neg e] at hnb; cases hnb
            omega
          have hql : q < y.vs.length := by
            have : ¬ (y.vs.length : Int) ≤ col := fun e => by rw [numB_far e] at hnb; cases hnb
            omega
          have hql' : (q : Int) < (y.vs.length : Int) := by omega
          obtain ⟨ya, yc, hye, _, _, hyk⟩ := hyF.vs.form
          injection hye with e1 e2 e3
          subst e1 e3
          obtain ⟨g2, off2, hya, hg2, hat⟩ := hyk (by omega)
          have z1 : wr.cell? ⟨g2, off2 + q * 3 + 1, none⟩ = some (.int .i64 (atV y.vs q).n) := (hat q hql).c1
          have hnm : numAt col y.key = (atV y.vs q).n := by
            unfold numAt
            rw [hq]
            simp [XF.key]
          rw [hnm] at htk
          rw [hya] at x1
          generalize (atV y.vs q).n = nm at z1 htk
          have hAl := belowA (w := wr) (.cells #[.string y.pr, .slice (some ⟨g2, off2, none⟩) y.vs.length y.c] 31)
          have z2 : (wr.alloc (.cells #[.string y.pr, .slice (some ⟨g2, off2, none⟩) y.vs.length y.c] 31)).cell? ⟨g2, off2 + q * 3 + 1, none⟩ = some (.int .i64 nm) := by rw [hAl.cell (p := ⟨g2, _, none⟩) hg2]; exact z1
          have hcv := run_i2f nm
          have hfl := HFL.out
          obtain ⟨v', w7, hrun, hown', hgrow, hnilx, hloc⟩ := run_append_own_at (P := Tryz.prog) ((wr.alloc (.cells #[.string y.pr, .slice (some ⟨g2, off2, none⟩) y.vs.length y.c] 31)).alloc (.cells #[.float .f64 (fI nm)] 57)) w2.heap.size 76 76 57 j0 _ 1 8 Tryz.underlying76 hj0 hy0 hy1 hy2 rfl (by decide) _ _ _ (own_below (own_below HO.out hAl) (belowA _)) ⟨_, 0, none⟩ 1 1 [.float .f64 (fI nm)] rfl (lit_news _ #[.float .f64 (fI nm)] _) (by simp [Value.oneCell']) (by unfold maxLen; omega) (by omega) (by have := HB.out.size; simp; omega)
          rw [World.size_alloc] at hrun
          obtain ⟨a7, c7, rfl, _⟩ := own_form hown'
          have hzz := HB.out.size
          have hBn : Below w2.heap.size w2 w7 := ((HB.out.trans (hAl.mono HB.out.size)).trans ((belowA _).mono (by simp; omega))).grown hgrow (by simp; omega) (fun j hj => (HO.out.lt j hj).1)
          have HBn := Lib.hid hBn
          have HOn : Hid (w7.ownsRow w2.heap.size 57 1 (.slice a7 (i + 1) c7) (i + 1) (((fs.take (i + 1)).map (fun y => numAt col y.key)).map fC)) := by
            show World.ownsRow _ _ _ _ _ _ _
            rw [htk.out, List.map_append]
            exact hown'
          clear hown' hgrow hnilx hloc hBn hAl hat hyk hyF hnb hnm e2 hKS hg2 z1 hya hzz
          go_wp2
          go_roundw
          case rel => exact ⟨i + 1, a7, c7, by omega, by go_num, by go_num, HBn, HOn⟩
          case measure => simp [intOf]; omega
        · obtain rfl : i = fs.length := by omega
          have hO := HO.out
          rw [List.take_length] at hO
          have HOn : Hid (wr.ownsRow w.heap.size 57 1 (.slice sa ((fs.map XF.key).map (numAt col)).length sc) ((fs.map XF.key).map (numAt col)).length (((fs.map XF.key).map (numAt col)).map fC)) := by
            show World.ownsRow _ _ _ _ _ _ _
            rw [List.length_map, List.length_map, List.map_map (f := XF.key)]
            exact own_lower hO HWZ.out
          have HBn := Lib.hid (HB2.out.trans (HB.out.mono HWZ.out))
          have HLn : Hid (((fs.map XF.key).map (numAt col)).length = fs.length) := by show _ = _; simp
          clear hO HO HB HFK
          go_wp2
          go_ret
          exact ⟨sa, sc, fs.map XF.key, by rw [HLn.out]; rfl, HTOLD.out, HOn.out, HBn.out⟩
end Go.Proofs.YtoppgalbmijhdaaGreatDoor
