import Derived.Test.YtekjoccbbamehaaIxFr
import Derived.Test.YtekjoccbbamehaaIxLk
import Derived.Test.YtekjoccbbamehaaIxLives
import Derived.Test.YtekjoccbbamehaaRelNum
namespace Go.Proofs.Ytekjoccbbamehaa
open Go.RowKit Go.Maps Go.ChangeMaps
set_option linter.unusedVariables false
set_option linter.unusedSimpArgs false
attribute [local go_sem ↓] Go.wp_at_zero Go.wp_at_succ
attribute [-go_sem] loadVar

theorem bookX_ptr (t : Nat) (w : World) : (binOp .eql 27 (.pointer (some ⟨t, 0, none⟩)) (.pointer none)).run Try.prog w = .ok (.bool false) w := by kernel_rfl
theorem neqE0 (u : World) : (binOp .neq 35 (.int .i64 0) (.int .i64 0)).run Try.prog u = .ok (.bool false) u := by kernel_rfl
theorem gtr0 (u : World) : (binOp .gtr 3 (.int .i64 0) (.int .i64 0)).run Try.prog u = .ok (.bool false) u := by kernel_rfl
theorem gtrS (j : Nat) (u : World) : (binOp .gtr 3 (.int .i64 ((j + 1 : Nat) : Int)) (.int .i64 0)).run Try.prog u = .ok (.bool true) u := by
  have h : (0 : Int) < ((j + 1 : Nat) : Int) := by omega
  simp only [binOp]
  go_simp
theorem subS (j : Nat) (hj : j ≤ 1000000000) (u : World) : (binOp .sub 3 (.int .i64 ((j + 1 : Nat) : Int)) (.int .i64 1)).run Try.prog u = .ok (.int .i64 (j : Int)) u := by
  have h : IntKind.i64.wrap (j : Int) = (j : Int) := by
    simp [IntKind.wrap, IntKind.signed, IntKind.bits]
    omega
  simp only [binOp]
  go_simp
theorem geqN {a b : Nat} (h : a < b) (u : World) : (binOp .geq 3 (.int .i64 (a : Int)) (.int .i64 (b : Int))).run Try.prog u = .ok (.bool false) u := by
  have h1 : ¬ ((b : Int) ≤ (a : Int)) := by omega
  simp only [binOp]
  go_simp
theorem own_loadN {w : World} {B : Nat} {g c : Nat} {L : List Nat} (own : w.ownsRow B 3 1 (.slice (some ⟨g, 0, none⟩) L.length c) L.length (numC L)) {j i : Nat} (h : L[j]? = some i) : (loadVar 3 ⟨g, j, none⟩).run Try.prog w = .ok (.int .i64 (i : Int)) w := by
  have hj := (List.getElem?_eq_some_iff.1 h).1
  have e := own.cellAt j (by omega)
  refine run_loadInt ?_
  rw [e]
  simp [numC, h]
set_option maxHeartbeats 12800000 in
set_option maxRecDepth 100000 in
theorem indexFinds_true (wd : Nat) (hwd : wd < 256) (v : Value) (l : List (List Int)) (M N : Nat) (hM : M < 4294967296) (hN : N < 4294967296) (w : World) (hl : Lrw w v l) (hln : l.length ≤ 1048576) :
    Calls Try.prog 3 #[.int .u8 (wd : Int), v, .int .u32 (M : Int), .int .u32 (N : Int)] w fun e w' => e = .returned (.bool true) ∧ Below w.heap.size w w' := by
  have HLV := Lib.hid (lives11_true w)
  have HL := Lib.hid hl
  obtain ⟨_, la, lc, rfl, _⟩ := hl
  go_enter Try.func3, Try.ntmps3
  go_wp2_with fail
  refine HLV.out.mono ?_
  rintro e w1 ⟨rfl, b1⟩
  have HB1 := Lib.hid b1
  clear HLV b1
  go_wp2_with fail
  have hnn : ((wd : Int) % 25) = ((wd % 25 : Nat) : Int) := by omega
  have hn24 : wd % 25 ≤ 24 := by omega
  rw [hnn]
  clear hnn
  generalize wd % 25 = n at hn24 ⊢
  refine (filled_any n hn24 _ l w1 (HL.out.below HB1.out) hln).mono ?_
  rintro e w2 ⟨t, m, bk, rfl, hF⟩
  obtain ⟨sv, B, mb, hB, hrb⟩ : ∃ sv B mb, w1.heap.size ≤ B ∧ Rb w2 w1.heap.size B t m sv (fillL n l) n 0 bk mb [] := by
    obtain ⟨⟨sv, h1, h2 | ⟨B, bk', mb, e, hB, h2⟩⟩, h3⟩ := hF
    · cases h2
    · cases e
      exact ⟨sv, B, mb, hB, h2⟩
  have HB2 := Lib.hid (HB1.out.trans (hF.bel.mono HB1.out.size))
  have HBB := Lib.hid (Nat.le_trans HB1.out.size hB)
  have HRB := Lib.hid hrb
  have hrl : (fillL n l).length ≤ 1048576 := by
    have := fillL_len n l l.length (Nat.le_refl _)
    rw [List.take_length] at this
    omega
  generalize fillL n l = rows at HRB hrl
  have hpt := fun u => bookX_ptr bk u
  have HLW := Lib.hid (low_any M hM n hn24 w2)
  clear hF hrb hB HL HB1
  go_wp2_with fail
  refine HLW.out.mono ?_
  rintro e w3 ⟨rfl, rfl⟩
  have HLW2 := Lib.hid (low_any N hN n hn24 w3)
  have h1 := low_lt M n hn24
  have hm1 : M % 2 ^ n < 2 ^ n := Nat.mod_lt _ (Nat.two_pow_pos n)
  have HP1 := Lib.hid hm1
  clear HLW hpt hm1
  generalize M % 2 ^ n = M1 at h1 HP1 ⊢
  go_wp2_with fail
  refine HLW2.out.mono ?_
  rintro e w4 ⟨rfl, rfl⟩
  have h2 := low_lt N n hn24
  have hm2 : N % 2 ^ n < 2 ^ n := Nat.mod_lt _ (Nat.two_pow_pos n)
  have HP2 := Lib.hid hm2
  clear hm2
  generalize N % 2 ^ n = N1 at h2 HP2 ⊢
  have hor := bits_or32 M1 N1 h1 h2
  have HC1 : Hid (colB (M1 : Int) n = true) := colB_low _ n HP1.out
  have HC2 : Hid (colB ((M1 ||| N1 : Nat) : Int) n = true) := colB_low _ n (Nat.or_lt_two_pow HP1.out HP2.out)
  have HMO := Lib.hid (MoreB.or h1 h2)
  have hM2 : M1 ||| N1 < 4294967296 := Nat.or_lt_two_pow (n := 32) h1 h2
  generalize M1 ||| N1 = M2 at hor HC2 HMO hM2
  clear HP1 HP2
  clear HLW2 h2 hM hN
  go_wp2
  clear hor
  go_loopw [13, 14, 15] (fun kv zv iv wr => ∃ (i : Nat) (is : List Ie), i ≤ rows.length ∧ iv = .int .i64 i ∧ kv = .int .i64 ((keysN (M1 : Int) rows i).length : Int) ∧ zv = .int .i64 ((sumN (M1 : Int) rows i : Nat) : Int) ∧ Hid (Rb wr w1.heap.size B t m sv rows n 0 bk mb is ∧ Below w.heap.size w wr)) (fun _ _ iv _ => rows.length - (intOf iv).toNat)
  case atStart => exact ⟨0, [], Nat.zero_le _, rfl, rfl, rfl, HRB.out, HB2.out⟩
  case round =>
    clear HRB HB2
    obtain ⟨i, is, hi, rfl, rfl, rfl, HI⟩ := hrel
    have HLE := Lib.hid (len_yes HI.out.1.rel)
    go_wp2_with fail
    refine HLE.out.mono ?_
    rintro e w5 ⟨rfl, rfl⟩
    clear HLE
    by_cases hlt : i < rows.length
    · have hlt' : (i : Int) < (rows.length : Int) := by omega
      obtain ⟨x, hx⟩ : ∃ x, rows[i]? = some x := ⟨rows[i], List.getElem?_eq_getElem hlt⟩
      have HXD : Hid (rows.getD i [] = x) := by
        show rows.getD i [] = x
        rw [List.getD, hx]
        rfl
      have HXO : Hid (RowOk x) := HI.out.1.rel.ok x (List.mem_of_getElem? hx)
      have h24 : x.length = 24 := HXO.out.len
      have HAT := Lib.hid (at_any HI.out.1.rel i x hx (by omega))
      clear hx
      go_wp2_with fail
      refine HAT.out.mono ?_
      rintro e w6 ⟨rfl, b6⟩
      have hst := store_fresh w6 x h24
      have hA := belowA (w := w6) (.cells (rowC x) 34)
      have HRA := Lib.hid (rowAt_new w6 x)
      have HO6 : Hid (Hold (w6.alloc (.cells (rowC x) 34)) bk mb is w6.heap.size) := ⟨by simp, fun e => by have := ((HI.out.1.keep b6).bo.flt e).2; omega⟩
      have HI6 := Lib.hid ((HI.out.1.keep b6).keep hA)
      have HB6 := Lib.hid ((HI.out.2.trans (b6.mono HI.out.2.size)).trans (hA.mono (HI.out.2.trans (b6.mono HI.out.2.size)).size))
      clear hA b6 HAT HI
      unfold rowV
      go_upto_region 15 with fail
      generalize w6.alloc (.cells (rowC x) 34) = W6 at HRA HI6 HB6 HO6 hst ⊢
      generalize w6.heap.size = xb at HRA HO6 hst ⊢
      clear hst
      have l6 := run_loadRow HRA.out h24
      have HLK := Lib.hid (HI6.out.look2 hn24 (by omega) (wf_mask M1 h1) HC1.out HXO.out)
      unfold rowV at l6 HLK
      go_wp2_with fail
      refine HLK.out.mono ?_
      rintro e w7 ⟨is7, j7, gv, rfl, hown, hno, hA7⟩
      obtain ⟨ga, gc, rfl, _⟩ := own_form hown
      have HG7 := Lib.hid (And.intro hown hno)
      have HO7 := Lib.hid (HO6.out.asked hA7).1
      have HR7 : Hid (RowAt w7 xb x) := (HO6.out.asked hA7).2.trans HRA.out
      have HI7 := Lib.hid (HI6.out.asked hA7)
      have HB7 := Lib.hid (HB6.out.trans ((HI6.out.asked_below hA7).mono HBB.out))
      clear hown hno hA7 HLK HI6 HB6 HO6 HRA l6
      have l7 := run_loadRow HR7.out h24
      have HLK := Lib.hid (HI7.out.look2 hn24 (by omega) (wf_mask M2 hM2) HC2.out HXO.out)
      unfold rowV at l7 HLK
      go_wp2_with fail
      refine HLK.out.mono ?_
      rintro e w8 ⟨is8, j8, fv, rfl, hown, hno, hA8⟩
      obtain ⟨fa, fc, rfl, _⟩ := own_form hown
      have HG8 := Lib.hid (own_asked HG7.out.1 HG7.out.2 hA8)
      have HO8 := Lib.hid (HO7.out.asked hA8).1
      have HR8 : Hid (RowAt w8 xb x) := (HO7.out.asked hA8).2.trans HR7.out
      have HI8 := Lib.hid (HI7.out.asked hA8)
      have HB8 := Lib.hid (HB7.out.trans ((HI7.out.asked_below hA8).mono HBB.out))
      clear hown hno hA8 HLK HI7 HB7 HO7 HR7 HG7 l7
      have l8 := run_loadRow HR8.out h24
      have HCT := Lib.hid (HI8.out.count hn24 (by omega) (wf_mask M1 h1) HC1.out HXO.out)
      unfold rowV at l8 HCT
      go_wp2_with fail
      refine HCT.out.mono ?_
      rintro e w9 ⟨is9, j9, rfl, hA9⟩
      have HG9 := Lib.hid (own_asked HG8.out.1 HG8.out.2 hA9).1
      have HR9 : Hid (RowAt w9 xb x) := (HO8.out.asked hA9).2.trans HR8.out
      have HI9 := Lib.hid (HI8.out.asked hA9)
      have HB9 := Lib.hid (HB8.out.trans ((HI8.out.asked_below hA9).mono HBB.out))
      have hle : ((selX (M2 : Int) rows x).length : Int) ≤ ((selX (M1 : Int) rows x).length : Int) := by
        have := HMO.out.sel (fun r hr => (HI9.out.rel.ok r hr).len) h24
        omega
      have hnlt : ¬ (selX (M1 : Int) rows x).length < (selX (M2 : Int) rows x).length := by omega
      have hsl := selX_len (M1 : Int) rows x
      have HRO : Hid (∀ r ∈ rows, RowOk r) := HI9.out.rel.ok
      clear hA9 HCT HI8 HB8 HO8 HR8 HG8 l8 hle
      generalize selX (M2 : Int) rows x = S2 at hnlt
      have HSM : Hid (∀ a, a ∈ selX (M1 : Int) rows x ↔ a < rows.length ∧ underL (M1 : Int) (rows.getD a []) = underL (M1 : Int) x) := fun a => sel_mem
      have HSR : Hid (∀ k a b, (selX (M1 : Int) rows x)[k]? = some a → (selX (M1 : Int) rows x)[k + 1]? = some b → a < b) := fun k a b => sel_rise
      have HKF : Hid (∀ f, (selX (M1 : Int) rows x)[0]? = some f → keysN (M1 : Int) rows (i + 1) = if f = i then keysN (M1 : Int) rows i ++ [underL (M1 : Int) x] else keysN (M1 : Int) rows i) := fun f hf => HXD.out ▸ keysN_first hlt (HXD.out ▸ hf)
      have HSF : Hid (∀ f, (selX (M1 : Int) rows x)[0]? = some f → sumN (M1 : Int) rows (i + 1) = if f = i then sumN (M1 : Int) rows i + (selX (M1 : Int) rows x).length else sumN (M1 : Int) rows i) := fun f hf => HXD.out ▸ sumN_first hlt (HXD.out ▸ hf)
      have HIM : Hid (i ∈ selX (M1 : Int) rows x) := sel_mem.2 ⟨hlt, by rw [HXD.out]⟩
      generalize selX (M1 : Int) rows x = S at HG9 hnlt hsl HSM HSR HKF HSF HIM ⊢
      have hS1 : 0 < S.length := List.length_pos_of_mem HIM.out
      obtain ⟨g, rfl⟩ : ∃ g, ga = some ⟨g, 0, none⟩ := by
        obtain ⟨_, h | ⟨g, cap, cur, e, _⟩⟩ := HG9.out
        · omega
        · cases e; exact ⟨g, rfl⟩
      have HB0 : Hid (Below w9.heap.size w9 w9) := Below.refl _ _
      go_wp2
      go_loopw [24, 25] (fun mv kv wi => ∃ q : Nat, q ≤ S.length ∧ kv = .int .i64 q ∧ mv = .bool (decide (i ∈ S.take q)) ∧ Hid (Below w9.heap.size w9 wi)) (fun _ kv _ => S.length - (intOf kv).toNat)
      case atStart => exact ⟨0, Nat.zero_le _, rfl, by simp, HB0.out⟩
      case round =>
        clear HB0
        obtain ⟨q, hq, rfl, rfl, HBI⟩ := hrel
        by_cases hqt : q < S.length
        · have hqt' : (q : Int) < (S.length : Int) := by omega
          have hq0 : (0 : Int) ≤ (q : Int) := by omega
          obtain ⟨a, ha⟩ : ∃ a, S[q]? = some a := ⟨S[q], List.getElem?_eq_getElem hqt⟩
          obtain ⟨hal, hau⟩ := (HSM.out a).1 (List.mem_of_getElem? ha)
          obtain ⟨y, hy⟩ : ∃ y, rows[a]? = some y := ⟨rows[a], List.getElem?_eq_getElem hal⟩
          rw [show rows.getD a [] = y by rw [List.getD, hy]; rfl] at hau
          have HYO : Hid (RowOk y) := HRO.out y (List.mem_of_getElem? hy)
          have y24 : y.length = 24 := HYO.out.len
          have HBT := Lib.hid (same_bits h1 h24 y24 hau)
          have HLA : Hid (∀ u, Below w9.heap.size w9 u → (loadVar 3 ⟨g, q, none⟩).run Try.prog u = .ok (.int .i64 (a : Int)) u) := fun u hu => own_loadN (own_below HG9.out hu) ha
          have lq := HLA.out _ HBI.out
          have HAT := Lib.hid (at_any (HI9.out.keep HBI.out).rel a y hy (by omega))
          have HTK : Hid (decide (i ∈ S.take (q + 1)) = (decide (i ∈ S.take q) || ((a : Int) == (i : Int)))) := by
            show _ = _
            rw [List.take_add_one, ha]
            by_cases e : a = i
            · subst e
              simp
            · have e1 : ¬ i = a := fun h => e h.symm
              have e2 : ((a : Int) == (i : Int)) = false := by rw [beq_eq_false_iff_ne]; omega
              simp [e1, e2]
          have HAX : Hid (a < rows.length) := hal
          clear hy hau hal
          generalize decide (i ∈ S.take q) = d at HTK ⊢
          go_wp2_with fail
          refine HAT.out.mono ?_
          rintro e w10 ⟨rfl, b10⟩
          have hst := store_fresh w10 y y24
          have hA := belowA (w := w10) (.cells (rowC y) 34)
          have HRY := Lib.hid (rowAt_new w10 y)
          have HB10 := Lib.hid ((HBI.out.trans (b10.mono HBI.out.size)).trans (hA.mono (HBI.out.trans (b10.mono HBI.out.size)).size))
          clear hA b10 HAT HBI lq
          unfold rowV
          go_upto_region 25 with fail
          generalize w10.alloc (.cells (rowC y) 34) = W10 at HRY HB10 hst ⊢
          generalize w10.heap.size = yb at HRY hst ⊢
          clear hst
          have hD0 : Below W10.heap.size W10 W10.drew := (Below.refl _ _).drew
          have HLX : Hid (∀ u, Below W10.heap.size W10 u → (loadVar 34 ⟨xb, 0, none⟩).run Try.prog u = .ok (rowV x) u) := fun u hu => run_loadRow ((HR9.out.below HB10.out).below hu) h24
          have HLY : Hid (∀ u, Below W10.heap.size W10 u → (loadVar 34 ⟨yb, 0, none⟩).run Try.prog u = .ok (rowV y) u) := fun u hu => run_loadRow (HRY.out.below hu) y24
          have HLK : Hid (Calls Try.prog 12 #[.int .u32 (M1 : Int), rowV x, rowV y] W10.drew fun e u1 => e = .returned (.bool true) ∧ Below W10.heap.size W10 u1) := (like_true M1 h1 x y h24 y24 HBT.out W10.drew).mono (fun e u h => ⟨h.1, hD0.trans (h.2.mono hD0.size)⟩)
          have HLA1' : Hid (∀ u, Below W10.heap.size W10 u → (loadVar 3 ⟨g, q, none⟩).run Try.prog u = .ok (.int .i64 (a : Int)) u) := fun u hu => HLA.out u (HB10.out.trans (hu.mono HB10.out.size))
          clear HBT HRY
          obtain rfl | ⟨j, rfl⟩ : q = 0 ∨ ∃ j, q = j + 1 := by
            cases q with
            | zero => exact .inl rfl
            | succ j => exact .inr ⟨j, rfl⟩
          · clear HLA1'
            refine wp_region_noPanic ?_
            refine wp_region_held (S := fun u => Below W10.heap.size W10 u) (by kernel_rfl) ?_
            refine rffinds0 (w5 := W10) (S := fun u => Below W10.heap.size W10 u) (xb := xb) (yb := yb) (m := (M1 : Int)) (xv := rowV x) (yv := rowV y) rfl rfl rfl rfl rfl rfl rfl rfl rfl rfl rfl rfl rfl rfl rfl rfl rfl rfl rfl rfl rfl rfl rfl rfl rfl (by kernel_rfl) (by kernel_rfl) (by kernel_rfl) (by kernel_rfl) (fun _ _ _ _ _ h => h) (by simp) rfl rfl rfl rfl rfl hD0 (fun _ _ _ h => h) HLX.out HLY.out neqE0 gtr0 HLK.out ?_
            intro wc hwc
            refine NoPanic.normal ?_
            rename_i hJ hQ hK
            first | refine hJ _ _ ?_ | refine hK _ _ ?_
            simp (config := { maxSteps := 8000000 }) only [Act.put, List.getElem_toArray, List.getElem_cons_zero, List.getElem_cons_succ, List.setIfInBounds_toArray, List.set_cons_succ, List.set_cons_zero]
            have HBC := Lib.hid (HB10.out.trans (hwc.mono HB10.out.size))
            have lq2 := HLA.out _ HBC.out
            clear hwc HLK HLX HLY HLA HB10 hD0 HAX
            clear ha
            cases d
            · go_wp2
              go_roundw
              case rel => exact ⟨0 + 1, by omega, by go_num, by rw [HTK.out]; rfl, HBC⟩
              case measure => simp [intOf]; omega
            · go_wp2
              go_roundw
              case rel => exact ⟨0 + 1, by omega, by go_num, by rw [HTK.out]; rfl, HBC⟩
              case measure => simp [intOf]; omega
          · obtain ⟨a0, ha0⟩ : ∃ a0, S[j]? = some a0 := ⟨S[j], List.getElem?_eq_getElem (by omega)⟩
            have HLA1 := HLA1'
            have HLA0 : Hid (∀ u, Below W10.heap.size W10 u → (loadVar 3 ⟨g, j, none⟩).run Try.prog u = .ok (.int .i64 (a0 : Int)) u) := fun u hu => own_loadN (own_below HG9.out (HB10.out.trans (hu.mono HB10.out.size))) ha0
            clear HLA1'
            refine wp_region_noPanic ?_
            refine wp_region_held (S := fun u => Below W10.heap.size W10 u) (by kernel_rfl) ?_
            refine rffindsS (w5 := W10) (S := fun u => Below W10.heap.size W10 u) (xb := xb) (yb := yb) (m := (M1 : Int)) (xv := rowV x) (yv := rowV y) (g := g) (nn := S.length) (cc := gc) (j := j) (a := (a0 : Int)) (b := (a : Int)) rfl rfl rfl rfl rfl rfl rfl rfl rfl rfl rfl rfl rfl rfl rfl rfl rfl rfl rfl rfl rfl rfl rfl rfl rfl (by kernel_rfl) (by kernel_rfl) (by kernel_rfl) (by kernel_rfl) (fun _ _ _ _ _ h => h) (by simp) rfl rfl rfl rfl rfl rfl hD0 (fun _ _ _ h => h) HLX.out HLY.out neqE0 (fun u => gtrS j u) hqt HLA0.out HLA1.out (fun u => subS j (by omega) u) (fun u => geqN (HSR.out j a0 a ha0 ha) u) HLK.out ?_
            intro wc hwc
            refine NoPanic.normal ?_
            rename_i hJ hQ hK
            first | refine hJ _ _ ?_ | refine hK _ _ ?_
            simp (config := { maxSteps := 8000000 }) only [Act.put, List.getElem_toArray, List.getElem_cons_zero, List.getElem_cons_succ, List.setIfInBounds_toArray, List.set_cons_succ, List.set_cons_zero]
            have HBC := Lib.hid (HB10.out.trans (hwc.mono HB10.out.size))
            have lq2 := HLA.out _ HBC.out
            clear hwc HLK HLX HLY HLA HB10 hD0 HAX HLA0 HLA1
            clear ha ha0
            cases d
            · go_wp2
              go_roundw
              case rel => exact ⟨j + 1 + 1, by omega, by go_num, by rw [HTK.out]; rfl, HBC⟩
              case measure => simp [intOf]; omega
            · go_wp2
              go_roundw
              case rel => exact ⟨j + 1 + 1, by omega, by go_num, by rw [HTK.out]; rfl, HBC⟩
              case measure => simp [intOf]; omega
        · obtain rfl : q = S.length := by omega
          have HFW := Lib.hid (And.intro (HI9.out.keep HBI.out) (HB9.out.trans (HBI.out.mono HB9.out.size)))
          rw [List.take_length, decide_eq_true HIM.out]
          obtain ⟨f, hf⟩ : ∃ f, S[0]? = some f := ⟨S[0], List.getElem?_eq_getElem hS1⟩
          have lf := own_loadN (own_below HG9.out HBI.out) hf
          have hKF := congrArg List.length (HKF.out f hf)
          have hSF := HSF.out f hf
          have hkl : (keysN (M1 : Int) rows i).length ≤ 1048576 := Nat.le_trans (keysN_le _ _ _) (by omega)
          have hsn : sumN (M1 : Int) rows i ≤ 1099511627776 := sumN_le _ _ (by omega) hrl
          rw [show (if f = i then keysN (M1 : Int) rows i ++ [underL (M1 : Int) x] else keysN (M1 : Int) rows i).length = if f = i then (keysN (M1 : Int) rows i).length + 1 else (keysN (M1 : Int) rows i).length by split <;> simp] at hKF
          clear HG9 HI9 HB9 HBI HKF HSF HIM HSM HSR HRO HR9 hnlt hqt hq
          by_cases he : f = i
          · have hd : ((f : Int) == (i : Int)) = true := by rw [beq_iff_eq]; omega
            rw [if_pos he] at hKF hSF
            have HK1 := Lib.hid hKF
            have HS1 := Lib.hid hSF
            clear hKF hSF he hf
            generalize (keysN (M1 : Int) rows i).length = kk at HK1 hkl ⊢
            generalize sumN (M1 : Int) rows i = ss at HS1 hsn ⊢
            go_wp2
            go_roundw
            case rel => exact ⟨i + 1, is9, by omega, by go_num, by rw [HK1.out]; go_num, by rw [HS1.out]; go_num, HFW.out⟩
            case measure => simp [intOf]; omega
          · have hd : ((f : Int) == (i : Int)) = false := by rw [beq_eq_false_iff_ne]; omega
            rw [if_neg he] at hKF hSF
            have HK1 := Lib.hid hKF
            have HS1 := Lib.hid hSF
            clear hKF hSF he hf
            generalize (keysN (M1 : Int) rows i).length = kk at HK1 hkl ⊢
            generalize sumN (M1 : Int) rows i = ss at HS1 hsn ⊢
            go_wp2
            go_roundw
            case rel => exact ⟨i + 1, is9, by omega, by go_num, by rw [HK1.out], by rw [HS1.out], HFW.out⟩
            case measure => simp [intOf]; omega
    · obtain rfl : i = rows.length := by omega
      have hlt' : ¬ ((rows.length : Int) < (rows.length : Int)) := by omega
      have HD1 := Lib.hid (HI.out.1.distinct hn24 (by omega) (wf_mask M1 h1) HC1.out)
      rw [← keysN_len] at HD1
      have hss := sumN_all (M1 : Int) rows
      rw [hss]
      have hge : (keysN (M1 : Int) rows rows.length).length ≤ (keysN (M2 : Int) rows rows.length).length := HMO.out.keys (fun r hr => (HI.out.1.rel.ok r hr).len) _ (Nat.le_refl _)
      clear hss
      go_wp2_with fail
      refine HD1.out.mono ?_
      rintro e w6 ⟨is6, j6, rfl, hA6⟩
      have HI6 := Lib.hid (HI.out.1.asked hA6)
      have HB6 := Lib.hid (HI.out.2.trans ((HI.out.1.asked_below hA6).mono HBB.out))
      have HD2 := Lib.hid (HI6.out.distinct hn24 (by omega) (wf_mask M2 hM2) HC2.out)
      rw [← keysN_len] at HD2
      clear HD1 HI hA6
      go_wp2_with fail
      refine HD2.out.mono ?_
      rintro e w7 ⟨is7, j7, rfl, hA7⟩
      have HI7 := Lib.hid (HI6.out.asked hA7)
      have HB7 := Lib.hid (HB6.out.trans ((HI6.out.asked_below hA7).mono HBB.out))
      have HLE := Lib.hid (len_yes HI7.out.rel)
      clear HD2 HI6 HB6 hA7
      generalize (keysN (M1 : Int) rows rows.length).length = k1 at hge ⊢
      generalize (keysN (M2 : Int) rows rows.length).length = k2 at hge ⊢
      go_wp2_with fail
      refine HLE.out.mono ?_
      rintro e w8 ⟨rfl, rfl⟩
      clear HLE
      go_wp2
      go_ret
      exact ⟨rfl, HB7.out⟩
end Go.Proofs.Ytekjoccbbamehaa
