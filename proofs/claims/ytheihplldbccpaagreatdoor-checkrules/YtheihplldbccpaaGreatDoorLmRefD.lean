import Derived.Test.YtheihplldbccpaaGreatDoorG11
import Derived.Test.YtheihplldbccpaaGreatDoorRuTwinA
namespace Go.Proofs.YtheihplldbccpaaGreatDoor
open Go.RowKit Go.Maps
set_option linter.unusedVariables false
set_option linter.unusedSimpArgs false
attribute [local go_sem ↓] Go.wp_at_zero Go.wp_at_succ

theorem load_kind {u : World} {a : Addr} {k : Int} (h : u.cell? a = some (.int .i8 k)) : (loadVar 40 a).run Tryz.prog u = .ok (.int .i8 k) u := by go_simp
theorem load_relL {u : World} {a : Addr} {k : Int} (h : u.cell? a = some (.int .i8 k)) : (loadVar 44 a).run Tryz.prog u = .ok (.int .i8 k) u := by go_simp
theorem load_ExpL {u : World} {g o : Nat} {cs : List Value} (h : u.rangeAt g o cs) (hl : cs.length = 6) : (loadVar 53 ⟨g, o, none⟩).run Tryz.prog u = .ok (.agg cs.toArray) u :=
  run_loadVar_mid u g o _ cs _ h Tryz.underlying53 rfl (by rw [hl]; kernel_rfl)
attribute [-go_sem] loadVar storeVar

def slLnD : Value → Nat | .slice _ n _ => n | _ => 0
theorem eqL_take {d : Nat} {l : List XL} {k : Nat} (h : k < l.length) : eqL d (l.take (k + 1)) = eqL d (l.take k) ++ eqX d (atL l k) := by
  unfold eqL
  rw [takeXL h, List.flatMap_append]
  simp
theorem rnd_take {d : Nat} {l : List XL} {k : Nat} (h : k < l.length) (fs : List ByteArray) : rndQ (eqL d (l.take (k + 1))) fs = rndQ (eqX d (atL l k)) (rndQ (eqL d (l.take k)) fs) := by
  rw [eqL_take h]
  unfold rndQ
  rw [List.foldl_append]
/-- the fields of a literal in a box -/
theorem lit_fields {u : World} {b : Nat} {y : XL} (h : RL u b 55 y.cells) :
    (loadVar 40 ⟨b, 0, none⟩).run Tryz.prog u = .ok (.int .i8 y.x.k) u ∧ (loadVar 44 ⟨b, 3, none⟩).run Tryz.prog u = .ok (.int .i8 y.x.rel) u ∧
    (loadVar 53 ⟨b, 4, none⟩).run Tryz.prog u = .ok (y.x.l.val y.p.la y.p.lc) u ∧ (loadVar 53 ⟨b, 10, none⟩).run Tryz.prog u = .ok (y.x.r.val y.p.ra y.p.rc) u := by
  refine ⟨load_kind (RL.at h (j := 0) rfl), load_relL (RL.at h (j := 3) rfl), ?_, ?_⟩
  · refine load_ExpL (cs := [.int .i8 y.x.l.op, .string y.x.l.t.v, .int .i8 y.x.l.t.a.k, .int .i64 y.x.l.t.a.n, .string y.x.l.t.a.s, .slice y.p.la y.x.l.kids.length y.p.lc]) (fun j v hj => ?_) rfl
    match j, hj with
    | 0, hj => simp at hj; subst hj; exact RL.at h (j := 4) rfl
    | 1, hj => simp at hj; subst hj; exact RL.at h (j := 5) rfl
    | 2, hj => simp at hj; subst hj; exact RL.at h (j := 6) rfl
    | 3, hj => simp at hj; subst hj; exact RL.at h (j := 7) rfl
    | 4, hj => simp at hj; subst hj; exact RL.at h (j := 8) rfl
    | 5, hj => simp at hj; subst hj; exact RL.at h (j := 9) rfl
  · refine load_ExpL (cs := [.int .i8 y.x.r.op, .string y.x.r.t.v, .int .i8 y.x.r.t.a.k, .int .i64 y.x.r.t.a.n, .string y.x.r.t.a.s, .slice y.p.ra y.x.r.kids.length y.p.rc]) (fun j v hj => ?_) rfl
    match j, hj with
    | 0, hj => simp at hj; subst hj; exact RL.at h (j := 10) rfl
    | 1, hj => simp at hj; subst hj; exact RL.at h (j := 11) rfl
    | 2, hj => simp at hj; subst hj; exact RL.at h (j := 12) rfl
    | 3, hj => simp at hj; subst hj; exact RL.at h (j := 13) rfl
    | 4, hj => simp at hj; subst hj; exact RL.at h (j := 14) rfl
    | 5, hj => simp at hj; subst hj; exact RL.at h (j := 15) rfl
theorem rnd_other {d : Nat} {y : XL} (h : ¬ (y.x.k = 3 ∧ y.x.rel = 1)) (fs : List ByteArray) : rndQ (eqX d y) fs = fs := by unfold eqX; rw [if_neg h]; rfl
theorem rnd_eq {d : Nat} {y : XL} (h : y.x.k = 3 ∧ y.x.rel = 1) (fs : List ByteArray) : rndQ (eqX d y) fs = stepQ fs (sdE d y.x.l, sdE d y.x.r) := by unfold eqX; rw [if_pos h]; rfl
set_option maxHeartbeats 6400000 in
set_option maxRecDepth 100000 in
theorem rlimited_any (d : Nat) (v : Value) (l : List XL) (w : World) (hL : Lb w v (d + 1) l) (hts : ∀ i, i < l.length → (atL l i).x.ts.length ≤ 1048576) (hn : (avL l).length ≤ 1048576) (hll : l.length ≤ 1048576) (hsz : ∀ i, i < l.length → szD (d + 1) (atL l i).x.l ≤ 1048576 ∧ szD (d + 1) (atL l i).x.r ≤ 1048576) (hln : (loneL (eqL (d + 1) l)).length ≤ 4194304) :
    Calls Tryz.prog 21 #[v] w fun e w' => ∃ sv fs, e = .returned sv ∧ w'.ownsRow w.heap.size 9 1 sv fs.length (fs.flatMap strB) ∧ Below w.heap.size w w' ∧ (∃ k, fs = itQ (eqL (d + 1) l) k (atN l)) ∧ rndQ (eqL (d + 1) l) fs = fs := by
  obtain ⟨i0, hi0, hz0, hz1, hz2⟩ := info_parts infoStrL
  have HIS : Hid (∀ i, i < l.length → ∀ u, Below w.heap.size w u → LIs u (d + 1) (atL l i).x (atL l i).p) := fun i hi u hu => (hL.at_is hi).below hu
  have HAT0 := Lib.hid (ratoms_any (d + 1) v l w hL hts hn hll)
  obtain ⟨a, c, rfl, hc1, hc2, hat⟩ := hL.form
  have HAT := Lib.hid hat
  have HSZ := Lib.hid hsz
  have HAL : Hid ((atN l).length ≤ 1048576) := by
    show _ ≤ _
    have := foldN_len (avL l) []
    unfold atN
    simp only [List.length_nil] at this
    omega
  have HLN := Lib.hid hln
  -- what is found is never too much
  have HBD : Hid (∀ fs : List ByteArray, fs.Nodup → (∀ x ∈ fs, x ∈ atN l ++ loneL (eqL (d + 1) l)) → fs.length ≤ 5242880) := fun fs h1 h2 => by
    have := nodupN_le fs _ h1 h2
    rw [List.length_append] at this
    have := HAL.out
    have := HLN.out
    omega
  have HND0 : Hid ((atN l).Nodup) := foldN_nodup _ _ (by simp)
  clear hat hL hts hc2 hsz hn hln
  go_enter Tryz.func21, Tryz.ntmps21
  go_wp2_with fail
  refine HAT0.out.mono ?_
  rintro e w1 ⟨sv1, rfl, hown1, b1⟩
  obtain ⟨a1, c1, rfl, _⟩ := own_form hown1
  have HO1 := Lib.hid hown1
  have HB1 := Lib.hid b1
  clear hown1 b1 HAT0
  go_wp2
  go_loopw [3] (fun v wr => ∃ (a' : Option Addr) (c' : Nat) (fs : List ByteArray), v = .slice a' fs.length c' ∧ Hid (wr.ownsRow w.heap.size 9 1 (.slice a' fs.length c') fs.length (fs.flatMap strB)) ∧ Hid (Below w.heap.size w wr) ∧ Hid (∃ k, fs = itQ (eqL (d + 1) l) k (atN l)) ∧ Hid (fs.Nodup ∧ ∀ x ∈ fs, x ∈ atN l ++ loneL (eqL (d + 1) l))) (fun v _ => 5242881 - slLnD v)
  case atStart => exact ⟨a1, c1, atN l, rfl, HO1, HB1, ⟨0, rfl⟩, ⟨HND0.out, fun x hx => List.mem_append.2 (.inl hx)⟩⟩
  case round =>
    clear HO1 HB1
    obtain ⟨a0, c0, f0, rfl, HO0, HB0, HIT, HNP⟩ := hrel
    obtain ⟨W0, hW0⟩ : ∃ W0, W0 = wr := ⟨_, rfl⟩
    have hf0 : f0.length ≤ 5242880 := HBD.out f0 HNP.out.1 HNP.out.2
    go_wp2
    go_loopw [3, 5] (fun v i wr => ∃ (k : Nat) (a' : Option Addr) (c' : Nat) (fs : List ByteArray), k ≤ l.length ∧ i = .int .i64 k ∧ v = .slice a' fs.length c' ∧ Hid (fs = rndQ (eqL (d + 1) (l.take k)) f0) ∧ Hid (wr.ownsRow w.heap.size 9 1 (.slice a' fs.length c') fs.length (fs.flatMap strB)) ∧ Hid (Below w.heap.size w wr)) (fun _ i _ => l.length - (intOf i).toNat)
    case atStart => exact ⟨0, a0, c0, f0, Nat.zero_le _, rfl, rfl, rfl, HO0, HB0⟩
    case round =>
      clear HO0 HB0
      obtain ⟨k, a5, c5, fs, hk, rfl, rfl, HF, HO, HB⟩ := hrel
      obtain ⟨U, rfl⟩ : ∃ U, U = wr := ⟨_, rfl⟩
      have HFN : Hid (fs.Nodup ∧ ∀ x ∈ fs, x ∈ atN l ++ loneL (eqL (d + 1) l)) := by
        show _ ∧ _
        rw [HF.out]
        refine ⟨rndQ_nodup _ _ HNP.out.1, rndQ_in _ _ _ HNP.out.2 (fun x hx => List.mem_append.2 (.inr ?_))⟩
        unfold loneL eqL at hx ⊢
        obtain ⟨q, hq, hx⟩ := List.mem_flatMap.1 hx
        obtain ⟨y, hy, hq⟩ := List.mem_flatMap.1 hq
        exact List.mem_flatMap.2 ⟨q, List.mem_flatMap.2 ⟨y, List.mem_of_mem_take hy, hq⟩, hx⟩
      have hfl : fs.length ≤ 5242880 := HBD.out fs HFN.out.1 HFN.out.2
      by_cases hlt : k < l.length
      · have hlt' : (k : Int) < (l.length : Int) := by omega
        have hk0 : (0 : Int) ≤ (k : Int) := by omega
        obtain ⟨g, off, rfl, hg, hT⟩ := HAT.out (by omega)
        have r1 := range_below (hT k hlt) HB.out hg
        have HNX0 := Lib.hid (rnd_take (d := d + 1) hlt f0)
        rw [← HF.out] at HNX0
        have HXI := Lib.hid (HIS.out k hlt)
        have HXZ := Lib.hid (HSZ.out k hlt)
        obtain ⟨y, hy⟩ : ∃ y, atL l k = y := ⟨_, rfl⟩
        rw [hy] at r1 HNX0 HXI HXZ
        have hld := load_Lit r1 rfl
        have hst : (storeVar 55 ⟨U.heap.size, 0, none⟩ (.agg y.cells.toArray)).run Tryz.prog (U.alloc (.cells #[.int .i8 0, .string ⟨#[]⟩, .slice none 0 0, .int .i8 0, .int .i8 0, .string ⟨#[]⟩, .int .i8 0, .int .i64 0, .string ⟨#[]⟩, .slice none 0 0, .int .i8 0, .string ⟨#[]⟩, .int .i8 0, .int .i64 0, .string ⟨#[]⟩, .slice none 0 0] 55)) = .ok () (U.alloc (.cells y.cells.toArray 55)) := run_storeVar_new U 55 #[.int .i8 0, .string ⟨#[]⟩, .slice none 0 0, .int .i8 0, .int .i8 0, .string ⟨#[]⟩, .int .i8 0, .int .i64 0, .string ⟨#[]⟩, .slice none 0 0, .int .i8 0, .string ⟨#[]⟩, .int .i8 0, .int .i64 0, .string ⟨#[]⟩, .slice none 0 0] y.cells.toArray (by kernel_rfl) rfl (oneCells_lit _)
        have BA := belowA (w := U) (.cells y.cells.toArray 55)
        have HRN := Lib.hid (rl_new U y.cells.toArray 55)
        have HB2 := Lib.hid (HB.out.trans (BA.mono HB.out.size))
        have HO2 := Lib.hid (own_below HO.out BA)
        have HBS : Hid (U.heap.size < (U.alloc (.cells y.cells.toArray 55)).heap.size) := by show _ < _; simp
        clear hT r1 hy BA
        generalize U.alloc (.cells y.cells.toArray 55) = W1 at hst HRN HB2 HO2 HBS
        have HFD : Hid (∀ u, Below W1.heap.size W1 u → _) := fun u hu => lit_fields (y := y) (RL.below HRN.out hu)
        obtain ⟨hf1, hf2, hf3, hf4⟩ := HFD.out W1 (Below.refl _ _)
        generalize Value.agg y.cells.toArray = QV at hld hst
        by_cases hq : y.x.k = 3 ∧ y.x.rel = 1
        · have e1 : (y.x.k != 3) = false := by rw [hq.1]; rfl
          have e2 : (y.x.rel != 1) = false := by rw [hq.2]; rfl
          have HNX1 : Hid (rndQ (eqL (d + 1) (l.take (k + 1))) f0 = stepQ fs (sdE (d + 1) y.x.l, sdE (d + 1) y.x.r)) := by show _ = _; rw [HNX0.out, rnd_eq hq]
          have HG1 := Lib.hid (rgives_any d y.x.l y.x.r y.p.la y.p.ra y.p.lc y.p.rc _ fs W1 (HXI.out W1 HB2.out).l (HXI.out W1 HB2.out).r HXZ.out.2 (ls_own HO2.out))
          have HG2 : Hid (∀ u, Below W1.heap.size W1 u → Calls Tryz.prog 47 #[y.x.r.val y.p.ra y.p.rc, y.x.l.val y.p.la y.p.lc, .slice a5 fs.length c5] u fun r w' => r = .returned (loneV (givesO (sdE (d + 1) y.x.r).lone (sdE (d + 1) y.x.l).vars fs)) ∧ Below u.heap.size u w') := fun u hu => rgives_any d y.x.r y.x.l y.p.ra y.p.la y.p.rc y.p.lc _ fs u (HXI.out u (HB2.out.trans (hu.mono HB2.out.size))).r (HXI.out u (HB2.out.trans (hu.mono HB2.out.size))).l HXZ.out.1 (ls_own (own_below HO2.out hu))
          clear hq HNX0 HF HO HB
          generalize y.x.l.val y.p.la y.p.lc = LV at hf3 HG1 HG2 HFD
          generalize y.x.r.val y.p.ra y.p.rc = RV at hf4 HG1 HG2 HFD
          go_wp2_with fail
          refine HG1.out.mono ?_
          rintro ee w2 ⟨rfl, b2⟩
          have HB3 := Lib.hid (HB2.out.trans (b2.mono HB2.out.size))
          have HO3 := Lib.hid (own_below HO2.out b2)
          obtain ⟨hg1, hg2, hg3, hg4⟩ := HFD.out w2 b2
          cases ho1 : givesO (sdE (d + 1) y.x.l).lone (sdE (d + 1) y.x.r).vars fs with
          | some nm =>
            have HNX : Hid (rndQ (eqL (d + 1) (l.take (k + 1))) f0 = fs ++ [nm]) := by show _ = _; rw [HNX1.out]; unfold stepQ gaveO; simp only [ho1]
            unfold loneV
            clear ho1 HG1 hld hst hf1 hf2 hf3 hf4 hg1 hg2 hg3 hg4 b2 HRN HO2 HB2 HFD
            have hzz : w.heap.size ≤ w2.heap.size := HB3.out.size
            go_wp2_with (at_builtin; refine wpList_append_own_at _ rfl _ _ 35 rfl w.heap.size 9 i0 _ 1 16 Tryz.underlying35 hi0 hz0 hz1 hz2 rfl (by decide) _ _ _ rfl (own_below HO3.out ((Below.refl _ _).alloc (Nat.le_refl _) _)) ⟨_, 0, none⟩ 1 1 [.string nm] rfl rfl (lit_news _ #[.string nm] _) (by simp [Value.oneCell']) (by unfold maxLen; omega) (by omega) (by simp; omega) ?_; intro v' w4 hown' hgrow hnil hloc)
            obtain ⟨a6, c6, rfl, _⟩ := own_form hown'
            have HB4 : Hid (Below w.heap.size w w4) := (HB3.out.alloc HB3.out.size _).grown hgrow (by simp; omega) (fun j hj => (HO3.out.lt j hj).1)
            have HO4 : Hid (w4.ownsRow w.heap.size 9 1 (.slice a6 (fs ++ [nm]).length c6) (fs ++ [nm]).length ((fs ++ [nm]).flatMap strB)) := by
              show World.ownsRow _ _ _ _ _ _ _
              rw [List.length_append, List.flatMap_append]
              exact hown'
            clear hown' hgrow hnil hloc
            go_wp2
            go_roundw
            case rel => exact ⟨k + 1, a6, c6, fs ++ [nm], by omega, by go_num, by first | rfl | simp, HNX.out.symm, HO4, HB4⟩
            case measure => simp [intOf]; omega
          | none =>
            have HG3 := Lib.hid (HG2.out w2 b2)
            unfold loneV
            clear HG1 HG2 hld hst hf1 hf2 hf3 hf4
            go_wp2_with fail
            refine HG3.out.mono ?_
            rintro ee w3 ⟨rfl, b3⟩
            have HB5 := Lib.hid (HB3.out.trans (b3.mono HB3.out.size))
            have HO5 := Lib.hid (own_below HO3.out b3)
            cases ho2 : givesO (sdE (d + 1) y.x.r).lone (sdE (d + 1) y.x.l).vars fs with
            | some nm =>
              have HNX : Hid (rndQ (eqL (d + 1) (l.take (k + 1))) f0 = fs ++ [nm]) := by show _ = _; rw [HNX1.out]; unfold stepQ gaveO; simp only [ho1, ho2]
              unfold loneV
              clear ho1 ho2 HG3 hg1 hg2 hg3 hg4 b2 b3 HRN HO2 HB2 HFD HB3 HO3
              have hzz : w.heap.size ≤ w3.heap.size := HB5.out.size
              go_wp2_with (at_builtin; refine wpList_append_own_at _ rfl _ _ 35 rfl w.heap.size 9 i0 _ 1 16 Tryz.underlying35 hi0 hz0 hz1 hz2 rfl (by decide) _ _ _ rfl (own_below HO5.out ((Below.refl _ _).alloc (Nat.le_refl _) _)) ⟨_, 0, none⟩ 1 1 [.string nm] rfl rfl (lit_news _ #[.string nm] _) (by simp [Value.oneCell']) (by unfold maxLen; omega) (by omega) (by simp; omega) ?_; intro v' w4 hown' hgrow hnil hloc)
              obtain ⟨a6, c6, rfl, _⟩ := own_form hown'
              have HB4 : Hid (Below w.heap.size w w4) := (HB5.out.alloc HB5.out.size _).grown hgrow (by simp; omega) (fun j hj => (HO5.out.lt j hj).1)
              have HO4 : Hid (w4.ownsRow w.heap.size 9 1 (.slice a6 (fs ++ [nm]).length c6) (fs ++ [nm]).length ((fs ++ [nm]).flatMap strB)) := by
                show World.ownsRow _ _ _ _ _ _ _
                rw [List.length_append, List.flatMap_append]
                exact hown'
              clear hown' hgrow hnil hloc
              go_wp2
              go_roundw
              case rel => exact ⟨k + 1, a6, c6, fs ++ [nm], by omega, by go_num, by first | rfl | simp, HNX.out.symm, HO4, HB4⟩
              case measure => simp [intOf]; omega
            | none =>
              have HNX : Hid (rndQ (eqL (d + 1) (l.take (k + 1))) f0 = fs) := by show _ = _; rw [HNX1.out]; unfold stepQ gaveO; simp only [ho1, ho2]
              unfold loneV
              clear ho1 ho2 HG3 hg1 hg2 hg3 hg4 b2 b3 HRN HO2 HB2 HFD HB3 HO3
              go_wp2
              go_roundw
              case rel => exact ⟨k + 1, a5, c5, fs, by omega, by go_num, rfl, HNX.out.symm, HO5, HB5⟩
              case measure => simp [intOf]; omega
        · have HNX : Hid (rndQ (eqL (d + 1) (l.take (k + 1))) f0 = fs) := by show _ = _; rw [HNX0.out, rnd_other hq]
          by_cases hq1 : y.x.k = 3
          · have e1 : (y.x.k != 3) = false := by rw [hq1]; rfl
            have e2 : (y.x.rel != 1) = true := by rw [bne_iff_ne]; exact fun h => hq ⟨hq1, h⟩
            clear hq hq1 HNX0 HF
            go_wp2
            go_roundw
            case rel => exact ⟨k + 1, a5, c5, fs, by omega, by go_num, rfl, HNX.out.symm, HO2, HB2⟩
            case measure => simp [intOf]; omega
          · have e1 : (y.x.k != 3) = true := by rw [bne_iff_ne]; exact hq1
            clear hq hq1 HNX0 HF
            go_wp2
            go_roundw
            case rel => exact ⟨k + 1, a5, c5, fs, by omega, by go_num, rfl, HNX.out.symm, HO2, HB2⟩
            case measure => simp [intOf]; omega
      · obtain rfl : k = l.length := by omega
        have HFF : Hid (fs = rndQ (eqL (d + 1) l) f0) := by
          show fs = _
          have := HF.out
          rw [List.take_length] at this
          exact this
        clear HF
        by_cases he : fs.length = f0.length
        · have e1 : ((fs.length : Int) == (f0.length : Int)) = true := by rw [he]; simp
          have HST : Hid (rndQ (eqL (d + 1) l) f0 = f0) := rndQ_still (by rw [← HFF.out]; exact he)
          have HSM : Hid (fs = f0) := HFF.out.trans HST.out
          clear he
          go_wp2
          go_ret
          exact ⟨_, fs, rfl, HO.out, HB.out, by rw [HSM.out]; exact HIT.out, by rw [HSM.out]; exact HST.out⟩
        · have e1 : ((fs.length : Int) == (f0.length : Int)) = false := by rw [beq_eq_false_iff_ne]; omega
          have HGR : Hid (f0.length < fs.length) := by
            show _ < _
            obtain ⟨m, hm⟩ := rndQ_grow (eqL (d + 1) l) f0
            have := congrArg List.length (HFF.out.trans hm)
            rw [List.length_append] at this
            omega
          clear he
          go_wp2
          go_roundw
          case rel => exact ⟨a5, c5, fs, rfl, HO, HB, (by obtain ⟨j, hj⟩ := HIT.out; exact ⟨j + 1, by rw [itQ_succ, ← hj]; exact HFF.out⟩), HFN⟩
          case measure => have := HGR.out; simp [slLnD]; omega
end Go.Proofs.YtheihplldbccpaaGreatDoor
