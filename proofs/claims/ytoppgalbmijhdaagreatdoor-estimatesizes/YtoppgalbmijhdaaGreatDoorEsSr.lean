import Derived.Test.YtoppgalbmijhdaaGreatDoorEsSh
namespace Go.Proofs.YtoppgalbmijhdaaGreatDoor
open Go.RowKit Go.Maps Go.ChangeMaps
set_option linter.unusedVariables false
set_option linter.unusedSimpArgs false
attribute [local go_sem ↓] Go.wp_at_zero Go.wp_at_succ

/-! Share: mean and spread -/
theorem nums_in {w : World} {v : Value} {l : List XF} {p : ByteArray} {col : Int} {ks : List Key} (hL : Lf w v l) (ht : Told ((l.map XF.key).filter (takesK p col)) ks) : in63 (ks.map (numAt col)) ∧ (ks.map (numAt col)).length ≤ l.length := by
  refine ⟨fun x hx => ?_, ?_⟩
  · obtain ⟨k, hk, rfl⟩ := List.mem_map.1 hx
    obtain ⟨h1, h2⟩ := List.mem_filter.1 ((ht.same k).1 hk)
    obtain ⟨y, hy, rfl⟩ := List.mem_map.1 h1
    unfold takesK at h2
    have hnb : numB y.vs col = true := (Bool.and_eq_true _ _ ▸ h2).2
    have hn0 : ¬ col < 0 := fun e => by rw [numB_neg e] at hnb; cases hnb
    have hnf : ¬ (y.vs.length : Int) ≤ col := fun e => by rw [numB_far e] at hnb; cases hnb
    obtain ⟨i, hi, rfl⟩ := List.getElem_of_mem hy
    have hF := hL.each i hi
    rw [atF_eq hi] at hF
    have hlt : col.toNat < l[i].vs.length := by omega
    have hw := (hF.vs.wf (atV l[i].vs col.toNat) (by rw [atV_eq hlt]; exact List.getElem_mem hlt)).num
    unfold numAt
    show ((atV l[i].vs col.toNat).n).natAbs ≤ _
    simp only [Lit.wf, Bool.and_eq_true, decide_eq_true_eq] at hw
    have h3 : IntKind.i64.min = -9223372036854775808 := by decide
    have h4 : IntKind.i64.max = 9223372036854775807 := by decide
    rw [h3, h4] at hw
    omega
  · rw [List.length_map]
    have h1 := nodup_sub ks (l.map XF.key) ht.nodup (fun k hk => (List.mem_filter.1 ((ht.same k).1 hk)).1)
    simpa using h1
set_option maxHeartbeats 3200000 in
theorem share_any (v : Value) (l : List XF) (p : ByteArray) (col : Int) (w : World) (hL : Lf w v l) (hn : l.length ≤ 1048576) (hsm : ∀ y ∈ l, y.vs.length ≤ 1048576) :
    Calls Tryz.prog 24 #[v, .string p, .int .i64 col] w fun e w' => ∃ ks, e = .returned (.tuple #[.float .f64 (shM (ks.map (numAt col))), .float .f64 (shS (ks.map (numAt col))), .int .i64 ((ks.map (numAt col)).length : Nat)]) ∧ Told ((l.map XF.key).filter (takesK p col)) ks ∧ Below w.heap.size w w' := by
  have HNS := Lib.hid (nums_any v l p col w hL hn hsm)
  have HL := Lib.hid hL
  clear hL hsm
  go_enter Tryz.func24, Tryz.ntmps24
  go_wp2_with fail
  refine HNS.out.mono ?_
  rintro e w1 ⟨a, c, ks, rfl, ht, hown, hb⟩
  have HIN := Lib.hid (nums_in HL.out ht)
  have HT := Lib.hid ht
  have HB := Lib.hid hb
  generalize hxs : ks.map (numAt col) = xs at hown HIN ⊢
  have HXS := Lib.hid hxs
  clear ht hb hxs HNS
  have hcell : ∀ (i : Nat) (x : Int), xs[i]? = some x → ∃ g, a = some ⟨g, 0, none⟩ ∧ ∀ u, Below w1.heap.size w1 u → u.cell? ⟨g, i, none⟩ = some (.float .f64 (fI x)) := fun i x hi => by
    rcases hown.2 with ⟨e, h0⟩ | ⟨g, cap, cur, e, _⟩
    · have := (List.getElem?_eq_some_iff.1 hi).1
      omega
    · cases e
      obtain ⟨c1, c2, c3, c4⟩ := own_cellI hown (i := i) (u := fC x) (by rw [List.getElem?_map, hi]; rfl)
      exact ⟨g, rfl, fun u hu => by rw [hu.cell (p := ⟨g, i, none⟩) c3]; exact c1⟩
  have HC := Lib.hid hcell
  clear hcell hown
  by_cases h0 : xs.length = 0
  · have HX0 : Hid (xs = []) := List.eq_nil_of_length_eq_zero h0
    have h0' : ((xs.length : Int) == 0) = true := by simp [h0]
    rw [h0]
    clear h0 h0'
    go_wp2
    go_ret3
    refine ⟨ks, ?_, HT.out, HB.out⟩
    rw [HXS.out, HX0.out]
    rfl
  · have h0' : ((xs.length : Int) == 0) = false := by rw [beq_eq_false_iff_ne]; omega
    have HX0 : Hid (xs ≠ []) := fun e => h0 (by rw [e]; rfl)
    have hlen : xs.length ≤ 1048576 := Nat.le_trans HIN.out.2 hn
    have HLEN := Lib.hid hlen
    have HME := Lib.hid (mean_ok HIN.out.1 HX0.out hlen)
    have HCT : Hid (fCnt (fI (xs.length : Int))) := cnt_int xs.length h0 hlen
    have hcv := run_n2f (xs.length : Int)
    have hmd := run_fdiv HME.out.1
    have HBr := Lib.hid (Below.refl w1.heap.size w1)
    clear h0
    go_wp2
    go_loopw [11, 29] (fun s j wr => ∃ (i : Nat), i ≤ xs.length ∧ j = .int .i64 i ∧ s = .float .f64 (sumF (xs.take i)) ∧ Hid (Below w1.heap.size w1 wr)) (fun _ j _ => xs.length - (intOf j).toNat)
    case atStart => exact ⟨0, Nat.zero_le _, rfl, rfl, HBr⟩
    case round =>
      obtain ⟨i, hi, rfl, rfl, HBi⟩ := hrel
      by_cases hlt : i < xs.length
      · have hlt' : (i : Int) < (xs.length : Int) := by omega
        obtain ⟨x, hx⟩ : ∃ x, xs[i]? = some x := ⟨_, List.getElem?_eq_getElem hlt⟩
        obtain ⟨g, rfl, hc⟩ := HC.out i x hx
        have x0 := hc wr HBi.out
        have hst := sum_step (xs := xs.take i) (x := x) (fun y hy => HIN.out.1 y (List.mem_of_mem_take hy)) (HIN.out.1 _ (List.mem_of_getElem? hx))
        rw [← take_one hx] at hst
        have hadd := run_fadd hst
        clear hst hc hx hcv hmd
        go_wp2
        go_roundw
        case rel => exact ⟨i + 1, by omega, by go_num, rfl, HBi⟩
        case measure => simp [intOf]; omega
      · obtain rfl : i = xs.length := by omega
        rw [List.take_length]
        generalize hmv : meanF xs = mv at hmd
        have HMV := Lib.hid hmv
        clear hmv hcv
        go_wp2
        go_loopw [7, 42] (fun s j wr => ∃ (i : Nat), i ≤ xs.length ∧ j = .int .i64 i ∧ s = .float .f64 (spU mv (fI (xs.length : Int)) (xs.take i)) ∧ Hid (Below w1.heap.size w1 wr)) (fun _ j _ => xs.length - (intOf j).toNat)
        case atStart => exact ⟨0, Nat.zero_le _, rfl, rfl, HBi⟩
        case round =>
          clear HBi hmd
          obtain ⟨i, hi, rfl, rfl, HBi⟩ := hrel
          by_cases hlt : i < xs.length
          · have hlt' : (i : Int) < (xs.length : Int) := by omega
            obtain ⟨x, hx⟩ : ∃ x, xs[i]? = some x := ⟨_, List.getElem?_eq_getElem hlt⟩
            obtain ⟨g, rfl, hc⟩ := HC.out i x hx
            have x0 := hc wr HBi.out
            have hb := HIN.out.1 _ (List.mem_of_getElem? hx)
            have hm : fOk mv := by rw [← HMV.out]; exact HME.out.2
            have hst := spU_step (xs := xs.take i) (x := x) hm HCT.out (fun y hy => HIN.out.1 y (List.mem_of_mem_take hy)) hb
            rw [← take_one hx] at hst
            have hadd := run_fadd hst
            have hoo := off_ok (m := mv) (x := x) hm hb
            have hsub := run_fsub hoo.1
            have hmul := run_fmul (sq_ok hoo.2).1
            have hdiv := run_fdiv (part_ok (x := x) hm HCT.out hb).1
            clear hst hc hx hb hm hoo
            go_wp2
            go_roundw
            case rel => exact ⟨i + 1, by omega, by go_num, rfl, HBi⟩
            case measure => simp [intOf]; omega
          · obtain rfl : i = xs.length := by omega
            rw [List.take_length]
            have HSM : Hid (shM xs = mv ∧ shS xs = spU mv (fI (xs.length : Int)) xs) := by
              show _ ∧ _
              unfold shM shS spF
              rw [if_neg HX0.out, if_neg HX0.out, HMV.out]
              exact ⟨rfl, rfl⟩
            generalize spU mv (fI (xs.length : Int)) xs = sv at HSM ⊢
            go_wp2
            go_ret3
            refine ⟨ks, ?_, HT.out, HB.out.trans (HBi.out.mono HB.out.size)⟩
            rw [HXS.out, HSM.out.1, HSM.out.2]
            rfl
end Go.Proofs.YtoppgalbmijhdaaGreatDoor
