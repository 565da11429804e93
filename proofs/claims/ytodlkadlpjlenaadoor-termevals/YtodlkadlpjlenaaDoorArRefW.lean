import Derived.Test.YtodlkadlpjlenaaDoorArRef
import Derived.Test.YtodlkadlpjlenaaDoorTup
namespace Go.Proofs.YtodlkadlpjlenaaDoor.AR
open Go.RowKit Go.Maps
set_option linter.unusedVariables false
set_option linter.unusedSimpArgs false
attribute [local go_sem ↓] Go.wp_at_zero Go.wp_at_succ

set_option maxHeartbeats 800000 in
theorem rquotient_any (a b : Int) (hb : ¬ b = 0) (w : World) : Calls Tryd.prog 48 #[.int .i64 a, .int .i64 b] w fun e w' => e = .returned (.int .i64 (wrap64 (a.tdiv b))) ∧ w' = w := by
  by_cases h1 : b = -1
  · have HR : Hid (a.tdiv b = -a) := by show _ = _; rw [h1, Int.tdiv_neg, Int.tdiv_one]
    subst h1
    go_enter Tryd.func48, Tryd.ntmps48
    go_wp2
    go_ret
    exact ⟨by rw [HR.out]; rfl, rfl⟩
  · have h1' : (b == -1) = false := by simpa using h1
    have hb' : (b == 0) = false := by simpa using hb
    go_enter Tryd.func48, Tryd.ntmps48
    go_wp2
    go_ret
    exact ⟨rfl, rfl⟩
theorem mod_back (a b : Int) (ha : In64 a) : wrap64 (a - wrap64 (wrap64 (a.tdiv b) * b)) = a.tmod b := by
  have h := divmodW a b ha
  unfold addW mulW divW modW at h
  have hm : In64 (a.tmod b) := modW_in a b ha
  have e1 : wrap64 (a - wrap64 (wrap64 (a.tdiv b) * b)) = wrap64 (wrap64 (wrap64 (wrap64 (a.tdiv b) * b) + a.tmod b) - wrap64 (wrap64 (a.tdiv b) * b)) := by rw [h]
  rw [e1, wrap_sub_l, show wrap64 (wrap64 (a.tdiv b) * b) + a.tmod b - wrap64 (wrap64 (a.tdiv b) * b) = a.tmod b by omega, wrap_id hm]
set_option maxHeartbeats 1600000 in
set_option maxRecDepth 100000 in
theorem rnumbers_any (op a b : Int) (ha : In64 a) (w : World) : Calls Tryd.prog 34 #[.int .i8 op, .int .i64 a, .int .i64 b] w fun e w' => e = .returned (numsR op a b).val ∧ Below w.heap.size w w' := by
  have hB := Lib.hid ((Below.refl w.heap.size w).alloc (Nat.le_refl _) (.cells #[.int .i8 0, .int .i64 0, .string ⟨#[]⟩] 26))
  by_cases h2 : op = 2
  · have HR : Hid ((numsR op a b).val = .tuple #[.agg #[.int .i8 1, .int .i64 (wrap64 (a + b)), .string ⟨#[]⟩], .bool true]) := by show _ = _; unfold numsR; rw [if_pos h2]; rfl
    subst h2
    go_enter Tryd.func34, Tryd.ntmps34
    go_wp2
    exact bodyPost_ret (v := .tuple #[.agg #[.int .i8 1, .int .i64 (wrap64 (a + b)), .string ⟨#[]⟩], .bool true]) (by simp [results, Tryd.results34, go_sem]) rfl
      ⟨by rw [HR.out], (Below.refl _ _).alloc (Nat.le_refl _) _⟩
  have h2' : (op == 2) = false := by simpa using h2
  by_cases h3 : op = 3
  · have HR : Hid ((numsR op a b).val = .tuple #[.agg #[.int .i8 1, .int .i64 (wrap64 (a - b)), .string ⟨#[]⟩], .bool true]) := by show _ = _; unfold numsR; rw [if_neg h2, if_pos h3]; rfl
    subst h3
    go_enter Tryd.func34, Tryd.ntmps34
    go_wp2
    exact bodyPost_ret (v := .tuple #[.agg #[.int .i8 1, .int .i64 (wrap64 (a - b)), .string ⟨#[]⟩], .bool true]) (by simp [results, Tryd.results34, go_sem]) rfl
      ⟨by rw [HR.out], (Below.refl _ _).alloc (Nat.le_refl _) _⟩
  have h3' : (op == 3) = false := by simpa using h3
  by_cases h4 : op = 4
  · have HR : Hid ((numsR op a b).val = .tuple #[.agg #[.int .i8 1, .int .i64 (wrap64 (a * b)), .string ⟨#[]⟩], .bool true]) := by show _ = _; unfold numsR; rw [if_neg h2, if_neg h3, if_pos h4]; rfl
    subst h4
    go_enter Tryd.func34, Tryd.ntmps34
    go_wp2
    exact bodyPost_ret (v := .tuple #[.agg #[.int .i8 1, .int .i64 (wrap64 (a * b)), .string ⟨#[]⟩], .bool true]) (by simp [results, Tryd.results34, go_sem]) rfl
      ⟨by rw [HR.out], (Below.refl _ _).alloc (Nat.le_refl _) _⟩
  have h4' : (op == 4) = false := by simpa using h4
  by_cases hb : b = 0
  · have HR : Hid ((numsR op a b).val = .tuple #[.agg #[.int .i8 0, .int .i64 0, .string ⟨#[]⟩], .bool false]) := by show _ = _; unfold numsR; rw [if_neg h2, if_neg h3, if_neg h4, if_pos hb]; rfl
    subst hb
    go_enter Tryd.func34, Tryd.ntmps34
    go_wp2
    exact bodyPost_ret (v := .tuple #[.agg #[.int .i8 0, .int .i64 0, .string ⟨#[]⟩], .bool false]) (by simp [results, Tryd.results34, go_sem]) rfl
      ⟨by rw [HR.out], (Below.refl _ _).alloc (Nat.le_refl _) _⟩
  have hb' : (b == 0) = false := by simpa using hb
  have HM := Lib.hid (mod_back a b ha)
  by_cases h5 : op = 5
  · have HR : Hid ((numsR op a b).val = .tuple #[.agg #[.int .i8 1, .int .i64 (wrap64 (a.tdiv b)), .string ⟨#[]⟩], .bool true]) := by show _ = _; unfold numsR; rw [if_neg h2, if_neg h3, if_neg h4, if_neg hb, if_pos h5]; rfl
    subst h5
    go_enter Tryd.func34, Tryd.ntmps34
    go_wp2_with fail
    refine (rquotient_any a b hb _).mono ?_
    rintro e w1 ⟨rfl, rfl⟩
    generalize wrap64 (a.tdiv b) = q at HR ⊢
    go_wp2
    exact bodyPost_ret (v := .tuple #[.agg #[.int .i8 1, .int .i64 q, .string ⟨#[]⟩], .bool true]) (by simp [results, Tryd.results34, go_sem]) rfl
      ⟨by rw [HR.out], (Below.refl _ _).alloc (Nat.le_refl _) _⟩
  have h5' : (op == 5) = false := by simpa using h5
  have HR : Hid ((numsR op a b).val = .tuple #[.agg #[.int .i8 1, .int .i64 (wrap64 (a - wrap64 (wrap64 (a.tdiv b) * b))), .string ⟨#[]⟩], .bool true]) := by show _ = _; unfold numsR; rw [if_neg h2, if_neg h3, if_neg h4, if_neg hb, if_neg h5, HM.out]; rfl
  clear HM
  go_enter Tryd.func34, Tryd.ntmps34
  go_wp2_with fail
  refine (rquotient_any a b hb _).mono ?_
  rintro e w1 ⟨rfl, rfl⟩
  generalize wrap64 (a.tdiv b) = q at HR ⊢
  go_wp2
  exact bodyPost_ret (v := .tuple #[.agg #[.int .i8 1, .int .i64 (wrap64 (a - wrap64 (q * b))), .string ⟨#[]⟩], .bool true]) (by simp [results, Tryd.results34, go_sem]) rfl
    ⟨by rw [HR.out], (Below.refl _ _).alloc (Nat.le_refl _) _⟩
set_option maxHeartbeats 1600000 in
theorem rkinds_any (v : Value) (n : Nat) (count : Nat) (kind : Int) (hc3 : count ≤ 3) (K N : Nat → Int) (S : Nat → ByteArray) (w : World) (hl : Lst w v n K N S) :
    Calls Tryd.prog 33 #[v, .int .i64 (count : Int), .int .i8 kind] w fun e w' => e = .returned (.bool (areB count kind K N S n)) ∧ Below w.heap.size w w' := by
  obtain ⟨a, cap, hv, hn, hcl⟩ := hl.form
  subst hv
  unfold maxLen at hn
  by_cases hnc : n = count
  · subst hnc
    have hne : ((n : Int) != (n : Int)) = false := by simp
    have HCL := Lib.hid hcl
    clear hcl hl
    go_enter Tryd.func33, Tryd.ntmps33
    go_wp2
    go_loopw [7] (fun i wr => ∃ k : Nat, k ≤ n ∧ i = .int .i64 k ∧ Hid (allOf kind K N S k = true) ∧ Below w.heap.size w wr) (fun i _ => n - (intOf i).toNat)
    case atStart => exact ⟨0, Nat.zero_le _, rfl, rfl, Below.refl _ _⟩
    case round =>
      obtain ⟨k, hk, rfl, HA, bel⟩ := hrel
      have hz : w.heap.size ≤ wr.heap.size := bel.size
      by_cases hlt : k < n
      · obtain ⟨g, off, rfl, hcs⟩ := HCL.out (by omega)
        have vv := hcs.below bel
        have hck := vv.kind k hlt
        have hcn := vv.num k hlt
        have hct := vv.text k hlt
        have hsz := hcs.size k hlt
        have hlt' : (k : Int) < (n : Int) := by omega
        have hk0 : (0 : Int) ≤ (k : Int) := by omega
        clear hcs vv
        generalize hKk : K k = kk at hck
        generalize hNk : N k = nn at hcn
        generalize hSk : S k = ss at hct hsz
        have HK : Hid (K k = kk) := hKk
        have HN : Hid (N k = nn) := hNk
        have HS : Hid (S k = ss) := hSk
        clear hKk hNk hSk
        by_cases hkd : kk = kind
        · have hkd' : (kk != kind) = false := by simpa using hkd
          have HKD : Hid (kk = kind) := hkd
          clear hkd
          have HCK := Lib.hid (rcheck_any kk nn ss wr hsz)
          by_cases hchk : chk kk nn ss = 0
          · have HA1 : Hid (allOf kind K N S (k + 1) = true) := allOf_step HA.out (HK.out.trans HKD.out) (by rw [HK.out, HN.out, HS.out]; exact hchk)
            go_wp2_with fail
            refine HCK.out.mono ?_
            rintro e w1 ⟨rfl, hb1⟩
            have bel1 : Below w.heap.size w w1 := bel.trans (hb1.mono bel.size)
            go_wp2
            go_roundw
            case rel => exact ⟨k + 1, by omega, by go_num, HA1, bel1⟩
            case measure => simp [intOf]; omega
          · have hchk' : (chk kk nn ss != 0) = true := by simpa using hchk
            have HF : Hid (areB n kind K N S n = false) := by
              show areB n kind K N S n = false
              unfold areB
              rw [allOf_not hlt (by rw [HK.out, HN.out, HS.out]; simp [hchk]), Bool.false_and]
            clear hchk
            go_wp2_with fail
            refine HCK.out.mono ?_
            rintro e w1 ⟨rfl, hb1⟩
            have bel1 : Below w.heap.size w w1 := bel.trans (hb1.mono bel.size)
            go_wp2
            go_ret
            exact ⟨ret_bool HF.out.symm, bel1⟩
        · have hkd' : (kk != kind) = true := by simpa using hkd
          have HF : Hid (areB n kind K N S n = false) := by
            show areB n kind K N S n = false
            unfold areB
            rw [allOf_not hlt (by rw [HK.out]; simp [hkd]), Bool.false_and]
          clear hkd
          go_wp2
          go_ret
          exact ⟨ret_bool HF.out.symm, bel⟩
      · obtain rfl : k = n := by omega
        have hlt' : ¬ (k : Int) < (k : Int) := by omega
        go_wp2
        go_ret
        exact ⟨ret_bool (by unfold areB; rw [HA.out, Bool.true_and]; simp), bel⟩
  · have hne : ((n : Int) != (count : Int)) = true := by simp; omega
    have HF : Hid (areB count kind K N S n = false) := by
      show _ = _
      unfold areB
      rw [show ((n : Int) == (count : Int)) = false by simp; omega, Bool.and_false]
    clear hcl hl
    go_enter Tryd.func33, Tryd.ntmps33
    go_wp2
    go_ret
    exact ⟨ret_bool HF.out.symm, Below.refl _ _⟩
end Go.Proofs.YtodlkadlpjlenaaDoor.AR
