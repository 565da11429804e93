import Derived.Test.YthkbcgedjecnlaaDoorLexTok2
namespace Go.Proofs.YthkbcgedjecnlaaDoor
open Go.RowKit
set_option linter.unusedVariables false
set_option linter.unusedSimpArgs false
attribute [local go_sem ↓] Go.wp_at_zero Go.wp_at_succ

theorem parseM_lt : ∀ (l : List UInt8) (acc u : Nat), acc < 2 ^ 64 → Lib.parseUintM (2 ^ 64 - 1) acc l = .ok u → u < 2 ^ 64
  | [], acc, u, ha, h => by simp [Lib.parseUintM] at h; omega
  | c :: r, acc, u, ha, h => by
    unfold Lib.parseUintM at h
    split at h
    · split at h
      · cases h
      · split at h
        · cases h
        · exact parseM_lt r _ u (by omega) h
    · cases h
theorem parse_lt {l : List UInt8} {u : Nat} (h : Lib.parseUintB 64 l = .ok u) : u < 18446744073709551616 ∧ l ≠ [] := by
  unfold Lib.parseUintB at h
  split at h
  · cases h
  · next hn => exact ⟨parseM_lt l 0 u (by decide) h, hn⟩

theorem number_facts {x : ByteArray} (hx0 : 0 < x.size) : (x.data.toList.head? = some 48 ↔ ((x[0]'hx0).toNat : Int) = 48) := by
  rw [list_at x hx0]
  simp only [List.head?_cons, Option.some.injEq]
  constructor
  · intro h; rw [h]; rfl
  · intro h
    exact UInt8.toNat_inj.mp (by have : (x[0]'hx0).toNat = 48 := by omega
                                 rw [this]; rfl)

theorem asI64_wrap {u : Nat} (h : u < 18446744073709551616) : asI64 u = wrap64 (u : Int) := by
  unfold asI64 wrap64
  split <;> omega

set_option maxHeartbeats 3200000 in
theorem number_any (s : ByteArray) (w : World) (hg : Gl w) (hs : s.size ≤ 65536) : Calls Tryd.prog 26 #[.string s] w fun e w' => e = .returned (fstV (numT (s.data.toList.take (runLen s.data.toList)))) ∧ Below w.heap.size w w' := by
  have HM : Hid (s.size ≤ maxLen) := by show _ ≤ _; unfold maxLen; omega
  have hrl := runLen_le s.data.toList
  rw [len_toList] at hrl
  obtain ⟨r, hr⟩ : ∃ r, runLen s.data.toList = r := ⟨_, rfl⟩
  rw [hr] at hrl
  have hsz := ext_size s hrl
  rw [hr, ← ext_take]
  obtain ⟨x, hx⟩ : ∃ x, s.extract 0 r = x := ⟨_, rfl⟩
  rw [hx] at hsz
  rw [hx]
  obtain ⟨v, HVV⟩ : ∃ v, Hid (fstV (numT x.data.toList) = v) := ⟨_, rfl⟩
  rw [HVV.out]
  go_enter Tryd.func26, Tryd.ntmps26
  go_wp2_with fail
  refine (runLength_any _ _ HM.out).mono ?_
  rw [hr]
  rintro e w1 ⟨rfl, hb1⟩
  have hg1 := (hg.alloc _).below hb1
  have HO : Hid _ := own4 hb1
  have hb := ((Below.refl w.heap.size w).alloc (Nat.le_refl _) _).trans (hb1.mono (by simp))
  clear hb1 hg hr
  have hr1 : (r : Int) ≤ (s.size : Int) := by omega
  cases hp : Lib.parseUintB 64 x.data.toList with
  | «syntax» =>
    have HV : Hid (v = .tuple #[noTk, .int .i64 0, .int .i64 32]) := by show _ = _; rw [← HVV.out]; unfold numT; rw [hp]; rfl
    obtain ⟨te, pe, hev⟩ := hg1.es
    go_wp2_with fail
    refine (Tryd.strconv_ParseUint_10_at64_syntax x (by omega) hp _ _ hev (.inr ⟨_, _, rfl⟩)).mono ?_
    rintro e w2 ⟨N, rfl, hN, -, hb2⟩
    have HO2 : Hid _ := Own4.below HO.out hb2
    have hbf := hb.trans (hb2.mono hb.size)
    clear hb2 hb HO hg1 hev
    obtain ⟨⟨y0, y1, y2, y3, c0, c1, c2, c3⟩, f0, f1, f2, f3, hl⟩ := HO2.out
    go_wp2
    refine tok_done Tryd.results26 HO2.out (Nat.le_refl _) hbf ?_ ?_ ?_ HV.out <;> rfl
  | range =>
    have HV : Hid (v = .tuple #[noTk, .int .i64 0, .int .i64 32]) := by show _ = _; rw [← HVV.out]; unfold numT; rw [hp]; rfl
    obtain ⟨te, pe, hev⟩ := hg1.er
    go_wp2_with fail
    refine (Tryd.strconv_ParseUint_10_at64_range x (by omega) hp _ _ hev (.inr ⟨_, _, rfl⟩)).mono ?_
    rintro e w2 ⟨N, rfl, hN, -, hb2⟩
    have HO2 : Hid _ := Own4.below HO.out hb2
    have hbf := hb.trans (hb2.mono hb.size)
    clear hb2 hb HO hg1 hev
    obtain ⟨⟨y0, y1, y2, y3, c0, c1, c2, c3⟩, f0, f1, f2, f3, hl⟩ := HO2.out
    go_wp2
    refine tok_done Tryd.results26 HO2.out (Nat.le_refl _) hbf ?_ ?_ ?_ HV.out <;> rfl
  | ok u =>
    obtain ⟨hu, hne⟩ := parse_lt hp
    have hx0 : 0 < x.size := by
      rw [← len_toList]; exact List.length_pos_iff.mpr hne
    have hx0' : (0 : Int) < (r : Int) := by omega
    have hnf := number_facts hx0
    have HV : Hid (v = if 9223372036854775808 < u ∨ (((x[0]'hx0).toNat : Int) = 48 ∧ x.data.toList ≠ [48]) then .tuple #[noTk, .int .i64 0, .int .i64 32] else .tuple #[.agg #[.int .i8 4, .string ⟨#[]⟩, .int .i64 (asI64 u), .int .i64 0], .int .i64 r, .int .i64 0]) := by
      show _ = _
      rw [← HVV.out]; unfold numT; rw [hp, len_toList, hsz]
      simp only [hnf]
      split <;> rfl
    clear hnf hne
    go_wp2_with fail
    refine (Tryd.strconv_ParseUint_10_at64_ok x (by omega) u hp _).mono ?_
    rintro e w2 ⟨rfl, hw2⟩
    have hb2 : Below w1.heap.size w1 w2 := by
      rcases hw2 with rfl | rfl
      · exact Below.refl _ _
      · exact Lib.bytesWorld_below _ _ _
    have HO2 : Hid _ := Own4.below HO.out hb2
    have hbf := hb.trans (hb2.mono hb.size)
    clear hb2 hb HO hg1 hw2
    obtain ⟨⟨y0, y1, y2, y3, c0, c1, c2, c3⟩, f0, f1, f2, f3, hl⟩ := HO2.out
    by_cases h1 : 9223372036854775808 < u
    · have h1' : (9223372036854775808 : Int) < (u : Int) := by omega
      have HV2 : Hid (v = .tuple #[noTk, .int .i64 0, .int .i64 32]) := by show _ = _; rw [HV.out, if_pos (.inl h1)]
      go_wp2
      refine tok_done Tryd.results26 HO2.out (Nat.le_refl _) hbf ?_ ?_ ?_ HV2.out <;> rfl
    · have h1' : ¬ (9223372036854775808 : Int) < (u : Int) := by omega
      have hq : ((x[0]'hx0).toNat : Int) = 48 ∨ ¬ ((x[0]'hx0).toNat : Int) = 48 := Classical.em _
      by_cases h2 : ((x[0]'hx0).toNat : Int) = 48
      · by_cases h3 : x.data.toList = [48]
        · have h3' : (x.toList == [48]) = true := by rw [beq_iff_eq, ByteArray.toList_eq]; exact h3
          have HV2 : Hid (v = .tuple #[.agg #[.int .i8 4, .string ⟨#[]⟩, .int .i64 (wrap64 u), .int .i64 0], .int .i64 r, .int .i64 0]) := by
            show _ = _; rw [HV.out, if_neg (fun h => h.elim h1 (fun g => g.2 h3)), asI64_wrap hu]
          clear hq
          go_wp2
          refine tok_done Tryd.results26 HO2.out (Nat.le_refl _) hbf ?_ ?_ ?_ HV2.out <;> rfl
        · have h3' : (x.toList == [48]) = false := by rw [beq_eq_false_iff_ne, ByteArray.toList_eq]; exact h3
          have HV2 : Hid (v = .tuple #[noTk, .int .i64 0, .int .i64 32]) := by show _ = _; rw [HV.out, if_pos (.inr ⟨h2, h3⟩)]
          clear hq
          go_wp2
          refine tok_done Tryd.results26 HO2.out (Nat.le_refl _) hbf ?_ ?_ ?_ HV2.out <;> rfl
      · have HV2 : Hid (v = .tuple #[.agg #[.int .i8 4, .string ⟨#[]⟩, .int .i64 (wrap64 u), .int .i64 0], .int .i64 r, .int .i64 0]) := by
          show _ = _; rw [HV.out, if_neg (fun h => h.elim h1 (fun g => h2 g.1)), asI64_wrap hu]
        clear hq
        go_wp2
        refine tok_done Tryd.results26 HO2.out (Nat.le_refl _) hbf ?_ ?_ ?_ HV2.out <;> rfl
end Go.Proofs.YthkbcgedjecnlaaDoor
