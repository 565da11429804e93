import Derived.Test.YtjemaijokgcjnaaDoorValueShow
import Derived.Lib.AppendIntMem
import Derived.Lib.LaidTab
namespace Go.Proofs.YtjemaijokgcjnaaDoor
open Go.RowKit Go.Maps
set_option linter.unusedVariables false
set_option linter.unusedSimpArgs false
attribute [local go_sem ↓] Go.wp_at_zero Go.wp_at_succ

theorem wrapU_neg {n : Int} (h0 : -9223372036854775808 ≤ n) (h1 : n < 0) : IntKind.u64.wrap n = n + 18446744073709551616 := by
  simp [IntKind.wrap, IntKind.bits, IntKind.signed]
  omega
set_option maxHeartbeats 800000 in
theorem rDigits_any (n : Int) (h0 : -9223372036854775808 ≤ n) (h1 : n ≤ 9223372036854775807) (w : World) : Calls Tryd.prog 23 #[.int .i64 n] w fun e w' => e = .returned (.string ⟨(Lib.itoa n).toArray⟩) ∧ Below w.heap.size w w' := by
  by_cases hn : n < 0
  · have HI : Hid (Lib.itoa n = 45 :: Lib.decDigits n.natAbs) := by show Lib.itoa n = _; unfold Lib.itoa; rw [if_pos hn]
    have hw1 := wrapU_neg h0 hn
    obtain ⟨u, hu⟩ : ∃ u, u = n.natAbs := ⟨_, rfl⟩
    have hw2 : IntKind.u64.wrap (-(n + 18446744073709551616)) = (u : Int) := by
      simp [IntKind.wrap, IntKind.bits, IntKind.signed]
      omega
    have hul : u < 18446744073709551616 := by omega
    rw [← hu] at HI
    clear hu
    have hcc := cons_bytes 45 (Lib.decDigits u)
    go_enter Tryd.func23, Tryd.ntmps23
    go_wp2_with fail
    refine (digits_any u hul _).mono ?_
    rintro e w1 ⟨rfl, b1⟩
    have hsz : (⟨(Lib.decDigits u).toArray⟩ : ByteArray).size ≤ 20 := by
      show (Lib.decDigits u).toArray.size ≤ 20
      rw [List.size_toArray, Lib.decDigits_length]
      exact nDig_le 19 u (by omega)
    obtain ⟨T1, hT1⟩ : ∃ T1, T1 = (⟨(Lib.decDigits u).toArray⟩ : ByteArray) := ⟨_, rfl⟩
    obtain ⟨T2, hT2⟩ : ∃ T2, T2 = (⟨(45 :: Lib.decDigits u).toArray⟩ : ByteArray) := ⟨_, rfl⟩
    rw [← hT1, ← hT2] at hcc
    rw [← hT1] at hsz ⊢
    have HT2 : Hid _ := hT2
    clear hT1 hT2
    go_wp2
    go_ret
    exact ⟨by rw [HI.out, ← HT2.out]; rfl, b1⟩
  · have HI : Hid (Lib.itoa n = Lib.decDigits n.toNat) := by show Lib.itoa n = _; unfold Lib.itoa; rw [if_neg hn]
    obtain ⟨u, hu⟩ : ∃ u, u = n.toNat := ⟨_, rfl⟩
    obtain rfl : n = (u : Int) := by omega
    have hul : u < 18446744073709551616 := by omega
    rw [← hu] at HI
    clear hu
    have hw1 : IntKind.u64.wrap (u : Int) = (u : Int) := by
      simp [IntKind.wrap, IntKind.bits, IntKind.signed]
      omega
    go_enter Tryd.func23, Tryd.ntmps23
    go_wp2_with fail
    refine (digits_any u hul _).mono ?_
    rintro e w1 ⟨rfl, b1⟩
    go_wp2
    go_ret
    exact ⟨by rw [HI.out]; rfl, b1⟩

theorem tab_below {W W' : World} {name : String} {k : IntKind} {zs : List Int} (h : Lib.TabIs Tryd.prog W name k zs) (hb : Below W.heap.size W W') : Lib.TabIs Tryd.prog W' name k zs := by
  unfold Lib.TabIs World.var? at h ⊢
  cases hg : Tryd.prog.globalNamed name with
  | none => rw [hg] at h; cases h
  | some g =>
    rw [hg] at h
    simp only [Option.bind_some] at h ⊢
    have hlt : g < W.heap.size := by
      by_cases hl : g < W.heap.size
      · exact hl
      · rw [Array.getElem?_eq_none (by omega)] at h; cases h
    rw [hb.block g hlt]
    exact h
theorem formatInt_any (n : Int) (h0 : -9223372036854775808 ≤ n) (h1 : n ≤ 9223372036854775807) (w : World) (ht : Lib.TabIs Tryd.prog w "internal/strconv.uint64pow10" .u64 Lib.pow10Tab) : Calls Tryd.prog 19 #[.int .i64 n, .int .i64 10] w fun e w' => e = .returned (.string ⟨(Lib.itoa n).toArray⟩) ∧ Below w.heap.size w w' := by
  go_enter Tryd.func19, Tryd.ntmps19
  go_wp2_with fail
  refine (Tryd.internal_strconv_FormatInt_10 n h0 h1 _ ht).mono ?_
  rintro e w1 ⟨rfl, k, os, rfl⟩
  have hb := Lib.below_grow w.heap.size w (Nat.le_refl _) k os
  generalize Go.Sort.grow (w.drewN k) os = w1 at hb ⊢
  go_wp2
  go_ret
  exact ⟨rfl, hb⟩
def showV (k n : Int) (s : ByteArray) : Value := if chk k n s = 0 then .tuple #[.string (if k = 1 then ⟨(Lib.itoa n).toArray⟩ else if nameB s then s else quoteQ s), .int .i64 0] else .tuple #[.string ⟨#[]⟩, .int .i64 10]
theorem chk_two {k n : Int} {s : ByteArray} (h : chk k n s = 0) (h1 : ¬ k = 1) : k = 2 ∧ n = 0 ∧ s.size ≤ 200 := by
  unfold chk at h
  split at h
  · rename_i hh
    rcases hh with ⟨a, _⟩ | ⟨a, b, c⟩
    · exact absurd a h1
    · exact ⟨a, b, by omega⟩
  · cases h
theorem chk_err {k n : Int} {s : ByteArray} (h : ¬ chk k n s = 0) : chk k n s = 10 := by
  unfold chk at h ⊢
  split
  · rename_i hh; rw [if_pos hh] at h; exact absurd rfl h
  · rfl
set_option maxHeartbeats 800000 in
theorem vshow_any (k n : Int) (s : ByteArray) (w : World) (ht : Lib.TabIs Tryd.prog w "internal/strconv.uint64pow10" .u64 Lib.pow10Tab) (hs : s.size ≤ maxLen) (h0 : -9223372036854775808 ≤ n) (h1 : n ≤ 9223372036854775807) :
    Calls Tryd.prog 8 #[.agg #[.int .i8 k, .int .i64 n, .string s]] w fun e w' => e = .returned (showV k n s) ∧ Below w.heap.size w w' := by
  unfold showV
  by_cases hc : chk k n s = 0
  · rw [if_pos hc]
    by_cases hk : k = 1
    · rw [if_pos hk]
      subst hk
      have HT : Hid _ := ht
      clear ht
      go_enter Tryd.func8, Tryd.ntmps8
      go_wp2_with fail
      refine (vcheck_any 1 n s _ hs).mono ?_
      rintro e w1 ⟨rfl, b1⟩
      rw [hc]
      have b1' := ((Below.refl w.heap.size w).alloc (Nat.le_refl _) (.cells #[.int .i8 1, .int .i64 n, .string s] 25)).trans (b1.mono (by simp))
      have c0 : w1.cell? ⟨w.heap.size, 0, none⟩ = some (.int .i8 1) := by rw [b1.cell (p := ⟨w.heap.size, 0, none⟩) (by simp)]; go_simp
      have c2 : w1.cell? ⟨w.heap.size, 1, none⟩ = some (.int .i64 n) := by rw [b1.cell (p := ⟨w.heap.size, 1, none⟩) (by simp)]; go_simp
      clear b1 hc
      go_wp2_with fail
      refine (formatInt_any n h0 h1 _ (tab_below HT.out b1')).mono ?_
      rintro e w2 ⟨rfl, b2⟩
      obtain ⟨T1, hT1⟩ : ∃ T1, T1 = (⟨(Lib.itoa n).toArray⟩ : ByteArray) := ⟨_, rfl⟩
      rw [← hT1]
      have HT1 : Hid _ := hT1
      clear hT1
      go_wp2
      go_ret2
      exact ⟨by rw [← HT1.out]; rfl, b1'.trans (b2.mono b1'.size)⟩
    · rw [if_neg hk]
      obtain ⟨rfl, rfl, hz⟩ := chk_two hc hk
      have := show_text s w hs
      unfold showT at this
      rw [if_pos hz] at this
      exact this
  · rw [if_neg hc]
    have hc' := chk_err hc
    clear hc ht
    go_enter Tryd.func8, Tryd.ntmps8
    go_wp2_with fail
    refine (vcheck_any k n s _ hs).mono ?_
    rintro e w1 ⟨rfl, b1⟩
    rw [hc']
    have b1' := ((Below.refl w.heap.size w).alloc (Nat.le_refl _) (.cells #[.int .i8 k, .int .i64 n, .string s] 25)).trans (b1.mono (by simp))
    go_wp2
    go_ret2
    exact ⟨rfl, b1'⟩

set_option maxHeartbeats 800000 in
theorem rshow_any (k n : Int) (s : ByteArray) (w : World) (hs : s.size ≤ maxLen) (h0 : -9223372036854775808 ≤ n) (h1 : n ≤ 9223372036854775807) :
    Calls Tryd.prog 13 #[.agg #[.int .i8 k, .int .i64 n, .string s]] w fun e w' => e = .returned (showV k n s) ∧ Below w.heap.size w w' := by
  unfold showV
  by_cases hc : chk k n s = 0
  · rw [if_pos hc]
    by_cases hk : k = 1
    · rw [if_pos hk]
      subst hk
      go_enter Tryd.func13, Tryd.ntmps13
      go_wp2_with fail
      refine (rcheck_any 1 n s _ hs).mono ?_
      rintro e w1 ⟨rfl, b1⟩
      rw [hc]
      have b1' := ((Below.refl w.heap.size w).alloc (Nat.le_refl _) (.cells #[.int .i8 1, .int .i64 n, .string s] 25)).trans (b1.mono (by simp))
      have c0 : w1.cell? ⟨w.heap.size, 0, none⟩ = some (.int .i8 1) := by rw [b1.cell (p := ⟨w.heap.size, 0, none⟩) (by simp)]; go_simp
      have c2 : w1.cell? ⟨w.heap.size, 1, none⟩ = some (.int .i64 n) := by rw [b1.cell (p := ⟨w.heap.size, 1, none⟩) (by simp)]; go_simp
      clear b1 hc
      go_wp2_with fail
      refine (rDigits_any n h0 h1 _).mono ?_
      rintro e w2 ⟨rfl, b2⟩
      obtain ⟨T1, hT1⟩ : ∃ T1, T1 = (⟨(Lib.itoa n).toArray⟩ : ByteArray) := ⟨_, rfl⟩
      rw [← hT1]
      have HT1 : Hid _ := hT1
      clear hT1
      go_wp2
      go_ret2
      exact ⟨by rw [← HT1.out]; rfl, b1'.trans (b2.mono b1'.size)⟩
    · rw [if_neg hk]
      obtain ⟨rfl, rfl, hz⟩ := chk_two hc hk
      go_enter Tryd.func13, Tryd.ntmps13
      go_wp2_with fail
      refine (rcheck_any 2 0 s _ hs).mono ?_
      rintro e w1 ⟨rfl, b1⟩
      rw [hc]
      have b1' := ((Below.refl w.heap.size w).alloc (Nat.le_refl _) (.cells #[.int .i8 2, .int .i64 0, .string s] 25)).trans (b1.mono (by simp))
      have c0 : w1.cell? ⟨w.heap.size, 0, none⟩ = some (.int .i8 2) := by rw [b1.cell (p := ⟨w.heap.size, 0, none⟩) (by simp)]; go_simp
      have c2 : w1.cell? ⟨w.heap.size, 2, none⟩ = some (.string s) := by rw [b1.cell (p := ⟨w.heap.size, 2, none⟩) (by simp)]; go_simp
      clear b1 hc
      cases hn : nameB s
      · go_wp2_with (first
          | (go_at_call 24; refine (rName_any s _ hs).mono ?_; rw [hn]; rintro e w' ⟨rfl, rfl⟩)
          | (go_at_call 25; refine (quoted_any s _ hz).mono ?_; rintro e w2 ⟨rfl, b2⟩))
        all_goals
          go_ret2
          exact ⟨rfl, b1'.trans (b2.mono b1'.size)⟩
      · go_wp2_with (go_at_call 24; refine (rName_any s _ hs).mono ?_; rw [hn]; rintro e w' ⟨rfl, rfl⟩)
        go_ret2
        exact ⟨rfl, b1'⟩
  · rw [if_neg hc]
    have hc' := chk_err hc
    clear hc
    go_enter Tryd.func13, Tryd.ntmps13
    go_wp2_with fail
    refine (rcheck_any k n s _ hs).mono ?_
    rintro e w1 ⟨rfl, b1⟩
    rw [hc']
    have b1' := ((Below.refl w.heap.size w).alloc (Nat.le_refl _) (.cells #[.int .i8 k, .int .i64 n, .string s] 25)).trans (b1.mono (by simp))
    go_wp2
    go_ret2
    exact ⟨rfl, b1'⟩

end Go.Proofs.YtjemaijokgcjnaaDoor
