import Derived.Test.YtikjphfeeljhbaaGreatDoorValueShow
import Derived.Lib.AppendIntMem
import Derived.Lib.LaidTab
namespace Go.Proofs.YtikjphfeeljhbaaGreatDoor
open Go.RowKit Go.Maps
set_option linter.unusedVariables false
set_option linter.unusedSimpArgs false
attribute [local go_sem ↓] Go.wp_at_zero Go.wp_at_succ

theorem tab_below {W W' : World} {name : String} {k : IntKind} {zs : List Int} (h : Lib.TabIs Tryz.prog W name k zs) (hb : Below W.heap.size W W') : Lib.TabIs Tryz.prog W' name k zs := by
  unfold Lib.TabIs World.var? at h ⊢
  cases hg : Tryz.prog.globalNamed name with
  | none => rw [hg] at h; cases h
  | some g =>
    rw [hg] at h
    simp only [Option.bind_some] at h ⊢
    have hlt : g < W.heap.size := by
      by_cases hl : g < W.heap.size
      · exact hl
      · rw [Array.getElem?_eq_none (by omega)] at h; cases h
    rw [hb.block g hlt]
    exact h
theorem formatInt_any (n : Int) (h0 : -9223372036854775808 ≤ n) (h1 : n ≤ 9223372036854775807) (w : World) (ht : Lib.TabIs Tryz.prog w "internal/strconv.uint64pow10" .u64 Lib.pow10Tab) : Calls Tryz.prog 77 #[.int .i64 n, .int .i64 10] w fun e w' => e = .returned (.string ⟨(Lib.itoa n).toArray⟩) ∧ Below w.heap.size w w' := by
  go_enter Tryz.func77, Tryz.ntmps77
  go_wp2_with fail
  refine (Tryz.internal_strconv_FormatInt_10 n h0 h1 _ ht).mono ?_
  rintro e w1 ⟨rfl, k, os, rfl⟩
  have hb := Lib.below_grow w.heap.size w (Nat.le_refl _) k os
  generalize Go.Sort.grow (w.drewN k) os = w1 at hb ⊢
  go_wp2
  go_ret
  exact ⟨rfl, hb⟩
def showV (k n : Int) (s : ByteArray) : Value := if chk k n s = 0 then .tuple #[.string (if k = 1 then ⟨(Lib.itoa n).toArray⟩ else if nameB s then s else quoteQ s), .int .i64 0] else .tuple #[.string ⟨#[]⟩, .int .i64 10]
theorem chk_two {k n : Int} {s : ByteArray} (h : chk k n s = 0) (h1 : ¬ k = 1) : k = 2 ∧ n = 0 ∧ s.size ≤ 200 := by
  unfold chk at h
  split at h
  · rename_i hh
    rcases hh with ⟨a, _⟩ | ⟨a, b, c⟩
    · exact absurd a h1
    · exact ⟨a, b, by omega⟩
  · cases h
theorem chk_err {k n : Int} {s : ByteArray} (h : ¬ chk k n s = 0) : chk k n s = 10 := by
  unfold chk at h ⊢
  split
  · rename_i hh; rw [if_pos hh] at h; exact absurd rfl h
  · rfl
set_option maxHeartbeats 800000 in
theorem vshow_any (k n : Int) (s : ByteArray) (w : World) (ht : Lib.TabIs Tryz.prog w "internal/strconv.uint64pow10" .u64 Lib.pow10Tab) (hs : s.size ≤ maxLen) (h0 : -9223372036854775808 ≤ n) (h1 : n ≤ 9223372036854775807) :
    Calls Tryz.prog 65 #[.agg #[.int .i8 k, .int .i64 n, .string s]] w fun e w' => e = .returned (showV k n s) ∧ Below w.heap.size w w' := by
  unfold showV
  by_cases hc : chk k n s = 0
  · rw [if_pos hc]
    by_cases hk : k = 1
    · rw [if_pos hk]
      subst hk
      have HT : Hid _ := ht
      clear ht
      go_enter Tryz.func65, Tryz.ntmps65
      go_wp2_with fail
      refine (vcheck_any 1 n s _ hs).mono ?_
      rintro e w1 ⟨rfl, b1⟩
      rw [hc]
      have b1' := ((Below.refl w.heap.size w).alloc (Nat.le_refl _) (.cells #[.int .i8 1, .int .i64 n, .string s] 69)).trans (b1.mono (by simp))
      have c0 : w1.cell? ⟨w.heap.size, 0, none⟩ = some (.int .i8 1) := by rw [b1.cell (p := ⟨w.heap.size, 0, none⟩) (by simp)]; go_simp
      have c2 : w1.cell? ⟨w.heap.size, 1, none⟩ = some (.int .i64 n) := by rw [b1.cell (p := ⟨w.heap.size, 1, none⟩) (by simp)]; go_simp
      clear b1 hc
      go_wp2_with fail
      refine (formatInt_any n h0 h1 _ (tab_below HT.out b1')).mono ?_
      rintro e w2 ⟨rfl, b2⟩
      obtain ⟨T1, hT1⟩ : ∃ T1, T1 = (⟨(Lib.itoa n).toArray⟩ : ByteArray) := ⟨_, rfl⟩
      rw [← hT1]
      have HT1 : Hid _ := hT1
      clear hT1
      go_wp2
      go_ret2
      exact ⟨by rw [← HT1.out]; rfl, b1'.trans (b2.mono b1'.size)⟩
    · rw [if_neg hk]
      obtain ⟨rfl, rfl, hz⟩ := chk_two hc hk
      have := show_text s w hs
      unfold showT at this
      rw [if_pos hz] at this
      exact this
  · rw [if_neg hc]
    have hc' := chk_err hc
    clear hc ht
    go_enter Tryz.func65, Tryz.ntmps65
    go_wp2_with fail
    refine (vcheck_any k n s _ hs).mono ?_
    rintro e w1 ⟨rfl, b1⟩
    rw [hc']
    have b1' := ((Below.refl w.heap.size w).alloc (Nat.le_refl _) (.cells #[.int .i8 k, .int .i64 n, .string s] 69)).trans (b1.mono (by simp))
    go_wp2
    go_ret2
    exact ⟨rfl, b1'⟩

end Go.Proofs.YtikjphfeeljhbaaGreatDoor
