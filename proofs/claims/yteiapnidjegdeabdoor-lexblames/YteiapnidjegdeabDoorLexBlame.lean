import Derived.Test.YteiapnidjegdeabDoorLexLives
import Derived.Test.YteiapnidjegdeabDoorLexCutM
namespace Go.Proofs.YteiapnidjegdeabDoor
open Go.RowKit Go.Maps
set_option linter.unusedVariables false
set_option linter.unusedSimpArgs false
attribute [local go_sem ↓] Go.wp_at_zero Go.wp_at_succ

theorem toks_err : ∀ (N : Nat) (l : List UInt8) (a : Nat) {e : Int} {q : Nat}, l.length ≤ N → toks l a = .bad e q → e ≠ 0
  | 0, l, a, e, q, hN, h => by
    have : l = [] := List.length_eq_zero_iff.mp (by omega)
    subst this
    rw [toks_nil] at h; cases h
  | N + 1, [], a, e, q, hN, h => by rw [toks_nil] at h; cases h
  | N + 1, c :: r, a, e, q, hN, h => by
    simp at hN
    cases hb : blankU c with
    | true => rw [toks_blank r a hb] at h; exact toks_err N r _ hN h
    | false =>
      by_cases hc : c.toNat = 35
      · rw [toks_com r a hc] at h; exact toks_err N _ _ (by simp; omega) h
      · cases hf : firstT (c :: r) with
        | bad e' =>
          rw [toks_bad a hb hc hf] at h
          simp at h
          obtain ⟨rfl, rfl⟩ := h
          have := firstT_bad hf
          omega
        | tok t n =>
          rw [toks_tok a hb hc hf] at h
          have hn := firstT_pos hf
          cases hR : toks ((c :: r).drop n) (a + n) with
          | ok ts => rw [hR] at h; simp [Res.cons] at h
          | bad e' q' =>
            rw [hR] at h
            simp [Res.cons] at h
            obtain ⟨rfl, rfl⟩ := h
            exact toks_err N _ _ (by simp at hn ⊢; omega) hR
theorem flt_eql2 (a b c d : Int) (w : World) : (binOp .eql 25 (.agg #[.int .i64 a, .int .i64 b]) (.agg #[.int .i64 c, .int .i64 d])).run Tryd.prog w = .ok (.bool (decide (a = c ∧ b = d))) w := by
  by_cases h1 : a = c
  · by_cases h2 : b = d
    · subst h1 h2
      rw [decide_eq_true ⟨rfl, rfl⟩]
      go_simp
    · rw [decide_eq_false (fun h => h2 h.2)]
      go_simp
  · rw [decide_eq_false (fun h => h1 h.1)]
    go_simp
/-- Tokens, as a caller takes it -/
theorem Tokens_at {s : ByteArray} {R : Res} (hR : tokens s.data.toList = R) (w : World) (hg : Gl w) (hs : s.size ≤ maxLen) : Calls Tryd.prog 4 #[.string s] w fun e w' => ∃ a c, e = .returned (.tuple #[.slice a R.ts.length c, R.flt]) ∧ TL w' a R.ts ∧ R.ts.length ≤ maxLen ∧ Below w.heap.size w w' := by
  refine (Tokens_any s w hg hs).mono fun e w' => ?_
  rw [hR]
  rintro ⟨sv, rfl, hown, hb⟩
  obtain ⟨a, c, rfl, hm, htl⟩ := TL_of_own hown
  exact ⟨a, c, rfl, htl, hm, hb⟩
theorem app_data (s : ByteArray) (l : List UInt8) : (s ++ (⟨l.toArray⟩ : ByteArray)).data.toList = s.data.toList ++ l := by
  simp [ByteArray.data_append]

set_option maxHeartbeats 6400000 in
set_option maxRecDepth 100000 in
theorem LexBlames_any (s : ByteArray) (w : World) (hg : Gl w) (hs : s.size ≤ maxLen) : Calls Tryd.prog 3 #[.string s] w fun e w' => e = .returned (.bool true) ∧ Below w.heap.size w w' := by
  have HM : Hid (s.size ≤ maxLen) := hs
  unfold maxLen at hs
  cases hR : tokens s.data.toList with
  | ok ts =>
    have hsz : s.size ≤ 65536 := by
      unfold tokens at hR
      rw [len_toList] at hR
      split at hR
      · cases hR
      · omega
    have hT : toks s.data.toList 0 = .ok ts := by
      unfold tokens at hR
      rw [len_toList, if_neg (by omega)] at hR
      exact hR
    have hK := Tokens_at hR w hg HM.out
    have HW : Hid _ := toks_wrong _ _ 0 (Nat.le_refl _) hT
    clear hR hT
    go_enter Tryd.func3, Tryd.ntmps3
    go_wp2_with fail
    refine hK.mono ?_
    rintro e w1 ⟨a, c, rfl, htl, hm, hb1⟩
    have hg1 := hg.below hb1
    unfold Res.flt
    have hgA : Gl (w1.alloc (.cells #[.int .i64 0, .int .i64 0] 25)) := hg1.alloc _
    have bA := hb1.alloc hb1.size (.cells #[.int .i64 0, .int .i64 0] 25)
    clear hK htl hb1 hg1 hg
    by_cases h3 : 65533 < s.size
    · have h3' : (65533 : Int) < (s.size : Int) := by omega
      clear HW
      go_wp2_with (first
        | (go_at_call 5; refine (lives_any _ hgA).mono ?_; rintro e w4 ⟨rfl, hb4⟩; have b4 := bA.trans (hb4.mono bA.size))
        | fail)
      go_ret
      exact ⟨rfl, b4⟩
    · have h3' : ¬ (65533 : Int) < (s.size : Int) := by omega
      have hsz2 : (s ++ (⟨#[10, 36]⟩ : ByteArray)).size = s.size + 2 := by rw [← len_toList, app_data s [10, 36], List.length_append, len_toList]; rfl
      have hR2 : tokens (s ++ (⟨#[10, 36]⟩ : ByteArray)).data.toList = .bad 31 (s.size + 1) := by
        unfold tokens
        rw [len_toList, hsz2, if_neg (by omega), app_data s [10, 36], HW.out, len_toList]
        simp
      have HK : Hid _ := Tokens_at hR2 _ hgA (by rw [hsz2]; unfold maxLen; omega)
      have hls : ((31 : Int) = 31 ∧ ((s.size + 1 : Nat) : Int) = (s.size : Int) + 1) = True := by simp
      have hls' : ((s.size + 1 : Nat) : Int) = (s.size : Int) + 1 := by omega
      have hfe := fun w => flt_eql2 31 ((s.size : Int) + 1) 31 ((s.size : Int) + 1) w
      clear HW hR2 hls
      go_wp2_with fail
      refine Calls.mono HK.out ?_
      rintro e w2 ⟨a2, c2, rfl, htl2, hm2, hb2⟩
      rw [show (Res.bad 31 (s.size + 1)).flt = .agg #[.int .i64 31, .int .i64 ((s.size : Int) + 1)] by simp [Res.flt]]
      have hg2 := hgA.below hb2
      have hg2A : Gl (w2.alloc (.cells #[.int .i64 31, .int .i64 ((s.size : Int) + 1)] 25)) := hg2.alloc _
      have b2 := bA.trans (hb2.mono bA.size)
      have b2A := b2.alloc b2.size (.cells #[.int .i64 31, .int .i64 ((s.size : Int) + 1)] 25)
      clear htl2 hb2 hg2 b2
      go_wp2_with (first
        | (go_at_call 5; refine (lives_any _ hg2A).mono ?_; rintro e w4 ⟨rfl, hb4⟩; have b4 := b2A.trans (hb4.mono b2A.size))
        | fail)
      go_ret
      exact ⟨rfl, b4⟩
  | bad e q =>
    have hK := Tokens_at hR w hg HM.out
    by_cases hbig : 65536 < s.size
    · have hbig' : (65536 : Int) < (s.size : Int) := by omega
      obtain ⟨rfl, rfl⟩ : e = 30 ∧ q = 65536 := by
        unfold tokens at hR
        rw [len_toList, if_pos hbig] at hR
        simp at hR
        exact ⟨hR.1.symm, hR.2.symm⟩
      clear hR
      have hfe := fun w => flt_eql2 30 65536 30 65536 w
      go_enter Tryd.func3, Tryd.ntmps3
      go_wp2_with fail
      refine hK.mono ?_
      rintro e w1 ⟨a, c, rfl, htl, hm, hb1⟩
      unfold Res.flt
      have bA := hb1.alloc hb1.size (.cells #[.int .i64 30, .int .i64 65536] 25)
      clear hK htl hb1 hg
      go_wp2_with fail
      go_ret
      exact ⟨rfl, bA⟩
    · have hbig' : ¬ (65536 : Int) < (s.size : Int) := by omega
      have hT : toks s.data.toList 0 = .bad e q := by
        unfold tokens at hR
        rw [len_toList, if_neg hbig] at hR
        exact hR
      have he0 := toks_err _ _ 0 (Nat.le_refl _) hT
      obtain ⟨k, hqk, hk, ⟨ts, h1⟩, h2⟩ := toks_fault _ _ 0 (Nat.le_refl _) hT
      rw [len_toList] at hk
      obtain rfl : q = k := by omega
      have hk' : ¬ (s.size : Int) ≤ (q : Int) := by omega
      have hk'' : (q : Int) ≤ (s.size : Int) := by omega
      have hq0 : ¬ (q : Int) < 0 := by omega
      have z1 := ext_size s (k := q) (by omega)
      obtain ⟨l2, z2⟩ := ext_end s (p := q) (by omega)
      obtain ⟨x, hx⟩ : ∃ x, s.extract 0 q = x := ⟨_, rfl⟩
      obtain ⟨y, hy⟩ : ∃ y, s.extract q s.size = y := ⟨_, rfl⟩
      have hRx : tokens x.data.toList = .ok ts := by
        unfold tokens
        rw [len_toList, ← hx, z1, if_neg (by omega), ext_take]
        exact h1
      have hRy : tokens y.data.toList = .bad e 0 := by
        unfold tokens
        rw [len_toList, ← hy, z2, if_neg (by omega), l2]
        exact h2 0
      have hxm : x.size ≤ maxLen := by rw [← hx, z1]; unfold maxLen; omega
      have hym : y.size ≤ maxLen := by rw [← hy, z2]; unfold maxLen; omega
      have HX : Hid _ := fun w hg => Tokens_at hRx w hg hxm
      have HY : Hid _ := fun w hg => Tokens_at hRy w hg hym
      have hfe := fun w => flt_eql2 e 0 e 0 w
      have hfz := fun w => flt_eql2 0 0 0 0 w
      clear hR hT h1 h2 z1 z2 l2 hRx hRy hxm hym hqk
      go_enter Tryd.func3, Tryd.ntmps3
      go_wp2_with fail
      refine hK.mono ?_
      rintro e' w1 ⟨a, c, rfl, htl, hm, hb1⟩
      have hg1 := hg.below hb1
      unfold Res.flt
      have hgA : Gl (w1.alloc (.cells #[.int .i64 e, .int .i64 q] 25)) := hg1.alloc _
      have bA := hb1.alloc hb1.size (.cells #[.int .i64 e, .int .i64 q] 25)
      clear hK htl hb1 hg1 hg
      go_wp2_with fail
      refine (HX.out _ hgA).mono ?_
      rintro e' w2 ⟨a2, c2, rfl, htl2, hm2, hb2⟩
      unfold Res.flt
      have k0 := kept_cell hb2 0 _ rfl
      have k1 := kept_cell hb2 1 _ rfl
      have hg2 := hgA.below hb2
      have b2 := bA.trans (hb2.mono bA.size)
      have hg2A : Gl (w2.alloc (.cells #[.int .i64 0, .int .i64 0] 25)) := hg2.alloc _
      have b2A := b2.alloc b2.size (.cells #[.int .i64 0, .int .i64 0] 25)
      clear htl2 hb2 hg2 hgA bA b2
      have hlt1 : w1.heap.size < w2.heap.size := World.block_lt_of_cell? _ _ k0
      go_wp2_with fail
      refine (HY.out _ hg2A).mono ?_
      rintro e' w3 ⟨a3, c3, rfl, htl3, hm3, hb3⟩
      unfold Res.flt
      have j0 := kept_cell hb3 0 _ rfl
      have j1 := kept_cell hb3 1 _ rfl
      have m0 : w3.cell? ⟨w1.heap.size, 0, none⟩ = some (.int .i64 e) := by
        rw [hb3.cell (p := ⟨w1.heap.size, 0, none⟩) (by simp; omega)]
        go_simp
      have m1 : w3.cell? ⟨w1.heap.size, 1, none⟩ = some (.int .i64 q) := by
        rw [hb3.cell (p := ⟨w1.heap.size, 1, none⟩) (by simp; omega)]
        go_simp
      have hg3 := hg2A.below hb3
      have b3 := b2A.trans (hb3.mono b2A.size)
      have hg3A : Gl (w3.alloc (.cells #[.int .i64 e, .int .i64 0] 25)) := hg3.alloc _
      have b3A := b3.alloc b3.size (.cells #[.int .i64 e, .int .i64 0] 25)
      clear htl3 hb3 hg3 hg2A b2A b3
      have hlt2 : w2.heap.size < w3.heap.size := World.block_lt_of_cell? _ _ j0
      have hlt3 : w1.heap.size < w3.heap.size := by omega
      go_wp2_with (first
        | (go_at_call 5; refine (lives_any _ hg3A).mono ?_; rintro e w4 ⟨rfl, hb4⟩; have b4 := b3A.trans (hb4.mono b3A.size))
        | fail)
      go_ret
      exact ⟨rfl, b4⟩
end Go.Proofs.YteiapnidjegdeabDoor
