import Derived.Test.YtoppgalbmijhdaaGreatDoorTwin
namespace Go.Proofs.YtoppgalbmijhdaaGreatDoor.AR
open Go.RowKit
set_option linter.unusedVariables false
attribute [local go_sem ↓] Go.wp_at_zero Go.wp_at_succ

/-- the order of two lists, r rounds ahead of the shorter one's end -/
def tupC (c : Nat → Int) (n m : Nat) : Nat → Int
  | 0 => if n < m then -1 else if m < n then 1 else 0
  | r + 1 => if c (min n m - (r + 1)) = 0 then tupC c n m r else c (min n m - (r + 1))

theorem tupC_step (c : Nat → Int) (n m k : Nat) (h : k < min n m) : tupC c n m (min n m - k) = if c k = 0 then tupC c n m (min n m - (k + 1)) else c k := by
  obtain ⟨r, hr⟩ : ∃ r, min n m - k = r + 1 := ⟨min n m - k - 1, by omega⟩
  rw [hr, show min n m - (k + 1) = r by omega]
  simp only [tupC]
  rw [show min n m - (r + 1) = k by omega]

theorem Lst.form {w : World} {v : Value} {n : Nat} {K N : Nat → Int} {S : Nat → ByteArray} (l : Lst w v n K N S) : ∃ a cap, v = .slice a n cap ∧ n ≤ maxLen ∧ (0 < n → ∃ g off, a = some ⟨g, off, none⟩ ∧ Cells w g off n K N S) := by
  obtain ⟨hn, ⟨a, d, rfl, rfl⟩ | ⟨g, off, cap, rfl, _, _, c⟩⟩ := l
  · exact ⟨a, d, rfl, hn, fun h => by omega⟩
  · exact ⟨_, cap, rfl, hn, fun _ => ⟨g, off, rfl, c⟩⟩

set_option maxHeartbeats 1600000 in
theorem compareFunc_any (a b : Option Addr) (n m c d : Nat) (K N : Nat → Int) (S : Nat → ByteArray) (K' N' : Nat → Int) (S' : Nat → ByteArray) (w : World) (hn : n ≤ maxLen) (hm : m ≤ maxLen)
    (ha : 0 < n → ∃ g off, a = some ⟨g, off, none⟩ ∧ Cells w g off n K N S) (hb : 0 < m → ∃ g off, b = some ⟨g, off, none⟩ ∧ Cells w g off m K' N' S') :
    Calls Tryz.prog 81 #[.slice a n c, .slice b m d, .func (.func 82) #[] #[]] w fun e w' => e = .returned (.int .i64 (tupC (fun i => cmpV (K i) (N i) (S i) (K' i) (N' i) (S' i)) n m (min n m))) ∧ Below w.heap.size w w' := by
  unfold maxLen at hn hm
  go_enter Tryz.func81, Tryz.ntmps81
  go_wp2
  go_loopw [13] (fun i wr => ∃ k : Nat, k ≤ n ∧ k ≤ m ∧ i = .int .i64 k ∧ Hid (tupC (fun i => cmpV (K i) (N i) (S i) (K' i) (N' i) (S' i)) n m (min n m) = tupC (fun i => cmpV (K i) (N i) (S i) (K' i) (N' i) (S' i)) n m (min n m - k)) ∧ Below w.heap.size w wr) (fun i _ => n - (intOf i).toNat)
  case atStart => exact ⟨0, Nat.zero_le _, Nat.zero_le _, rfl, rfl, Below.refl _ _⟩
  case round =>
    obtain ⟨k, hk, hkm, rfl, HT, bel⟩ := hrel
    by_cases hlt : k < n
    · obtain ⟨g, off, rfl, hc⟩ := ha (by omega)
      have v := hc.below bel
      have x0 := v.kind k hlt
      have x1 := v.num k hlt
      have x2 := v.text k hlt
      have hz := bel.size
      by_cases hlm : k < m
      · obtain ⟨g', off', rfl, hc'⟩ := hb (by omega)
        have v' := hc'.below bel
        have y0 := v'.kind k hlm
        have y1 := v'.num k hlm
        have y2 := v'.text k hlm
        have hg := v.lt (by omega)
        have hg' := v'.lt (by omega)
        have HS := tupC_step (fun i => cmpV (K i) (N i) (S i) (K' i) (N' i) (S' i)) n m k (by omega)
        have HS' : Hid (tupC (fun i => cmpV (K i) (N i) (S i) (K' i) (N' i) (S' i)) n m (min n m - k) = if cmpV (K k) (N k) (S k) (K' k) (N' k) (S' k) = 0 then tupC (fun i => cmpV (K i) (N i) (S i) (K' i) (N' i) (S' i)) n m (min n m - (k + 1)) else cmpV (K k) (N k) (S k) (K' k) (N' k) (S' k)) := HS
        clear HS ha hb hc hc' v v'
        go_wp2_with fail
        refine (vcompare_any _ _ _ _ _ _ _).mono ?_
        rintro e w1 ⟨rfl, hb1⟩
        have bel1 : Below w.heap.size w w1 := ((bel.alloc hz _).alloc (by simp; omega) _).trans (hb1.mono (by simp; omega))
        clear hb1
        by_cases hc0 : cmpV (K k) (N k) (S k) (K' k) (N' k) (S' k) = 0
        · go_wp2
          go_roundw
          case rel => exact ⟨k + 1, by omega, by omega, by go_num, by show _ = _; rw [HT.out, HS'.out]; exact if_pos hc0, bel1⟩
          case measure => simp [intOf]; omega
        · have hc1 : (cmpV (K k) (N k) (S k) (K' k) (N' k) (S' k) != 0) = true := by simpa using hc0
          have HC : Hid (¬ cmpV (K k) (N k) (S k) (K' k) (N' k) (S' k) = 0) := hc0
          clear hc0
          go_wp2
          go_ret
          exact ⟨ret_int (by rw [HT.out, HS'.out]; exact (if_neg HC.out).symm), bel1⟩
      · obtain rfl : k = m := by omega
        have HF : Hid (tupC (fun i => cmpV (K i) (N i) (S i) (K' i) (N' i) (S' i)) n k (min n k - k) = 1) := by
          show _ = (1 : Int)
          rw [show min n k - k = 0 by omega]
          simp only [tupC]
          rw [if_neg (by omega), if_pos hlt]
        clear ha hb hc v
        go_wp2
        go_ret
        exact ⟨ret_int (by rw [HT.out, HF.out]), bel.alloc hz _⟩
    · obtain rfl : k = n := by omega
      by_cases hlm : k < m
      · have HF : Hid (tupC (fun i => cmpV (K i) (N i) (S i) (K' i) (N' i) (S' i)) k m (min k m - k) = -1) := by
          show _ = (-1 : Int)
          rw [show min k m - k = 0 by omega]
          simp only [tupC]
          rw [if_pos hlm]
        clear ha hb
        go_wp2
        go_ret
        exact ⟨ret_int (by rw [HT.out, HF.out]), bel⟩
      · have HF : Hid (tupC (fun i => cmpV (K i) (N i) (S i) (K' i) (N' i) (S' i)) k m (min k m - k) = 0) := by
          show _ = (0 : Int)
          rw [show min k m - k = 0 by omega]
          simp only [tupC]
          rw [if_neg hlm, if_neg (by omega)]
        clear ha hb
        go_wp2
        go_ret
        exact ⟨ret_int (by rw [HT.out, HF.out]), bel⟩

theorem vcompareTuples_any (v v' : Value) (n m : Nat) (K N : Nat → Int) (S : Nat → ByteArray) (K' N' : Nat → Int) (S' : Nat → ByteArray) (w : World) (hl : Lst w v n K N S) (hl' : Lst w v' m K' N' S') :
    Calls Tryz.prog 72 #[v, v'] w fun e w' => e = .returned (.int .i64 (tupC (fun i => cmpV (K i) (N i) (S i) (K' i) (N' i) (S' i)) n m (min n m))) ∧ Below w.heap.size w w' := by
  obtain ⟨a, c, rfl, hn, ha⟩ := hl.form
  obtain ⟨b, d, rfl, hm, hb⟩ := hl'.form
  clear hl hl'
  go_enter Tryz.func72, Tryz.ntmps72
  go_wp2_with fail
  refine (compareFunc_any a b n m c d K N S K' N' S' _ hn hm ha hb).mono ?_
  rintro e w1 ⟨rfl, hb1⟩
  go_wp2
  go_ret
  exact ⟨rfl, hb1⟩

set_option maxHeartbeats 1600000 in
theorem rcompareTuples_any (v v' : Value) (n m : Nat) (K N : Nat → Int) (S : Nat → ByteArray) (K' N' : Nat → Int) (S' : Nat → ByteArray) (w : World) (hl : Lst w v n K N S) (hl' : Lst w v' m K' N' S') :
    Calls Tryz.prog 35 #[v, v'] w fun e w' => e = .returned (.int .i64 (tupC (fun i => cmpV (K i) (N i) (S i) (K' i) (N' i) (S' i)) n m (min n m))) ∧ Below w.heap.size w w' := by
  obtain ⟨a, c, rfl, hn, ha⟩ := hl.form
  obtain ⟨b, d, rfl, hm, hb⟩ := hl'.form
  clear hl hl'
  unfold maxLen at hn hm
  go_enter Tryz.func35, Tryz.ntmps35
  go_wp2
  go_loopw [5] (fun i wr => ∃ k : Nat, k ≤ n ∧ k ≤ m ∧ i = .int .i64 k ∧ Hid (tupC (fun i => cmpV (K i) (N i) (S i) (K' i) (N' i) (S' i)) n m (min n m) = tupC (fun i => cmpV (K i) (N i) (S i) (K' i) (N' i) (S' i)) n m (min n m - k)) ∧ Below w.heap.size w wr) (fun i _ => n - (intOf i).toNat)
  case atStart => exact ⟨0, Nat.zero_le _, Nat.zero_le _, rfl, rfl, Below.refl _ _⟩
  case round =>
    obtain ⟨k, hk, hkm, rfl, HT, bel⟩ := hrel
    have hz := bel.size
    by_cases hlt : k < n
    · by_cases hlm : k < m
      · obtain ⟨g, off, rfl, hc⟩ := ha (by omega)
        obtain ⟨g', off', rfl, hc'⟩ := hb (by omega)
        have v := hc.below bel
        have x0 := v.kind k hlt
        have x1 := v.num k hlt
        have x2 := v.text k hlt
        have v' := hc'.below bel
        have y0 := v'.kind k hlm
        have y1 := v'.num k hlm
        have y2 := v'.text k hlm
        have HS' : Hid (tupC (fun i => cmpV (K i) (N i) (S i) (K' i) (N' i) (S' i)) n m (min n m - k) = if cmpV (K k) (N k) (S k) (K' k) (N' k) (S' k) = 0 then tupC (fun i => cmpV (K i) (N i) (S i) (K' i) (N' i) (S' i)) n m (min n m - (k + 1)) else cmpV (K k) (N k) (S k) (K' k) (N' k) (S' k)) := tupC_step (fun i => cmpV (K i) (N i) (S i) (K' i) (N' i) (S' i)) n m k (by omega)
        have i1 : (k : Int) < (n : Int) := by omega
        have i2 : (k : Int) < (m : Int) := by omega
        have i3 : (0 : Int) ≤ (k : Int) := by omega
        clear ha hb hc hc' v v'
        by_cases hc0 : cmpV (K k) (N k) (S k) (K' k) (N' k) (S' k) = 0
        · go_wp2_with fail
          go_region_with (go_at_call 44; refine (rcompare_any _ _ _ _ _ _ _).mono ?_; rintro e w1 ⟨rfl, hb1⟩)
          all_goals
            have bel1 : Below w.heap.size w w1 := bel.drew.trans (hb1.mono hz)
            go_wp2
            go_roundw
            case rel => exact ⟨k + 1, by omega, by omega, by go_num, by show _ = _; rw [HT.out, HS'.out]; exact if_pos hc0, bel1⟩
            case measure => simp [intOf]; omega
        · have hc1 : (cmpV (K k) (N k) (S k) (K' k) (N' k) (S' k) != 0) = true := by simpa using hc0
          have HC : Hid (¬ cmpV (K k) (N k) (S k) (K' k) (N' k) (S' k) = 0) := hc0
          clear hc0
          go_wp2_with fail
          go_region_with (go_at_call 44; refine (rcompare_any _ _ _ _ _ _ _).mono ?_; rintro e w1 ⟨rfl, hb1⟩)
          all_goals
            have bel1 : Below w.heap.size w w1 := bel.drew.trans (hb1.mono hz)
            go_wp2
            go_ret
            exact ⟨ret_int (by rw [HT.out, HS'.out]; exact (if_neg HC.out).symm), bel1⟩
      · obtain rfl : k = m := by omega
        have HF : Hid (tupC (fun i => cmpV (K i) (N i) (S i) (K' i) (N' i) (S' i)) n k (min n k - k) = 1) := by
          show _ = (1 : Int)
          rw [show min n k - k = 0 by omega]
          simp only [tupC]
          rw [if_neg (by omega), if_pos hlt]
        clear ha hb
        go_wp2
        go_ret
        exact ⟨ret_int (by rw [HT.out, HF.out]), bel⟩
    · obtain rfl : k = n := by omega
      by_cases hlm : k < m
      · have HF : Hid (tupC (fun i => cmpV (K i) (N i) (S i) (K' i) (N' i) (S' i)) k m (min k m - k) = -1) := by
          show _ = (-1 : Int)
          rw [show min k m - k = 0 by omega]
          simp only [tupC]
          rw [if_pos hlm]
        clear ha hb
        go_wp2
        go_ret
        exact ⟨ret_int (by rw [HT.out, HF.out]), bel⟩
      · have HF : Hid (tupC (fun i => cmpV (K i) (N i) (S i) (K' i) (N' i) (S' i)) k m (min k m - k) = 0) := by
          show _ = (0 : Int)
          rw [show min k m - k = 0 by omega]
          simp only [tupC]
          rw [if_neg hlm, if_neg (by omega)]
        clear ha hb
        go_wp2
        go_ret
        exact ⟨ret_int (by rw [HT.out, HF.out]), bel⟩

theorem sameTo_mark {K N : Nat → Int} {S : Nat → ByteArray} {n : Nat} : ∀ k, k ≤ n → sameTo (markK n K) (markN n N) (markS n S) K N S k = true
  | 0, _ => rfl
  | k + 1, h => by
    have e : ¬ k = n := by omega
    simp [sameTo, sameTo_mark (n := n) k (by omega), markK, markN, markS, e, cmpV_s0 _ _ rfl]

theorem Cells.lst {w : World} {g off n c : Nat} {K N : Nat → Int} {S : Nat → ByteArray} (h : Cells w g off n K N S) (hn : n ≤ c) (hc : c ≤ maxLen) : Lst w (.slice (some ⟨g, off, none⟩) n c) n K N S :=
  ⟨Nat.le_trans hn hc, .inr ⟨g, off, c, rfl, hn, hc, h⟩⟩

set_option maxHeartbeats 800000 in
theorem leftValues_true (v : Value) (B n : Nat) (K N : Nat → Int) (S : Nat → ByteArray) (w : World) (hn : n ≤ 1048576) (hc : Cells w B 0 (n + 1) (markK n K) (markN n N) (markS n S)) (hl : Lst w v n K N S) :
    Calls Tryz.prog 32 #[.slice (some ⟨B, 0, none⟩) n (n + 1), v] w fun e w' => e = .returned (.bool true) ∧ Below w.heap.size w w' := by
  have hs : sameB n n (markK n K) (markN n N) (markS n S) K N S = true := by simp [sameB, sameTo_mark n (Nat.le_refl _)]
  have hc' := (hc.take (Nat.le_succ n)).lst (Nat.le_succ n) (by unfold maxLen; omega)
  obtain ⟨a, d, rfl, _, _⟩ := hl.form
  go_enter Tryz.func32, Tryz.ntmps32
  go_wp2_with fail
  refine (sameValues_any _ _ n n _ _ _ _ _ _ _ hc' hl).mono ?_
  rintro e w1 ⟨rfl, hb1⟩
  have c1 := hc.below hb1
  have x0 := c1.kind n (by omega)
  have x1 := c1.num n (by omega)
  have x2 := c1.text n (by omega)
  simp only [markK, markN, markS, if_true, Nat.zero_add] at x0 x1 x2
  have i1 : (n : Int) < (n : Int) + 1 := by omega
  have i2 : (0 : Int) ≤ (n : Int) := by omega
  have i3 : (n : Int) ≤ 1048576 := by omega
  clear hc hl c1 hc'
  go_wp2_with fail
  refine (isValue_mark _ _).mono ?_
  rintro e w2 ⟨rfl, hb2⟩
  go_wp2
  go_ret
  exact ⟨rfl, hb1.trans (hb2.mono hb1.size)⟩

end Go.Proofs.YtoppgalbmijhdaaGreatDoor.AR
