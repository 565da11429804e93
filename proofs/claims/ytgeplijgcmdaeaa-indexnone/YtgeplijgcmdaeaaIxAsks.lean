import Derived.Test.YtgeplijgcmdaeaaIxRf
import Derived.Test.YtgeplijgcmdaeaaIxKm
namespace Go.Proofs.Ytgeplijgcmdaeaa
open Go.RowKit Go.Maps Go.ChangeMaps
set_option linter.unusedVariables false
set_option linter.unusedSimpArgs false
attribute [local go_sem ↓] Go.wp_at_zero Go.wp_at_succ

attribute [-go_sem] loadVar
/-- a kept book of n lists -/
def Kb (w : World) (kb B n : Nat) : Prop := ∃ vI vM hsI hsM, BK.Bk w kb B n vI vM hsI hsM ∧ hsI.length ≤ n ∧ hsM.length ≤ n
theorem Kb.below {w w' : World} {kb B n : Nat} (h : Kb w kb B n) (hb : Below w.heap.size w w') : Kb w' kb B n := by
  obtain ⟨vI, vM, hsI, hsM, h, h1, h2⟩ := h
  exact ⟨vI, vM, hsI, hsM, h.below hb, h1, h2⟩
set_option maxHeartbeats 800000 in
set_option maxRecDepth 100000 in
theorem ints_kb {w : World} {kb B n : Nat} (h : Kb w kb B n) (hB : B ≤ w.heap.size) (hn : n ≤ 1000) (a : Option Addr) (k c : Nat) :
    Calls Try.prog 24 #[.pointer (some ⟨kb, 0, none⟩), .slice a k c] w fun e w' => e = .returned (.tuple #[]) ∧ Kb w' kb B (n + 1) ∧ BK.Tch (BK.EB kb B) w w' := by
  obtain ⟨vI, vM, hsI, hsM, hb, h1, h2⟩ := h
  have HK := Lib.hid (BK.keepI_any hb hB a k c (by omega) (by omega))
  clear hb
  go_enter Try.func24, Try.ntmps24
  go_wp2_with fail
  refine HK.out.mono ?_
  rintro e w1 ⟨rfl, a', c', hb', ht⟩
  have HF : Hid (Kb w1 kb B (n + 1) ∧ BK.Tch (BK.EB kb B) w w1) := ⟨⟨_, _, _, _, hb', by simp only [List.length_append, List.length_cons, List.length_nil]; omega, by omega⟩, ht⟩
  clear hb' ht HK
  go_wp2
  go_end0
  exact ⟨rfl, HF.out⟩
set_option maxHeartbeats 800000 in
set_option maxRecDepth 100000 in
theorem masks_kb {w : World} {kb B n : Nat} (h : Kb w kb B n) (hB : B ≤ w.heap.size) (hn : n ≤ 1000) (a : Option Addr) (k c : Nat) :
    Calls Try.prog 28 #[.pointer (some ⟨kb, 0, none⟩), .slice a k c] w fun e w' => e = .returned (.tuple #[]) ∧ Kb w' kb B (n + 1) ∧ BK.Tch (BK.EB kb B) w w' := by
  obtain ⟨vI, vM, hsI, hsM, hb, h1, h2⟩ := h
  have HK := Lib.hid (BK.keepR_any hb hB a k c (by omega) (by omega))
  clear hb
  go_enter Try.func28, Try.ntmps28
  go_wp2_with fail
  refine HK.out.mono ?_
  rintro e w1 ⟨rfl, a', c', hb', ht⟩
  have HF : Hid (Kb w1 kb B (n + 1) ∧ BK.Tch (BK.EB kb B) w w1) := ⟨⟨_, _, _, _, hb', by omega, by simp only [List.length_append, List.length_cons, List.length_nil]; omega⟩, ht⟩
  clear hb' ht HK
  go_wp2
  go_end0
  exact ⟨rfl, HF.out⟩
/-- an Op's cells -/
def opC (k on bo m : Int) (r : List Int) : Array Value := (Value.int .i64 k :: Value.int .i64 on :: Value.int .i64 bo :: Value.int .u32 m :: r.map cellI).toArray
theorem op_at {w : World} {b : Nat} {k on bo m : Int} {r : List Int} (h : RL w b 28 (opC k on bo m r).toList) (hr : r.length = 24) :
    (loadVar 3 ⟨b, 0, none⟩).run Try.prog w = .ok (.int .i64 k) w ∧ (loadVar 23 ⟨b, 3, none⟩).run Try.prog w = .ok (.int .u32 m) w ∧ (loadVar 26 ⟨b, 4, none⟩).run Try.prog w = .ok (.agg (r.map cellI).toArray) w := by
  refine ⟨load_intX (RL.at h (j := 0) rfl), load_maskX (RL.at h (j := 3) rfl), ?_⟩
  refine run_loadVar_mid w b 4 26 (r.map cellI) _ (fun j v hj => ?_) Try.underlying26 rfl (by rw [List.length_map, hr]; exact infoRow)
  exact RL.at h (j := 4 + j) (by rw [Nat.add_comm 4 j]; exact hj)
set_option maxHeartbeats 3200000 in
set_option maxRecDepth 100000 in
theorem asks_no {w : World} {p : Value} {q kb B n : Nat} (hp : NoBk w p) (hq : NoRf w q) (hk : Kb w kb B n) (hB : B ≤ w.heap.size) (hn : n ≤ 900) (k on bo m : Int) (r : List Int) (hr : r.length = 24) :
    Calls Try.prog 7 #[p, .pointer (some ⟨q, 0, none⟩), .slice none 0 0, .agg (opC k on bo m r), .pointer (some ⟨kb, 0, none⟩)] w fun e w' => e = .returned (.bool true) ∧ ∃ n', n' ≤ n + 2 ∧ Kb w' kb B n' ∧ BK.Tch (BK.EB kb B) w w' := by
  have hb0 := belowA (w := w) (.cells (opC k on bo m r) 28)
  obtain ⟨U, hU⟩ : ∃ U, U = w.alloc (.cells (opC k on bo m r) 28) := ⟨_, rfl⟩
  have hop : RL U w.heap.size 28 (opC k on bo m r).toList := by rw [hU]; exact rl_new w _ _
  rw [← hU] at hb0
  have HOP := Lib.hid hop
  have HP := Lib.hid (hp.below hb0)
  have HQ := Lib.hid (NoRf.below hq hb0)
  have HK := Lib.hid (Kb.below hk hb0)
  have HBW := Lib.hid hb0
  have HB0 : Hid (Below U.heap.size U U) := Below.refl _ _
  have hBU : B ≤ U.heap.size := Nat.le_trans hB hb0.size
  have hpf := hp.form
  obtain ⟨l1, l2, l3⟩ := op_at hop hr
  have HLD : Hid (∀ u, Below U.heap.size U u → (loadVar 3 ⟨w.heap.size, 0, none⟩).run Try.prog u = .ok (.int .i64 k) u ∧ (loadVar 23 ⟨w.heap.size, 3, none⟩).run Try.prog u = .ok (.int .u32 m) u ∧ (loadVar 26 ⟨w.heap.size, 4, none⟩).run Try.prog u = .ok (.agg (r.map cellI).toArray) u) := fun u hu => op_at (RL.below hop hu) hr
  have hbx : ∀ u : World, u = w → True := fun _ _ => trivial
  clear hp hq hk hb0 hop hbx
  generalize opC k on bo m r = oc at hU HOP ⊢
  rcases hpf with rfl | ⟨t, rfl⟩
  all_goals
    go_enter Try.func7, Try.ntmps7
    go_upto_region 1 with fail
    rw [← hU]
    clear hU
    by_cases h3 : k = 3
    · subst h3
      have HC1 := Lib.hid (look_nob HP.out m (r := r))
      try unfold rowV at HC1
      go_wp2_with fail
      refine HC1.out.mono ?_
      rintro e u1 ⟨rfl, b1⟩
      have HB1 : Hid (Below U.heap.size U u1) := HB0.out.trans (b1.mono HB0.out.size)
      have m1 := HLD.out u1 HB1.out
      obtain ⟨_, x1, y1⟩ := m1
      clear HC1 b1
      have HC2 := Lib.hid (rlook_no (NoRf.below HQ.out HB1.out) (.slice none 0 0) m r)
      try unfold rowV at HC2
      go_wp2_with fail
      refine HC2.out.mono ?_
      rintro e u2 ⟨rfl, b2⟩
      have HB2 : Hid (Below U.heap.size U u2) := HB1.out.trans (b2.mono HB1.out.size)
      have m2 := HLD.out u2 HB2.out
      obtain ⟨_, x2, y2⟩ := m2
      clear HC2 b2
      have HC3 := Lib.hid (look_nob (HP.out.below HB2.out) m (r := r))
      try unfold rowV at HC3
      go_wp2_with fail
      refine HC3.out.mono ?_
      rintro e u3 ⟨rfl, b3⟩
      have HB3 : Hid (Below U.heap.size U u3) := HB2.out.trans (b3.mono HB2.out.size)
      have m3 := HLD.out u3 HB3.out
      obtain ⟨_, x3, y3⟩ := m3
      clear HC3 b3
      have HC4 := Lib.hid (sameInts_zero none none 0 0 u3)
      try unfold rowV at HC4
      go_wp2_with fail
      refine HC4.out.mono ?_
      rintro e u4 ⟨rfl, b4⟩
      have HB4 : Hid (Below U.heap.size U u4) := HB3.out.trans (b4.mono HB3.out.size)
      have m4 := HLD.out u4 HB4.out
      obtain ⟨_, x4, y4⟩ := m4
      clear HC4 b4
      have HC5 := Lib.hid (sameInts_zero none none 0 0 u4)
      try unfold rowV at HC5
      go_wp2_with fail
      refine HC5.out.mono ?_
      rintro e u5 ⟨rfl, b5⟩
      have HB5 : Hid (Below U.heap.size U u5) := HB4.out.trans (b5.mono HB4.out.size)
      have m5 := HLD.out u5 HB5.out
      obtain ⟨_, x5, y5⟩ := m5
      clear HC5 b5
      have hs5 := HB5.out.size
      have HC6 := Lib.hid (ints_kb (Kb.below HK.out HB5.out) (Nat.le_trans hBU hs5) (by omega) none 0 0)
      go_wp2_with fail
      refine HC6.out.mono ?_
      rintro e u6 ⟨rfl, k6, t6⟩
      have HK6 := Lib.hid k6
      have HT6 : Hid (BK.Tch (BK.EB kb B) w u6) := BK.Tch.trans (BK.Tch.of_below (HBW.out.trans (HB5.out.mono HBW.out.size))) t6
      have HC7 := Lib.hid (ints_kb k6 (Nat.le_trans hBU (Nat.le_trans hs5 t6.size)) (by omega) none 0 0)
      clear k6 t6 HC6
      go_wp2_with fail
      refine HC7.out.mono ?_
      rintro e u7 ⟨rfl, k7, t7⟩
      have HF : Hid (∃ n', n' ≤ n + 2 ∧ Kb u7 kb B n' ∧ BK.Tch (BK.EB kb B) w u7) := ⟨n + 1 + 1, by omega, k7, BK.Tch.trans HT6.out t7⟩
      clear k7 t7 HC7 HK6 HT6
      go_wp2
      go_ret
      exact ⟨rfl, HF.out⟩
    by_cases h4 : k = 4
    · subst h4
      have HC1 := Lib.hid (count_nob HP.out m (r := r))
      try unfold rowV at HC1
      go_wp2_with fail
      refine HC1.out.mono ?_
      rintro e u1 ⟨rfl, b1⟩
      have HB1 : Hid (Below U.heap.size U u1) := HB0.out.trans (b1.mono HB0.out.size)
      have m1 := HLD.out u1 HB1.out
      obtain ⟨_, x1, y1⟩ := m1
      clear HC1 b1
      have HC2 := Lib.hid (rcount_no (NoRf.below HQ.out HB1.out) (.slice none 0 0) m r)
      try unfold rowV at HC2
      go_wp2_with fail
      refine HC2.out.mono ?_
      rintro e u2 ⟨rfl, b2⟩
      have HB2 : Hid (Below U.heap.size U u2) := HB1.out.trans (b2.mono HB1.out.size)
      have m2 := HLD.out u2 HB2.out
      obtain ⟨_, x2, y2⟩ := m2
      clear HC2 b2
      have HF : Hid (∃ n', n' ≤ n + 2 ∧ Kb u2 kb B n' ∧ BK.Tch (BK.EB kb B) w u2) := ⟨n, by omega, Kb.below HK.out HB2.out, BK.Tch.of_below (HBW.out.trans (HB2.out.mono HBW.out.size))⟩
      go_wp2
      go_ret
      exact ⟨rfl, HF.out⟩
    by_cases h5 : k = 5
    · subst h5
      have HC1 := Lib.hid (distinct_nob HP.out m)
      try unfold rowV at HC1
      go_wp2_with fail
      refine HC1.out.mono ?_
      rintro e u1 ⟨rfl, b1⟩
      have HB1 : Hid (Below U.heap.size U u1) := HB0.out.trans (b1.mono HB0.out.size)
      have m1 := HLD.out u1 HB1.out
      obtain ⟨_, x1, y1⟩ := m1
      clear HC1 b1
      have HC2 := Lib.hid (rdistinct_no (NoRf.below HQ.out HB1.out) (.slice none 0 0) m)
      try unfold rowV at HC2
      go_wp2_with fail
      refine HC2.out.mono ?_
      rintro e u2 ⟨rfl, b2⟩
      have HB2 : Hid (Below U.heap.size U u2) := HB1.out.trans (b2.mono HB1.out.size)
      have m2 := HLD.out u2 HB2.out
      obtain ⟨_, x2, y2⟩ := m2
      clear HC2 b2
      have HF : Hid (∃ n', n' ≤ n + 2 ∧ Kb u2 kb B n' ∧ BK.Tch (BK.EB kb B) w u2) := ⟨n, by omega, Kb.below HK.out HB2.out, BK.Tch.of_below (HBW.out.trans (HB2.out.mono HBW.out.size))⟩
      go_wp2
      go_ret
      exact ⟨rfl, HF.out⟩
    by_cases h6 : k = 6
    · subst h6
      have HC1 := Lib.hid (masks_nob HP.out)
      try unfold rowV at HC1
      go_wp2_with fail
      refine HC1.out.mono ?_
      rintro e u1 ⟨rfl, b1⟩
      have HB1 : Hid (Below U.heap.size U u1) := HB0.out.trans (b1.mono HB0.out.size)
      have m1 := HLD.out u1 HB1.out
      obtain ⟨_, x1, y1⟩ := m1
      clear HC1 b1
      have HC2 := Lib.hid (masks_nob (HP.out.below HB1.out))
      try unfold rowV at HC2
      go_wp2_with fail
      refine HC2.out.mono ?_
      rintro e u2 ⟨rfl, b2⟩
      have HB2 : Hid (Below U.heap.size U u2) := HB1.out.trans (b2.mono HB1.out.size)
      have m2 := HLD.out u2 HB2.out
      obtain ⟨_, x2, y2⟩ := m2
      clear HC2 b2
      have HC3 := Lib.hid (rmasks_no (NoRf.below HQ.out HB2.out))
      try unfold rowV at HC3
      go_wp2_with fail
      refine HC3.out.mono ?_
      rintro e u3 ⟨rfl, b3⟩
      have HB3 : Hid (Below U.heap.size U u3) := HB2.out.trans (b3.mono HB2.out.size)
      have m3 := HLD.out u3 HB3.out
      obtain ⟨_, x3, y3⟩ := m3
      clear HC3 b3
      have HC4 := Lib.hid (sameMasks_zero none none 0 0 u3)
      try unfold rowV at HC4
      go_wp2_with fail
      refine HC4.out.mono ?_
      rintro e u4 ⟨rfl, b4⟩
      have HB4 : Hid (Below U.heap.size U u4) := HB3.out.trans (b4.mono HB3.out.size)
      have m4 := HLD.out u4 HB4.out
      obtain ⟨_, x4, y4⟩ := m4
      clear HC4 b4
      have HC5 := Lib.hid (sameMasks_zero none none 0 0 u4)
      try unfold rowV at HC5
      go_wp2_with fail
      refine HC5.out.mono ?_
      rintro e u5 ⟨rfl, b5⟩
      have HB5 : Hid (Below U.heap.size U u5) := HB4.out.trans (b5.mono HB4.out.size)
      have m5 := HLD.out u5 HB5.out
      obtain ⟨_, x5, y5⟩ := m5
      clear HC5 b5
      have hs5 := HB5.out.size
      have HC6 := Lib.hid (masks_kb (Kb.below HK.out HB5.out) (Nat.le_trans hBU hs5) (by omega) none 0 0)
      go_wp2_with fail
      refine HC6.out.mono ?_
      rintro e u6 ⟨rfl, k6, t6⟩
      have HK6 := Lib.hid k6
      have HT6 : Hid (BK.Tch (BK.EB kb B) w u6) := BK.Tch.trans (BK.Tch.of_below (HBW.out.trans (HB5.out.mono HBW.out.size))) t6
      have HC7 := Lib.hid (masks_kb k6 (Nat.le_trans hBU (Nat.le_trans hs5 t6.size)) (by omega) none 0 0)
      clear k6 t6 HC6
      go_wp2_with fail
      refine HC7.out.mono ?_
      rintro e u7 ⟨rfl, k7, t7⟩
      have HF : Hid (∃ n', n' ≤ n + 2 ∧ Kb u7 kb B n' ∧ BK.Tch (BK.EB kb B) w u7) := ⟨n + 1 + 1, by omega, k7, BK.Tch.trans HT6.out t7⟩
      clear k7 t7 HC7 HK6 HT6
      go_wp2
      go_ret
      exact ⟨rfl, HF.out⟩
    by_cases h7 : k = 7
    · subst h7
      go_wp2_with fail
      have y0 : Below U.heap.size U U.drew := (Below.refl _ _).drew
      have HS := Lib.hid (seen_nob (HP.out.below y0) m)
      have HR := Lib.hid (rseen_no (NoRf.below HQ.out y0) m)
      have z2 := (HLD.out U.drew y0).2.1
      have HF : Hid (∃ n', n' ≤ n + 2 ∧ Kb U.drew kb B n' ∧ BK.Tch (BK.EB kb B) w U.drew) := ⟨n, by omega, Kb.below HK.out y0, BK.Tch.of_below (HBW.out.trans (y0.mono HBW.out.size))⟩
      clear y0 l1 l2 l3
      refine wp_region_noPanic ?_
      go_region_with (first | (go_at_call 20; refine HS.out.mono ?_; rintro ee u2 ⟨rfl, rfl⟩) | (go_at_call 29; refine HR.out.mono ?_; rintro ee u2 ⟨rfl, rfl⟩))
      all_goals
        refine NoPanic.normal ?_
        rename_i hK
        refine hK _ _ ?_
        clear HS HR z2 HLD
        go_wp2
        go_ret
        exact ⟨rfl, HF.out⟩
    · have HF : Hid (∃ n', n' ≤ n + 2 ∧ Kb U kb B n' ∧ BK.Tch (BK.EB kb B) w U) := ⟨n, by omega, HK.out, BK.Tch.of_below HBW.out⟩
      go_wp2
      go_ret
      exact ⟨rfl, HF.out⟩
end Go.Proofs.Ytgeplijgcmdaeaa
