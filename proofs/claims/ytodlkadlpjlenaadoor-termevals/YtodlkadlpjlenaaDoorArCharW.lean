import Derived.Test.YtodlkadlpjlenaaDoorArChar
namespace Go.Proofs.YtodlkadlpjlenaaDoor.AR
open Go.RowKit Go.Maps
set_option linter.unusedVariables false
set_option linter.unusedSimpArgs false
attribute [local go_sem ↓] Go.wp_at_zero Go.wp_at_succ

theorem run_indexStr (s : ByteArray) {k : Nat} (hk : k < s.size) (w : World) : (Instr.index 9 (.string s) (.int .i64 (k : Int))).run Tryd.prog w = .ok (.int .u8 (bt s k : Int)) w := by
  have h1 : (k : Int) < (s.size : Int) := by omega
  have h0 : (0 : Int) ≤ (k : Int) := by omega
  have e := get_bt s hk
  rw [← e]
  have e2 : s.get! k = s[k] := by
    show s.data[k]! = s.data[k]
    exact getElem!_pos s.data k hk
  rw [e2]
  unfold Instr.index
  simp [run_underlying Tryd.underlying9, h0, h1, go_sem, hk]
theorem fB_range (c : Nat) : 0 ≤ fB c ∧ fB c ≤ 127 := by
  unfold fB
  repeat' split
  all_goals omega
theorem fN_range (c : Nat) : -1 ≤ fN c ∧ fN c ≤ 3 := by
  unfold fN
  repeat' split
  all_goals omega
theorem ptN_range (s : ByteArray) (i : Nat) : ∀ k, contsTo s i k = true → 0 ≤ ptN s i k ∧ ptN s i k ≤ 128 * 64 ^ k - 1
  | 0, _ => by have := fB_range (bt s i); simp only [ptN]; omega
  | k + 1, h => by
    simp only [contsTo, Bool.and_eq_true] at h
    have ih := ptN_range s i k h.1
    have hc : 128 ≤ bt s (i + (k + 1)) ∧ bt s (i + (k + 1)) < 192 := by simpa [contB] using h.2
    simp only [ptN]
    have e : (128 : Int) * 64 ^ (k + 1) = 128 * 64 ^ k * 64 := by rw [Int.pow_succ]; omega
    rw [e]
    generalize (128 : Int) * 64 ^ k = z at ih
    omega
theorem contsTo_not {s : ByteArray} {i k : Nat} (h : contB (bt s (i + (k + 1))) = false) : ∀ {n : Nat}, k < n → contsTo s i n = false
  | 0, hk => by omega
  | n + 1, hk => by
    by_cases e : k = n
    · subst e; simp [contsTo, h]
    · simp [contsTo, contsTo_not h (n := n) (by omega)]
set_option maxHeartbeats 800000 in
theorem follows_any (c : Nat) (hc : c < 256) (w : World) : Calls Tryd.prog 63 #[.int .u8 (c : Int)] w fun e w' => e = .returned (.tuple #[.int .i64 (fN c), .int .i64 (fL c), .int .i64 (fB c)]) ∧ w' = w := by
  by_cases a0 : c < 128
  · have HR : Hid (fN c = 0 ∧ fL c = 0 ∧ fB c = (c : Int)) := by unfold fN fL fB; rw [if_pos a0, if_pos a0, if_pos a0]; exact ⟨rfl, rfl, rfl⟩
    have b0 : (c : Int) < 128 := by omega
    go_enter Tryd.func63, Tryd.ntmps63
    go_wp2
    go_ret3
    exact ⟨by rw [HR.out.1, HR.out.2.1, HR.out.2.2]; rfl, rfl⟩
  have b0 : ¬ (c : Int) < 128 := by omega
  by_cases a1 : 192 ≤ c ∧ c < 224
  · have HR : Hid (fN c = 1 ∧ fL c = 128 ∧ fB c = (c : Int) - 192) := by unfold fN fL fB; rw [if_neg a0, if_neg a0, if_neg a0, if_pos a1, if_pos a1, if_pos a1]; exact ⟨rfl, rfl, rfl⟩
    have b1 : (192 : Int) ≤ (c : Int) := by omega
    have b2 : (c : Int) < 224 := by omega
    clear a0 a1
    go_enter Tryd.func63, Tryd.ntmps63
    go_wp2
    go_ret3
    exact ⟨by rw [HR.out.1, HR.out.2.1, HR.out.2.2]; rfl, rfl⟩
  by_cases a2 : 224 ≤ c ∧ c < 240
  · have HR : Hid (fN c = 2 ∧ fL c = 2048 ∧ fB c = (c : Int) - 224) := by unfold fN fL fB; rw [if_neg a0, if_neg a0, if_neg a0, if_neg a1, if_neg a1, if_neg a1, if_pos a2, if_pos a2, if_pos a2]; exact ⟨rfl, rfl, rfl⟩
    have b1 : (192 : Int) ≤ (c : Int) := by omega
    have b2 : ¬ (c : Int) < 224 := by omega
    have b3 : (224 : Int) ≤ (c : Int) := by omega
    have b4 : (c : Int) < 240 := by omega
    clear a0 a1 a2
    go_enter Tryd.func63, Tryd.ntmps63
    go_wp2
    go_ret3
    exact ⟨by rw [HR.out.1, HR.out.2.1, HR.out.2.2]; rfl, rfl⟩
  by_cases a3 : 240 ≤ c ∧ c < 248
  · have HR : Hid (fN c = 3 ∧ fL c = 65536 ∧ fB c = (c : Int) - 240) := by unfold fN fL fB; rw [if_neg a0, if_neg a0, if_neg a0, if_neg a1, if_neg a1, if_neg a1, if_neg a2, if_neg a2, if_neg a2, if_pos a3, if_pos a3, if_pos a3]; exact ⟨rfl, rfl, rfl⟩
    have b1 : (192 : Int) ≤ (c : Int) := by omega
    have b2 : ¬ (c : Int) < 224 := by omega
    have b3 : (224 : Int) ≤ (c : Int) := by omega
    have b4 : ¬ (c : Int) < 240 := by omega
    have b5 : (240 : Int) ≤ (c : Int) := by omega
    have b6 : (c : Int) < 248 := by omega
    clear a0 a1 a2 a3
    go_enter Tryd.func63, Tryd.ntmps63
    go_wp2
    go_ret3
    exact ⟨by rw [HR.out.1, HR.out.2.1, HR.out.2.2]; rfl, rfl⟩
  have HR : Hid (fN c = -1 ∧ fL c = 0 ∧ fB c = 0) := by unfold fN fL fB; rw [if_neg a0, if_neg a0, if_neg a0, if_neg a1, if_neg a1, if_neg a1, if_neg a2, if_neg a2, if_neg a2, if_neg a3, if_neg a3, if_neg a3]; exact ⟨rfl, rfl, rfl⟩
  by_cases h1 : (192 : Int) ≤ (c : Int)
  · have b2 : ¬ (c : Int) < 224 := by omega
    have b3 : (224 : Int) ≤ (c : Int) := by omega
    have b4 : ¬ (c : Int) < 240 := by omega
    have b5 : (240 : Int) ≤ (c : Int) := by omega
    have b6 : ¬ (c : Int) < 248 := by omega
    clear a0 a1 a2 a3
    go_enter Tryd.func63, Tryd.ntmps63
    go_wp2
    go_ret3
    exact ⟨by rw [HR.out.1, HR.out.2.1, HR.out.2.2]; rfl, rfl⟩
  · have b3 : ¬ (224 : Int) ≤ (c : Int) := by omega
    have b5 : ¬ (240 : Int) ≤ (c : Int) := by omega
    clear a0 a1 a2 a3
    go_enter Tryd.func63, Tryd.ntmps63
    go_wp2
    go_ret3
    exact ⟨by rw [HR.out.1, HR.out.2.1, HR.out.2.2]; rfl, rfl⟩
set_option maxHeartbeats 3200000 in
set_option maxRecDepth 100000 in
theorem char_any (s : ByteArray) (i : Nat) (hi : i < s.size) (hs : s.size ≤ 1000000) (w : World) : Calls Tryd.prog 57 #[.string s, .int .i64 (i : Int)] w fun e w' => e = .returned (.tuple #[.int .i64 (chW s i : Int), .bool (chOk s i)]) ∧ w' = w := by
  have HD := Lib.hid (dec_ok s hi)
  have hfn := fN_range (bt s i)
  have hx := run_indexStr s hi
  have HF := Lib.hid (follows_any (bt s i) (bt_lt s i) w)
  have HC : Hid (∀ n : Nat, fN (bt s i) = n → i + n < s.size → (contsTo s i n = false → charR s i = (1, false)) ∧ (contsTo s i n = true → badP (ptN s i n) (fL (bt s i)) = true → charR s i = (1, false)) ∧ (contsTo s i n = true → badP (ptN s i n) (fL (bt s i)) = false → charR s i = (1 + (n : Int), true))) := fun n hn hz => by
    have h1 : ¬ (fN (bt s i) < 0 ∨ (s.size : Int) ≤ (i : Int) + fN (bt s i)) := by omega
    have h2 : (fN (bt s i)).toNat = n := by omega
    unfold charR
    rw [if_neg h1, h2]
    refine ⟨fun h => by rw [if_pos h], fun h k => by rw [if_neg (by rw [h]; simp), if_pos k], fun h k => by rw [if_neg (by rw [h]; simp), if_neg (by rw [k]; simp), hn]⟩
  have HN : Hid ((fN (bt s i) < 0 ∨ (s.size : Int) ≤ (i : Int) + fN (bt s i)) → charR s i = (1, false)) := fun h => by unfold charR; rw [if_pos h]
  have HP := Lib.hid (ptN_range s i)
  have hp0 : ptN s i 0 = fB (bt s i) := rfl
  rw [← hp0] at HF
  generalize bt s i = c0 at hx HF hfn HC HN
  generalize fN c0 = fn at HF hfn HC HN
  generalize fL c0 = fl at HF HC
  go_enter Tryd.func57, Tryd.ntmps57
  go_wp2_with fail
  refine HF.out.mono ?_
  rintro e w1 ⟨rfl, rfl⟩
  clear HF hx
  by_cases hneg : fn < 0
  · have HE := HN.out (.inl hneg)
    rw [HD.out] at HE
    have HE' := Lib.hid HE
    clear HE HN HC
    go_wp2
    go_ret2
    have := HE'.out
    simp only [Prod.mk.injEq] at this
    exact ⟨by rw [this.1, this.2]; rfl, rfl⟩
  by_cases hbig : (s.size : Int) ≤ (i : Int) + fn
  · have HE := HN.out (.inr hbig)
    rw [HD.out] at HE
    have HE' := Lib.hid HE
    clear HE HN HC
    go_wp2
    go_ret2
    have := HE'.out
    simp only [Prod.mk.injEq] at this
    exact ⟨by rw [this.1, this.2]; rfl, rfl⟩
  obtain ⟨n, rfl⟩ : ∃ n : Nat, fn = n := ⟨fn.toNat, by omega⟩
  have hnz : i + n < s.size := by omega
  have HC1 := Lib.hid (HC.out n rfl hnz)
  rw [HD.out] at HC1
  clear HC HN HD hp0
  have hn3 : n ≤ 3 := by omega
  go_wp2
  go_loopw [8, 9, 10] (fun p k _ wr => ∃ j : Nat, j ≤ n ∧ p = .int .i64 (ptN s i j) ∧ k = .int .i64 ((j : Int) + 1) ∧ Hid (contsTo s i j = true) ∧ wr = w1) (fun _ k _ _ => n + 1 - (intOf k).toNat)
  case atStart => exact ⟨0, Nat.zero_le _, rfl, by simp, rfl, rfl⟩
  case round =>
    obtain ⟨j, hj, rfl, rfl, HT, rfl⟩ := hrel
    have hr := HP.out j HT.out
    have hr2 : ptN s i j ≤ 40000000 := by
      have : (64 : Int) ^ j ≤ 64 ^ 3 := by
        obtain rfl | rfl | rfl | rfl : j = 0 ∨ j = 1 ∨ j = 2 ∨ j = 3 := by omega
        all_goals decide
      omega
    by_cases hlt : j < n
    · have hx := run_indexStr s (k := i + (j + 1)) (by omega)
      have hb := bt_lt s (i + (j + 1))
      have e1 : (((i + (j + 1) : Nat)) : Int) = (i : Int) + ((j : Int) + 1) := by omega
      rw [e1] at hx
      have hle : (j : Int) + 1 ≤ (n : Int) := by omega
      have HS1 : Hid (ptN s i (j + 1) = ptN s i j * 64 + (bt s (i + (j + 1)) : Int) - 128 ∧ contsTo s i (j + 1) = contB (bt s (i + (j + 1)))) := ⟨rfl, by show (contsTo s i j && _) = _; rw [HT.out, Bool.true_and]⟩
      have HNO : Hid (contB (bt s (i + (j + 1))) = false → contsTo s i n = false) := fun h => contsTo_not h hlt
      generalize bt s (i + (j + 1)) = c at hx hb HS1 HNO
      generalize ptN s i j = p at hr hr2 HS1 ⊢
      by_cases hc : contB c = true
      · have hcc : 128 ≤ c ∧ c < 192 := by simpa [contB] using hc
        have b1 : ¬ (c : Int) < 128 := by omega
        have b2 : ¬ (192 : Int) ≤ (c : Int) := by omega
        have HS2 := Lib.hid (And.intro HS1.out.1 (HS1.out.2.trans hc))
        have HW : Hid (wrap64 (wrap64 (wrap64 (p * 64) + (c : Int)) - 128) = p * 64 + (c : Int) - 128) := by
          show _ = _
          have e1 : wrap64 (p * 64) = p * 64 := by unfold wrap64; omega
          have e2 : wrap64 (p * 64 + (c : Int)) = p * 64 + (c : Int) := by unfold wrap64; omega
          have e3 : wrap64 (p * 64 + (c : Int) - 128) = p * 64 + (c : Int) - 128 := by unfold wrap64; omega
          rw [e1, e2, e3]
        clear HS1 HNO hc hr
        go_wp2
        go_roundw
        case rel => exact ⟨j + 1, by omega, by rw [HS2.out.1, HW.out], by simp, HS2.out.2, by first | rfl | trivial⟩
        case measure => simp [intOf]; omega
      · have hc' : contB c = false := by simpa using hc
        have HE := HC1.out.1 (HNO.out hc')
        have HE' := Lib.hid HE
        have hcc : c < 128 ∨ 192 ≤ c := by
          have := hc'
          simp [contB] at this
          omega
        clear HE HC1 HNO HS1 hc hc'
        by_cases b1 : (c : Int) < 128
        · go_wp2
          go_ret2
          have := HE'.out
          simp only [Prod.mk.injEq] at this
          exact ⟨by rw [this.1, this.2]; rfl, rfl⟩
        · have b2 : (192 : Int) ≤ (c : Int) := by omega
          go_wp2
          go_ret2
          have := HE'.out
          simp only [Prod.mk.injEq] at this
          exact ⟨by rw [this.1, this.2]; rfl, rfl⟩
    · obtain rfl : j = n := by omega
      have hle : ¬ (j : Int) + 1 ≤ (j : Int) := by omega
      have HY := Lib.hid (HC1.out.2.1 HT.out)
      have HZ := Lib.hid (HC1.out.2.2 HT.out)
      clear HC1 HP HT
      generalize ptN s i j = p at hr hr2 HY HZ ⊢
      cases hbad : badP p fl with
      | true =>
        have HE' := Lib.hid (HY.out hbad)
        have hb' := hbad
        simp [badP] at hb'
        clear HY HZ hbad
        by_cases b1 : p < fl
        · go_wp2
          go_ret2
          have := HE'.out
          simp only [Prod.mk.injEq] at this
          exact ⟨by rw [this.1, this.2]; rfl, rfl⟩
        · by_cases b2 : (1114111 : Int) < p
          · go_wp2
            go_ret2
            have := HE'.out
            simp only [Prod.mk.injEq] at this
            exact ⟨by rw [this.1, this.2]; rfl, rfl⟩
          · have b3 : (55296 : Int) ≤ p := by omega
            have b4 : p ≤ 57343 := by omega
            clear hb'
            go_wp2
            go_ret2
            have := HE'.out
            simp only [Prod.mk.injEq] at this
            exact ⟨by rw [this.1, this.2]; rfl, rfl⟩
      | false =>
        have HE' := Lib.hid (HZ.out hbad)
        have hb' := hbad
        simp [badP] at hb'
        have b1 : ¬ p < fl := by omega
        have b2 : ¬ (1114111 : Int) < p := by omega
        clear HY HZ hbad
        by_cases b3 : (55296 : Int) ≤ p
        · have b4 : ¬ p ≤ 57343 := by omega
          clear hb'
          go_wp2
          go_ret2
          have := HE'.out
          simp only [Prod.mk.injEq] at this
          exact ⟨by rw [this.1, this.2]; rfl, rfl⟩
        · clear hb'
          go_wp2
          go_ret2
          have := HE'.out
          simp only [Prod.mk.injEq] at this
          exact ⟨by rw [this.1, this.2]; rfl, rfl⟩
end Go.Proofs.YtodlkadlpjlenaaDoor.AR
