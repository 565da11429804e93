import Derived.Test.YtbclaikfiofciaaDoorVxReg
import Derived.Deep.DeepCutAuto
import Derived.Laws.BitsLemmas
namespace Go.Proofs.YtbclaikfiofciaaDoor
open Go.RowKit Go.Maps
set_option linter.unusedVariables false
set_option linter.unusedSimpArgs false
attribute [local go_sem ↓] Go.wp_at_zero Go.wp_at_succ

/-! ValueTexts -/
theorem cnt_take (s : ByteArray) (j : Nat) (hj : j < s.size) : ((bl s).take (j + 1)).countP fstB = ((bl s).take j).countP fstB + (if bt s j < 128 ∨ 192 ≤ bt s j then 1 else 0) := by
  have hl : j < (bl s).length := by rw [bl_len]; exact hj
  rw [List.take_succ_eq_append_getElem hl, List.countP_append, bt_list s j _ (List.getElem?_eq_getElem hl)]
  congr 1
  rw [List.countP_singleton]
  simp [fstB]
theorem run_eql_txt (s : ByteArray) (w : World) : (binOp .eql 27 (.agg #[.int .i8 2, .int .i64 0, .string s]) (.agg #[.int .i8 2, .int .i64 0, .string s])).run Tryd.prog w = .ok (.bool true) w := by go_simp
theorem run_neq_txt (s : ByteArray) (w : World) : (binOp .neq 27 (.agg #[.int .i8 2, .int .i64 0, .string s]) (.agg #[.int .i8 2, .int .i64 0, .string s])).run Tryd.prog w = .ok (.bool false) w := by go_simp
theorem vt_keep {w v v' : World} {b : Nat} {s : ByteArray} (hz : w.heap.size ≤ b) (hb : Below v.heap.size v v')
    (h : b < v.heap.size ∧ Below w.heap.size w v ∧ v.cell? ⟨b, 0, none⟩ = some (.int .i8 2) ∧ v.cell? ⟨b, 1, none⟩ = some (.int .i64 0) ∧ v.cell? ⟨b, 2, none⟩ = some (.string s)) :
    b < v'.heap.size ∧ Below w.heap.size w v' ∧ v'.cell? ⟨b, 0, none⟩ = some (.int .i8 2) ∧ v'.cell? ⟨b, 1, none⟩ = some (.int .i64 0) ∧ v'.cell? ⟨b, 2, none⟩ = some (.string s) := by
  obtain ⟨hl, bel, a0, a1, a2⟩ := h
  have hs := hb.size
  refine ⟨by omega, bel.trans (hb.mono (by omega)), ?_, ?_, ?_⟩
  · rw [hb.cell (by show b < _; omega)]; exact a0
  · rw [hb.cell (by show b < _; omega)]; exact a1
  · rw [hb.cell (by show b < _; omega)]; exact a2
set_option maxHeartbeats 60000000 in
set_option maxRecDepth 100000 in
theorem valueTexts_walk (s t : ByteArray) (w : World) (ht : Tab w) (hsm : s.size ≤ maxLen) (htm : t.size ≤ maxLen) :
    Calls Tryd.prog 4 #[.string s, .string t] w fun e w' => e = .returned (.bool true) ∧ Below w.heap.size w w' := by
  have HL := Lib.hid (lives_true w ht)
  have HT := Lib.hid ht
  have HM := Lib.hid (And.intro hsm htm)
  have hsm' : s.size ≤ 9223372036854775807 := hsm
  have htm' : t.size ≤ 9223372036854775807 := htm
  clear hsm htm
  have hsm := hsm'
  have htm := htm'
  clear hsm' htm'
  clear ht
  by_cases hlong : ¬ (s.size ≤ 200 ∧ t.size ≤ 200)
  · have hcase : (200 : Int) < (s.size : Int) ∨ (¬ (200 : Int) < (s.size : Int) ∧ (200 : Int) < (t.size : Int)) := by omega
    have HA : Hid (∀ u, Tab u → Calls Tryd.prog 7 #[.int .i8 7, .slice (some ⟨u.heap.size, 0, none⟩) 2 2] (u.alloc (.cells #[.int .i8 2, .int .i64 0, .string s, .int .i8 2, .int .i64 0, .string t] 27)) fun e w' => e = .returned (.tuple #[.agg #[.int .i8 0, .int .i64 0, .string ⟨#[]⟩], .bool false]) ∧ Below (u.alloc (.cells #[.int .i8 2, .int .i64 0, .string s, .int .i8 2, .int .i64 0, .string t] 27)).heap.size (u.alloc (.cells #[.int .i8 2, .int .i64 0, .string s, .int .i8 2, .int .i64 0, .string t] 27)) w') := fun u hu => by
      have h := arith_any 7 (by omega) _ 2 (fun _ => 2) (fun _ => 0) (fun i => if i = 0 then s else t) _ (hu.below ((Below.refl _ _).alloc (Nat.le_refl _) _)) (two_lst u s t HM.out.1 HM.out.2)
      rw [arith_long hlong] at h
      exact h
    clear hlong
    rcases hcase with h1 | ⟨h1, h2⟩
    all_goals
      go_enter Tryd.func4, Tryd.ntmps4
      go_wp2_with fail
      refine HL.out.mono ?_
      rintro e w1 ⟨rfl, b1⟩
      go_wp2_with fail
      refine (word1_any _ _).mono ?_
      rintro e w2 ⟨rfl, b2⟩
      go_wp2_with fail
      refine (word1_any _ _).mono ?_
      rintro e w3 ⟨rfl, b3⟩
      have b13 : Below w.heap.size w w3 := b1.trans ((b2.trans (b3.mono b2.size)).mono b1.size)
      go_wp2_with fail
      refine (HA.out w3 (HT.out.below b13)).mono ?_
      rintro e w4 ⟨rfl, b4⟩
      have b14 : Below w.heap.size w w4 := (b13.alloc b13.size _).trans (b4.mono (by have := b13.size; simp; omega))
      clear b1 b2 b3 b4 b13 HA HL
      go_wp2
      go_ret
      exact ⟨rfl, b14.alloc b14.size _⟩
  obtain ⟨hs2, ht2⟩ : s.size ≤ 200 ∧ t.size ≤ 200 := by omega
  clear hlong hsm htm
  have n1 : ¬ (200 : Int) < (s.size : Int) := by omega
  have n2 : ¬ (200 : Int) < (t.size : Int) := by omega
  have HO1 : Hid (∀ u, Tab u → Calls Tryd.prog 11 #[.int .i8 8, .string s] u fun e w' => e = .returned (.tuple #[.int .i64 (s.size : Int), .bool true]) ∧ Below u.heap.size u w') := fun u hu => one_any 8 (.inl rfl) s hs2 u hu
  have HO2 : Hid (∀ u, Tab u → Calls Tryd.prog 11 #[.int .i8 9, .string s] u fun e w' => e = .returned (.tuple #[.int .i64 ((starts s).length : Int), .bool true]) ∧ Below u.heap.size u w') := fun u hu => one_any 9 (.inr rfl) s hs2 u hu
  have HO3 : Hid (∀ u, Tab u → Calls Tryd.prog 11 #[.int .i8 9, .string t] u fun e w' => e = .returned (.tuple #[.int .i64 ((starts t).length : Int), .bool true]) ∧ Below u.heap.size u w') := fun u hu => one_any 9 (.inr rfl) t ht2 u hu
  have HAB : Hid (∀ (u : World) (x : ByteArray), x.size ≤ 200 → Tab u → Calls Tryd.prog 7 #[.int .i8 10, .slice (some ⟨u.heap.size, 0, none⟩) 1 1] (u.alloc (.cells #[.int .i8 2, .int .i64 0, .string x] 27)) fun e w' => e = .returned (.tuple #[.agg #[.int .i8 2, .int .i64 0, .string (backB x)], .bool true]) ∧ Below (u.alloc (.cells #[.int .i8 2, .int .i64 0, .string x] 27)).heap.size (u.alloc (.cells #[.int .i8 2, .int .i64 0, .string x] 27)) w') := fun u x hx hu => by
    have h := arith_any 10 (by omega) _ 1 (fun _ => 2) (fun _ => 0) (fun _ => x) _ (hu.below ((Below.refl _ _).alloc (Nat.le_refl _) _)) (one_lst u x (by unfold maxLen; omega))
    rw [arith_one 10 (by omega) hx] at h
    exact h
  have hkn := starts_le s
  have hk4 := four_le s s.size 0 (by omega)
  have hbs : (backB s).size = s.size := (back_size s _).trans (backL_all s)
  have HBB := Lib.hid (And.intro hbs (fun h : pointsB s = true => And.intro (back_twice h) (first_count h)))
  have hk2n := starts_le t
  go_enter Tryd.func4, Tryd.ntmps4
  go_wp2_with fail
  refine HL.out.mono ?_
  rintro e w1 ⟨rfl, b1⟩
  clear HL
  go_wp2_with fail
  refine (HO1.out w1 (HT.out.below b1)).mono ?_
  rintro e w2 ⟨rfl, b2⟩
  have b12 := b1.trans (b2.mono b1.size)
  clear b1 b2 HO1
  go_wp2_with fail
  refine (HO2.out w2 (HT.out.below b12)).mono ?_
  rintro e w3 ⟨rfl, b3⟩
  have b13 := b12.trans (b3.mono b12.size)
  clear b12 b3 HO2
  go_wp2_with fail
  refine (HO3.out w3 (HT.out.below b13)).mono ?_
  rintro e w4 ⟨rfl, b4⟩
  have b14 := b13.trans (b4.mono b13.size)
  clear b13 b4 HO3
  go_wp2_with fail
  refine (word1_any _ _).mono ?_
  rintro e w5 ⟨rfl, b5⟩
  have b15 := b14.trans (b5.mono b14.size)
  clear b14 b5
  go_wp2_with fail
  refine (HAB.out w5 s hs2 (HT.out.below b15)).mono ?_
  rintro e w6 ⟨rfl, b6⟩
  have b16 : Below w.heap.size w w6 := (b15.alloc b15.size _).trans (b6.mono (by have := b15.size; simp; omega))
  clear b15 b6
  go_upto_region 10 with fail
  have hX := Box3.new w6 (txtRes (backB s))
  have b17 : Below w.heap.size w (w6.alloc (.cells #[.int .i8 2, .int .i64 0, .string (backB s)] 27)) := b16.alloc b16.size _
  change Box3 (w6.alloc (.cells #[.int .i8 2, .int .i64 0, .string (backB s)] 27)) _ _ at hX
  generalize w6.alloc (.cells #[.int .i8 2, .int .i64 0, .string (backB s)] 27) = W6 at hX b17 ⊢
  obtain ⟨d0, d1, d2⟩ := hX.cells
  change W6.cell? _ = some (.int .i8 2) at d0
  change W6.cell? _ = some (.int .i64 0) at d1
  change W6.cell? _ = some (.string (backB s)) at d2
  have HX := Lib.hid hX
  have HB17 := Lib.hid b17
  have hz6 := hX.lt
  clear hX b17 b16
  have t1 : ((s.size : Int) != (s.size : Int)) = false := by simp
  have t2 : ¬ (s.size : Int) < ((starts s).length : Int) := by omega
  have t3 : ¬ 4 * ((starts s).length : Int) < (s.size : Int) := by
    have : s.size - 0 ≤ 4 * (starts s).length := hk4
    omega
  have t4 : (((backB s).size : Int) != (s.size : Int)) = false := by rw [hbs]; simp
  have hk200 : (starts s).length ≤ 200 := by omega
  clear hk4 hkn hbs
  have HP := Lib.hid (points_any s (by omega) W6)
  go_wp2_with fail
  refine HP.out.mono ?_
  rintro e w7 ⟨rfl, hw7⟩
  subst hw7
  have HO4 : Hid (∀ u, Tab u → Calls Tryd.prog 11 #[.int .i8 9, .string (backB s)] u fun e w' => e = .returned (.tuple #[.int .i64 ((starts (backB s)).length : Int), .bool true]) ∧ Below u.heap.size u w') := fun u hu => one_any 9 (.inr rfl) (backB s) (by have := HBB.out.1; omega) u hu
  clear HP t1 t2 t3 t4
  go_upto_if 118 with fail
  go_cut [0, 1, 9, 11] (fun x0 x1 x9 x11 wc => x0 = .string s ∧ x1 = .string t ∧ x9 = .int .i64 ((starts s).length : Int) ∧ x11 = .int .i64 ((starts t).length : Int) ∧ Below w.heap.size w wc)
  case first =>
    cases hpt : pointsB s with
    | false =>
      go_wp2
      go_meet
      exact ⟨rfl, rfl, rfl, rfl, HB17.out⟩
    | true =>
      obtain ⟨⟨hbb, hbk⟩, hfc⟩ := HBB.out.2 hpt
      have hbs := HBB.out.1
      have HFC := Lib.hid hfc
      have HBK := Lib.hid (And.intro hbb hbk)
      clear hfc hbb hbk HBB hpt
      go_wp2
      go_loopw [15, 16] (fun c i wr => ∃ j : Nat, j ≤ s.size ∧ i = .int .i64 (j : Int) ∧ c = .int .i64 ((((bl s).take j).countP fstB : Nat) : Int) ∧ wr = w7) (fun _ i _ => s.size - (intOf i).toNat)
      case atStart => exact ⟨0, Nat.zero_le _, rfl, by simp, rfl⟩
      case round =>
        obtain ⟨j, hj, rfl, rfl, hwr⟩ := hrel
        subst hwr
        have hcl : ((bl s).take j).countP fstB ≤ 200 := Nat.le_trans List.countP_le_length (by rw [List.length_take]; omega)
        by_cases hlt : j < s.size
        · have hlt' : (j : Int) < (s.size : Int) := by omega
          have hx := run_indexStr s hlt
          have HC := Lib.hid (cnt_take s j hlt)
          have hb := bt_lt s j
          generalize bt s j = c at hx HC hb
          generalize ((bl s).take j).countP fstB = cc at HC hcl ⊢
          by_cases h1 : (c : Int) < 128
          · have HC' : Hid (((bl s).take (j + 1)).countP fstB = cc + 1) := by show _ = _; rw [HC.out, if_pos (by omega)]
            clear HC
            go_wp2
            go_roundw
            case rel => exact ⟨j + 1, by omega, by go_num, by rw [HC'.out]; simp, by first | rfl | trivial⟩
            case measure => simp [intOf]; omega
          · by_cases h2 : (192 : Int) ≤ (c : Int)
            · have HC' : Hid (((bl s).take (j + 1)).countP fstB = cc + 1) := by show _ = _; rw [HC.out, if_pos (by omega)]
              clear HC
              go_wp2
              go_roundw
              case rel => exact ⟨j + 1, by omega, by go_num, by rw [HC'.out]; simp, by first | rfl | trivial⟩
              case measure => simp [intOf]; omega
            · have HC' : Hid (((bl s).take (j + 1)).countP fstB = cc) := by show _ = _; rw [HC.out, if_neg (by omega)]; rfl
              clear HC
              go_wp2
              go_roundw
              case rel => exact ⟨j + 1, by omega, by go_num, by rw [HC'.out], by first | rfl | trivial⟩
              case measure => simp [intOf]; omega
        · obtain rfl : j = s.size := by omega
          have hlt' : ¬ (s.size : Int) < (s.size : Int) := by omega
          have hce : ((bl s).take s.size).countP fstB = (starts s).length := by rw [List.take_of_length_le (by rw [bl_len]; exact Nat.le_refl _)]; exact HFC.out
          rw [hce]
          have hkk : (((starts s).length : Int) != ((starts s).length : Int)) = false := by simp
          clear hce HFC hcl
          have HA2 := Lib.hid (HAB.out wr (backB s) (by omega) (HT.out.below HB17.out))
          rw [HBK.out.1] at HA2
          go_wp2_with fail
          refine HA2.out.mono ?_
          rintro e w8 ⟨rfl, b8⟩
          clear HA2 d0 d1
          have b18 : Below w.heap.size w w8 := (HB17.out.alloc HB17.out.size _).trans (b8.mono (by have := HB17.out.size; simp; omega))
          have d28 : w8.cell? ⟨w6.heap.size, 2, none⟩ = some (.string (backB s)) := by
            rw [b8.cell (p := ⟨w6.heap.size, 2, none⟩) (by show w6.heap.size < _; simp; omega), World.cell?_alloc_past _ _ _ hz6]
            exact d2
          have h68 : w6.heap.size < w8.heap.size := by have := b8.size; simp at this; omega
          clear b8 d2
          go_upto_region 22 with fail
          have hX := Box3.new w8 (txtRes s)
          have b19 : Below w.heap.size w (w8.alloc (.cells #[.int .i8 2, .int .i64 0, .string s] 27)) := b18.alloc b18.size _
          have d29 : (w8.alloc (.cells #[.int .i8 2, .int .i64 0, .string s] 27)).cell? ⟨w6.heap.size, 2, none⟩ = some (.string (backB s)) := by rw [World.cell?_alloc_past _ _ _ h68]; exact d28
          change Box3 (w8.alloc (.cells #[.int .i8 2, .int .i64 0, .string s] 27)) _ _ at hX
          generalize w8.alloc (.cells #[.int .i8 2, .int .i64 0, .string s] 27) = W8 at hX b19 d29 ⊢
          have HO7 := Lib.hid (HO4.out W8 (HT.out.below b19))
          rw [HBK.out.2] at HO7
          clear HO4 d28
          go_wp2_with fail
          refine HO7.out.mono ?_
          rintro e w9 ⟨rfl, b9⟩
          have hX9 := hX.below b9
          have b20 := b19.trans (b9.mono b19.size)
          obtain ⟨p0, p1, p2⟩ := hX9.cells
          change w9.cell? _ = some (.int .i8 2) at p0
          change w9.cell? _ = some (.int .i64 0) at p1
          change w9.cell? _ = some (.string s) at p2
          have hlt9 := hX9.lt
          have hz8 : w.heap.size ≤ w8.heap.size := b18.size
          have hne := run_neq_txt s
          clear HO7 hX hX9 b19 b9 b18 d29 HAB HBK HX HB17
          go_upto_region 23 with fail
          go_region_held3 (fun w' => w8.heap.size < w'.heap.size ∧ Below w.heap.size w w' ∧ w'.cell? ⟨w8.heap.size, 0, none⟩ = some (.int .i8 2) ∧ w'.cell? ⟨w8.heap.size, 1, none⟩ = some (.int .i64 0) ∧ w'.cell? ⟨w8.heap.size, 2, none⟩ = some (.string s))
            (first
              | exact vt_keep hz8 (by assumption) (by assumption)
              | exact ⟨hlt9, b20, p0, p1, p2⟩
              | exact ⟨hlt9, b20.drew, p0, p1, p2⟩)
            (first
              | (go_at_call 10; refine (word1_any _ _).mono ?_; rintro e w' ⟨rfl, hbx⟩))
          go_wp2
          go_meet
          exact ⟨rfl, rfl, rfl, rfl, by rename_i h; exact h.2.1⟩
  case rest =>
    obtain ⟨rfl, rfl, rfl, rfl, bwc⟩ := hcut
    clear HX HB17 d0 d1 d2 hz6 HAB HO4
    have HCL : Hid ((starts (s ++ t)).length ≤ (starts s).length + (starts t).length ∧ (pointsB s = true → pointsB t = true → (starts (s ++ t)).length = (starts s).length + (starts t).length)) := ⟨cat_le s t s.size 0 (by omega) (by omega), fun h k => cat_points h k⟩
    clear HBB
    have hcs : (s ++ t).size = s.size + t.size := ByteArray.size_append
    have HJ : Hid (∀ u, Tab u → Calls Tryd.prog 7 #[.int .i8 7, .slice (some ⟨u.heap.size, 0, none⟩) 2 2] (u.alloc (.cells #[.int .i8 2, .int .i64 0, .string s, .int .i8 2, .int .i64 0, .string t] 27)) fun e w' => e = .returned (joinR s t).val ∧ Below (u.alloc (.cells #[.int .i8 2, .int .i64 0, .string s, .int .i8 2, .int .i64 0, .string t] 27)).heap.size (u.alloc (.cells #[.int .i8 2, .int .i64 0, .string s, .int .i8 2, .int .i64 0, .string t] 27)) w') := fun u hu => by
      have h := arith_any 7 (by omega) _ 2 (fun _ => 2) (fun _ => 0) (fun i => if i = 0 then s else t) _ (hu.below ((Below.refl _ _).alloc (Nat.le_refl _) _)) (two_lst u s t HM.out.1 HM.out.2)
      rw [arith_two hs2 ht2] at h
      exact h
    go_wp2_with fail
    refine (word1_any _ _).mono ?_
    rintro e w8 ⟨rfl, b8⟩
    go_wp2_with fail
    refine (word1_any _ _).mono ?_
    rintro e w9 ⟨rfl, b9⟩
    have b19 : Below w.heap.size w w9 := bwc.trans ((b8.trans (b9.mono b8.size)).mono bwc.size)
    clear b8 b9 bwc
    have HJ9 := Lib.hid (HJ.out w9 (HT.out.below b19))
    clear HJ
    by_cases hsum : 200 < s.size + t.size
    · have e1 : (joinR s t).val = .tuple #[.agg #[.int .i8 0, .int .i64 0, .string ⟨#[]⟩], .bool false] := by unfold joinR; rw [if_pos hsum]; rfl
      rw [e1] at HJ9
      have hsum' : (200 : Int) < (s.size : Int) + (t.size : Int) := by omega
      go_wp2_with fail
      refine HJ9.out.mono ?_
      rintro e w10 ⟨rfl, b10⟩
      have b110 : Below w.heap.size w w10 := (b19.alloc b19.size _).trans (b10.mono (by have := b19.size; simp; omega))
      clear b10 b19 HJ9
      go_wp2
      go_ret
      exact ⟨rfl, b110.alloc b110.size _⟩
    · have e1 : (joinR s t).val = .tuple #[.agg #[.int .i8 2, .int .i64 0, .string (s ++ t)], .bool true] := by unfold joinR; rw [if_neg hsum]; rfl
      rw [e1] at HJ9
      have hsum' : ¬ (200 : Int) < (s.size : Int) + (t.size : Int) := by omega
      have hbig : ¬ 9223372036854775807 < s.size + t.size := by omega
      have HO5 : Hid (∀ u, Tab u → Calls Tryd.prog 11 #[.int .i8 9, .string (s ++ t)] u fun e w' => e = .returned (.tuple #[.int .i64 ((starts (s ++ t)).length : Int), .bool true]) ∧ Below u.heap.size u w') := fun u hu => one_any 9 (.inr rfl) (s ++ t) (by omega) u hu
      go_wp2_with fail
      refine HJ9.out.mono ?_
      rintro e w10 ⟨rfl, b10⟩
      have b110 : Below w.heap.size w w10 := (b19.alloc b19.size _).trans (b10.mono (by have := b19.size; simp; omega))
      clear b10 b19 HJ9
      go_upto_region 26 with fail
      have hX := Box3.new w10 (txtRes (s ++ t))
      have b111 : Below w.heap.size w (w10.alloc (.cells #[.int .i8 2, .int .i64 0, .string (s ++ t)] 27)) := b110.alloc b110.size _
      change Box3 (w10.alloc (.cells #[.int .i8 2, .int .i64 0, .string (s ++ t)] 27)) _ _ at hX
      generalize w10.alloc (.cells #[.int .i8 2, .int .i64 0, .string (s ++ t)] 27) = W10 at hX b111 ⊢
      have HO6 := Lib.hid (HO5.out W10 (HT.out.below b111))
      clear HO5
      go_wp2_with fail
      refine HO6.out.mono ?_
      rintro e w11 ⟨rfl, b11⟩
      have b112 := b111.trans (b11.mono b111.size)
      have hX11 := hX.below b11
      have hz110 : w.heap.size ≤ w10.heap.size := b110.size
      clear HO6 b11 b111 hX b110
      obtain ⟨d0, d1, d2⟩ := hX11.cells
      change w11.cell? _ = some (.int .i8 2) at d0
      change w11.cell? _ = some (.int .i64 0) at d1
      change w11.cell? _ = some (.string (s ++ t)) at d2
      have hlt := hX11.lt
      clear hX11
      have heq := run_eql_txt (s ++ t)
      have hk2' : (starts t).length ≤ 200 := by omega
      have hle : ((starts (s ++ t)).length : Int) ≤ ((starts s).length : Int) + ((starts t).length : Int) := by have := HCL.out.1; omega
      have hz10 : w.heap.size ≤ w10.heap.size := hz110
      have hadd : ∀ u, (binOp .add 9 (.string s) (.string t)).run Tryd.prog u = .ok (.string (s ++ t)) u := fun u => by go_simp
      have hwr : IntKind.i64.wrap (((starts s).length : Int) + ((starts t).length : Int)) = ((starts s).length : Int) + ((starts t).length : Int) := by
        rw [IntKind.wrap_i64]
        omega
      have hsumr : ∀ u, (binOp .add 2 (.int .i64 ((starts s).length : Int)) (.int .i64 ((starts t).length : Int))).run Tryd.prog u = .ok (.int .i64 (((starts s).length : Int) + ((starts t).length : Int))) u := fun u => by go_simp
      have hler : ∀ u, (binOp .leq 2 (.int .i64 ((starts (s ++ t)).length : Int)) (.int .i64 (((starts s).length : Int) + ((starts t).length : Int)))).run Tryd.prog u = .ok (.bool true) u := fun u => by go_simp
      go_upto_region 29 with fail
      go_cut [4] (fun x wc => x = .bool true ∧ Hid (Below w.heap.size w wc))
      case first =>
        as_aux_lemma =>
        refine wp_region_noPanic ?_
        refine wp_region_held (S := (fun u => w10.heap.size < u.heap.size ∧ Below w.heap.size w u ∧ u.cell? ⟨w10.heap.size, 0, none⟩ = some (.int .i8 2) ∧ u.cell? ⟨w10.heap.size, 1, none⟩ = some (.int .i64 0) ∧ u.cell? ⟨w10.heap.size, 2, none⟩ = some (.string (s ++ t)))) (by kernel_rfl) ?_
        by_cases hm : (starts (s ++ t)).length = (starts s).length + (starts t).length
        · have hmb : (((starts (s ++ t)).length : Int) == ((starts s).length : Int) + ((starts t).length : Int)) = true := by simp; omega
          have hmbr : ∀ u, (binOp .eql 2 (.int .i64 ((starts (s ++ t)).length : Int)) (.int .i64 (((starts s).length : Int) + ((starts t).length : Int)))).run Tryd.prog u = .ok (.bool true) u := fun u => by go_simp
          refine reg29A (w5 := w11) (S := (fun u => w10.heap.size < u.heap.size ∧ Below w.heap.size w u ∧ u.cell? ⟨w10.heap.size, 0, none⟩ = some (.int .i8 2) ∧ u.cell? ⟨w10.heap.size, 1, none⟩ = some (.int .i64 0) ∧ u.cell? ⟨w10.heap.size, 2, none⟩ = some (.string (s ++ t)))) (s := s) (t := t) (st := s ++ t) (k := ((starts s).length : Int)) (k2 := ((starts t).length : Int)) (kk := ((starts s).length : Int) + ((starts t).length : Int)) (m := ((starts (s ++ t)).length : Int)) (bx := w10.heap.size) rfl rfl rfl rfl rfl rfl rfl rfl rfl rfl rfl rfl rfl rfl rfl rfl rfl rfl rfl rfl rfl rfl rfl rfl rfl rfl rfl rfl rfl rfl rfl rfl rfl rfl rfl rfl rfl (by kernel_rfl) (by kernel_rfl) (by kernel_rfl) (by kernel_rfl) (fun _ _ _ _ _ h => h) (by simp) rfl rfl rfl rfl rfl rfl rfl rfl ⟨hlt, b112.drew, d0, d1, d2⟩ (fun u u' h hb => vt_keep hz10 hb h) (fun u h => h.2.2) hadd heq hsumr hler hmbr (fun u => word1_any _ u) ?_
          intro wf hS
          have HBW := Lib.hid hS.2.1
          refine NoPanic.normal ?_
          rename_i hJ hK
          refine hK _ _ (Met.intro (hJ _ _ ?_))
          clear hJ hK
          simp (config := { maxSteps := 8000000 }) only [Act.put, List.setIfInBounds_toArray, List.set_cons_succ, List.set_cons_zero]
          (repeat apply Exists.intro)
          refine ⟨?rel, rfl⟩
          case rel => exact ⟨rfl, HBW⟩
        · have hmb : (((starts (s ++ t)).length : Int) == ((starts s).length : Int) + ((starts t).length : Int)) = false := by simp; omega
          have hmbr : ∀ u, (binOp .eql 2 (.int .i64 ((starts (s ++ t)).length : Int)) (.int .i64 (((starts s).length : Int) + ((starts t).length : Int)))).run Tryd.prog u = .ok (.bool false) u := fun u => by go_simp
          have HPS := fun u => points_any s (by omega) u
          have HPT := fun u => points_any t (by omega) u
          by_cases hps : pointsB s = false
          · rw [hps] at HPS
            refine reg29B (w5 := w11) (S := (fun u => w10.heap.size < u.heap.size ∧ Below w.heap.size w u ∧ u.cell? ⟨w10.heap.size, 0, none⟩ = some (.int .i8 2) ∧ u.cell? ⟨w10.heap.size, 1, none⟩ = some (.int .i64 0) ∧ u.cell? ⟨w10.heap.size, 2, none⟩ = some (.string (s ++ t)))) (s := s) (t := t) (st := s ++ t) (k := ((starts s).length : Int)) (k2 := ((starts t).length : Int)) (kk := ((starts s).length : Int) + ((starts t).length : Int)) (m := ((starts (s ++ t)).length : Int)) (bx := w10.heap.size) rfl rfl rfl rfl rfl rfl rfl rfl rfl rfl rfl rfl rfl rfl rfl rfl rfl rfl rfl rfl rfl rfl rfl rfl rfl rfl rfl rfl rfl rfl rfl rfl rfl rfl rfl rfl rfl (by kernel_rfl) (by kernel_rfl) (by kernel_rfl) (by kernel_rfl) (by kernel_rfl) (fun _ _ _ _ _ h => h) (by simp) rfl rfl rfl rfl rfl rfl rfl rfl ⟨hlt, b112.drew, d0, d1, d2⟩ (fun u u' h hb => vt_keep hz10 hb h) (fun u h => h.2.2) hadd heq hsumr hler hmbr (fun u => word1_any _ u) HPS ?_
            intro wf hS
            have HBW := Lib.hid hS.2.1
            refine NoPanic.normal ?_
            rename_i hJ hK
            refine hK _ _ (Met.intro (hJ _ _ ?_))
            clear hJ hK
            simp (config := { maxSteps := 8000000 }) only [Act.put, List.setIfInBounds_toArray, List.set_cons_succ, List.set_cons_zero]
            (repeat apply Exists.intro)
            refine ⟨?rel, rfl⟩
            case rel => exact ⟨rfl, HBW⟩
          · have hps' : pointsB s = true := by simpa using hps
            have hpt : pointsB t = false := by
              cases hq : pointsB t with
              | false => rfl
              | true => exact absurd (HCL.out.2 hps' hq) hm
            rw [hps'] at HPS
            rw [hpt] at HPT
            refine reg29C (w5 := w11) (S := (fun u => w10.heap.size < u.heap.size ∧ Below w.heap.size w u ∧ u.cell? ⟨w10.heap.size, 0, none⟩ = some (.int .i8 2) ∧ u.cell? ⟨w10.heap.size, 1, none⟩ = some (.int .i64 0) ∧ u.cell? ⟨w10.heap.size, 2, none⟩ = some (.string (s ++ t)))) (s := s) (t := t) (st := s ++ t) (k := ((starts s).length : Int)) (k2 := ((starts t).length : Int)) (kk := ((starts s).length : Int) + ((starts t).length : Int)) (m := ((starts (s ++ t)).length : Int)) (bx := w10.heap.size) rfl rfl rfl rfl rfl rfl rfl rfl rfl rfl rfl rfl rfl rfl rfl rfl rfl rfl rfl rfl rfl rfl rfl rfl rfl rfl rfl rfl rfl rfl rfl rfl rfl rfl rfl rfl rfl (by kernel_rfl) (by kernel_rfl) (by kernel_rfl) (by kernel_rfl) (by kernel_rfl) (by kernel_rfl) (fun _ _ _ _ _ h => h) (by simp) rfl rfl rfl rfl rfl rfl rfl rfl ⟨hlt, b112.drew, d0, d1, d2⟩ (fun u u' h hb => vt_keep hz10 hb h) (fun u h => h.2.2) hadd heq hsumr hler hmbr (fun u => word1_any _ u) HPS HPT ?_
            intro wf hS
            have HBW := Lib.hid hS.2.1
            refine NoPanic.normal ?_
            rename_i hJ hK
            refine hK _ _ (Met.intro (hJ _ _ ?_))
            clear hJ hK
            simp (config := { maxSteps := 8000000 }) only [Act.put, List.setIfInBounds_toArray, List.set_cons_succ, List.set_cons_zero]
            (repeat apply Exists.intro)
            refine ⟨?rel, rfl⟩
            case rel => exact ⟨rfl, HBW⟩
      case rest =>
        obtain ⟨rfl, HBW⟩ := hcut
        go_wp2
        go_ret
        exact ⟨rfl, HBW.out⟩
end Go.Proofs.YtbclaikfiofciaaDoor
