import Derived.Test.YtkcgnommiaiidabDoorNums2
import Derived.Test.YtkcgnommiaiidabDoorRingMath
import Derived.Test.YtkcgnommiaiidabDoorTotal
import Derived.Deep.QuietTactic
import Derived.BigQuiet
namespace Go.Proofs.YtkcgnommiaiidabDoor
open Go.RowKit
set_option linter.unusedVariables false
attribute [local go_sem ↓] Go.wp_at_zero Go.wp_at_succ

theorem one_vals {w : World} {g off : Nat} {a : Int} (lt : g < w.heap.size) (k0 : w.cell? ⟨g, off, none⟩ = some (.int .i8 1)) (n0 : w.cell? ⟨g, off + 1, none⟩ = some (.int .i64 a)) (t0 : w.cell? ⟨g, off + 2, none⟩ = some (.string ⟨#[]⟩)) :
    Vals w g off 1 (fun _ => 1) (fun _ => a) (fun _ => ⟨#[]⟩) := by
  refine ⟨lt, ?_, ?_, ?_, fun _ _ => by decide⟩ <;> intro i hi <;> obtain rfl : i = 0 := by omega
  · simpa using k0
  · simpa using n0
  · simpa using t0

theorem areB_one (a : Int) : areB 1 1 (fun _ => 1) (fun _ => a) (fun _ => ⟨#[]⟩) 1 = true := by
  have h : ∀ n, chk 1 n ⟨#[]⟩ = 0 := fun n => (chk_ok (.inl ⟨rfl, by rw [ByteArray.toList_eq]⟩)).symm
  simp [areB, allOf, h]

set_option maxHeartbeats 1600000 in
theorem arith_neg (a : Int) (g off cap : Nat) (w : World) (ht : Tab w) (hlt : g < w.heap.size) (k0 : w.cell? ⟨g, off, none⟩ = some (.int .i8 1)) (n0 : w.cell? ⟨g, off + 1, none⟩ = some (.int .i64 a)) (t0 : w.cell? ⟨g, off + 2, none⟩ = some (.string ⟨#[]⟩)) :
    Calls Tryd.prog 35 #[.int .i8 1, .slice (some ⟨g, off, none⟩) 1 cap] w fun e w' => e = .returned (.tuple #[.agg #[.int .i8 1, .int .i64 (negW a), .string ⟨#[]⟩], .bool true]) ∧ Below w.heap.size w w' := by
  go_enter Tryd.func35, Tryd.ntmps35
  go_wp2_with fail
  refine (takingOf_any _ _ (ht.below ((Below.refl _ _).alloc (Nat.le_refl _) _)) (by omega)).mono ?_
  rintro e w0 ⟨rfl, rfl⟩
  have hk : tkOf 1 = 1 := by decide
  go_wp2_with fail
  have hv0 := (one_vals hlt k0 n0 t0).below ((Below.refl w.heap.size w).alloc (Nat.le_refl _) (.cells #[.int .i8 0, .int .i64 0, .string ⟨#[]⟩] 34))
  refine (areValues_any _ _ _ g off 1 cap 1 1 _ hv0 (by unfold maxLen; omega)).mono ?_
  rintro e w1 ⟨rfl, hb1⟩
  have hB : areB 1 1 (fun _ => 1) (fun _ => a) (fun _ => ⟨#[]⟩) 1 = true := areB_one a
  have hz1 : w.heap.size < w1.heap.size := by have := hb1.size; simp at this; omega
  have bel1 : Below w.heap.size w w1 := ((Below.refl _ _).alloc (Nat.le_refl _) _).trans (hb1.mono (by simp))
  obtain ⟨hc1, hf1⟩ := bcell hb1
  clear hv0 k0 t0
  go_wp2_with fail
  refine (number_any _ _).mono ?_
  rintro e w2 ⟨rfl, hb2⟩
  obtain ⟨hc2, hf2⟩ := bcell (hb1.trans (hb2.mono hb1.size))
  go_wp2
  exact bodyPost_ret (v := .tuple #[.agg #[.int .i8 1, .int .i64 (wrap64 (-a)), .string ⟨#[]⟩], .bool true]) (by simp [results, Tryd.results35, go_sem, hc2]) rfl
    ⟨rfl, (((bel1.trans (hb2.mono (Nat.le_of_lt hz1))).setCell (by simp) _).setCell (by simp) _).setCell (by simp) _⟩

theorem size_any (a : Int) (w : World) (ha : In64 a) : Calls Tryd.prog 37 #[.int .i64 a] w fun e w' => e = .returned (.int .u64 (szW a)) ∧ w' = w := by
  have hb : -9223372036854775808 ≤ a ∧ a ≤ 9223372036854775807 := ha
  by_cases h : a < 0
  · have HS : Hid (szW a = -a) := by show szW a = -a; unfold szW; rw [if_pos h]
    go_enter Tryd.func37, Tryd.ntmps37
    go_wp2
    go_ret
    refine ⟨ret_int ?_, rfl⟩
    rw [HS.out]
    go_light
    simp only [IntKind.wrap_u64]
    omega
  · have HS : Hid (szW a = a) := by show szW a = a; unfold szW; rw [if_neg h]
    go_enter Tryd.func37, Tryd.ntmps37
    go_wp2
    go_ret
    refine ⟨ret_int ?_, rfl⟩
    rw [HS.out]

theorem two_keep {w w3 v v' : World} {k n : Int} (hz : w.heap.size ≤ w3.heap.size) (hb : Below v.heap.size v v')
    (h : w3.heap.size < v.heap.size ∧ Below w.heap.size w v ∧ v.cell? ⟨w3.heap.size, 0, none⟩ = some (.int .i8 k) ∧ v.cell? ⟨w3.heap.size, 1, none⟩ = some (.int .i64 n) ∧ v.cell? ⟨w3.heap.size, 2, none⟩ = some (.string ⟨#[]⟩)) :
    w3.heap.size < v'.heap.size ∧ Below w.heap.size w v' ∧ v'.cell? ⟨w3.heap.size, 0, none⟩ = some (.int .i8 k) ∧ v'.cell? ⟨w3.heap.size, 1, none⟩ = some (.int .i64 n) ∧ v'.cell? ⟨w3.heap.size, 2, none⟩ = some (.string ⟨#[]⟩) := by
  obtain ⟨hl, bel, a0, a1, a2⟩ := h
  have hs := hb.size
  refine ⟨by omega, bel.trans (hb.mono (by omega)), ?_, ?_, ?_⟩
  · rw [hb.cell (by show w3.heap.size < _; omega)]; exact a0
  · rw [hb.cell (by show w3.heap.size < _; omega)]; exact a1
  · rw [hb.cell (by show w3.heap.size < _; omega)]; exact a2

theorem arith_addW (a b : Int) (g off cap : Nat) (w : World) (ht : Tab w) (hn : Nums2 w g off a b) :
    Calls Tryd.prog 35 #[.int .i8 2, .slice (some ⟨g, off, none⟩) 2 cap] w fun e w' => e = .returned (.tuple #[.agg #[.int .i8 1, .int .i64 (addW a b), .string ⟨#[]⟩], .bool true]) ∧ Below w.heap.size w w' := arith_add a b g off cap w ht hn
theorem arith_subW (a b : Int) (g off cap : Nat) (w : World) (ht : Tab w) (hn : Nums2 w g off a b) :
    Calls Tryd.prog 35 #[.int .i8 3, .slice (some ⟨g, off, none⟩) 2 cap] w fun e w' => e = .returned (.tuple #[.agg #[.int .i8 1, .int .i64 (subW a b), .string ⟨#[]⟩], .bool true]) ∧ Below w.heap.size w w' := arith_sub a b g off cap w ht hn
theorem arith_mulW (a b : Int) (g off cap : Nat) (w : World) (ht : Tab w) (hn : Nums2 w g off a b) :
    Calls Tryd.prog 35 #[.int .i8 4, .slice (some ⟨g, off, none⟩) 2 cap] w fun e w' => e = .returned (.tuple #[.agg #[.int .i8 1, .int .i64 (mulW a b), .string ⟨#[]⟩], .bool true]) ∧ Below w.heap.size w w' := arith_mul a b g off cap w ht hn
theorem arith_divW (a b : Int) (g off cap : Nat) (w : World) (ht : Tab w) (hn : Nums2 w g off a b) (hb : ¬ b = 0) :
    Calls Tryd.prog 35 #[.int .i8 5, .slice (some ⟨g, off, none⟩) 2 cap] w fun e w' => e = .returned (.tuple #[.agg #[.int .i8 1, .int .i64 (divW a b), .string ⟨#[]⟩], .bool true]) ∧ Below w.heap.size w w' := arith_div a b g off cap w ht hn hb
theorem arith_modW (a b : Int) (g off cap : Nat) (w : World) (ht : Tab w) (hn : Nums2 w g off a b) (hb : ¬ b = 0) :
    Calls Tryd.prog 35 #[.int .i8 6, .slice (some ⟨g, off, none⟩) 2 cap] w fun e w' => e = .returned (.tuple #[.agg #[.int .i8 1, .int .i64 (modW a b), .string ⟨#[]⟩], .bool true]) ∧ Below w.heap.size w w' := arith_mod a b g off cap w ht hn hb

set_option maxHeartbeats 1600000 in
theorem two_add (a b : Int) (w : World) (ht : Tab w) :
    Calls Tryd.prog 36 #[.int .i8 2, .int .i64 a, .int .i64 b] w fun e w' => e = .returned (.tuple #[.int .i64 (addW a b), .bool true]) ∧ Below w.heap.size w w' := by
  go_enter Tryd.func36, Tryd.ntmps36
  go_wp2_with fail
  refine (num_any _ _).mono ?_
  rintro e w1 ⟨rfl, hb1⟩
  go_wp2_with fail
  refine (num_any _ _).mono ?_
  rintro e w2 ⟨rfl, hb2⟩
  have bel2 : Below w.heap.size w w2 := hb1.trans (hb2.mono hb1.size)
  go_wp2_with fail
  have ha2 : Below w2.heap.size w2 (w2.alloc (.cells #[.int .i8 1, .int .i64 a, .string ⟨#[]⟩, .int .i8 1, .int .i64 b, .string ⟨#[]⟩] 34)) := (Below.refl _ _).alloc (Nat.le_refl _) _
  have hnum : Nums2 (w2.alloc (.cells #[.int .i8 1, .int .i64 a, .string ⟨#[]⟩, .int .i8 1, .int .i64 b, .string ⟨#[]⟩] 34)) w2.heap.size 0 a b := by
    refine ⟨by simp, ?_, ?_, ?_, ?_, ?_, ?_⟩ <;> go_simp
  refine (arith_addW a b w2.heap.size 0 2 _ ((ht.below bel2).below ha2) hnum).mono ?_
  rintro e w3 ⟨rfl, hb3⟩
  have bel3 : Below w.heap.size w w3 := (bel2.trans (ha2.mono bel2.size)).trans (hb3.mono (by have := bel2.size; simp; omega))
  have hz3 := bel3.size
  clear hnum ha2 hb1 hb2 hb3 bel2 ht
  have hE := run_eql_value 1 (addW a b) ⟨#[]⟩ 1 (addW a b) ⟨#[]⟩
  rw [cmpV_s0 _ _ rfl] at hE
  go_wp2_with fail
  go_region_held3 (fun w' => w3.heap.size < w'.heap.size ∧ Below w.heap.size w w' ∧ w'.cell? ⟨w3.heap.size, 0, none⟩ = some (.int .i8 1) ∧ w'.cell? ⟨w3.heap.size, 1, none⟩ = some (.int .i64 (addW a b)) ∧ w'.cell? ⟨w3.heap.size, 2, none⟩ = some (.string ⟨#[]⟩))
    (first
      | exact two_keep hz3 (by assumption) (by assumption)
      | (refine ⟨(by simp), (bel3.alloc hz3 _).drew, ?_, ?_, ?_⟩ <;> go_simp)
      | (refine ⟨(by simp), (bel3.alloc hz3 _), ?_, ?_, ?_⟩ <;> go_simp))
    (first | (go_at_call 28; refine (num_any _ _).mono ?_; rintro e w' ⟨rfl, hbx⟩))
  go_wp2
  go_ret2
  exact ⟨rfl, by rename_i h; exact h.2.1⟩

set_option maxHeartbeats 1600000 in
theorem two_sub (a b : Int) (w : World) (ht : Tab w) :
    Calls Tryd.prog 36 #[.int .i8 3, .int .i64 a, .int .i64 b] w fun e w' => e = .returned (.tuple #[.int .i64 (subW a b), .bool true]) ∧ Below w.heap.size w w' := by
  go_enter Tryd.func36, Tryd.ntmps36
  go_wp2_with fail
  refine (num_any _ _).mono ?_
  rintro e w1 ⟨rfl, hb1⟩
  go_wp2_with fail
  refine (num_any _ _).mono ?_
  rintro e w2 ⟨rfl, hb2⟩
  have bel2 : Below w.heap.size w w2 := hb1.trans (hb2.mono hb1.size)
  go_wp2_with fail
  have ha2 : Below w2.heap.size w2 (w2.alloc (.cells #[.int .i8 1, .int .i64 a, .string ⟨#[]⟩, .int .i8 1, .int .i64 b, .string ⟨#[]⟩] 34)) := (Below.refl _ _).alloc (Nat.le_refl _) _
  have hnum : Nums2 (w2.alloc (.cells #[.int .i8 1, .int .i64 a, .string ⟨#[]⟩, .int .i8 1, .int .i64 b, .string ⟨#[]⟩] 34)) w2.heap.size 0 a b := by
    refine ⟨by simp, ?_, ?_, ?_, ?_, ?_, ?_⟩ <;> go_simp
  refine (arith_subW a b w2.heap.size 0 2 _ ((ht.below bel2).below ha2) hnum).mono ?_
  rintro e w3 ⟨rfl, hb3⟩
  have bel3 : Below w.heap.size w w3 := (bel2.trans (ha2.mono bel2.size)).trans (hb3.mono (by have := bel2.size; simp; omega))
  have hz3 := bel3.size
  clear hnum ha2 hb1 hb2 hb3 bel2 ht
  have hE := run_eql_value 1 (subW a b) ⟨#[]⟩ 1 (subW a b) ⟨#[]⟩
  rw [cmpV_s0 _ _ rfl] at hE
  go_wp2_with fail
  go_region_held3 (fun w' => w3.heap.size < w'.heap.size ∧ Below w.heap.size w w' ∧ w'.cell? ⟨w3.heap.size, 0, none⟩ = some (.int .i8 1) ∧ w'.cell? ⟨w3.heap.size, 1, none⟩ = some (.int .i64 (subW a b)) ∧ w'.cell? ⟨w3.heap.size, 2, none⟩ = some (.string ⟨#[]⟩))
    (first
      | exact two_keep hz3 (by assumption) (by assumption)
      | (refine ⟨(by simp), (bel3.alloc hz3 _).drew, ?_, ?_, ?_⟩ <;> go_simp)
      | (refine ⟨(by simp), (bel3.alloc hz3 _), ?_, ?_, ?_⟩ <;> go_simp))
    (first | (go_at_call 28; refine (num_any _ _).mono ?_; rintro e w' ⟨rfl, hbx⟩))
  go_wp2
  go_ret2
  exact ⟨rfl, by rename_i h; exact h.2.1⟩

set_option maxHeartbeats 1600000 in
theorem two_mul (a b : Int) (w : World) (ht : Tab w) :
    Calls Tryd.prog 36 #[.int .i8 4, .int .i64 a, .int .i64 b] w fun e w' => e = .returned (.tuple #[.int .i64 (mulW a b), .bool true]) ∧ Below w.heap.size w w' := by
  go_enter Tryd.func36, Tryd.ntmps36
  go_wp2_with fail
  refine (num_any _ _).mono ?_
  rintro e w1 ⟨rfl, hb1⟩
  go_wp2_with fail
  refine (num_any _ _).mono ?_
  rintro e w2 ⟨rfl, hb2⟩
  have bel2 : Below w.heap.size w w2 := hb1.trans (hb2.mono hb1.size)
  go_wp2_with fail
  have ha2 : Below w2.heap.size w2 (w2.alloc (.cells #[.int .i8 1, .int .i64 a, .string ⟨#[]⟩, .int .i8 1, .int .i64 b, .string ⟨#[]⟩] 34)) := (Below.refl _ _).alloc (Nat.le_refl _) _
  have hnum : Nums2 (w2.alloc (.cells #[.int .i8 1, .int .i64 a, .string ⟨#[]⟩, .int .i8 1, .int .i64 b, .string ⟨#[]⟩] 34)) w2.heap.size 0 a b := by
    refine ⟨by simp, ?_, ?_, ?_, ?_, ?_, ?_⟩ <;> go_simp
  refine (arith_mulW a b w2.heap.size 0 2 _ ((ht.below bel2).below ha2) hnum).mono ?_
  rintro e w3 ⟨rfl, hb3⟩
  have bel3 : Below w.heap.size w w3 := (bel2.trans (ha2.mono bel2.size)).trans (hb3.mono (by have := bel2.size; simp; omega))
  have hz3 := bel3.size
  clear hnum ha2 hb1 hb2 hb3 bel2 ht
  have hE := run_eql_value 1 (mulW a b) ⟨#[]⟩ 1 (mulW a b) ⟨#[]⟩
  rw [cmpV_s0 _ _ rfl] at hE
  go_wp2_with fail
  go_region_held3 (fun w' => w3.heap.size < w'.heap.size ∧ Below w.heap.size w w' ∧ w'.cell? ⟨w3.heap.size, 0, none⟩ = some (.int .i8 1) ∧ w'.cell? ⟨w3.heap.size, 1, none⟩ = some (.int .i64 (mulW a b)) ∧ w'.cell? ⟨w3.heap.size, 2, none⟩ = some (.string ⟨#[]⟩))
    (first
      | exact two_keep hz3 (by assumption) (by assumption)
      | (refine ⟨(by simp), (bel3.alloc hz3 _).drew, ?_, ?_, ?_⟩ <;> go_simp)
      | (refine ⟨(by simp), (bel3.alloc hz3 _), ?_, ?_, ?_⟩ <;> go_simp))
    (first | (go_at_call 28; refine (num_any _ _).mono ?_; rintro e w' ⟨rfl, hbx⟩))
  go_wp2
  go_ret2
  exact ⟨rfl, by rename_i h; exact h.2.1⟩

set_option maxHeartbeats 1600000 in
theorem two_div (a b : Int) (w : World) (ht : Tab w) (hb : ¬ b = 0) :
    Calls Tryd.prog 36 #[.int .i8 5, .int .i64 a, .int .i64 b] w fun e w' => e = .returned (.tuple #[.int .i64 (divW a b), .bool true]) ∧ Below w.heap.size w w' := by
  go_enter Tryd.func36, Tryd.ntmps36
  go_wp2_with fail
  refine (num_any _ _).mono ?_
  rintro e w1 ⟨rfl, hb1⟩
  go_wp2_with fail
  refine (num_any _ _).mono ?_
  rintro e w2 ⟨rfl, hb2⟩
  have bel2 : Below w.heap.size w w2 := hb1.trans (hb2.mono hb1.size)
  go_wp2_with fail
  have ha2 : Below w2.heap.size w2 (w2.alloc (.cells #[.int .i8 1, .int .i64 a, .string ⟨#[]⟩, .int .i8 1, .int .i64 b, .string ⟨#[]⟩] 34)) := (Below.refl _ _).alloc (Nat.le_refl _) _
  have hnum : Nums2 (w2.alloc (.cells #[.int .i8 1, .int .i64 a, .string ⟨#[]⟩, .int .i8 1, .int .i64 b, .string ⟨#[]⟩] 34)) w2.heap.size 0 a b := by
    refine ⟨by simp, ?_, ?_, ?_, ?_, ?_, ?_⟩ <;> go_simp
  refine (arith_divW a b w2.heap.size 0 2 _ ((ht.below bel2).below ha2) hnum hb).mono ?_
  rintro e w3 ⟨rfl, hb3⟩
  have bel3 : Below w.heap.size w w3 := (bel2.trans (ha2.mono bel2.size)).trans (hb3.mono (by have := bel2.size; simp; omega))
  have hz3 := bel3.size
  clear hnum ha2 hb1 hb2 hb3 bel2 ht
  have hE := run_eql_value 1 (divW a b) ⟨#[]⟩ 1 (divW a b) ⟨#[]⟩
  rw [cmpV_s0 _ _ rfl] at hE
  go_wp2_with fail
  go_region_held3 (fun w' => w3.heap.size < w'.heap.size ∧ Below w.heap.size w w' ∧ w'.cell? ⟨w3.heap.size, 0, none⟩ = some (.int .i8 1) ∧ w'.cell? ⟨w3.heap.size, 1, none⟩ = some (.int .i64 (divW a b)) ∧ w'.cell? ⟨w3.heap.size, 2, none⟩ = some (.string ⟨#[]⟩))
    (first
      | exact two_keep hz3 (by assumption) (by assumption)
      | (refine ⟨(by simp), (bel3.alloc hz3 _).drew, ?_, ?_, ?_⟩ <;> go_simp)
      | (refine ⟨(by simp), (bel3.alloc hz3 _), ?_, ?_, ?_⟩ <;> go_simp))
    (first | (go_at_call 28; refine (num_any _ _).mono ?_; rintro e w' ⟨rfl, hbx⟩))
  go_wp2
  go_ret2
  exact ⟨rfl, by rename_i h; exact h.2.1⟩

set_option maxHeartbeats 1600000 in
theorem two_mod (a b : Int) (w : World) (ht : Tab w) (hb : ¬ b = 0) :
    Calls Tryd.prog 36 #[.int .i8 6, .int .i64 a, .int .i64 b] w fun e w' => e = .returned (.tuple #[.int .i64 (modW a b), .bool true]) ∧ Below w.heap.size w w' := by
  go_enter Tryd.func36, Tryd.ntmps36
  go_wp2_with fail
  refine (num_any _ _).mono ?_
  rintro e w1 ⟨rfl, hb1⟩
  go_wp2_with fail
  refine (num_any _ _).mono ?_
  rintro e w2 ⟨rfl, hb2⟩
  have bel2 : Below w.heap.size w w2 := hb1.trans (hb2.mono hb1.size)
  go_wp2_with fail
  have ha2 : Below w2.heap.size w2 (w2.alloc (.cells #[.int .i8 1, .int .i64 a, .string ⟨#[]⟩, .int .i8 1, .int .i64 b, .string ⟨#[]⟩] 34)) := (Below.refl _ _).alloc (Nat.le_refl _) _
  have hnum : Nums2 (w2.alloc (.cells #[.int .i8 1, .int .i64 a, .string ⟨#[]⟩, .int .i8 1, .int .i64 b, .string ⟨#[]⟩] 34)) w2.heap.size 0 a b := by
    refine ⟨by simp, ?_, ?_, ?_, ?_, ?_, ?_⟩ <;> go_simp
  refine (arith_modW a b w2.heap.size 0 2 _ ((ht.below bel2).below ha2) hnum hb).mono ?_
  rintro e w3 ⟨rfl, hb3⟩
  have bel3 : Below w.heap.size w w3 := (bel2.trans (ha2.mono bel2.size)).trans (hb3.mono (by have := bel2.size; simp; omega))
  have hz3 := bel3.size
  clear hnum ha2 hb1 hb2 hb3 bel2 ht
  have hE := run_eql_value 1 (modW a b) ⟨#[]⟩ 1 (modW a b) ⟨#[]⟩
  rw [cmpV_s0 _ _ rfl] at hE
  go_wp2_with fail
  go_region_held3 (fun w' => w3.heap.size < w'.heap.size ∧ Below w.heap.size w w' ∧ w'.cell? ⟨w3.heap.size, 0, none⟩ = some (.int .i8 1) ∧ w'.cell? ⟨w3.heap.size, 1, none⟩ = some (.int .i64 (modW a b)) ∧ w'.cell? ⟨w3.heap.size, 2, none⟩ = some (.string ⟨#[]⟩))
    (first
      | exact two_keep hz3 (by assumption) (by assumption)
      | (refine ⟨(by simp), (bel3.alloc hz3 _).drew, ?_, ?_, ?_⟩ <;> go_simp)
      | (refine ⟨(by simp), (bel3.alloc hz3 _), ?_, ?_, ?_⟩ <;> go_simp))
    (first | (go_at_call 28; refine (num_any _ _).mono ?_; rintro e w' ⟨rfl, hbx⟩))
  go_wp2
  go_ret2
  exact ⟨rfl, by rename_i h; exact h.2.1⟩

set_option maxHeartbeats 1600000 in
theorem two_div0 (a : Int) (w : World) (ht : Tab w) :
    Calls Tryd.prog 36 #[.int .i8 5, .int .i64 a, .int .i64 0] w fun e w' => e = .returned (.tuple #[.int .i64 (0), .bool false]) ∧ Below w.heap.size w w' := by
  go_enter Tryd.func36, Tryd.ntmps36
  go_wp2_with fail
  refine (num_any _ _).mono ?_
  rintro e w1 ⟨rfl, hb1⟩
  go_wp2_with fail
  refine (num_any _ _).mono ?_
  rintro e w2 ⟨rfl, hb2⟩
  have bel2 : Below w.heap.size w w2 := hb1.trans (hb2.mono hb1.size)
  go_wp2_with fail
  have ha2 : Below w2.heap.size w2 (w2.alloc (.cells #[.int .i8 1, .int .i64 a, .string ⟨#[]⟩, .int .i8 1, .int .i64 0, .string ⟨#[]⟩] 34)) := (Below.refl _ _).alloc (Nat.le_refl _) _
  have hnum : Nums2 (w2.alloc (.cells #[.int .i8 1, .int .i64 a, .string ⟨#[]⟩, .int .i8 1, .int .i64 0, .string ⟨#[]⟩] 34)) w2.heap.size 0 a 0 := by
    refine ⟨by simp, ?_, ?_, ?_, ?_, ?_, ?_⟩ <;> go_simp
  refine (arith_div0 a w2.heap.size 0 2 _ ((ht.below bel2).below ha2) hnum).mono ?_
  rintro e w3 ⟨rfl, hb3⟩
  have bel3 : Below w.heap.size w w3 := (bel2.trans (ha2.mono bel2.size)).trans (hb3.mono (by have := bel2.size; simp; omega))
  have hz3 := bel3.size
  clear hnum ha2 hb1 hb2 hb3 bel2 ht
  have hE := run_eql_value 1 (0) ⟨#[]⟩ 1 (0) ⟨#[]⟩
  rw [cmpV_s0 _ _ rfl] at hE
  go_wp2_with fail
  go_quiet (fail)
  go_wp2
  go_ret2
  exact ⟨rfl, (bel3.alloc hz3 _).trans ⟨rfl, rfl, rfl, Nat.le_refl _, fun _ _ => rfl⟩⟩

set_option maxHeartbeats 1600000 in
theorem two_mod0 (a : Int) (w : World) (ht : Tab w) :
    Calls Tryd.prog 36 #[.int .i8 6, .int .i64 a, .int .i64 0] w fun e w' => e = .returned (.tuple #[.int .i64 (0), .bool false]) ∧ Below w.heap.size w w' := by
  go_enter Tryd.func36, Tryd.ntmps36
  go_wp2_with fail
  refine (num_any _ _).mono ?_
  rintro e w1 ⟨rfl, hb1⟩
  go_wp2_with fail
  refine (num_any _ _).mono ?_
  rintro e w2 ⟨rfl, hb2⟩
  have bel2 : Below w.heap.size w w2 := hb1.trans (hb2.mono hb1.size)
  go_wp2_with fail
  have ha2 : Below w2.heap.size w2 (w2.alloc (.cells #[.int .i8 1, .int .i64 a, .string ⟨#[]⟩, .int .i8 1, .int .i64 0, .string ⟨#[]⟩] 34)) := (Below.refl _ _).alloc (Nat.le_refl _) _
  have hnum : Nums2 (w2.alloc (.cells #[.int .i8 1, .int .i64 a, .string ⟨#[]⟩, .int .i8 1, .int .i64 0, .string ⟨#[]⟩] 34)) w2.heap.size 0 a 0 := by
    refine ⟨by simp, ?_, ?_, ?_, ?_, ?_, ?_⟩ <;> go_simp
  refine (arith_mod0 a w2.heap.size 0 2 _ ((ht.below bel2).below ha2) hnum).mono ?_
  rintro e w3 ⟨rfl, hb3⟩
  have bel3 : Below w.heap.size w w3 := (bel2.trans (ha2.mono bel2.size)).trans (hb3.mono (by have := bel2.size; simp; omega))
  have hz3 := bel3.size
  clear hnum ha2 hb1 hb2 hb3 bel2 ht
  have hE := run_eql_value 1 (0) ⟨#[]⟩ 1 (0) ⟨#[]⟩
  rw [cmpV_s0 _ _ rfl] at hE
  go_wp2_with fail
  go_quiet (fail)
  go_wp2
  go_ret2
  exact ⟨rfl, (bel3.alloc hz3 _).trans ⟨rfl, rfl, rfl, Nat.le_refl _, fun _ _ => rfl⟩⟩

end Go.Proofs.YtkcgnommiaiidabDoor
