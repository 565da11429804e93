import Derived.Test.YtkgoceomkkohmaaDoorNums
import Derived.Test.YtkgoceomkkohmaaDoorDivide
namespace Go.Proofs.YtkgoceomkkohmaaDoor.AR
open Go.RowKit
set_option linter.unusedVariables false
attribute [local go_sem ↓] Go.wp_at_zero Go.wp_at_succ

set_option maxHeartbeats 800000 in
theorem ofNumbers_div (a b : Int) (w : World) (hb : ¬ b = 0) :
    Calls Tryd.prog 30 #[.int .i8 5, .int .i64 a, .int .i64 b] w fun e w' => e = .returned (.tuple #[.agg #[.int .i8 1, .int .i64 (wrap64 (a.tdiv b)), .string ⟨#[]⟩], .bool true]) ∧ Below w.heap.size w w' := by
  go_enter Tryd.func30, Tryd.ntmps30
  go_wp2_with fail
  refine (divide_some _ _ hb _).mono ?_
  rintro e wd ⟨rfl, hbd⟩
  go_wp2_with fail
  refine (number_any _ _).mono ?_
  rintro e w1 ⟨rfl, hb1⟩
  obtain ⟨hc1, hf1⟩ := bcell (hbd.trans (hb1.mono hbd.size))
  go_wp2
  exact bodyPost_ret (v := .tuple #[.agg #[.int .i8 1, .int .i64 (wrap64 (a.tdiv b)), .string ⟨#[]⟩], .bool true]) (by simp [results, Tryd.results30, go_sem, hc1]) rfl
    ⟨rfl, (((((Below.refl _ _).alloc (Nat.le_refl _) _).trans ((hbd.trans (hb1.mono hbd.size)).mono (by simp))).setCell (by simp) _).setCell (by simp) _).setCell (by simp) _⟩

set_option maxHeartbeats 800000 in
theorem ofNumbers_mod (a b : Int) (w : World) (hb : ¬ b = 0) :
    Calls Tryd.prog 30 #[.int .i8 6, .int .i64 a, .int .i64 b] w fun e w' => e = .returned (.tuple #[.agg #[.int .i8 1, .int .i64 (a.tmod b), .string ⟨#[]⟩], .bool true]) ∧ Below w.heap.size w w' := by
  go_enter Tryd.func30, Tryd.ntmps30
  go_wp2_with fail
  refine (divide_some _ _ hb _).mono ?_
  rintro e wd ⟨rfl, hbd⟩
  go_wp2_with fail
  refine (number_any _ _).mono ?_
  rintro e w1 ⟨rfl, hb1⟩
  obtain ⟨hc1, hf1⟩ := bcell (hbd.trans (hb1.mono hbd.size))
  go_wp2
  exact bodyPost_ret (v := .tuple #[.agg #[.int .i8 1, .int .i64 (a.tmod b), .string ⟨#[]⟩], .bool true]) (by simp [results, Tryd.results30, go_sem, hc1]) rfl
    ⟨rfl, (((((Below.refl _ _).alloc (Nat.le_refl _) _).trans ((hbd.trans (hb1.mono hbd.size)).mono (by simp))).setCell (by simp) _).setCell (by simp) _).setCell (by simp) _⟩

set_option maxHeartbeats 800000 in
theorem ofNumbers_div0 (a : Int) (w : World) :
    Calls Tryd.prog 30 #[.int .i8 5, .int .i64 a, .int .i64 0] w fun e w' => e = .returned (.tuple #[.agg #[.int .i8 0, .int .i64 0, .string ⟨#[]⟩], .bool false]) ∧ Below w.heap.size w w' := by
  go_enter Tryd.func30, Tryd.ntmps30
  go_wp2_with fail
  refine (divide_zero _ _).mono ?_
  rintro e wd ⟨rfl, hbd⟩
  obtain ⟨hc1, hf1⟩ := bcell hbd
  go_wp2
  exact bodyPost_ret (v := .tuple #[.agg #[.int .i8 0, .int .i64 0, .string ⟨#[]⟩], .bool false]) (by simp [results, Tryd.results30, go_sem, hc1]) rfl
    ⟨rfl, (((((Below.refl _ _).alloc (Nat.le_refl _) _).trans (hbd.mono (by simp))).setCell (by simp) _).setCell (by simp) _).setCell (by simp) _⟩

set_option maxHeartbeats 800000 in
theorem ofNumbers_mod0 (a : Int) (w : World) :
    Calls Tryd.prog 30 #[.int .i8 6, .int .i64 a, .int .i64 0] w fun e w' => e = .returned (.tuple #[.agg #[.int .i8 0, .int .i64 0, .string ⟨#[]⟩], .bool false]) ∧ Below w.heap.size w w' := by
  go_enter Tryd.func30, Tryd.ntmps30
  go_wp2_with fail
  refine (divide_zero _ _).mono ?_
  rintro e wd ⟨rfl, hbd⟩
  obtain ⟨hc1, hf1⟩ := bcell hbd
  go_wp2
  exact bodyPost_ret (v := .tuple #[.agg #[.int .i8 0, .int .i64 0, .string ⟨#[]⟩], .bool false]) (by simp [results, Tryd.results30, go_sem, hc1]) rfl
    ⟨rfl, (((((Below.refl _ _).alloc (Nat.le_refl _) _).trans (hbd.mono (by simp))).setCell (by simp) _).setCell (by simp) _).setCell (by simp) _⟩

set_option maxHeartbeats 1600000 in
theorem arith_div (a b : Int) (g off cap : Nat) (w : World) (ht : Tab w) (hn : Nums2 w g off a b) (hb : ¬ b = 0) :
    Calls Tryd.prog 13 #[.int .i8 5, .slice (some ⟨g, off, none⟩) 2 cap] w fun e w' => e = .returned (.tuple #[.agg #[.int .i8 1, .int .i64 (wrap64 (a.tdiv b)), .string ⟨#[]⟩], .bool true]) ∧ Below w.heap.size w w' := by
  have hlt := hn.lt
  have hn0 := hn.n0
  have hn1 := hn.n1
  go_enter Tryd.func13, Tryd.ntmps13
  go_wp2_with fail
  refine (takingOf_any _ _ (ht.below ((Below.refl _ _).alloc (Nat.le_refl _) _)) (by omega)).mono ?_
  rintro e w0 ⟨rfl, rfl⟩
  have hk : tkOf 5 = 2 := by decide
  go_wp2_with fail
  have hv0 := (hn.vals).below ((Below.refl w.heap.size w).alloc (Nat.le_refl _) (.cells #[.int .i8 0, .int .i64 0, .string ⟨#[]⟩] 26))
  refine (areValues_any _ _ _ g off 2 cap 2 1 _ hv0 (by unfold maxLen; omega)).mono ?_
  rintro e w1 ⟨rfl, hb1⟩
  have hB : areB 2 1 (fun _ => 1) (fun i => if i = 0 then a else b) (fun _ => ⟨#[]⟩) 2 = true := areB_nums2 a b
  have hz1 : w.heap.size < w1.heap.size := by have := hb1.size; simp at this; omega
  have bel1 : Below w.heap.size w w1 := ((Below.refl _ _).alloc (Nat.le_refl _) _).trans (hb1.mono (by simp))
  obtain ⟨hc1, hf1⟩ := bcell hb1
  clear hn hv0
  go_wp2_with fail
  go_region_with (go_at_call 30; refine (ofNumbers_div _ _ _ hb).mono ?_; rintro e w2 ⟨rfl, hb2⟩; obtain ⟨hc2, hf2⟩ := bcell ((hb1.drew).trans (hb2.mono hb1.size)))
  all_goals
    go_wp2
    exact bodyPost_ret (v := .tuple #[.agg #[.int .i8 1, .int .i64 (wrap64 (a.tdiv b)), .string ⟨#[]⟩], .bool true]) (by simp [results, Tryd.results13, go_sem, hc2]) rfl
      ⟨rfl, (((bel1.drew.trans (hb2.mono (Nat.le_of_lt hz1))).setCell (by simp) _).setCell (by simp) _).setCell (by simp) _⟩

set_option maxHeartbeats 1600000 in
theorem arith_mod (a b : Int) (g off cap : Nat) (w : World) (ht : Tab w) (hn : Nums2 w g off a b) (hb : ¬ b = 0) :
    Calls Tryd.prog 13 #[.int .i8 6, .slice (some ⟨g, off, none⟩) 2 cap] w fun e w' => e = .returned (.tuple #[.agg #[.int .i8 1, .int .i64 (a.tmod b), .string ⟨#[]⟩], .bool true]) ∧ Below w.heap.size w w' := by
  have hlt := hn.lt
  have hn0 := hn.n0
  have hn1 := hn.n1
  go_enter Tryd.func13, Tryd.ntmps13
  go_wp2_with fail
  refine (takingOf_any _ _ (ht.below ((Below.refl _ _).alloc (Nat.le_refl _) _)) (by omega)).mono ?_
  rintro e w0 ⟨rfl, rfl⟩
  have hk : tkOf 6 = 2 := by decide
  go_wp2_with fail
  have hv0 := (hn.vals).below ((Below.refl w.heap.size w).alloc (Nat.le_refl _) (.cells #[.int .i8 0, .int .i64 0, .string ⟨#[]⟩] 26))
  refine (areValues_any _ _ _ g off 2 cap 2 1 _ hv0 (by unfold maxLen; omega)).mono ?_
  rintro e w1 ⟨rfl, hb1⟩
  have hB : areB 2 1 (fun _ => 1) (fun i => if i = 0 then a else b) (fun _ => ⟨#[]⟩) 2 = true := areB_nums2 a b
  have hz1 : w.heap.size < w1.heap.size := by have := hb1.size; simp at this; omega
  have bel1 : Below w.heap.size w w1 := ((Below.refl _ _).alloc (Nat.le_refl _) _).trans (hb1.mono (by simp))
  obtain ⟨hc1, hf1⟩ := bcell hb1
  clear hn hv0
  go_wp2_with fail
  go_region_with (go_at_call 30; refine (ofNumbers_mod _ _ _ hb).mono ?_; rintro e w2 ⟨rfl, hb2⟩; obtain ⟨hc2, hf2⟩ := bcell ((hb1.drew).trans (hb2.mono hb1.size)))
  all_goals
    go_wp2
    exact bodyPost_ret (v := .tuple #[.agg #[.int .i8 1, .int .i64 (a.tmod b), .string ⟨#[]⟩], .bool true]) (by simp [results, Tryd.results13, go_sem, hc2]) rfl
      ⟨rfl, (((bel1.drew.trans (hb2.mono (Nat.le_of_lt hz1))).setCell (by simp) _).setCell (by simp) _).setCell (by simp) _⟩

set_option maxHeartbeats 1600000 in
theorem arith_div0 (a : Int) (g off cap : Nat) (w : World) (ht : Tab w) (hn : Nums2 w g off a 0) :
    Calls Tryd.prog 13 #[.int .i8 5, .slice (some ⟨g, off, none⟩) 2 cap] w fun e w' => e = .returned (.tuple #[.agg #[.int .i8 0, .int .i64 0, .string ⟨#[]⟩], .bool false]) ∧ Below w.heap.size w w' := by
  have hlt := hn.lt
  have hn0 := hn.n0
  have hn1 := hn.n1
  go_enter Tryd.func13, Tryd.ntmps13
  go_wp2_with fail
  refine (takingOf_any _ _ (ht.below ((Below.refl _ _).alloc (Nat.le_refl _) _)) (by omega)).mono ?_
  rintro e w0 ⟨rfl, rfl⟩
  have hk : tkOf 5 = 2 := by decide
  go_wp2_with fail
  have hv0 := (hn.vals).below ((Below.refl w.heap.size w).alloc (Nat.le_refl _) (.cells #[.int .i8 0, .int .i64 0, .string ⟨#[]⟩] 26))
  refine (areValues_any _ _ _ g off 2 cap 2 1 _ hv0 (by unfold maxLen; omega)).mono ?_
  rintro e w1 ⟨rfl, hb1⟩
  have hB : areB 2 1 (fun _ => 1) (fun i => if i = 0 then a else 0) (fun _ => ⟨#[]⟩) 2 = true := areB_nums2 a 0
  have hz1 : w.heap.size < w1.heap.size := by have := hb1.size; simp at this; omega
  have bel1 : Below w.heap.size w w1 := ((Below.refl _ _).alloc (Nat.le_refl _) _).trans (hb1.mono (by simp))
  obtain ⟨hc1, hf1⟩ := bcell hb1
  clear hn hv0
  go_wp2_with fail
  go_region_with (go_at_call 30; refine (ofNumbers_div0 _ _).mono ?_; rintro e w2 ⟨rfl, hb2⟩; obtain ⟨hc2, hf2⟩ := bcell ((hb1.drew).trans (hb2.mono hb1.size)))
  all_goals
    go_wp2
    exact bodyPost_ret (v := .tuple #[.agg #[.int .i8 0, .int .i64 0, .string ⟨#[]⟩], .bool false]) (by simp [results, Tryd.results13, go_sem, hc2]) rfl
      ⟨rfl, (((bel1.drew.trans (hb2.mono (Nat.le_of_lt hz1))).setCell (by simp) _).setCell (by simp) _).setCell (by simp) _⟩

set_option maxHeartbeats 1600000 in
theorem arith_mod0 (a : Int) (g off cap : Nat) (w : World) (ht : Tab w) (hn : Nums2 w g off a 0) :
    Calls Tryd.prog 13 #[.int .i8 6, .slice (some ⟨g, off, none⟩) 2 cap] w fun e w' => e = .returned (.tuple #[.agg #[.int .i8 0, .int .i64 0, .string ⟨#[]⟩], .bool false]) ∧ Below w.heap.size w w' := by
  have hlt := hn.lt
  have hn0 := hn.n0
  have hn1 := hn.n1
  go_enter Tryd.func13, Tryd.ntmps13
  go_wp2_with fail
  refine (takingOf_any _ _ (ht.below ((Below.refl _ _).alloc (Nat.le_refl _) _)) (by omega)).mono ?_
  rintro e w0 ⟨rfl, rfl⟩
  have hk : tkOf 6 = 2 := by decide
  go_wp2_with fail
  have hv0 := (hn.vals).below ((Below.refl w.heap.size w).alloc (Nat.le_refl _) (.cells #[.int .i8 0, .int .i64 0, .string ⟨#[]⟩] 26))
  refine (areValues_any _ _ _ g off 2 cap 2 1 _ hv0 (by unfold maxLen; omega)).mono ?_
  rintro e w1 ⟨rfl, hb1⟩
  have hB : areB 2 1 (fun _ => 1) (fun i => if i = 0 then a else 0) (fun _ => ⟨#[]⟩) 2 = true := areB_nums2 a 0
  have hz1 : w.heap.size < w1.heap.size := by have := hb1.size; simp at this; omega
  have bel1 : Below w.heap.size w w1 := ((Below.refl _ _).alloc (Nat.le_refl _) _).trans (hb1.mono (by simp))
  obtain ⟨hc1, hf1⟩ := bcell hb1
  clear hn hv0
  go_wp2_with fail
  go_region_with (go_at_call 30; refine (ofNumbers_mod0 _ _).mono ?_; rintro e w2 ⟨rfl, hb2⟩; obtain ⟨hc2, hf2⟩ := bcell ((hb1.drew).trans (hb2.mono hb1.size)))
  all_goals
    go_wp2
    exact bodyPost_ret (v := .tuple #[.agg #[.int .i8 0, .int .i64 0, .string ⟨#[]⟩], .bool false]) (by simp [results, Tryd.results13, go_sem, hc2]) rfl
      ⟨rfl, (((bel1.drew.trans (hb2.mono (Nat.le_of_lt hz1))).setCell (by simp) _).setCell (by simp) _).setCell (by simp) _⟩

end Go.Proofs.YtkgoceomkkohmaaDoor.AR
