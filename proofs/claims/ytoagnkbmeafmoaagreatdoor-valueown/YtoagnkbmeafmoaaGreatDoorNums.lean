import Derived.Test.YtoagnkbmeafmoaaGreatDoorArith
namespace Go.Proofs.YtoagnkbmeafmoaaGreatDoor.AR
open Go.RowKit
set_option linter.unusedVariables false
attribute [local go_sem ↓] Go.wp_at_zero Go.wp_at_succ

set_option maxHeartbeats 400000 in
theorem ofNumbers_add (a b : Int) (w : World) :
    Calls Tryz.prog 77 #[.int .i8 2, .int .i64 a, .int .i64 b] w fun e w' => e = .returned (.tuple #[.agg #[.int .i8 1, .int .i64 (wrap64 (a + b)), .string ⟨#[]⟩], .bool true]) ∧ Below w.heap.size w w' := by
  go_enter Tryz.func77, Tryz.ntmps77
  go_wp2_with (go_at_call 76; refine (number_any _ _).mono ?_; rintro e w1 ⟨rfl, hb1⟩; obtain ⟨hc1, hf1⟩ := bcell hb1)
  exact bodyPost_ret (v := .tuple #[.agg #[.int .i8 1, .int .i64 (wrap64 (a + b)), .string ⟨#[]⟩], .bool true]) (by simp [results, Tryz.results77, go_sem, hc1]) rfl
    ⟨rfl, (((((Below.refl _ _).alloc (Nat.le_refl _) _).trans (hb1.mono (by simp))).setCell (by simp) _).setCell (by simp) _).setCell (by simp) _⟩

set_option maxHeartbeats 400000 in
theorem ofNumbers_sub (a b : Int) (w : World) :
    Calls Tryz.prog 77 #[.int .i8 3, .int .i64 a, .int .i64 b] w fun e w' => e = .returned (.tuple #[.agg #[.int .i8 1, .int .i64 (wrap64 (a - b)), .string ⟨#[]⟩], .bool true]) ∧ Below w.heap.size w w' := by
  go_enter Tryz.func77, Tryz.ntmps77
  go_wp2_with (go_at_call 76; refine (number_any _ _).mono ?_; rintro e w1 ⟨rfl, hb1⟩; obtain ⟨hc1, hf1⟩ := bcell hb1)
  exact bodyPost_ret (v := .tuple #[.agg #[.int .i8 1, .int .i64 (wrap64 (a - b)), .string ⟨#[]⟩], .bool true]) (by simp [results, Tryz.results77, go_sem, hc1]) rfl
    ⟨rfl, (((((Below.refl _ _).alloc (Nat.le_refl _) _).trans (hb1.mono (by simp))).setCell (by simp) _).setCell (by simp) _).setCell (by simp) _⟩

set_option maxHeartbeats 400000 in
theorem ofNumbers_mul (a b : Int) (w : World) :
    Calls Tryz.prog 77 #[.int .i8 4, .int .i64 a, .int .i64 b] w fun e w' => e = .returned (.tuple #[.agg #[.int .i8 1, .int .i64 (wrap64 (a * b)), .string ⟨#[]⟩], .bool true]) ∧ Below w.heap.size w w' := by
  go_enter Tryz.func77, Tryz.ntmps77
  go_wp2_with (go_at_call 76; refine (number_any _ _).mono ?_; rintro e w1 ⟨rfl, hb1⟩; obtain ⟨hc1, hf1⟩ := bcell hb1)
  exact bodyPost_ret (v := .tuple #[.agg #[.int .i8 1, .int .i64 (wrap64 (a * b)), .string ⟨#[]⟩], .bool true]) (by simp [results, Tryz.results77, go_sem, hc1]) rfl
    ⟨rfl, (((((Below.refl _ _).alloc (Nat.le_refl _) _).trans (hb1.mono (by simp))).setCell (by simp) _).setCell (by simp) _).setCell (by simp) _⟩

/-- two numbers that lie behind one another in a block -/
structure Nums2 (w : World) (g off : Nat) (a b : Int) : Prop where
  lt : g < w.heap.size
  k0 : w.cell? ⟨g, off, none⟩ = some (.int .i8 1)
  n0 : w.cell? ⟨g, off + 1, none⟩ = some (.int .i64 a)
  t0 : w.cell? ⟨g, off + 2, none⟩ = some (.string ⟨#[]⟩)
  k1 : w.cell? ⟨g, off + 3, none⟩ = some (.int .i8 1)
  n1 : w.cell? ⟨g, off + 4, none⟩ = some (.int .i64 b)
  t1 : w.cell? ⟨g, off + 5, none⟩ = some (.string ⟨#[]⟩)

theorem Nums2.vals {w : World} {g off : Nat} {a b : Int} (h : Nums2 w g off a b) : Vals w g off 2 (fun _ => 1) (fun i => if i = 0 then a else b) (fun _ => ⟨#[]⟩) := by
  refine ⟨h.lt, ?_, ?_, ?_, fun _ _ => by decide⟩ <;> intro i hi <;> obtain rfl | rfl : i = 0 ∨ i = 1 := by omega
  · simpa using h.k0
  · simpa using h.k1
  · simpa using h.n0
  · simpa using h.n1
  · simpa using h.t0
  · simpa using h.t1

theorem areB_nums2 (a b : Int) : areB 2 1 (fun _ => 1) (fun i => if i = 0 then a else b) (fun _ => ⟨#[]⟩) 2 = true := by
  have h : ∀ n, chk 1 n ⟨#[]⟩ = 0 := fun n => (chk_ok (.inl ⟨rfl, by rw [ByteArray.toList_eq]⟩)).symm
  simp [areB, allOf, h]

set_option maxHeartbeats 1600000 in
theorem arith_add (a b : Int) (g off cap : Nat) (w : World) (ht : Tab w) (hn : Nums2 w g off a b) :
    Calls Tryz.prog 18 #[.int .i8 2, .slice (some ⟨g, off, none⟩) 2 cap] w fun e w' => e = .returned (.tuple #[.agg #[.int .i8 1, .int .i64 (wrap64 (a + b)), .string ⟨#[]⟩], .bool true]) ∧ Below w.heap.size w w' := by
  have hlt := hn.lt
  have hn0 := hn.n0
  have hn1 := hn.n1
  go_enter Tryz.func18, Tryz.ntmps18
  go_wp2_with fail
  refine (takingOf_any _ _ (ht.below ((Below.refl _ _).alloc (Nat.le_refl _) _)) (by omega)).mono ?_
  rintro e w0 ⟨rfl, rfl⟩
  have hk : tkOf 2 = 2 := by decide
  go_wp2_with fail
  have hv0 := (hn.vals).below ((Below.refl w.heap.size w).alloc (Nat.le_refl _) (.cells #[.int .i8 0, .int .i64 0, .string ⟨#[]⟩] 69))
  refine (areValues_any _ _ _ g off 2 cap 2 1 _ hv0 (by unfold maxLen; omega)).mono ?_
  rintro e w1 ⟨rfl, hb1⟩
  have hB : areB 2 1 (fun _ => 1) (fun i => if i = 0 then a else b) (fun _ => ⟨#[]⟩) 2 = true := areB_nums2 a b
  have hz1 : w.heap.size < w1.heap.size := by have := hb1.size; simp at this; omega
  have bel1 : Below w.heap.size w w1 := ((Below.refl _ _).alloc (Nat.le_refl _) _).trans (hb1.mono (by simp))
  obtain ⟨hc1, hf1⟩ := bcell hb1
  clear hn hv0
  go_wp2_with fail
  go_region_with (go_at_call 77; refine (ofNumbers_add _ _ _).mono ?_; rintro e w2 ⟨rfl, hb2⟩; obtain ⟨hc2, hf2⟩ := bcell ((hb1.drew).trans (hb2.mono hb1.size)))
  all_goals
    go_wp2
    exact bodyPost_ret (v := .tuple #[.agg #[.int .i8 1, .int .i64 (wrap64 (a + b)), .string ⟨#[]⟩], .bool true]) (by simp [results, Tryz.results18, go_sem, hc2]) rfl
      ⟨rfl, (((bel1.drew.trans (hb2.mono (Nat.le_of_lt hz1))).setCell (by simp) _).setCell (by simp) _).setCell (by simp) _⟩

set_option maxHeartbeats 1600000 in
theorem arith_sub (a b : Int) (g off cap : Nat) (w : World) (ht : Tab w) (hn : Nums2 w g off a b) :
    Calls Tryz.prog 18 #[.int .i8 3, .slice (some ⟨g, off, none⟩) 2 cap] w fun e w' => e = .returned (.tuple #[.agg #[.int .i8 1, .int .i64 (wrap64 (a - b)), .string ⟨#[]⟩], .bool true]) ∧ Below w.heap.size w w' := by
  have hlt := hn.lt
  have hn0 := hn.n0
  have hn1 := hn.n1
  go_enter Tryz.func18, Tryz.ntmps18
  go_wp2_with fail
  refine (takingOf_any _ _ (ht.below ((Below.refl _ _).alloc (Nat.le_refl _) _)) (by omega)).mono ?_
  rintro e w0 ⟨rfl, rfl⟩
  have hk : tkOf 3 = 2 := by decide
  go_wp2_with fail
  have hv0 := (hn.vals).below ((Below.refl w.heap.size w).alloc (Nat.le_refl _) (.cells #[.int .i8 0, .int .i64 0, .string ⟨#[]⟩] 69))
  refine (areValues_any _ _ _ g off 2 cap 2 1 _ hv0 (by unfold maxLen; omega)).mono ?_
  rintro e w1 ⟨rfl, hb1⟩
  have hB : areB 2 1 (fun _ => 1) (fun i => if i = 0 then a else b) (fun _ => ⟨#[]⟩) 2 = true := areB_nums2 a b
  have hz1 : w.heap.size < w1.heap.size := by have := hb1.size; simp at this; omega
  have bel1 : Below w.heap.size w w1 := ((Below.refl _ _).alloc (Nat.le_refl _) _).trans (hb1.mono (by simp))
  obtain ⟨hc1, hf1⟩ := bcell hb1
  clear hn hv0
  go_wp2_with fail
  go_region_with (go_at_call 77; refine (ofNumbers_sub _ _ _).mono ?_; rintro e w2 ⟨rfl, hb2⟩; obtain ⟨hc2, hf2⟩ := bcell ((hb1.drew).trans (hb2.mono hb1.size)))
  all_goals
    go_wp2
    exact bodyPost_ret (v := .tuple #[.agg #[.int .i8 1, .int .i64 (wrap64 (a - b)), .string ⟨#[]⟩], .bool true]) (by simp [results, Tryz.results18, go_sem, hc2]) rfl
      ⟨rfl, (((bel1.drew.trans (hb2.mono (Nat.le_of_lt hz1))).setCell (by simp) _).setCell (by simp) _).setCell (by simp) _⟩

set_option maxHeartbeats 1600000 in
theorem arith_mul (a b : Int) (g off cap : Nat) (w : World) (ht : Tab w) (hn : Nums2 w g off a b) :
    Calls Tryz.prog 18 #[.int .i8 4, .slice (some ⟨g, off, none⟩) 2 cap] w fun e w' => e = .returned (.tuple #[.agg #[.int .i8 1, .int .i64 (wrap64 (a * b)), .string ⟨#[]⟩], .bool true]) ∧ Below w.heap.size w w' := by
  have hlt := hn.lt
  have hn0 := hn.n0
  have hn1 := hn.n1
  go_enter Tryz.func18, Tryz.ntmps18
  go_wp2_with fail
  refine (takingOf_any _ _ (ht.below ((Below.refl _ _).alloc (Nat.le_refl _) _)) (by omega)).mono ?_
  rintro e w0 ⟨rfl, rfl⟩
  have hk : tkOf 4 = 2 := by decide
  go_wp2_with fail
  have hv0 := (hn.vals).below ((Below.refl w.heap.size w).alloc (Nat.le_refl _) (.cells #[.int .i8 0, .int .i64 0, .string ⟨#[]⟩] 69))
  refine (areValues_any _ _ _ g off 2 cap 2 1 _ hv0 (by unfold maxLen; omega)).mono ?_
  rintro e w1 ⟨rfl, hb1⟩
  have hB : areB 2 1 (fun _ => 1) (fun i => if i = 0 then a else b) (fun _ => ⟨#[]⟩) 2 = true := areB_nums2 a b
  have hz1 : w.heap.size < w1.heap.size := by have := hb1.size; simp at this; omega
  have bel1 : Below w.heap.size w w1 := ((Below.refl _ _).alloc (Nat.le_refl _) _).trans (hb1.mono (by simp))
  obtain ⟨hc1, hf1⟩ := bcell hb1
  clear hn hv0
  go_wp2_with fail
  go_region_with (go_at_call 77; refine (ofNumbers_mul _ _ _).mono ?_; rintro e w2 ⟨rfl, hb2⟩; obtain ⟨hc2, hf2⟩ := bcell ((hb1.drew).trans (hb2.mono hb1.size)))
  all_goals
    go_wp2
    exact bodyPost_ret (v := .tuple #[.agg #[.int .i8 1, .int .i64 (wrap64 (a * b)), .string ⟨#[]⟩], .bool true]) (by simp [results, Tryz.results18, go_sem, hc2]) rfl
      ⟨rfl, (((bel1.drew.trans (hb2.mono (Nat.le_of_lt hz1))).setCell (by simp) _).setCell (by simp) _).setCell (by simp) _⟩

end Go.Proofs.YtoagnkbmeafmoaaGreatDoor.AR
