import Derived.Test.YtgfnijhhhgjabaaGreatDoorA4
import Derived.Test.YtgfnijhhhgjabaaGreatDoorA3
section
namespace Go.Proofs.YtgfnijhhhgjabaaGreatDoor.AR
open Go.RowKit Go.Maps
set_option linter.unusedVariables false
set_option linter.unusedSimpArgs false
attribute [local go_sem ↓] Go.wp_at_zero Go.wp_at_succ

theorem tkOf_cases (op : Int) : tkOf op = 0 ∨ tkOf op = 1 ∨ tkOf op = 2 ∨ tkOf op = 3 ∨ tkOf op = 4 := by
  unfold tkOf
  repeat' split
  all_goals simp
theorem tkOf_two {op : Int} (h : tkOf op = 2) : 2 ≤ op ∧ op ≤ 6 := by
  unfold tkOf at h
  repeat' split at h
  all_goals first | omega | (exfalso; omega)
theorem arithR_no (op : Int) (n : Nat) (K N : Nat → Int) (S : Nat → ByteArray) (h1 : ¬ (tkOf op = 1 ∧ areB 1 1 K N S n = true)) (h2 : ¬ (tkOf op = 2 ∧ areB 2 1 K N S n = true)) (h3 : ¬ (tkOf op = 3 ∧ areB 1 2 K N S n = true)) (h4 : ¬ (tkOf op = 4 ∧ areB 2 2 K N S n = true)) : arithR op n K N S = noRes := by
  unfold arithR
  rw [if_neg h1, if_neg h2, if_neg h3, if_neg h4]
set_option maxHeartbeats 1600000 in
theorem arith_no0 (op : Int) (hb : -128 ≤ op ∧ op ≤ 127) (hk : tkOf op = 0) (v : Value) (n : Nat) (K N : Nat → Int) (S : Nat → ByteArray) (w : World) (ht : Tab w) (hl : Lst w v n K N S) :
    Calls Tryz.prog 77 #[.int .i8 op, v] w fun e w' => e = .returned noRes.val ∧ Below w.heap.size w w' := by
  have hB := Lib.hid ((Below.refl w.heap.size w).alloc (Nat.le_refl _) (.cells #[.int .i8 0, .int .i64 0, .string ⟨#[]⟩] 38))
  obtain ⟨a, cap, hv, hn, _⟩ := hl.form
  subst hv
  have HT := Lib.hid (takingOf_any op _ (ht.below ((Below.refl _ _).alloc (Nat.le_refl _) (.cells #[.int .i8 0, .int .i64 0, .string ⟨#[]⟩] 38))) hb)
  clear ht hl hb
  go_enter Tryz.func77, Tryz.ntmps77
  go_wp2_with fail
  refine HT.out.mono ?_
  rintro e w0 ⟨rfl, rfl⟩
  clear HT
  go_wp2
  exact bodyPost_ret (v := .tuple #[.agg #[.int .i8 0, .int .i64 0, .string ⟨#[]⟩], .bool false]) (by simp [results, Tryz.results77, go_sem]) rfl
    ⟨rfl, hB.out⟩
set_option maxHeartbeats 1600000 in
theorem arith_no1 (op : Int) (hb : -128 ≤ op ∧ op ≤ 127) (hk : tkOf op = 1) (v : Value) (n : Nat) (K N : Nat → Int) (S : Nat → ByteArray) (w : World) (ht : Tab w) (hl : Lst w v n K N S) (hA : areB 1 1 K N S n = false) :
    Calls Tryz.prog 77 #[.int .i8 op, v] w fun e w' => e = .returned noRes.val ∧ Below w.heap.size w w' := by
  have hB := Lib.hid ((Below.refl w.heap.size w).alloc (Nat.le_refl _) (.cells #[.int .i8 0, .int .i64 0, .string ⟨#[]⟩] 38))
  obtain ⟨a, cap, hv, hn, _⟩ := hl.form
  subst hv
  have HT := Lib.hid (takingOf_any op _ (ht.below ((Below.refl _ _).alloc (Nat.le_refl _) (.cells #[.int .i8 0, .int .i64 0, .string ⟨#[]⟩] 38))) hb)
  have HL := Lib.hid (areValues_lst _ n 1 1 K N S _ (hl.below ((Below.refl _ _).alloc (Nat.le_refl _) (.cells #[.int .i8 0, .int .i64 0, .string ⟨#[]⟩] 38))))
  clear ht hl hb
  go_enter Tryz.func77, Tryz.ntmps77
  go_wp2_with fail
  refine HT.out.mono ?_
  rintro e w0 ⟨rfl, rfl⟩
  go_wp2_with fail
  refine HL.out.mono ?_
  rintro e w1 ⟨rfl, hb1⟩
  obtain ⟨hc1, hf1⟩ := bcell hb1
  clear HL HT
  go_wp2
  exact bodyPost_ret (v := .tuple #[.agg #[.int .i8 0, .int .i64 0, .string ⟨#[]⟩], .bool false]) (by simp [results, Tryz.results77, go_sem, hc1]) rfl
    ⟨rfl, (((hB.out.trans (hb1.mono (by simp))).setCell (by simp) _).setCell (by simp) _).setCell (by simp) _⟩
set_option maxHeartbeats 1600000 in
theorem arith_yes1 (op : Int) (hb : -128 ≤ op ∧ op ≤ 127) (hk : tkOf op = 1) (v : Value) (n : Nat) (K N : Nat → Int) (S : Nat → ByteArray) (w : World) (ht : Tab w) (hl : Lst w v n K N S) (hA : areB 1 1 K N S n = true) :
    Calls Tryz.prog 77 #[.int .i8 op, v] w fun e w' => e = .returned (numRes (wrap64 (-(N 0)))).val ∧ Below w.heap.size w w' := by
  have hB := Lib.hid ((Below.refl w.heap.size w).alloc (Nat.le_refl _) (.cells #[.int .i8 0, .int .i64 0, .string ⟨#[]⟩] 38))
  obtain ⟨hn, hall⟩ := areB_spec (count := 1) hA
  subst hn
  obtain ⟨a, cap, hv, _, hcl⟩ := hl.form
  subst hv
  obtain ⟨g, off, ha, hc⟩ := hcl (by omega)
  subst ha
  have HT := Lib.hid (takingOf_any op _ (ht.below ((Below.refl _ _).alloc (Nat.le_refl _) (.cells #[.int .i8 0, .int .i64 0, .string ⟨#[]⟩] 38))) hb)
  have HL := Lib.hid (areValues_lst _ 1 1 1 K N S _ (hl.below ((Below.refl _ _).alloc (Nat.le_refl _) (.cells #[.int .i8 0, .int .i64 0, .string ⟨#[]⟩] 38))))
  have hlt := hc.lt (by omega)
  have x0 := hc.num 0 (by omega)
  simp only [Nat.zero_mul, Nat.one_mul, Nat.add_zero] at x0
  clear ht hl hb hall hc
  generalize N 0 = n0 at x0 ⊢
  have HR : Hid ((numRes (wrap64 (-n0))).val = .tuple #[.agg #[.int .i8 1, .int .i64 (wrap64 (-n0)), .string ⟨#[]⟩], .bool true]) := rfl
  generalize (numRes (wrap64 (-n0))).val = RV at HR ⊢
  go_enter Tryz.func77, Tryz.ntmps77
  go_wp2_with fail
  refine HT.out.mono ?_
  rintro e w0 ⟨rfl, rfl⟩
  go_wp2_with fail
  refine HL.out.mono ?_
  rintro e w1 ⟨rfl, hb1⟩
  obtain ⟨hc1, hf1⟩ := bcell hb1
  have hz1 : w.heap.size < w1.heap.size := by have := hb1.size; simp at this; omega
  have bel1 : Below w.heap.size w w1 := hB.out.trans (hb1.mono (by simp))
  clear HL HT
  go_wp2_with fail
  refine (number_any _ _).mono ?_
  rintro e w2 ⟨rfl, hb2⟩
  obtain ⟨hc2, hf2⟩ := bcell (hb1.trans (hb2.mono hb1.size))
  go_wp2
  exact bodyPost_ret (v := .tuple #[.agg #[.int .i8 1, .int .i64 (wrap64 (-n0)), .string ⟨#[]⟩], .bool true]) (by simp [results, Tryz.results77, go_sem, hc2]) rfl
    ⟨by rw [HR.out], (((bel1.trans (hb2.mono (Nat.le_of_lt hz1))).setCell (by simp) _).setCell (by simp) _).setCell (by simp) _⟩
set_option maxHeartbeats 1600000 in
theorem arith_no2 (op : Int) (hb : -128 ≤ op ∧ op ≤ 127) (hk : tkOf op = 2) (v : Value) (n : Nat) (K N : Nat → Int) (S : Nat → ByteArray) (w : World) (ht : Tab w) (hl : Lst w v n K N S) (hA : areB 2 1 K N S n = false) :
    Calls Tryz.prog 77 #[.int .i8 op, v] w fun e w' => e = .returned noRes.val ∧ Below w.heap.size w w' := by
  have hB := Lib.hid ((Below.refl w.heap.size w).alloc (Nat.le_refl _) (.cells #[.int .i8 0, .int .i64 0, .string ⟨#[]⟩] 38))
  obtain ⟨a, cap, hv, hn, _⟩ := hl.form
  subst hv
  have HT := Lib.hid (takingOf_any op _ (ht.below ((Below.refl _ _).alloc (Nat.le_refl _) (.cells #[.int .i8 0, .int .i64 0, .string ⟨#[]⟩] 38))) hb)
  have HL := Lib.hid (areValues_lst _ n 2 1 K N S _ (hl.below ((Below.refl _ _).alloc (Nat.le_refl _) (.cells #[.int .i8 0, .int .i64 0, .string ⟨#[]⟩] 38))))
  clear ht hl hb
  go_enter Tryz.func77, Tryz.ntmps77
  go_wp2_with fail
  refine HT.out.mono ?_
  rintro e w0 ⟨rfl, rfl⟩
  go_wp2_with fail
  refine HL.out.mono ?_
  rintro e w1 ⟨rfl, hb1⟩
  obtain ⟨hc1, hf1⟩ := bcell hb1
  clear HL HT
  go_wp2
  exact bodyPost_ret (v := .tuple #[.agg #[.int .i8 0, .int .i64 0, .string ⟨#[]⟩], .bool false]) (by simp [results, Tryz.results77, go_sem, hc1]) rfl
    ⟨rfl, (((hB.out.trans (hb1.mono (by simp))).setCell (by simp) _).setCell (by simp) _).setCell (by simp) _⟩
set_option maxHeartbeats 1600000 in
theorem arith_yes2 (op : Int) (hb : -128 ≤ op ∧ op ≤ 127) (hk : tkOf op = 2) (v : Value) (n : Nat) (K N : Nat → Int) (S : Nat → ByteArray) (w : World) (ht : Tab w) (hl : Lst w v n K N S) (hA : areB 2 1 K N S n = true) :
    Calls Tryz.prog 77 #[.int .i8 op, v] w fun e w' => e = .returned (numsR op (N 0) (N 1)).val ∧ Below w.heap.size w w' := by
  have hB := Lib.hid ((Below.refl w.heap.size w).alloc (Nat.le_refl _) (.cells #[.int .i8 0, .int .i64 0, .string ⟨#[]⟩] 38))
  obtain ⟨hn, hall⟩ := areB_spec (count := 2) hA
  subst hn
  obtain ⟨a, cap, hv, _, hcl⟩ := hl.form
  subst hv
  obtain ⟨g, off, ha, hc⟩ := hcl (by omega)
  subst ha
  have HT := Lib.hid (takingOf_any op _ (ht.below ((Below.refl _ _).alloc (Nat.le_refl _) (.cells #[.int .i8 0, .int .i64 0, .string ⟨#[]⟩] 38))) hb)
  have HL := Lib.hid (areValues_lst _ 2 2 1 K N S _ (hl.below ((Below.refl _ _).alloc (Nat.le_refl _) (.cells #[.int .i8 0, .int .i64 0, .string ⟨#[]⟩] 38))))
  have hlt := hc.lt (by omega)
  have x0 := hc.num 0 (by omega)
  have x1 := hc.num 1 (by omega)
  have ho := tkOf_two hk
  simp only [Nat.zero_mul, Nat.one_mul, Nat.add_zero] at x0 x1
  clear ht hl hb hall hc
  have HO := fun u => Lib.hid (ofNumbers_any op (N 0) (N 1) ho u)
  unfold Res.val at HO ⊢
  generalize numsR op (N 0) (N 1) = rr at HO ⊢
  generalize N 0 = n0 at x0 HO
  generalize N 1 = n1 at x1 HO
  clear ho
  go_enter Tryz.func77, Tryz.ntmps77
  go_wp2_with fail
  refine HT.out.mono ?_
  rintro e w0 ⟨rfl, rfl⟩
  go_wp2_with fail
  refine HL.out.mono ?_
  rintro e w1 ⟨rfl, hb1⟩
  obtain ⟨hc1, hf1⟩ := bcell hb1
  have hz1 : w.heap.size < w1.heap.size := by have := hb1.size; simp at this; omega
  have bel1 : Below w.heap.size w w1 := hB.out.trans (hb1.mono (by simp))
  clear HL HT
  go_wp2_with fail
  go_region_with (go_at_call 103; refine (HO _).out.mono ?_; rintro e w2 ⟨rfl, hb2⟩; obtain ⟨hc2, hf2⟩ := bcell ((hb1.drew).trans (hb2.mono hb1.size)))
  all_goals
    go_wp2
    exact bodyPost_ret (v := .tuple #[.agg #[.int .i8 rr.k, .int .i64 rr.n, .string rr.s], .bool rr.ok]) (by simp [results, Tryz.results77, go_sem, hc2]) rfl
      ⟨rfl, (((bel1.drew.trans (hb2.mono (Nat.le_of_lt hz1))).setCell (by simp) _).setCell (by simp) _).setCell (by simp) _⟩
set_option maxHeartbeats 1600000 in
theorem arith_no3 (op : Int) (hb : -128 ≤ op ∧ op ≤ 127) (hk : tkOf op = 3) (v : Value) (n : Nat) (K N : Nat → Int) (S : Nat → ByteArray) (w : World) (ht : Tab w) (hl : Lst w v n K N S) (hA : areB 1 2 K N S n = false) :
    Calls Tryz.prog 77 #[.int .i8 op, v] w fun e w' => e = .returned noRes.val ∧ Below w.heap.size w w' := by
  have hB := Lib.hid ((Below.refl w.heap.size w).alloc (Nat.le_refl _) (.cells #[.int .i8 0, .int .i64 0, .string ⟨#[]⟩] 38))
  obtain ⟨a, cap, hv, hn, _⟩ := hl.form
  subst hv
  have HT := Lib.hid (takingOf_any op _ (ht.below ((Below.refl _ _).alloc (Nat.le_refl _) (.cells #[.int .i8 0, .int .i64 0, .string ⟨#[]⟩] 38))) hb)
  have HL := Lib.hid (areValues_lst _ n 1 2 K N S _ (hl.below ((Below.refl _ _).alloc (Nat.le_refl _) (.cells #[.int .i8 0, .int .i64 0, .string ⟨#[]⟩] 38))))
  clear ht hl hb
  go_enter Tryz.func77, Tryz.ntmps77
  go_wp2_with fail
  refine HT.out.mono ?_
  rintro e w0 ⟨rfl, rfl⟩
  go_wp2_with fail
  refine HL.out.mono ?_
  rintro e w1 ⟨rfl, hb1⟩
  obtain ⟨hc1, hf1⟩ := bcell hb1
  clear HL HT
  go_wp2
  exact bodyPost_ret (v := .tuple #[.agg #[.int .i8 0, .int .i64 0, .string ⟨#[]⟩], .bool false]) (by simp [results, Tryz.results77, go_sem, hc1]) rfl
    ⟨rfl, (((hB.out.trans (hb1.mono (by simp))).setCell (by simp) _).setCell (by simp) _).setCell (by simp) _⟩
set_option maxHeartbeats 1600000 in
theorem arith_yes3 (op : Int) (hb : -128 ≤ op ∧ op ≤ 127) (hk : tkOf op = 3) (v : Value) (n : Nat) (K N : Nat → Int) (S : Nat → ByteArray) (w : World) (ht : Tab w) (hl : Lst w v n K N S) (hA : areB 1 2 K N S n = true) :
    Calls Tryz.prog 77 #[.int .i8 op, v] w fun e w' => e = .returned (textsR op (S 0)).val ∧ Below w.heap.size w w' := by
  have hB := Lib.hid ((Below.refl w.heap.size w).alloc (Nat.le_refl _) (.cells #[.int .i8 0, .int .i64 0, .string ⟨#[]⟩] 38))
  obtain ⟨hn, hall⟩ := areB_spec (count := 1) hA
  subst hn
  obtain ⟨a, cap, hv, _, hcl⟩ := hl.form
  subst hv
  obtain ⟨g, off, ha, hc⟩ := hcl (by omega)
  subst ha
  have HT := Lib.hid (takingOf_any op _ (ht.below ((Below.refl _ _).alloc (Nat.le_refl _) (.cells #[.int .i8 0, .int .i64 0, .string ⟨#[]⟩] 38))) hb)
  have HL := Lib.hid (areValues_lst _ 1 1 2 K N S _ (hl.below ((Below.refl _ _).alloc (Nat.le_refl _) (.cells #[.int .i8 0, .int .i64 0, .string ⟨#[]⟩] 38))))
  have hlt := hc.lt (by omega)
  have x0 := hc.text 0 (by omega)
  have z0 : (S 0).size ≤ 200 := by
    have := hall 0 (by omega)
    rw [this.1] at this
    exact chk_text this.2
  simp only [Nat.zero_mul, Nat.one_mul, Nat.add_zero] at x0
  clear ht hl hb hall hc
  have HO := fun u => Lib.hid (ofText_any op (S 0) z0 u)
  unfold Res.val at HO ⊢
  generalize textsR op (S 0) = rr at HO ⊢
  generalize S 0 = s0 at x0 HO
  clear z0
  go_enter Tryz.func77, Tryz.ntmps77
  go_wp2_with fail
  refine HT.out.mono ?_
  rintro e w0 ⟨rfl, rfl⟩
  go_wp2_with fail
  refine HL.out.mono ?_
  rintro e w1 ⟨rfl, hb1⟩
  obtain ⟨hc1, hf1⟩ := bcell hb1
  have hz1 : w.heap.size < w1.heap.size := by have := hb1.size; simp at this; omega
  have bel1 : Below w.heap.size w w1 := hB.out.trans (hb1.mono (by simp))
  clear HL HT
  go_wp2_with fail
  refine (HO _).out.mono ?_
  rintro e w2 ⟨rfl, hb2⟩
  obtain ⟨hc2, hf2⟩ := bcell (hb1.trans (hb2.mono hb1.size))
  go_wp2
  exact bodyPost_ret (v := .tuple #[.agg #[.int .i8 rr.k, .int .i64 rr.n, .string rr.s], .bool rr.ok]) (by simp [results, Tryz.results77, go_sem, hc2]) rfl
    ⟨rfl, (((bel1.trans (hb2.mono (Nat.le_of_lt hz1))).setCell (by simp) _).setCell (by simp) _).setCell (by simp) _⟩
set_option maxHeartbeats 1600000 in
theorem arith_no4 (op : Int) (hb : -128 ≤ op ∧ op ≤ 127) (hk : tkOf op = 4) (v : Value) (n : Nat) (K N : Nat → Int) (S : Nat → ByteArray) (w : World) (ht : Tab w) (hl : Lst w v n K N S) (hA : areB 2 2 K N S n = false) :
    Calls Tryz.prog 77 #[.int .i8 op, v] w fun e w' => e = .returned noRes.val ∧ Below w.heap.size w w' := by
  have hB := Lib.hid ((Below.refl w.heap.size w).alloc (Nat.le_refl _) (.cells #[.int .i8 0, .int .i64 0, .string ⟨#[]⟩] 38))
  obtain ⟨a, cap, hv, hn, _⟩ := hl.form
  subst hv
  have HT := Lib.hid (takingOf_any op _ (ht.below ((Below.refl _ _).alloc (Nat.le_refl _) (.cells #[.int .i8 0, .int .i64 0, .string ⟨#[]⟩] 38))) hb)
  have HL := Lib.hid (areValues_lst _ n 2 2 K N S _ (hl.below ((Below.refl _ _).alloc (Nat.le_refl _) (.cells #[.int .i8 0, .int .i64 0, .string ⟨#[]⟩] 38))))
  clear ht hl hb
  go_enter Tryz.func77, Tryz.ntmps77
  go_wp2_with fail
  refine HT.out.mono ?_
  rintro e w0 ⟨rfl, rfl⟩
  go_wp2_with fail
  refine HL.out.mono ?_
  rintro e w1 ⟨rfl, hb1⟩
  obtain ⟨hc1, hf1⟩ := bcell hb1
  clear HL HT
  go_wp2
  exact bodyPost_ret (v := .tuple #[.agg #[.int .i8 0, .int .i64 0, .string ⟨#[]⟩], .bool false]) (by simp [results, Tryz.results77, go_sem, hc1]) rfl
    ⟨rfl, (((hB.out.trans (hb1.mono (by simp))).setCell (by simp) _).setCell (by simp) _).setCell (by simp) _⟩
set_option maxHeartbeats 1600000 in
theorem arith_yes4 (op : Int) (hb : -128 ≤ op ∧ op ≤ 127) (hk : tkOf op = 4) (v : Value) (n : Nat) (K N : Nat → Int) (S : Nat → ByteArray) (w : World) (ht : Tab w) (hl : Lst w v n K N S) (hA : areB 2 2 K N S n = true) :
    Calls Tryz.prog 77 #[.int .i8 op, v] w fun e w' => e = .returned (joinR (S 0) (S 1)).val ∧ Below w.heap.size w w' := by
  have hB := Lib.hid ((Below.refl w.heap.size w).alloc (Nat.le_refl _) (.cells #[.int .i8 0, .int .i64 0, .string ⟨#[]⟩] 38))
  obtain ⟨hn, hall⟩ := areB_spec (count := 2) hA
  subst hn
  obtain ⟨a, cap, hv, _, hcl⟩ := hl.form
  subst hv
  obtain ⟨g, off, ha, hc⟩ := hcl (by omega)
  subst ha
  have HT := Lib.hid (takingOf_any op _ (ht.below ((Below.refl _ _).alloc (Nat.le_refl _) (.cells #[.int .i8 0, .int .i64 0, .string ⟨#[]⟩] 38))) hb)
  have HL := Lib.hid (areValues_lst _ 2 2 2 K N S _ (hl.below ((Below.refl _ _).alloc (Nat.le_refl _) (.cells #[.int .i8 0, .int .i64 0, .string ⟨#[]⟩] 38))))
  have hlt := hc.lt (by omega)
  have x0 := hc.text 0 (by omega)
  have z0 : (S 0).size ≤ 200 := by
    have := hall 0 (by omega)
    rw [this.1] at this
    exact chk_text this.2
  have x1 := hc.text 1 (by omega)
  have z1 : (S 1).size ≤ 200 := by
    have := hall 1 (by omega)
    rw [this.1] at this
    exact chk_text this.2
  simp only [Nat.zero_mul, Nat.one_mul, Nat.add_zero] at x0 x1
  clear ht hl hb hall hc
  have HO := fun u => Lib.hid (join_any (S 0) (S 1) z0 z1 u)
  unfold Res.val at HO ⊢
  generalize joinR (S 0) (S 1) = rr at HO ⊢
  generalize S 0 = s0 at x0 HO
  generalize S 1 = s1 at x1 HO
  clear z0 z1
  go_enter Tryz.func77, Tryz.ntmps77
  go_wp2_with fail
  refine HT.out.mono ?_
  rintro e w0 ⟨rfl, rfl⟩
  go_wp2_with fail
  refine HL.out.mono ?_
  rintro e w1 ⟨rfl, hb1⟩
  obtain ⟨hc1, hf1⟩ := bcell hb1
  have hz1 : w.heap.size < w1.heap.size := by have := hb1.size; simp at this; omega
  have bel1 : Below w.heap.size w w1 := hB.out.trans (hb1.mono (by simp))
  clear HL HT
  go_wp2_with fail
  go_region_with (go_at_call 105; refine (HO _).out.mono ?_; rintro e w2 ⟨rfl, hb2⟩; obtain ⟨hc2, hf2⟩ := bcell ((hb1.drew).trans (hb2.mono hb1.size)))
  all_goals
    go_wp2
    exact bodyPost_ret (v := .tuple #[.agg #[.int .i8 rr.k, .int .i64 rr.n, .string rr.s], .bool rr.ok]) (by simp [results, Tryz.results77, go_sem, hc2]) rfl
      ⟨rfl, (((bel1.drew.trans (hb2.mono (Nat.le_of_lt hz1))).setCell (by simp) _).setCell (by simp) _).setCell (by simp) _⟩
theorem arith_any (op : Int) (hb : -128 ≤ op ∧ op ≤ 127) (v : Value) (n : Nat) (K N : Nat → Int) (S : Nat → ByteArray) (w : World) (ht : Tab w) (hl : Lst w v n K N S) :
    Calls Tryz.prog 77 #[.int .i8 op, v] w fun e w' => e = .returned (arithR op n K N S).val ∧ Below w.heap.size w w' := by
  rcases tkOf_cases op with h | h | h | h | h
  · rw [arithR_no op n K N S (by omega) (by omega) (by omega) (by omega)]
    exact arith_no0 op hb h v n K N S w ht hl
  · cases hA : areB 1 1 K N S n with
    | false =>
      rw [arithR_no op n K N S (fun e => by rw [hA] at e; cases e.2) (by omega) (by omega) (by omega)]
      exact arith_no1 op hb h v n K N S w ht hl hA
    | true =>
      unfold arithR
      rw [if_pos ⟨h, hA⟩]
      exact arith_yes1 op hb h v n K N S w ht hl hA
  · cases hA : areB 2 1 K N S n with
    | false =>
      rw [arithR_no op n K N S (by omega) (fun e => by rw [hA] at e; cases e.2) (by omega) (by omega)]
      exact arith_no2 op hb h v n K N S w ht hl hA
    | true =>
      unfold arithR
      rw [if_neg (by omega), if_pos ⟨h, hA⟩]
      exact arith_yes2 op hb h v n K N S w ht hl hA
  · cases hA : areB 1 2 K N S n with
    | false =>
      rw [arithR_no op n K N S (by omega) (by omega) (fun e => by rw [hA] at e; cases e.2) (by omega)]
      exact arith_no3 op hb h v n K N S w ht hl hA
    | true =>
      unfold arithR
      rw [if_neg (by omega), if_neg (by omega), if_pos ⟨h, hA⟩]
      exact arith_yes3 op hb h v n K N S w ht hl hA
  · cases hA : areB 2 2 K N S n with
    | false =>
      rw [arithR_no op n K N S (by omega) (by omega) (by omega) (fun e => by rw [hA] at e; cases e.2)]
      exact arith_no4 op hb h v n K N S w ht hl hA
    | true =>
      unfold arithR
      rw [if_neg (by omega), if_neg (by omega), if_neg (by omega), if_pos ⟨h, hA⟩]
      exact arith_yes4 op hb h v n K N S w ht hl hA
end Go.Proofs.YtgfnijhhhgjabaaGreatDoor.AR
end
section
namespace Go.Proofs.YtgfnijhhhgjabaaGreatDoor.AR
open Go.RowKit Go.Maps
set_option linter.unusedVariables false
set_option linter.unusedSimpArgs false
attribute [local go_sem ↓] Go.wp_at_zero Go.wp_at_succ

theorem below_drewNq {B : Nat} {a w : World} (h : Below B a w) (n : Nat) : Below B a (w.drewN n) := ⟨h.os, h.tape, h.output, h.size, h.block⟩
end Go.Proofs.YtgfnijhhhgjabaaGreatDoor.AR
end
