import Derived.Test.YtodlkadlpjlenaaDoorArRefW
import Derived.Test.YtodlkadlpjlenaaDoorArArithW
namespace Go.Proofs.YtodlkadlpjlenaaDoor.AR
open Go.RowKit Go.Maps
set_option linter.unusedVariables false
set_option linter.unusedSimpArgs false
attribute [local go_sem ↓] Go.wp_at_zero Go.wp_at_succ

theorem below_drewNq {B : Nat} {a w : World} (h : Below B a w) (n : Nat) : Below B a (w.drewN n) := ⟨h.os, h.tape, h.output, h.size, h.block⟩
theorem tk_of {op : Int} : (tkOf op = 1 ↔ op = 1) ∧ (tkOf op = 2 ↔ 2 ≤ op ∧ op ≤ 6) ∧ (tkOf op = 3 ↔ 8 ≤ op ∧ op ≤ 10) ∧ (tkOf op = 4 ↔ op = 7) := by
  unfold tkOf
  repeat' split
  all_goals omega
set_option maxHeartbeats 1600000 in
theorem rarith_no0 (op : Int) (hk : tkOf op = 0) (v : Value) (n : Nat) (K N : Nat → Int) (S : Nat → ByteArray) (w : World) (hl : Lst w v n K N S) :
    Calls Tryd.prog 24 #[.int .i8 op, v] w fun e w' => e = .returned noRes.val ∧ Below w.heap.size w w' := by
  have hB := Lib.hid ((Below.refl w.heap.size w).alloc (Nat.le_refl _) (.cells #[.int .i8 0, .int .i64 0, .string ⟨#[]⟩] 26))
  have ho : op < 1 ∨ 10 < op := by
    have := @tk_of op
    omega
  clear hk
  have n1 : (op == 1) = false := by simp; omega
  have n7 : (op == 7) = false := by simp; omega
  by_cases n2 : (2 : Int) ≤ op
  · have n6 : ¬ op ≤ 6 := by omega
    have n8 : (8 : Int) ≤ op := by omega
    have n10 : ¬ op ≤ 10 := by omega
    go_enter Tryd.func24, Tryd.ntmps24
    go_wp2
    exact bodyPost_ret (v := .tuple #[.agg #[.int .i8 0, .int .i64 0, .string ⟨#[]⟩], .bool false]) (by simp [results, Tryd.results24, go_sem]) rfl
      ⟨rfl, hB.out⟩
  · have n8 : ¬ (8 : Int) ≤ op := by omega
    go_enter Tryd.func24, Tryd.ntmps24
    go_wp2
    exact bodyPost_ret (v := .tuple #[.agg #[.int .i8 0, .int .i64 0, .string ⟨#[]⟩], .bool false]) (by simp [results, Tryd.results24, go_sem]) rfl
      ⟨rfl, hB.out⟩
set_option maxHeartbeats 1600000 in
theorem rarith_no1 (op : Int) (hk : tkOf op = 1) (v : Value) (n : Nat) (K N : Nat → Int) (S : Nat → ByteArray) (w : World) (hl : Lst w v n K N S) (hA : areB 1 1 K N S n = false) :
    Calls Tryd.prog 24 #[.int .i8 op, v] w fun e w' => e = .returned noRes.val ∧ Below w.heap.size w w' := by
  have hB := Lib.hid ((Below.refl w.heap.size w).alloc (Nat.le_refl _) (.cells #[.int .i8 0, .int .i64 0, .string ⟨#[]⟩] 26))
  obtain ⟨a, cap, hv, hn, _⟩ := hl.form
  subst hv
  have HL := Lib.hid (rkinds_any _ n 1 1 (by omega) K N S _ (hl.below ((Below.refl _ _).alloc (Nat.le_refl _) (.cells #[.int .i8 0, .int .i64 0, .string ⟨#[]⟩] 26))))
  have ho : op = 1 := tk_of.1.1 hk
  subst ho
  clear hl hk
  go_enter Tryd.func24, Tryd.ntmps24
  go_wp2_with fail
  refine HL.out.mono ?_
  rintro e w1 ⟨rfl, hb1⟩
  obtain ⟨hc1, hf1⟩ := bcell hb1
  clear HL
  have hA' : areB ↑(1 : Nat) 1 K N S n = false := hA
  go_wp2
  exact bodyPost_ret (v := .tuple #[.agg #[.int .i8 0, .int .i64 0, .string ⟨#[]⟩], .bool false]) (by simp [results, Tryd.results24, go_sem, hc1]) rfl
    ⟨rfl, (((hB.out.trans (hb1.mono (by simp))).setCell (by simp) _).setCell (by simp) _).setCell (by simp) _⟩
set_option maxHeartbeats 3200000 in
theorem rarith_yes1 (op : Int) (hk : tkOf op = 1) (v : Value) (n : Nat) (K N : Nat → Int) (S : Nat → ByteArray) (w : World) (hwf : ∀ i, i < n → In64 (N i)) (hl : Lst w v n K N S) (hA : areB 1 1 K N S n = true) :
    Calls Tryd.prog 24 #[.int .i8 op, v] w fun e w' => e = .returned (numRes (wrap64 (-(N 0)))).val ∧ Below w.heap.size w w' := by
  have hB := Lib.hid ((Below.refl w.heap.size w).alloc (Nat.le_refl _) (.cells #[.int .i8 0, .int .i64 0, .string ⟨#[]⟩] 26))
  obtain ⟨hn, hall⟩ := areB_spec (count := 1) hA
  subst hn
  obtain ⟨a, cap, hv, _, hcl⟩ := hl.form
  subst hv
  obtain ⟨g, off, ha, hc⟩ := hcl (by omega)
  subst ha
  have HL := Lib.hid (rkinds_any _ 1 1 1 (by omega) K N S _ (hl.below ((Below.refl _ _).alloc (Nat.le_refl _) (.cells #[.int .i8 0, .int .i64 0, .string ⟨#[]⟩] 26))))
  have hlt := hc.lt (by omega)
  have x0 := hc.num 0 (by omega)
  simp only [Nat.zero_mul, Nat.one_mul, Nat.add_zero] at x0
  clear hl hall hc hwf
  have ho : op = 1 := tk_of.1.1 hk
  subst ho
  clear hk
  generalize N 0 = n0 at x0 ⊢
  have HR : Hid ((numRes (wrap64 (-n0))).val = .tuple #[.agg #[.int .i8 1, .int .i64 (wrap64 (-n0)), .string ⟨#[]⟩], .bool true]) := rfl
  generalize (numRes (wrap64 (-n0))).val = RV at HR ⊢
  go_enter Tryd.func24, Tryd.ntmps24
  go_wp2_with fail
  refine HL.out.mono ?_
  rintro e w1 ⟨rfl, hb1⟩
  obtain ⟨hc1, hf1⟩ := bcell hb1
  have hz1 : w.heap.size < w1.heap.size := by have := hb1.size; simp at this; omega
  have bel1 : Below w.heap.size w w1 := hB.out.trans (hb1.mono (by simp))
  clear HL
  have hA' : areB ↑(1 : Nat) 1 K N S 1 = true := hA
  go_wp2
  exact bodyPost_ret (v := .tuple #[.agg #[.int .i8 1, .int .i64 (wrap64 (-n0)), .string ⟨#[]⟩], .bool true]) (by simp [results, Tryd.results24, go_sem, hc1]) rfl
      ⟨by rw [HR.out], (((bel1).setCell (by simp) _).setCell (by simp) _).setCell (by simp) _⟩
set_option maxHeartbeats 1600000 in
theorem rarith_no2 (op : Int) (hk : tkOf op = 2) (v : Value) (n : Nat) (K N : Nat → Int) (S : Nat → ByteArray) (w : World) (hl : Lst w v n K N S) (hA : areB 2 1 K N S n = false) :
    Calls Tryd.prog 24 #[.int .i8 op, v] w fun e w' => e = .returned noRes.val ∧ Below w.heap.size w w' := by
  have hB := Lib.hid ((Below.refl w.heap.size w).alloc (Nat.le_refl _) (.cells #[.int .i8 0, .int .i64 0, .string ⟨#[]⟩] 26))
  obtain ⟨a, cap, hv, hn, _⟩ := hl.form
  subst hv
  have HL := Lib.hid (rkinds_any _ n 2 1 (by omega) K N S _ (hl.below ((Below.refl _ _).alloc (Nat.le_refl _) (.cells #[.int .i8 0, .int .i64 0, .string ⟨#[]⟩] 26))))
  obtain ⟨ho1, ho2⟩ := tk_of.2.1.1 hk
  have n1 : (op == 1) = false := by simp; omega
  have n7 : (op == 7) = false := by simp; omega
  have n8 : ¬ (8 : Int) ≤ op := by omega
  clear hl hk
  go_enter Tryd.func24, Tryd.ntmps24
  go_wp2_with fail
  refine HL.out.mono ?_
  rintro e w1 ⟨rfl, hb1⟩
  obtain ⟨hc1, hf1⟩ := bcell hb1
  clear HL
  have hA' : areB ↑(2 : Nat) 1 K N S n = false := hA
  go_wp2
  exact bodyPost_ret (v := .tuple #[.agg #[.int .i8 0, .int .i64 0, .string ⟨#[]⟩], .bool false]) (by simp [results, Tryd.results24, go_sem, hc1]) rfl
    ⟨rfl, (((hB.out.trans (hb1.mono (by simp))).setCell (by simp) _).setCell (by simp) _).setCell (by simp) _⟩
set_option maxHeartbeats 3200000 in
theorem rarith_yes2 (op : Int) (hk : tkOf op = 2) (v : Value) (n : Nat) (K N : Nat → Int) (S : Nat → ByteArray) (w : World) (hwf : ∀ i, i < n → In64 (N i)) (hl : Lst w v n K N S) (hA : areB 2 1 K N S n = true) :
    Calls Tryd.prog 24 #[.int .i8 op, v] w fun e w' => e = .returned (numsR op (N 0) (N 1)).val ∧ Below w.heap.size w w' := by
  have hB := Lib.hid ((Below.refl w.heap.size w).alloc (Nat.le_refl _) (.cells #[.int .i8 0, .int .i64 0, .string ⟨#[]⟩] 26))
  obtain ⟨hn, hall⟩ := areB_spec (count := 2) hA
  subst hn
  obtain ⟨a, cap, hv, _, hcl⟩ := hl.form
  subst hv
  obtain ⟨g, off, ha, hc⟩ := hcl (by omega)
  subst ha
  have HL := Lib.hid (rkinds_any _ 2 2 1 (by omega) K N S _ (hl.below ((Below.refl _ _).alloc (Nat.le_refl _) (.cells #[.int .i8 0, .int .i64 0, .string ⟨#[]⟩] 26))))
  have hlt := hc.lt (by omega)
  have x0 := hc.num 0 (by omega)
  have x1 := hc.num 1 (by omega)
  have i0 := hwf 0 (by omega)
  simp only [Nat.zero_mul, Nat.one_mul, Nat.add_zero] at x0 x1
  clear hl hall hc hwf
  obtain ⟨ho1, ho2⟩ := tk_of.2.1.1 hk
  have n1 : (op == 1) = false := by simp; omega
  have n7 : (op == 7) = false := by simp; omega
  have n8 : ¬ (8 : Int) ≤ op := by omega
  clear hk
  have HO := fun u => Lib.hid (rnumbers_any op (N 0) (N 1) i0 u)
  unfold Res.val at HO ⊢
  generalize numsR op (N 0) (N 1) = rr at HO ⊢
  generalize N 0 = n0 at x0 HO i0
  generalize N 1 = n1 at x1 HO
  clear i0
  go_enter Tryd.func24, Tryd.ntmps24
  go_wp2_with fail
  refine HL.out.mono ?_
  rintro e w1 ⟨rfl, hb1⟩
  obtain ⟨hc1, hf1⟩ := bcell hb1
  have hz1 : w.heap.size < w1.heap.size := by have := hb1.size; simp at this; omega
  have bel1 : Below w.heap.size w w1 := hB.out.trans (hb1.mono (by simp))
  clear HL
  have hA' : areB ↑(2 : Nat) 1 K N S 2 = true := hA
  go_wp2_with fail
  go_region_with (go_at_call 34; refine (HO _).out.mono ?_; rintro e w2 ⟨rfl, hb2⟩; obtain ⟨hc2, hf2⟩ := bcell ((hb1.drew).trans (hb2.mono hb1.size)))
  all_goals
    go_wp2
    exact bodyPost_ret (v := .tuple #[.agg #[.int .i8 rr.k, .int .i64 rr.n, .string rr.s], .bool rr.ok]) (by simp [results, Tryd.results24, go_sem, hc2]) rfl
      ⟨rfl, (((bel1.drew.trans (hb2.mono (Nat.le_of_lt hz1))).setCell (by simp) _).setCell (by simp) _).setCell (by simp) _⟩
set_option maxHeartbeats 1600000 in
theorem rarith_no3 (op : Int) (hk : tkOf op = 3) (v : Value) (n : Nat) (K N : Nat → Int) (S : Nat → ByteArray) (w : World) (hl : Lst w v n K N S) (hA : areB 1 2 K N S n = false) :
    Calls Tryd.prog 24 #[.int .i8 op, v] w fun e w' => e = .returned noRes.val ∧ Below w.heap.size w w' := by
  have hB := Lib.hid ((Below.refl w.heap.size w).alloc (Nat.le_refl _) (.cells #[.int .i8 0, .int .i64 0, .string ⟨#[]⟩] 26))
  obtain ⟨a, cap, hv, hn, _⟩ := hl.form
  subst hv
  have HL := Lib.hid (rkinds_any _ n 1 2 (by omega) K N S _ (hl.below ((Below.refl _ _).alloc (Nat.le_refl _) (.cells #[.int .i8 0, .int .i64 0, .string ⟨#[]⟩] 26))))
  obtain ⟨ho1, ho2⟩ := tk_of.2.2.1.1 hk
  have n1 : (op == 1) = false := by simp; omega
  have n2 : (2 : Int) ≤ op := by omega
  have n6 : ¬ op ≤ 6 := by omega
  have n7 : (op == 7) = false := by simp; omega
  clear hl hk
  go_enter Tryd.func24, Tryd.ntmps24
  go_wp2_with fail
  refine HL.out.mono ?_
  rintro e w1 ⟨rfl, hb1⟩
  obtain ⟨hc1, hf1⟩ := bcell hb1
  clear HL
  have hA' : areB ↑(1 : Nat) 2 K N S n = false := hA
  go_wp2
  exact bodyPost_ret (v := .tuple #[.agg #[.int .i8 0, .int .i64 0, .string ⟨#[]⟩], .bool false]) (by simp [results, Tryd.results24, go_sem, hc1]) rfl
    ⟨rfl, (((hB.out.trans (hb1.mono (by simp))).setCell (by simp) _).setCell (by simp) _).setCell (by simp) _⟩
set_option maxHeartbeats 3200000 in
theorem rarith_yes3 (op : Int) (hk : tkOf op = 3) (v : Value) (n : Nat) (K N : Nat → Int) (S : Nat → ByteArray) (w : World) (hwf : ∀ i, i < n → In64 (N i)) (hl : Lst w v n K N S) (hA : areB 1 2 K N S n = true) :
    Calls Tryd.prog 24 #[.int .i8 op, v] w fun e w' => e = .returned (textsR op (S 0)).val ∧ Below w.heap.size w w' := by
  have hB := Lib.hid ((Below.refl w.heap.size w).alloc (Nat.le_refl _) (.cells #[.int .i8 0, .int .i64 0, .string ⟨#[]⟩] 26))
  obtain ⟨hn, hall⟩ := areB_spec (count := 1) hA
  subst hn
  obtain ⟨a, cap, hv, _, hcl⟩ := hl.form
  subst hv
  obtain ⟨g, off, ha, hc⟩ := hcl (by omega)
  subst ha
  have HL := Lib.hid (rkinds_any _ 1 1 2 (by omega) K N S _ (hl.below ((Below.refl _ _).alloc (Nat.le_refl _) (.cells #[.int .i8 0, .int .i64 0, .string ⟨#[]⟩] 26))))
  have hlt := hc.lt (by omega)
  have x0 := hc.text 0 (by omega)
  have z0 : (S 0).size ≤ 200 := by
    have := hall 0 (by omega)
    rw [this.1] at this
    exact chk_text this.2
  simp only [Nat.zero_mul, Nat.one_mul, Nat.add_zero] at x0
  clear hl hall hc hwf
  obtain ⟨ho1, ho2⟩ := tk_of.2.2.1.1 hk
  have n1 : (op == 1) = false := by simp; omega
  have n2 : (2 : Int) ≤ op := by omega
  have n6 : ¬ op ≤ 6 := by omega
  have n7 : (op == 7) = false := by simp; omega
  clear hk
  have HO := fun u => Lib.hid (rtexts_any op (S 0) z0 u)
  unfold Res.val at HO ⊢
  generalize textsR op (S 0) = rr at HO ⊢
  generalize S 0 = s0 at x0 HO
  clear z0
  go_enter Tryd.func24, Tryd.ntmps24
  go_wp2_with fail
  refine HL.out.mono ?_
  rintro e w1 ⟨rfl, hb1⟩
  obtain ⟨hc1, hf1⟩ := bcell hb1
  have hz1 : w.heap.size < w1.heap.size := by have := hb1.size; simp at this; omega
  have bel1 : Below w.heap.size w w1 := hB.out.trans (hb1.mono (by simp))
  clear HL
  have hA' : areB ↑(1 : Nat) 2 K N S 1 = true := hA
  go_wp2_with fail
  refine (HO _).out.mono ?_
  rintro e w2 ⟨rfl, hb2⟩
  obtain ⟨hc2, hf2⟩ := bcell (hb1.trans (hb2.mono hb1.size))
  go_wp2
  exact bodyPost_ret (v := .tuple #[.agg #[.int .i8 rr.k, .int .i64 rr.n, .string rr.s], .bool rr.ok]) (by simp [results, Tryd.results24, go_sem, hc2]) rfl
      ⟨rfl, (((bel1.trans (hb2.mono (Nat.le_of_lt hz1))).setCell (by simp) _).setCell (by simp) _).setCell (by simp) _⟩
set_option maxHeartbeats 1600000 in
theorem rarith_no4 (op : Int) (hk : tkOf op = 4) (v : Value) (n : Nat) (K N : Nat → Int) (S : Nat → ByteArray) (w : World) (hl : Lst w v n K N S) (hA : areB 2 2 K N S n = false) :
    Calls Tryd.prog 24 #[.int .i8 op, v] w fun e w' => e = .returned noRes.val ∧ Below w.heap.size w w' := by
  have hB := Lib.hid ((Below.refl w.heap.size w).alloc (Nat.le_refl _) (.cells #[.int .i8 0, .int .i64 0, .string ⟨#[]⟩] 26))
  obtain ⟨a, cap, hv, hn, _⟩ := hl.form
  subst hv
  have HL := Lib.hid (rkinds_any _ n 2 2 (by omega) K N S _ (hl.below ((Below.refl _ _).alloc (Nat.le_refl _) (.cells #[.int .i8 0, .int .i64 0, .string ⟨#[]⟩] 26))))
  have ho : op = 7 := tk_of.2.2.2.1 hk
  subst ho
  clear hl hk
  go_enter Tryd.func24, Tryd.ntmps24
  go_wp2_with fail
  refine HL.out.mono ?_
  rintro e w1 ⟨rfl, hb1⟩
  obtain ⟨hc1, hf1⟩ := bcell hb1
  clear HL
  have hA' : areB ↑(2 : Nat) 2 K N S n = false := hA
  go_wp2
  exact bodyPost_ret (v := .tuple #[.agg #[.int .i8 0, .int .i64 0, .string ⟨#[]⟩], .bool false]) (by simp [results, Tryd.results24, go_sem, hc1]) rfl
    ⟨rfl, (((hB.out.trans (hb1.mono (by simp))).setCell (by simp) _).setCell (by simp) _).setCell (by simp) _⟩
set_option maxHeartbeats 3200000 in
theorem rarith_yes4 (op : Int) (hk : tkOf op = 4) (v : Value) (n : Nat) (K N : Nat → Int) (S : Nat → ByteArray) (w : World) (hwf : ∀ i, i < n → In64 (N i)) (hl : Lst w v n K N S) (hA : areB 2 2 K N S n = true) :
    Calls Tryd.prog 24 #[.int .i8 op, v] w fun e w' => e = .returned (joinR (S 0) (S 1)).val ∧ Below w.heap.size w w' := by
  have hB := Lib.hid ((Below.refl w.heap.size w).alloc (Nat.le_refl _) (.cells #[.int .i8 0, .int .i64 0, .string ⟨#[]⟩] 26))
  obtain ⟨hn, hall⟩ := areB_spec (count := 2) hA
  subst hn
  obtain ⟨a, cap, hv, _, hcl⟩ := hl.form
  subst hv
  obtain ⟨g, off, ha, hc⟩ := hcl (by omega)
  subst ha
  have HL := Lib.hid (rkinds_any _ 2 2 2 (by omega) K N S _ (hl.below ((Below.refl _ _).alloc (Nat.le_refl _) (.cells #[.int .i8 0, .int .i64 0, .string ⟨#[]⟩] 26))))
  have hlt := hc.lt (by omega)
  have x0 := hc.text 0 (by omega)
  have z0 : (S 0).size ≤ 200 := by
    have := hall 0 (by omega)
    rw [this.1] at this
    exact chk_text this.2
  have x1 := hc.text 1 (by omega)
  have z1 : (S 1).size ≤ 200 := by
    have := hall 1 (by omega)
    rw [this.1] at this
    exact chk_text this.2
  simp only [Nat.zero_mul, Nat.one_mul, Nat.add_zero] at x0 x1
  clear hl hall hc hwf
  have ho : op = 7 := tk_of.2.2.2.1 hk
  subst ho
  clear hk
  have HJ : Hid ((200 < (S 0).size + (S 1).size → (joinR (S 0) (S 1)).val = .tuple #[.agg #[.int .i8 0, .int .i64 0, .string ⟨#[]⟩], .bool false]) ∧ (¬ 200 < (S 0).size + (S 1).size → (joinR (S 0) (S 1)).val = .tuple #[.agg #[.int .i8 2, .int .i64 0, .string (S 0 ++ S 1)], .bool true])) := ⟨fun h => by unfold joinR; rw [if_pos h]; rfl, fun h => by unfold joinR; rw [if_neg h]; rfl⟩
  generalize (joinR (S 0) (S 1)).val = RV at HJ ⊢
  generalize S 0 = s0 at x0 HJ z0
  generalize S 1 = s1 at x1 HJ z1
  have hbig : ¬ 9223372036854775807 < s0.size + s1.size := by omega
  have hcs : (s0 ++ s1).size = s0.size + s1.size := ByteArray.size_append
  go_enter Tryd.func24, Tryd.ntmps24
  go_wp2_with fail
  refine HL.out.mono ?_
  rintro e w1 ⟨rfl, hb1⟩
  obtain ⟨hc1, hf1⟩ := bcell hb1
  have hz1 : w.heap.size < w1.heap.size := by have := hb1.size; simp at this; omega
  have bel1 : Below w.heap.size w w1 := hB.out.trans (hb1.mono (by simp))
  clear HL
  have hA' : areB ↑(2 : Nat) 2 K N S 2 = true := hA
  by_cases h200 : 200 < s0.size + s1.size
  · have HR := Lib.hid (HJ.out.1 h200)
    have h2 : (200 : Int) < (s0.size : Int) + (s1.size : Int) := by omega
    clear HJ h200
    go_wp2_with fail
    go_quiet (fail)
    go_wp2
    exact bodyPost_ret (v := .tuple #[.agg #[.int .i8 0, .int .i64 0, .string ⟨#[]⟩], .bool false]) (by simp [results, Tryd.results24, go_sem, hc1]) rfl
      ⟨by rw [HR.out], (((below_drewNq bel1 _).setCell (by simp) _).setCell (by simp) _).setCell (by simp) _⟩
  · have HR := Lib.hid (HJ.out.2 h200)
    have h2 : ¬ (200 : Int) < (s0.size : Int) + (s1.size : Int) := by omega
    clear HJ h200
    go_wp2_with fail
    go_quiet (fail)
    go_wp2
    exact bodyPost_ret (v := .tuple #[.agg #[.int .i8 2, .int .i64 0, .string (s0 ++ s1)], .bool true]) (by simp [results, Tryd.results24, go_sem, hc1]) rfl
      ⟨by rw [HR.out], (((below_drewNq bel1 _).setCell (by simp) _).setCell (by simp) _).setCell (by simp) _⟩
theorem rarith_any (op : Int) (v : Value) (n : Nat) (K N : Nat → Int) (S : Nat → ByteArray) (w : World) (hwf : ∀ i, i < n → In64 (N i)) (hl : Lst w v n K N S) :
    Calls Tryd.prog 24 #[.int .i8 op, v] w fun e w' => e = .returned (arithR op n K N S).val ∧ Below w.heap.size w w' := by
  rcases tkOf_cases op with h | h | h | h | h
  · rw [arithR_no op n K N S (by omega) (by omega) (by omega) (by omega)]
    exact rarith_no0 op h v n K N S w hl
  · cases hA : areB 1 1 K N S n with
    | false =>
      rw [arithR_no op n K N S (fun e => by rw [hA] at e; cases e.2) (by omega) (by omega) (by omega)]
      exact rarith_no1 op h v n K N S w hl hA
    | true =>
      unfold arithR
      rw [if_pos ⟨h, hA⟩]
      exact rarith_yes1 op h v n K N S w hwf hl hA
  · cases hA : areB 2 1 K N S n with
    | false =>
      rw [arithR_no op n K N S (by omega) (fun e => by rw [hA] at e; cases e.2) (by omega) (by omega)]
      exact rarith_no2 op h v n K N S w hl hA
    | true =>
      unfold arithR
      rw [if_neg (by omega), if_pos ⟨h, hA⟩]
      exact rarith_yes2 op h v n K N S w hwf hl hA
  · cases hA : areB 1 2 K N S n with
    | false =>
      rw [arithR_no op n K N S (by omega) (by omega) (fun e => by rw [hA] at e; cases e.2) (by omega)]
      exact rarith_no3 op h v n K N S w hl hA
    | true =>
      unfold arithR
      rw [if_neg (by omega), if_neg (by omega), if_pos ⟨h, hA⟩]
      exact rarith_yes3 op h v n K N S w hwf hl hA
  · cases hA : areB 2 2 K N S n with
    | false =>
      rw [arithR_no op n K N S (by omega) (by omega) (by omega) (fun e => by rw [hA] at e; cases e.2)]
      exact rarith_no4 op h v n K N S w hl hA
    | true =>
      unfold arithR
      rw [if_neg (by omega), if_neg (by omega), if_neg (by omega), if_pos ⟨h, hA⟩]
      exact rarith_yes4 op h v n K N S w hwf hl hA
end Go.Proofs.YtodlkadlpjlenaaDoor.AR
