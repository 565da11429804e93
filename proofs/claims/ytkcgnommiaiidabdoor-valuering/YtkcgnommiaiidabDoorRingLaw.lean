import Derived.Test.YtkcgnommiaiidabDoorRing
namespace Go.Proofs.YtkcgnommiaiidabDoor
open Go.RowKit
set_option linter.unusedVariables false
attribute [local go_sem ↓] Go.wp_at_zero Go.wp_at_succ

theorem run_neq_value (k1 n1 : Int) (s1 : ByteArray) (k2 n2 : Int) (s2 : ByteArray) (w : World) :
    (binOp .neq 34 (.agg #[.int .i8 k1, .int .i64 n1, .string s1]) (.agg #[.int .i8 k2, .int .i64 n2, .string s2])).run Tryd.prog w = .ok (.bool (!(cmpV k1 n1 s1 k2 n2 s2 == 0))) w := by
  by_cases hk : k1 = k2
  · by_cases hn : n1 = n2
    · by_cases hs : s1.toList = s2.toList
      · subst hk hn
        rw [cmpV_s0 _ _ hs]
        go_simp
      · have : ¬ cmpV k1 n1 s1 k2 n2 s2 = 0 := fun h => hs (cmpV_zero h).2.2
        have e : (cmpV k1 n1 s1 k2 n2 s2 == 0) = false := by simpa using this
        rw [e]
        go_simp
    · have : ¬ cmpV k1 n1 s1 k2 n2 s2 = 0 := fun h => hn (cmpV_zero h).2.1
      have e : (cmpV k1 n1 s1 k2 n2 s2 == 0) = false := by simpa using this
      rw [e]
      go_simp
  · have : ¬ cmpV k1 n1 s1 k2 n2 s2 = 0 := fun h => hk (cmpV_zero h).1
    have e : (cmpV k1 n1 s1 k2 n2 s2 == 0) = false := by simpa using this
    rw [e]
    go_simp

theorem lives_h {w v : World} (h : Tab v ∧ Below w.heap.size w v) :
    Calls Tryd.prog 21 #[] v fun e v' => e = .returned (.bool true) ∧ (Tab v' ∧ Below w.heap.size w v') :=
  (lives_true v h.1).mono fun e v' ⟨he, hb⟩ => ⟨he, h.1.below hb, h.2.trans (hb.mono h.2.size)⟩
theorem ring_h {w v : World} (h : Tab v ∧ Below w.heap.size w v) (a b c : Int) (ha : In64 a) (hb : In64 b) :
    Calls Tryd.prog 34 #[.int .i64 a, .int .i64 b, .int .i64 c] v fun e v' => e = .returned (.bool true) ∧ (Tab v' ∧ Below w.heap.size w v') :=
  (ring_true a b c v h.1 ha hb).mono fun e v' ⟨he, hb⟩ => ⟨he, h.1.below hb, h.2.trans (hb.mono h.2.size)⟩

theorem ring_keep {w w3 v v' : World} {a : Int} (hz : w.heap.size ≤ w3.heap.size) (hb : Below v.heap.size v v')
    (h : w3.heap.size < v.heap.size ∧ (Tab v ∧ Below w.heap.size w v) ∧ v.cell? ⟨w3.heap.size, 0, none⟩ = some (.int .i8 1) ∧ v.cell? ⟨w3.heap.size, 1, none⟩ = some (.int .i64 (negW a)) ∧ v.cell? ⟨w3.heap.size, 2, none⟩ = some (.string ⟨#[]⟩)) :
    w3.heap.size < v'.heap.size ∧ (Tab v' ∧ Below w.heap.size w v') ∧ v'.cell? ⟨w3.heap.size, 0, none⟩ = some (.int .i8 1) ∧ v'.cell? ⟨w3.heap.size, 1, none⟩ = some (.int .i64 (negW a)) ∧ v'.cell? ⟨w3.heap.size, 2, none⟩ = some (.string ⟨#[]⟩) := by
  obtain ⟨hl, bel, a0, a1, a2⟩ := h
  have hs := hb.size
  refine ⟨by omega, ⟨bel.1.below hb, bel.2.trans (hb.mono (by omega))⟩, ?_, ?_, ?_⟩
  · rw [hb.cell (by show w3.heap.size < _; omega)]; exact a0
  · rw [hb.cell (by show w3.heap.size < _; omega)]; exact a1
  · rw [hb.cell (by show w3.heap.size < _; omega)]; exact a2
theorem ring_drew {w w3 v : World} {a : Int} (h : w3.heap.size < v.heap.size ∧ (Tab v ∧ Below w.heap.size w v) ∧ v.cell? ⟨w3.heap.size, 0, none⟩ = some (.int .i8 1) ∧ v.cell? ⟨w3.heap.size, 1, none⟩ = some (.int .i64 (negW a)) ∧ v.cell? ⟨w3.heap.size, 2, none⟩ = some (.string ⟨#[]⟩)) :
    w3.heap.size < v.drew.heap.size ∧ (Tab v.drew ∧ Below w.heap.size w v.drew) ∧ v.drew.cell? ⟨w3.heap.size, 0, none⟩ = some (.int .i8 1) ∧ v.drew.cell? ⟨w3.heap.size, 1, none⟩ = some (.int .i64 (negW a)) ∧ v.drew.cell? ⟨w3.heap.size, 2, none⟩ = some (.string ⟨#[]⟩) :=
  ⟨h.1, ⟨h.2.1.1.below (Below.drew (Below.refl _ _)), h.2.1.2.drew⟩, h.2.2.1, h.2.2.2.1, h.2.2.2.2⟩

set_option maxRecDepth 100000 in
set_option maxHeartbeats 8000000 in
theorem ringlaw_walk (a b c : Int) (w : World) (ht : Tab w) (ha : In64 a) (hb : In64 b) :
    Calls Tryd.prog 7 #[.int .i64 a, .int .i64 b, .int .i64 c] w fun e w' => e = .returned (.bool true) ∧ Below w.heap.size w w' := by
  have hH : Tab w ∧ Below w.heap.size w w := ⟨ht, Below.refl _ _⟩
  clear ht
  by_cases hb0 : b = 0
  · subst hb0
    go_enter Tryd.func7, Tryd.ntmps7
    go_wp2_with (first
      | (go_at_call 21; refine (lives_h hH).mono ?_; clear hH; rintro e v' ⟨rfl, hH⟩)
      | (go_at_call 34; refine (ring_h hH a 0 c ha hb).mono ?_; clear hH; rintro e w1 ⟨rfl, hH⟩))
    refine (num_any _ _).mono ?_
    rintro e w2 ⟨rfl, hb2⟩
    have hH2 : Tab w2 ∧ Below w.heap.size w w2 := ⟨hH.1.below hb2, hH.2.trans (hb2.mono hH.2.size)⟩
    clear hH hb2
    go_wp2_with fail
    have ha2 : Below w2.heap.size w2 (w2.alloc (.cells #[.int .i8 1, .int .i64 a, .string ⟨#[]⟩] 34)) := (Below.refl _ _).alloc (Nat.le_refl _) _
    refine (arith_neg a w2.heap.size 0 1 _ (hH2.1.below ha2) (by simp) (by go_simp) (by go_simp) (by go_simp)).mono ?_
    rintro e w3 ⟨rfl, hb3⟩
    have hH3 : Tab w3 ∧ Below w.heap.size w w3 := ⟨(hH2.1.below ha2).below hb3, (hH2.2.trans (ha2.mono hH2.2.size)).trans (hb3.mono (by have := hH2.2.size; simp; omega))⟩
    have hz3 := hH3.2.size
    clear ha2 hb3 hH2
    have hH4 : Tab (w3.alloc (.cells #[.int .i8 1, .int .i64 (negW a), .string ⟨#[]⟩] 34)) ∧ Below w.heap.size w (w3.alloc (.cells #[.int .i8 1, .int .i64 (negW a), .string ⟨#[]⟩] 34)) := ⟨hH3.1.below ((Below.refl _ _).alloc (Nat.le_refl _) _), hH3.2.alloc hz3 _⟩
    go_wp2_with fail
    refine (two_add a (negW a) _ hH4.1).mono ?_
    rintro e w5 ⟨rfl, hb5⟩
    have hS5 : w3.heap.size < w5.heap.size ∧ (Tab w5 ∧ Below w.heap.size w w5) ∧ w5.cell? ⟨w3.heap.size, 0, none⟩ = some (.int .i8 1) ∧ w5.cell? ⟨w3.heap.size, 1, none⟩ = some (.int .i64 (negW a)) ∧ w5.cell? ⟨w3.heap.size, 2, none⟩ = some (.string ⟨#[]⟩) := by
      have hs := hb5.size
      refine ⟨by simp at hs; omega, ⟨hH4.1.below hb5, hH4.2.trans (hb5.mono (by simp; omega))⟩, ?_, ?_, ?_⟩
      · rw [hb5.cell (p := ⟨w3.heap.size, 0, none⟩) (by simp)]; go_simp
      · rw [hb5.cell (p := ⟨w3.heap.size, 1, none⟩) (by simp)]; go_simp
      · rw [hb5.cell (p := ⟨w3.heap.size, 2, none⟩) (by simp)]; go_simp
    clear hb5 hH4 hH3
    have e1 := addW_negW a
    have hE := run_neq_value 1 (negW a) ⟨#[]⟩ 1 (negW a) ⟨#[]⟩
    rw [cmpV_s0 _ _ rfl] at hE
    go_wp2_with fail
    go_region_held3 (fun w' => w3.heap.size < w'.heap.size ∧ (Tab w' ∧ Below w.heap.size w w') ∧ w'.cell? ⟨w3.heap.size, 0, none⟩ = some (.int .i8 1) ∧ w'.cell? ⟨w3.heap.size, 1, none⟩ = some (.int .i64 (negW a)) ∧ w'.cell? ⟨w3.heap.size, 2, none⟩ = some (.string ⟨#[]⟩))
      (first
        | assumption
        | exact ring_keep hz3 (by assumption) (by assumption)
        | exact ring_drew hS5)
      (first | (go_at_call 28; refine (num_any _ _).mono ?_; rintro e w' ⟨rfl, hbx⟩))
    have hH : Tab w' ∧ Below w.heap.size w w' := by rename_i h; exact h.2.1
    clear hS5 hE e1

    go_wp2_with (first
      | (go_at_call_of 36 (Value.int IntKind.i8 5); refine (two_div0_h hH _).mono ?_; clear hH; rintro e v5 ⟨rfl, hH⟩)
      | (go_at_call_of 36 (Value.int IntKind.i8 6); refine (two_mod0_h hH _).mono ?_; clear hH; rintro e v6 ⟨rfl, hH⟩))
    have hE0 := run_eql_value 0 0 ⟨#[]⟩ 0 0 ⟨#[]⟩
    rw [cmpV_s0 _ _ rfl] at hE0
    refine (num_any _ _).mono ?_
    rintro e w6 ⟨rfl, hb6⟩
    go_wp2_with fail
    refine (num_any _ _).mono ?_
    rintro e w7 ⟨rfl, hb7⟩
    have hH7 : Tab w7 ∧ Below w.heap.size w w7 := ⟨(hH.1.below hb6).below hb7, (hH.2.trans (hb6.mono hH.2.size)).trans (hb7.mono (Nat.le_trans hH.2.size hb6.size))⟩
    clear hb6 hb7 hH
    go_wp2_with fail
    have ha7 : Below w7.heap.size w7 (w7.alloc (.cells #[.int .i8 1, .int .i64 a, .string ⟨#[]⟩, .int .i8 1, .int .i64 0, .string ⟨#[]⟩] 34)) := (Below.refl _ _).alloc (Nat.le_refl _) _
    refine (arith_div0 a w7.heap.size 0 2 _ (hH7.1.below ha7) ⟨by simp, by go_simp, by go_simp, by go_simp, by go_simp, by go_simp, by go_simp⟩).mono ?_
    rintro e w8 ⟨rfl, hb8⟩
    have hH8 : Tab w8 ∧ Below w.heap.size w w8 := ⟨(hH7.1.below ha7).below hb8, (hH7.2.trans (ha7.mono hH7.2.size)).trans (hb8.mono (by have := hH7.2.size; simp; omega))⟩
    have hz8 := hH8.2.size
    clear ha7 hb8 hH7
    go_wp2_with fail
    refine (num_any _ _).mono ?_
    rintro e w9 ⟨rfl, hb9⟩
    go_wp2_with fail
    refine (num_any _ _).mono ?_
    rintro e w10 ⟨rfl, hb10⟩
    have h810 : Below (w8.heap.size + 1) (w8.alloc (.cells #[.int .i8 0, .int .i64 0, .string ⟨#[]⟩] 34)) w10 := by
      have q9 : Below (w8.heap.size + 1) (w8.alloc (.cells #[.int .i8 0, .int .i64 0, .string ⟨#[]⟩] 34)) w9 := by simpa using hb9
      exact q9.trans (hb10.mono (by have := q9.size; simpa using this))
    have hT10 : Tab w10 := ((hH8.1.below ((Below.refl _ _).alloc (Nat.le_refl _) _)).below hb9).below hb10
    clear hb9 hb10
    go_wp2_with fail
    have ha10 : Below w10.heap.size w10 (w10.alloc (.cells #[.int .i8 1, .int .i64 a, .string ⟨#[]⟩, .int .i8 1, .int .i64 0, .string ⟨#[]⟩] 34)) := (Below.refl _ _).alloc (Nat.le_refl _) _
    refine (arith_mod0 a w10.heap.size 0 2 _ (hT10.below ha10) ⟨by simp, by go_simp, by go_simp, by go_simp, by go_simp, by go_simp, by go_simp⟩).mono ?_
    rintro e w11 ⟨rfl, hb11⟩
    have hz10 : w8.heap.size + 1 ≤ w10.heap.size := by have := h810.size; simpa using this
    have h811 : Below (w8.heap.size + 1) (w8.alloc (.cells #[.int .i8 0, .int .i64 0, .string ⟨#[]⟩] 34)) w11 := (h810.trans (ha10.mono hz10)).trans (hb11.mono (by simp; omega))
    have hz11 : w8.heap.size + 1 ≤ w11.heap.size := by have := h811.size; simpa using this
    have bel11 : Below w.heap.size w w11 := (hH8.2.alloc hz8 _).trans (h811.mono (by omega))
    have d0 : w11.cell? ⟨w8.heap.size, 0, none⟩ = some (.int .i8 0) := by rw [h811.cell (p := ⟨w8.heap.size, 0, none⟩) (by simp)]; go_simp
    have d1 : w11.cell? ⟨w8.heap.size, 1, none⟩ = some (.int .i64 0) := by rw [h811.cell (p := ⟨w8.heap.size, 1, none⟩) (by simp)]; go_simp
    have d2 : w11.cell? ⟨w8.heap.size, 2, none⟩ = some (.string ⟨#[]⟩) := by rw [h811.cell (p := ⟨w8.heap.size, 2, none⟩) (by simp)]; go_simp
    have hne : w8.heap.size < w11.heap.size := by omega
    clear hb11 h810 h811 ha10 hT10 hH8
    go_wp2
    go_ret
    exact ⟨rfl, bel11.alloc (by omega) _⟩
  · have hb0' : (b == 0) = false := by simpa using hb0
    go_enter Tryd.func7, Tryd.ntmps7
    go_wp2_with (first
      | (go_at_call 21; refine (lives_h hH).mono ?_; clear hH; rintro e v' ⟨rfl, hH⟩)
      | (go_at_call 34; refine (ring_h hH a b c ha hb).mono ?_; clear hH; rintro e w1 ⟨rfl, hH⟩))
    refine (num_any _ _).mono ?_
    rintro e w2 ⟨rfl, hb2⟩
    have hH2 : Tab w2 ∧ Below w.heap.size w w2 := ⟨hH.1.below hb2, hH.2.trans (hb2.mono hH.2.size)⟩
    clear hH hb2
    go_wp2_with fail
    have ha2 : Below w2.heap.size w2 (w2.alloc (.cells #[.int .i8 1, .int .i64 a, .string ⟨#[]⟩] 34)) := (Below.refl _ _).alloc (Nat.le_refl _) _
    refine (arith_neg a w2.heap.size 0 1 _ (hH2.1.below ha2) (by simp) (by go_simp) (by go_simp) (by go_simp)).mono ?_
    rintro e w3 ⟨rfl, hb3⟩
    have hH3 : Tab w3 ∧ Below w.heap.size w w3 := ⟨(hH2.1.below ha2).below hb3, (hH2.2.trans (ha2.mono hH2.2.size)).trans (hb3.mono (by have := hH2.2.size; simp; omega))⟩
    have hz3 := hH3.2.size
    clear ha2 hb3 hH2
    have hH4 : Tab (w3.alloc (.cells #[.int .i8 1, .int .i64 (negW a), .string ⟨#[]⟩] 34)) ∧ Below w.heap.size w (w3.alloc (.cells #[.int .i8 1, .int .i64 (negW a), .string ⟨#[]⟩] 34)) := ⟨hH3.1.below ((Below.refl _ _).alloc (Nat.le_refl _) _), hH3.2.alloc hz3 _⟩
    go_wp2_with fail
    refine (two_add a (negW a) _ hH4.1).mono ?_
    rintro e w5 ⟨rfl, hb5⟩
    have hS5 : w3.heap.size < w5.heap.size ∧ (Tab w5 ∧ Below w.heap.size w w5) ∧ w5.cell? ⟨w3.heap.size, 0, none⟩ = some (.int .i8 1) ∧ w5.cell? ⟨w3.heap.size, 1, none⟩ = some (.int .i64 (negW a)) ∧ w5.cell? ⟨w3.heap.size, 2, none⟩ = some (.string ⟨#[]⟩) := by
      have hs := hb5.size
      refine ⟨by simp at hs; omega, ⟨hH4.1.below hb5, hH4.2.trans (hb5.mono (by simp; omega))⟩, ?_, ?_, ?_⟩
      · rw [hb5.cell (p := ⟨w3.heap.size, 0, none⟩) (by simp)]; go_simp
      · rw [hb5.cell (p := ⟨w3.heap.size, 1, none⟩) (by simp)]; go_simp
      · rw [hb5.cell (p := ⟨w3.heap.size, 2, none⟩) (by simp)]; go_simp
    clear hb5 hH4 hH3
    have e1 := addW_negW a
    have hE := run_neq_value 1 (negW a) ⟨#[]⟩ 1 (negW a) ⟨#[]⟩
    rw [cmpV_s0 _ _ rfl] at hE
    go_wp2_with fail
    go_region_held3 (fun w' => w3.heap.size < w'.heap.size ∧ (Tab w' ∧ Below w.heap.size w w') ∧ w'.cell? ⟨w3.heap.size, 0, none⟩ = some (.int .i8 1) ∧ w'.cell? ⟨w3.heap.size, 1, none⟩ = some (.int .i64 (negW a)) ∧ w'.cell? ⟨w3.heap.size, 2, none⟩ = some (.string ⟨#[]⟩))
      (first
        | assumption
        | exact ring_keep hz3 (by assumption) (by assumption)
        | exact ring_drew hS5)
      (first | (go_at_call 28; refine (num_any _ _).mono ?_; rintro e w' ⟨rfl, hbx⟩))
    have hH : Tab w' ∧ Below w.heap.size w w' := by rename_i h; exact h.2.1
    clear hS5 hE e1

    have hs := divmodW a b ha
    have hm := szW_mod a b hb0
    have hd := szW_div a b ha
    have ir := modW_in a b ha
    have iq : In64 (divW a b) := wrap_in _
    have hsg := modW_sign a b
    by_cases hr : modW a b = 0
    · have hr' : (modW a b == 0) = true := by simpa using hr
      have HR : Hid (modW a b = 0) := hr
      clear hr hsg
      go_wp2_with (first
        | (go_at_call_of 36 (Value.int IntKind.i8 5); refine (two_div_h hH _ _ hb0).mono ?_; clear hH; rintro e v5 ⟨rfl, hH⟩)
        | (go_at_call_of 36 (Value.int IntKind.i8 6); refine (two_mod_h hH _ _ hb0).mono ?_; clear hH; rintro e v6 ⟨rfl, hH⟩)
        | (go_at_call_of 36 (Value.int IntKind.i8 4); refine (two_mul_h hH _ _).mono ?_; clear hH; rintro e v7 ⟨rfl, hH⟩)
        | (go_at_call_of 36 (Value.int IntKind.i8 2); refine (two_add_h hH _ _).mono ?_; clear hH; rintro e v8 ⟨rfl, hH⟩)
        | (go_at_call 37; refine (size_any _ _ (by assumption)).mono ?_; rintro e v9 ⟨rfl, rfl⟩))
      go_ret
      exact ⟨rfl, hH.2⟩
    · have hr' : (modW a b == 0) = false := by simpa using hr
      have hsg' := hsg hr
      have HSG : Hid (decide (modW a b < 0) = decide (a < 0)) := hsg'
      clear hr hsg hsg'
      by_cases hneg : a < 0
      · have hn2 : modW a b < 0 := by have := HSG.out; simpa [hneg] using this
        go_wp2_with (first
        | (go_at_call_of 36 (Value.int IntKind.i8 5); refine (two_div_h hH _ _ hb0).mono ?_; clear hH; rintro e v5 ⟨rfl, hH⟩)
        | (go_at_call_of 36 (Value.int IntKind.i8 6); refine (two_mod_h hH _ _ hb0).mono ?_; clear hH; rintro e v6 ⟨rfl, hH⟩)
        | (go_at_call_of 36 (Value.int IntKind.i8 4); refine (two_mul_h hH _ _).mono ?_; clear hH; rintro e v7 ⟨rfl, hH⟩)
        | (go_at_call_of 36 (Value.int IntKind.i8 2); refine (two_add_h hH _ _).mono ?_; clear hH; rintro e v8 ⟨rfl, hH⟩)
        | (go_at_call 37; refine (size_any _ _ (by assumption)).mono ?_; rintro e v9 ⟨rfl, rfl⟩))
        go_ret
        exact ⟨rfl, hH.2⟩
      · have hn2 : ¬ modW a b < 0 := by have := HSG.out; simpa [hneg] using this
        go_wp2_with (first
        | (go_at_call_of 36 (Value.int IntKind.i8 5); refine (two_div_h hH _ _ hb0).mono ?_; clear hH; rintro e v5 ⟨rfl, hH⟩)
        | (go_at_call_of 36 (Value.int IntKind.i8 6); refine (two_mod_h hH _ _ hb0).mono ?_; clear hH; rintro e v6 ⟨rfl, hH⟩)
        | (go_at_call_of 36 (Value.int IntKind.i8 4); refine (two_mul_h hH _ _).mono ?_; clear hH; rintro e v7 ⟨rfl, hH⟩)
        | (go_at_call_of 36 (Value.int IntKind.i8 2); refine (two_add_h hH _ _).mono ?_; clear hH; rintro e v8 ⟨rfl, hH⟩)
        | (go_at_call 37; refine (size_any _ _ (by assumption)).mono ?_; rintro e v9 ⟨rfl, rfl⟩))
        go_ret
        exact ⟨ret_bool (by rw [HSG.out]; simp), hH.2⟩

end Go.Proofs.YtkcgnommiaiidabDoor
