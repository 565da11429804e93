import Derived.Test.YtaeneiekjaoakaaGreatDoorPrintN
namespace Go.Proofs.YtaeneiekjaoakaaGreatDoor
open Go.RowKit Go.Maps
set_option linter.unusedVariables false
set_option linter.unusedSimpArgs false
attribute [local go_sem ↓] Go.wp_at_zero Go.wp_at_succ

set_option maxHeartbeats 1600000 in
theorem oneQ_any (pr : ByteArray) (v : Value) (ts : List T) (w : World) (hp : PW w) (hpr : pr.size ≤ maxLen) (hl : Lt w v ts) :
    Calls Tryz.prog 21 #[.agg #[.string pr, v], .func (.func 22) #[] #[], .func (.func 24) #[] #[]] w fun r w' => r = .returned (toldV (atomB pr ts) (atomT pr ts ++ [63])) ∧ Below w.heap.size w w' := by
  have HL : Hid (Lt w v ts) := hl
  have hwf := hl.wf
  obtain ⟨a, c, rfl, hc1, hc2, hat⟩ := hl.form
  have BA := (Below.refl w.heap.size w).alloc (Nat.le_refl _) (.cells #[.string pr, .slice a ts.length c] 24)
  have HP : Hid _ := hp
  have HL2 : Hid (Lt _ _ ts) := hl.below BA
  clear hat hl hp
  go_enter Tryz.func21, Tryz.ntmps21
  go_wp2_with fail
  refine (pcheckAtom_any pr _ ts _ hpr HL2.out).mono ?_
  rintro ee w1 ⟨rfl, b1⟩
  have B1 : Hid (Below w.heap.size w w1) := BA.trans (b1.mono BA.size)
  have y0 : w1.cell? ⟨w.heap.size, 0, none⟩ = some (.string pr) := by rw [b1.cell (p := ⟨w.heap.size, 0, none⟩) (by simp)]; go_simp
  have y1 : w1.cell? ⟨w.heap.size, 1, none⟩ = some (.slice a ts.length c) := by rw [b1.cell (p := ⟨w.heap.size, 1, none⟩) (by simp)]; go_simp
  clear b1 BA HL2
  cases hok : atomB pr ts
  · unfold errB
    simp only [Bool.false_eq_true, if_false]
    go_wp2
    go_ret2
    exact ⟨by first | rfl | (rw [hok]; rfl), B1.out⟩
  · unfold errB
    simp only [if_true]
    have BA2 := (Below.refl w1.heap.size w1).alloc (Nat.le_refl _) (.cells #[.pointer none, .slice none 0 0] 84)
    have HBN : Hid (BldA w1.heap.size w1.heap.size [] _) := bldA_new w1
    have HLn : Hid _ := atomT_len hwf hok
    have HOK : Hid (ts.all termB = true) := by unfold atomB at hok; simp only [Bool.and_eq_true] at hok; exact hok.2
    have HB2 : Hid (Below w.heap.size w _) := B1.out.trans (BA2.mono B1.out.size)
    have hlt := World.block_lt_of_cell? _ _ y0
    have z0 := (BA2.cell (p := ⟨w.heap.size, 0, none⟩) hlt).trans y0
    have z1 := (BA2.cell (p := ⟨w.heap.size, 1, none⟩) hlt).trans y1
    go_wp2_with fail
    refine (wquery_any pr _ ts w B1.out.size HL.out HP.out HOK.out [] _ HB2.out HBN.out BA2.size (by have := HLn.out; simp only [List.length_nil, List.length_append, List.length_cons]; omega)).mono ?_
    rintro ee w2 ⟨rfl, k1, k2, k3⟩
    rw [List.nil_append] at k1
    have HB3 : Hid (Below w.heap.size w w2) := HB2.out.trans (k2.mono B1.out.size)
    have hB3 := k1
    clear HBN k1 k2 k3 y0 y1 z0 z1 BA2 HB2
    go_wp2_with fail
    refine (String_any hB3 (by simp)).mono ?_
    rintro ee w3 ⟨rfl, b3⟩
    obtain ⟨S, hS⟩ : ∃ S, (⟨(atomT pr ts ++ [63]).toArray⟩ : ByteArray) = S := ⟨_, rfl⟩
    rw [hS]
    have HSS : Hid _ := hS
    clear hS
    go_wp2
    go_ret2
    exact ⟨by first | (rw [← HSS.out]; rfl) | (rw [hok, ← HSS.out]; rfl), HB3.out.trans (b3.mono B1.out.size)⟩
theorem pQuery_any (pr : ByteArray) (v : Value) (ts : List T) (w : World) (hp : PW w) (hpr : pr.size ≤ maxLen) (hl : Lt w v ts) :
    Calls Tryz.prog 10 #[.agg #[.string pr, v]] w fun r w' => r = .returned (toldV (atomB pr ts) (atomT pr ts ++ [63])) ∧ Below w.heap.size w w' := by
  have HL : Hid (Lt w v ts) := hl
  obtain ⟨a, c, rfl, hc1, hc2, hat⟩ := hl.form
  have BA := (Below.refl w.heap.size w).alloc (Nat.le_refl _) (.cells #[.string pr, .slice a ts.length c] 24)
  have HP : Hid (PW _) := tab_below hp BA
  obtain ⟨s, er, hs⟩ : ∃ s er, toldV (atomB pr ts) (atomT pr ts ++ [63]) = .tuple #[.string s, .int .i64 er] := by unfold toldV; split <;> exact ⟨_, _, rfl⟩
  clear hat hl hp
  go_enter Tryz.func10, Tryz.ntmps10
  go_wp2_with fail
  refine (oneQ_any pr _ ts _ HP.out hpr (HL.out.below BA)).mono ?_
  rintro ee w1 ⟨rfl, b1⟩
  rw [hs]
  have B1 := BA.trans (b1.mono BA.size)
  clear b1 BA
  have HS : Hid _ := hs
  clear hs
  go_wp2
  go_ret2
  exact ⟨by rw [HS.out]; rfl, B1⟩
end Go.Proofs.YtaeneiekjaoakaaGreatDoor
