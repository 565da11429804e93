import Derived.Test.YtikjphfeeljhbaaGreatDoorPrintT
namespace Go.Proofs.YtikjphfeeljhbaaGreatDoor
open Go.RowKit Go.Maps
set_option linter.unusedVariables false
set_option linter.unusedSimpArgs false
attribute [local go_sem ↓] Go.wp_at_zero Go.wp_at_succ

theorem checkExpr_any (d : Nat) (e : E) (a : Option Addr) (c : Nat) (w : World) (hT : KT w) (hE : EIs w d e a c) : Calls Tryz.prog 47 #[e.val a c] w fun r w' => r = .returned (.int .i64 (errB (exprB 8 e))) ∧ Below w.heap.size w w' := by
  have BA := (Below.refl w.heap.size w).alloc (Nat.le_refl _) (.cells #[.int .i8 e.op, .string e.t.v, .int .i8 e.t.a.k, .int .i64 e.t.a.n, .string e.t.a.s, .slice a e.kids.length c] 75)
  have HT : Hid (KT _) := hT.below BA
  have HE : Hid (EIs _ d e a c) := hE.below BA
  clear hT hE
  unfold E.val
  go_enter Tryz.func47, Tryz.ntmps47
  go_wp2_with fail
  refine (isExpr_any 8 d e a c _ (by omega) HT.out HE.out).mono ?_
  rintro ee w1 ⟨rfl, b1⟩
  go_wp2_with fail
  refine (verdict_any _ _).mono ?_
  rintro ee w2 ⟨rfl, rfl⟩
  go_wp2
  go_ret
  exact ⟨rfl, BA.trans (b1.mono BA.size)⟩
theorem pcheckAtom_any (pred : ByteArray) (v : Value) (l : List T) (w : World) (hp : pred.size ≤ maxLen) (hl : Lt w v l) : Calls Tryz.prog 24 #[.agg #[.string pred, v]] w fun e w' => e = .returned (.int .i64 (errB (atomB pred l))) ∧ Below w.heap.size w w' := by
  have HL : Hid (Lt w v l) := hl
  obtain ⟨a, c, rfl, hc1, hc2, hat⟩ := hl.form
  have BA := (Below.refl w.heap.size w).alloc (Nat.le_refl _) (.cells #[.string pred, .slice a l.length c] 29)
  clear hat hl
  go_enter Tryz.func24, Tryz.ntmps24
  go_wp2_with fail
  refine (isAtom_any pred _ l _ hp (HL.out.below BA)).mono ?_
  rintro ee w1 ⟨rfl, b1⟩
  go_wp2_with fail
  refine (verdict_any _ _).mono ?_
  rintro ee w2 ⟨rfl, rfl⟩
  go_wp2
  go_ret
  exact ⟨rfl, BA.trans (b1.mono BA.size)⟩
set_option maxHeartbeats 1600000 in
theorem oneE_any (d : Nat) (e : E) (a : Option Addr) (c : Nat) (w : World) (hG : Gp w) (hE : EIs w d e a c) :
    Calls Tryz.prog 46 #[e.val a c, .func (.func 47) #[] #[], .func (.func 48) #[] #[]] w fun r w' => r = .returned (toldV (exprB 8 e) (textE 8 e)) ∧ Below w.heap.size w w' := by
  have BA := (Below.refl w.heap.size w).alloc (Nat.le_refl _) (.cells #[.int .i8 e.op, .string e.t.v, .int .i8 e.t.a.k, .int .i64 e.t.a.n, .string e.t.a.s, .slice a e.kids.length c] 75)
  have HG : Hid _ := hG
  have HE : Hid (EIs w d e a c) := hE
  have HK2 : Hid (KT _) := hG.kt.below BA
  have HE2 : Hid (EIs _ d e a c) := hE.below BA
  clear hG hE
  unfold E.val
  go_enter Tryz.func46, Tryz.ntmps46
  go_wp2_with fail
  refine (checkExpr_any d e a c _ HK2.out HE2.out).mono ?_
  rintro ee w1 ⟨rfl, b1⟩
  have B1 : Hid (Below w.heap.size w w1) := BA.trans (b1.mono BA.size)
  have y0 : w1.cell? ⟨w.heap.size, 0, none⟩ = some (.int .i8 e.op) := by rw [b1.cell (p := ⟨w.heap.size, 0, none⟩) (by simp)]; go_simp
  have y1 : w1.cell? ⟨w.heap.size, 1, none⟩ = some (.string e.t.v) := by rw [b1.cell (p := ⟨w.heap.size, 1, none⟩) (by simp)]; go_simp
  have y2 : w1.cell? ⟨w.heap.size, 2, none⟩ = some (.int .i8 e.t.a.k) := by rw [b1.cell (p := ⟨w.heap.size, 2, none⟩) (by simp)]; go_simp
  have y3 : w1.cell? ⟨w.heap.size, 3, none⟩ = some (.int .i64 e.t.a.n) := by rw [b1.cell (p := ⟨w.heap.size, 3, none⟩) (by simp)]; go_simp
  have y4 : w1.cell? ⟨w.heap.size, 4, none⟩ = some (.string e.t.a.s) := by rw [b1.cell (p := ⟨w.heap.size, 4, none⟩) (by simp)]; go_simp
  have y5 : w1.cell? ⟨w.heap.size, 5, none⟩ = some (.slice a e.kids.length c) := by rw [b1.cell (p := ⟨w.heap.size, 5, none⟩) (by simp)]; go_simp
  clear b1 BA HK2 HE2
  cases hok : exprB 8 e
  · unfold errB
    simp only [Bool.false_eq_true, if_false]
    go_wp2
    go_ret2
    exact ⟨by first | rfl | (rw [hok]; rfl), B1.out⟩
  · unfold errB
    simp only [if_true]
    have BA2 := (Below.refl w1.heap.size w1).alloc (Nat.le_refl _) (.cells #[.pointer none, .slice none 0 0] 87)
    have HBN : Hid (BldA w1.heap.size w1.heap.size [] _) := bldA_new w1
    have HLn : Hid _ := textE_len 8 d e a c w HE.out hok
    have HB2 : Hid (Below w.heap.size w _) := B1.out.trans (BA2.mono B1.out.size)
    have hlt := World.block_lt_of_cell? _ _ y0
    have z0 := (BA2.cell (p := ⟨w.heap.size, 0, none⟩) hlt).trans y0
    have z1 := (BA2.cell (p := ⟨w.heap.size, 1, none⟩) hlt).trans y1
    have z2 := (BA2.cell (p := ⟨w.heap.size, 2, none⟩) hlt).trans y2
    have z3 := (BA2.cell (p := ⟨w.heap.size, 3, none⟩) hlt).trans y3
    have z4 := (BA2.cell (p := ⟨w.heap.size, 4, none⟩) hlt).trans y4
    have z5 := (BA2.cell (p := ⟨w.heap.size, 5, none⟩) hlt).trans y5
    go_wp2_with fail
    refine (wexpr_any 8 d e a c w w1.heap.size w1.heap.size HG.out B1.out.size HE.out hok [] _ HB2.out HBN.out BA2.size (by have := HLn.out; simp only [List.length_nil]; omega)).mono ?_
    rintro ee w2 ⟨rfl, k1, k2, k3⟩
    rw [List.nil_append] at k1
    have HB3 : Hid (Below w.heap.size w w2) := HB2.out.trans (k2.mono B1.out.size)
    have hB3 := k1
    clear HBN k1 k2 k3 y0 y1 y2 y3 y4 y5 z0 z1 z2 z3 z4 z5 BA2 HB2
    go_wp2_with fail
    refine (String_any hB3 (by have := HLn.out; intro e; rw [e] at this; simp at this)).mono ?_
    rintro ee w3 ⟨rfl, b3⟩
    obtain ⟨S, hS⟩ : ∃ S, (⟨(textE 8 e).toArray⟩ : ByteArray) = S := ⟨_, rfl⟩
    rw [hS]
    have HSS : Hid _ := hS
    clear hS
    go_wp2
    go_ret2
    exact ⟨by first | (rw [← HSS.out]; rfl) | (rw [hok, ← HSS.out]; rfl), HB3.out.trans (b3.mono B1.out.size)⟩
theorem pExpr_any (d : Nat) (e : E) (a : Option Addr) (c : Nat) (w : World) (hG : Gp w) (hE : EIs w d e a c) :
    Calls Tryz.prog 27 #[e.val a c] w fun r w' => r = .returned (toldV (exprB 8 e) (textE 8 e)) ∧ Below w.heap.size w w' := by
  have BA := (Below.refl w.heap.size w).alloc (Nat.le_refl _) (.cells #[.int .i8 e.op, .string e.t.v, .int .i8 e.t.a.k, .int .i64 e.t.a.n, .string e.t.a.s, .slice a e.kids.length c] 75)
  have HG : Hid (Gp _) := hG.below BA
  have HE : Hid (EIs _ d e a c) := hE.below BA
  obtain ⟨s, er, hs⟩ : ∃ s er, toldV (exprB 8 e) (textE 8 e) = .tuple #[.string s, .int .i64 er] := by unfold toldV; split <;> exact ⟨_, _, rfl⟩
  clear hG hE
  unfold E.val
  go_enter Tryz.func27, Tryz.ntmps27
  go_wp2_with fail
  refine (oneE_any d e a c _ HG.out HE.out).mono ?_
  rintro ee w1 ⟨rfl, b1⟩
  rw [hs]
  have B1 := BA.trans (b1.mono BA.size)
  clear b1 BA
  have HS : Hid _ := hs
  clear hs
  go_wp2
  go_ret2
  exact ⟨by rw [HS.out]; rfl, B1⟩
set_option maxHeartbeats 1600000 in
theorem oneA_any (pr : ByteArray) (v : Value) (ts : List T) (w : World) (hp : PW w) (hpr : pr.size ≤ maxLen) (hl : Lt w v ts) :
    Calls Tryz.prog 23 #[.agg #[.string pr, v], .func (.func 24) #[] #[], .func (.func 45) #[] #[]] w fun r w' => r = .returned (toldV (atomB pr ts) (atomT pr ts)) ∧ Below w.heap.size w w' := by
  have HL : Hid (Lt w v ts) := hl
  have hwf := hl.wf
  obtain ⟨a, c, rfl, hc1, hc2, hat⟩ := hl.form
  have BA := (Below.refl w.heap.size w).alloc (Nat.le_refl _) (.cells #[.string pr, .slice a ts.length c] 29)
  have HP : Hid _ := hp
  have HL2 : Hid (Lt _ _ ts) := hl.below BA
  clear hat hl hp
  go_enter Tryz.func23, Tryz.ntmps23
  go_wp2_with fail
  refine (pcheckAtom_any pr _ ts _ hpr HL2.out).mono ?_
  rintro ee w1 ⟨rfl, b1⟩
  have B1 : Hid (Below w.heap.size w w1) := BA.trans (b1.mono BA.size)
  have y0 : w1.cell? ⟨w.heap.size, 0, none⟩ = some (.string pr) := by rw [b1.cell (p := ⟨w.heap.size, 0, none⟩) (by simp)]; go_simp
  have y1 : w1.cell? ⟨w.heap.size, 1, none⟩ = some (.slice a ts.length c) := by rw [b1.cell (p := ⟨w.heap.size, 1, none⟩) (by simp)]; go_simp
  clear b1 BA HL2
  cases hok : atomB pr ts
  · unfold errB
    simp only [Bool.false_eq_true, if_false]
    go_wp2
    go_ret2
    exact ⟨by first | rfl | (rw [hok]; rfl), B1.out⟩
  · unfold errB
    simp only [if_true]
    have BA2 := (Below.refl w1.heap.size w1).alloc (Nat.le_refl _) (.cells #[.pointer none, .slice none 0 0] 87)
    have HBN : Hid (BldA w1.heap.size w1.heap.size [] _) := bldA_new w1
    have HLn : Hid _ := atomT_len hwf hok
    have HOK : Hid (ts.all termB = true) := by unfold atomB at hok; simp only [Bool.and_eq_true] at hok; exact hok.2
    have HB2 : Hid (Below w.heap.size w _) := B1.out.trans (BA2.mono B1.out.size)
    have hlt := World.block_lt_of_cell? _ _ y0
    have z0 := (BA2.cell (p := ⟨w.heap.size, 0, none⟩) hlt).trans y0
    have z1 := (BA2.cell (p := ⟨w.heap.size, 1, none⟩) hlt).trans y1
    go_wp2_with fail
    refine (watom_any pr _ ts w B1.out.size HL.out HP.out HOK.out [] _ HB2.out HBN.out BA2.size (by have := HLn.out; simp only [List.length_nil]; omega)).mono ?_
    rintro ee w2 ⟨rfl, k1, k2, k3⟩
    rw [List.nil_append] at k1
    have HB3 : Hid (Below w.heap.size w w2) := HB2.out.trans (k2.mono B1.out.size)
    have hB3 := k1
    clear HBN k1 k2 k3 y0 y1 z0 z1 BA2 HB2
    go_wp2_with fail
    refine (String_any hB3 (by have := HLn.out; intro e; rw [e] at this; simp at this)).mono ?_
    rintro ee w3 ⟨rfl, b3⟩
    obtain ⟨S, hS⟩ : ∃ S, (⟨(atomT pr ts).toArray⟩ : ByteArray) = S := ⟨_, rfl⟩
    rw [hS]
    have HSS : Hid _ := hS
    clear hS
    go_wp2
    go_ret2
    exact ⟨by first | (rw [← HSS.out]; rfl) | (rw [hok, ← HSS.out]; rfl), HB3.out.trans (b3.mono B1.out.size)⟩
theorem pAtom_any (pr : ByteArray) (v : Value) (ts : List T) (w : World) (hp : PW w) (hpr : pr.size ≤ maxLen) (hl : Lt w v ts) :
    Calls Tryz.prog 28 #[.agg #[.string pr, v]] w fun r w' => r = .returned (toldV (atomB pr ts) (atomT pr ts)) ∧ Below w.heap.size w w' := by
  have HL : Hid (Lt w v ts) := hl
  obtain ⟨a, c, rfl, hc1, hc2, hat⟩ := hl.form
  have BA := (Below.refl w.heap.size w).alloc (Nat.le_refl _) (.cells #[.string pr, .slice a ts.length c] 29)
  have HP : Hid (PW _) := tab_below hp BA
  obtain ⟨s, er, hs⟩ : ∃ s er, toldV (atomB pr ts) (atomT pr ts) = .tuple #[.string s, .int .i64 er] := by unfold toldV; split <;> exact ⟨_, _, rfl⟩
  clear hat hl hp
  go_enter Tryz.func28, Tryz.ntmps28
  go_wp2_with fail
  refine (oneA_any pr _ ts _ HP.out hpr (HL.out.below BA)).mono ?_
  rintro ee w1 ⟨rfl, b1⟩
  rw [hs]
  have B1 := BA.trans (b1.mono BA.size)
  clear b1 BA
  have HS : Hid _ := hs
  clear hs
  go_wp2
  go_ret2
  exact ⟨by rw [HS.out]; rfl, B1⟩
def livE : E := .mk 3 T0 [.mk 0 ⟨⟨#[88]⟩, V0⟩ [], .mk 1 T0 [.mk 0 ⟨noS, ⟨1, 5, noS⟩⟩ []]]
def livA : List T := [⟨blankS, V0⟩, ⟨noS, ⟨2, 0, ⟨#[97]⟩⟩⟩]
theorem liv_five : Lib.itoa 5 = [53] := by
  unfold Lib.itoa
  rw [if_neg (by decide), Lib.decDigits_one (by decide)]
  rfl
theorem liv_exprB : exprB 8 livE = true := by decide +kernel
theorem liv_textE : textE 8 livE = [88, 32, 45, 32, 45, 40, 53, 41] := by decide +kernel
theorem liv_atomB : atomB ⟨#[112]⟩ livA = true := by decide +kernel
theorem liv_atomT : atomT ⟨#[112]⟩ livA = [112, 40, 95, 44, 32, 97, 41] := by decide +kernel
theorem liv_eis {W : World} {g1 g2 : Nat} (h1 : XAt W g1 0 0 ⟨noS, ⟨1, 5, noS⟩⟩ (.slice none 0 0)) (h2 : XAt W g2 0 0 ⟨⟨#[88]⟩, V0⟩ (.slice none 0 0)) (h3 : XAt W g2 6 1 T0 (.slice (some ⟨g1, 0, none⟩) 1 1)) : EIs W 3 livE (some ⟨g2, 0, none⟩) 2 := by
  have l1 := World.block_lt_of_cell? _ _ h1.c0
  have l2 := World.block_lt_of_cell? _ _ h2.c0
  refine ⟨by decide, T0.ok, by decide, by decide, fun _ => ⟨g2, 0, rfl, l2, fun i hi => ?_⟩⟩
  match i, hi with
  | 0, _ => exact ⟨none, 0, h2, ⟨by decide, ⟨by decide, V0.ok⟩, by decide, by decide, fun h => absurd h (by decide)⟩⟩
  | 1, _ =>
    refine ⟨some ⟨g1, 0, none⟩, 1, h3, ⟨by decide, T0.ok, by decide, by decide, fun _ => ⟨g1, 0, rfl, l1, fun i hi => ?_⟩⟩⟩
    match i, hi with
    | 0, _ => exact ⟨none, 0, h1, ⟨by decide, ⟨by decide, ⟨by decide, by decide, by decide⟩⟩, by decide, by decide, fun h => absurd h (by decide)⟩⟩
theorem below4 (w : World) (a b c d : Obj) : Below w.heap.size w ((((w.alloc a).alloc b).alloc c).alloc d) :=
  ((((Below.refl _ _).alloc (Nat.le_refl _) _).alloc (by simp) _).alloc (by simp; omega) _).alloc (by simp; omega) _
theorem liv_at (w : World) : EIs ((((w.alloc (.cells #[.int .i8 0, .string ⟨#[88]⟩, .int .i8 0, .int .i64 0, .string ⟨#[]⟩, .slice none 0 0] 75)).alloc (.cells #[.int .i8 0, .string ⟨#[]⟩, .int .i8 1, .int .i64 5, .string ⟨#[]⟩, .slice none 0 0] 75)).alloc (.cells #[.int .i8 0, .string ⟨#[]⟩, .int .i8 1, .int .i64 5, .string ⟨#[]⟩, .slice none 0 0] 75)).alloc (.cells #[.int .i8 0, .string ⟨#[88]⟩, .int .i8 0, .int .i64 0, .string ⟨#[]⟩, .slice none 0 0, .int .i8 1, .string ⟨#[]⟩, .int .i8 0, .int .i64 0, .string ⟨#[]⟩, .slice (some ⟨w.heap.size + 1 + 1, 0, none⟩) 1 1] 75)) 3 livE (some ⟨w.heap.size + 1 + 1 + 1, 0, none⟩) 2 := by
  refine liv_eis (g1 := w.heap.size + 1 + 1) (g2 := w.heap.size + 1 + 1 + 1) ⟨?_, ?_, ?_, ?_, ?_, ?_⟩ ⟨?_, ?_, ?_, ?_, ?_, ?_⟩ ⟨?_, ?_, ?_, ?_, ?_, ?_⟩ <;> go_simp <;> rfl
theorem liv_told : toldV (exprB 8 livE) (textE 8 livE) = .tuple #[.string ⟨#[88, 32, 45, 32, 45, 40, 53, 41]⟩, .int .i64 0] := by rw [liv_exprB, liv_textE]; rfl
theorem liv_toldA : toldV (atomB ⟨#[112]⟩ livA) (atomT ⟨#[112]⟩ livA) = .tuple #[.string ⟨#[112, 40, 95, 44, 32, 97, 41]⟩, .int .i64 0] := by rw [liv_atomB, liv_atomT]; rfl
theorem liv_lt (w : World) : Lt (w.alloc (.cells #[.string ⟨#[95]⟩, .int .i8 0, .int .i64 0, .string ⟨#[]⟩, .string ⟨#[]⟩, .int .i8 2, .int .i64 0, .string ⟨#[97]⟩] 71)) (.slice (some ⟨w.heap.size, 0, none⟩) 2 2) livA := by
  refine ⟨⟨by decide, some ⟨w.heap.size, 0, none⟩, 2, rfl, by decide, by decide, fun _ => ⟨w.heap.size, 0, rfl, by simp, fun i hi => ?_⟩⟩, ?_⟩
  · match i, hi with
    | 0, _ => go_simp; rfl
    | 1, _ => go_simp; rfl
    | 2, _ => go_simp; rfl
    | 3, _ => go_simp; rfl
    | 4, _ => go_simp; rfl
    | 5, _ => go_simp; rfl
    | 6, _ => go_simp; rfl
    | 7, _ => go_simp; rfl
  · intro t ht
    simp only [livA, List.mem_cons, List.not_mem_nil, or_false] at ht
    rcases ht with rfl | rfl
    · exact ⟨by decide, V0.ok⟩
    · exact ⟨by decide, ⟨by decide, by decide, by decide⟩⟩
set_option maxHeartbeats 3200000 in
theorem lives_any (w : World) (hG : Gp w) : Calls Tryz.prog 12 #[] w fun e w' => e = .returned (.bool true) ∧ Below w.heap.size w w' := by
  have HG : Hid (∀ w', Below w.heap.size w w' → Gp w') := fun w' h => hG.below h
  clear hG
  go_enter Tryz.func12, Tryz.ntmps12
  go_wp2_with fail
  refine Calls.mono (pExpr_any 3 livE (some ⟨w.heap.size + 1 + 1 + 1, 0, none⟩) 2 _ (HG.out _ (below4 w _ _ _ _)) (liv_at w)) ?_
  rintro ee w1 ⟨rfl, b1⟩
  rw [liv_told]
  have B1 : Hid (Below w.heap.size w w1) := (below4 w _ _ _ _).trans (b1.mono (below4 w _ _ _ _).size)
  clear b1
  go_wp2_with fail
  have BA := (Below.refl w1.heap.size w1).alloc (Nat.le_refl _) (.cells #[.string ⟨#[95]⟩, .int .i8 0, .int .i64 0, .string ⟨#[]⟩, .string ⟨#[]⟩, .int .i8 2, .int .i64 0, .string ⟨#[97]⟩] 71)
  refine Calls.mono (pAtom_any ⟨#[112]⟩ (.slice (some ⟨w1.heap.size, 0, none⟩) 2 2) livA _ (HG.out _ (B1.out.trans (BA.mono B1.out.size))).pw (by decide) (liv_lt w1)) ?_
  rintro ee w2 ⟨rfl, b2⟩
  rw [liv_toldA]
  have B2 : Hid (Below w.heap.size w w2) := (B1.out.trans (BA.mono B1.out.size)).trans (b2.mono (Nat.le_trans B1.out.size BA.size))
  clear b2 BA B1
  go_wp2
  go_ret
  exact ⟨rfl, B2.out⟩
end Go.Proofs.YtikjphfeeljhbaaGreatDoor
