import Derived.Test.YtaeneiekjaoakaaGreatDoorPrintQ
namespace Go.Proofs.YtaeneiekjaoakaaGreatDoor
open Go.RowKit Go.Maps
set_option linter.unusedVariables false
set_option linter.unusedSimpArgs false
attribute [local go_sem ↓] Go.wp_at_zero Go.wp_at_succ

theorem EIs.len {w : World} {d : Nat} {e : E} {a : Option Addr} {c : Nat} (h : EIs w d e a c) : e.kids.length ≤ 281474976710656 := by
  cases d with
  | zero => exact h.elim
  | succ d => exact h.1.2
theorem litT_len {w : World} {d : Nat} {x : Lit4} {p : LP} (h : LIs w d x p) (hok : litB x = true) : 1 ≤ (litT x).length ∧ (litT x).length ≤ 1000000000 := by
  rcases litB_form hok with ⟨e, ha⟩ | ⟨e, ha⟩ | ⟨e, r1, r6, el, er⟩
  · have hT : litT x = atomT x.pr x.ts := by unfold litT; rw [if_pos e]
    have := atomT_len h.ts.wf ha
    rw [hT]; omega
  · have hT : litT x = [110, 111, 116, 32] ++ atomT x.pr x.ts := by unfold litT; rw [if_neg (by omega), if_pos e]
    have := atomT_len h.ts.wf ha
    rw [hT, List.length_append]
    simp only [List.length_cons, List.length_nil]
    omega
  · have hT : litT x = textE 8 x.l ++ (([32] ++ relT x.rel.toNat ++ [32]) ++ textE 8 x.r) := by unfold litT; rw [if_neg (by omega), if_neg (by omega)]
    have h1 := textE_len 8 d x.l p.la p.lc w h.l el
    have h2 := textE_len 8 d x.r p.ra p.rc w h.r er
    have h3 := relT_len x.rel.toNat
    rw [hT]
    simp only [List.length_append, List.length_cons, List.length_nil]
    omega
theorem checkLiteral_any (d : Nat) (x : Lit4) (p : LP) (w : World) (hT : KT w) (h : LIs w d x p) : Calls Tryz.prog 28 #[x.val p] w fun r w' => r = .returned (.int .i64 (errB (litB x))) ∧ Below w.heap.size w w' := by
  have BA := (Below.refl w.heap.size w).alloc (Nat.le_refl _) (.cells #[.int .i8 x.k, .string x.pr, .slice p.a x.ts.length p.c, .int .i8 x.rel, .int .i8 x.l.op, .string x.l.t.v, .int .i8 x.l.t.a.k, .int .i64 x.l.t.a.n, .string x.l.t.a.s, .slice p.la x.l.kids.length p.lc, .int .i8 x.r.op, .string x.r.t.v, .int .i8 x.r.t.a.k, .int .i64 x.r.t.a.n, .string x.r.t.a.s, .slice p.ra x.r.kids.length p.rc] 38)
  have HL : Hid _ := isLiteral_any d x p _ (hT.below BA) (h.below BA) h.l.len h.r.len
  clear hT h
  unfold Lit4.val at *
  go_enter Tryz.func28, Tryz.ntmps28
  go_wp2_with fail
  refine Calls.mono HL.out ?_
  rintro ee w1 ⟨rfl, b1⟩
  go_wp2_with fail
  refine (verdict_any _ _).mono ?_
  rintro ee w2 ⟨rfl, rfl⟩
  go_wp2
  go_ret
  exact ⟨rfl, BA.trans (b1.mono BA.size)⟩
theorem rcheckLiteral_any (d : Nat) (x : Lit4) (p : LP) (w : World) (h : LIs w d x p) : Calls Tryz.prog 25 #[x.val p] w fun r w' => r = .returned (.int .i64 (errB (litB x))) ∧ Below w.heap.size w w' := by
  have BA := (Below.refl w.heap.size w).alloc (Nat.le_refl _) (.cells #[.int .i8 x.k, .string x.pr, .slice p.a x.ts.length p.c, .int .i8 x.rel, .int .i8 x.l.op, .string x.l.t.v, .int .i8 x.l.t.a.k, .int .i64 x.l.t.a.n, .string x.l.t.a.s, .slice p.la x.l.kids.length p.lc, .int .i8 x.r.op, .string x.r.t.v, .int .i8 x.r.t.a.k, .int .i64 x.r.t.a.n, .string x.r.t.a.s, .slice p.ra x.r.kids.length p.rc] 38)
  have HL : Hid _ := rliteral_any d x p _ (h.below BA) h.l.len h.r.len
  clear h
  unfold Lit4.val at *
  go_enter Tryz.func25, Tryz.ntmps25
  go_wp2_with fail
  refine Calls.mono HL.out ?_
  rintro ee w1 ⟨rfl, b1⟩
  go_wp2_with fail
  refine (said_any _ _).mono ?_
  rintro ee w2 ⟨rfl, rfl⟩
  go_wp2
  go_ret
  exact ⟨rfl, BA.trans (b1.mono BA.size)⟩
set_option maxHeartbeats 3200000 in
theorem oneL_any (d : Nat) (x : Lit4) (p : LP) (w : World) (hG : Gq w) (h : LIs w d x p) :
    Calls Tryz.prog 27 #[x.val p, .func (.func 28) #[] #[], .func (.func 29) #[] #[]] w fun r w' => r = .returned (toldV (litB x) (litT x)) ∧ Below w.heap.size w w' := by
  have BA := (Below.refl w.heap.size w).alloc (Nat.le_refl _) (.cells #[.int .i8 x.k, .string x.pr, .slice p.a x.ts.length p.c, .int .i8 x.rel, .int .i8 x.l.op, .string x.l.t.v, .int .i8 x.l.t.a.k, .int .i64 x.l.t.a.n, .string x.l.t.a.s, .slice p.la x.l.kids.length p.lc, .int .i8 x.r.op, .string x.r.t.v, .int .i8 x.r.t.a.k, .int .i64 x.r.t.a.n, .string x.r.t.a.s, .slice p.ra x.r.kids.length p.rc] 38)
  have HG : Hid _ := hG
  have HX : Hid (LIs w d x p) := h
  have HCk : Hid _ := checkLiteral_any d x p _ (hG.gp.kt.below BA) (h.below BA)
  have HWr : Hid (∀ (B b : Nat) (hW : w.heap.size ≤ B) (hok : litB x = true) (l : List UInt8) (u : World), Below w.heap.size w u → BldA B b l u → B ≤ u.heap.size → l.length + (litT x).length ≤ 1099511627776 → Calls Tryz.prog 29 #[self b, x.val p] u (Wrote B b l (litT x) u)) := fun B b hW hok l u h1 h2 h3 h4 => wliteral_any d x p w hW h hG hok l u h1 h2 h3 h4
  clear hG h
  unfold Lit4.val at *
  go_enter Tryz.func27, Tryz.ntmps27
  go_wp2_with fail
  refine Calls.mono HCk.out ?_
  rintro ee w1 ⟨rfl, b1⟩
  have B1 : Hid (Below w.heap.size w w1) := BA.trans (b1.mono BA.size)
  have y0 : w1.cell? ⟨w.heap.size, 0, none⟩ = some (.int .i8 x.k) := by rw [b1.cell (p := ⟨w.heap.size, 0, none⟩) (by simp)]; go_simp
  have y1 : w1.cell? ⟨w.heap.size, 1, none⟩ = some (.string x.pr) := by rw [b1.cell (p := ⟨w.heap.size, 1, none⟩) (by simp)]; go_simp
  have y2 : w1.cell? ⟨w.heap.size, 2, none⟩ = some (.slice p.a x.ts.length p.c) := by rw [b1.cell (p := ⟨w.heap.size, 2, none⟩) (by simp)]; go_simp
  have y3 : w1.cell? ⟨w.heap.size, 3, none⟩ = some (.int .i8 x.rel) := by rw [b1.cell (p := ⟨w.heap.size, 3, none⟩) (by simp)]; go_simp
  have y4 : w1.cell? ⟨w.heap.size, 4, none⟩ = some (.int .i8 x.l.op) := by rw [b1.cell (p := ⟨w.heap.size, 4, none⟩) (by simp)]; go_simp
  have y5 : w1.cell? ⟨w.heap.size, 5, none⟩ = some (.string x.l.t.v) := by rw [b1.cell (p := ⟨w.heap.size, 5, none⟩) (by simp)]; go_simp
  have y6 : w1.cell? ⟨w.heap.size, 6, none⟩ = some (.int .i8 x.l.t.a.k) := by rw [b1.cell (p := ⟨w.heap.size, 6, none⟩) (by simp)]; go_simp
  have y7 : w1.cell? ⟨w.heap.size, 7, none⟩ = some (.int .i64 x.l.t.a.n) := by rw [b1.cell (p := ⟨w.heap.size, 7, none⟩) (by simp)]; go_simp
  have y8 : w1.cell? ⟨w.heap.size, 8, none⟩ = some (.string x.l.t.a.s) := by rw [b1.cell (p := ⟨w.heap.size, 8, none⟩) (by simp)]; go_simp
  have y9 : w1.cell? ⟨w.heap.size, 9, none⟩ = some (.slice p.la x.l.kids.length p.lc) := by rw [b1.cell (p := ⟨w.heap.size, 9, none⟩) (by simp)]; go_simp
  have y10 : w1.cell? ⟨w.heap.size, 10, none⟩ = some (.int .i8 x.r.op) := by rw [b1.cell (p := ⟨w.heap.size, 10, none⟩) (by simp)]; go_simp
  have y11 : w1.cell? ⟨w.heap.size, 11, none⟩ = some (.string x.r.t.v) := by rw [b1.cell (p := ⟨w.heap.size, 11, none⟩) (by simp)]; go_simp
  have y12 : w1.cell? ⟨w.heap.size, 12, none⟩ = some (.int .i8 x.r.t.a.k) := by rw [b1.cell (p := ⟨w.heap.size, 12, none⟩) (by simp)]; go_simp
  have y13 : w1.cell? ⟨w.heap.size, 13, none⟩ = some (.int .i64 x.r.t.a.n) := by rw [b1.cell (p := ⟨w.heap.size, 13, none⟩) (by simp)]; go_simp
  have y14 : w1.cell? ⟨w.heap.size, 14, none⟩ = some (.string x.r.t.a.s) := by rw [b1.cell (p := ⟨w.heap.size, 14, none⟩) (by simp)]; go_simp
  have y15 : w1.cell? ⟨w.heap.size, 15, none⟩ = some (.slice p.ra x.r.kids.length p.rc) := by rw [b1.cell (p := ⟨w.heap.size, 15, none⟩) (by simp)]; go_simp
  clear b1 BA HCk
  cases hok : litB x
  · unfold errB
    simp only [Bool.false_eq_true, if_false]
    go_wp2
    go_ret2
    exact ⟨by first | rfl | (rw [hok]; rfl), B1.out⟩
  · unfold errB
    simp only [if_true]
    have BA2 := (Below.refl w1.heap.size w1).alloc (Nat.le_refl _) (.cells #[.pointer none, .slice none 0 0] 84)
    have HBN : Hid (BldA w1.heap.size w1.heap.size [] _) := bldA_new w1
    have HLn : Hid _ := litT_len HX.out hok
    have HB2 : Hid (Below w.heap.size w _) := B1.out.trans (BA2.mono B1.out.size)
    have hlt := World.block_lt_of_cell? _ _ y0
    have z0 := (BA2.cell (p := ⟨w.heap.size, 0, none⟩) hlt).trans y0
    have z1 := (BA2.cell (p := ⟨w.heap.size, 1, none⟩) hlt).trans y1
    have z2 := (BA2.cell (p := ⟨w.heap.size, 2, none⟩) hlt).trans y2
    have z3 := (BA2.cell (p := ⟨w.heap.size, 3, none⟩) hlt).trans y3
    have z4 := (BA2.cell (p := ⟨w.heap.size, 4, none⟩) hlt).trans y4
    have z5 := (BA2.cell (p := ⟨w.heap.size, 5, none⟩) hlt).trans y5
    have z6 := (BA2.cell (p := ⟨w.heap.size, 6, none⟩) hlt).trans y6
    have z7 := (BA2.cell (p := ⟨w.heap.size, 7, none⟩) hlt).trans y7
    have z8 := (BA2.cell (p := ⟨w.heap.size, 8, none⟩) hlt).trans y8
    have z9 := (BA2.cell (p := ⟨w.heap.size, 9, none⟩) hlt).trans y9
    have z10 := (BA2.cell (p := ⟨w.heap.size, 10, none⟩) hlt).trans y10
    have z11 := (BA2.cell (p := ⟨w.heap.size, 11, none⟩) hlt).trans y11
    have z12 := (BA2.cell (p := ⟨w.heap.size, 12, none⟩) hlt).trans y12
    have z13 := (BA2.cell (p := ⟨w.heap.size, 13, none⟩) hlt).trans y13
    have z14 := (BA2.cell (p := ⟨w.heap.size, 14, none⟩) hlt).trans y14
    have z15 := (BA2.cell (p := ⟨w.heap.size, 15, none⟩) hlt).trans y15
    go_wp2_with fail
    refine (HWr.out w1.heap.size w1.heap.size B1.out.size hok [] _ HB2.out HBN.out BA2.size (by have := HLn.out; simp only [List.length_nil]; omega)).mono ?_
    rintro ee w2 ⟨rfl, k1, k2, k3⟩
    rw [List.nil_append] at k1
    have HB3 : Hid (Below w.heap.size w w2) := HB2.out.trans (k2.mono B1.out.size)
    have hB3 := k1
    clear HBN k1 k2 k3 y0 y1 y2 y3 y4 y5 y6 y7 y8 y9 y10 y11 y12 y13 y14 y15 z0 z1 z2 z3 z4 z5 z6 z7 z8 z9 z10 z11 z12 z13 z14 z15 BA2 HB2
    go_wp2_with fail
    refine (String_any hB3 (by have := HLn.out; intro e; rw [e] at this; simp at this)).mono ?_
    rintro ee w3 ⟨rfl, b3⟩
    obtain ⟨S, hS⟩ : ∃ S, (⟨(litT x).toArray⟩ : ByteArray) = S := ⟨_, rfl⟩
    rw [hS]
    have HSS : Hid _ := hS
    clear hS
    go_wp2
    go_ret2
    exact ⟨by first | (rw [← HSS.out]; rfl) | (rw [hok, ← HSS.out]; rfl), HB3.out.trans (b3.mono B1.out.size)⟩
theorem pLiteral_any (d : Nat) (x : Lit4) (p : LP) (w : World) (hG : Gq w) (h : LIs w d x p) :
    Calls Tryz.prog 12 #[x.val p] w fun r w' => r = .returned (toldV (litB x) (litT x)) ∧ Below w.heap.size w w' := by
  have BA := (Below.refl w.heap.size w).alloc (Nat.le_refl _) (.cells #[.int .i8 x.k, .string x.pr, .slice p.a x.ts.length p.c, .int .i8 x.rel, .int .i8 x.l.op, .string x.l.t.v, .int .i8 x.l.t.a.k, .int .i64 x.l.t.a.n, .string x.l.t.a.s, .slice p.la x.l.kids.length p.lc, .int .i8 x.r.op, .string x.r.t.v, .int .i8 x.r.t.a.k, .int .i64 x.r.t.a.n, .string x.r.t.a.s, .slice p.ra x.r.kids.length p.rc] 38)
  have HO : Hid _ := oneL_any d x p _ (hG.below BA) (h.below BA)
  obtain ⟨s, er, hs⟩ : ∃ s er, toldV (litB x) (litT x) = .tuple #[.string s, .int .i64 er] := by unfold toldV; split <;> exact ⟨_, _, rfl⟩
  clear hG h
  unfold Lit4.val at *
  go_enter Tryz.func12, Tryz.ntmps12
  go_wp2_with fail
  refine Calls.mono HO.out ?_
  rintro ee w1 ⟨rfl, b1⟩
  rw [hs]
  have B1 := BA.trans (b1.mono BA.size)
  clear b1 BA
  have HS : Hid _ := hs
  clear hs
  go_wp2
  go_ret2
  exact ⟨by rw [HS.out]; rfl, B1⟩
end Go.Proofs.YtaeneiekjaoakaaGreatDoor
