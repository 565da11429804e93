import Derived.Test.YtcbamkanaafagaaDoorPrintR
import Derived.Test.YtcbamkanaafagaaDoorTreeLeft
import Derived.Test.YtcbamkanaafagaaDoorTreeRef
namespace Go.Proofs.YtcbamkanaafagaaDoor
open Go.RowKit Go.Maps
set_option linter.unusedVariables false
set_option linter.unusedSimpArgs false
attribute [local go_sem ↓] Go.wp_at_zero Go.wp_at_succ

theorem xat_new (w : World) (e : E) (a : Option Addr) (c : Nat) : XAt (w.alloc (.cells #[.int .i8 e.op, .string e.t.v, .int .i8 e.t.a.k, .int .i64 e.t.a.n, .string e.t.a.s, .slice a e.kids.length c] 31)) w.heap.size 0 e.op e.t (.slice a e.kids.length c) := ⟨by go_simp, by go_simp, by go_simp, by go_simp, by go_simp, by go_simp⟩
set_option maxHeartbeats 3200000 in
theorem printExprs_walk (d : Nat) (e : E) (a : Option Addr) (c : Nat) (w : World) (hG : Gp w) (hE : EIs w d e a c) :
    Calls Tryd.prog 3 #[e.val a c] w fun r w' => r = .returned (.bool true) ∧ Below w.heap.size w w' := by
  have BA := (Below.refl w.heap.size w).alloc (Nat.le_refl _) (.cells #[.int .i8 e.op, .string e.t.v, .int .i8 e.t.a.k, .int .i64 e.t.a.n, .string e.t.a.s, .slice a e.kids.length c] 31)
  have HX : Hid (XAt (w.alloc (.cells #[.int .i8 e.op, .string e.t.v, .int .i8 e.t.a.k, .int .i64 e.t.a.n, .string e.t.a.s, .slice a e.kids.length c] 31)) w.heap.size 0 e.op e.t (.slice a e.kids.length c)) := xat_new w e a c
  have HG : Hid (∀ u, Below w.heap.size w u → Gp u) := fun u hu => hG.below hu
  have HE : Hid (∀ u, Below w.heap.size w u → EIs u d e a c) := fun u hu => hE.below hu
  obtain ⟨s, er, hs⟩ : ∃ s er, toldV (exprB 8 e) (textE 8 e) = .tuple #[.string s, .int .i64 er] := by unfold toldV; split <;> exact ⟨_, _, rfl⟩
  clear hG hE
  unfold E.val
  go_enter Tryd.func3, Tryd.ntmps3
  go_wp2_with fail
  refine (beyondExpr_any d e a c _ (HE.out _ BA)).mono ?_
  rintro r w1 ⟨bb, rfl, b1, hsm⟩
  have B1 : Hid (Below w.heap.size w w1) := BA.trans (b1.mono BA.size)
  have HX1 : Hid (XAt w1 w.heap.size 0 e.op e.t (.slice a e.kids.length c)) := HX.out.below b1 (by simp)
  have HSM : Hid _ := hsm
  clear hsm b1 BA HX
  cases bb
  · obtain ⟨x0, x1, x2, x3, x4, x5⟩ := HX1.out
    simp only [Nat.zero_add] at x1 x2 x3 x4 x5
    go_wp2_with fail
    refine (twinOK d e a c w1 (HG.out _ B1.out).pw (HSM.out (by first | rfl | assumption | trivial)) (HE.out _ B1.out)).mono ?_
    rintro r w2 ⟨a4, rfl, b2, htw⟩
    have hlt1 : w.heap.size < w1.heap.size := World.block_lt_of_cell? _ _ x0
    have B2 : Hid (Below w.heap.size w w2) := B1.out.trans (b2.mono B1.out.size)
    have HX2 : Hid (XAt w2 w.heap.size 0 e.op e.t (.slice a e.kids.length c)) := HX1.out.below b2 hlt1
    have HTW : Hid (TwIs w2 w1.heap.size d e a4 (e.kids.length + 1)) := htw
    clear x0 x1 x2 x3 x4 x5 b2 htw HX1
    obtain ⟨c4, hc4⟩ : ∃ c4, e.kids.length + 1 = c4 := ⟨_, rfl⟩
    rw [hc4] at HTW ⊢
    clear hc4
    unfold E.val
    have BA3 := (Below.refl w2.heap.size w2).alloc (Nat.le_refl _) (.cells #[.int .i8 e.op, .string e.t.v, .int .i8 e.t.a.k, .int .i64 e.t.a.n, .string e.t.a.s, .slice a4 e.kids.length c4] 31)
    have HB3 : Hid (Below w.heap.size w _) := B2.out.trans (BA3.mono B2.out.size)
    have HY : Hid (XAt (w2.alloc (.cells #[.int .i8 e.op, .string e.t.v, .int .i8 e.t.a.k, .int .i64 e.t.a.n, .string e.t.a.s, .slice a4 e.kids.length c4] 31)) w2.heap.size 0 e.op e.t (.slice a4 e.kids.length c4)) := xat_new w2 e a4 c4
    have HT3 : Hid (TwIs _ w1.heap.size d e a4 c4) := TwIs.below BA3 HTW.out
    have hlt2 : w.heap.size < w2.heap.size := World.block_lt_of_cell? _ _ HX2.out.c0
    obtain ⟨x0, x1, x2, x3, x4, x5⟩ := HX2.out.below BA3 hlt2
    simp only [Nat.zero_add] at x1 x2 x3 x4 x5
    clear HX2 BA3
    go_wp2_with fail
    refine (r6Expr_any d e a c _ (HE.out _ HB3.out) (fun u hu => rcheckExpr_any d e a c u hu)).mono ?_
    rintro r w4 ⟨rfl, b4⟩
    rw [hs]
    have B4 : Hid (Below w.heap.size w w4) := HB3.out.trans (b4.mono HB3.out.size)
    have HY4 : Hid (XAt w4 w2.heap.size 0 e.op e.t (.slice a4 e.kids.length c4)) := HY.out.below b4 (by simp)
    have HX4 : Hid (XAt w4 w.heap.size 0 e.op e.t (.slice a e.kids.length c)) := XAt.below ⟨x0, x1, x2, x3, x4, x5⟩ b4 (by simp; omega)
    have HT4 : Hid (TwIs w4 w1.heap.size d e a4 c4) := TwIs.below b4 HT3.out
    have hlt4 : w2.heap.size < w4.heap.size := World.block_lt_of_cell? _ _ HY4.out.c0
    clear b4 HY HT3 HB3 x0 x1 x2 x3 x4 x5 HTW
    obtain ⟨y0, y1, y2, y3, y4, y5⟩ := HY4.out
    simp only [Nat.zero_add] at y1 y2 y3 y4 y5
    go_wp2_with fail
    refine (pExpr_any d e a4 c4 w4 (HG.out _ B4.out) (HT4.out.eis (HE.out _ B4.out))).mono ?_
    rintro r w5 ⟨rfl, b5⟩
    rw [hs]
    have B5 : Hid (Below w.heap.size w w5) := B4.out.trans (b5.mono B4.out.size)
    obtain ⟨z0, z1, z2, z3, z4, z5⟩ := HY4.out.below b5 hlt4
    obtain ⟨v0, v1, v2, v3, v4, v5⟩ := HX4.out.below b5 (by omega)
    simp only [Nat.zero_add] at z1 z2 z3 z4 z5 v1 v2 v3 v4 v5
    have HT5 : Hid (TwIs w5 w1.heap.size d e a4 c4) := TwIs.below b5 HT4.out
    have HLf : Hid _ := leftOK d e a4 a c4 c w1.heap.size w5 (HG.out _ B5.out).pw HT5.out (HE.out _ B5.out)
    unfold E.val at HLf
    clear b5 y0 y1 y2 y3 y4 y5 HX4 HT4 HY4 B4 HT5 hs
    go_wp2_with (first
      | (go_at_call 8; refine Calls.mono HLf.out ?_; rintro r w6 ⟨rfl, b6⟩; have B6 : Below w.heap.size w w6 := B5.out.trans (b6.mono B5.out.size))
      | (go_at_call 9; refine (lives_any _ (HG.out _ B6)).mono ?_; rintro r w7 ⟨rfl, b7⟩))
    go_ret
    exact ⟨rfl, B6.trans (b7.mono B6.size)⟩
  · go_wp2
    go_ret
    exact ⟨rfl, B1.out⟩
end Go.Proofs.YtcbamkanaafagaaDoor
