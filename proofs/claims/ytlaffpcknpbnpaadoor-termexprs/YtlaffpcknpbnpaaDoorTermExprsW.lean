import Derived.Test.YtlaffpcknpbnpaaDoorTreeVars2
import Derived.Test.YtlaffpcknpbnpaaDoorTreeLeft
import Derived.Test.YtlaffpcknpbnpaaDoorTreeRef
import Derived.Deep.RegionHeld3
namespace Go.Proofs.YtlaffpcknpbnpaaDoor
open Go.RowKit Go.Maps
set_option linter.unusedVariables false
set_option linter.unusedSimpArgs false
attribute [local go_sem ↓] Go.wp_at_zero Go.wp_at_succ

theorem xat_new (w : World) (e : E) (a : Option Addr) (c : Nat) : XAt (w.alloc (.cells #[.int .i8 e.op, .string e.t.v, .int .i8 e.t.a.k, .int .i64 e.t.a.n, .string e.t.a.s, .slice a e.kids.length c] 31)) w.heap.size 0 e.op e.t (.slice a e.kids.length c) := ⟨by go_simp, by go_simp, by go_simp, by go_simp, by go_simp, by go_simp⟩
theorem next_of {wc u v : World} (h : Below wc.heap.size wc u) (b : Below u.heap.size u v) : Below wc.heap.size wc v := h.trans (b.mono h.size)
set_option maxHeartbeats 6400000 in
theorem termExprs_walk (d : Nat) (e : E) (a : Option Addr) (c : Nat) (w : World) (hG : PWt w ∧ KT w) (hE : EIs w d e a c) :
    Calls Tryd.prog 3 #[e.val a c] w fun r w' => r = .returned (.bool true) ∧ Below w.heap.size w w' := by
  have BA := (Below.refl w.heap.size w).alloc (Nat.le_refl _) (.cells #[.int .i8 e.op, .string e.t.v, .int .i8 e.t.a.k, .int .i64 e.t.a.n, .string e.t.a.s, .slice a e.kids.length c] 31)
  have HX : Hid (XAt (w.alloc (.cells #[.int .i8 e.op, .string e.t.v, .int .i8 e.t.a.k, .int .i64 e.t.a.n, .string e.t.a.s, .slice a e.kids.length c] 31)) w.heap.size 0 e.op e.t (.slice a e.kids.length c)) := xat_new w e a c
  have HG : Hid (∀ u, Below w.heap.size w u → PWt u ∧ KT u) := fun u hu => ⟨tab_below hG.1 hu, hG.2.below hu⟩
  have HE : Hid (∀ u, Below w.heap.size w u → EIs u d e a c) := fun u hu => hE.below hu
  clear hG hE
  unfold E.val
  go_enter Tryd.func3, Tryd.ntmps3
  go_wp2_with fail
  refine (beyondExprS_any d e a c _ (HE.out _ BA)).mono ?_
  rintro r w1 ⟨bb, rfl, b1, hsm⟩
  have B1 : Hid (Below w.heap.size w w1) := BA.trans (b1.mono BA.size)
  have HX1 : Hid (XAt w1 w.heap.size 0 e.op e.t (.slice a e.kids.length c)) := HX.out.below b1 (by simp)
  have HSM : Hid _ := hsm
  clear hsm b1 BA HX
  cases bb
  · have hsm2 : smallE d e ∧ szD d e ≤ 1048576 := HSM.out (by first | rfl | trivial)
    have HSZ : Hid (szD d e ≤ 1048576) := hsm2.2
    have HSL : Hid (smallE d e) := hsm2.1
    clear hsm2 HSM
    obtain ⟨x0, x1, x2, x3, x4, x5⟩ := HX1.out
    simp only [Nat.zero_add] at x1 x2 x3 x4 x5
    go_wp2_with fail
    refine (twinOK d e a c w1 (HG.out _ B1.out).1 HSL.out (HE.out _ B1.out)).mono ?_
    rintro r w2 ⟨a4, rfl, b2, htw⟩
    have hlt1 : w.heap.size < w1.heap.size := World.block_lt_of_cell? _ _ x0
    have B2 : Hid (Below w.heap.size w w2) := B1.out.trans (b2.mono B1.out.size)
    have HX2 : Hid (XAt w2 w.heap.size 0 e.op e.t (.slice a e.kids.length c)) := HX1.out.below b2 hlt1
    have HTW : Hid (TwIs w2 w1.heap.size d e a4 (e.kids.length + 1)) := htw
    clear x0 x1 x2 x3 x4 x5 b2 htw HX1
    obtain ⟨c4, hc4⟩ : ∃ c4, e.kids.length + 1 = c4 := ⟨_, rfl⟩
    rw [hc4] at HTW ⊢
    clear hc4
    unfold E.val
    have HB3 : Hid (Below w2.heap.size w2 (w2.alloc (.cells #[.int .i8 e.op, .string e.t.v, .int .i8 e.t.a.k, .int .i64 e.t.a.n, .string e.t.a.s, .slice a4 e.kids.length c4] 31))) := (Below.refl w2.heap.size w2).alloc (Nat.le_refl _) _
    have HY : Hid (XAt (w2.alloc (.cells #[.int .i8 e.op, .string e.t.v, .int .i8 e.t.a.k, .int .i64 e.t.a.n, .string e.t.a.s, .slice a4 e.kids.length c4] 31)) w2.heap.size 0 e.op e.t (.slice a4 e.kids.length c4)) := xat_new w2 e a4 c4
    have hlt2 : w.heap.size < w2.heap.size := World.block_lt_of_cell? _ _ HX2.out.c0
    go_upto_region 4 with fail
    generalize w2.alloc (.cells #[.int .i8 e.op, .string e.t.v, .int .i8 e.t.a.k, .int .i64 e.t.a.n, .string e.t.a.s, .slice a4 e.kids.length c4] 31) = W at HB3 HY ⊢
    have HC : Hid (∀ u, Below W.heap.size W u → (Below w2.heap.size w2 u ∧ Below w.heap.size w u) ∧ u.cell? ⟨w.heap.size, 0, none⟩ = some (.int .i8 e.op) ∧ u.cell? ⟨w.heap.size, 1, none⟩ = some (.string e.t.v) ∧ u.cell? ⟨w.heap.size, 2, none⟩ = some (.int .i8 e.t.a.k) ∧ u.cell? ⟨w.heap.size, 3, none⟩ = some (.int .i64 e.t.a.n) ∧ u.cell? ⟨w.heap.size, 4, none⟩ = some (.string e.t.a.s) ∧ u.cell? ⟨w.heap.size, 5, none⟩ = some (.slice a e.kids.length c) ∧ u.cell? ⟨w2.heap.size, 0, none⟩ = some (.int .i8 e.op) ∧ u.cell? ⟨w2.heap.size, 1, none⟩ = some (.string e.t.v) ∧ u.cell? ⟨w2.heap.size, 2, none⟩ = some (.int .i8 e.t.a.k) ∧ u.cell? ⟨w2.heap.size, 3, none⟩ = some (.int .i64 e.t.a.n) ∧ u.cell? ⟨w2.heap.size, 4, none⟩ = some (.string e.t.a.s) ∧ u.cell? ⟨w2.heap.size, 5, none⟩ = some (.slice a4 e.kids.length c4)) := fun u hu => by
      have hu2 := HB3.out.trans (hu.mono HB3.out.size)
      obtain ⟨x0, x1, x2, x3, x4, x5⟩ := HX2.out.below hu2 hlt2
      obtain ⟨y0, y1, y2, y3, y4, y5⟩ := HY.out.below hu (World.block_lt_of_cell? _ _ HY.out.c0)
      simp only [Nat.zero_add] at x1 x2 x3 x4 x5 y1 y2 y3 y4 y5
      exact ⟨⟨hu2, B2.out.trans (hu2.mono B2.out.size)⟩, x0, x1, x2, x3, x4, x5, y0, y1, y2, y3, y4, y5⟩
    have HEu : Hid (∀ u, Below W.heap.size W u → EIs u d e a c) := fun u hu => HE.out _ (HC.out u hu).1.2
    have HEt : Hid (∀ u, Below W.heap.size W u → EIs u d e a4 c4) := fun u hu => (TwIs.below (HC.out u hu).1.1 HTW.out).eis (HE.out _ (HC.out u hu).1.2)
    obtain ⟨n0, hn0⟩ : ∃ n0, errB (exprB 8 e) = n0 := ⟨_, rfl⟩
    obtain ⟨ns, hns⟩ : ∃ ns, vsT [] (termsD d e) = ns := ⟨_, rfl⟩
    obtain ⟨dp, hdp⟩ : ∃ dp : Nat, depthD d e = dp := ⟨_, rfl⟩
    have HK1 : Hid (∀ u, Below W.heap.size W u → Calls Tryd.prog 6 #[e.val a4 c4] u fun r w' => r = .returned (.int .i64 n0) ∧ Below u.heap.size u w') := fun u hu => by
      have := vcheckExpr_any d e a4 c4 u (HG.out _ (HC.out u hu).1.2).2 (HEt.out u hu)
      rw [hn0] at this
      exact this
    have HK2 : Hid (∀ u, Below W.heap.size W u → Calls Tryd.prog 7 #[e.val a c] u fun r w' => r = .returned (.int .i64 n0) ∧ Below u.heap.size u w') := fun u hu => by
      have := rcheckExpr_any d e a c u (HEu.out u hu)
      rw [hn0] at this
      exact this
    have HK3 : Hid (∀ u, Below W.heap.size W u → Calls Tryd.prog 9 #[e.val a4 c4] u fun r w' => ∃ sv, r = .returned sv ∧ Ls w' sv ns.length (ns.flatMap strB) ∧ Below u.heap.size u w') := fun u hu => by
      have := vexprVars_any d e a4 c4 u (HEt.out u hu) HSZ.out
      rw [hns] at this
      exact this
    have HK4 : Hid (∀ u, Below W.heap.size W u → Calls Tryd.prog 10 #[e.val a c] u fun r w' => ∃ sv, r = .returned sv ∧ Ls w' sv ns.length (ns.flatMap strB) ∧ Below u.heap.size u w') := fun u hu => by
      have := rexprVars_any d e a c u (HEu.out u hu) HSZ.out
      rw [hns] at this
      exact this
    have HK5 : Hid (∀ u, Below W.heap.size W u → Calls Tryd.prog 11 #[e.val a4 c4] u fun r w' => r = .returned (.int .i64 dp) ∧ Below u.heap.size u w') := fun u hu => by
      have := vdepth_any d e a4 c4 u (HEt.out u hu) HSZ.out
      rw [hdp] at this
      exact this
    have HK6 : Hid (∀ u, Below W.heap.size W u → Calls Tryd.prog 12 #[e.val a c] u fun r w' => r = .returned (.int .i64 dp) ∧ Below u.heap.size u w') := fun u hu => by
      have := rdepth_any d e a c u (HEu.out u hu) HSZ.out
      rw [hdp] at this
      exact this
    have HK7 : Hid (∀ u, Below W.heap.size W u → Calls Tryd.prog 13 #[e.val a4 c4, e.val a c] u fun r w' => r = .returned (.bool true) ∧ Below u.heap.size u w') := fun u hu => leftOK d e a4 a c4 c w1.heap.size u (HG.out _ (HC.out u hu).1.2).1 (TwIs.below (HC.out u hu).1.1 HTW.out) (HEu.out u hu)
    unfold E.val at HK1 HK2 HK3 HK4 HK5 HK6 HK7
    have hB0 : Below W.heap.size W W.drew := (Below.refl _ _).drew
    have hS0 := HC.out _ (Below.refl _ _)
    clear HX2 HY HTW HB3 B2 hn0 hns hdp HEu HEt HG HE HSL HSZ B1
    go_region_held3 (fun u => (Below W.heap.size W u) ∧ u.cell? ⟨w.heap.size, 0, none⟩ = some (.int .i8 e.op) ∧ u.cell? ⟨w.heap.size, 1, none⟩ = some (.string e.t.v) ∧ u.cell? ⟨w.heap.size, 2, none⟩ = some (.int .i8 e.t.a.k) ∧ u.cell? ⟨w.heap.size, 3, none⟩ = some (.int .i64 e.t.a.n) ∧ u.cell? ⟨w.heap.size, 4, none⟩ = some (.string e.t.a.s) ∧ u.cell? ⟨w.heap.size, 5, none⟩ = some (.slice a e.kids.length c) ∧ u.cell? ⟨w2.heap.size, 0, none⟩ = some (.int .i8 e.op) ∧ u.cell? ⟨w2.heap.size, 1, none⟩ = some (.string e.t.v) ∧ u.cell? ⟨w2.heap.size, 2, none⟩ = some (.int .i8 e.t.a.k) ∧ u.cell? ⟨w2.heap.size, 3, none⟩ = some (.int .i64 e.t.a.n) ∧ u.cell? ⟨w2.heap.size, 4, none⟩ = some (.string e.t.a.s) ∧ u.cell? ⟨w2.heap.size, 5, none⟩ = some (.slice a4 e.kids.length c4))
      (first
        | assumption
        | exact ⟨hB0, (HC.out _ hB0).2⟩
        | exact ⟨(by assumption), (HC.out _ (by assumption)).2⟩)
      (first
        | (go_at_call 6; refine Calls.mono (HK1.out _ (by assumption)) ?_; rintro ee w3 ⟨rfl, b3⟩; have b3' := next_of (wc := W) (by assumption) b3)
        | (go_at_call 7; refine Calls.mono (HK2.out _ (by assumption)) ?_; rintro ee w4 ⟨rfl, b4⟩; have b4' := next_of (wc := W) (by assumption) b4)
        | (go_at_call 9; refine Calls.mono (HK3.out _ (by assumption)) ?_; rintro ee w5 ⟨sv5, rfl, hs5, b5⟩; have b5' := next_of (wc := W) (by assumption) b5; have HS5 : Hid (∀ u, Below w5.heap.size w5 u → Ls u sv5 ns.length (ns.flatMap strB)) := fun u hu => hs5.below hu; clear hs5)
        | (go_at_call 10; refine Calls.mono (HK4.out _ (by assumption)) ?_; rintro ee w6 ⟨sv6, rfl, hs6, b6⟩; have b6' := next_of (wc := W) (by assumption) b6; have HSM : Hid _ := sameTexts_same sv5 sv6 ns w6 (HS5.out _ b6) hs6; clear hs6)
        | (go_at_call 8; refine Calls.mono HSM.out ?_; rintro ee w7 ⟨rfl, b7⟩; have b7' := next_of (wc := W) (by assumption) b7)
        | (go_at_call 11; refine Calls.mono (HK5.out _ (by assumption)) ?_; rintro ee w8 ⟨rfl, b8⟩; have b8' := next_of (wc := W) (by assumption) b8)
        | (go_at_call 12; refine Calls.mono (HK6.out _ (by assumption)) ?_; rintro ee w9 ⟨rfl, b9⟩; have b9' := next_of (wc := W) (by assumption) b9)
        | (go_at_call 13; refine Calls.mono (HK7.out _ (by assumption)) ?_; rintro ee w10 ⟨rfl, b10⟩; have b10' := next_of (wc := W) (by assumption) b10)
        | fail)
    go_wp2
    go_ret
    exact ⟨rfl, (HC.out _ (by assumption)).1.2⟩
  · go_wp2
    go_ret
    exact ⟨rfl, B1.out⟩
end Go.Proofs.YtlaffpcknpbnpaaDoor
