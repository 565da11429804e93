import Derived.Test.YtkfajjnaadmobaaGreatDoorG41
import Derived.Test.YtkfajjnaadmobaaGreatDoorG21
section
namespace Go.Proofs.YtkfajjnaadmobaaGreatDoor
open Go.RowKit Go.Maps
set_option linter.unusedVariables false
set_option linter.unusedSimpArgs false
attribute [local go_sem ↓] Go.wp_at_zero Go.wp_at_succ

theorem EIs.len {w : World} {d : Nat} {e : E} {a : Option Addr} {c : Nat} (h : EIs w d e a c) : e.kids.length ≤ 281474976710656 := by
  cases d with
  | zero => exact h.elim
  | succ d => exact h.1.2
theorem termsL_wf {w : World} {d : Nat} {x : Lit4} {p : LP} (h : LIs w d x p) : ∀ t ∈ termsL d x, t.wf := by
  intro t ht
  unfold termsL at ht
  rcases List.mem_append.1 ht with h1 | h1
  · exact h.ts.wf t h1
  · rcases List.mem_append.1 h1 with h2 | h2
    · exact termsD_wf d _ _ _ h.l t h2
    · exact termsD_wf d _ _ _ h.r t h2
theorem tcells_take {ts : List T} {k : Nat} (h : k < ts.length) : (ts.take (k + 1)).flatMap T.cells = (ts.take k).flatMap T.cells ++ T.cells (atT ts k) := by
  rw [List.take_succ_eq_append_getElem h, List.flatMap_append, atT_eq h]
  simp
set_option maxHeartbeats 3200000 in
theorem literalTerms_any (d : Nat) (x : Lit4) (p : LP) (w : World) (hL : LIs w d x p) (hs : x.ts.length ≤ 1048576) (hl : szD d x.l ≤ 1048576) (hr : szD d x.r ≤ 1048576) :
    Calls Tryz.prog 30 #[.slice none 0 0, x.val p] w fun r w' => ∃ sv, r = .returned sv ∧ Ls w' sv (termsL d x).length ((termsL d x).flatMap T.cells) ∧ Below w.heap.size w w' := by
  obtain ⟨i0, hi0, hz0, hz1, hz2⟩ := info_parts infoTm
  have HB0 : Hid (Below w.heap.size w (w.alloc (.cells #[.int .i8 x.k, .string x.pr, .slice p.a x.ts.length p.c, .int .i8 x.rel, .int .i8 x.l.op, .string x.l.t.v, .int .i8 x.l.t.a.k, .int .i64 x.l.t.a.n, .string x.l.t.a.s, .slice p.la x.l.kids.length p.lc, .int .i8 x.r.op, .string x.r.t.v, .int .i8 x.r.t.a.k, .int .i64 x.r.t.a.n, .string x.r.t.a.s, .slice p.ra x.r.kids.length p.rc] 48))) := (Below.refl _ _).alloc (Nat.le_refl _) _
  have HRL : Hid (RL (w.alloc (.cells #[.int .i8 x.k, .string x.pr, .slice p.a x.ts.length p.c, .int .i8 x.rel, .int .i8 x.l.op, .string x.l.t.v, .int .i8 x.l.t.a.k, .int .i64 x.l.t.a.n, .string x.l.t.a.s, .slice p.la x.l.kids.length p.lc, .int .i8 x.r.op, .string x.r.t.v, .int .i8 x.r.t.a.k, .int .i64 x.r.t.a.n, .string x.r.t.a.s, .slice p.ra x.r.kids.length p.rc] 48)) w.heap.size 48 [.int .i8 x.k, .string x.pr, .slice p.a x.ts.length p.c, .int .i8 x.rel, .int .i8 x.l.op, .string x.l.t.v, .int .i8 x.l.t.a.k, .int .i64 x.l.t.a.n, .string x.l.t.a.s, .slice p.la x.l.kids.length p.lc, .int .i8 x.r.op, .string x.r.t.v, .int .i8 x.r.t.a.k, .int .i64 x.r.t.a.n, .string x.r.t.a.s, .slice p.ra x.r.kids.length p.rc]) := rl_new w #[.int .i8 x.k, .string x.pr, .slice p.a x.ts.length p.c, .int .i8 x.rel, .int .i8 x.l.op, .string x.l.t.v, .int .i8 x.l.t.a.k, .int .i64 x.l.t.a.n, .string x.l.t.a.s, .slice p.la x.l.kids.length p.lc, .int .i8 x.r.op, .string x.r.t.v, .int .i8 x.r.t.a.k, .int .i64 x.r.t.a.n, .string x.r.t.a.s, .slice p.ra x.r.kids.length p.rc] 48
  have HLI : Hid (LIs (w.alloc (.cells #[.int .i8 x.k, .string x.pr, .slice p.a x.ts.length p.c, .int .i8 x.rel, .int .i8 x.l.op, .string x.l.t.v, .int .i8 x.l.t.a.k, .int .i64 x.l.t.a.n, .string x.l.t.a.s, .slice p.la x.l.kids.length p.lc, .int .i8 x.r.op, .string x.r.t.v, .int .i8 x.r.t.a.k, .int .i64 x.r.t.a.n, .string x.r.t.a.s, .slice p.ra x.r.kids.length p.rc] 48)) d x p) := hL.below HB0.out
  have HTM : Hid (x.ts ++ (termsD d x.l ++ termsD d x.r) = termsL d x) := rfl
  obtain ⟨tm, htm⟩ : ∃ tm, termsL d x = tm := ⟨_, rfl⟩
  rw [htm] at HTM ⊢
  have HSZ : Hid (szD d x.l ≤ 1048576 ∧ szD d x.r ≤ 1048576) := ⟨hl, hr⟩
  clear hL hl hr htm
  unfold Lit4.val
  go_enter Tryz.func30, Tryz.ntmps30
  go_upto_region 1 with fail
  generalize w.alloc (.cells #[.int .i8 x.k, .string x.pr, .slice p.a x.ts.length p.c, .int .i8 x.rel, .int .i8 x.l.op, .string x.l.t.v, .int .i8 x.l.t.a.k, .int .i64 x.l.t.a.n, .string x.l.t.a.s, .slice p.la x.l.kids.length p.lc, .int .i8 x.r.op, .string x.r.t.v, .int .i8 x.r.t.a.k, .int .i64 x.r.t.a.n, .string x.r.t.a.s, .slice p.ra x.r.kids.length p.rc] 48) = W at HB0 HRL HLI ⊢
  obtain ⟨a1, c1, e1, hc1, hc2, hat⟩ := HLI.out.ts.form
  cases e1
  have HAT : Hid _ := hat
  have hbW : w.heap.size < W.heap.size := World.rowIs.lt HRL.out
  have HRu : Hid (∀ u, Below W.heap.size W u → RL u w.heap.size 48 [.int .i8 x.k, .string x.pr, .slice p.a x.ts.length p.c, .int .i8 x.rel, .int .i8 x.l.op, .string x.l.t.v, .int .i8 x.l.t.a.k, .int .i64 x.l.t.a.n, .string x.l.t.a.s, .slice p.la x.l.kids.length p.lc, .int .i8 x.r.op, .string x.r.t.v, .int .i8 x.r.t.a.k, .int .i64 x.r.t.a.n, .string x.r.t.a.s, .slice p.ra x.r.kids.length p.rc]) := fun u hu => RL.below HRL.out hu
  clear hat
  go_wp2
  go_loopw [0, 5] (fun lv i wr => ∃ (k : Nat) (a' : Option Addr) (c' : Nat), k ≤ x.ts.length ∧ i = .int .i64 k ∧ lv = .slice a' k c' ∧ Hid (wr.ownsRow W.heap.size 43 4 (.slice a' k c') k ((x.ts.take k).flatMap T.cells)) ∧ Below W.heap.size W wr) (fun _ i _ => x.ts.length - (intOf i).toNat)
  case atStart => exact ⟨0, none, 0, Nat.zero_le _, rfl, rfl, World.ownsRow_nil _ _ _ _, Below.refl _ _⟩
  case round =>
    obtain ⟨k, a', c', hk, rfl, rfl, HO, bel⟩ := hrel
    have hR := HRu.out wr bel
    by_cases hlt : k < x.ts.length
    · have hlt' : (k : Int) < (x.ts.length : Int) := by omega
      have hk0 : (0 : Int) ≤ (k : Int) := by omega
      obtain ⟨g, off, hpa, hg, hT⟩ := HAT.out (by omega)
      have y2 := hR.at (j := 2) rfl
      rw [hpa] at y2
      obtain ⟨x0, x1, x2, x3⟩ := (hT k hlt).below bel hg
      have HTK : Hid _ := tcells_take hlt
      generalize atT x.ts k = t at x0 x1 x2 x3 HTK
      have hzw := bel.size
      clear hT hpa hR
      go_wp2_with (at_builtin; refine wpList_append_own_at _ rfl _ _ 34 rfl W.heap.size 43 i0 _ 4 48 Tryz.underlying34 hi0 hz0 hz1 hz2 rfl (by decide) _ _ _ rfl (own_below HO.out ((Below.refl _ _).alloc (Nat.le_refl _) _)) ⟨_, 0, none⟩ 1 1 [.string t.v, .int .i8 t.a.k, .int .i64 t.a.n, .string t.a.s] rfl rfl (lit_news _ #[.string t.v, .int .i8 t.a.k, .int .i64 t.a.n, .string t.a.s] _) (by simp [Value.oneCell']) (by unfold maxLen; omega) (by omega) (by simp; omega) ?_; intro v' w2 hown' hgrow hnil hloc)
      obtain ⟨a2, c2, rfl, _⟩ := own_form hown'
      go_roundw
      case rel => exact ⟨k + 1, a2, c2, by omega, by go_num, rfl, by show World.ownsRow _ _ _ _ _ _ _; rw [HTK.out]; exact hown', (bel.alloc bel.size _).grown hgrow (by simp; omega) (fun j hj => (HO.out.lt j hj).1)⟩
      case measure => simp [intOf]; omega
    · obtain rfl : k = x.ts.length := by omega
      rw [List.take_length] at HO
      have y4 := hR.at (j := 4) rfl
      have y5 := hR.at (j := 5) rfl
      have y6 := hR.at (j := 6) rfl
      have y7 := hR.at (j := 7) rfl
      have y8 := hR.at (j := 8) rfl
      have y9 := hR.at (j := 9) rfl
      have y2 := hR.at (j := 2) rfl
      have hzw := bel.size
      have HX1 : Hid _ := exprTerms_any (w0 := W) d x.l p.la p.lc (.slice a' x.ts.length c') x.ts wr HLI.out.l bel hzw HO.out (by have := HSZ.out.1; omega)
      unfold E.val at HX1
      clear hR
      go_wp2_with fail
      refine Calls.mono HX1.out ?_
      rintro ee w1 ⟨sv1, rfl, ho1, hg1⟩
      have bel1 : Below W.heap.size W w1 := bel.grown hg1.gr hzw (fun j hj => (HO.out.lt j hj).1)
      have hm3 : x.ts ++ termsD d x.l ++ termsD d x.r = tm := by rw [List.append_assoc]; exact HTM.out
      have hm4 : (x.ts ++ termsD d x.l).length ≤ 3000000 := by have := HSZ.out.1; unfold szD at this; rw [List.length_append]; omega
      generalize x.ts ++ termsD d x.l = m1 at ho1 hm3 hm4
      have HM3 : Hid (m1 ++ termsD d x.r = tm) := hm3
      clear hm3
      have HO1 : Hid _ := ho1
      obtain ⟨b1, d1, rfl, _⟩ := own_form ho1
      have hR1 := HRu.out w1 bel1
      have z10 := hR1.at (j := 10) rfl
      have z11 := hR1.at (j := 11) rfl
      have z12 := hR1.at (j := 12) rfl
      have z13 := hR1.at (j := 13) rfl
      have z14 := hR1.at (j := 14) rfl
      have z15 := hR1.at (j := 15) rfl
      have hzw1 := bel1.size
      have HX2 : Hid _ := exprTerms_any (w0 := W) d x.r p.ra p.rc _ m1 w1 HLI.out.r bel1 hzw1 HO1.out (by have := HSZ.out; omega)
      unfold E.val at HX2
      clear hR1 HX1 hg1 ho1 y2 y4 y5 y6 y7 y8 y9
      go_wp2_with fail
      refine Calls.mono HX2.out ?_
      rintro ee w2 ⟨sv2, rfl, ho2, hg2⟩
      have bel2 : Below W.heap.size W w2 := bel1.grown hg2.gr hzw1 (fun j hj => (World.ownsRow.lt HO1.out j hj).1)
      clear z10 z11 z12 z13 z14 z15 HX2 hg2
      rw [HM3.out] at ho2
      go_wp2
      go_ret
      exact ⟨_, rfl, ls_own ho2, HB0.out.trans (bel2.mono HB0.out.size)⟩
theorem rliteralVars_any (d : Nat) (x : Lit4) (p : LP) (w : World) (hL : LIs w d x p) (hs : x.ts.length ≤ 1048576) (hl : szD d x.l ≤ 1048576) (hr : szD d x.r ≤ 1048576) : Calls Tryz.prog 13 #[x.val p] w fun r w' => ∃ sv, r = .returned sv ∧ Ls w' sv (vsT [] (termsL d x)).length ((vsT [] (termsL d x)).flatMap strB) ∧ Below w.heap.size w w' := by
  have BA := (Below.refl w.heap.size w).alloc (Nat.le_refl _) (.cells #[.int .i8 x.k, .string x.pr, .slice p.a x.ts.length p.c, .int .i8 x.rel, .int .i8 x.l.op, .string x.l.t.v, .int .i8 x.l.t.a.k, .int .i64 x.l.t.a.n, .string x.l.t.a.s, .slice p.la x.l.kids.length p.lc, .int .i8 x.r.op, .string x.r.t.v, .int .i8 x.r.t.a.k, .int .i64 x.r.t.a.n, .string x.r.t.a.s, .slice p.ra x.r.kids.length p.rc] 48)
  have HT : Hid _ := literalTerms_any d x p (w.alloc (.cells #[.int .i8 x.k, .string x.pr, .slice p.a x.ts.length p.c, .int .i8 x.rel, .int .i8 x.l.op, .string x.l.t.v, .int .i8 x.l.t.a.k, .int .i64 x.l.t.a.n, .string x.l.t.a.s, .slice p.la x.l.kids.length p.lc, .int .i8 x.r.op, .string x.r.t.v, .int .i8 x.r.t.a.k, .int .i64 x.r.t.a.n, .string x.r.t.a.s, .slice p.ra x.r.kids.length p.rc] 48)) (hL.below BA) hs hl hr
  have HWF : Hid _ := termsL_wf hL
  have HB : Hid (Below w.heap.size w (w.alloc (.cells #[.int .i8 x.k, .string x.pr, .slice p.a x.ts.length p.c, .int .i8 x.rel, .int .i8 x.l.op, .string x.l.t.v, .int .i8 x.l.t.a.k, .int .i64 x.l.t.a.n, .string x.l.t.a.s, .slice p.la x.l.kids.length p.lc, .int .i8 x.r.op, .string x.r.t.v, .int .i8 x.r.t.a.k, .int .i64 x.r.t.a.n, .string x.r.t.a.s, .slice p.ra x.r.kids.length p.rc] 48))) := BA
  have hs' : (termsL d x).length ≤ 4398046511104 := by unfold szD at hl hr; unfold termsL; simp only [List.length_append]; omega
  unfold Lit4.val at HT ⊢
  obtain ⟨ts, hts⟩ : ∃ ts, termsL d x = ts := ⟨_, rfl⟩
  rw [hts] at HT HWF hs' ⊢
  clear hL BA hs hl hr hts
  go_enter Tryz.func13, Tryz.ntmps13
  go_wp2_with fail
  refine Calls.mono HT.out ?_
  rintro ee w1 ⟨sv1, rfl, ho1, b1⟩
  have HB1 : Hid (Below w.heap.size w w1) := HB.out.trans (b1.mono HB.out.size)
  have HL1 : Hid (Lt w1 sv1 ts) := ⟨ho1, HWF.out⟩
  clear ho1 b1
  go_wp2_with fail
  refine (vars_any sv1 ts w1 hs' HL1.out).mono ?_
  rintro ee w2 ⟨sv2, rfl, ho2, b2⟩
  go_wp2
  go_ret
  exact ⟨_, rfl, ls_own ho2, HB1.out.trans (b2.mono HB1.out.size)⟩
end Go.Proofs.YtkfajjnaadmobaaGreatDoor
end
