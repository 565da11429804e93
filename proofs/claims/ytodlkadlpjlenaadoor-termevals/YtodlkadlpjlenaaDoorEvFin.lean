import Derived.Test.YtodlkadlpjlenaaDoorEvWorkW
import Derived.Test.YtodlkadlpjlenaaDoorTreeRef
import Derived.Test.YtodlkadlpjlenaaDoorEvTwinW
import Derived.Test.YtodlkadlpjlenaaDoorTreeLeft
import Derived.Test.YtodlkadlpjlenaaDoorTreeBeyond
import Derived.Test.YtodlkadlpjlenaaDoorRows
import Derived.OpenShut
import Derived.Lib.LaidTab
import Derived.Stop.LaidErr
namespace Go.Proofs.YtodlkadlpjlenaaDoor
open Go.RowKit Go.Maps
set_option linter.unusedVariables false
set_option linter.unusedSimpArgs false
attribute [local go_sem ↓] Go.wp_at_zero Go.wp_at_succ

/-- an expression's value, or none -/
def evalV (l : List B) (d : Nat) (e : E) : Option V := if exprB 8 e then workV l d e else none
set_option maxHeartbeats 1600000 in
theorem eval_any (d : Nat) (e : E) (a : Option Addr) (c : Nat) (v : Value) (l : List B) (w : World) (hwfl : ∀ b ∈ l, b.wf) (hK : KT w) (hT : AR.Tab w) (hE : EIs w d e a c) (hl : Lb w v l) :
    Calls Tryd.prog 8 #[e.val a c, v] w fun r w' => r = .returned (optV (evalV l d e)) ∧ Below w.heap.size w w' := by
  have HS0 := Lib.hid (wst_new w #[.int .i8 e.op, .string e.t.v, .int .i8 e.t.a.k, .int .i64 e.t.a.n, .string e.t.a.s, .slice a e.kids.length c])
  simp only [List.toList_toArray] at HS0
  have HI := Lib.hid (isExpr_any 8 d e a c _ (by omega) (hK.below HS0.out.bel) (hE.below HS0.out.bel))
  have HW : Hid (∀ u, Below w.heap.size w u → exprB 8 e = true → Calls Tryd.prog 17 #[e.val a c, v] u fun r w' => r = .returned (optV (workV l d e)) ∧ Below u.heap.size u w') :=
    fun u hu he => work_any l hwfl d 8 e a c v u (hT.below hu) (hE.below hu) he (hl.below hu)
  obtain ⟨a0, c0, hv, -, -, -⟩ := hl.form
  subst hv
  have HV := Lib.hid (show evalV l d e = if exprB 8 e then workV l d e else none from rfl)
  clear hK hT hE hl hwfl
  unfold E.val at HI HW
  unfold E.val
  generalize exprB 8 e = ok at HI HW HV
  cases ok with
  | true =>
    obtain ⟨k, n, s, b, ho⟩ := optV_form (workV l d e)
    have HO : Hid (optV (evalV l d e) = .tuple #[.agg #[.int .i8 k, .int .i64 n, .string s], .bool b]) := by show _ = _; rw [HV.out]; exact ho
    rw [ho] at HW
    clear ho HV
    go_enter Tryd.func8, Tryd.ntmps8
    go_wp2_with fail
    refine HI.out.mono ?_
    rintro r w1 ⟨rfl, b1⟩
    have H1 := Lib.hid (HS0.out.keep b1)
    have q0 := H1.out.r0.at (j := 0) rfl
    have q1 := H1.out.r0.at (j := 1) rfl
    have q2 := H1.out.r0.at (j := 2) rfl
    have q3 := H1.out.r0.at (j := 3) rfl
    have q4 := H1.out.r0.at (j := 4) rfl
    have q5 := H1.out.r0.at (j := 5) rfl
    have HC := Lib.hid (HW.out w1 H1.out.bel (by first | rfl | trivial))
    clear HI HS0 b1 HW
    go_wp2_with fail
    refine HC.out.mono ?_
    rintro r w2 ⟨rfl, b2⟩
    have H2 := Lib.hid (H1.out.keep b2)
    have y0 := H2.out.r1.at (j := 0) rfl
    have y1 := H2.out.r1.at (j := 1) rfl
    have y2 := H2.out.r1.at (j := 2) rfl
    have f0 := World.rowIs.frozen H2.out.r1 0
    have f1 := World.rowIs.frozen H2.out.r1 1
    have f2 := World.rowIs.frozen H2.out.r1 2
    clear HC H1 b2 q0 q1 q2 q3 q4 q5
    go_wp2
    exact work_done Tryd.results8 (b := w.heap.size + 1) (by omega) H2.out.bel H2.out.r1 rfl rfl rfl HO.out
  | false =>
    have HO : Hid (optV (evalV l d e) = .tuple #[.agg #[.int .i8 0, .int .i64 0, .string ⟨#[]⟩], .bool false]) := by show _ = _; rw [HV.out]; rfl
    clear HV HW
    go_enter Tryd.func8, Tryd.ntmps8
    go_wp2_with fail
    refine HI.out.mono ?_
    rintro r w1 ⟨rfl, b1⟩
    have H1 := Lib.hid (HS0.out.keep b1)
    clear HI HS0 b1
    have y0 := H1.out.r1.at (j := 0) rfl
    have y1 := H1.out.r1.at (j := 1) rfl
    have y2 := H1.out.r1.at (j := 2) rfl
    have f0 := World.rowIs.frozen H1.out.r1 0
    have f1 := World.rowIs.frozen H1.out.r1 1
    have f2 := World.rowIs.frozen H1.out.r1 2
    go_wp2
    exact work_done Tryd.results8 (b := w.heap.size + 1) (by omega) H1.out.bel H1.out.r1 rfl rfl rfl HO.out
set_option maxHeartbeats 1600000 in
theorem reval_any (d : Nat) (e : E) (a : Option Addr) (c : Nat) (v : Value) (l : List B) (w : World) (hwfl : ∀ b ∈ l, b.wf) (hE : EIs w d e a c) (hl : Lb w v l) :
    Calls Tryd.prog 5 #[e.val a c, v] w fun r w' => r = .returned (optV (evalV l d e)) ∧ Below w.heap.size w w' := by
  have HS0 := Lib.hid (wst_new w #[.int .i8 e.op, .string e.t.v, .int .i8 e.t.a.k, .int .i64 e.t.a.n, .string e.t.a.s, .slice a e.kids.length c])
  simp only [List.toList_toArray] at HS0
  have HI := Lib.hid (rexpr_any 8 d e a c _ (by omega) (hE.below HS0.out.bel))
  have HW : Hid (∀ u, Below w.heap.size w u → exprB 8 e = true → Calls Tryd.prog 13 #[e.val a c, v] u fun r w' => r = .returned (optV (workV l d e)) ∧ Below u.heap.size u w') :=
    fun u hu he => worth_any l hwfl d 8 e a c v u (hE.below hu) he (hl.below hu)
  obtain ⟨a0, c0, hv, -, -, -⟩ := hl.form
  subst hv
  have HV := Lib.hid (show evalV l d e = if exprB 8 e then workV l d e else none from rfl)
  clear hE hl hwfl
  unfold E.val at HI HW
  unfold E.val
  generalize exprB 8 e = ok at HI HW HV
  cases ok with
  | true =>
    obtain ⟨k, n, s, b, ho⟩ := optV_form (workV l d e)
    have HO : Hid (optV (evalV l d e) = .tuple #[.agg #[.int .i8 k, .int .i64 n, .string s], .bool b]) := by show _ = _; rw [HV.out]; exact ho
    rw [ho] at HW
    clear ho HV
    go_enter Tryd.func5, Tryd.ntmps5
    go_wp2_with fail
    refine HI.out.mono ?_
    rintro r w1 ⟨rfl, b1⟩
    have H1 := Lib.hid (HS0.out.keep b1)
    have q0 := H1.out.r0.at (j := 0) rfl
    have q1 := H1.out.r0.at (j := 1) rfl
    have q2 := H1.out.r0.at (j := 2) rfl
    have q3 := H1.out.r0.at (j := 3) rfl
    have q4 := H1.out.r0.at (j := 4) rfl
    have q5 := H1.out.r0.at (j := 5) rfl
    have HC := Lib.hid (HW.out w1 H1.out.bel (by first | rfl | trivial))
    clear HI HS0 b1 HW
    go_wp2_with fail
    refine HC.out.mono ?_
    rintro r w2 ⟨rfl, b2⟩
    have H2 := Lib.hid (H1.out.keep b2)
    have y0 := H2.out.r1.at (j := 0) rfl
    have y1 := H2.out.r1.at (j := 1) rfl
    have y2 := H2.out.r1.at (j := 2) rfl
    have f0 := World.rowIs.frozen H2.out.r1 0
    have f1 := World.rowIs.frozen H2.out.r1 1
    have f2 := World.rowIs.frozen H2.out.r1 2
    clear HC H1 b2 q0 q1 q2 q3 q4 q5
    go_wp2
    exact work_done Tryd.results5 (b := w.heap.size + 1) (by omega) H2.out.bel H2.out.r1 rfl rfl rfl HO.out
  | false =>
    have HO : Hid (optV (evalV l d e) = .tuple #[.agg #[.int .i8 0, .int .i64 0, .string ⟨#[]⟩], .bool false]) := by show _ = _; rw [HV.out]; rfl
    clear HV HW
    go_enter Tryd.func5, Tryd.ntmps5
    go_wp2_with fail
    refine HI.out.mono ?_
    rintro r w1 ⟨rfl, b1⟩
    have H1 := Lib.hid (HS0.out.keep b1)
    clear HI HS0 b1
    have y0 := H1.out.r1.at (j := 0) rfl
    have y1 := H1.out.r1.at (j := 1) rfl
    have y2 := H1.out.r1.at (j := 2) rfl
    have f0 := World.rowIs.frozen H1.out.r1 0
    have f1 := World.rowIs.frozen H1.out.r1 1
    have f2 := World.rowIs.frozen H1.out.r1 2
    go_wp2
    exact work_done Tryd.results5 (b := w.heap.size + 1) (by omega) H1.out.bel H1.out.r1 rfl rfl rfl HO.out
open Go.RowKit Go.Maps
set_option linter.unusedVariables false
set_option linter.unusedSimpArgs false
attribute [local go_sem ↓] Go.wp_at_zero Go.wp_at_succ

def bT (b : B) : T := ⟨b.v, b.a⟩
theorem lb_lt {w : World} {a : Option Addr} {c : Nat} {l : List B} (h : Lb w (.slice a l.length c) l) : Lt w (.slice a (l.map bT).length c) (l.map bT) := by
  have e : (l.map bT).length = l.length := by simp
  refine ⟨?_, fun t ht => ?_⟩
  · rw [e, show (l.map bT).flatMap T.cells = l.flatMap B.cells by rw [List.flatMap_map]; rfl]
    exact h.lies
  · obtain ⟨b, hb, rfl⟩ := List.mem_map.1 ht
    exact ⟨(h.wf b hb).text, (h.wf b hb).val⟩
theorem lt_lb {w : World} {a : Option Addr} {c : Nat} {l : List B} (hw : ∀ b ∈ l, b.wf) (h : Lt w (.slice a (l.map bT).length c) (l.map bT)) : Lb w (.slice a l.length c) l := by
  have e : (l.map bT).length = l.length := by simp
  refine ⟨?_, hw⟩
  have h1 := h.lies
  rw [e, show (l.map bT).flatMap T.cells = l.flatMap B.cells by rw [List.flatMap_map]; rfl] at h1
  exact h1
theorem run_eql_val (k n : Int) (s : ByteArray) (w : World) : (binOp .eql 26 (.agg #[.int .i8 k, .int .i64 n, .string s]) (.agg #[.int .i8 k, .int .i64 n, .string s])).run Tryd.prog w = .ok (.bool true) w := by go_simp
set_option maxHeartbeats 6400000 in
set_option maxRecDepth 100000 in
theorem termEvals_walk (d : Nat) (e : E) (a : Option Addr) (c : Nat) (l : List B) (a1 : Option Addr) (c1 : Nat) (w : World) (hG : PWt w ∧ KT w ∧ AR.Tab w) (hE : EIs w d e a c) (hll : l.length ≤ 2932031007402) (hL : Lb w (.slice a1 l.length c1) l) :
    Calls Tryd.prog 3 #[e.val a c, .slice a1 l.length c1] w fun r w' => r = .returned (.bool true) ∧ Below w.heap.size w w' := by
  have BA := (Below.refl w.heap.size w).alloc (Nat.le_refl _) (.cells #[.int .i8 e.op, .string e.t.v, .int .i8 e.t.a.k, .int .i64 e.t.a.n, .string e.t.a.s, .slice a e.kids.length c] 31)
  have HX := Lib.hid (rl_new w #[.int .i8 e.op, .string e.t.v, .int .i8 e.t.a.k, .int .i64 e.t.a.n, .string e.t.a.s, .slice a e.kids.length c] 31)
  have HG := Lib.hid hG
  have HE : Hid (∀ u, Below w.heap.size w u → EIs u d e a c) := fun u hu => hE.below hu
  have HL : Hid (∀ u, Below w.heap.size w u → Lb u (.slice a1 l.length c1) l) := fun u hu => hL.below hu
  have HWF : Hid (∀ b ∈ l, b.wf) := hL.wf
  have HP : Hid (∀ u, Below w.heap.size w u → PWt u) := fun u hu => tab_below hG.1 hu
  have HKT : Hid (∀ u, Below w.heap.size w u → KT u) := fun u hu => hG.2.1.below hu
  have HAT : Hid (∀ u, Below w.heap.size w u → AR.Tab u) := fun u hu => hG.2.2.below hu
  have HLL : Hid ((l.map bT).length ≤ 2932031007402) := by show _ ≤ _; rw [List.length_map]; exact hll
  have HLE : Hid ((l.map bT).length = l.length) := by show _ = _; rw [List.length_map]
  obtain ⟨k, n, s, b, ho⟩ := optV_form (evalV l d e)
  have HO := Lib.hid ho
  have heq := run_eql_val k n s
  clear hG hE hL hll ho
  unfold E.val
  go_enter Tryd.func3, Tryd.ntmps3
  go_wp2_with fail
  refine (beyondExpr_any d e a c _ (HE.out _ BA)).mono ?_
  rintro r w1 ⟨bb, rfl, b1, hsm⟩
  have B1 : Hid (Below w.heap.size w w1) := BA.trans (b1.mono BA.size)
  have HX1 := Lib.hid (HX.out.below b1)
  have HSM : Hid _ := hsm
  clear hsm b1 BA HX
  cases bb
  · have HR := Lib.hid (reval_any d e a c _ l w1 HWF.out (HE.out _ B1.out) (HL.out _ B1.out))
    rw [HO.out] at HR
    have x0 := HX1.out.at (j := 0) rfl
    have x1 := HX1.out.at (j := 1) rfl
    have x2 := HX1.out.at (j := 2) rfl
    have x3 := HX1.out.at (j := 3) rfl
    have x4 := HX1.out.at (j := 4) rfl
    have x5 := HX1.out.at (j := 5) rfl
    go_wp2_with fail
    refine HR.out.mono ?_
    rintro r w2 ⟨rfl, b2⟩
    clear x0 x1 x2 x3 x4 x5 HR
    have B2 : Hid (Below w.heap.size w w2) := B1.out.trans (b2.mono B1.out.size)
    have HX2 := Lib.hid (HX1.out.below b2)
    clear b2 HX1
    have BW := (Below.refl w2.heap.size w2).alloc (Nat.le_refl _) (.cells #[.int .i8 k, .int .i64 n, .string s] 26)
    have HV3 := Lib.hid (rl_new w2 #[.int .i8 k, .int .i64 n, .string s] 26)
    have HX3 := Lib.hid (HX2.out.below BW)
    have B3 : Hid (Below w.heap.size w _) := B2.out.trans (BW.mono B2.out.size)
    have hs2 : w.heap.size < w2.heap.size := World.rowIs.lt HX2.out
    have HR := Lib.hid (twinOK d e a c _ (HP.out _ B3.out) (HSM.out (by first | rfl | assumption | trivial)) (HE.out _ B3.out))
    have x0 := HX3.out.at (j := 0) rfl
    have x1 := HX3.out.at (j := 1) rfl
    have x2 := HX3.out.at (j := 2) rfl
    have x3 := HX3.out.at (j := 3) rfl
    have x4 := HX3.out.at (j := 4) rfl
    have x5 := HX3.out.at (j := 5) rfl
    clear BW HX2
    go_wp2_with fail
    refine HR.out.mono ?_
    rintro r w3 ⟨a4, rfl, b3, htw⟩
    clear x0 x1 x2 x3 x4 x5 HR
    have HTW : Hid (TwIs w3 _ d e a4 (e.kids.length + 1)) := htw
    have B4 : Hid (Below w.heap.size w w3) := B3.out.trans (b3.mono B3.out.size)
    have HX4 := Lib.hid (HX3.out.below b3)
    have HV4 := Lib.hid (HV3.out.below b3)
    clear b3 htw HX3 HV3 B3
    obtain ⟨c4, hc4⟩ : ∃ c4, e.kids.length + 1 = c4 := ⟨_, rfl⟩
    rw [hc4] at HTW ⊢
    clear hc4
    unfold E.val
    have BT := (Below.refl w3.heap.size w3).alloc (Nat.le_refl _) (.cells #[.int .i8 e.op, .string e.t.v, .int .i8 e.t.a.k, .int .i64 e.t.a.n, .string e.t.a.s, .slice a4 e.kids.length c4] 31)
    have HY5 := Lib.hid (rl_new w3 #[.int .i8 e.op, .string e.t.v, .int .i8 e.t.a.k, .int .i64 e.t.a.n, .string e.t.a.s, .slice a4 e.kids.length c4] 31)
    have HX5 := Lib.hid (HX4.out.below BT)
    have HV5 := Lib.hid (HV4.out.below BT)
    have HT5 := Lib.hid (TwIs.below BT HTW.out)
    have B5 : Hid (Below w.heap.size w _) := B4.out.trans (BT.mono B4.out.size)
    have hs3 : w2.heap.size < w3.heap.size := World.rowIs.lt HV4.out
    have HR := Lib.hid (twinTerms_any _ (l.map bT) _ (HP.out _ B5.out) HLL.out (lb_lt (HL.out _ B5.out)))
    rw [HLE.out] at HR
    clear BT HX4 HV4 HTW
    go_wp2_with fail
    refine HR.out.mono ?_
    rintro r w4 ⟨a5, rfl, b5, htb⟩
    have HTB := Lib.hid htb
    have B6 : Hid (Below w.heap.size w w4) := B5.out.trans (b5.mono B5.out.size)
    have HY6 := Lib.hid (HY5.out.below b5)
    have HX6 := Lib.hid (HX5.out.below b5)
    have HV6 := Lib.hid (HV5.out.below b5)
    have HT6 := Lib.hid (TwIs.below b5 HT5.out)
    clear b5 htb HR HY5 HX5 HV5 HT5 B5
    obtain ⟨c5, hc5⟩ : ∃ c5, l.length + 1 = c5 := ⟨_, rfl⟩
    rw [hc5] at HTB ⊢
    clear hc5
    have HLB := Lib.hid (lt_lb HWF.out (HTB.out.lt (lb_lt (HL.out _ B6.out)) HLL.out))
    have HR := Lib.hid (eval_any d e a4 c4 _ l w4 HWF.out (HKT.out _ B6.out) (HAT.out _ B6.out) (HT6.out.eis (HE.out _ B6.out)) HLB.out)
    rw [HO.out] at HR
    have x0 := HY6.out.at (j := 0) rfl
    have x1 := HY6.out.at (j := 1) rfl
    have x2 := HY6.out.at (j := 2) rfl
    have x3 := HY6.out.at (j := 3) rfl
    have x4 := HY6.out.at (j := 4) rfl
    have x5 := HY6.out.at (j := 5) rfl
    go_wp2_with fail
    refine HR.out.mono ?_
    rintro r w5 ⟨rfl, b6⟩
    clear x0 x1 x2 x3 x4 x5 HR
    have BV := (Below.refl w5.heap.size w5).alloc (Nat.le_refl _) (.cells #[.int .i8 k, .int .i64 n, .string s] 26)
    have bb6 := b6.trans (BV.mono b6.size)
    have B7 : Hid (Below w.heap.size w _) := B6.out.trans (bb6.mono B6.out.size)
    have HU := Lib.hid (rl_new w5 #[.int .i8 k, .int .i64 n, .string s] 26)
    have HY7 := Lib.hid (HY6.out.below bb6)
    have HX7 := Lib.hid (HX6.out.below bb6)
    have HV7 := Lib.hid (HV6.out.below bb6)
    have HT7 := Lib.hid (TwIs.below bb6 HT6.out)
    have HTB7 := Lib.hid (HTB.out.below bb6)
    clear BV bb6 b6 HY6 HX6 HV6 HT6 HTB HLB B6
    go_upto_region 7 with fail
    generalize w5.alloc (.cells #[.int .i8 k, .int .i64 n, .string s] 26) = W6 at HU HY7 HX7 HV7 HT7 HTB7 B7 ⊢
    have x0 := HX7.out.at (j := 0) rfl
    have x1 := HX7.out.at (j := 1) rfl
    have x2 := HX7.out.at (j := 2) rfl
    have x3 := HX7.out.at (j := 3) rfl
    have x4 := HX7.out.at (j := 4) rfl
    have x5 := HX7.out.at (j := 5) rfl
    have y0 := HY7.out.at (j := 0) rfl
    have y1 := HY7.out.at (j := 1) rfl
    have y2 := HY7.out.at (j := 2) rfl
    have y3 := HY7.out.at (j := 3) rfl
    have y4 := HY7.out.at (j := 4) rfl
    have y5 := HY7.out.at (j := 5) rfl
    have v0 := HV7.out.at (j := 0) rfl
    have v1 := HV7.out.at (j := 1) rfl
    have v2 := HV7.out.at (j := 2) rfl
    have u0 := HU.out.at (j := 0) rfl
    have u1 := HU.out.at (j := 1) rfl
    have u2 := HU.out.at (j := 2) rfl
    have hbb : (b == b) = true := by simp
    have HLf := Lib.hid (leftOK d e a4 a c4 c _ W6 (HP.out _ B7.out) HT7.out (HE.out _ B7.out))
    unfold E.val at HLf
    have HLg : Hid (∀ u, Below W6.heap.size W6 u → Calls Tryd.prog 10 #[.slice a5 l.length c5, .slice a1 l.length c1] u fun r w' => r = .returned (.bool true) ∧ Below u.heap.size u w') := fun u hu => by
      have h := leftTerms_any (l.map bT) a5 a1 c5 c1 _ u HLL.out (HP.out _ (B7.out.trans (hu.mono B7.out.size))) (HTB7.out.below hu) (lb_lt (HL.out _ (B7.out.trans (hu.mono B7.out.size))))
      rw [HLE.out] at h
      exact h
    clear HX7 HY7 HV7 HU HT7 HTB7 HO
    go_wp2_with (first
      | (go_at_call 9; refine Calls.mono HLf.out ?_; rintro r w6 ⟨rfl, b7⟩; have B8 : Below w.heap.size w w6 := B7.out.trans (b7.mono B7.out.size))
      | (go_at_call 10; refine Calls.mono (HLg.out _ b7) ?_; rintro r w7 ⟨rfl, b8⟩))
    go_ret
    exact ⟨rfl, B8.trans (b8.mono B8.size)⟩
  · go_wp2
    go_ret
    exact ⟨rfl, B1.out⟩
open Go.RowKit
set_option linter.unusedVariables false
set_option linter.unusedSimpArgs false

/-- how operations take their values, and the numbers of kids, off a card's list of five tables -/
abbrev laidM : List (String × DataW Unit) := [("math/bits.deBruijn32tab", Rows.laid_math_bits_deBruijn32tab), ("math/bits.deBruijn64tab", Rows.laid_math_bits_deBruijn64tab), ("internal/strconv.uint64pow10", Rows.laid_internal_strconv_uint64pow10), ("pedigree/value.takings", Rows.laid_pedigree_value_takings), ("pedigree/term.kidCounts", Rows.laid_pedigree_term_kidCounts)]
def kidTabM : List Int := [0, 1, 2, 2, 2, 2, 2, 2, 1, 1, 1]
theorem ktm_of_laid {W : World} (h : laidMetH Tryd.prog laidM W) : KT W := by
  have h0 : laidMet Tryd.prog laidM W := h
  have t : Lib.TabIs Tryd.prog W "pedigree/term.kidCounts" .i64 kidTabM :=
    Lib.tabIs_of_head (g := 0) (by kernel_rfl) (by kernel_rfl) Tryd.underlying55 Tryd.underlying3 (by kernel_rfl) (by kernel_rfl) h0.tail.tail.tail.tail
  have hg : Tryd.prog.globalNamed "pedigree/term.kidCounts" = some 0 := by kernel_rfl
  refine ⟨World.block_lt_of_cell? _ _ (t.cell hg 0 (by decide)), fun i hi => ?_⟩
  rw [t.cell hg i (by show i < 11; exact hi)]
  match i, hi with
  | 0, _ => rfl
  | 1, _ => rfl
  | 2, _ => rfl
  | 3, _ => rfl
  | 4, _ => rfl
  | 5, _ => rfl
  | 6, _ => rfl
  | 7, _ => rfl
  | 8, _ => rfl
  | 9, _ => rfl
  | 10, _ => rfl
def takTabM : List Int := [0, 1, 2, 2, 2, 2, 2, 4, 3, 3, 3]
theorem tkm_of_laid {W : World} (h : laidMetH Tryd.prog laidM W) : AR.Tab W := by
  have h0 : laidMet Tryd.prog laidM W := h
  have t : Lib.TabIs Tryd.prog W "pedigree/value.takings" .i8 takTabM :=
    Lib.tabIs_of_head (g := 1) (by kernel_rfl) (by kernel_rfl) Tryd.underlying74 Tryd.underlying66 (by kernel_rfl) (by kernel_rfl) h0.tail.tail.tail
  have hg : Tryd.prog.globalNamed "pedigree/value.takings" = some 1 := by kernel_rfl
  refine ⟨World.block_lt_of_cell? _ _ (t.cell hg 0 (by decide)), fun i hi => ?_⟩
  rw [t.cell hg i (by show i < 11; exact hi)]
  match i, hi with
  | 0, _ => rfl
  | 1, _ => rfl
  | 2, _ => rfl
  | 3, _ => rfl
  | 4, _ => rfl
  | 5, _ => rfl
  | 6, _ => rfl
  | 7, _ => rfl
  | 8, _ => rfl
  | 9, _ => rfl
  | 10, _ => rfl
theorem pwx_of_laid {W : World} (h : laidMetH Tryd.prog laidM W) : PWt W := by
  have h0 : laidMet Tryd.prog laidM W := h
  have h2 := h0.tail.tail
  unfold PWt
  rw [show Lib.pow10Tab = [1, 10, 100, 1000, 10000, 100000, 1000000, 10000000, 100000000, 1000000000, 10000000000, 100000000000, 1000000000000, 10000000000000, 100000000000000, 1000000000000000, 10000000000000000, 100000000000000000, 1000000000000000000, 10000000000000000000] by decide]
  exact Lib.tabIs_of_head (g := 2) (by kernel_rfl) (by kernel_rfl) Tryd.underlying100 Tryd.underlying92 (by kernel_rfl) (by kernel_rfl) h2
theorem ge_of_laid {W : World} (h : laidMetH Tryd.prog laidM W) : PWt W ∧ KT W ∧ AR.Tab W := ⟨pwx_of_laid h, ktm_of_laid h, tkm_of_laid h⟩
end Go.Proofs.YtodlkadlpjlenaaDoor
