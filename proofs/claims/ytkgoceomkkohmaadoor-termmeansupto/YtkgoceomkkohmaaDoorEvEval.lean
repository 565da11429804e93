import Derived.Test.YtkgoceomkkohmaaDoorEvWorkW
import Derived.Test.YtkgoceomkkohmaaDoorTreeRef
namespace Go.Proofs.YtkgoceomkkohmaaDoor
open Go.RowKit Go.Maps
set_option linter.unusedVariables false
set_option linter.unusedSimpArgs false
attribute [local go_sem ↓] Go.wp_at_zero Go.wp_at_succ

/-- an expression's value, or none -/
def evalV (l : List B) (d : Nat) (e : E) : Option V := if exprB 8 e then workV l d e else none
set_option maxHeartbeats 1600000 in
theorem eval_any (d : Nat) (e : E) (a : Option Addr) (c : Nat) (v : Value) (l : List B) (w : World) (hwfl : ∀ b ∈ l, b.wf) (hK : KT w) (hT : AR.Tab w) (hE : EIs w d e a c) (hl : Lb w v l) :
    Calls Tryd.prog 6 #[e.val a c, v] w fun r w' => r = .returned (optV (evalV l d e)) ∧ Below w.heap.size w w' := by
  have HS0 := Lib.hid (wst_new w #[.int .i8 e.op, .string e.t.v, .int .i8 e.t.a.k, .int .i64 e.t.a.n, .string e.t.a.s, .slice a e.kids.length c])
  simp only [List.toList_toArray] at HS0
  have HI := Lib.hid (isExpr_any 8 d e a c _ (by omega) (hK.below HS0.out.bel) (hE.below HS0.out.bel))
  have HW : Hid (∀ u, Below w.heap.size w u → exprB 8 e = true → Calls Tryd.prog 21 #[e.val a c, v] u fun r w' => r = .returned (optV (workV l d e)) ∧ Below u.heap.size u w') :=
    fun u hu he => work_any l hwfl d 8 e a c v u (hT.below hu) (hE.below hu) he (hl.below hu)
  obtain ⟨a0, c0, hv, -, -, -⟩ := hl.form
  subst hv
  have HV := Lib.hid (show evalV l d e = if exprB 8 e then workV l d e else none from rfl)
  clear hK hT hE hl hwfl
  unfold E.val at HI HW
  unfold E.val
  generalize exprB 8 e = ok at HI HW HV
  cases ok with
  | true =>
    obtain ⟨k, n, s, b, ho⟩ := optV_form (workV l d e)
    have HO : Hid (optV (evalV l d e) = .tuple #[.agg #[.int .i8 k, .int .i64 n, .string s], .bool b]) := by show _ = _; rw [HV.out]; exact ho
    rw [ho] at HW
    clear ho HV
    go_enter Tryd.func6, Tryd.ntmps6
    go_wp2_with fail
    refine HI.out.mono ?_
    rintro r w1 ⟨rfl, b1⟩
    have H1 := Lib.hid (HS0.out.keep b1)
    have q0 := H1.out.r0.at (j := 0) rfl
    have q1 := H1.out.r0.at (j := 1) rfl
    have q2 := H1.out.r0.at (j := 2) rfl
    have q3 := H1.out.r0.at (j := 3) rfl
    have q4 := H1.out.r0.at (j := 4) rfl
    have q5 := H1.out.r0.at (j := 5) rfl
    have HC := Lib.hid (HW.out w1 H1.out.bel (by first | rfl | trivial))
    clear HI HS0 b1 HW
    go_wp2_with fail
    refine HC.out.mono ?_
    rintro r w2 ⟨rfl, b2⟩
    have H2 := Lib.hid (H1.out.keep b2)
    have y0 := H2.out.r1.at (j := 0) rfl
    have y1 := H2.out.r1.at (j := 1) rfl
    have y2 := H2.out.r1.at (j := 2) rfl
    have f0 := World.rowIs.frozen H2.out.r1 0
    have f1 := World.rowIs.frozen H2.out.r1 1
    have f2 := World.rowIs.frozen H2.out.r1 2
    clear HC H1 b2 q0 q1 q2 q3 q4 q5
    go_wp2
    exact work_done Tryd.results6 (b := w.heap.size + 1) (by omega) H2.out.bel H2.out.r1 rfl rfl rfl HO.out
  | false =>
    have HO : Hid (optV (evalV l d e) = .tuple #[.agg #[.int .i8 0, .int .i64 0, .string ⟨#[]⟩], .bool false]) := by show _ = _; rw [HV.out]; rfl
    clear HV HW
    go_enter Tryd.func6, Tryd.ntmps6
    go_wp2_with fail
    refine HI.out.mono ?_
    rintro r w1 ⟨rfl, b1⟩
    have H1 := Lib.hid (HS0.out.keep b1)
    clear HI HS0 b1
    have y0 := H1.out.r1.at (j := 0) rfl
    have y1 := H1.out.r1.at (j := 1) rfl
    have y2 := H1.out.r1.at (j := 2) rfl
    have f0 := World.rowIs.frozen H1.out.r1 0
    have f1 := World.rowIs.frozen H1.out.r1 1
    have f2 := World.rowIs.frozen H1.out.r1 2
    go_wp2
    exact work_done Tryd.results6 (b := w.heap.size + 1) (by omega) H1.out.bel H1.out.r1 rfl rfl rfl HO.out
end Go.Proofs.YtkgoceomkkohmaaDoor
