import Derived.Shelf.Strconv.Itoa0
import Derived.Shelf.Strconv.Itoa1
import Derived.Shelf.LaysM
import Derived.Shelf.Strconv.Itoa2
import Derived.Shelf.Strconv.Itoa3
import Derived.Shelf.Strconv.Itoa4
import Derived.Test.YteabclfhmapabaaDoorProg
import Derived.Test.YteabclfhmapabaaDoorA2
import Derived.Lib.ItoaNum
import Derived.Lib.AppendIntMem
import Derived.Lib.LaidTab
import Derived.Test.YteabclfhmapabaaDoorA4
import Derived.Deep.MidRow
import Derived.Lib.SmallJoins
import Derived.Test.YteabclfhmapabaaDoorA3
import Derived.Deep.RegionHeld3
import Derived.Deep.RegionWith
section
-- the library's contracts at this dump, in plain words (lay-shelf.mjs, shelfcut.py, lay-plain.mjs)
namespace Go.Proofs
open Go.Shelf
end Go.Proofs
end
section
namespace Go.Proofs.YteabclfhmapabaaDoor
open Go.RowKit Go.Maps
set_option linter.unusedVariables false
set_option linter.unusedSimpArgs false

end Go.Proofs.YteabclfhmapabaaDoor
end
section
namespace Go.Proofs.YteabclfhmapabaaDoor
open Go.RowKit Go.Maps
set_option linter.unusedVariables false
set_option linter.unusedSimpArgs false
attribute [local go_sem ↓] Go.wp_at_zero Go.wp_at_succ

end Go.Proofs.YteabclfhmapabaaDoor
end
section
namespace Go.Proofs.YteabclfhmapabaaDoor
open Go.RowKit Go.Maps
set_option linter.unusedVariables false
set_option linter.unusedSimpArgs false
attribute [local go_sem ↓] Go.wp_at_zero Go.wp_at_succ

end Go.Proofs.YteabclfhmapabaaDoor
end
section
namespace Go.Proofs.YteabclfhmapabaaDoor
open Go.RowKit Go.Maps
set_option linter.unusedVariables false
set_option linter.unusedSimpArgs false
attribute [local go_sem ↓] Go.wp_at_zero Go.wp_at_succ

theorem termsD_wf {w : World} : ∀ (d : Nat) (e : E) (a : Option Addr) (c : Nat), EIs w d e a c → ∀ t ∈ termsD d e, t.wf
  | 0, e, a, c, h, t, ht => absurd h (fun h => h)
  | d + 1, e, a, c, h, t, ht => by
    obtain ⟨_, htw, _, _, hk⟩ := h
    rw [termsD_succ] at ht
    rcases List.mem_cons.1 ht with rfl | ht
    · exact htw
    · obtain ⟨x, hx, htx⟩ := List.mem_flatMap.1 ht
      obtain ⟨i, hi, rfl⟩ := List.getElem_of_mem hx
      obtain ⟨g, off, _, _, hKS⟩ := hk (by omega)
      obtain ⟨a', c', _, he⟩ := hKS i hi
      rw [atE_eq hi] at he
      exact termsD_wf d _ a' c' he t htx
theorem variablesExpr_any (ba : Nat) (d : Nat) (e : E) (a : Option Addr) (c : Nat) (w : World) (hba : ba < w.heap.size) (hx : XAt w ba 0 e.op e.t (.slice a e.kids.length c)) (hE : EIs w d e a c) (hs : szD d e ≤ 1048576) :
    Calls Tryd.prog 55 #[.iface 123 (.pointer (some ⟨ba, 0, none⟩))] w fun e' w' => ∃ sv, e' = .returned sv ∧ w'.ownsRow w.heap.size 9 1 sv (vsT [] (termsD d e)).length ((vsT [] (termsD d e)).flatMap strB) ∧ Below w.heap.size w w' := by
  have HW : Hid _ := walkExpr_any rfl d [] (.slice none 0 0) _ e a c ba 0 (vst_new w) hba hx hE (by unfold szD at hs; simp; omega)
  unfold handE at HW
  have hmk := run_makeSet
  clear hx hE
  go_enter Tryd.func55, Tryd.ntmps55
  go_wp2_with fail
  refine Calls.mono HW.out ?_
  rintro ee w2 ⟨⟨u, rfl⟩, sv2, hv2⟩
  have c0 := hv2.co
  obtain ⟨a2, c2, rfl, _⟩ := own_form hv2.own
  go_wp2
  go_ret
  exact ⟨_, rfl, hv2.own, hv2.bel⟩
theorem vexprVars_any (d : Nat) (e : E) (a : Option Addr) (c : Nat) (w : World) (hE : EIs w d e a c) (hs : szD d e ≤ 1048576) : Calls Tryd.prog 56 #[e.val a c] w fun r w' => ∃ sv, r = .returned sv ∧ Ls w' sv (vsT [] (termsD d e)).length ((vsT [] (termsD d e)).flatMap strB) ∧ Below w.heap.size w w' := by
  have b0 := (Below.refl w.heap.size w).alloc (Nat.le_refl _) (.cells #[.int .i8 e.op, .string e.t.v, .int .i8 e.t.a.k, .int .i64 e.t.a.n, .string e.t.a.s, .slice a e.kids.length c] 54)
  have HV : Hid _ := variablesExpr_any w.heap.size d e a c (w.alloc (.cells #[.int .i8 e.op, .string e.t.v, .int .i8 e.t.a.k, .int .i64 e.t.a.n, .string e.t.a.s, .slice a e.kids.length c] 54)) (by simp) (by refine ⟨?_, ?_, ?_, ?_, ?_, ?_⟩ <;> go_simp) (hE.below b0) hs
  clear hE
  unfold E.val
  go_enter Tryd.func56, Tryd.ntmps56
  go_wp2_with fail
  refine Calls.mono HV.out ?_
  rintro ee w1 ⟨sv, rfl, ho, b1⟩
  go_wp2
  go_ret
  exact ⟨_, rfl, ls_own ho, b0.trans (b1.mono b0.size)⟩
end Go.Proofs.YteabclfhmapabaaDoor
end
section
namespace Go.Proofs.YteabclfhmapabaaDoor
open Go.RowKit Go.Maps
set_option linter.unusedVariables false
set_option linter.unusedSimpArgs false
attribute [local go_sem ↓] Go.wp_at_zero Go.wp_at_succ

end Go.Proofs.YteabclfhmapabaaDoor
end
section
namespace Go.Proofs.YteabclfhmapabaaDoor
open Go.RowKit Go.Maps
set_option linter.unusedVariables false
set_option linter.unusedSimpArgs false
attribute [local go_sem ↓] Go.wp_at_zero Go.wp_at_succ

/-- a literal: its kind, its atom, its relation, its sides -/
structure Lit4 where
  k : Int
  pr : ByteArray
  ts : List T
  rel : Int
  l : E
  r : E
/-- where a literal's lists lie -/
structure LP where
  a : Option Addr
  c : Nat
  la : Option Addr
  lc : Nat
  ra : Option Addr
  rc : Nat
def Lit4.val (x : Lit4) (p : LP) : Value := .agg #[.int .i8 x.k, .string x.pr, .slice p.a x.ts.length p.c, .int .i8 x.rel, .int .i8 x.l.op, .string x.l.t.v, .int .i8 x.l.t.a.k, .int .i64 x.l.t.a.n, .string x.l.t.a.s, .slice p.la x.l.kids.length p.lc, .int .i8 x.r.op, .string x.r.t.v, .int .i8 x.r.t.a.k, .int .i64 x.r.t.a.n, .string x.r.t.a.s, .slice p.ra x.r.kids.length p.rc]
/-- a literal in memory -/
structure LIs (w : World) (d : Nat) (x : Lit4) (p : LP) : Prop where
  kb : -128 ≤ x.k ∧ x.k ≤ 127
  rb : -128 ≤ x.rel ∧ x.rel ≤ 127
  pb : x.pr.size ≤ maxLen
  ln : x.ts.length ≤ 281474976710656
  ts : Lt w (.slice p.a x.ts.length p.c) x.ts
  l : EIs w d x.l p.la p.lc
  r : EIs w d x.r p.ra p.rc
theorem LIs.below {w w' : World} {d : Nat} {x : Lit4} {p : LP} (h : LIs w d x p) (b : Below w.heap.size w w') : LIs w' d x p := ⟨h.kb, h.rb, h.pb, h.ln, h.ts.below b, h.l.below b, h.r.below b⟩
/-- is it the zero expression? -/
def noE (e : E) : Bool := decide (e.op = 0) && (decide (e.t = T0) && decide (e.kids.length = 0))
/-- is it a literal as it may be? -/
def litB (x : Lit4) : Bool := if x.k = 1 ∨ x.k = 2 then atomB x.pr x.ts && (decide (x.rel = 0) && (noE x.l && noE x.r)) else if x.k = 3 then decide (x.pr = noS) && (decide (x.ts.length = 0) && (decide (1 ≤ x.rel) && (decide (x.rel ≤ 6) && (exprB 8 x.l && exprB 8 x.r)))) else false

set_option maxHeartbeats 1600000 in
theorem isNoExpr_any (e : E) (a : Option Addr) (c : Nat) (w : World) (hl : e.kids.length ≤ 281474976710656) : Calls Tryd.prog 69 #[e.val a c] w fun r w' => r = .returned (.bool (noE e)) ∧ Below w.heap.size w w' := by
  have BA := (Below.refl w.heap.size w).alloc (Nat.le_refl _) (.cells #[.int .i8 e.op, .string e.t.v, .int .i8 e.t.a.k, .int .i64 e.t.a.n, .string e.t.a.s, .slice a e.kids.length c] 54)
  have HN : Hid (noE e = (decide (e.op = 0) && (decide (e.t = T0) && decide (e.kids.length = 0)))) := rfl
  have hQ := run_eqT e.t T0
  unfold E.val
  by_cases h0 : e.op = 0
  · have d0 : (e.op == 0) = true := by rw [h0]; rfl
    by_cases h1 : e.t = T0
    · rw [decide_eq_true h1] at hQ
      unfold T0 V0 noS at hQ
      dsimp only at hQ
      by_cases h2 : e.kids.length = 0
      · have d2 : ((e.kids.length : Int) == 0) = true := by rw [h2]; rfl
        have HF : Hid (noE e = true) := by show _ = _; rw [HN.out, decide_eq_true h0, decide_eq_true h1, decide_eq_true h2]; rfl
        clear HN h0 h1 h2
        go_enter Tryd.func69, Tryd.ntmps69
        go_wp2
        go_ret
        exact ⟨ret_bool HF.out.symm, BA⟩
      · have d2 : ((e.kids.length : Int) == 0) = false := by rw [beq_eq_false_iff_ne]; omega
        have HF : Hid (noE e = false) := by show _ = _; rw [HN.out, decide_eq_false h2]; simp
        clear HN h0 h1 h2
        go_enter Tryd.func69, Tryd.ntmps69
        go_wp2
        go_ret
        exact ⟨ret_bool HF.out.symm, BA⟩
    · rw [decide_eq_false h1] at hQ
      unfold T0 V0 noS at hQ
      dsimp only at hQ
      have HF : Hid (noE e = false) := by show _ = _; rw [HN.out, decide_eq_false h1]; simp
      clear HN h0 h1
      go_enter Tryd.func69, Tryd.ntmps69
      go_wp2
      go_ret
      exact ⟨ret_bool HF.out.symm, BA⟩
  · have d0 : (e.op == 0) = false := by rw [beq_eq_false_iff_ne]; exact h0
    have HF : Hid (noE e = false) := by show _ = _; rw [HN.out, decide_eq_false h0]; simp
    clear HN h0
    go_enter Tryd.func69, Tryd.ntmps69
    go_wp2
    go_ret
    exact ⟨ret_bool HF.out.symm, BA⟩
theorem below_next' {wc u v : World} (h : Below wc.heap.size wc u) (h2 : Below u.heap.size u v) : Below wc.heap.size wc v := h.trans (h2.mono h.size)
set_option maxHeartbeats 3200000 in
theorem isLiteral_any (d : Nat) (x : Lit4) (p : LP) (w : World) (hT : KT w) (h : LIs w d x p) (hl1 : x.l.kids.length ≤ 281474976710656) (hl2 : x.r.kids.length ≤ 281474976710656) : Calls Tryd.prog 49 #[x.val p] w fun r w' => r = .returned (.bool (litB x)) ∧ Below w.heap.size w w' := by
  have BA := (Below.refl w.heap.size w).alloc (Nat.le_refl _) (.cells #[.int .i8 x.k, .string x.pr, .slice p.a x.ts.length p.c, .int .i8 x.rel, .int .i8 x.l.op, .string x.l.t.v, .int .i8 x.l.t.a.k, .int .i64 x.l.t.a.n, .string x.l.t.a.s, .slice p.la x.l.kids.length p.lc, .int .i8 x.r.op, .string x.r.t.v, .int .i8 x.r.t.a.k, .int .i64 x.r.t.a.n, .string x.r.t.a.s, .slice p.ra x.r.kids.length p.rc] 56)
  have hW0 : Below (w.alloc (.cells #[.int .i8 x.k, .string x.pr, .slice p.a x.ts.length p.c, .int .i8 x.rel, .int .i8 x.l.op, .string x.l.t.v, .int .i8 x.l.t.a.k, .int .i64 x.l.t.a.n, .string x.l.t.a.s, .slice p.la x.l.kids.length p.lc, .int .i8 x.r.op, .string x.r.t.v, .int .i8 x.r.t.a.k, .int .i64 x.r.t.a.n, .string x.r.t.a.s, .slice p.ra x.r.kids.length p.rc] 56)).heap.size (w.alloc (.cells #[.int .i8 x.k, .string x.pr, .slice p.a x.ts.length p.c, .int .i8 x.rel, .int .i8 x.l.op, .string x.l.t.v, .int .i8 x.l.t.a.k, .int .i64 x.l.t.a.n, .string x.l.t.a.s, .slice p.la x.l.kids.length p.lc, .int .i8 x.r.op, .string x.r.t.v, .int .i8 x.r.t.a.k, .int .i64 x.r.t.a.n, .string x.r.t.a.s, .slice p.ra x.r.kids.length p.rc] 56)) (w.alloc (.cells #[.int .i8 x.k, .string x.pr, .slice p.a x.ts.length p.c, .int .i8 x.rel, .int .i8 x.l.op, .string x.l.t.v, .int .i8 x.l.t.a.k, .int .i64 x.l.t.a.n, .string x.l.t.a.s, .slice p.la x.l.kids.length p.lc, .int .i8 x.r.op, .string x.r.t.v, .int .i8 x.r.t.a.k, .int .i64 x.r.t.a.n, .string x.r.t.a.s, .slice p.ra x.r.kids.length p.rc] 56)) := Below.refl _ _
  have HNX : Hid (∀ u v, Below (w.alloc (.cells #[.int .i8 x.k, .string x.pr, .slice p.a x.ts.length p.c, .int .i8 x.rel, .int .i8 x.l.op, .string x.l.t.v, .int .i8 x.l.t.a.k, .int .i64 x.l.t.a.n, .string x.l.t.a.s, .slice p.la x.l.kids.length p.lc, .int .i8 x.r.op, .string x.r.t.v, .int .i8 x.r.t.a.k, .int .i64 x.r.t.a.n, .string x.r.t.a.s, .slice p.ra x.r.kids.length p.rc] 56)).heap.size (w.alloc (.cells #[.int .i8 x.k, .string x.pr, .slice p.a x.ts.length p.c, .int .i8 x.rel, .int .i8 x.l.op, .string x.l.t.v, .int .i8 x.l.t.a.k, .int .i64 x.l.t.a.n, .string x.l.t.a.s, .slice p.la x.l.kids.length p.lc, .int .i8 x.r.op, .string x.r.t.v, .int .i8 x.r.t.a.k, .int .i64 x.r.t.a.n, .string x.r.t.a.s, .slice p.ra x.r.kids.length p.rc] 56)) u → Below u.heap.size u v → Below (w.alloc (.cells #[.int .i8 x.k, .string x.pr, .slice p.a x.ts.length p.c, .int .i8 x.rel, .int .i8 x.l.op, .string x.l.t.v, .int .i8 x.l.t.a.k, .int .i64 x.l.t.a.n, .string x.l.t.a.s, .slice p.la x.l.kids.length p.lc, .int .i8 x.r.op, .string x.r.t.v, .int .i8 x.r.t.a.k, .int .i64 x.r.t.a.n, .string x.r.t.a.s, .slice p.ra x.r.kids.length p.rc] 56)).heap.size (w.alloc (.cells #[.int .i8 x.k, .string x.pr, .slice p.a x.ts.length p.c, .int .i8 x.rel, .int .i8 x.l.op, .string x.l.t.v, .int .i8 x.l.t.a.k, .int .i64 x.l.t.a.n, .string x.l.t.a.s, .slice p.la x.l.kids.length p.lc, .int .i8 x.r.op, .string x.r.t.v, .int .i8 x.r.t.a.k, .int .i64 x.r.t.a.n, .string x.r.t.a.s, .slice p.ra x.r.kids.length p.rc] 56)) v) := fun u v h1 h2 => below_next' h1 h2
  have HCE : Hid (∀ u, Below (w.alloc (.cells #[.int .i8 x.k, .string x.pr, .slice p.a x.ts.length p.c, .int .i8 x.rel, .int .i8 x.l.op, .string x.l.t.v, .int .i8 x.l.t.a.k, .int .i64 x.l.t.a.n, .string x.l.t.a.s, .slice p.la x.l.kids.length p.lc, .int .i8 x.r.op, .string x.r.t.v, .int .i8 x.r.t.a.k, .int .i64 x.r.t.a.n, .string x.r.t.a.s, .slice p.ra x.r.kids.length p.rc] 56)).heap.size (w.alloc (.cells #[.int .i8 x.k, .string x.pr, .slice p.a x.ts.length p.c, .int .i8 x.rel, .int .i8 x.l.op, .string x.l.t.v, .int .i8 x.l.t.a.k, .int .i64 x.l.t.a.n, .string x.l.t.a.s, .slice p.la x.l.kids.length p.lc, .int .i8 x.r.op, .string x.r.t.v, .int .i8 x.r.t.a.k, .int .i64 x.r.t.a.n, .string x.r.t.a.s, .slice p.ra x.r.kids.length p.rc] 56)) u → Below w.heap.size w u ∧ u.cell? ⟨w.heap.size, 0, none⟩ = some (.int .i8 x.k) ∧ u.cell? ⟨w.heap.size, 1, none⟩ = some (.string x.pr) ∧ u.cell? ⟨w.heap.size, 2, none⟩ = some (.slice p.a x.ts.length p.c) ∧ u.cell? ⟨w.heap.size, 3, none⟩ = some (.int .i8 x.rel) ∧ u.cell? ⟨w.heap.size, 4, none⟩ = some (.int .i8 x.l.op) ∧ u.cell? ⟨w.heap.size, 5, none⟩ = some (.string x.l.t.v) ∧ u.cell? ⟨w.heap.size, 6, none⟩ = some (.int .i8 x.l.t.a.k) ∧ u.cell? ⟨w.heap.size, 7, none⟩ = some (.int .i64 x.l.t.a.n) ∧ u.cell? ⟨w.heap.size, 8, none⟩ = some (.string x.l.t.a.s) ∧ u.cell? ⟨w.heap.size, 9, none⟩ = some (.slice p.la x.l.kids.length p.lc) ∧ u.cell? ⟨w.heap.size, 10, none⟩ = some (.int .i8 x.r.op) ∧ u.cell? ⟨w.heap.size, 11, none⟩ = some (.string x.r.t.v) ∧ u.cell? ⟨w.heap.size, 12, none⟩ = some (.int .i8 x.r.t.a.k) ∧ u.cell? ⟨w.heap.size, 13, none⟩ = some (.int .i64 x.r.t.a.n) ∧ u.cell? ⟨w.heap.size, 14, none⟩ = some (.string x.r.t.a.s) ∧ u.cell? ⟨w.heap.size, 15, none⟩ = some (.slice p.ra x.r.kids.length p.rc)) := fun u hu => by
    have hc : ∀ (j : Nat), u.cell? ⟨w.heap.size, j, none⟩ = (w.alloc (.cells #[.int .i8 x.k, .string x.pr, .slice p.a x.ts.length p.c, .int .i8 x.rel, .int .i8 x.l.op, .string x.l.t.v, .int .i8 x.l.t.a.k, .int .i64 x.l.t.a.n, .string x.l.t.a.s, .slice p.la x.l.kids.length p.lc, .int .i8 x.r.op, .string x.r.t.v, .int .i8 x.r.t.a.k, .int .i64 x.r.t.a.n, .string x.r.t.a.s, .slice p.ra x.r.kids.length p.rc] 56)).cell? ⟨w.heap.size, j, none⟩ := fun j => hu.cell (p := ⟨w.heap.size, j, none⟩) (by simp)
    refine ⟨BA.trans (hu.mono BA.size), ?_, ?_, ?_, ?_, ?_, ?_, ?_, ?_, ?_, ?_, ?_, ?_, ?_, ?_, ?_, ?_⟩ <;> rw [hc] <;> go_simp
  have HAt : Hid (∀ u, Below w.heap.size w u → Calls Tryd.prog 68 #[.agg #[.string x.pr, .slice p.a x.ts.length p.c]] u fun r w' => r = .returned (.bool (atomB x.pr x.ts)) ∧ Below u.heap.size u w') := fun u hu => isAtom_any x.pr _ x.ts u h.pb (h.ts.below hu)
  have HNl : Hid (∀ u, Calls Tryd.prog 69 #[.agg #[.int .i8 x.l.op, .string x.l.t.v, .int .i8 x.l.t.a.k, .int .i64 x.l.t.a.n, .string x.l.t.a.s, .slice p.la x.l.kids.length p.lc]] u fun r w' => r = .returned (.bool (noE x.l)) ∧ Below u.heap.size u w') := fun u => isNoExpr_any x.l p.la p.lc u hl1
  have HNr : Hid (∀ u, Calls Tryd.prog 69 #[.agg #[.int .i8 x.r.op, .string x.r.t.v, .int .i8 x.r.t.a.k, .int .i64 x.r.t.a.n, .string x.r.t.a.s, .slice p.ra x.r.kids.length p.rc]] u fun r w' => r = .returned (.bool (noE x.r)) ∧ Below u.heap.size u w') := fun u => isNoExpr_any x.r p.ra p.rc u hl2
  have HEl : Hid (∀ u, Below w.heap.size w u → Calls Tryd.prog 70 #[.agg #[.int .i8 x.l.op, .string x.l.t.v, .int .i8 x.l.t.a.k, .int .i64 x.l.t.a.n, .string x.l.t.a.s, .slice p.la x.l.kids.length p.lc], .int .i64 8] u fun r w' => r = .returned (.bool (exprB 8 x.l)) ∧ Below u.heap.size u w') := fun u hu => isExpr_any 8 d x.l p.la p.lc u (by omega) (hT.below hu) (h.l.below hu)
  have HEr : Hid (∀ u, Below w.heap.size w u → Calls Tryd.prog 70 #[.agg #[.int .i8 x.r.op, .string x.r.t.v, .int .i8 x.r.t.a.k, .int .i64 x.r.t.a.n, .string x.r.t.a.s, .slice p.ra x.r.kids.length p.rc], .int .i64 8] u fun r w' => r = .returned (.bool (exprB 8 x.r)) ∧ Below u.heap.size u w') := fun u hu => isExpr_any 8 d x.r p.ra p.rc u (by omega) (hT.below hu) (h.r.below hu)
  have hln := h.ln
  have hkb := h.kb
  have hrb := h.rb
  clear h hT hl1 hl2
  have HB : Hid (litB x = if x.k = 1 ∨ x.k = 2 then atomB x.pr x.ts && (decide (x.rel = 0) && (noE x.l && noE x.r)) else if x.k = 3 then decide (x.pr = noS) && (decide (x.ts.length = 0) && (decide (1 ≤ x.rel) && (decide (x.rel ≤ 6) && (exprB 8 x.l && exprB 8 x.r)))) else false) := rfl
  unfold Lit4.val
  by_cases k12 : x.k = 1 ∨ x.k = 2
  · rw [if_pos k12] at HB
    have F : (x.k == 1) = true ∨ ((x.k == 1) = false ∧ (x.k == 2) = true) := by
      rcases k12 with e | e
      · exact .inl (by rw [e]; rfl)
      · exact .inr ⟨by rw [e]; rfl, by rw [e]; rfl⟩
    clear k12 BA
    cases hA : atomB x.pr x.ts
    · have HF : Hid (litB x = false) := by show _ = _; rw [HB.out, hA]; rfl
      clear HB
      rcases F with f1 | ⟨f1, f2⟩
      all_goals
        go_enter Tryd.func49, Tryd.ntmps49
        go_wp2_with (first | (go_at_call_of 68 (Value.string x.pr); refine Calls.mono (HAt.out _ (HCE.out _ (by assumption)).1) ?_; rw [hA]; rintro ee wn ⟨rfl, bn⟩; have hWn := HNX.out _ _ (by assumption) bn; obtain ⟨hwn, c0, c1, c2, c3, c4, c5, c6, c7, c8, c9, c10, c11, c12, c13, c14, c15⟩ := HCE.out _ hWn))
        all_goals
          go_ret
          exact ⟨ret_bool HF.out.symm, (HCE.out _ (by assumption)).1⟩
    · by_cases hr0 : x.rel = 0
      · have dr : (x.rel == 0) = true := by rw [hr0]; rfl
        cases hNl : noE x.l
        · have HF : Hid (litB x = false) := by show _ = _; rw [HB.out, hNl]; simp
          clear HB hr0
          rcases F with f1 | ⟨f1, f2⟩
          all_goals
            go_enter Tryd.func49, Tryd.ntmps49
            go_wp2_with (first | (go_at_call_of 68 (Value.string x.pr); refine Calls.mono (HAt.out _ (HCE.out _ (by assumption)).1) ?_; rw [hA]; rintro ee wn ⟨rfl, bn⟩; have hWn := HNX.out _ _ (by assumption) bn; obtain ⟨hwn, c0, c1, c2, c3, c4, c5, c6, c7, c8, c9, c10, c11, c12, c13, c14, c15⟩ := HCE.out _ hWn) | (go_at_call_of 69 (Value.string x.l.t.v); refine Calls.mono (HNl.out _) ?_; rw [hNl]; rintro ee wn ⟨rfl, bn⟩; have hWn := HNX.out _ _ (by assumption) bn; obtain ⟨hwn, c0, c1, c2, c3, c4, c5, c6, c7, c8, c9, c10, c11, c12, c13, c14, c15⟩ := HCE.out _ hWn))
            all_goals
              go_ret
              exact ⟨ret_bool HF.out.symm, (HCE.out _ (by assumption)).1⟩
        · cases hNr : noE x.r
          all_goals
            have HF : Hid (litB x = noE x.r) := by show _ = _; rw [HB.out, hA, hNl, hNr, decide_eq_true hr0]; rfl
            rw [hNr] at HF
            clear HB hr0
            rcases F with f1 | ⟨f1, f2⟩
            all_goals
              go_enter Tryd.func49, Tryd.ntmps49
              go_wp2_with (first | (go_at_call_of 68 (Value.string x.pr); refine Calls.mono (HAt.out _ (HCE.out _ (by assumption)).1) ?_; rw [hA]; rintro ee wn ⟨rfl, bn⟩; have hWn := HNX.out _ _ (by assumption) bn; obtain ⟨hwn, c0, c1, c2, c3, c4, c5, c6, c7, c8, c9, c10, c11, c12, c13, c14, c15⟩ := HCE.out _ hWn) | (go_at_call_of 69 (Value.string x.l.t.v); refine Calls.mono (HNl.out _) ?_; rw [hNl]; rintro ee wn ⟨rfl, bn⟩; have hWn := HNX.out _ _ (by assumption) bn; obtain ⟨hwn, c0, c1, c2, c3, c4, c5, c6, c7, c8, c9, c10, c11, c12, c13, c14, c15⟩ := HCE.out _ hWn) | (go_at_call_of 69 (Value.string x.r.t.v); refine Calls.mono (HNr.out _) ?_; rw [hNr]; rintro ee wn ⟨rfl, bn⟩; have hWn := HNX.out _ _ (by assumption) bn; obtain ⟨hwn, c0, c1, c2, c3, c4, c5, c6, c7, c8, c9, c10, c11, c12, c13, c14, c15⟩ := HCE.out _ hWn))
              all_goals
                go_ret
                exact ⟨ret_bool HF.out.symm, (HCE.out _ (by assumption)).1⟩
      · have dr : (x.rel == 0) = false := by rw [beq_eq_false_iff_ne]; exact hr0
        have HF : Hid (litB x = false) := by show _ = _; rw [HB.out, decide_eq_false hr0]; simp
        clear HB hr0
        rcases F with f1 | ⟨f1, f2⟩
        all_goals
          go_enter Tryd.func49, Tryd.ntmps49
          go_wp2_with (first | (go_at_call_of 68 (Value.string x.pr); refine Calls.mono (HAt.out _ (HCE.out _ (by assumption)).1) ?_; rw [hA]; rintro ee wn ⟨rfl, bn⟩; have hWn := HNX.out _ _ (by assumption) bn; obtain ⟨hwn, c0, c1, c2, c3, c4, c5, c6, c7, c8, c9, c10, c11, c12, c13, c14, c15⟩ := HCE.out _ hWn))
          all_goals
            go_ret
            exact ⟨ret_bool HF.out.symm, (HCE.out _ (by assumption)).1⟩
  · rw [if_neg k12] at HB
    have f1 : (x.k == 1) = false := by rw [beq_eq_false_iff_ne]; omega
    have f2 : (x.k == 2) = false := by rw [beq_eq_false_iff_ne]; omega
    by_cases k3 : x.k = 3
    · rw [if_pos k3] at HB
      have f3 : (x.k == 3) = true := by rw [k3]; rfl
      clear k12 k3 BA
      by_cases hp0 : x.pr = noS
      · have dp : x.pr.toList.isEmpty = true := by rw [hp0, ByteArray.toList_eq]; rfl
        by_cases hn0 : x.ts.length = 0
        · have dn : ((x.ts.length : Int) == 0) = true := by rw [hn0]; rfl
          by_cases h1 : 1 ≤ x.rel
          · by_cases h6 : x.rel ≤ 6
            · cases hEl : exprB 8 x.l
              · have HF : Hid (litB x = false) := by show _ = _; rw [HB.out, hEl]; simp
                clear HB hp0 hn0
                go_enter Tryd.func49, Tryd.ntmps49
                go_wp2_with (first | (go_at_call_of 70 (Value.string x.l.t.v); refine Calls.mono (HEl.out _ (HCE.out _ (by assumption)).1) ?_; rw [hEl]; rintro ee wn ⟨rfl, bn⟩; have hWn := HNX.out _ _ (by assumption) bn; obtain ⟨hwn, c0, c1, c2, c3, c4, c5, c6, c7, c8, c9, c10, c11, c12, c13, c14, c15⟩ := HCE.out _ hWn))
                all_goals
                  go_ret
                  exact ⟨ret_bool HF.out.symm, (HCE.out _ (by assumption)).1⟩
              · cases hEr : exprB 8 x.r
                all_goals
                  have HF : Hid (litB x = exprB 8 x.r) := by show _ = _; rw [HB.out, hEl, hEr, decide_eq_true hp0, decide_eq_true hn0, decide_eq_true h1, decide_eq_true h6]; rfl
                  rw [hEr] at HF
                  clear HB hp0 hn0
                  go_enter Tryd.func49, Tryd.ntmps49
                  go_wp2_with (first | (go_at_call_of 70 (Value.string x.l.t.v); refine Calls.mono (HEl.out _ (HCE.out _ (by assumption)).1) ?_; rw [hEl]; rintro ee wn ⟨rfl, bn⟩; have hWn := HNX.out _ _ (by assumption) bn; obtain ⟨hwn, c0, c1, c2, c3, c4, c5, c6, c7, c8, c9, c10, c11, c12, c13, c14, c15⟩ := HCE.out _ hWn) | (go_at_call_of 70 (Value.string x.r.t.v); refine Calls.mono (HEr.out _ (HCE.out _ (by assumption)).1) ?_; rw [hEr]; rintro ee wn ⟨rfl, bn⟩; have hWn := HNX.out _ _ (by assumption) bn; obtain ⟨hwn, c0, c1, c2, c3, c4, c5, c6, c7, c8, c9, c10, c11, c12, c13, c14, c15⟩ := HCE.out _ hWn))
                  all_goals
                    go_ret
                    exact ⟨ret_bool HF.out.symm, (HCE.out _ (by assumption)).1⟩
            · have HF : Hid (litB x = false) := by show _ = _; rw [HB.out, decide_eq_false h6]; simp
              clear HB hp0 hn0
              go_enter Tryd.func49, Tryd.ntmps49
              go_wp2
              all_goals
                go_ret
                exact ⟨ret_bool HF.out.symm, (HCE.out _ (by assumption)).1⟩
          · have HF : Hid (litB x = false) := by show _ = _; rw [HB.out, decide_eq_false h1]; simp
            clear HB hp0 hn0
            go_enter Tryd.func49, Tryd.ntmps49
            go_wp2
            all_goals
              go_ret
              exact ⟨ret_bool HF.out.symm, (HCE.out _ (by assumption)).1⟩
        · have dn : ((x.ts.length : Int) == 0) = false := by rw [beq_eq_false_iff_ne]; omega
          have HF : Hid (litB x = false) := by show _ = _; rw [HB.out, decide_eq_false hn0]; simp
          clear HB hp0 hn0
          go_enter Tryd.func49, Tryd.ntmps49
          go_wp2
          all_goals
            go_ret
            exact ⟨ret_bool HF.out.symm, (HCE.out _ (by assumption)).1⟩
      · have dp := some_iff x.pr hp0
        have HF : Hid (litB x = false) := by show _ = _; rw [HB.out, decide_eq_false hp0]; simp
        clear HB hp0
        go_enter Tryd.func49, Tryd.ntmps49
        go_wp2
        all_goals
          go_ret
          exact ⟨ret_bool HF.out.symm, (HCE.out _ (by assumption)).1⟩
    · rw [if_neg k3] at HB
      have f3 : (x.k == 3) = false := by rw [beq_eq_false_iff_ne]; omega
      have HF : Hid (litB x = false) := HB.out
      clear HB k12 k3 BA
      go_enter Tryd.func49, Tryd.ntmps49
      go_wp2
      all_goals
        go_ret
        exact ⟨ret_bool HF.out.symm, (HCE.out _ (by assumption)).1⟩
end Go.Proofs.YteabclfhmapabaaDoor
end
