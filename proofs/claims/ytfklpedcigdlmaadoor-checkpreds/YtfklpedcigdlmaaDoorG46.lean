import Derived.Test.YtfklpedcigdlmaaDoorTermTree
import Derived.Deep.RegionHeld3
import Derived.Test.YtfklpedcigdlmaaDoorG6
import Derived.Deep.RegionWith
section
namespace Go.Proofs.YtfklpedcigdlmaaDoor
open Go.RowKit Go.Maps
set_option linter.unusedVariables false
set_option linter.unusedSimpArgs false
attribute [local go_sem ↓] Go.wp_at_zero Go.wp_at_succ

theorem run_neqT (t u : T) (w : World) :
    (binOp .neq 77 (.agg #[.string t.v, .int .i8 t.a.k, .int .i64 t.a.n, .string t.a.s]) (.agg #[.string u.v, .int .i8 u.a.k, .int .i64 u.a.n, .string u.a.s])).run Tryd.prog w = .ok (.bool (!decide (t = u))) w := by
  obtain ⟨tv, k1, n1, s1⟩ := t
  obtain ⟨uv, k2, n2, s2⟩ := u
  dsimp only
  by_cases hv : tv.toList = uv.toList
  · have ev := toList_inj hv
    subst ev
    by_cases hk : k1 = k2
    · by_cases hn : n1 = n2
      · by_cases hs : s1.toList = s2.toList
        · have := toList_inj hs
          subst hk hn this
          go_simp
        · have e : decide ((⟨tv, k1, n1, s1⟩ : T) = ⟨tv, k2, n2, s2⟩) = false := decide_eq_false (fun h => hs (by cases h; rfl))
          rw [e]
          go_simp
      · have e : decide ((⟨tv, k1, n1, s1⟩ : T) = ⟨tv, k2, n2, s2⟩) = false := decide_eq_false (fun h => hn (by cases h; rfl))
        rw [e]
        go_simp
    · have e : decide ((⟨tv, k1, n1, s1⟩ : T) = ⟨tv, k2, n2, s2⟩) = false := decide_eq_false (fun h => hk (by cases h; rfl))
      rw [e]
      go_simp
  · have e : decide ((⟨tv, k1, n1, s1⟩ : T) = ⟨uv, k2, n2, s2⟩) = false := decide_eq_false (fun h => hv (by cases h; rfl))
    rw [e]
    go_simp
end Go.Proofs.YtfklpedcigdlmaaDoor
end
section
namespace Go.Proofs.YtfklpedcigdlmaaDoor
open Go.RowKit Go.Maps
set_option linter.unusedVariables false
set_option linter.unusedSimpArgs false
attribute [local go_sem ↓] Go.wp_at_zero Go.wp_at_succ

/-- a literal: its kind, its atom, its relation, its sides -/
structure Lit4 where
  k : Int
  pr : ByteArray
  ts : List T
  rel : Int
  l : E
  r : E
/-- where a literal's lists lie -/
structure LP where
  a : Option Addr
  c : Nat
  la : Option Addr
  lc : Nat
  ra : Option Addr
  rc : Nat
def Lit4.val (x : Lit4) (p : LP) : Value := .agg #[.int .i8 x.k, .string x.pr, .slice p.a x.ts.length p.c, .int .i8 x.rel, .int .i8 x.l.op, .string x.l.t.v, .int .i8 x.l.t.a.k, .int .i64 x.l.t.a.n, .string x.l.t.a.s, .slice p.la x.l.kids.length p.lc, .int .i8 x.r.op, .string x.r.t.v, .int .i8 x.r.t.a.k, .int .i64 x.r.t.a.n, .string x.r.t.a.s, .slice p.ra x.r.kids.length p.rc]
/-- a literal in memory -/
structure LIs (w : World) (d : Nat) (x : Lit4) (p : LP) : Prop where
  kb : -128 ≤ x.k ∧ x.k ≤ 127
  rb : -128 ≤ x.rel ∧ x.rel ≤ 127
  pb : x.pr.size ≤ maxLen
  ln : x.ts.length ≤ 281474976710656
  ts : Lt w (.slice p.a x.ts.length p.c) x.ts
  l : EIs w d x.l p.la p.lc
  r : EIs w d x.r p.ra p.rc
theorem LIs.below {w w' : World} {d : Nat} {x : Lit4} {p : LP} (h : LIs w d x p) (b : Below w.heap.size w w') : LIs w' d x p := ⟨h.kb, h.rb, h.pb, h.ln, h.ts.below b, h.l.below b, h.r.below b⟩
/-- is it the zero expression? -/
def noE (e : E) : Bool := decide (e.op = 0) && (decide (e.t = T0) && decide (e.kids.length = 0))
/-- is it a literal as it may be? -/
def litB (x : Lit4) : Bool := if x.k = 1 ∨ x.k = 2 then atomB x.pr x.ts && (decide (x.rel = 0) && (noE x.l && noE x.r)) else if x.k = 3 then decide (x.pr = noS) && (decide (x.ts.length = 0) && (decide (1 ≤ x.rel) && (decide (x.rel ≤ 6) && (exprB 8 x.l && exprB 8 x.r)))) else false

theorem below_next' {wc u v : World} (h : Below wc.heap.size wc u) (h2 : Below u.heap.size u v) : Below wc.heap.size wc v := h.trans (h2.mono h.size)
end Go.Proofs.YtfklpedcigdlmaaDoor
end
