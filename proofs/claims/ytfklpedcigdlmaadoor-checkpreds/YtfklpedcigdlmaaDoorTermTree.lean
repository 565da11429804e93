import Derived.Test.YtfklpedcigdlmaaDoorG3
namespace Go.Proofs.YtfklpedcigdlmaaDoor
open Go.RowKit Go.Maps
set_option linter.unusedVariables false
set_option linter.unusedSimpArgs false
attribute [local go_sem ↓] Go.wp_at_zero Go.wp_at_succ

theorem below_drewN {B : Nat} {a w : World} (h : Below B a w) (n : Nat) : Below B a (w.drewN n) := ⟨h.os, h.tape, h.output, h.size, h.block⟩
/-- an expression: its operation, its term, its kids -/
inductive E where
  | mk (op : Int) (t : T) (kids : List E)
def E.op : E → Int | .mk o _ _ => o
def E.t : E → T | .mk _ t _ => t
def E.kids : E → List E | .mk _ _ k => k
theorem op_mk (o : Int) (t : T) (k : List E) : (E.mk o t k).op = o := rfl
theorem t_mk (o : Int) (t : T) (k : List E) : (E.mk o t k).t = t := rfl
theorem kids_mk (o : Int) (t : T) (k : List E) : (E.mk o t k).kids = k := rfl
def E0 : E := .mk 0 T0 []
def atE (l : List E) (i : Nat) : E := l.getD i E0
theorem atE_eq {l : List E} {i : Nat} (h : i < l.length) : atE l i = l[i] := by simp [atE, List.getD, List.getElem?_eq_getElem h]

/-- how many kids an operation has -/
def kidTab : List Int := [0, 1, 2, 2, 2, 2, 2, 2, 1, 1, 1]
def kidsOf (op : Nat) : Nat := (kidTab.getD op 0).toNat
/-- is it a term that is no blank? -/
def namedB (t : T) : Bool := !decide (t.v = blankS) && termB t
/-- is it an expression as it may be, of at most room levels? -/
def exprB : Nat → E → Bool
  | 0, _ => false
  | r + 1, e => decide (0 ≤ e.op) && decide (e.op < 11) && decide (e.kids.length = kidsOf e.op.toNat) && (if e.op = 0 then namedB e.t else e.kids.all (exprB r) && decide (e.t = T0))

/-- an expression's six cells, at a place -/
structure XAt (w : World) (g o : Nat) (op : Int) (t : T) (s : Value) : Prop where
  c0 : w.cell? ⟨g, o, none⟩ = some (.int .i8 op)
  c1 : w.cell? ⟨g, o + 1, none⟩ = some (.string t.v)
  c2 : w.cell? ⟨g, o + 2, none⟩ = some (.int .i8 t.a.k)
  c3 : w.cell? ⟨g, o + 3, none⟩ = some (.int .i64 t.a.n)
  c4 : w.cell? ⟨g, o + 4, none⟩ = some (.string t.a.s)
  c5 : w.cell? ⟨g, o + 5, none⟩ = some s
theorem XAt.below {w w' : World} {g o : Nat} {op : Int} {t : T} {s : Value} (h : XAt w g o op t s) (b : Below w.heap.size w w') (hg : g < w.heap.size) : XAt w' g o op t s :=
  ⟨by rw [b.cell (p := ⟨g, o, none⟩) hg]; exact h.c0, by rw [b.cell (p := ⟨g, o + 1, none⟩) hg]; exact h.c1, by rw [b.cell (p := ⟨g, o + 2, none⟩) hg]; exact h.c2, by rw [b.cell (p := ⟨g, o + 3, none⟩) hg]; exact h.c3, by rw [b.cell (p := ⟨g, o + 4, none⟩) hg]; exact h.c4, by rw [b.cell (p := ⟨g, o + 5, none⟩) hg]; exact h.c5⟩
def valX (op : Int) (t : T) (s : Value) : Value := .agg #[.int .i8 op, .string t.v, .int .i8 t.a.k, .int .i64 t.a.n, .string t.a.s, s]

/-- an expression whose kids lie in memory, to a depth: its kids' row is at a, with room for c -/
def EIs (w : World) : Nat → E → Option Addr → Nat → Prop
  | 0, _, _, _ => False
  | d + 1, e, a, c => ((-128 ≤ e.op ∧ e.op ≤ 127) ∧ e.kids.length ≤ 281474976710656) ∧ e.t.wf ∧ e.kids.length ≤ c ∧ c ≤ maxLen ∧
    (0 < e.kids.length → ∃ g off, a = some ⟨g, off, none⟩ ∧ g < w.heap.size ∧ ∀ i, i < e.kids.length → ∃ a' c', XAt w g (off + i * 6) (atE e.kids i).op (atE e.kids i).t (.slice a' (atE e.kids i).kids.length c') ∧ EIs w d (atE e.kids i) a' c')
theorem EIs.below {w w' : World} (b : Below w.heap.size w w') : ∀ {d : Nat} {e : E} {a : Option Addr} {c : Nat}, EIs w d e a c → EIs w' d e a c
  | 0, _, _, _, h => h
  | d + 1, e, a, c, h => by
    obtain ⟨h1, h2, h3, h4, h5⟩ := h
    refine ⟨h1, h2, h3, h4, fun h0 => ?_⟩
    obtain ⟨g, off, ha, hg, hk⟩ := h5 h0
    refine ⟨g, off, ha, Nat.lt_of_lt_of_le hg b.size, fun i hi => ?_⟩
    obtain ⟨a', c', hx, he⟩ := hk i hi
    exact ⟨a', c', hx.below b hg, he.below b⟩
theorem EIs.more {w : World} : ∀ {d : Nat} {e : E} {a : Option Addr} {c : Nat}, EIs w d e a c → EIs w (d + 1) e a c
  | 0, _, _, _, h => h.elim
  | d + 1, e, a, c, h => by
    obtain ⟨h1, h2, h3, h4, h5⟩ := h
    refine ⟨h1, h2, h3, h4, fun h0 => ?_⟩
    obtain ⟨g, off, ha, hg, hk⟩ := h5 h0
    refine ⟨g, off, ha, hg, fun i hi => ?_⟩
    obtain ⟨a', c', hx, he⟩ := hk i hi
    exact ⟨a', c', hx, he.more⟩
def E.val (e : E) (a : Option Addr) (c : Nat) : Value := .agg #[.int .i8 e.op, .string e.t.v, .int .i8 e.t.a.k, .int .i64 e.t.a.n, .string e.t.a.s, .slice a e.kids.length c]

theorem allE_not {f : E → Bool} {l : List E} {k : Nat} (h : k < l.length) (hn : f (atE l k) = false) : l.all f = false := by
  rw [← Bool.not_eq_true]
  intro ha
  rw [List.all_eq_true] at ha
  rw [atE_eq h] at hn
  rw [ha _ (List.getElem_mem h)] at hn
  cases hn
theorem allE_take {f : E → Bool} {l : List E} {k : Nat} (h : k < l.length) : (l.take (k + 1)).all f = ((l.take k).all f && f (atE l k)) := by
  have e : l.take (k + 1) = l.take k ++ [l[k]] := by rw [List.take_add_one, List.getElem?_eq_getElem h]; rfl
  rw [e, List.all_append, atE_eq h]
  simp

theorem run_eqT (t u : T) (w : World) :
    (binOp .eql 77 (.agg #[.string t.v, .int .i8 t.a.k, .int .i64 t.a.n, .string t.a.s]) (.agg #[.string u.v, .int .i8 u.a.k, .int .i64 u.a.n, .string u.a.s])).run Tryd.prog w = .ok (.bool (decide (t = u))) w := by
  obtain ⟨tv, k1, n1, s1⟩ := t
  obtain ⟨uv, k2, n2, s2⟩ := u
  dsimp only
  by_cases hv : tv.toList = uv.toList
  · have ev := toList_inj hv
    subst ev
    by_cases hk : k1 = k2
    · by_cases hn : n1 = n2
      · by_cases hs : s1.toList = s2.toList
        · have := toList_inj hs
          subst hk hn this
          go_simp
        · have e : decide ((⟨tv, k1, n1, s1⟩ : T) = ⟨tv, k2, n2, s2⟩) = false := decide_eq_false (fun h => hs (by cases h; rfl))
          rw [e]
          go_simp
      · have e : decide ((⟨tv, k1, n1, s1⟩ : T) = ⟨tv, k2, n2, s2⟩) = false := decide_eq_false (fun h => hn (by cases h; rfl))
        rw [e]
        go_simp
    · have e : decide ((⟨tv, k1, n1, s1⟩ : T) = ⟨tv, k2, n2, s2⟩) = false := decide_eq_false (fun h => hk (by cases h; rfl))
      rw [e]
      go_simp
  · have e : decide ((⟨tv, k1, n1, s1⟩ : T) = ⟨uv, k2, n2, s2⟩) = false := decide_eq_false (fun h => hv (by cases h; rfl))
    rw [e]
    go_simp

end Go.Proofs.YtfklpedcigdlmaaDoor
