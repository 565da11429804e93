import Derived.Test.YteeiiojiipkplaaDoorTermVars
import Derived.Test.YteeiiojiipkplaaDoorTreeVars2
import Derived.Test.YteeiiojiipkplaaDoorLitTwinW
namespace Go.Proofs.YteeiiojiipkplaaDoor
open Go.RowKit Go.Maps
set_option linter.unusedVariables false
set_option linter.unusedSimpArgs false
attribute [local go_sem ↓] Go.wp_at_zero Go.wp_at_succ

/-- the terms of a literal, in their order -/
def termsL (d : Nat) (x : Lit4) : List T := x.ts ++ (termsD d x.l ++ termsD d x.r)
/-- a literal's sixteen cells at a place -/
structure LAt (w : World) (g o : Nat) (x : Lit4) (p : LP) : Prop where
  k : w.cell? ⟨g, o, none⟩ = some (.int .i8 x.k)
  pr : w.cell? ⟨g, o + 1, none⟩ = some (.string x.pr)
  ts : w.cell? ⟨g, o + 2, none⟩ = some (.slice p.a x.ts.length p.c)
  rel : w.cell? ⟨g, o + 3, none⟩ = some (.int .i8 x.rel)
  l : XAt w g (o + 4) x.l.op x.l.t (.slice p.la x.l.kids.length p.lc)
  r : XAt w g (o + 10) x.r.op x.r.t (.slice p.ra x.r.kids.length p.rc)
theorem liRule (v : Value) (w : World) : (Instr.typeAssert (.iface 57 v) 20 85 true).run Tryd.prog w = .ok (.tuple #[.pointer none, .bool false]) w := by kernel_rfl
theorem liLiteral (v : Value) (w : World) : (Instr.typeAssert (.iface 57 v) 20 57 true).run Tryd.prog w = .ok (.tuple #[v, .bool true]) w := by kernel_rfl
set_option maxHeartbeats 3200000 in
set_option maxRecDepth 100000 in
theorem walkLiteral_any {B : Nat} {w0 : World} {bo bs bm : Nat} {ns : List ByteArray} {sv : Value} {w : World} (h : Vst B w0 bo bs bm ns sv w) (hB : B = w0.heap.size) (g o : Nat) (hg : g < B) (d : Nat) (x : Lit4) (p : LP) (hx : LAt w0 g o x p) (hL : LIs w0 d x p) (hn : ns.length + (termsL d x).length ≤ 4398046511104) :
    Calls Tryd.prog 33 #[.iface 57 (.pointer (some ⟨g, o, none⟩)), handV bs bo] w fun e w' => (∃ u, e = .returned u) ∧ ∃ sv', Vst B w0 bo bs bm (vsT ns (termsL d x)) sv' w' := by
  unfold termsL at hn ⊢
  simp only [List.length_append] at hn
  rw [vsT_append, vsT_append]
  have l1 := vsT_len x.ts ns
  have l2 := vsT_len (termsD d x.l) (vsT ns x.ts)
  have HA : Hid _ := walkAtom_any h hB g (o + 1) hg p.a p.c x.ts hx.ts hL.ts (by omega)
  have HL1 : Hid (∀ sv1 w1, Vst B w0 bo bs bm (vsT ns x.ts) sv1 w1 → Calls Tryd.prog 33 #[.iface 90 (.pointer (some ⟨g, o + 4, none⟩)), handE bs bo] w1 fun e' w' => (∃ u, e' = .returned u) ∧ ∃ sv', Vst B w0 bo bs bm (vsT (vsT ns x.ts) (termsD d x.l)) sv' w') := fun sv1 w1 hv => walkExpr_any hB d _ sv1 w1 x.l p.la p.lc g (o + 4) hv hg hx.l hL.l (by omega)
  have HL2 : Hid (∀ sv1 w1, Vst B w0 bo bs bm (vsT (vsT ns x.ts) (termsD d x.l)) sv1 w1 → Calls Tryd.prog 33 #[.iface 90 (.pointer (some ⟨g, o + 10, none⟩)), handE bs bo] w1 fun e' w' => (∃ u, e' = .returned u) ∧ ∃ sv', Vst B w0 bo bs bm (vsT (vsT (vsT ns x.ts) (termsD d x.l)) (termsD d x.r)) sv' w') := fun sv1 w1 hv => walkExpr_any hB d _ sv1 w1 x.r p.ra p.rc g (o + 10) hv hg hx.r hL.r (by omega)
  have h1 := liRule (.pointer (some ⟨g, o, none⟩))
  have h2 := liLiteral (.pointer (some ⟨g, o, none⟩))
  unfold handV at HA ⊢
  unfold handE at HL1 HL2
  generalize vsT (vsT (vsT ns x.ts) (termsD d x.l)) (termsD d x.r) = n3 at HL2 ⊢
  generalize vsT (vsT ns x.ts) (termsD d x.l) = n2 at HL1 HL2
  generalize vsT ns x.ts = n1 at HA HL1
  clear l1 l2 h hx hL hn
  go_enter Tryd.func33, Tryd.ntmps33
  go_wp2_with fail
  refine Calls.mono HA.out ?_
  rintro e w1 ⟨⟨u, rfl⟩, sv1, hv1⟩
  go_wp2_with fail
  refine Calls.mono (HL1.out _ _ hv1) ?_
  rintro e w2 ⟨⟨u2, rfl⟩, sv2, hv2⟩
  go_wp2_with fail
  refine Calls.mono (HL2.out _ _ hv2) ?_
  rintro e w3 ⟨⟨u3, rfl⟩, sv3, hv3⟩
  go_wp2
  go_end0
  exact ⟨⟨_, rfl⟩, _, hv3⟩
theorem variablesLiteral_any (g : Nat) (d : Nat) (x : Lit4) (p : LP) (w : World) (hg : g < w.heap.size) (hx : LAt w g 0 x p) (hL : LIs w d x p) (hn : (termsL d x).length ≤ 4398046511104) :
    Calls Tryd.prog 19 #[.iface 57 (.pointer (some ⟨g, 0, none⟩))] w fun e' w' => ∃ sv, e' = .returned sv ∧ w'.ownsRow w.heap.size 9 1 sv (vsT [] (termsL d x)).length ((vsT [] (termsL d x)).flatMap strB) ∧ Below w.heap.size w w' := by
  have HW : Hid _ := walkLiteral_any (vst_new w) rfl g 0 hg d x p hx hL (by simpa using hn)
  unfold handV at HW
  have hmk := run_makeSet
  clear hx hL
  go_enter Tryd.func19, Tryd.ntmps19
  go_wp2_with fail
  refine Calls.mono HW.out ?_
  rintro ee w2 ⟨⟨u, rfl⟩, sv2, hv2⟩
  have c0 := hv2.co
  obtain ⟨a2, c2, rfl, _⟩ := own_form hv2.own
  go_wp2
  go_ret
  exact ⟨_, rfl, hv2.own, hv2.bel⟩
theorem lat_rl {w : World} {b : Nat} {x : Lit4} {p : LP} (h : RL w b 38 [.int .i8 x.k, .string x.pr, .slice p.a x.ts.length p.c, .int .i8 x.rel, .int .i8 x.l.op, .string x.l.t.v, .int .i8 x.l.t.a.k, .int .i64 x.l.t.a.n, .string x.l.t.a.s, .slice p.la x.l.kids.length p.lc, .int .i8 x.r.op, .string x.r.t.v, .int .i8 x.r.t.a.k, .int .i64 x.r.t.a.n, .string x.r.t.a.s, .slice p.ra x.r.kids.length p.rc]) : LAt w b 0 x p :=
  ⟨h.at (j := 0) rfl, h.at (j := 1) rfl, h.at (j := 2) rfl, h.at (j := 3) rfl, ⟨h.at (j := 4) rfl, h.at (j := 5) rfl, h.at (j := 6) rfl, h.at (j := 7) rfl, h.at (j := 8) rfl, h.at (j := 9) rfl⟩, ⟨h.at (j := 10) rfl, h.at (j := 11) rfl, h.at (j := 12) rfl, h.at (j := 13) rfl, h.at (j := 14) rfl, h.at (j := 15) rfl⟩⟩
theorem vliteralVars_any (d : Nat) (x : Lit4) (p : LP) (w : World) (hL : LIs w d x p) (hn : (termsL d x).length ≤ 4398046511104) : Calls Tryd.prog 9 #[x.val p] w fun r w' => ∃ sv, r = .returned sv ∧ Ls w' sv (vsT [] (termsL d x)).length ((vsT [] (termsL d x)).flatMap strB) ∧ Below w.heap.size w w' := by
  have b0 := (Below.refl w.heap.size w).alloc (Nat.le_refl _) (.cells #[.int .i8 x.k, .string x.pr, .slice p.a x.ts.length p.c, .int .i8 x.rel, .int .i8 x.l.op, .string x.l.t.v, .int .i8 x.l.t.a.k, .int .i64 x.l.t.a.n, .string x.l.t.a.s, .slice p.la x.l.kids.length p.lc, .int .i8 x.r.op, .string x.r.t.v, .int .i8 x.r.t.a.k, .int .i64 x.r.t.a.n, .string x.r.t.a.s, .slice p.ra x.r.kids.length p.rc] 38)
  have HV : Hid _ := variablesLiteral_any w.heap.size d x p _ (by simp) (lat_rl (rl_new w #[.int .i8 x.k, .string x.pr, .slice p.a x.ts.length p.c, .int .i8 x.rel, .int .i8 x.l.op, .string x.l.t.v, .int .i8 x.l.t.a.k, .int .i64 x.l.t.a.n, .string x.l.t.a.s, .slice p.la x.l.kids.length p.lc, .int .i8 x.r.op, .string x.r.t.v, .int .i8 x.r.t.a.k, .int .i64 x.r.t.a.n, .string x.r.t.a.s, .slice p.ra x.r.kids.length p.rc] 38)) (hL.below b0) hn
  have HB : Hid (Below w.heap.size w _) := b0
  clear hL
  unfold Lit4.val
  go_enter Tryd.func9, Tryd.ntmps9
  go_wp2_with fail
  refine Calls.mono HV.out ?_
  rintro ee w1 ⟨sv, rfl, ho, b1⟩
  go_wp2
  go_ret
  exact ⟨_, rfl, ls_own ho, b0.trans (b1.mono b0.size)⟩
end Go.Proofs.YteeiiojiipkplaaDoor
