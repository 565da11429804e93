import Derived.Test.YtgfnijhhhgjabaaGreatDoorG10
import Derived.Test.YtgfnijhhhgjabaaGreatDoorG20
import Derived.Test.YtgfnijhhhgjabaaGreatDoorG9
section
namespace Go.Proofs.YtgfnijhhhgjabaaGreatDoor
open Go.RowKit Go.Maps
set_option linter.unusedVariables false
set_option linter.unusedSimpArgs false
attribute [local go_sem ↓] Go.wp_at_zero Go.wp_at_succ

end Go.Proofs.YtgfnijhhhgjabaaGreatDoor
end
section
namespace Go.Proofs.YtgfnijhhhgjabaaGreatDoor
open Go.RowKit Go.Maps
set_option linter.unusedVariables false
set_option linter.unusedSimpArgs false
attribute [local go_sem ↓] Go.wp_at_zero Go.wp_at_succ

/-- the terms of a literal, in their order -/
def termsL (d : Nat) (x : Lit4) : List T := x.ts ++ (termsD d x.l ++ termsD d x.r)
/-- a literal's sixteen cells at a place -/
structure LAt (w : World) (g o : Nat) (x : Lit4) (p : LP) : Prop where
  k : w.cell? ⟨g, o, none⟩ = some (.int .i8 x.k)
  pr : w.cell? ⟨g, o + 1, none⟩ = some (.string x.pr)
  ts : w.cell? ⟨g, o + 2, none⟩ = some (.slice p.a x.ts.length p.c)
  rel : w.cell? ⟨g, o + 3, none⟩ = some (.int .i8 x.rel)
  l : XAt w g (o + 4) x.l.op x.l.t (.slice p.la x.l.kids.length p.lc)
  r : XAt w g (o + 10) x.r.op x.r.t (.slice p.ra x.r.kids.length p.rc)
theorem liRule (v : Value) (w : World) : (Instr.typeAssert (.iface 162 v) 20 110 true).run Tryz.prog w = .ok (.tuple #[.pointer none, .bool false]) w := by kernel_rfl
theorem liLiteral (v : Value) (w : World) : (Instr.typeAssert (.iface 162 v) 20 162 true).run Tryz.prog w = .ok (.tuple #[v, .bool true]) w := by kernel_rfl
set_option maxHeartbeats 3200000 in
set_option maxRecDepth 100000 in
theorem walkLiteral_any {B : Nat} {w0 : World} {bo bs bm : Nat} {ns : List ByteArray} {sv : Value} {w : World} (h : Vst B w0 bo bs bm ns sv w) (hB : B = w0.heap.size) (g o : Nat) (hg : g < B) (d : Nat) (x : Lit4) (p : LP) (hx : LAt w0 g o x p) (hL : LIs w0 d x p) (hn : ns.length + (termsL d x).length ≤ 4398046511104) :
    Calls Tryz.prog 73 #[.iface 162 (.pointer (some ⟨g, o, none⟩)), handV bs bo] w fun e w' => (∃ u, e = .returned u) ∧ ∃ sv', Vst B w0 bo bs bm (vsT ns (termsL d x)) sv' w' := by
  unfold termsL at hn ⊢
  simp only [List.length_append] at hn
  rw [vsT_append, vsT_append]
  have l1 := vsT_len x.ts ns
  have l2 := vsT_len (termsD d x.l) (vsT ns x.ts)
  have HA : Hid _ := walkAtom_any h hB g (o + 1) hg p.a p.c x.ts hx.ts hL.ts (by omega)
  have HL1 : Hid (∀ sv1 w1, Vst B w0 bo bs bm (vsT ns x.ts) sv1 w1 → Calls Tryz.prog 73 #[.iface 152 (.pointer (some ⟨g, o + 4, none⟩)), handE bs bo] w1 fun e' w' => (∃ u, e' = .returned u) ∧ ∃ sv', Vst B w0 bo bs bm (vsT (vsT ns x.ts) (termsD d x.l)) sv' w') := fun sv1 w1 hv => walkExpr_any hB d _ sv1 w1 x.l p.la p.lc g (o + 4) hv hg hx.l hL.l (by omega)
  have HL2 : Hid (∀ sv1 w1, Vst B w0 bo bs bm (vsT (vsT ns x.ts) (termsD d x.l)) sv1 w1 → Calls Tryz.prog 73 #[.iface 152 (.pointer (some ⟨g, o + 10, none⟩)), handE bs bo] w1 fun e' w' => (∃ u, e' = .returned u) ∧ ∃ sv', Vst B w0 bo bs bm (vsT (vsT (vsT ns x.ts) (termsD d x.l)) (termsD d x.r)) sv' w') := fun sv1 w1 hv => walkExpr_any hB d _ sv1 w1 x.r p.ra p.rc g (o + 10) hv hg hx.r hL.r (by omega)
  have h1 := liRule (.pointer (some ⟨g, o, none⟩))
  have h2 := liLiteral (.pointer (some ⟨g, o, none⟩))
  unfold handV at HA ⊢
  unfold handE at HL1 HL2
  generalize vsT (vsT (vsT ns x.ts) (termsD d x.l)) (termsD d x.r) = n3 at HL2 ⊢
  generalize vsT (vsT ns x.ts) (termsD d x.l) = n2 at HL1 HL2
  generalize vsT ns x.ts = n1 at HA HL1
  clear l1 l2 h hx hL hn
  go_enter Tryz.func73, Tryz.ntmps73
  go_wp2_with fail
  refine Calls.mono HA.out ?_
  rintro e w1 ⟨⟨u, rfl⟩, sv1, hv1⟩
  go_wp2_with fail
  refine Calls.mono (HL1.out _ _ hv1) ?_
  rintro e w2 ⟨⟨u2, rfl⟩, sv2, hv2⟩
  go_wp2_with fail
  refine Calls.mono (HL2.out _ _ hv2) ?_
  rintro e w3 ⟨⟨u3, rfl⟩, sv3, hv3⟩
  go_wp2
  go_end0
  exact ⟨⟨_, rfl⟩, _, hv3⟩
end Go.Proofs.YtgfnijhhhgjabaaGreatDoor
end
