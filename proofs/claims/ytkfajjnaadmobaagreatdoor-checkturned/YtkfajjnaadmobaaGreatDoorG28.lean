import Derived.Test.YtkfajjnaadmobaaGreatDoorG27
section
namespace Go.Proofs.YtkfajjnaadmobaaGreatDoor
open Go.RowKit Go.Maps
set_option linter.unusedVariables false
set_option linter.unusedSimpArgs false
attribute [local go_sem ↓] Go.wp_at_zero Go.wp_at_succ

/-- a fact, and where its list lies -/
structure XF where
  pr : ByteArray
  vs : List V
  a : Option Addr
  c : Nat
def XF.cells (y : XF) : List Value := [.string y.pr, .slice y.a y.vs.length y.c]
def XF.val (y : XF) : Value := .agg #[.string y.pr, .slice y.a y.vs.length y.c]
theorem XF.val_eq (y : XF) : Value.agg y.cells.toArray = y.val := rfl
def XF0 : XF := ⟨noS, [], none, 0⟩
def atF (l : List XF) (i : Nat) : XF := l.getD i XF0
theorem atF_eq {l : List XF} {i : Nat} (h : i < l.length) : atF l i = l[i] := by simp [atF, List.getD, List.getElem?_eq_getElem h]
theorem atF_map {n : Nat} (U : Nat → XF) {i : Nat} (h : i < n) : atF ((List.range n).map U) i = U i := by simp [atF, List.getD, h]
theorem oneCells_fact (y : XF) : (XF.cells y).toArray.all (·.oneCell') = true := by simp [XF.cells, Value.oneCell']
structure FIs (w : World) (y : XF) : Prop where
  pb : y.pr.size ≤ maxLen
  ln : y.vs.length ≤ 281474976710656
  vs : Lv w (.slice y.a y.vs.length y.c) y.vs
theorem FIs.below {w w' : World} {y : XF} (h : FIs w y) (b : Below w.heap.size w w') : FIs w' y := ⟨h.pb, h.ln, h.vs.below b⟩
structure LikeF (x y : XF) : Prop where
  pr : y.pr = x.pr
  vs : y.vs = x.vs
def TwF (w : World) (lo : Nat) (y : XF) : Prop := TwV w lo y.vs y.a y.c
theorem TwF.below {w w' : World} {lo : Nat} {y : XF} (h : TwF w lo y) (b : Below w.heap.size w w') : TwF w' lo y := TwV.below h b
theorem TwF.lower {w : World} {lo lo' : Nat} (hl : lo' ≤ lo) {y : XF} (h : TwF w lo y) : TwF w lo' y := TwV.lower hl h
theorem twF_setCells {lo b : Nat} {y : XF} (hb : b < lo) : ∀ (vs : List Value) (o : Nat) (w : World), TwF w lo y → TwF (w.setCells b o vs) lo y
  | [], _, _, h => h
  | v :: r, o, w, h => by rw [World.setCells]; exact twF_setCells hb r (o + 1) _ (TwV.set hb h)
theorem TwF.is {u w0 : World} {lo : Nat} {x y : XF} (h : TwF u lo y) (hl : LikeF x y) (h0 : FIs w0 x) (hs : x.vs.length ≤ 1048576) : FIs u y := by
  refine ⟨by rw [hl.pr]; exact h0.pb, by rw [hl.vs]; exact h0.ln, ?_⟩
  have hh : TwV u lo y.vs y.a y.c := h
  rw [hl.vs] at hh ⊢
  exact hh.lv h0.vs hs
end Go.Proofs.YtkfajjnaadmobaaGreatDoor
end
section
namespace Go.Proofs.YtkfajjnaadmobaaGreatDoor
open Go.RowKit Go.Maps
set_option linter.unusedVariables false
set_option linter.unusedSimpArgs false
attribute [local go_sem ↓] Go.wp_at_zero Go.wp_at_succ
attribute [-go_sem] loadVar storeVar

structure Lf (w : World) (v : Value) (l : List XF) : Prop where
  lies : Ls w v l.length (l.flatMap XF.cells)
  each : ∀ i, i < l.length → FIs w (atF l i)
theorem Lf.below {w w' : World} {v : Value} {l : List XF} (h : Lf w v l) (b : Below w.heap.size w w') : Lf w' v l := ⟨h.lies.below b, fun i hi => (h.each i hi).below b⟩
theorem Lf.form {w : World} {v : Value} {l : List XF} (h : Lf w v l) : ∃ a c, v = .slice a l.length c ∧ l.length ≤ c ∧ c ≤ maxLen ∧ (0 < l.length → ∃ g off, a = some ⟨g, off, none⟩ ∧ g < w.heap.size ∧ ∀ i, i < l.length → w.rangeAt g (off + i * 2) (atF l i).cells) := ls_range (f := XF.cells) (k := 2) (fun _ => rfl) XF0 h.lies
theorem load_Fac {u : World} {g o : Nat} {cs : List Value} (h : u.rangeAt g o cs) (hl : cs.length = 2) : (loadVar 94 ⟨g, o, none⟩).run Tryz.prog u = .ok (.agg cs.toArray) u :=
  run_loadVar_mid u g o _ cs _ h Tryz.underlying94 rfl (by rw [hl]; kernel_rfl)
end Go.Proofs.YtkfajjnaadmobaaGreatDoor
end
