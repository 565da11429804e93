import Derived.Test.YtgfnijhhhgjabaaGreatDoorG23
import Derived.Test.YtgfnijhhhgjabaaGreatDoorG27
section
namespace Go.Proofs.YtgfnijhhhgjabaaGreatDoor
open Go.RowKit Go.Maps
set_option linter.unusedVariables false
set_option linter.unusedSimpArgs false
attribute [local go_sem ↓] Go.wp_at_zero Go.wp_at_succ

/-- a rule and where its lists lie; a list of rules in memory -/
structure XR where
  r : R3
  p : RP
def XR.cells (y : XR) : List Value := [.string y.r.pr, .slice y.p.a y.r.hd.length y.p.c, .slice y.p.ba y.r.bd.length y.p.bc]
theorem XR.val_eq (y : XR) : Value.agg y.cells.toArray = y.r.val y.p := rfl
def XR0 : XR := ⟨⟨noS, [], []⟩, ⟨none, 0, none, 0⟩⟩
def atR (l : List XR) (i : Nat) : XR := l.getD i XR0
theorem atR_eq {l : List XR} {i : Nat} (h : i < l.length) : atR l i = l[i] := by simp [atR, List.getD, List.getElem?_eq_getElem h]
theorem atR_map {n : Nat} (U : Nat → XR) {i : Nat} (h : i < n) : atR ((List.range n).map U) i = U i := by simp [atR, List.getD, h]
theorem oneCells_rule (y : XR) : (XR.cells y).toArray.all (·.oneCell') = true := by simp [XR.cells, Value.oneCell']
structure Lr (w : World) (v : Value) (d : Nat) (l : List XR) : Prop where
  lies : Ls w v l.length (l.flatMap XR.cells)
  each : ∀ i, i < l.length → RIs w d (atR l i).r (atR l i).p
theorem Lr.below {w w' : World} {v : Value} {d : Nat} {l : List XR} (h : Lr w v d l) (b : Below w.heap.size w w') : Lr w' v d l := ⟨h.lies.below b, fun i hi => (h.each i hi).below b⟩
theorem Lr.form {w : World} {v : Value} {d : Nat} {l : List XR} (h : Lr w v d l) : ∃ a c, v = .slice a l.length c ∧ l.length ≤ c ∧ c ≤ maxLen ∧ (0 < l.length → ∃ g off, a = some ⟨g, off, none⟩ ∧ g < w.heap.size ∧ ∀ i, i < l.length → w.rangeAt g (off + i * 3) (atR l i).cells) := ls_range (f := XR.cells) (k := 3) (fun _ => rfl) XR0 h.lies
theorem load_Rul {u : World} {g o : Nat} {cs : List Value} (h : u.rangeAt g o cs) (hl : cs.length = 3) : (loadVar 25 ⟨g, o, none⟩).run Tryz.prog u = .ok (.agg cs.toArray) u :=
  run_loadVar_mid u g o _ cs _ h Tryz.underlying25 rfl (by rw [hl]; kernel_rfl)
end Go.Proofs.YtgfnijhhhgjabaaGreatDoor
end
section
namespace Go.Proofs.YtgfnijhhhgjabaaGreatDoor
open Go.RowKit Go.Maps
set_option linter.unusedVariables false
set_option linter.unusedSimpArgs false
attribute [local go_sem ↓] Go.wp_at_zero Go.wp_at_succ

/-- a fact, and where its list lies -/
structure XF where
  pr : ByteArray
  vs : List V
  a : Option Addr
  c : Nat
def XF.cells (y : XF) : List Value := [.string y.pr, .slice y.a y.vs.length y.c]
def XF.val (y : XF) : Value := .agg #[.string y.pr, .slice y.a y.vs.length y.c]
theorem XF.val_eq (y : XF) : Value.agg y.cells.toArray = y.val := rfl
def XF0 : XF := ⟨noS, [], none, 0⟩
def atF (l : List XF) (i : Nat) : XF := l.getD i XF0
theorem atF_eq {l : List XF} {i : Nat} (h : i < l.length) : atF l i = l[i] := by simp [atF, List.getD, List.getElem?_eq_getElem h]
theorem atF_map {n : Nat} (U : Nat → XF) {i : Nat} (h : i < n) : atF ((List.range n).map U) i = U i := by simp [atF, List.getD, h]
theorem oneCells_fact (y : XF) : (XF.cells y).toArray.all (·.oneCell') = true := by simp [XF.cells, Value.oneCell']
structure FIs (w : World) (y : XF) : Prop where
  pb : y.pr.size ≤ maxLen
  ln : y.vs.length ≤ 281474976710656
  vs : Lv w (.slice y.a y.vs.length y.c) y.vs
theorem FIs.below {w w' : World} {y : XF} (h : FIs w y) (b : Below w.heap.size w w') : FIs w' y := ⟨h.pb, h.ln, h.vs.below b⟩
structure LikeF (x y : XF) : Prop where
  pr : y.pr = x.pr
  vs : y.vs = x.vs
def TwF (w : World) (lo : Nat) (y : XF) : Prop := TwV w lo y.vs y.a y.c
theorem TwF.below {w w' : World} {lo : Nat} {y : XF} (h : TwF w lo y) (b : Below w.heap.size w w') : TwF w' lo y := TwV.below h b
theorem TwF.lower {w : World} {lo lo' : Nat} (hl : lo' ≤ lo) {y : XF} (h : TwF w lo y) : TwF w lo' y := TwV.lower hl h
theorem twF_setCells {lo b : Nat} {y : XF} (hb : b < lo) : ∀ (vs : List Value) (o : Nat) (w : World), TwF w lo y → TwF (w.setCells b o vs) lo y
  | [], _, _, h => h
  | v :: r, o, w, h => by rw [World.setCells]; exact twF_setCells hb r (o + 1) _ (TwV.set hb h)
theorem TwF.is {u w0 : World} {lo : Nat} {x y : XF} (h : TwF u lo y) (hl : LikeF x y) (h0 : FIs w0 x) (hs : x.vs.length ≤ 1048576) : FIs u y := by
  refine ⟨by rw [hl.pr]; exact h0.pb, by rw [hl.vs]; exact h0.ln, ?_⟩
  have hh : TwV u lo y.vs y.a y.c := h
  rw [hl.vs] at hh ⊢
  exact hh.lv h0.vs hs
end Go.Proofs.YtgfnijhhhgjabaaGreatDoor
end
section
namespace Go.Proofs.YtgfnijhhhgjabaaGreatDoor
open Go.RowKit Go.Maps
set_option linter.unusedVariables false
set_option linter.unusedSimpArgs false
attribute [local go_sem ↓] Go.wp_at_zero Go.wp_at_succ
attribute [-go_sem] loadVar storeVar

structure Lf (w : World) (v : Value) (l : List XF) : Prop where
  lies : Ls w v l.length (l.flatMap XF.cells)
  each : ∀ i, i < l.length → FIs w (atF l i)
theorem Lf.below {w w' : World} {v : Value} {l : List XF} (h : Lf w v l) (b : Below w.heap.size w w') : Lf w' v l := ⟨h.lies.below b, fun i hi => (h.each i hi).below b⟩
theorem Lf.form {w : World} {v : Value} {l : List XF} (h : Lf w v l) : ∃ a c, v = .slice a l.length c ∧ l.length ≤ c ∧ c ≤ maxLen ∧ (0 < l.length → ∃ g off, a = some ⟨g, off, none⟩ ∧ g < w.heap.size ∧ ∀ i, i < l.length → w.rangeAt g (off + i * 2) (atF l i).cells) := ls_range (f := XF.cells) (k := 2) (fun _ => rfl) XF0 h.lies
/-- facts that are not beyond the bound -/
structure smallF (l : List XF) : Prop where
  len : l.length ≤ 1048576
  each : ∀ i, i < l.length → (atF l i).vs.length ≤ 1048576
  vals : (l.flatMap XF.vs).length ≤ 1048576
theorem load_Fac {u : World} {g o : Nat} {cs : List Value} (h : u.rangeAt g o cs) (hl : cs.length = 2) : (loadVar 98 ⟨g, o, none⟩).run Tryz.prog u = .ok (.agg cs.toArray) u :=
  run_loadVar_mid u g o _ cs _ h Tryz.underlying98 rfl (by rw [hl]; kernel_rfl)
end Go.Proofs.YtgfnijhhhgjabaaGreatDoor
end
