import Derived.Test.YtikjphfeeljhbaaGreatDoorPrB
import Derived.Test.YtikjphfeeljhbaaGreatDoorLxName
namespace Go.Proofs.YtikjphfeeljhbaaGreatDoor
open Go.RowKit Go.Maps
set_option linter.unusedVariables false
set_option linter.unusedSimpArgs false
attribute [local go_sem ↓] Go.wp_at_zero Go.wp_at_succ

theorem oneCells_val (x : V) : (V.cells x).toArray.all (·.oneCell') = true := by simp [V.cells, Value.oneCell']
theorem Lv.rform {w : World} {v : Value} {l : List V} (h : Lv w v l) : ∃ a c, v = .slice a l.length c ∧ l.length ≤ c ∧ c ≤ maxLen ∧ (0 < l.length → ∃ g off, a = some ⟨g, off, none⟩ ∧ g < w.heap.size ∧ ∀ i, i < l.length → w.rangeAt g (off + i * 3) (atV l i).cells) := ls_range (f := V.cells) (k := 3) (fun _ => rfl) V0 h.lies
theorem load_Val {u : World} {g o : Nat} {cs : List Value} (h : u.rangeAt g o cs) (hl : cs.length = 3) : (loadVar 69 ⟨g, o, none⟩).run Tryz.prog u = .ok (.agg cs.toArray) u :=
  run_loadVar_mid u g o _ cs _ h Tryz.underlying69 rfl (by rw [hl]; kernel_rfl)
/-- a fact, and where its list lies -/
structure XF where
  pr : ByteArray
  vs : List V
  a : Option Addr
  c : Nat
def XF.cells (y : XF) : List Value := [.string y.pr, .slice y.a y.vs.length y.c]
def XF.val (y : XF) : Value := .agg #[.string y.pr, .slice y.a y.vs.length y.c]
theorem XF.val_eq (y : XF) : Value.agg y.cells.toArray = y.val := rfl
def XF0 : XF := ⟨noS, [], none, 0⟩
def atF (l : List XF) (i : Nat) : XF := l.getD i XF0
theorem atF_eq {l : List XF} {i : Nat} (h : i < l.length) : atF l i = l[i] := by simp [atF, List.getD, List.getElem?_eq_getElem h]
theorem atF_map {n : Nat} (U : Nat → XF) {i : Nat} (h : i < n) : atF ((List.range n).map U) i = U i := by simp [atF, List.getD, h]
theorem oneCells_fact (y : XF) : (XF.cells y).toArray.all (·.oneCell') = true := by simp [XF.cells, Value.oneCell']
structure FIs (w : World) (y : XF) : Prop where
  pb : y.pr.size ≤ maxLen
  ln : y.vs.length ≤ 281474976710656
  vs : Lv w (.slice y.a y.vs.length y.c) y.vs
theorem FIs.below {w w' : World} {y : XF} (h : FIs w y) (b : Below w.heap.size w w') : FIs w' y := ⟨h.pb, h.ln, h.vs.below b⟩
structure Lf (w : World) (v : Value) (l : List XF) : Prop where
  lies : Ls w v l.length (l.flatMap XF.cells)
  each : ∀ i, i < l.length → FIs w (atF l i)
theorem Lf.below {w w' : World} {v : Value} {l : List XF} (h : Lf w v l) (b : Below w.heap.size w w') : Lf w' v l := ⟨h.lies.below b, fun i hi => (h.each i hi).below b⟩
theorem Lf.form {w : World} {v : Value} {l : List XF} (h : Lf w v l) : ∃ a c, v = .slice a l.length c ∧ l.length ≤ c ∧ c ≤ maxLen ∧ (0 < l.length → ∃ g off, a = some ⟨g, off, none⟩ ∧ g < w.heap.size ∧ ∀ i, i < l.length → w.rangeAt g (off + i * 2) (atF l i).cells) := ls_range (f := XF.cells) (k := 2) (fun _ => rfl) XF0 h.lies
theorem load_Fac {u : World} {g o : Nat} {cs : List Value} (h : u.rangeAt g o cs) (hl : cs.length = 2) : (loadVar 56 ⟨g, o, none⟩).run Tryz.prog u = .ok (.agg cs.toArray) u :=
  run_loadVar_mid u g o _ cs _ h Tryz.underlying56 rfl (by rw [hl]; kernel_rfl)
/-- facts that are not beyond the bound -/
structure smallF (l : List XF) : Prop where
  len : l.length ≤ 1048576
  each : ∀ i, i < l.length → (atF l i).vs.length ≤ 1048576
  vals : (l.flatMap XF.vs).length ≤ 1048576
/-- the text of a fact; is it one as it may be? -/
def txV (l : List V) : List (List UInt8) := l.map showB
theorem txV_at {l : List V} {i : Nat} (h : i < l.length) : (txV l).getD i [] = showB (atV l i) := by simp [txV, List.getD, h, atV]
theorem txV_len (l : List V) : (txV l).length = l.length := by simp [txV]
def bareT (y : XF) : List UInt8 := y.pr.data.toList ++ colG (txV y.vs)
def factT (y : XF) : List UInt8 := bareT y ++ [46]
def factB (y : XF) : Bool := nameB y.pr && (decide (y.vs.length ≤ 24) && y.vs.all okV)
def errF (b : Bool) : Int := if b then 0 else 10
theorem name_sizeF {s : ByteArray} (h : nameB s = true) : 1 ≤ s.size ∧ s.size ≤ 120 := by
  unfold nameB at h
  simp only [Bool.and_eq_true, decide_eq_true_eq] at h
  exact ⟨Nat.pos_of_ne_zero h.1.1.1.1, h.1.1.1.2⟩
theorem sum_le_vals : ∀ (l : List V), (∀ y ∈ l, y.wf) → l.all okV = true → ((txV l).map (fun t => t.length + 2)).sum ≤ 1002 * l.length
  | [], _, _ => by simp [txV]
  | y :: r, hL, hok => by
    simp only [List.all_cons, Bool.and_eq_true] at hok
    have h1 := (showB_len (hL y (by simp)) hok.1).2
    have h2 := sum_le_vals r (fun z hz => hL z (by simp [hz])) hok.2
    unfold txV at h2 ⊢
    simp only [List.map_cons, List.sum_cons, List.length_cons]
    omega
theorem factB_form {y : XF} (h : factB y = true) : nameB y.pr = true ∧ y.vs.length ≤ 24 ∧ y.vs.all okV = true := by
  unfold factB at h
  simp only [Bool.and_eq_true, decide_eq_true_eq] at h
  exact ⟨h.1, h.2.1, h.2.2⟩
theorem factT_sz {w : World} {y : XF} (hF : FIs w y) (hok : factB y = true) : (bareT y).length ≤ 30000 ∧ (factT y).length ≤ 1002 * y.vs.length + 130 := by
  obtain ⟨h1, h2, h3⟩ := factB_form hok
  have a1 := name_sizeF h1
  have a2 := upG_sum (tx := txV y.vs) y.vs.length (by rw [txV_len]; exact Nat.le_refl _)
  rw [List.take_of_length_le (by rw [txV_len]; exact Nat.le_refl _)] at a2
  have a3 := sum_le_vals y.vs hF.vs.wf h3
  have c1 : (colG (txV y.vs)).length ≤ 2 + (upG (txV y.vs) y.vs.length).length := by
    unfold colG
    rw [txV_len]
    split
    · simp
    · simp only [List.length_append, List.length_cons, List.length_nil]; omega
  unfold factT bareT
  simp only [List.length_append, List.length_cons, List.length_nil, len_toList]
  omega
theorem allV_not {l : List V} {k : Nat} (h : k < l.length) (hn : okV (atV l k) = false) : l.all okV = false := by
  rw [← Bool.not_eq_true]
  intro ha
  rw [List.all_eq_true] at ha
  rw [atV_eq h] at hn
  rw [ha _ (List.getElem_mem h)] at hn
  cases hn
theorem allV_take {l : List V} {k : Nat} (h : k < l.length) : (l.take (k + 1)).all okV = ((l.take k).all okV && okV (atV l k)) := by
  have e : l.take (k + 1) = l.take k ++ [l[k]] := by rw [List.take_add_one, List.getElem?_eq_getElem h]; rfl
  rw [e, List.all_append, atV_eq h]
  simp
theorem Lv.at_wf {w : World} {v : Value} {l : List V} (h : Lv w v l) {i : Nat} (hi : i < l.length) : (atV l i).wf := by rw [atV_eq hi]; exact h.wf _ (List.getElem_mem hi)
/-- the tables -/
structure Gf (w : World) : Prop where
  gp : Gp w
  kw : LX.Gl w
theorem Gf.below {w w' : World} (h : Gf w) (b : Below w.heap.size w w') : Gf w' := ⟨h.gp.below b, h.kw.below b⟩
theorem takeFl {l : List XF} {k : Nat} (h : k < l.length) : l.take (k + 1) = l.take k ++ [atF l k] := by rw [List.take_add_one, List.getElem?_eq_getElem h, atF_eq h]; rfl
structure Gl2 (w : World) : Prop where
  gr : Gr w
  gf : Gf w
theorem Gl2.below {w w' : World} (h : Gl2 w) (b : Below w.heap.size w w') : Gl2 w' := ⟨h.gr.below b, h.gf.below b⟩
end Go.Proofs.YtikjphfeeljhbaaGreatDoor
