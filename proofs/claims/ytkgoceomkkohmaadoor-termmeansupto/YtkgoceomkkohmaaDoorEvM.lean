import Derived.Test.YtkgoceomkkohmaaDoorEvBnd
import Derived.Test.YtkgoceomkkohmaaDoorRowGen
import Derived.Test.YtkgoceomkkohmaaDoorTermTree
import Derived.Test.YtkgoceomkkohmaaDoorArRef
namespace Go.Proofs.YtkgoceomkkohmaaDoor
open Go.RowKit Go.Maps
set_option linter.unusedVariables false
set_option linter.unusedSimpArgs false

/-! what an expression's value is -/
def kV (vs : List V) : Nat → Int := fun i => (atV vs i).k
def nV (vs : List V) : Nat → Int := fun i => (atV vs i).n
def sV (vs : List V) : Nat → ByteArray := fun i => (atV vs i).s
def arRes (op : Int) (vs : List V) : AR.Res := AR.arithR op vs.length (kV vs) (nV vs) (sV vs)
def arO (op : Int) (vs : List V) : Option V := if (arRes op vs).ok then some ⟨(arRes op vs).k, (arRes op vs).n, (arRes op vs).s⟩ else none
theorem res_shape (op : Int) (n : Nat) (K N : Nat → Int) (S : Nat → ByteArray) : AR.arithR op n K N S = AR.noRes ∨ ((AR.arithR op n K N S).ok = true) := by
  unfold AR.arithR AR.numsR AR.textsR AR.joinR
  repeat' split
  all_goals first | exact .inl rfl | exact .inr rfl
theorem arO_val (op : Int) (vs : List V) : (arRes op vs).val = optV (arO op vs) := by
  unfold arO
  rcases res_shape op vs.length (kV vs) (nV vs) (sV vs) with h | h
  · have h' : arRes op vs = AR.noRes := h
    rw [h']
    rfl
  · have h' : (arRes op vs).ok = true := h
    rw [if_pos h']
    show AR.Res.val _ = _
    unfold AR.Res.val optV
    rw [h']
theorem wf64 {n : Int} (h : (Lit.int .i64 n).wf = true) : AR.In64 n := by
  simp only [Lit.wf, Bool.and_eq_true, decide_eq_true_eq] at h
  exact h
theorem wf64' {n : Int} (h : AR.In64 n) : (Lit.int .i64 n).wf = true := by
  simp only [Lit.wf, Bool.and_eq_true, decide_eq_true_eq]
  exact h
theorem nV_in {vs : List V} (h : ∀ x ∈ vs, x.wf) (i : Nat) (hi : i < vs.length) : AR.In64 (nV vs i) := by
  unfold nV
  rw [atV_eq hi]
  exact wf64 (h _ (List.getElem_mem hi)).num
theorem sV_len {vs : List V} (h : ∀ x ∈ vs, x.wf) (i : Nat) (hi : i < vs.length) : (sV vs i).size ≤ maxLen := by
  unfold sV
  rw [atV_eq hi]
  exact (h _ (List.getElem_mem hi)).text
theorem arRes_wf {op : Int} {n : Nat} {K N : Nat → Int} {S : Nat → ByteArray} (hN : ∀ i, i < n → AR.In64 (N i)) : (⟨(AR.arithR op n K N S).k, (AR.arithR op n K N S).n, (AR.arithR op n K N S).s⟩ : V).wf := by
  have no : (⟨AR.noRes.k, AR.noRes.n, AR.noRes.s⟩ : V).wf := ⟨by decide, by decide, by decide⟩
  have num : ∀ x, AR.In64 x → (⟨(AR.numRes x).k, (AR.numRes x).n, (AR.numRes x).s⟩ : V).wf := fun x hx => ⟨by show (Lit.int .i8 1).wf = true; decide, wf64' hx, by show (⟨#[]⟩ : ByteArray).size ≤ _; decide⟩
  have txt : ∀ x : ByteArray, x.size ≤ 200 → (⟨(AR.txtRes x).k, (AR.txtRes x).n, (AR.txtRes x).s⟩ : V).wf := fun x hx => ⟨by show (Lit.int .i8 2).wf = true; decide, by show (Lit.int .i64 0).wf = true; decide, by show x.size ≤ _; unfold maxLen; omega⟩
  have small : ∀ x : Nat, x ≤ 200 → AR.In64 (x : Int) := fun x hx => by unfold AR.In64; omega
  unfold AR.arithR
  split
  · exact num _ (AR.wrap_in _)
  split
  · rename_i hh
    obtain ⟨e, _⟩ := AR.areB_spec (count := 2) hh.2
    unfold AR.numsR
    repeat' split
    all_goals first | exact num _ (AR.wrap_in _) | exact no | exact num _ (AR.modW_in _ _ (hN 0 (by omega)))
  split
  · rename_i hh
    obtain ⟨e, hall⟩ := AR.areB_spec (count := 1) hh.2
    have h0 := hall 0 (by omega)
    rw [h0.1] at h0
    have hz := AR.chk_text h0.2
    unfold AR.textsR
    repeat' split
    · exact num _ (small _ hz)
    · exact num _ (small _ (Nat.le_trans (AR.starts_le _) hz))
    · exact txt _ (by rw [show (AR.backB (S 0)).size = (S 0).size from (AR.back_size _ _).trans (AR.backL_all _)]; exact hz)
  split
  · unfold AR.joinR
    split
    · exact no
    · rename_i h
      exact txt _ (by rw [ByteArray.size_append]; omega)
  · exact no
def workV (l : List B) : Nat → E → Option V
  | 0, _ => none
  | d + 1, e => if e.op = 0 then valOf e.t l else (e.kids.mapM (workV l d)).bind (arO e.op)
end Go.Proofs.YtkgoceomkkohmaaDoor
