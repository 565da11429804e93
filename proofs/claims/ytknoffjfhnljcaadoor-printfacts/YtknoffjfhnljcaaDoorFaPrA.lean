import Derived.Test.YtknoffjfhnljcaaDoorPrintL
import Derived.Test.YtknoffjfhnljcaaDoorFaLeft
import Derived.Test.YtknoffjfhnljcaaDoorLxName
namespace Go.Proofs.YtknoffjfhnljcaaDoor
open Go.RowKit Go.Maps
set_option linter.unusedVariables false
set_option linter.unusedSimpArgs false
attribute [local go_sem ↓] Go.wp_at_zero Go.wp_at_succ

/-- the texts of the first k things, with a comma and a blank between each two -/
def upG (tx : List (List UInt8)) : Nat → List UInt8
  | 0 => []
  | k + 1 => upG tx k ++ ((if k = 0 then [] else [44, 32]) ++ tx.getD k [])
theorem upG_le (tx : List (List UInt8)) (k : Nat) : ∀ j, (upG tx k).length ≤ (upG tx (k + j)).length
  | 0 => Nat.le_refl _
  | j + 1 => by
    have := upG_le tx k j
    rw [← Nat.add_assoc, upG, List.length_append]
    omega
def colG (tx : List (List UInt8)) : List UInt8 := if tx.length = 0 then [] else [40] ++ upG tx tx.length ++ [41]
theorem upG_len {tx : List (List UInt8)} {m : Nat} (h : ∀ i, i < tx.length → (tx.getD i []).length ≤ m) : ∀ k, k ≤ tx.length → (upG tx k).length ≤ k * (m + 2)
  | 0, _ => by simp [upG]
  | k + 1, hk => by
    have h1 := upG_len h k (by omega)
    have h2 := h k (by omega)
    rw [upG, Nat.succ_mul]
    simp only [List.length_append]
    have h3 : (if k = 0 then ([] : List UInt8) else [44, 32]).length ≤ 2 := by split <;> simp
    omega
theorem upG_sum {tx : List (List UInt8)} : ∀ k, k ≤ tx.length → (upG tx k).length ≤ ((tx.take k).map (fun t => t.length + 2)).sum
  | 0, _ => by simp [upG]
  | k + 1, hk => by
    have h1 := upG_sum (tx := tx) k (by omega)
    have e : tx.take (k + 1) = tx.take k ++ [tx.getD k []] := by
      rw [List.take_add_one, List.getElem?_eq_getElem (by omega : k < tx.length)]
      simp [List.getD, (by omega : k < tx.length)]
    rw [upG, e, List.map_append, List.sum_append]
    simp only [List.length_append, List.map_cons, List.map_nil, List.sum_cons, List.sum_nil]
    have h3 : (if k = 0 then ([] : List UInt8) else [44, 32]).length ≤ 2 := by split <;> simp
    omega
/-- a list of bytes as a text -/
def txt (l : List UInt8) : ByteArray := ⟨l.toArray⟩
theorem txt_app (a b : List UInt8) : txt a ++ txt b = txt (a ++ b) := by
  have e : (txt a ++ txt b).data = (a ++ b).toArray := by
    rw [ByteArray.data_append]
    simp [txt]
  cases h : txt a ++ txt b with
  | mk d => rw [h] at e; simp only at e; rw [e]; rfl
theorem txt_size (a : List UInt8) : (txt a).size = a.length := by
  show (txt a).data.size = _
  simp [txt]
theorem txt_one (c : UInt8) : (⟨#[c]⟩ : ByteArray) = txt [c] := rfl
theorem arr_bytes (s : ByteArray) {l : List UInt8} (h : s.data.toList = l) : (⟨l.toArray⟩ : ByteArray) = s := by
  subst h
  cases s
  simp
theorem txt_bytes (s : ByteArray) : txt s.data.toList = s := arr_bytes s rfl
/-- the text of a fact; is it one as it may be? -/
def txV (l : List V) : List (List UInt8) := l.map showB
theorem txV_at {l : List V} {i : Nat} (h : i < l.length) : (txV l).getD i [] = showB (atV l i) := by simp [txV, List.getD, h, atV]
theorem txV_len (l : List V) : (txV l).length = l.length := by simp [txV]
def bareT (y : XF) : List UInt8 := y.pr.data.toList ++ colG (txV y.vs)
def factT (y : XF) : List UInt8 := bareT y ++ [46]
def factB (y : XF) : Bool := nameB y.pr && (decide (y.vs.length ≤ 24) && y.vs.all okV)
def errF (b : Bool) : Int := if b then 0 else 10
theorem name_sizeF {s : ByteArray} (h : nameB s = true) : 1 ≤ s.size ∧ s.size ≤ 120 := by
  unfold nameB at h
  simp only [Bool.and_eq_true, decide_eq_true_eq] at h
  exact ⟨Nat.pos_of_ne_zero h.1.1.1.1, h.1.1.1.2⟩
theorem sum_le_vals : ∀ (l : List V), (∀ y ∈ l, y.wf) → l.all okV = true → ((txV l).map (fun t => t.length + 2)).sum ≤ 1002 * l.length
  | [], _, _ => by simp [txV]
  | y :: r, hL, hok => by
    simp only [List.all_cons, Bool.and_eq_true] at hok
    have h1 := (showB_len (hL y (by simp)) hok.1).2
    have h2 := sum_le_vals r (fun z hz => hL z (by simp [hz])) hok.2
    unfold txV at h2 ⊢
    simp only [List.map_cons, List.sum_cons, List.length_cons]
    omega
theorem factB_form {y : XF} (h : factB y = true) : nameB y.pr = true ∧ y.vs.length ≤ 24 ∧ y.vs.all okV = true := by
  unfold factB at h
  simp only [Bool.and_eq_true, decide_eq_true_eq] at h
  exact ⟨h.1, h.2.1, h.2.2⟩
theorem factT_sz {w : World} {y : XF} (hF : FIs w y) (hok : factB y = true) : (bareT y).length ≤ 30000 ∧ (factT y).length ≤ 1002 * y.vs.length + 130 := by
  obtain ⟨h1, h2, h3⟩ := factB_form hok
  have a1 := name_sizeF h1
  have a2 := upG_sum (tx := txV y.vs) y.vs.length (by rw [txV_len]; exact Nat.le_refl _)
  rw [List.take_of_length_le (by rw [txV_len]; exact Nat.le_refl _)] at a2
  have a3 := sum_le_vals y.vs hF.vs.wf h3
  have c1 : (colG (txV y.vs)).length ≤ 2 + (upG (txV y.vs) y.vs.length).length := by
    unfold colG
    rw [txV_len]
    split
    · simp
    · simp only [List.length_append, List.length_cons, List.length_nil]; omega
  unfold factT bareT
  simp only [List.length_append, List.length_cons, List.length_nil, len_toList]
  omega
theorem allV_not {l : List V} {k : Nat} (h : k < l.length) (hn : okV (atV l k) = false) : l.all okV = false := by
  rw [← Bool.not_eq_true]
  intro ha
  rw [List.all_eq_true] at ha
  rw [atV_eq h] at hn
  rw [ha _ (List.getElem_mem h)] at hn
  cases hn
theorem allV_take {l : List V} {k : Nat} (h : k < l.length) : (l.take (k + 1)).all okV = ((l.take k).all okV && okV (atV l k)) := by
  have e : l.take (k + 1) = l.take k ++ [l[k]] := by rw [List.take_add_one, List.getElem?_eq_getElem h]; rfl
  rw [e, List.all_append, atV_eq h]
  simp
theorem Lv.at_wf {w : World} {v : Value} {l : List V} (h : Lv w v l) {i : Nat} (hi : i < l.length) : (atV l i).wf := by rw [atV_eq hi]; exact h.wf _ (List.getElem_mem hi)
/-- the tables -/
structure Gf (w : World) : Prop where
  gp : Gp w
  kw : LX.Gl w
theorem Gf.below {w w' : World} (h : Gf w) (b : Below w.heap.size w w') : Gf w' := ⟨h.gp.below b, h.kw.below b⟩
end Go.Proofs.YtknoffjfhnljcaaDoor
