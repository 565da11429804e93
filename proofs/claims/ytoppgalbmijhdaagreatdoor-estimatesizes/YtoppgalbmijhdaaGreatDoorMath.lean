import Derived.WalkKit
import Derived.Below
import Derived.Lib.Strings
import Derived.Lib.Small
import Derived.Lib.Bytealg
import Derived.Laws.Strings
namespace Go.Proofs.YtoppgalbmijhdaaGreatDoor
open Go.RowKit

theorem bcell {W w1 : World} (hb : Below W.heap.size W w1) : (∀ b o, b < W.heap.size → w1.cell? ⟨b, o, none⟩ = W.cell? ⟨b, o, none⟩) ∧ (∀ b o, b < W.heap.size → w1.frozen? ⟨b, o, none⟩ = W.frozen? ⟨b, o, none⟩) :=
  ⟨fun b o h => hb.cell (p := ⟨b, o, none⟩) h, fun b o h => hb.frozen (p := ⟨b, o, none⟩) h⟩

def chk (k n : Int) (s : ByteArray) : Int :=
  if k = 1 ∧ s.toList = [] ∨ k = 2 ∧ n = 0 ∧ (s.size : Int) ≤ 200 then 0 else 10

theorem chk_ok {k n : Int} {s : ByteArray} (h : k = 1 ∧ s.toList = [] ∨ k = 2 ∧ n = 0 ∧ (s.size : Int) ≤ 200) : 0 = chk k n s := (if_pos h).symm
theorem chk_no {k n : Int} {s : ByteArray} (h : ¬ (k = 1 ∧ s.toList = [] ∨ k = 2 ∧ n = 0 ∧ (s.size : Int) ≤ 200)) : 10 = chk k n s := (if_neg h).symm

theorem ret_int {k : IntKind} {a b : Int} (h : a = b) : Ending.returned (.int k a) = .returned (.int k b) := by rw [h]

theorem ret_bool {a b : Bool} (h : a = b) : Ending.returned (.bool a) = .returned (.bool b) := by rw [h]

def orL : List Int → Int
  | [] => 0
  | z :: r => if z = 0 then orL r else z

theorem orL_drop (zs : List Int) (k : Nat) (h : k < zs.length) : orL (zs.drop k) = if zs.getD k 0 = 0 then orL (zs.drop (k + 1)) else zs.getD k 0 := by
  rw [List.drop_eq_getElem_cons h]
  simp [orL, List.getD, List.getElem?_eq_getElem h]

def cmpV (k1 n1 : Int) (s1 : ByteArray) (k2 n2 : Int) (s2 : ByteArray) : Int :=
  orL [Lib.compareInt k1 k2, Lib.compareInt n1 n2, Lib.compareBytes s1.data.toList s2.data.toList]

theorem compareBytes_self : ∀ a : List UInt8, Lib.compareBytes a a = 0
  | [] => rfl
  | x :: a => by
    have h : ¬ x < x := UInt8.lt_irrefl x
    simp [Lib.compareBytes, h, compareBytes_self a]

theorem compareBytes_less : ∀ a b : List UInt8, Op.bytesLess a b = true → Lib.compareBytes a b = -1
  | [], [] => by simp [Op.bytesLess]
  | [], _ :: _ => by simp [Lib.compareBytes]
  | _ :: _, [] => by simp [Op.bytesLess]
  | x :: a, y :: b => by
    intro h
    simp only [Op.bytesLess, Bool.or_eq_true, decide_eq_true_eq, Bool.and_eq_true, beq_iff_eq] at h
    rcases h with h | ⟨rfl, h⟩
    · simp [Lib.compareBytes, h]
    · have hx : ¬ x < x := UInt8.lt_irrefl x
      simp [Lib.compareBytes, hx, compareBytes_less a b h]

theorem compareBytes_more : ∀ a b : List UInt8, Op.bytesLess a b = false → ¬ a = b → Lib.compareBytes a b = 1
  | [], [] => by simp
  | [], _ :: _ => by simp [Op.bytesLess]
  | _ :: _, [] => by simp [Lib.compareBytes]
  | x :: a, y :: b => by
    intro h hne
    simp only [Op.bytesLess, Bool.or_eq_false_iff, decide_eq_false_iff_not, Bool.and_eq_false_iff, beq_eq_false_iff_ne] at h
    obtain ⟨h1, h2⟩ := h
    by_cases hxy : x = y
    · subst hxy
      have h3 : Op.bytesLess a b = false := by simpa using h2
      have h4 : ¬ a = b := fun e => hne (by rw [e])
      simp [Lib.compareBytes, h1, compareBytes_more a b h3 h4]
    · have : y < x := UInt8.lt_of_le_of_ne (UInt8.not_lt.1 h1) (Ne.symm hxy)
      simp [Lib.compareBytes, h1, this]

theorem compareInt_self (a : Int) : Lib.compareInt a a = 0 := by simp [Lib.compareInt]

theorem cmpV_k1 {k1 k2 : Int} (n1 n2 : Int) (s1 s2 : ByteArray) (h : k1 < k2) : cmpV k1 n1 s1 k2 n2 s2 = -1 := by
  simp [cmpV, orL, Lib.compareInt, h]
theorem cmpV_k2 {k1 k2 : Int} (n1 n2 : Int) (s1 s2 : ByteArray) (hn : ¬ k1 = k2) (h : k2 ≤ k1) : cmpV k1 n1 s1 k2 n2 s2 = 1 := by
  have a : ¬ k1 < k2 := by omega
  have b : k2 < k1 := by omega
  simp [cmpV, orL, Lib.compareInt, a, b]
theorem cmpV_n1 {k n1 n2 : Int} (s1 s2 : ByteArray) (h : n1 < n2) : cmpV k n1 s1 k n2 s2 = -1 := by
  simp [cmpV, orL, Lib.compareInt, h]
theorem cmpV_n2 {k n1 n2 : Int} (s1 s2 : ByteArray) (hn : ¬ n1 = n2) (h : n2 ≤ n1) : cmpV k n1 s1 k n2 s2 = 1 := by
  have a : ¬ n1 < n2 := by omega
  have b : n2 < n1 := by omega
  simp [cmpV, orL, Lib.compareInt, a, b]
theorem cmpV_s (k n : Int) (s1 s2 : ByteArray) : cmpV k n s1 k n s2 = Lib.compareBytes s1.toList s2.toList := by
  rw [ByteArray.toList_eq, ByteArray.toList_eq]
  simp only [cmpV, orL, compareInt_self, if_true]
  split <;> simp_all
theorem cmpV_s0 (k n : Int) {s1 s2 : ByteArray} (h : s1.toList = s2.toList) : cmpV k n s1 k n s2 = 0 := by
  rw [cmpV_s, h]; exact compareBytes_self _
theorem cmpV_s1 (k n : Int) {s1 s2 : ByteArray} (h : Op.bytesLess s1.toList s2.toList = true) : cmpV k n s1 k n s2 = -1 := by
  rw [cmpV_s]; exact compareBytes_less _ _ h
theorem cmpV_s2 (k n : Int) {s1 s2 : ByteArray} (hn : ¬ s1.toList = s2.toList) (h : Op.bytesLess s1.toList s2.toList = false) : cmpV k n s1 k n s2 = 1 := by
  rw [cmpV_s]; exact compareBytes_more _ _ h hn

def relB (r c : Int) : Bool :=
  if r = 1 then c == 0 else if r = 2 then c != 0 else if r = 3 then decide (c < 0) else if r = 4 then decide (c ≤ 0) else if r = 5 then decide (0 < c) else if r = 6 then decide (0 ≤ c) else false

def holdsV (r k1 n1 : Int) (s1 : ByteArray) (k2 n2 : Int) (s2 : ByteArray) : Bool :=
  if chk k1 n1 s1 = 0 ∧ chk k2 n2 s2 = 0 then relB r (cmpV k1 n1 s1 k2 n2 s2) else false

theorem holdsV_yes {r k1 n1 : Int} {s1 : ByteArray} {k2 n2 : Int} {s2 : ByteArray} (c1 : chk k1 n1 s1 = 0) (c2 : chk k2 n2 s2 = 0) : holdsV r k1 n1 s1 k2 n2 s2 = relB r (cmpV k1 n1 s1 k2 n2 s2) := if_pos ⟨c1, c2⟩
theorem holdsV_no {r k1 n1 : Int} {s1 : ByteArray} {k2 n2 : Int} {s2 : ByteArray} (c : ¬ (chk k1 n1 s1 = 0 ∧ chk k2 n2 s2 = 0)) : holdsV r k1 n1 s1 k2 n2 s2 = false := if_neg c

end Go.Proofs.YtoppgalbmijhdaaGreatDoor
