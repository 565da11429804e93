import Derived.Test.YtoppgalbmijhdaaGreatDoorMath
namespace Go.Proofs.YtoppgalbmijhdaaGreatDoor.AR

/-- three answers of a comparison, of x with y, y with z, x with z, that make an order -/
def O3 (xy yz xz : Int) : Prop :=
  (-1 ≤ xy ∧ xy ≤ 1) ∧ (-1 ≤ yz ∧ yz ≤ 1) ∧ (-1 ≤ xz ∧ xz ≤ 1) ∧ (xy = 0 → xz = yz) ∧ (yz = 0 → xz = xy) ∧ (xy = yz → xz = xy)

theorem O3.zero : O3 0 0 0 := by unfold O3; omega

theorem O3.lex2 {a1 a2 a3 b1 b2 b3 : Int} (ha : O3 a1 a2 a3) (hb : O3 b1 b2 b3) : O3 (orL [a1, b1]) (orL [a2, b2]) (orL [a3, b3]) := by
  unfold O3 at *
  simp only [orL]
  (repeat' split) <;> omega

theorem orL3 (a b c : Int) : orL [a, b, c] = orL [a, orL [b, c]] := by
  simp only [orL]
  (repeat' split) <;> simp_all

theorem O3.lex3 {a1 a2 a3 b1 b2 b3 c1 c2 c3 : Int} (ha : O3 a1 a2 a3) (hb : O3 b1 b2 b3) (hc : O3 c1 c2 c3) : O3 (orL [a1, b1, c1]) (orL [a2, b2, c2]) (orL [a3, b3, c3]) := by
  rw [orL3, orL3 a2, orL3 a3]
  exact ha.lex2 (hb.lex2 hc)

theorem compareInt_O3 (x y z : Int) : O3 (Lib.compareInt x y) (Lib.compareInt y z) (Lib.compareInt x z) := by
  unfold O3 Lib.compareInt
  (repeat' split) <;> omega

theorem compareInt_anti (x y : Int) : Lib.compareInt y x = - Lib.compareInt x y := by
  unfold Lib.compareInt
  (repeat' split) <;> omega

theorem compareInt_zero {x y : Int} (h : Lib.compareInt x y = 0) : x = y := by
  unfold Lib.compareInt at h
  (repeat' split at h) <;> omega

theorem compareBytes_cons (x y : UInt8) (a b : List UInt8) : Lib.compareBytes (x :: a) (y :: b) = orL [Lib.compareInt (x.toNat : Int) (y.toNat : Int), Lib.compareBytes a b] := by
  simp only [Lib.compareBytes, orL, Lib.compareInt]
  have h1 : x < y ↔ (x.toNat : Int) < (y.toNat : Int) := by rw [UInt8.lt_iff_toNat_lt]; omega
  have h2 : y < x ↔ (x.toNat : Int) > (y.toNat : Int) := by rw [UInt8.lt_iff_toNat_lt]; omega
  by_cases c1 : x < y
  · simp [c1, h1.1 c1]
  · by_cases c2 : y < x
    · have : ¬ (x.toNat : Int) < (y.toNat : Int) := fun h => c1 (h1.2 h)
      simp [c1, c2, this, h2.1 c2]
    · have e1 : ¬ (x.toNat : Int) < (y.toNat : Int) := fun h => c1 (h1.2 h)
      have e2 : ¬ (x.toNat : Int) > (y.toNat : Int) := fun h => c2 (h2.2 h)
      simp only [c1, c2, e1, e2, if_false, if_true]
      split <;> simp_all

theorem orL2_range {a b : Int} (ha : -1 ≤ a ∧ a ≤ 1) (hb : -1 ≤ b ∧ b ≤ 1) : -1 ≤ orL [a, b] ∧ orL [a, b] ≤ 1 := by
  simp only [orL]
  (repeat' split) <;> omega

theorem compareInt_range (a b : Int) : -1 ≤ Lib.compareInt a b ∧ Lib.compareInt a b ≤ 1 := by
  unfold Lib.compareInt
  (repeat' split) <;> omega

theorem compareBytes_range : ∀ a b : List UInt8, -1 ≤ Lib.compareBytes a b ∧ Lib.compareBytes a b ≤ 1
  | [], [] => by simp [Lib.compareBytes]
  | [], _ :: _ => by simp [Lib.compareBytes]
  | _ :: _, [] => by simp [Lib.compareBytes]
  | x :: a, y :: b => by
    rw [compareBytes_cons]
    exact orL2_range (compareInt_range _ _) (compareBytes_range a b)

theorem compareBytes_O3 : ∀ a b c : List UInt8, O3 (Lib.compareBytes a b) (Lib.compareBytes b c) (Lib.compareBytes a c)
  | [], [], [] => by unfold O3; simp [Lib.compareBytes]
  | [], [], _ :: _ => by unfold O3; simp [Lib.compareBytes]
  | [], _ :: _, [] => by unfold O3; simp [Lib.compareBytes]
  | _ :: _, [], [] => by unfold O3; simp [Lib.compareBytes]
  | [], y :: b, z :: c => by
    have h := compareBytes_range (y :: b) (z :: c)
    have e1 : Lib.compareBytes [] (y :: b) = -1 := rfl
    have e2 : Lib.compareBytes [] (z :: c) = -1 := rfl
    rw [e1, e2]
    unfold O3
    omega
  | x :: a, [], z :: c => by
    have h := compareBytes_range (x :: a) (z :: c)
    have e1 : Lib.compareBytes (x :: a) [] = 1 := rfl
    have e2 : Lib.compareBytes [] (z :: c) = -1 := rfl
    rw [e1, e2]
    unfold O3
    omega
  | x :: a, y :: b, [] => by
    have h := compareBytes_range (x :: a) (y :: b)
    have e1 : Lib.compareBytes (x :: a) [] = 1 := rfl
    have e2 : Lib.compareBytes (y :: b) [] = 1 := rfl
    rw [e1, e2]
    unfold O3
    omega
  | x :: a, y :: b, z :: c => by
    rw [compareBytes_cons, compareBytes_cons, compareBytes_cons]
    exact (compareInt_O3 _ _ _).lex2 (compareBytes_O3 a b c)

theorem orL2_anti {a b a' b' : Int} (ha : a' = -a) (hb : b' = -b) : orL [a', b'] = - orL [a, b] := by
  simp only [orL]
  (repeat' split) <;> omega

theorem compareBytes_anti : ∀ a b : List UInt8, Lib.compareBytes b a = - Lib.compareBytes a b
  | [], [] => rfl
  | [], _ :: _ => rfl
  | _ :: _, [] => rfl
  | x :: a, y :: b => by
    rw [compareBytes_cons, compareBytes_cons]
    exact orL2_anti (compareInt_anti _ _) (compareBytes_anti a b)

theorem orL2_zero {a b : Int} (h : orL [a, b] = 0) : a = 0 ∧ b = 0 := by
  simp only [orL] at h
  (repeat' split at h) <;> omega

theorem compareBytes_zero : ∀ {a b : List UInt8}, Lib.compareBytes a b = 0 → a = b
  | [], [], _ => rfl
  | [], _ :: _, h => by simp [Lib.compareBytes] at h
  | _ :: _, [], h => by simp [Lib.compareBytes] at h
  | x :: a, y :: b, h => by
    rw [compareBytes_cons] at h
    obtain ⟨h1, h2⟩ := orL2_zero h
    have e := compareInt_zero h1
    have e' : x = y := UInt8.toNat_inj.1 (by omega)
    rw [e', compareBytes_zero h2]

theorem cmpV_O3 (k1 n1 : Int) (s1 : ByteArray) (k2 n2 : Int) (s2 : ByteArray) (k3 n3 : Int) (s3 : ByteArray) : O3 (cmpV k1 n1 s1 k2 n2 s2) (cmpV k2 n2 s2 k3 n3 s3) (cmpV k1 n1 s1 k3 n3 s3) :=
  (compareInt_O3 _ _ _).lex3 (compareInt_O3 _ _ _) (compareBytes_O3 _ _ _)

theorem cmpV_anti (k1 n1 : Int) (s1 : ByteArray) (k2 n2 : Int) (s2 : ByteArray) : cmpV k2 n2 s2 k1 n1 s1 = - cmpV k1 n1 s1 k2 n2 s2 := by
  unfold cmpV
  rw [orL3, orL3 (Lib.compareInt k1 k2)]
  exact orL2_anti (compareInt_anti _ _) (orL2_anti (compareInt_anti _ _) (compareBytes_anti _ _))

theorem cmpV_zero {k1 n1 : Int} {s1 : ByteArray} {k2 n2 : Int} {s2 : ByteArray} (h : cmpV k1 n1 s1 k2 n2 s2 = 0) : k1 = k2 ∧ n1 = n2 ∧ s1.toList = s2.toList := by
  unfold cmpV at h
  rw [orL3] at h
  obtain ⟨h1, h2⟩ := orL2_zero h
  obtain ⟨h3, h4⟩ := orL2_zero h2
  exact ⟨compareInt_zero h1, compareInt_zero h3, by rw [ByteArray.toList_eq, ByteArray.toList_eq]; exact compareBytes_zero h4⟩

theorem cmpV_range (k1 n1 : Int) (s1 : ByteArray) (k2 n2 : Int) (s2 : ByteArray) : cmpV k1 n1 s1 k2 n2 s2 = -1 ∨ cmpV k1 n1 s1 k2 n2 s2 = 0 ∨ cmpV k1 n1 s1 k2 n2 s2 = 1 := by
  have := (cmpV_O3 k1 n1 s1 k2 n2 s2 k2 n2 s2).1
  omega

end Go.Proofs.YtoppgalbmijhdaaGreatDoor.AR
