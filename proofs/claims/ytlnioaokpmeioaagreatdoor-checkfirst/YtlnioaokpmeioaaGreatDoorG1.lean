import Derived.WalkKit
import Derived.Below
import Derived.Lib.Strings
import Derived.Lib.Small
import Derived.Lib.Bytealg
import Derived.Laws.Strings
import Derived.Test.YtlnioaokpmeioaaGreatDoorProg
import Derived.WalkSpells
import Derived.WalkLawsBesides
import Derived.Deep.RegionHeld3
import Derived.Deep.DrawnRows
import Derived.Deep.Light
import Derived.Lib.Slices
import Derived.Lib.Walk
section
namespace Go.Proofs.YtlnioaokpmeioaaGreatDoor
open Go.RowKit

theorem bcell {W w1 : World} (hb : Below W.heap.size W w1) : (∀ b o, b < W.heap.size → w1.cell? ⟨b, o, none⟩ = W.cell? ⟨b, o, none⟩) ∧ (∀ b o, b < W.heap.size → w1.frozen? ⟨b, o, none⟩ = W.frozen? ⟨b, o, none⟩) :=
  ⟨fun b o h => hb.cell (p := ⟨b, o, none⟩) h, fun b o h => hb.frozen (p := ⟨b, o, none⟩) h⟩

def chk (k n : Int) (s : ByteArray) : Int :=
  if k = 1 ∧ s.toList = [] ∨ k = 2 ∧ n = 0 ∧ (s.size : Int) ≤ 200 then 0 else 10

theorem chk_ok {k n : Int} {s : ByteArray} (h : k = 1 ∧ s.toList = [] ∨ k = 2 ∧ n = 0 ∧ (s.size : Int) ≤ 200) : 0 = chk k n s := (if_pos h).symm
theorem chk_no {k n : Int} {s : ByteArray} (h : ¬ (k = 1 ∧ s.toList = [] ∨ k = 2 ∧ n = 0 ∧ (s.size : Int) ≤ 200)) : 10 = chk k n s := (if_neg h).symm

theorem ret_int {k : IntKind} {a b : Int} (h : a = b) : Ending.returned (.int k a) = .returned (.int k b) := by rw [h]

theorem ret_bool {a b : Bool} (h : a = b) : Ending.returned (.bool a) = .returned (.bool b) := by rw [h]

def orL : List Int → Int
  | [] => 0
  | z :: r => if z = 0 then orL r else z

theorem orL_drop (zs : List Int) (k : Nat) (h : k < zs.length) : orL (zs.drop k) = if zs.getD k 0 = 0 then orL (zs.drop (k + 1)) else zs.getD k 0 := by
  rw [List.drop_eq_getElem_cons h]
  simp [orL, List.getD, List.getElem?_eq_getElem h]

def cmpV (k1 n1 : Int) (s1 : ByteArray) (k2 n2 : Int) (s2 : ByteArray) : Int :=
  orL [Lib.compareInt k1 k2, Lib.compareInt n1 n2, Lib.compareBytes s1.data.toList s2.data.toList]

theorem compareBytes_self : ∀ a : List UInt8, Lib.compareBytes a a = 0
  | [] => rfl
  | x :: a => by
    have h : ¬ x < x := UInt8.lt_irrefl x
    simp [Lib.compareBytes, h, compareBytes_self a]

theorem compareBytes_less : ∀ a b : List UInt8, Op.bytesLess a b = true → Lib.compareBytes a b = -1
  | [], [] => by simp [Op.bytesLess]
  | [], _ :: _ => by simp [Lib.compareBytes]
  | _ :: _, [] => by simp [Op.bytesLess]
  | x :: a, y :: b => by
    intro h
    simp only [Op.bytesLess, Bool.or_eq_true, decide_eq_true_eq, Bool.and_eq_true, beq_iff_eq] at h
    rcases h with h | ⟨rfl, h⟩
    · simp [Lib.compareBytes, h]
    · have hx : ¬ x < x := UInt8.lt_irrefl x
      simp [Lib.compareBytes, hx, compareBytes_less a b h]

theorem compareBytes_more : ∀ a b : List UInt8, Op.bytesLess a b = false → ¬ a = b → Lib.compareBytes a b = 1
  | [], [] => by simp
  | [], _ :: _ => by simp [Op.bytesLess]
  | _ :: _, [] => by simp [Lib.compareBytes]
  | x :: a, y :: b => by
    intro h hne
    simp only [Op.bytesLess, Bool.or_eq_false_iff, decide_eq_false_iff_not, Bool.and_eq_false_iff, beq_eq_false_iff_ne] at h
    obtain ⟨h1, h2⟩ := h
    by_cases hxy : x = y
    · subst hxy
      have h3 : Op.bytesLess a b = false := by simpa using h2
      have h4 : ¬ a = b := fun e => hne (by rw [e])
      simp [Lib.compareBytes, h1, compareBytes_more a b h3 h4]
    · have : y < x := UInt8.lt_of_le_of_ne (UInt8.not_lt.1 h1) (Ne.symm hxy)
      simp [Lib.compareBytes, h1, this]

theorem compareInt_self (a : Int) : Lib.compareInt a a = 0 := by simp [Lib.compareInt]

theorem cmpV_k1 {k1 k2 : Int} (n1 n2 : Int) (s1 s2 : ByteArray) (h : k1 < k2) : cmpV k1 n1 s1 k2 n2 s2 = -1 := by
  simp [cmpV, orL, Lib.compareInt, h]
theorem cmpV_k2 {k1 k2 : Int} (n1 n2 : Int) (s1 s2 : ByteArray) (hn : ¬ k1 = k2) (h : k2 ≤ k1) : cmpV k1 n1 s1 k2 n2 s2 = 1 := by
  have a : ¬ k1 < k2 := by omega
  have b : k2 < k1 := by omega
  simp [cmpV, orL, Lib.compareInt, a, b]
theorem cmpV_n1 {k n1 n2 : Int} (s1 s2 : ByteArray) (h : n1 < n2) : cmpV k n1 s1 k n2 s2 = -1 := by
  simp [cmpV, orL, Lib.compareInt, h]
theorem cmpV_n2 {k n1 n2 : Int} (s1 s2 : ByteArray) (hn : ¬ n1 = n2) (h : n2 ≤ n1) : cmpV k n1 s1 k n2 s2 = 1 := by
  have a : ¬ n1 < n2 := by omega
  have b : n2 < n1 := by omega
  simp [cmpV, orL, Lib.compareInt, a, b]
theorem cmpV_s (k n : Int) (s1 s2 : ByteArray) : cmpV k n s1 k n s2 = Lib.compareBytes s1.toList s2.toList := by
  rw [ByteArray.toList_eq, ByteArray.toList_eq]
  simp only [cmpV, orL, compareInt_self, if_true]
  split <;> simp_all
theorem cmpV_s0 (k n : Int) {s1 s2 : ByteArray} (h : s1.toList = s2.toList) : cmpV k n s1 k n s2 = 0 := by
  rw [cmpV_s, h]; exact compareBytes_self _
theorem cmpV_s1 (k n : Int) {s1 s2 : ByteArray} (h : Op.bytesLess s1.toList s2.toList = true) : cmpV k n s1 k n s2 = -1 := by
  rw [cmpV_s]; exact compareBytes_less _ _ h
theorem cmpV_s2 (k n : Int) {s1 s2 : ByteArray} (hn : ¬ s1.toList = s2.toList) (h : Op.bytesLess s1.toList s2.toList = false) : cmpV k n s1 k n s2 = 1 := by
  rw [cmpV_s]; exact compareBytes_more _ _ h hn

def relB (r c : Int) : Bool :=
  if r = 1 then c == 0 else if r = 2 then c != 0 else if r = 3 then decide (c < 0) else if r = 4 then decide (c ≤ 0) else if r = 5 then decide (0 < c) else if r = 6 then decide (0 ≤ c) else false

def holdsV (r k1 n1 : Int) (s1 : ByteArray) (k2 n2 : Int) (s2 : ByteArray) : Bool :=
  if chk k1 n1 s1 = 0 ∧ chk k2 n2 s2 = 0 then relB r (cmpV k1 n1 s1 k2 n2 s2) else false

theorem holdsV_yes {r k1 n1 : Int} {s1 : ByteArray} {k2 n2 : Int} {s2 : ByteArray} (c1 : chk k1 n1 s1 = 0) (c2 : chk k2 n2 s2 = 0) : holdsV r k1 n1 s1 k2 n2 s2 = relB r (cmpV k1 n1 s1 k2 n2 s2) := if_pos ⟨c1, c2⟩
theorem holdsV_no {r k1 n1 : Int} {s1 : ByteArray} {k2 n2 : Int} {s2 : ByteArray} (c : ¬ (chk k1 n1 s1 = 0 ∧ chk k2 n2 s2 = 0)) : holdsV r k1 n1 s1 k2 n2 s2 = false := if_neg c

end Go.Proofs.YtlnioaokpmeioaaGreatDoor
end
section
namespace Go.Proofs.YtlnioaokpmeioaaGreatDoor
open Go.RowKit
set_option linter.unusedVariables false

set_option maxHeartbeats 400000 in
theorem vcheck_any (k n : Int) (s : ByteArray) (w : World) (hs : s.size ≤ maxLen) :
    Calls Tryz.prog 40 #[.agg #[.int .i8 k, .int .i64 n, .string s]] w fun e w' => e = .returned (.int .i64 (chk k n s)) ∧ Below w.heap.size w w' := by
  unfold maxLen at hs
  go_enter Tryz.func40, Tryz.ntmps40
  go_wp2
  all_goals
    go_ret
    refine ⟨ret_int ?_, (Below.refl _ _).alloc (Nat.le_refl _) _⟩
    skip
    first
      | (refine chk_ok ?_; simp_all; done)
      | (refine chk_no ?_; simp_all; done)
      | (refine chk_no ?_; simp_all; omega)
      | (exfalso; simp_all; done)

end Go.Proofs.YtlnioaokpmeioaaGreatDoor
end
section
namespace Go.Proofs.YtlnioaokpmeioaaGreatDoor
open Go.RowKit
set_option linter.unusedVariables false
attribute [local go_sem ↓] Go.wp_at_zero Go.wp_at_succ

def smallB (c : Int) : Bool := decide (97 ≤ c ∧ c ≤ 122)
def capitalB (c : Int) : Bool := decide (65 ≤ c ∧ c ≤ 90)
def digitB (c : Int) : Bool := decide (48 ≤ c ∧ c ≤ 57)
def letterB (c : Int) : Bool := smallB c || capitalB c || digitB c || c == 95
/-- the eight keywords, as bytes -/
def keywords : List (List UInt8) := [[110, 111, 116], [99, 111, 117, 110, 116], [115, 117, 109], [109, 105, 110], [109, 97, 120], [108, 101, 110], [99, 104, 97, 114, 115], [98, 97, 99, 107]]
def kwB (s : ByteArray) : Bool := decide (s.toList ∈ keywords)
def byteAt (s : ByteArray) (k : Nat) : Int := if h : k < s.size then (s[k].toNat : Int) else 0
theorem byteAt_eq {s : ByteArray} {k : Nat} (h : k < s.size) : byteAt s k = (s[k].toNat : Int) := dif_pos h
def lettersB (s : ByteArray) : Nat → Bool
  | 0 => true
  | k + 1 => lettersB s k && letterB (byteAt s k)
def nameB (s : ByteArray) : Bool := decide (s.size ≠ 0) && decide (s.size ≤ 120) && smallB (byteAt s 0) && !kwB s && lettersB s s.size
theorem empty_iff (s : ByteArray) : s.toList.isEmpty = decide (s.size = 0) := by
  rw [ByteArray.toList_eq, ← ByteArray.size_data, ← Array.length_toList]
  cases s.data.toList <;> simp

theorem lettersB_not {s : ByteArray} {k : Nat} (h : letterB (byteAt s k) = false) : ∀ {n : Nat}, k < n → lettersB s n = false
  | 0, hk => by omega
  | n + 1, hk => by
    by_cases e : k = n
    · subst e; simp only [lettersB, h, Bool.and_false]
    · simp only [lettersB, lettersB_not h (n := n) (by omega), Bool.false_and]

theorem isSmall_any (c : Int) (w : World) : Calls Tryz.prog 103 #[.int .u8 c] w fun e w' => e = .returned (.bool (smallB c)) ∧ w' = w := by
  go_enter Tryz.func103, Tryz.ntmps103
  go_wp2
  all_goals
    go_ret
    refine ⟨ret_bool ?_, rfl⟩
    unfold smallB
    first | (simp; omega) | simp_all

theorem isCapital_any (c : Int) (w : World) : Calls Tryz.prog 105 #[.int .u8 c] w fun e w' => e = .returned (.bool (capitalB c)) ∧ w' = w := by
  go_enter Tryz.func105, Tryz.ntmps105
  go_wp2
  all_goals
    go_ret
    refine ⟨ret_bool ?_, rfl⟩
    unfold capitalB
    first | (simp; omega) | simp_all

theorem isDigit_any (c : Int) (w : World) : Calls Tryz.prog 106 #[.int .u8 c] w fun e w' => e = .returned (.bool (digitB c)) ∧ w' = w := by
  go_enter Tryz.func106, Tryz.ntmps106
  go_wp2
  all_goals
    go_ret
    refine ⟨ret_bool ?_, rfl⟩
    unfold digitB
    first | (simp; omega) | simp_all

theorem isKeyword_any (s : ByteArray) (w : World) : Calls Tryz.prog 104 #[.string s] w fun e w' => e = .returned (.bool (kwB s)) ∧ w' = w := by
  go_enter Tryz.func104, Tryz.ntmps104
  go_wp2
  all_goals
    go_ret
    refine ⟨ret_bool ?_, rfl⟩
    go_light
    unfold kwB keywords
    simp_all

set_option maxHeartbeats 1600000 in
theorem isName_any (s : ByteArray) (w : World) (hs : s.size ≤ maxLen) : Calls Tryz.prog 80 #[.string s] w fun e w' => e = .returned (.bool (nameB s)) ∧ w' = w := by
  unfold maxLen at hs
  by_cases h0 : s.size = 0
  · have he : s.toList.isEmpty = true := by rw [empty_iff]; simpa using h0
    have HF : Hid (nameB s = false) := by show nameB s = false; simp [nameB, h0]
    go_enter Tryz.func80, Tryz.ntmps80
    go_wp2
    go_ret
    exact ⟨ret_bool HF.out.symm, rfl⟩
  · have he : s.toList.isEmpty = false := by rw [empty_iff]; simpa using h0
    have hpos : (0 : Int) < (s.size : Int) := by omega
    by_cases h1 : s.size ≤ 120
    · have hlt0 : 0 < s.size := by omega
      have hb0 := byteAt_eq hlt0
      have HN : Hid (nameB s = (smallB (s[0].toNat : Int) && !kwB s && lettersB s s.size)) := by
        show nameB s = _
        unfold nameB
        rw [hb0]
        simp [h0, h1]
      clear hb0
      cases hsm : smallB (s[0].toNat : Int)
      · have HF : Hid (nameB s = false) := by show nameB s = false; rw [HN.out, hsm]; simp
        go_enter Tryz.func80, Tryz.ntmps80
        go_wp2_with (go_at_call 103; refine (isSmall_any _ _).mono ?_; rintro e w' ⟨rfl, rfl⟩)
        go_ret
        exact ⟨ret_bool HF.out.symm, rfl⟩
      · cases hkw : kwB s
        · have HY : Hid (nameB s = lettersB s s.size) := by show nameB s = _; rw [HN.out, hsm, hkw]; simp
          go_enter Tryz.func80, Tryz.ntmps80
          go_wp2_with (first
            | (go_at_call 103; refine (isSmall_any _ _).mono ?_; rintro e w' ⟨rfl, rfl⟩)
            | (go_at_call 104; refine (isKeyword_any _ _).mono ?_; rintro e w' ⟨rfl, rfl⟩))
          go_loop [24] (fun i => ∃ k : Nat, k ≤ s.size ∧ i = .int .i64 k ∧ Hid (lettersB s k = true)) (fun i => s.size - (intOf i).toNat)
          case atStart => exact ⟨0, Nat.zero_le _, rfl, rfl⟩
          case round =>
            obtain ⟨k, hk, rfl, HL⟩ := hrel
            by_cases hlt : k < s.size
            · have HB : Hid (byteAt s k = (s[k].toNat : Int)) := byteAt_eq hlt
              have hlt' : (k : Int) < (s.size : Int) := by omega
              cases hx : letterB (s[k].toNat : Int)
              · have HF : Hid (nameB s = false) := by show nameB s = false; rw [HY.out]; exact lettersB_not (by rw [HB.out]; exact hx) hlt
                unfold letterB at hx
                simp only [Bool.or_eq_false_iff] at hx
                obtain ⟨⟨⟨x1, x2⟩, x3⟩, x4⟩ := hx
                have x4' : ((s[k].toNat : Int) != 95) = true := by simpa using x4
                clear x4
                go_wp2_with (first
                  | (go_at_call 103; refine (isSmall_any _ _).mono ?_; rintro e w' ⟨rfl, rfl⟩)
                  | (go_at_call 105; refine (isCapital_any _ _).mono ?_; rintro e w' ⟨rfl, rfl⟩)
                  | (go_at_call 106; refine (isDigit_any _ _).mono ?_; rintro e w' ⟨rfl, rfl⟩))
                go_ret
                exact ⟨ret_bool HF.out.symm, rfl⟩
              · have HS : Hid (lettersB s (k + 1) = true) := by show lettersB s (k + 1) = true; simp only [lettersB, HL.out, HB.out, hx, Bool.and_self]
                unfold letterB at hx
                cases x1 : smallB (s[k].toNat : Int)
                · cases x2 : capitalB (s[k].toNat : Int)
                  · cases x3 : digitB (s[k].toNat : Int)
                    · have x4 : ((s[k].toNat : Int) != 95) = false := by rw [x1, x2, x3] at hx; simpa using hx
                      clear hx
                      go_wp2_with (first
                        | (go_at_call 103; refine (isSmall_any _ _).mono ?_; rintro e w' ⟨rfl, rfl⟩)
                        | (go_at_call 105; refine (isCapital_any _ _).mono ?_; rintro e w' ⟨rfl, rfl⟩)
                        | (go_at_call 106; refine (isDigit_any _ _).mono ?_; rintro e w' ⟨rfl, rfl⟩))
                      go_round
                      case rel => exact ⟨k + 1, by omega, by go_num, HS⟩
                      case measure => simp [intOf]; omega
                    · clear hx
                      go_wp2_with (first
                        | (go_at_call 103; refine (isSmall_any _ _).mono ?_; rintro e w' ⟨rfl, rfl⟩)
                        | (go_at_call 105; refine (isCapital_any _ _).mono ?_; rintro e w' ⟨rfl, rfl⟩)
                        | (go_at_call 106; refine (isDigit_any _ _).mono ?_; rintro e w' ⟨rfl, rfl⟩))
                      go_round
                      case rel => exact ⟨k + 1, by omega, by go_num, HS⟩
                      case measure => simp [intOf]; omega
                  · clear hx
                    go_wp2_with (first
                      | (go_at_call 103; refine (isSmall_any _ _).mono ?_; rintro e w' ⟨rfl, rfl⟩)
                      | (go_at_call 105; refine (isCapital_any _ _).mono ?_; rintro e w' ⟨rfl, rfl⟩))
                    go_round
                    case rel => exact ⟨k + 1, by omega, by go_num, HS⟩
                    case measure => simp [intOf]; omega
                · clear hx
                  go_wp2_with (go_at_call 103; refine (isSmall_any _ _).mono ?_; rintro e w' ⟨rfl, rfl⟩)
                  go_round
                  case rel => exact ⟨k + 1, by omega, by go_num, HS⟩
                  case measure => simp [intOf]; omega
            · obtain rfl : k = s.size := by omega
              go_wp2
              go_ret
              exact ⟨ret_bool (by rw [HY.out, HL.out]), rfl⟩
        · have HF : Hid (nameB s = false) := by show nameB s = false; rw [HN.out, hkw]; simp
          go_enter Tryz.func80, Tryz.ntmps80
          go_wp2_with (first
            | (go_at_call 103; refine (isSmall_any _ _).mono ?_; rintro e w' ⟨rfl, rfl⟩)
            | (go_at_call 104; refine (isKeyword_any _ _).mono ?_; rintro e w' ⟨rfl, rfl⟩))
          go_ret
          exact ⟨ret_bool HF.out.symm, rfl⟩
    · have HF : Hid (nameB s = false) := by show nameB s = false; simp [nameB, h1]
      go_enter Tryz.func80, Tryz.ntmps80
      go_wp2
      go_ret
      exact ⟨ret_bool HF.out.symm, rfl⟩

end Go.Proofs.YtlnioaokpmeioaaGreatDoor
end
