import Derived.WalkKit
import Derived.Below
import Derived.Lib.Strings
import Derived.Lib.Small
import Derived.Lib.Bytealg
import Derived.Laws.Strings
import Derived.Test.YtdchfmokicfmnaaDoorProg
import Derived.WalkSpells
import Derived.WalkLawsBesides
import Derived.Deep.RegionHeld3
import Derived.Deep.DrawnRows
import Derived.Deep.Light
import Derived.Lib.Slices
import Derived.Lib.Walk
section
namespace Go.Proofs.YtdchfmokicfmnaaDoor
open Go.RowKit

theorem bcell {W w1 : World} (hb : Below W.heap.size W w1) : (∀ b o, b < W.heap.size → w1.cell? ⟨b, o, none⟩ = W.cell? ⟨b, o, none⟩) ∧ (∀ b o, b < W.heap.size → w1.frozen? ⟨b, o, none⟩ = W.frozen? ⟨b, o, none⟩) :=
  ⟨fun b o h => hb.cell (p := ⟨b, o, none⟩) h, fun b o h => hb.frozen (p := ⟨b, o, none⟩) h⟩

def chk (k n : Int) (s : ByteArray) : Int :=
  if k = 1 ∧ s.toList = [] ∨ k = 2 ∧ n = 0 ∧ (s.size : Int) ≤ 200 then 0 else 10

theorem chk_ok {k n : Int} {s : ByteArray} (h : k = 1 ∧ s.toList = [] ∨ k = 2 ∧ n = 0 ∧ (s.size : Int) ≤ 200) : 0 = chk k n s := (if_pos h).symm
theorem chk_no {k n : Int} {s : ByteArray} (h : ¬ (k = 1 ∧ s.toList = [] ∨ k = 2 ∧ n = 0 ∧ (s.size : Int) ≤ 200)) : 10 = chk k n s := (if_neg h).symm

theorem ret_int {k : IntKind} {a b : Int} (h : a = b) : Ending.returned (.int k a) = .returned (.int k b) := by rw [h]

theorem ret_bool {a b : Bool} (h : a = b) : Ending.returned (.bool a) = .returned (.bool b) := by rw [h]

def orL : List Int → Int
  | [] => 0
  | z :: r => if z = 0 then orL r else z

theorem orL_drop (zs : List Int) (k : Nat) (h : k < zs.length) : orL (zs.drop k) = if zs.getD k 0 = 0 then orL (zs.drop (k + 1)) else zs.getD k 0 := by
  rw [List.drop_eq_getElem_cons h]
  simp [orL, List.getD, List.getElem?_eq_getElem h]

def cmpV (k1 n1 : Int) (s1 : ByteArray) (k2 n2 : Int) (s2 : ByteArray) : Int :=
  orL [Lib.compareInt k1 k2, Lib.compareInt n1 n2, Lib.compareBytes s1.data.toList s2.data.toList]

theorem compareBytes_self : ∀ a : List UInt8, Lib.compareBytes a a = 0
  | [] => rfl
  | x :: a => by
    have h : ¬ x < x := UInt8.lt_irrefl x
    simp [Lib.compareBytes, h, compareBytes_self a]

theorem compareBytes_less : ∀ a b : List UInt8, Op.bytesLess a b = true → Lib.compareBytes a b = -1
  | [], [] => by simp [Op.bytesLess]
  | [], _ :: _ => by simp [Lib.compareBytes]
  | _ :: _, [] => by simp [Op.bytesLess]
  | x :: a, y :: b => by
    intro h
    simp only [Op.bytesLess, Bool.or_eq_true, decide_eq_true_eq, Bool.and_eq_true, beq_iff_eq] at h
    rcases h with h | ⟨rfl, h⟩
    · simp [Lib.compareBytes, h]
    · have hx : ¬ x < x := UInt8.lt_irrefl x
      simp [Lib.compareBytes, hx, compareBytes_less a b h]

theorem compareBytes_more : ∀ a b : List UInt8, Op.bytesLess a b = false → ¬ a = b → Lib.compareBytes a b = 1
  | [], [] => by simp
  | [], _ :: _ => by simp [Op.bytesLess]
  | _ :: _, [] => by simp [Lib.compareBytes]
  | x :: a, y :: b => by
    intro h hne
    simp only [Op.bytesLess, Bool.or_eq_false_iff, decide_eq_false_iff_not, Bool.and_eq_false_iff, beq_eq_false_iff_ne] at h
    obtain ⟨h1, h2⟩ := h
    by_cases hxy : x = y
    · subst hxy
      have h3 : Op.bytesLess a b = false := by simpa using h2
      have h4 : ¬ a = b := fun e => hne (by rw [e])
      simp [Lib.compareBytes, h1, compareBytes_more a b h3 h4]
    · have : y < x := UInt8.lt_of_le_of_ne (UInt8.not_lt.1 h1) (Ne.symm hxy)
      simp [Lib.compareBytes, h1, this]

theorem compareInt_self (a : Int) : Lib.compareInt a a = 0 := by simp [Lib.compareInt]

theorem cmpV_k1 {k1 k2 : Int} (n1 n2 : Int) (s1 s2 : ByteArray) (h : k1 < k2) : cmpV k1 n1 s1 k2 n2 s2 = -1 := by
  simp [cmpV, orL, Lib.compareInt, h]
theorem cmpV_k2 {k1 k2 : Int} (n1 n2 : Int) (s1 s2 : ByteArray) (hn : ¬ k1 = k2) (h : k2 ≤ k1) : cmpV k1 n1 s1 k2 n2 s2 = 1 := by
  have a : ¬ k1 < k2 := by omega
  have b : k2 < k1 := by omega
  simp [cmpV, orL, Lib.compareInt, a, b]
theorem cmpV_n1 {k n1 n2 : Int} (s1 s2 : ByteArray) (h : n1 < n2) : cmpV k n1 s1 k n2 s2 = -1 := by
  simp [cmpV, orL, Lib.compareInt, h]
theorem cmpV_n2 {k n1 n2 : Int} (s1 s2 : ByteArray) (hn : ¬ n1 = n2) (h : n2 ≤ n1) : cmpV k n1 s1 k n2 s2 = 1 := by
  have a : ¬ n1 < n2 := by omega
  have b : n2 < n1 := by omega
  simp [cmpV, orL, Lib.compareInt, a, b]
theorem cmpV_s (k n : Int) (s1 s2 : ByteArray) : cmpV k n s1 k n s2 = Lib.compareBytes s1.toList s2.toList := by
  rw [ByteArray.toList_eq, ByteArray.toList_eq]
  simp only [cmpV, orL, compareInt_self, if_true]
  split <;> simp_all
theorem cmpV_s0 (k n : Int) {s1 s2 : ByteArray} (h : s1.toList = s2.toList) : cmpV k n s1 k n s2 = 0 := by
  rw [cmpV_s, h]; exact compareBytes_self _
theorem cmpV_s1 (k n : Int) {s1 s2 : ByteArray} (h : Op.bytesLess s1.toList s2.toList = true) : cmpV k n s1 k n s2 = -1 := by
  rw [cmpV_s]; exact compareBytes_less _ _ h
theorem cmpV_s2 (k n : Int) {s1 s2 : ByteArray} (hn : ¬ s1.toList = s2.toList) (h : Op.bytesLess s1.toList s2.toList = false) : cmpV k n s1 k n s2 = 1 := by
  rw [cmpV_s]; exact compareBytes_more _ _ h hn

def relB (r c : Int) : Bool :=
  if r = 1 then c == 0 else if r = 2 then c != 0 else if r = 3 then decide (c < 0) else if r = 4 then decide (c ≤ 0) else if r = 5 then decide (0 < c) else if r = 6 then decide (0 ≤ c) else false

def holdsV (r k1 n1 : Int) (s1 : ByteArray) (k2 n2 : Int) (s2 : ByteArray) : Bool :=
  if chk k1 n1 s1 = 0 ∧ chk k2 n2 s2 = 0 then relB r (cmpV k1 n1 s1 k2 n2 s2) else false

theorem holdsV_yes {r k1 n1 : Int} {s1 : ByteArray} {k2 n2 : Int} {s2 : ByteArray} (c1 : chk k1 n1 s1 = 0) (c2 : chk k2 n2 s2 = 0) : holdsV r k1 n1 s1 k2 n2 s2 = relB r (cmpV k1 n1 s1 k2 n2 s2) := if_pos ⟨c1, c2⟩
theorem holdsV_no {r k1 n1 : Int} {s1 : ByteArray} {k2 n2 : Int} {s2 : ByteArray} (c : ¬ (chk k1 n1 s1 = 0 ∧ chk k2 n2 s2 = 0)) : holdsV r k1 n1 s1 k2 n2 s2 = false := if_neg c

end Go.Proofs.YtdchfmokicfmnaaDoor
end
section
namespace Go.Proofs.YtdchfmokicfmnaaDoor
open Go.RowKit
set_option linter.unusedVariables false

set_option maxHeartbeats 400000 in
theorem vcheck_any (k n : Int) (s : ByteArray) (w : World) (hs : s.size ≤ maxLen) :
    Calls Tryd.prog 76 #[.agg #[.int .i8 k, .int .i64 n, .string s]] w fun e w' => e = .returned (.int .i64 (chk k n s)) ∧ Below w.heap.size w w' := by
  unfold maxLen at hs
  go_enter Tryd.func76, Tryd.ntmps76
  go_wp2
  all_goals
    go_ret
    refine ⟨ret_int ?_, (Below.refl _ _).alloc (Nat.le_refl _) _⟩
    skip
    first
      | (refine chk_ok ?_; simp_all; done)
      | (refine chk_no ?_; simp_all; done)
      | (refine chk_no ?_; simp_all; omega)
      | (exfalso; simp_all; done)

end Go.Proofs.YtdchfmokicfmnaaDoor
end
section
namespace Go.Proofs.YtdchfmokicfmnaaDoor
open Go.RowKit
set_option linter.unusedVariables false
attribute [local go_sem ↓] Go.wp_at_zero Go.wp_at_succ

def smallB (c : Int) : Bool := decide (97 ≤ c ∧ c ≤ 122)
def capitalB (c : Int) : Bool := decide (65 ≤ c ∧ c ≤ 90)
def digitB (c : Int) : Bool := decide (48 ≤ c ∧ c ≤ 57)
def letterB (c : Int) : Bool := smallB c || capitalB c || digitB c || c == 95
/-- the eight keywords, as bytes -/
def keywords : List (List UInt8) := [[110, 111, 116], [99, 111, 117, 110, 116], [115, 117, 109], [109, 105, 110], [109, 97, 120], [108, 101, 110], [99, 104, 97, 114, 115], [98, 97, 99, 107]]
def kwB (s : ByteArray) : Bool := decide (s.toList ∈ keywords)
def byteAt (s : ByteArray) (k : Nat) : Int := if h : k < s.size then (s[k].toNat : Int) else 0
theorem byteAt_eq {s : ByteArray} {k : Nat} (h : k < s.size) : byteAt s k = (s[k].toNat : Int) := dif_pos h
def lettersB (s : ByteArray) : Nat → Bool
  | 0 => true
  | k + 1 => lettersB s k && letterB (byteAt s k)
def nameB (s : ByteArray) : Bool := decide (s.size ≠ 0) && decide (s.size ≤ 120) && smallB (byteAt s 0) && !kwB s && lettersB s s.size
theorem empty_iff (s : ByteArray) : s.toList.isEmpty = decide (s.size = 0) := by
  rw [ByteArray.toList_eq, ← ByteArray.size_data, ← Array.length_toList]
  cases s.data.toList <;> simp

theorem lettersB_not {s : ByteArray} {k : Nat} (h : letterB (byteAt s k) = false) : ∀ {n : Nat}, k < n → lettersB s n = false
  | 0, hk => by omega
  | n + 1, hk => by
    by_cases e : k = n
    · subst e; simp only [lettersB, h, Bool.and_false]
    · simp only [lettersB, lettersB_not h (n := n) (by omega), Bool.false_and]

theorem isSmall_any (c : Int) (w : World) : Calls Tryd.prog 83 #[.int .u8 c] w fun e w' => e = .returned (.bool (smallB c)) ∧ w' = w := by
  go_enter Tryd.func83, Tryd.ntmps83
  go_wp2
  all_goals
    go_ret
    refine ⟨ret_bool ?_, rfl⟩
    unfold smallB
    first | (simp; omega) | simp_all

theorem isCapital_any (c : Int) (w : World) : Calls Tryd.prog 85 #[.int .u8 c] w fun e w' => e = .returned (.bool (capitalB c)) ∧ w' = w := by
  go_enter Tryd.func85, Tryd.ntmps85
  go_wp2
  all_goals
    go_ret
    refine ⟨ret_bool ?_, rfl⟩
    unfold capitalB
    first | (simp; omega) | simp_all

theorem isDigit_any (c : Int) (w : World) : Calls Tryd.prog 86 #[.int .u8 c] w fun e w' => e = .returned (.bool (digitB c)) ∧ w' = w := by
  go_enter Tryd.func86, Tryd.ntmps86
  go_wp2
  all_goals
    go_ret
    refine ⟨ret_bool ?_, rfl⟩
    unfold digitB
    first | (simp; omega) | simp_all

theorem isKeyword_any (s : ByteArray) (w : World) : Calls Tryd.prog 84 #[.string s] w fun e w' => e = .returned (.bool (kwB s)) ∧ w' = w := by
  go_enter Tryd.func84, Tryd.ntmps84
  go_wp2
  all_goals
    go_ret
    refine ⟨ret_bool ?_, rfl⟩
    go_light
    unfold kwB keywords
    simp_all

set_option maxHeartbeats 1600000 in
theorem isName_any (s : ByteArray) (w : World) (hs : s.size ≤ maxLen) : Calls Tryd.prog 78 #[.string s] w fun e w' => e = .returned (.bool (nameB s)) ∧ w' = w := by
  unfold maxLen at hs
  by_cases h0 : s.size = 0
  · have he : s.toList.isEmpty = true := by rw [empty_iff]; simpa using h0
    have HF : Hid (nameB s = false) := by show nameB s = false; simp [nameB, h0]
    go_enter Tryd.func78, Tryd.ntmps78
    go_wp2
    go_ret
    exact ⟨ret_bool HF.out.symm, rfl⟩
  · have he : s.toList.isEmpty = false := by rw [empty_iff]; simpa using h0
    have hpos : (0 : Int) < (s.size : Int) := by omega
    by_cases h1 : s.size ≤ 120
    · have hlt0 : 0 < s.size := by omega
      have hb0 := byteAt_eq hlt0
      have HN : Hid (nameB s = (smallB (s[0].toNat : Int) && !kwB s && lettersB s s.size)) := by
        show nameB s = _
        unfold nameB
        rw [hb0]
        simp [h0, h1]
      clear hb0
      cases hsm : smallB (s[0].toNat : Int)
      · have HF : Hid (nameB s = false) := by show nameB s = false; rw [HN.out, hsm]; simp
        go_enter Tryd.func78, Tryd.ntmps78
        go_wp2_with (go_at_call 83; refine (isSmall_any _ _).mono ?_; rintro e w' ⟨rfl, rfl⟩)
        go_ret
        exact ⟨ret_bool HF.out.symm, rfl⟩
      · cases hkw : kwB s
        · have HY : Hid (nameB s = lettersB s s.size) := by show nameB s = _; rw [HN.out, hsm, hkw]; simp
          go_enter Tryd.func78, Tryd.ntmps78
          go_wp2_with (first
            | (go_at_call 83; refine (isSmall_any _ _).mono ?_; rintro e w' ⟨rfl, rfl⟩)
            | (go_at_call 84; refine (isKeyword_any _ _).mono ?_; rintro e w' ⟨rfl, rfl⟩))
          go_loop [24] (fun i => ∃ k : Nat, k ≤ s.size ∧ i = .int .i64 k ∧ Hid (lettersB s k = true)) (fun i => s.size - (intOf i).toNat)
          case atStart => exact ⟨0, Nat.zero_le _, rfl, rfl⟩
          case round =>
            obtain ⟨k, hk, rfl, HL⟩ := hrel
            by_cases hlt : k < s.size
            · have HB : Hid (byteAt s k = (s[k].toNat : Int)) := byteAt_eq hlt
              have hlt' : (k : Int) < (s.size : Int) := by omega
              cases hx : letterB (s[k].toNat : Int)
              · have HF : Hid (nameB s = false) := by show nameB s = false; rw [HY.out]; exact lettersB_not (by rw [HB.out]; exact hx) hlt
                unfold letterB at hx
                simp only [Bool.or_eq_false_iff] at hx
                obtain ⟨⟨⟨x1, x2⟩, x3⟩, x4⟩ := hx
                have x4' : ((s[k].toNat : Int) != 95) = true := by simpa using x4
                clear x4
                go_wp2_with (first
                  | (go_at_call 83; refine (isSmall_any _ _).mono ?_; rintro e w' ⟨rfl, rfl⟩)
                  | (go_at_call 85; refine (isCapital_any _ _).mono ?_; rintro e w' ⟨rfl, rfl⟩)
                  | (go_at_call 86; refine (isDigit_any _ _).mono ?_; rintro e w' ⟨rfl, rfl⟩))
                go_ret
                exact ⟨ret_bool HF.out.symm, rfl⟩
              · have HS : Hid (lettersB s (k + 1) = true) := by show lettersB s (k + 1) = true; simp only [lettersB, HL.out, HB.out, hx, Bool.and_self]
                unfold letterB at hx
                cases x1 : smallB (s[k].toNat : Int)
                · cases x2 : capitalB (s[k].toNat : Int)
                  · cases x3 : digitB (s[k].toNat : Int)
                    · have x4 : ((s[k].toNat : Int) != 95) = false := by rw [x1, x2, x3] at hx; simpa using hx
                      clear hx
                      go_wp2_with (first
                        | (go_at_call 83; refine (isSmall_any _ _).mono ?_; rintro e w' ⟨rfl, rfl⟩)
                        | (go_at_call 85; refine (isCapital_any _ _).mono ?_; rintro e w' ⟨rfl, rfl⟩)
                        | (go_at_call 86; refine (isDigit_any _ _).mono ?_; rintro e w' ⟨rfl, rfl⟩))
                      go_round
                      case rel => exact ⟨k + 1, by omega, by go_num, HS⟩
                      case measure => simp [intOf]; omega
                    · clear hx
                      go_wp2_with (first
                        | (go_at_call 83; refine (isSmall_any _ _).mono ?_; rintro e w' ⟨rfl, rfl⟩)
                        | (go_at_call 85; refine (isCapital_any _ _).mono ?_; rintro e w' ⟨rfl, rfl⟩)
                        | (go_at_call 86; refine (isDigit_any _ _).mono ?_; rintro e w' ⟨rfl, rfl⟩))
                      go_round
                      case rel => exact ⟨k + 1, by omega, by go_num, HS⟩
                      case measure => simp [intOf]; omega
                  · clear hx
                    go_wp2_with (first
                      | (go_at_call 83; refine (isSmall_any _ _).mono ?_; rintro e w' ⟨rfl, rfl⟩)
                      | (go_at_call 85; refine (isCapital_any _ _).mono ?_; rintro e w' ⟨rfl, rfl⟩))
                    go_round
                    case rel => exact ⟨k + 1, by omega, by go_num, HS⟩
                    case measure => simp [intOf]; omega
                · clear hx
                  go_wp2_with (go_at_call 83; refine (isSmall_any _ _).mono ?_; rintro e w' ⟨rfl, rfl⟩)
                  go_round
                  case rel => exact ⟨k + 1, by omega, by go_num, HS⟩
                  case measure => simp [intOf]; omega
            · obtain rfl : k = s.size := by omega
              go_wp2
              go_ret
              exact ⟨ret_bool (by rw [HY.out, HL.out]), rfl⟩
        · have HF : Hid (nameB s = false) := by show nameB s = false; rw [HN.out, hkw]; simp
          go_enter Tryd.func78, Tryd.ntmps78
          go_wp2_with (first
            | (go_at_call 83; refine (isSmall_any _ _).mono ?_; rintro e w' ⟨rfl, rfl⟩)
            | (go_at_call 84; refine (isKeyword_any _ _).mono ?_; rintro e w' ⟨rfl, rfl⟩))
          go_ret
          exact ⟨ret_bool HF.out.symm, rfl⟩
    · have HF : Hid (nameB s = false) := by show nameB s = false; simp [nameB, h1]
      go_enter Tryd.func78, Tryd.ntmps78
      go_wp2
      go_ret
      exact ⟨ret_bool HF.out.symm, rfl⟩

end Go.Proofs.YtdchfmokicfmnaaDoor
end
section
namespace Go.Proofs.YtdchfmokicfmnaaDoor
open Go.RowKit
set_option linter.unusedVariables false
attribute [local go_sem ↓] Go.wp_at_zero Go.wp_at_succ

/-- a word: its first byte from lo to hi, letters, digits and _ behind it, at most 120 bytes -/
def wordB (lo hi : Int) (s : ByteArray) : Bool := decide (s.size ≠ 0) && decide (s.size ≤ 120) && decide (lo ≤ byteAt s 0 ∧ byteAt s 0 ≤ hi) && lettersB s s.size
def varB (s : ByteArray) : Bool := wordB 65 90 s
theorem nameB_word (s : ByteArray) : nameB s = (wordB 97 122 s && !kwB s) := by
  unfold nameB wordB smallB
  cases decide (s.size ≠ 0) <;> cases decide (s.size ≤ 120) <;> cases decide (97 ≤ byteAt s 0 ∧ byteAt s 0 ≤ 122) <;> cases kwB s <;> cases lettersB s s.size <;> rfl

theorem tLetter_any (c : Int) (w : World) : Calls Tryd.prog 87 #[.int .u8 c] w fun e w' => e = .returned (.bool (smallB c || capitalB c)) ∧ w' = w := by
  go_enter Tryd.func87, Tryd.ntmps87
  go_wp2
  all_goals
    go_ret
    refine ⟨ret_bool ?_, rfl⟩
    unfold smallB capitalB
    first | (simp; omega; done) | (simp_all; done) | (rw [Bool.eq_iff_iff]; simp; omega)

theorem tDigit_any (c : Int) (w : World) : Calls Tryd.prog 88 #[.int .u8 c] w fun e w' => e = .returned (.bool (digitB c)) ∧ w' = w := by
  go_enter Tryd.func88, Tryd.ntmps88
  go_wp2
  all_goals
    go_ret
    refine ⟨ret_bool ?_, rfl⟩
    unfold digitB
    first | (simp; omega) | simp_all

theorem letter_cap {c : Int} (h : 65 ≤ c ∧ c ≤ 90) : letterB c = true := by simp [letterB, capitalB, h.1, h.2]
theorem letter_small {c : Int} (h : 97 ≤ c ∧ c ≤ 122) : letterB c = true := by simp [letterB, smallB, h.1, h.2]
set_option maxHeartbeats 1600000 in
theorem isVariable_any (s : ByteArray) (w : World) (hs : s.size ≤ maxLen) : Calls Tryd.prog 80 #[.string s] w fun e w' => e = .returned (.bool (varB s)) ∧ w' = w := by
  unfold maxLen at hs
  by_cases h0 : s.size = 0
  · have he : s.toList.isEmpty = true := by rw [empty_iff]; simpa using h0
    have HF : Hid (varB s = false) := by show varB s = false; simp [varB, wordB, h0]
    go_enter Tryd.func80, Tryd.ntmps80
    go_wp2
    go_ret
    exact ⟨ret_bool HF.out.symm, rfl⟩
  · have he : s.toList.isEmpty = false := by rw [empty_iff]; simpa using h0
    have hpos : (0 : Int) < (s.size : Int) := by omega
    by_cases h1 : s.size ≤ 120
    · have hlt0 : 0 < s.size := by omega
      have hb0 := byteAt_eq hlt0
      have HN : Hid (varB s = (decide (65 ≤ (s[0].toNat : Int) ∧ (s[0].toNat : Int) ≤ 90) && lettersB s s.size)) := by
        show varB s = _
        unfold varB wordB
        rw [hb0]
        simp [h0, h1]
      clear hb0
      by_cases hcp : 65 ≤ (s[0].toNat : Int) ∧ (s[0].toNat : Int) ≤ 90
      · have HY : Hid (varB s = lettersB s s.size) := by show varB s = _; rw [HN.out, decide_eq_true hcp]; simp
        obtain ⟨hc1, hc2⟩ := hcp
        go_enter Tryd.func80, Tryd.ntmps80
        go_wp2
        go_loop [23] (fun i => ∃ k : Nat, k ≤ s.size ∧ i = .int .i64 k ∧ Hid (lettersB s k = true)) (fun i => s.size - (intOf i).toNat)
        case atStart => exact ⟨0, Nat.zero_le _, rfl, rfl⟩
        case round =>
          obtain ⟨k, hk, rfl, HL⟩ := hrel
          by_cases hlt : k < s.size
          · have HB : Hid (byteAt s k = (s[k].toNat : Int)) := byteAt_eq hlt
            have hlt' : (k : Int) < (s.size : Int) := by omega
            cases hx : letterB (s[k].toNat : Int)
            · have HF : Hid (varB s = false) := by show varB s = false; rw [HY.out]; exact lettersB_not (by rw [HB.out]; exact hx) hlt
              unfold letterB at hx
              simp only [Bool.or_eq_false_iff] at hx
              obtain ⟨⟨⟨x1, x2⟩, x3⟩, x4⟩ := hx
              have x12 : (smallB (s[k].toNat : Int) || capitalB (s[k].toNat : Int)) = false := by rw [x1, x2]; rfl
              have x4' : ((s[k].toNat : Int) != 95) = true := by simpa using x4
              clear x4
              go_wp2_with (first
                  | (go_at_call 87; refine (tLetter_any _ _).mono ?_; rintro e w' ⟨rfl, rfl⟩)
                  | (go_at_call 88; refine (tDigit_any _ _).mono ?_; rintro e w' ⟨rfl, rfl⟩))
              go_ret
              exact ⟨ret_bool HF.out.symm, rfl⟩
            · have HS : Hid (lettersB s (k + 1) = true) := by show lettersB s (k + 1) = true; simp only [lettersB, HL.out, HB.out, hx, Bool.and_self]
              unfold letterB at hx
              cases x12 : (smallB (s[k].toNat : Int) || capitalB (s[k].toNat : Int))
              · cases x3 : digitB (s[k].toNat : Int)
                · have x4 : ((s[k].toNat : Int) != 95) = false := by rw [x12, x3] at hx; simpa using hx
                  clear hx
                  go_wp2_with (first
                  | (go_at_call 87; refine (tLetter_any _ _).mono ?_; rintro e w' ⟨rfl, rfl⟩)
                  | (go_at_call 88; refine (tDigit_any _ _).mono ?_; rintro e w' ⟨rfl, rfl⟩))
                  go_round
                  case rel => exact ⟨k + 1, by omega, by go_num, HS⟩
                  case measure => simp [intOf]; omega
                · clear hx
                  go_wp2_with (first
                  | (go_at_call 87; refine (tLetter_any _ _).mono ?_; rintro e w' ⟨rfl, rfl⟩)
                  | (go_at_call 88; refine (tDigit_any _ _).mono ?_; rintro e w' ⟨rfl, rfl⟩))
                  go_round
                  case rel => exact ⟨k + 1, by omega, by go_num, HS⟩
                  case measure => simp [intOf]; omega
              · clear hx
                go_wp2_with (first
                  | (go_at_call 87; refine (tLetter_any _ _).mono ?_; rintro e w' ⟨rfl, rfl⟩)
                  | (go_at_call 88; refine (tDigit_any _ _).mono ?_; rintro e w' ⟨rfl, rfl⟩))
                go_round
                case rel => exact ⟨k + 1, by omega, by go_num, HS⟩
                case measure => simp [intOf]; omega
          · obtain rfl : k = s.size := by omega
            go_wp2
            go_ret
            exact ⟨ret_bool (by rw [HY.out]; exact HL.out.symm), rfl⟩
      · have HF : Hid (varB s = false) := by show varB s = false; rw [HN.out, decide_eq_false hcp]; rfl
        by_cases hl : (s[0].toNat : Int) < 65
        · clear hcp
          go_enter Tryd.func80, Tryd.ntmps80
          go_wp2
          go_ret
          exact ⟨ret_bool HF.out.symm, rfl⟩
        · have hh : 90 < (s[0].toNat : Int) := by omega
          clear hcp
          go_enter Tryd.func80, Tryd.ntmps80
          go_wp2
          go_ret
          exact ⟨ret_bool HF.out.symm, rfl⟩
    · have h1' : (120 : Int) < (s.size : Int) := by omega
      have HF : Hid (varB s = false) := by show varB s = false; unfold varB wordB; simp; intros; omega
      go_enter Tryd.func80, Tryd.ntmps80
      go_wp2
      go_ret
      exact ⟨ret_bool HF.out.symm, rfl⟩

end Go.Proofs.YtdchfmokicfmnaaDoor
end
section
namespace Go.Proofs.YtdchfmokicfmnaaDoor
open Go.RowKit
set_option linter.unusedVariables false

/-- a value: its kind, its number, its text -/
structure V where
  k : Int
  n : Int
  s : ByteArray
deriving DecidableEq
/-- a term: its variable, its value -/
structure T where
  v : ByteArray
  a : V
deriving DecidableEq
/-- a pair: a variable, and the term that takes its place -/
structure P where
  v : ByteArray
  t : T
deriving DecidableEq

def noS : ByteArray := ⟨#[]⟩
def blankS : ByteArray := ⟨#[95]⟩
def V0 : V := ⟨0, 0, noS⟩
def T0 : T := ⟨noS, V0⟩
def V.val (v : V) : Value := .agg #[.int .i8 v.k, .int .i64 v.n, .string v.s]
def T.val (t : T) : Value := .agg #[.string t.v, .int .i8 t.a.k, .int .i64 t.a.n, .string t.a.s]
def P.val (p : P) : Value := .agg #[.string p.v, .string p.t.v, .int .i8 p.t.a.k, .int .i64 p.t.a.n, .string p.t.a.s]
def V.cells (v : V) : List Value := [.int .i8 v.k, .int .i64 v.n, .string v.s]
def T.cells (t : T) : List Value := [.string t.v, .int .i8 t.a.k, .int .i64 t.a.n, .string t.a.s]
def P.cells (p : P) : List Value := [.string p.v, .string p.t.v, .int .i8 p.t.a.k, .int .i64 p.t.a.n, .string p.t.a.s]

theorem toList_inj {a b : ByteArray} (h : a.toList = b.toList) : a = b := by
  rw [ByteArray.toList_eq, ByteArray.toList_eq] at h
  cases a; cases b
  simpa using congrArg List.toArray h
theorem noS_iff (s : ByteArray) : s.toList = [] ↔ s = noS := by
  constructor
  · intro h; apply toList_inj; rw [h, ByteArray.toList_eq]; rfl
  · rintro rfl; rw [ByteArray.toList_eq]; rfl

def chkV (v : V) : Int := chk v.k v.n v.s
def okV (v : V) : Bool := chkV v == 0
/-- is it a term as it may be? -/
def termB (t : T) : Bool := if t.v = noS then okV t.a else decide (t.a = V0) && (decide (t.v = blankS) || varB t.v)
def atomB (pred : ByteArray) (l : List T) : Bool := nameB pred && decide (l.length ≤ 24) && l.all termB

/-- what stands for a term under pairs -/
def res (s : List P) (t : T) : T := match s.find? (fun p => decide (p.v = t.v)) with | some p => p.t | none => t
def bindP (s : List P) (n : ByteArray) (t : T) : List P := s.map (fun p => if p.t.v = n then ⟨p.v, t⟩ else p) ++ [⟨n, t⟩]
def uni : List P → List T → List T → Option (List P)
  | s, x :: xs, y :: ys =>
    if x.v = blankS ∨ y.v = blankS then uni s xs ys
    else if res s x = res s y then uni s xs ys
    else if (res s x).v ≠ noS then uni (bindP s (res s x).v (res s y)) xs ys
    else if (res s y).v ≠ noS then uni (bindP s (res s y).v (res s x)) xs ys
    else none
  | s, _, _ => some s

/-- the value of a term under an assignment -/
def ev (σ : ByteArray → V) (t : T) : V := if t.v = noS then t.a else σ t.v
def Inv (σ : ByteArray → V) (s : List P) : Prop := ∀ p ∈ s, p.v ≠ noS ∧ σ p.v = ev σ p.t
theorem ev_res {σ : ByteArray → V} {s : List P} (h : Inv σ s) (t : T) : ev σ (res s t) = ev σ t := by
  unfold res
  cases hf : s.find? (fun p => decide (p.v = t.v)) with
  | none => rfl
  | some p =>
    have hm := List.mem_of_find?_eq_some hf
    have hp : p.v = t.v := by simpa using List.find?_some hf
    obtain ⟨h1, h2⟩ := h p hm
    show ev σ p.t = ev σ t
    rw [← h2, hp]
    unfold ev
    rw [if_neg (by rw [← hp]; exact h1)]
theorem inv_bind {σ : ByteArray → V} {s : List P} (h : Inv σ s) {n : ByteArray} {t : T} (hn : n ≠ noS) (he : σ n = ev σ t) : Inv σ (bindP s n t) := by
  intro p hp
  unfold bindP at hp
  rw [List.mem_append] at hp
  rcases hp with hp | hp
  · obtain ⟨q, hq, rfl⟩ := List.mem_map.1 hp
    obtain ⟨h1, h2⟩ := h q hq
    by_cases e : q.t.v = n
    · rw [if_pos e]
      refine ⟨h1, ?_⟩
      show σ q.v = ev σ t
      rw [h2, ← he]
      unfold ev
      rw [if_neg (by rw [e]; exact hn), e]
    · rw [if_neg e]; exact ⟨h1, h2⟩
  · obtain rfl := List.mem_singleton.1 hp
    exact ⟨hn, he⟩
/-- a most general one -/
theorem uni_most {σ : ByteArray → V} : ∀ (xs ys : List T) (s : List P), Inv σ s → (∀ p ∈ xs.zip ys, p.1.v = blankS ∨ p.2.v = blankS ∨ ev σ p.1 = ev σ p.2) → ∃ s', uni s xs ys = some s' ∧ Inv σ s'
  | [], _, s, h, _ => ⟨s, by simp [uni], h⟩
  | _ :: _, [], s, h, _ => ⟨s, by simp [uni], h⟩
  | x :: xs, y :: ys, s, h, hc => by
    have hr : ∀ p ∈ xs.zip ys, p.1.v = blankS ∨ p.2.v = blankS ∨ ev σ p.1 = ev σ p.2 := fun p hp => hc p (by simp [hp])
    have h0 := hc (x, y) (by simp)
    unfold uni
    by_cases hb : x.v = blankS ∨ y.v = blankS
    · rw [if_pos hb]; exact uni_most xs ys s h hr
    · rw [if_neg hb]
      have he : ev σ (res s x) = ev σ (res s y) := by
        rw [ev_res h, ev_res h]
        rcases h0 with h0 | h0 | h0
        · exact absurd (.inl h0) hb
        · exact absurd (.inr h0) hb
        · exact h0
      by_cases e : res s x = res s y
      · rw [if_pos e]; exact uni_most xs ys s h hr
      · rw [if_neg e]
        by_cases hx : (res s x).v ≠ noS
        · rw [if_pos hx]
          refine uni_most xs ys _ (inv_bind h hx ?_) hr
          rw [← he]; unfold ev; rw [if_neg hx]
        · rw [if_neg hx]
          by_cases hy : (res s y).v ≠ noS
          · rw [if_pos hy]
            refine uni_most xs ys _ (inv_bind h hy ?_) hr
            rw [he]; unfold ev; rw [if_neg hy]
          · exfalso
            have hx' : (res s x).v = noS := Decidable.not_not.1 hx
            have hy' : (res s y).v = noS := Decidable.not_not.1 hy
            apply e
            unfold ev at he
            rw [if_pos hx', if_pos hy'] at he
            generalize res s x = a at he hx'
            generalize res s y = b at he hy'
            cases a; cases b
            simp_all

/-- pairs of Unify: no variable is no variable, no term is a blank -/
def G (s : List P) : Prop := ∀ p ∈ s, p.v ≠ noS ∧ p.v ≠ blankS ∧ p.t.v ≠ blankS
def putT (s : List P) (t : T) : T := if t.v = noS ∨ t.v = blankS then t else res s t
theorem put_res {s : List P} (h : G s) (t : T) : putT s t = res s t := by
  unfold putT
  by_cases e : t.v = noS ∨ t.v = blankS
  · rw [if_pos e]
    unfold res
    cases hf : s.find? (fun p => decide (p.v = t.v)) with
    | none => rfl
    | some p =>
      exfalso
      have hm := List.mem_of_find?_eq_some hf
      have hp : p.v = t.v := by simpa using List.find?_some hf
      obtain ⟨h1, h2, _⟩ := h p hm
      rcases e with e | e
      · exact h1 (hp.trans e)
      · exact h2 (hp.trans e)
  · rw [if_neg e]
theorem res_blank {s : List P} (h : G s) (t : T) : (res s t).v = blankS ↔ t.v = blankS := by
  unfold res
  cases hf : s.find? (fun p => decide (p.v = t.v)) with
  | none => exact Iff.rfl
  | some p =>
    have hm := List.mem_of_find?_eq_some hf
    have hp : p.v = t.v := by simpa using List.find?_some hf
    obtain ⟨h1, h2, h3⟩ := h p hm
    constructor
    · intro e; exact absurd e h3
    · intro e; exact absurd (hp.trans e) h2
theorem G_bind {s : List P} (h : G s) {n : ByteArray} {t : T} (hn : n ≠ noS) (hb : n ≠ blankS) (ht : t.v ≠ blankS) : G (bindP s n t) := by
  intro p hp
  unfold bindP at hp
  rw [List.mem_append] at hp
  rcases hp with hp | hp
  · obtain ⟨q, hq, rfl⟩ := List.mem_map.1 hp
    obtain ⟨h1, h2, h3⟩ := h q hq
    by_cases e : q.t.v = n
    · rw [if_pos e]; exact ⟨h1, h2, ht⟩
    · rw [if_neg e]; exact ⟨h1, h2, h3⟩
  · obtain rfl := List.mem_singleton.1 hp
    exact ⟨hn, hb, ht⟩
theorem bind_length (s : List P) (n : ByteArray) (t : T) : (bindP s n t).length = s.length + 1 := by simp [bindP]
theorem uni_blank {s : List P} {x y : T} {xs ys : List T} (h : x.v = blankS ∨ y.v = blankS) : uni s (x :: xs) (y :: ys) = uni s xs ys := by rw [uni, if_pos h]
theorem uni_same {s : List P} {x y : T} {xs ys : List T} (h : res s x = res s y) : uni s (x :: xs) (y :: ys) = uni s xs ys := by
  rw [uni, if_pos h]; split <;> rfl
theorem uni_left {s : List P} {x y : T} {xs ys : List T} (h : ¬ (x.v = blankS ∨ y.v = blankS)) (h1 : ¬ res s x = res s y) (h2 : (res s x).v ≠ noS) : uni s (x :: xs) (y :: ys) = uni (bindP s (res s x).v (res s y)) xs ys := by
  rw [uni, if_neg h, if_neg h1, if_pos h2]
theorem uni_right {s : List P} {x y : T} {xs ys : List T} (h : ¬ (x.v = blankS ∨ y.v = blankS)) (h1 : ¬ res s x = res s y) (h2 : (res s x).v = noS) (h3 : (res s y).v ≠ noS) : uni s (x :: xs) (y :: ys) = uni (bindP s (res s y).v (res s x)) xs ys := by
  rw [uni, if_neg h, if_neg h1, if_neg (fun c => c h2), if_pos h3]
theorem uni_none {s : List P} {x y : T} {xs ys : List T} (h : ¬ (x.v = blankS ∨ y.v = blankS)) (h1 : ¬ res s x = res s y) (h2 : (res s x).v = noS) (h3 : (res s y).v = noS) : uni s (x :: xs) (y :: ys) = none := by
  rw [uni, if_neg h, if_neg h1, if_neg (fun c => c h2), if_neg (fun c => c h3)]
end Go.Proofs.YtdchfmokicfmnaaDoor
end
