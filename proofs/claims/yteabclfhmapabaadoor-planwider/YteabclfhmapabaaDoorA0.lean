import Derived.WalkKit
import Derived.Below
import Derived.Lib.Strings
import Derived.Lib.Small
import Derived.Lib.Bytealg
import Derived.Laws.Strings
import Derived.Test.YteabclfhmapabaaDoorProg
import Derived.WalkSpells
import Derived.WalkLawsBesides
import Derived.Deep.RegionHeld3
import Derived.Deep.DrawnRows
import Derived.Deep.Light
import Derived.Lib.Slices
import Derived.Lib.Walk
section
namespace Go.Proofs.YteabclfhmapabaaDoor
open Go.RowKit


def chk (k n : Int) (s : ByteArray) : Int :=
  if k = 1 ∧ s.toList = [] ∨ k = 2 ∧ n = 0 ∧ (s.size : Int) ≤ 200 then 0 else 10

theorem chk_ok {k n : Int} {s : ByteArray} (h : k = 1 ∧ s.toList = [] ∨ k = 2 ∧ n = 0 ∧ (s.size : Int) ≤ 200) : 0 = chk k n s := (if_pos h).symm
theorem chk_no {k n : Int} {s : ByteArray} (h : ¬ (k = 1 ∧ s.toList = [] ∨ k = 2 ∧ n = 0 ∧ (s.size : Int) ≤ 200)) : 10 = chk k n s := (if_neg h).symm

theorem ret_int {k : IntKind} {a b : Int} (h : a = b) : Ending.returned (.int k a) = .returned (.int k b) := by rw [h]

theorem ret_bool {a b : Bool} (h : a = b) : Ending.returned (.bool a) = .returned (.bool b) := by rw [h]












end Go.Proofs.YteabclfhmapabaaDoor
end
section
namespace Go.Proofs.YteabclfhmapabaaDoor
open Go.RowKit
set_option linter.unusedVariables false

set_option maxHeartbeats 400000 in
theorem vcheck_any (k n : Int) (s : ByteArray) (w : World) (hs : s.size ≤ maxLen) :
    Calls Tryd.prog 77 #[.agg #[.int .i8 k, .int .i64 n, .string s]] w fun e w' => e = .returned (.int .i64 (chk k n s)) ∧ Below w.heap.size w w' := by
  unfold maxLen at hs
  go_enter Tryd.func77, Tryd.ntmps77
  go_wp2
  all_goals
    go_ret
    refine ⟨ret_int ?_, (Below.refl _ _).alloc (Nat.le_refl _) _⟩
    skip
    first
      | (refine chk_ok ?_; simp_all; done)
      | (refine chk_no ?_; simp_all; done)
      | (refine chk_no ?_; simp_all; omega)
      | (exfalso; simp_all; done)

end Go.Proofs.YteabclfhmapabaaDoor
end
section
namespace Go.Proofs.YteabclfhmapabaaDoor
open Go.RowKit
set_option linter.unusedVariables false
attribute [local go_sem ↓] Go.wp_at_zero Go.wp_at_succ

def smallB (c : Int) : Bool := decide (97 ≤ c ∧ c ≤ 122)
def capitalB (c : Int) : Bool := decide (65 ≤ c ∧ c ≤ 90)
def digitB (c : Int) : Bool := decide (48 ≤ c ∧ c ≤ 57)
def letterB (c : Int) : Bool := smallB c || capitalB c || digitB c || c == 95
/-- the eight keywords, as bytes -/
def keywords : List (List UInt8) := [[110, 111, 116], [99, 111, 117, 110, 116], [115, 117, 109], [109, 105, 110], [109, 97, 120], [108, 101, 110], [99, 104, 97, 114, 115], [98, 97, 99, 107]]
def kwB (s : ByteArray) : Bool := decide (s.toList ∈ keywords)
def byteAt (s : ByteArray) (k : Nat) : Int := if h : k < s.size then (s[k].toNat : Int) else 0
theorem byteAt_eq {s : ByteArray} {k : Nat} (h : k < s.size) : byteAt s k = (s[k].toNat : Int) := dif_pos h
def lettersB (s : ByteArray) : Nat → Bool
  | 0 => true
  | k + 1 => lettersB s k && letterB (byteAt s k)
def nameB (s : ByteArray) : Bool := decide (s.size ≠ 0) && decide (s.size ≤ 120) && smallB (byteAt s 0) && !kwB s && lettersB s s.size
theorem empty_iff (s : ByteArray) : s.toList.isEmpty = decide (s.size = 0) := by
  rw [ByteArray.toList_eq, ← ByteArray.size_data, ← Array.length_toList]
  cases s.data.toList <;> simp

theorem lettersB_not {s : ByteArray} {k : Nat} (h : letterB (byteAt s k) = false) : ∀ {n : Nat}, k < n → lettersB s n = false
  | 0, hk => by omega
  | n + 1, hk => by
    by_cases e : k = n
    · subst e; simp only [lettersB, h, Bool.and_false]
    · simp only [lettersB, lettersB_not h (n := n) (by omega), Bool.false_and]

theorem isSmall_any (c : Int) (w : World) : Calls Tryd.prog 84 #[.int .u8 c] w fun e w' => e = .returned (.bool (smallB c)) ∧ w' = w := by
  go_enter Tryd.func84, Tryd.ntmps84
  go_wp2
  all_goals
    go_ret
    refine ⟨ret_bool ?_, rfl⟩
    unfold smallB
    first | (simp; omega) | simp_all

theorem isCapital_any (c : Int) (w : World) : Calls Tryd.prog 86 #[.int .u8 c] w fun e w' => e = .returned (.bool (capitalB c)) ∧ w' = w := by
  go_enter Tryd.func86, Tryd.ntmps86
  go_wp2
  all_goals
    go_ret
    refine ⟨ret_bool ?_, rfl⟩
    unfold capitalB
    first | (simp; omega) | simp_all

theorem isDigit_any (c : Int) (w : World) : Calls Tryd.prog 87 #[.int .u8 c] w fun e w' => e = .returned (.bool (digitB c)) ∧ w' = w := by
  go_enter Tryd.func87, Tryd.ntmps87
  go_wp2
  all_goals
    go_ret
    refine ⟨ret_bool ?_, rfl⟩
    unfold digitB
    first | (simp; omega) | simp_all

theorem isKeyword_any (s : ByteArray) (w : World) : Calls Tryd.prog 85 #[.string s] w fun e w' => e = .returned (.bool (kwB s)) ∧ w' = w := by
  go_enter Tryd.func85, Tryd.ntmps85
  go_wp2
  all_goals
    go_ret
    refine ⟨ret_bool ?_, rfl⟩
    go_light
    unfold kwB keywords
    simp_all

set_option maxHeartbeats 1600000 in
theorem isName_any (s : ByteArray) (w : World) (hs : s.size ≤ maxLen) : Calls Tryd.prog 79 #[.string s] w fun e w' => e = .returned (.bool (nameB s)) ∧ w' = w := by
  unfold maxLen at hs
  by_cases h0 : s.size = 0
  · have he : s.toList.isEmpty = true := by rw [empty_iff]; simpa using h0
    have HF : Hid (nameB s = false) := by show nameB s = false; simp [nameB, h0]
    go_enter Tryd.func79, Tryd.ntmps79
    go_wp2
    go_ret
    exact ⟨ret_bool HF.out.symm, rfl⟩
  · have he : s.toList.isEmpty = false := by rw [empty_iff]; simpa using h0
    have hpos : (0 : Int) < (s.size : Int) := by omega
    by_cases h1 : s.size ≤ 120
    · have hlt0 : 0 < s.size := by omega
      have hb0 := byteAt_eq hlt0
      have HN : Hid (nameB s = (smallB (s[0].toNat : Int) && !kwB s && lettersB s s.size)) := by
        show nameB s = _
        unfold nameB
        rw [hb0]
        simp [h0, h1]
      clear hb0
      cases hsm : smallB (s[0].toNat : Int)
      · have HF : Hid (nameB s = false) := by show nameB s = false; rw [HN.out, hsm]; simp
        go_enter Tryd.func79, Tryd.ntmps79
        go_wp2_with (go_at_call 84; refine (isSmall_any _ _).mono ?_; rintro e w' ⟨rfl, rfl⟩)
        go_ret
        exact ⟨ret_bool HF.out.symm, rfl⟩
      · cases hkw : kwB s
        · have HY : Hid (nameB s = lettersB s s.size) := by show nameB s = _; rw [HN.out, hsm, hkw]; simp
          go_enter Tryd.func79, Tryd.ntmps79
          go_wp2_with (first
            | (go_at_call 84; refine (isSmall_any _ _).mono ?_; rintro e w' ⟨rfl, rfl⟩)
            | (go_at_call 85; refine (isKeyword_any _ _).mono ?_; rintro e w' ⟨rfl, rfl⟩))
          go_loop [24] (fun i => ∃ k : Nat, k ≤ s.size ∧ i = .int .i64 k ∧ Hid (lettersB s k = true)) (fun i => s.size - (intOf i).toNat)
          case atStart => exact ⟨0, Nat.zero_le _, rfl, rfl⟩
          case round =>
            obtain ⟨k, hk, rfl, HL⟩ := hrel
            by_cases hlt : k < s.size
            · have HB : Hid (byteAt s k = (s[k].toNat : Int)) := byteAt_eq hlt
              have hlt' : (k : Int) < (s.size : Int) := by omega
              cases hx : letterB (s[k].toNat : Int)
              · have HF : Hid (nameB s = false) := by show nameB s = false; rw [HY.out]; exact lettersB_not (by rw [HB.out]; exact hx) hlt
                unfold letterB at hx
                simp only [Bool.or_eq_false_iff] at hx
                obtain ⟨⟨⟨x1, x2⟩, x3⟩, x4⟩ := hx
                have x4' : ((s[k].toNat : Int) != 95) = true := by simpa using x4
                clear x4
                go_wp2_with (first
                  | (go_at_call 84; refine (isSmall_any _ _).mono ?_; rintro e w' ⟨rfl, rfl⟩)
                  | (go_at_call 86; refine (isCapital_any _ _).mono ?_; rintro e w' ⟨rfl, rfl⟩)
                  | (go_at_call 87; refine (isDigit_any _ _).mono ?_; rintro e w' ⟨rfl, rfl⟩))
                go_ret
                exact ⟨ret_bool HF.out.symm, rfl⟩
              · have HS : Hid (lettersB s (k + 1) = true) := by show lettersB s (k + 1) = true; simp only [lettersB, HL.out, HB.out, hx, Bool.and_self]
                unfold letterB at hx
                cases x1 : smallB (s[k].toNat : Int)
                · cases x2 : capitalB (s[k].toNat : Int)
                  · cases x3 : digitB (s[k].toNat : Int)
                    · have x4 : ((s[k].toNat : Int) != 95) = false := by rw [x1, x2, x3] at hx; simpa using hx
                      clear hx
                      go_wp2_with (first
                        | (go_at_call 84; refine (isSmall_any _ _).mono ?_; rintro e w' ⟨rfl, rfl⟩)
                        | (go_at_call 86; refine (isCapital_any _ _).mono ?_; rintro e w' ⟨rfl, rfl⟩)
                        | (go_at_call 87; refine (isDigit_any _ _).mono ?_; rintro e w' ⟨rfl, rfl⟩))
                      go_round
                      case rel => exact ⟨k + 1, by omega, by go_num, HS⟩
                      case measure => simp [intOf]; omega
                    · clear hx
                      go_wp2_with (first
                        | (go_at_call 84; refine (isSmall_any _ _).mono ?_; rintro e w' ⟨rfl, rfl⟩)
                        | (go_at_call 86; refine (isCapital_any _ _).mono ?_; rintro e w' ⟨rfl, rfl⟩)
                        | (go_at_call 87; refine (isDigit_any _ _).mono ?_; rintro e w' ⟨rfl, rfl⟩))
                      go_round
                      case rel => exact ⟨k + 1, by omega, by go_num, HS⟩
                      case measure => simp [intOf]; omega
                  · clear hx
                    go_wp2_with (first
                      | (go_at_call 84; refine (isSmall_any _ _).mono ?_; rintro e w' ⟨rfl, rfl⟩)
                      | (go_at_call 86; refine (isCapital_any _ _).mono ?_; rintro e w' ⟨rfl, rfl⟩))
                    go_round
                    case rel => exact ⟨k + 1, by omega, by go_num, HS⟩
                    case measure => simp [intOf]; omega
                · clear hx
                  go_wp2_with (go_at_call 84; refine (isSmall_any _ _).mono ?_; rintro e w' ⟨rfl, rfl⟩)
                  go_round
                  case rel => exact ⟨k + 1, by omega, by go_num, HS⟩
                  case measure => simp [intOf]; omega
            · obtain rfl : k = s.size := by omega
              go_wp2
              go_ret
              exact ⟨ret_bool (by rw [HY.out, HL.out]), rfl⟩
        · have HF : Hid (nameB s = false) := by show nameB s = false; rw [HN.out, hkw]; simp
          go_enter Tryd.func79, Tryd.ntmps79
          go_wp2_with (first
            | (go_at_call 84; refine (isSmall_any _ _).mono ?_; rintro e w' ⟨rfl, rfl⟩)
            | (go_at_call 85; refine (isKeyword_any _ _).mono ?_; rintro e w' ⟨rfl, rfl⟩))
          go_ret
          exact ⟨ret_bool HF.out.symm, rfl⟩
    · have HF : Hid (nameB s = false) := by show nameB s = false; simp [nameB, h1]
      go_enter Tryd.func79, Tryd.ntmps79
      go_wp2
      go_ret
      exact ⟨ret_bool HF.out.symm, rfl⟩

end Go.Proofs.YteabclfhmapabaaDoor
end
section
namespace Go.Proofs.YteabclfhmapabaaDoor
open Go.RowKit
set_option linter.unusedVariables false
attribute [local go_sem ↓] Go.wp_at_zero Go.wp_at_succ

/-- a word: its first byte from lo to hi, letters, digits and _ behind it, at most 120 bytes -/
def wordB (lo hi : Int) (s : ByteArray) : Bool := decide (s.size ≠ 0) && decide (s.size ≤ 120) && decide (lo ≤ byteAt s 0 ∧ byteAt s 0 ≤ hi) && lettersB s s.size
def varB (s : ByteArray) : Bool := wordB 65 90 s

theorem tLetter_any (c : Int) (w : World) : Calls Tryd.prog 88 #[.int .u8 c] w fun e w' => e = .returned (.bool (smallB c || capitalB c)) ∧ w' = w := by
  go_enter Tryd.func88, Tryd.ntmps88
  go_wp2
  all_goals
    go_ret
    refine ⟨ret_bool ?_, rfl⟩
    unfold smallB capitalB
    first | (simp; omega; done) | (simp_all; done) | (rw [Bool.eq_iff_iff]; simp; omega)

theorem tDigit_any (c : Int) (w : World) : Calls Tryd.prog 89 #[.int .u8 c] w fun e w' => e = .returned (.bool (digitB c)) ∧ w' = w := by
  go_enter Tryd.func89, Tryd.ntmps89
  go_wp2
  all_goals
    go_ret
    refine ⟨ret_bool ?_, rfl⟩
    unfold digitB
    first | (simp; omega) | simp_all

set_option maxHeartbeats 1600000 in
theorem isVariable_any (s : ByteArray) (w : World) (hs : s.size ≤ maxLen) : Calls Tryd.prog 81 #[.string s] w fun e w' => e = .returned (.bool (varB s)) ∧ w' = w := by
  unfold maxLen at hs
  by_cases h0 : s.size = 0
  · have he : s.toList.isEmpty = true := by rw [empty_iff]; simpa using h0
    have HF : Hid (varB s = false) := by show varB s = false; simp [varB, wordB, h0]
    go_enter Tryd.func81, Tryd.ntmps81
    go_wp2
    go_ret
    exact ⟨ret_bool HF.out.symm, rfl⟩
  · have he : s.toList.isEmpty = false := by rw [empty_iff]; simpa using h0
    have hpos : (0 : Int) < (s.size : Int) := by omega
    by_cases h1 : s.size ≤ 120
    · have hlt0 : 0 < s.size := by omega
      have hb0 := byteAt_eq hlt0
      have HN : Hid (varB s = (decide (65 ≤ (s[0].toNat : Int) ∧ (s[0].toNat : Int) ≤ 90) && lettersB s s.size)) := by
        show varB s = _
        unfold varB wordB
        rw [hb0]
        simp [h0, h1]
      clear hb0
      by_cases hcp : 65 ≤ (s[0].toNat : Int) ∧ (s[0].toNat : Int) ≤ 90
      · have HY : Hid (varB s = lettersB s s.size) := by show varB s = _; rw [HN.out, decide_eq_true hcp]; simp
        obtain ⟨hc1, hc2⟩ := hcp
        go_enter Tryd.func81, Tryd.ntmps81
        go_wp2
        go_loop [23] (fun i => ∃ k : Nat, k ≤ s.size ∧ i = .int .i64 k ∧ Hid (lettersB s k = true)) (fun i => s.size - (intOf i).toNat)
        case atStart => exact ⟨0, Nat.zero_le _, rfl, rfl⟩
        case round =>
          obtain ⟨k, hk, rfl, HL⟩ := hrel
          by_cases hlt : k < s.size
          · have HB : Hid (byteAt s k = (s[k].toNat : Int)) := byteAt_eq hlt
            have hlt' : (k : Int) < (s.size : Int) := by omega
            cases hx : letterB (s[k].toNat : Int)
            · have HF : Hid (varB s = false) := by show varB s = false; rw [HY.out]; exact lettersB_not (by rw [HB.out]; exact hx) hlt
              unfold letterB at hx
              simp only [Bool.or_eq_false_iff] at hx
              obtain ⟨⟨⟨x1, x2⟩, x3⟩, x4⟩ := hx
              have x12 : (smallB (s[k].toNat : Int) || capitalB (s[k].toNat : Int)) = false := by rw [x1, x2]; rfl
              have x4' : ((s[k].toNat : Int) != 95) = true := by simpa using x4
              clear x4
              go_wp2_with (first
                  | (go_at_call 88; refine (tLetter_any _ _).mono ?_; rintro e w' ⟨rfl, rfl⟩)
                  | (go_at_call 89; refine (tDigit_any _ _).mono ?_; rintro e w' ⟨rfl, rfl⟩))
              go_ret
              exact ⟨ret_bool HF.out.symm, rfl⟩
            · have HS : Hid (lettersB s (k + 1) = true) := by show lettersB s (k + 1) = true; simp only [lettersB, HL.out, HB.out, hx, Bool.and_self]
              unfold letterB at hx
              cases x12 : (smallB (s[k].toNat : Int) || capitalB (s[k].toNat : Int))
              · cases x3 : digitB (s[k].toNat : Int)
                · have x4 : ((s[k].toNat : Int) != 95) = false := by rw [x12, x3] at hx; simpa using hx
                  clear hx
                  go_wp2_with (first
                  | (go_at_call 88; refine (tLetter_any _ _).mono ?_; rintro e w' ⟨rfl, rfl⟩)
                  | (go_at_call 89; refine (tDigit_any _ _).mono ?_; rintro e w' ⟨rfl, rfl⟩))
                  go_round
                  case rel => exact ⟨k + 1, by omega, by go_num, HS⟩
                  case measure => simp [intOf]; omega
                · clear hx
                  go_wp2_with (first
                  | (go_at_call 88; refine (tLetter_any _ _).mono ?_; rintro e w' ⟨rfl, rfl⟩)
                  | (go_at_call 89; refine (tDigit_any _ _).mono ?_; rintro e w' ⟨rfl, rfl⟩))
                  go_round
                  case rel => exact ⟨k + 1, by omega, by go_num, HS⟩
                  case measure => simp [intOf]; omega
              · clear hx
                go_wp2_with (first
                  | (go_at_call 88; refine (tLetter_any _ _).mono ?_; rintro e w' ⟨rfl, rfl⟩)
                  | (go_at_call 89; refine (tDigit_any _ _).mono ?_; rintro e w' ⟨rfl, rfl⟩))
                go_round
                case rel => exact ⟨k + 1, by omega, by go_num, HS⟩
                case measure => simp [intOf]; omega
          · obtain rfl : k = s.size := by omega
            go_wp2
            go_ret
            exact ⟨ret_bool (by rw [HY.out]; exact HL.out.symm), rfl⟩
      · have HF : Hid (varB s = false) := by show varB s = false; rw [HN.out, decide_eq_false hcp]; rfl
        by_cases hl : (s[0].toNat : Int) < 65
        · clear hcp
          go_enter Tryd.func81, Tryd.ntmps81
          go_wp2
          go_ret
          exact ⟨ret_bool HF.out.symm, rfl⟩
        · have hh : 90 < (s[0].toNat : Int) := by omega
          clear hcp
          go_enter Tryd.func81, Tryd.ntmps81
          go_wp2
          go_ret
          exact ⟨ret_bool HF.out.symm, rfl⟩
    · have h1' : (120 : Int) < (s.size : Int) := by omega
      have HF : Hid (varB s = false) := by show varB s = false; unfold varB wordB; simp; intros; omega
      go_enter Tryd.func81, Tryd.ntmps81
      go_wp2
      go_ret
      exact ⟨ret_bool HF.out.symm, rfl⟩

end Go.Proofs.YteabclfhmapabaaDoor
end
section
namespace Go.Proofs.YteabclfhmapabaaDoor
open Go.RowKit
set_option linter.unusedVariables false

/-- a value: its kind, its number, its text -/
structure V where
  k : Int
  n : Int
  s : ByteArray
deriving DecidableEq
/-- a term: its variable, its value -/
structure T where
  v : ByteArray
  a : V
deriving DecidableEq
/-- a pair: a variable, and the term that takes its place -/
structure P where
  v : ByteArray
  t : T
deriving DecidableEq

def noS : ByteArray := ⟨#[]⟩
def blankS : ByteArray := ⟨#[95]⟩
def V0 : V := ⟨0, 0, noS⟩
def T0 : T := ⟨noS, V0⟩
def V.val (v : V) : Value := .agg #[.int .i8 v.k, .int .i64 v.n, .string v.s]
def T.val (t : T) : Value := .agg #[.string t.v, .int .i8 t.a.k, .int .i64 t.a.n, .string t.a.s]
def P.val (p : P) : Value := .agg #[.string p.v, .string p.t.v, .int .i8 p.t.a.k, .int .i64 p.t.a.n, .string p.t.a.s]
def V.cells (v : V) : List Value := [.int .i8 v.k, .int .i64 v.n, .string v.s]
def T.cells (t : T) : List Value := [.string t.v, .int .i8 t.a.k, .int .i64 t.a.n, .string t.a.s]
def P.cells (p : P) : List Value := [.string p.v, .string p.t.v, .int .i8 p.t.a.k, .int .i64 p.t.a.n, .string p.t.a.s]

theorem toList_inj {a b : ByteArray} (h : a.toList = b.toList) : a = b := by
  rw [ByteArray.toList_eq, ByteArray.toList_eq] at h
  cases a; cases b
  simpa using congrArg List.toArray h
theorem noS_iff (s : ByteArray) : s.toList = [] ↔ s = noS := by
  constructor
  · intro h; apply toList_inj; rw [h, ByteArray.toList_eq]; rfl
  · rintro rfl; rw [ByteArray.toList_eq]; rfl

def chkV (v : V) : Int := chk v.k v.n v.s
def okV (v : V) : Bool := chkV v == 0
/-- is it a term as it may be? -/
def termB (t : T) : Bool := if t.v = noS then okV t.a else decide (t.a = V0) && (decide (t.v = blankS) || varB t.v)
def atomB (pred : ByteArray) (l : List T) : Bool := nameB pred && decide (l.length ≤ 24) && l.all termB

/-- what stands for a term under pairs -/
def res (s : List P) (t : T) : T := match s.find? (fun p => decide (p.v = t.v)) with | some p => p.t | none => t

/-- the value of a term under an assignment -/
def ev (σ : ByteArray → V) (t : T) : V := if t.v = noS then t.a else σ t.v

/-- pairs of Unify: no variable is no variable, no term is a blank -/
def G (s : List P) : Prop := ∀ p ∈ s, p.v ≠ noS ∧ p.v ≠ blankS ∧ p.t.v ≠ blankS
def putT (s : List P) (t : T) : T := if t.v = noS ∨ t.v = blankS then t else res s t
end Go.Proofs.YteabclfhmapabaaDoor
end
