import Derived.Test.YthkbcgedjecnlaaDoorProg
import Derived.Test.YthkbcgedjecnlaaDoorMath
import Derived.Test.YthkbcgedjecnlaaDoorLexMath
import Derived.WalkKit
import Derived.WalkSpells
import Derived.WalkLawsBesides
import Derived.Below
import Derived.Deep.RegionHeld3
import Derived.Deep.DrawnRows
import Derived.Deep.Light
import Derived.Lib.Strings
import Derived.Lib.Slices
import Derived.Lib.Small
import Derived.Lib.Walk
import Derived.Lib.Bytealg
import Derived.Laws.RangeAny
import Derived.Lib.OthersKept
namespace Go.Proofs.YthkbcgedjecnlaaDoor
open Go.RowKit
set_option linter.unusedVariables false
set_option linter.unusedSimpArgs false
attribute [local go_sem ↓] Go.wp_at_zero Go.wp_at_succ

def smallI (c : Int) : Bool := decide (97 ≤ c ∧ c ≤ 122)
def capI (c : Int) : Bool := decide (65 ≤ c ∧ c ≤ 90)
def digI (c : Int) : Bool := decide (48 ≤ c ∧ c ≤ 57)
def letI' (c : Int) : Bool := smallI c || capI c
def runI (c : Int) : Bool := letI' c || digI c || decide (c = 95)
theorem smallI_u (c : UInt8) : smallI (c.toNat : Int) = smallU c := by unfold smallI smallU; congr 1; apply propext; omega
theorem capI_u (c : UInt8) : capI (c.toNat : Int) = capU c := by unfold capI capU; congr 1; apply propext; omega
theorem digI_u (c : UInt8) : digI (c.toNat : Int) = digU c := by unfold digI digU; congr 1; apply propext; omega
theorem letI_u (c : UInt8) : letI' (c.toNat : Int) = letU c := by unfold letI' letU; rw [smallI_u, capI_u]
theorem runI_u (c : UInt8) : runI (c.toNat : Int) = runU c := by
  unfold runI runU; rw [letI_u, digI_u]; congr 2; apply propext; omega
theorem runI_high {c : Int} (h : 128 ≤ c) : letI' c = false ∧ digI c = false ∧ c ≠ 95 := by
  refine ⟨?_, ?_, by omega⟩
  · unfold letI' smallI capI; simp; omega
  · unfold digI; simp; omega

theorem isSmall_any (c : Int) (w : World) : Calls Tryd.prog 37 #[.int .i32 c] w fun e w' => e = .returned (.bool (smallI c)) ∧ w' = w := by
  go_enter Tryd.func37, Tryd.ntmps37
  go_wp2
  all_goals
    go_ret
    refine ⟨ret_bool ?_, rfl⟩
    unfold smallI
    first | (simp; omega) | simp_all
theorem isCapital_any (c : Int) (w : World) : Calls Tryd.prog 38 #[.int .i32 c] w fun e w' => e = .returned (.bool (capI c)) ∧ w' = w := by
  go_enter Tryd.func38, Tryd.ntmps38
  go_wp2
  all_goals
    go_ret
    refine ⟨ret_bool ?_, rfl⟩
    unfold capI
    first | (simp; omega) | simp_all
theorem isDigit_any (c : Int) (w : World) : Calls Tryd.prog 25 #[.int .i32 c] w fun e w' => e = .returned (.bool (digI c)) ∧ w' = w := by
  go_enter Tryd.func25, Tryd.ntmps25
  go_wp2
  all_goals
    go_ret
    refine ⟨ret_bool ?_, rfl⟩
    unfold digI
    first | (simp; omega) | simp_all
theorem isLetter_any (c : Int) (w : World) : Calls Tryd.prog 22 #[.int .i32 c] w fun e w' => e = .returned (.bool (letI' c)) ∧ w' = w := by
  unfold letI'
  cases h1 : smallI c <;> cases h2 : capI c
  all_goals
    go_enter Tryd.func22, Tryd.ntmps22
    go_wp2_with (first
      | (go_at_call 37; refine (isSmall_any _ _).mono ?_; rintro e w' ⟨rfl, rfl⟩)
      | (go_at_call 38; refine (isCapital_any _ _).mono ?_; rintro e w' ⟨rfl, rfl⟩))
    go_ret
    exact ⟨ret_bool rfl, rfl⟩

theorem drop_at (s : ByteArray) {k : Nat} (h : k < s.size) : s.data.toList.drop k = s[k] :: s.data.toList.drop (k + 1) := by
  rw [List.drop_eq_getElem_cons (by simpa [ByteArray.size_data] using h)]
  rfl
theorem runLen_stop {c : UInt8} {r : List UInt8} (h : runU c = false) : runLen (c :: r) = 0 := by simp [runLen, h]
theorem runLen_go {c : UInt8} {r : List UInt8} (h : runU c = true) : runLen (c :: r) = runLen r + 1 := by simp [runLen, h]
theorem drop_end (s : ByteArray) {k : Nat} (h : ¬ k < s.size) : s.data.toList.drop k = [] := by
  apply List.drop_eq_nil_of_le
  simpa [ByteArray.size_data] using Nat.le_of_not_lt h
theorem len_toList (s : ByteArray) : s.data.toList.length = s.size := by simp [ByteArray.size_data]
theorem Below.iter (w : World) (s : ByteArray) (p : Nat) : Below w.heap.size w (w.iter s p) := (Below.refl _ _).alloc (Nat.le_refl _) _

set_option maxHeartbeats 1600000 in
theorem runLength_any (s : ByteArray) (w : World) (hs : s.size ≤ maxLen) : Calls Tryd.prog 39 #[.string s] w fun e w' => e = .returned (.int .i64 (runLen s.data.toList : Nat)) ∧ Below w.heap.size w w' := by
  unfold maxLen at hs
  go_enter Tryd.func39, Tryd.ntmps39
  go_wp2
  go_loopw [2] (fun _ w' => ∃ pos : Nat, w' = w.iter s pos ∧ pos ≤ s.size ∧ Hid (runLen s.data.toList = pos + runLen (s.data.toList.drop pos))) (fun _ w' => s.size - w'.iterPos w.heap.size)
  case atStart => exact ⟨0, rfl, Nat.zero_le _, by show _ = _; simp⟩
  case round =>
    obtain ⟨pos, rfl, hle, HR⟩ := hrel
    by_cases hp : pos < s.size
    · by_cases ha : (s[pos]'hp).toNat < 128
      · have hnx : ∀ ty, (Instr.next (.pointer (some ⟨w.heap.size, 0, none⟩)) true ty).run Tryd.prog (w.iter s pos) = _ := fun ty => run_next_ascii w s pos ty hp ha
        have hd := drop_at s hp
        cases hr : runU s[pos]
        · have HF : Hid (runLen s.data.toList = pos) := by show _ = _; rw [HR.out, hd, runLen_stop hr]; rfl
          have h0 : runI ((s[pos]'hp).toNat : Int) = false := by rw [runI_u]; exact hr
          unfold runI at h0
          simp only [Bool.or_eq_false_iff, decide_eq_false_iff_not] at h0
          obtain ⟨⟨x1, x2⟩, x3⟩ := h0
          have x3' : (((s[pos]'hp).toNat : Int) != 95) = true := by simpa using x3
          clear HR hd
          go_wp2_with (first
            | (go_at_call 22; refine (isLetter_any _ _).mono ?_; rintro e w' ⟨rfl, rfl⟩)
            | (go_at_call 25; refine (isDigit_any _ _).mono ?_; rintro e w' ⟨rfl, rfl⟩))
          go_ret
          exact ⟨by rw [HF.out]; rfl, Below.iter _ _ _⟩
        · have HS : Hid (runLen s.data.toList = (pos + 1) + runLen (s.data.toList.drop (pos + 1))) := by show _ = _; rw [HR.out, hd, runLen_go hr]; omega
          have h0 : runI ((s[pos]'hp).toNat : Int) = true := by rw [runI_u]; exact hr
          unfold runI at h0
          clear HR hd
          cases x1 : letI' ((s[pos]'hp).toNat : Int)
          · cases x2 : digI ((s[pos]'hp).toNat : Int)
            · have x3 : (((s[pos]'hp).toNat : Int) != 95) = false := by rw [x1, x2] at h0; simpa using h0
              clear h0
              go_wp2_with (first
                | (go_at_call 22; refine (isLetter_any _ _).mono ?_; rintro e w' ⟨rfl, rfl⟩)
                | (go_at_call 25; refine (isDigit_any _ _).mono ?_; rintro e w' ⟨rfl, rfl⟩))
              go_roundw
              case rel => exact ⟨pos + 1, rfl, hp, HS⟩
              case measure => simp; omega
            · clear h0
              go_wp2_with (first
                | (go_at_call 22; refine (isLetter_any _ _).mono ?_; rintro e w' ⟨rfl, rfl⟩)
                | (go_at_call 25; refine (isDigit_any _ _).mono ?_; rintro e w' ⟨rfl, rfl⟩))
              go_roundw
              case rel => exact ⟨pos + 1, rfl, hp, HS⟩
              case measure => simp; omega
          · clear h0
            go_wp2_with (first
              | (go_at_call 22; refine (isLetter_any _ _).mono ?_; rintro e w' ⟨rfl, rfl⟩)
              | (go_at_call 25; refine (isDigit_any _ _).mono ?_; rintro e w' ⟨rfl, rfl⟩))
            go_roundw
            case rel => exact ⟨pos + 1, rfl, hp, HS⟩
            case measure => simp; omega
      · have hd := drop_at s hp
        have hdec := decode_high s pos hp (by omega)
        have hnx0 : ∀ ty, (Instr.next (.pointer (some ⟨w.heap.size, 0, none⟩)) true ty).run Tryd.prog (w.iter s pos) = _ := fun ty => run_next_any w s pos ty hp
        have HF : Hid (runLen s.data.toList = pos) := by
          show _ = _
          rw [HR.out, hd, runLen_stop]; rfl
          unfold runU letU smallU capU digU
          simp; omega
        clear HR hd
        revert hdec hnx0
        generalize (Utf8.decode s pos).1 = c
        generalize pos + (Utf8.decode s pos).2 = q
        intro hdec hnx
        obtain ⟨x1, x2, x3⟩ := runI_high (c := (c : Int)) (by omega)
        have x3' : ((c : Int) != 95) = true := by simpa using x3
        clear hdec
        go_wp2_with (first
          | (go_at_call 22; refine (isLetter_any _ _).mono ?_; rintro e w' ⟨rfl, rfl⟩)
          | (go_at_call 25; refine (isDigit_any _ _).mono ?_; rintro e w' ⟨rfl, rfl⟩))
        go_ret
        exact ⟨by rw [HF.out]; rfl, Below.iter _ _ _⟩
    · have hnx : ∀ ty, (Instr.next (.pointer (some ⟨w.heap.size, 0, none⟩)) true ty).run Tryd.prog (w.iter s pos) = _ := fun ty => run_next_end w s pos ty hp
      have HF : Hid (runLen s.data.toList = s.size) := by
        show _ = _
        rw [HR.out, drop_end s hp]
        simp [runLen]; omega
      clear HR
      go_wp2
      go_ret
      exact ⟨by rw [HF.out]; rfl, Below.iter _ _ _⟩
end Go.Proofs.YthkbcgedjecnlaaDoor
