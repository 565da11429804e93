import Derived.Lib.ParseIntB
import Derived.Lib.Strings
import Derived.Lib.Bytealg
import Derived.Test.YtgfnijhhhgjabaaGreatDoorProg
import Derived.Test.YtgfnijhhhgjabaaGreatDoorG1
import Derived.WalkKit
import Derived.WalkSpells
import Derived.WalkLawsBesides
import Derived.Below
import Derived.Deep.RegionHeld3
import Derived.Deep.DrawnRows
import Derived.Deep.Light
import Derived.Lib.Slices
import Derived.Lib.Small
import Derived.Lib.Walk
import Derived.Laws.RangeAny
import Derived.Lib.OthersKept
import Derived.Lib.LaidTab
import Derived.Lib.ItoaNum
import Derived.Test.YtgfnijhhhgjabaaGreatDoorG3
import Derived.Deep.MidRow
section
namespace Go.Proofs.YtgfnijhhhgjabaaGreatDoor.LX
set_option linter.unusedVariables false
set_option linter.unusedSimpArgs false

/-- a token: its kind, its text's bytes, its number, its place -/
structure Tk where
  k : Int
  s : List UInt8
  n : Int
  a : Int
deriving DecidableEq

def smallU (c : UInt8) : Bool := decide (97 ≤ c.toNat ∧ c.toNat ≤ 122)
def capU (c : UInt8) : Bool := decide (65 ≤ c.toNat ∧ c.toNat ≤ 90)
def digU (c : UInt8) : Bool := decide (48 ≤ c.toNat ∧ c.toNat ≤ 57)
def letU (c : UInt8) : Bool := smallU c || capU c
def runU (c : UInt8) : Bool := letU c || digU c || decide (c.toNat = 95)
def blankU (c : UInt8) : Bool := decide (c.toNat = 9 ∨ c.toNat = 10 ∨ c.toNat = 13 ∨ c.toNat = 32)
def runLen : List UInt8 → Nat
  | [] => 0
  | c :: r => if runU c then runLen r + 1 else 0
def comLen : List UInt8 → Nat
  | [] => 0
  | c :: r => if c.toNat = 10 then 0 else comLen r + 1

def kws : List (List UInt8) := [[110, 111, 116], [99, 111, 117, 110, 116], [115, 117, 109], [109, 105, 110], [109, 97, 120], [108, 101, 110], [99, 104, 97, 114, 115], [98, 97, 99, 107]]
def kwU (l : List UInt8) : Bool := decide (l ∈ kws)
def headB (p : UInt8 → Bool) : List UInt8 → Bool
  | [] => false
  | c :: _ => p c
def wordU (l : List UInt8) : Bool := decide (l ≠ []) && decide (l.length ≤ 120) && decide (runLen l = l.length)
def nameU (l : List UInt8) : Bool := wordU l && headB smallU l && !kwU l
def varU (l : List UInt8) : Bool := wordU l && headB capU l
def sgs : List (List UInt8) := [[58, 45], [33, 61], [60, 61], [62, 61], [40], [41], [44], [46], [63], [61], [60], [62], [43], [45], [42], [47], [37], [38]]

def hexU (c : UInt8) : Int := Lib.indexByte [48, 49, 50, 51, 52, 53, 54, 55, 56, 57, 97, 98, 99, 100, 101, 102] c
/-- the byte that a piece stands for, and the piece's width -/
def hexPc (l : List UInt8) : Option (UInt8 × Nat) :=
  match l with
  | _ :: _ :: h :: g :: _ => if hexU h < 0 ∨ hexU g < 0 then none else some (UInt8.ofNat (16 * (hexU h).toNat + (hexU g).toNat), 4)
  | _ => none
def pieceU (l : List UInt8) : Option (UInt8 × Nat) :=
  match l with
  | [] => none
  | c :: r =>
    if c.toNat < 32 ∨ 126 < c.toNat then none
    else if c.toNat ≠ 92 then some (c, 1)
    else match r with
      | [] => none
      | d :: _ => if d.toNat = 110 then some (10, 2) else if d.toNat = 34 ∨ d.toNat = 92 then some (d, 2) else if d.toNat = 120 then hexPc l else none
/-- what stands behind the quote: the value, and how many bytes are gone through, the last quote too -/
def quotU : Nat → List UInt8 → List UInt8 → Nat → Option (List UInt8 × Nat)
  | 0, _, _, _ => none
  | f + 1, l, out, n =>
    match l with
    | [] => none
    | c :: _ =>
      if 200 < out.length then none
      else if c.toNat = 34 then some (out, n + 1)
      else match pieceU l with
        | none => none
        | some (b, k) => quotU f (l.drop k) (out ++ [b]) (n + k)

inductive Fst where
  | bad (e : Int)
  | tok (t : Tk) (n : Nat)
deriving DecidableEq

def wordT (run : List UInt8) : Fst :=
  if 120 < run.length then .bad 30
  else if kwU run then .tok ⟨6, run, 0, 0⟩ run.length
  else if nameU run then .tok ⟨1, run, 0, 0⟩ run.length
  else .tok ⟨2, run, 0, 0⟩ run.length
def blankT (m : Nat) : Fst := if 1 < m then .bad 31 else .tok ⟨3, [], 0, 0⟩ 1
/-- a uint64 as an int64 -/
def asI64 (u : Nat) : Int := if u < 9223372036854775808 then (u : Int) else (u : Int) - 18446744073709551616
def numT (run : List UInt8) : Fst :=
  match Lib.parseUintB 64 run with
  | .ok u => if 9223372036854775808 < u ∨ (run.head? = some 48 ∧ run ≠ [48]) then .bad 32 else .tok ⟨4, [], asI64 u, 0⟩ run.length
  | _ => .bad 32
def quotT (l : List UInt8) : Fst :=
  match quotU l.length (l.drop 1) [] 1 with
  | some (v, n) => .tok ⟨5, v, 0, 0⟩ n
  | none => .bad 33
def signT (l : List UInt8) : Fst :=
  match sgs.find? (fun w => Lib.hasPrefix l w) with
  | some w => .tok ⟨7, w, 0, 0⟩ w.length
  | none => .bad 31
def firstT (l : List UInt8) : Fst :=
  match l with
  | [] => .bad 31
  | c :: _ =>
    if letU c then wordT (l.take (runLen l))
    else if c.toNat = 95 then blankT (runLen l)
    else if digU c then numT (l.take (runLen l))
    else if c.toNat = 34 then quotT l
    else signT l

inductive Res where
  | bad (e : Int) (a : Nat)
  | ok (ts : List Tk)
deriving DecidableEq
def Res.cons (t : Tk) : Res → Res
  | .bad e a => .bad e a
  | .ok ts => .ok (t :: ts)
def endT (a : Nat) : Tk := ⟨8, [], 0, a⟩
def toksF : Nat → List UInt8 → Nat → Res
  | 0, _, a => .ok [endT a]
  | f + 1, l, a =>
    match l with
    | [] => .ok [endT a]
    | c :: r =>
      if blankU c then toksF f r (a + 1)
      else if c.toNat = 35 then toksF f (r.drop (comLen r)) (a + 1 + comLen r)
      else match firstT l with
        | .bad e => .bad e a
        | .tok t n => (toksF f (l.drop n) (a + n)).cons { t with a := a }
def toks (l : List UInt8) (a : Nat) : Res := toksF l.length l a
def tokens (l : List UInt8) : Res := if 65536 < l.length then .bad 30 65536 else toks l 0

theorem runLen_le : ∀ l, runLen l ≤ l.length
  | [] => Nat.le_refl _
  | c :: r => by
    have := runLen_le r
    unfold runLen
    split <;> simp <;> omega
theorem comLen_le : ∀ l, comLen l ≤ l.length
  | [] => Nat.le_refl _
  | c :: r => by
    have := comLen_le r
    unfold comLen
    split <;> simp <;> omega
theorem pieceU_pos {l : List UInt8} {b : UInt8} {k : Nat} (h : pieceU l = some (b, k)) : 0 < k ∧ k ≤ l.length := by
  unfold pieceU hexPc at h
  repeat' split at h
  all_goals simp at h
  all_goals (try (obtain ⟨_, rfl⟩ := h))
  all_goals simp_all
theorem quotU_le : ∀ (f : Nat) (l out : List UInt8) (n : Nat) {v : List UInt8} {m : Nat}, quotU f l out n = some (v, m) → n < m ∧ m ≤ n + l.length
  | 0, l, out, n, v, m, h => by simp [quotU] at h
  | f + 1, l, out, n, v, m, h => by
    unfold quotU at h
    match l, h with
    | [], h => simp at h
    | c :: r, h =>
      simp only at h
      split at h
      · cases h
      · split at h
        · simp at h; simp; omega
        · split at h
          · cases h
          · next b k hp =>
            have hk := pieceU_pos hp
            have := quotU_le f _ _ _ h
            simp at this hk ⊢
            omega
theorem sgs_len {w : List UInt8} (h : w ∈ sgs) : 0 < w.length ∧ w.length ≤ 2 := by
  revert w; decide
theorem firstT_pos {l : List UInt8} {t : Tk} {n : Nat} (h : firstT l = .tok t n) : 0 < n ∧ n ≤ l.length := by
  match l, h with
  | [], h => simp [firstT] at h
  | c :: r, h =>
    have hr := runLen_le (c :: r)
    unfold firstT at h
    simp only at h
    split at h
    · next hc =>
      have hp : runLen (c :: r) = runLen r + 1 := by simp [runLen, runU, hc]
      unfold wordT at h
      repeat' split at h
      all_goals simp [hp] at h
      all_goals (have := h.2; simp at hr ⊢; have := runLen_le r; omega)
    · split at h
      · unfold blankT at h
        split at h
        · cases h
        · simp at h; simp; omega
      · split at h
        · next hc =>
          have hp : runLen (c :: r) = runLen r + 1 := by simp [runLen, runU, hc]
          unfold numT at h
          repeat' split at h
          all_goals simp [hp] at h
          all_goals (have := h.2; simp at hr ⊢; have := runLen_le r; omega)
        · split at h
          · unfold quotT at h
            split at h
            · next v m hq =>
              have := quotU_le _ _ _ _ hq
              simp at h this ⊢
              omega
            · cases h
          · unfold signT at h
            split at h
            · next w hw =>
              have h1 := List.find?_some hw
              have h2 := sgs_len (List.mem_of_find?_eq_some hw)
              simp at h
              obtain ⟨_, rfl⟩ := h
              refine ⟨h2.1, ?_⟩
              unfold Lib.hasPrefix at h1
              exact (List.isPrefixOf_iff_prefix.mp h1).length_le
            · cases h

/-- fuel enough is fuel enough -/
theorem toksF_fuel : ∀ (f g : Nat) (l : List UInt8) (a : Nat), l.length ≤ f → l.length ≤ g → toksF f l a = toksF g l a
  | 0, 0, l, a, _, _ => rfl
  | 0, g + 1, l, a, hf, _ => by
    have : l = [] := List.length_eq_zero_iff.mp (by omega)
    subst this; rfl
  | f + 1, 0, l, a, _, hg => by
    have : l = [] := List.length_eq_zero_iff.mp (by omega)
    subst this; rfl
  | f + 1, g + 1, [], a, _, _ => rfl
  | f + 1, g + 1, c :: r, a, hf, hg => by
    simp at hf hg
    unfold toksF
    simp only
    split
    · exact toksF_fuel f g r _ hf hg
    · split
      · exact toksF_fuel f g _ _ (by simp; omega) (by simp; omega)
      · split
        · rfl
        · next t n hn =>
          have := firstT_pos hn
          rw [toksF_fuel f g _ _ (by simp at this ⊢; omega) (by simp at this ⊢; omega)]

theorem toks_nil (a : Nat) : toks [] a = .ok [endT a] := rfl
theorem toks_blank {c : UInt8} (r : List UInt8) (a : Nat) (h : blankU c = true) : toks (c :: r) a = toks r (a + 1) := by
  unfold toks
  simp [toksF, h]
theorem toks_com {c : UInt8} (r : List UInt8) (a : Nat) (h : c.toNat = 35) : toks (c :: r) a = toks (r.drop (comLen r)) (a + 1 + comLen r) := by
  have hb : blankU c = false := by simp [blankU, h]
  unfold toks
  simp only [List.length_cons, toksF, hb, h, if_true, Bool.false_eq_true, if_false]
  exact toksF_fuel _ _ _ _ (by simp) (Nat.le_refl _)
theorem toks_bad {c : UInt8} {r : List UInt8} (a : Nat) {e : Int} (hb : blankU c = false) (h : c.toNat ≠ 35) (hf : firstT (c :: r) = .bad e) : toks (c :: r) a = .bad e a := by
  unfold toks
  simp only [List.length_cons, toksF, hb, h, hf, Bool.false_eq_true, if_false]
theorem toks_tok {c : UInt8} {r : List UInt8} (a : Nat) {t : Tk} {n : Nat} (hb : blankU c = false) (h : c.toNat ≠ 35) (hf : firstT (c :: r) = .tok t n) :
    toks (c :: r) a = (toks ((c :: r).drop n) (a + n)).cons { t with a := a } := by
  have hn := firstT_pos hf
  unfold toks
  simp only [List.length_cons, toksF, hb, h, hf, Bool.false_eq_true, if_false]
  rw [toksF_fuel _ _ _ _ (by simp at hn ⊢; omega) (Nat.le_refl _)]
example : tokens [110, 60, 61, 55, 32, 35, 32, 97, 108, 108] = .ok [⟨1, [110], 0, 0⟩, ⟨7, [60, 61], 0, 1⟩, ⟨4, [], 7, 3⟩, endT 10] := by decide +kernel
end Go.Proofs.YtgfnijhhhgjabaaGreatDoor.LX
end
section
namespace Go.Proofs.YtgfnijhhhgjabaaGreatDoor.LX
open Go.RowKit
set_option linter.unusedVariables false
set_option linter.unusedSimpArgs false
attribute [local go_sem ↓] Go.wp_at_zero Go.wp_at_succ

def smallI (c : Int) : Bool := decide (97 ≤ c ∧ c ≤ 122)
def capI (c : Int) : Bool := decide (65 ≤ c ∧ c ≤ 90)
def digI (c : Int) : Bool := decide (48 ≤ c ∧ c ≤ 57)
def letI' (c : Int) : Bool := smallI c || capI c
def runI (c : Int) : Bool := letI' c || digI c || decide (c = 95)
theorem smallI_u (c : UInt8) : smallI (c.toNat : Int) = smallU c := by unfold smallI smallU; congr 1; apply propext; omega
theorem capI_u (c : UInt8) : capI (c.toNat : Int) = capU c := by unfold capI capU; congr 1; apply propext; omega
theorem digI_u (c : UInt8) : digI (c.toNat : Int) = digU c := by unfold digI digU; congr 1; apply propext; omega
theorem letI_u (c : UInt8) : letI' (c.toNat : Int) = letU c := by unfold letI' letU; rw [smallI_u, capI_u]
theorem runI_u (c : UInt8) : runI (c.toNat : Int) = runU c := by
  unfold runI runU; rw [letI_u, digI_u]; congr 2; apply propext; omega
theorem runI_high {c : Int} (h : 128 ≤ c) : letI' c = false ∧ digI c = false ∧ c ≠ 95 := by
  refine ⟨?_, ?_, by omega⟩
  · unfold letI' smallI capI; simp; omega
  · unfold digI; simp; omega

theorem isSmall_any (c : Int) (w : World) : Calls Tryz.prog 85 #[.int .i32 c] w fun e w' => e = .returned (.bool (smallI c)) ∧ w' = w := by
  go_enter Tryz.func85, Tryz.ntmps85
  go_wp2
  all_goals
    go_ret
    refine ⟨ret_bool ?_, rfl⟩
    unfold smallI
    first | (simp; omega) | simp_all
theorem isCapital_any (c : Int) (w : World) : Calls Tryz.prog 143 #[.int .i32 c] w fun e w' => e = .returned (.bool (capI c)) ∧ w' = w := by
  go_enter Tryz.func143, Tryz.ntmps143
  go_wp2
  all_goals
    go_ret
    refine ⟨ret_bool ?_, rfl⟩
    unfold capI
    first | (simp; omega) | simp_all
theorem isDigit_any (c : Int) (w : World) : Calls Tryz.prog 123 #[.int .i32 c] w fun e w' => e = .returned (.bool (digI c)) ∧ w' = w := by
  go_enter Tryz.func123, Tryz.ntmps123
  go_wp2
  all_goals
    go_ret
    refine ⟨ret_bool ?_, rfl⟩
    unfold digI
    first | (simp; omega) | simp_all
theorem isLetter_any (c : Int) (w : World) : Calls Tryz.prog 122 #[.int .i32 c] w fun e w' => e = .returned (.bool (letI' c)) ∧ w' = w := by
  unfold letI'
  cases h1 : smallI c <;> cases h2 : capI c
  all_goals
    go_enter Tryz.func122, Tryz.ntmps122
    go_wp2_with (first
      | (go_at_call 85; refine (isSmall_any _ _).mono ?_; rintro e w' ⟨rfl, rfl⟩)
      | (go_at_call 143; refine (isCapital_any _ _).mono ?_; rintro e w' ⟨rfl, rfl⟩))
    go_ret
    exact ⟨ret_bool rfl, rfl⟩

theorem drop_at (s : ByteArray) {k : Nat} (h : k < s.size) : s.data.toList.drop k = s[k] :: s.data.toList.drop (k + 1) := by
  rw [List.drop_eq_getElem_cons (by simpa [ByteArray.size_data] using h)]
  rfl
theorem runLen_stop {c : UInt8} {r : List UInt8} (h : runU c = false) : runLen (c :: r) = 0 := by simp [runLen, h]
theorem runLen_go {c : UInt8} {r : List UInt8} (h : runU c = true) : runLen (c :: r) = runLen r + 1 := by simp [runLen, h]
theorem drop_end (s : ByteArray) {k : Nat} (h : ¬ k < s.size) : s.data.toList.drop k = [] := by
  apply List.drop_eq_nil_of_le
  simpa [ByteArray.size_data] using Nat.le_of_not_lt h
theorem len_toList (s : ByteArray) : s.data.toList.length = s.size := by simp [ByteArray.size_data]
theorem Below.iter (w : World) (s : ByteArray) (p : Nat) : Below w.heap.size w (w.iter s p) := (Below.refl _ _).alloc (Nat.le_refl _) _

set_option maxHeartbeats 1600000 in
theorem runLength_any (s : ByteArray) (w : World) (hs : s.size ≤ maxLen) : Calls Tryz.prog 109 #[.string s] w fun e w' => e = .returned (.int .i64 (runLen s.data.toList : Nat)) ∧ Below w.heap.size w w' := by
  unfold maxLen at hs
  go_enter Tryz.func109, Tryz.ntmps109
  go_wp2
  go_loopw [2] (fun _ w' => ∃ pos : Nat, w' = w.iter s pos ∧ pos ≤ s.size ∧ Hid (runLen s.data.toList = pos + runLen (s.data.toList.drop pos))) (fun _ w' => s.size - w'.iterPos w.heap.size)
  case atStart => exact ⟨0, rfl, Nat.zero_le _, by show _ = _; simp⟩
  case round =>
    obtain ⟨pos, rfl, hle, HR⟩ := hrel
    by_cases hp : pos < s.size
    · by_cases ha : (s[pos]'hp).toNat < 128
      · have hnx : ∀ ty, (Instr.next (.pointer (some ⟨w.heap.size, 0, none⟩)) true ty).run Tryz.prog (w.iter s pos) = _ := fun ty => run_next_ascii w s pos ty hp ha
        have hd := drop_at s hp
        cases hr : runU s[pos]
        · have HF : Hid (runLen s.data.toList = pos) := by show _ = _; rw [HR.out, hd, runLen_stop hr]; rfl
          have h0 : runI ((s[pos]'hp).toNat : Int) = false := by rw [runI_u]; exact hr
          unfold runI at h0
          simp only [Bool.or_eq_false_iff, decide_eq_false_iff_not] at h0
          obtain ⟨⟨x1, x2⟩, x3⟩ := h0
          have x3' : (((s[pos]'hp).toNat : Int) != 95) = true := by simpa using x3
          clear HR hd
          go_wp2_with (first
            | (go_at_call 122; refine (isLetter_any _ _).mono ?_; rintro e w' ⟨rfl, rfl⟩)
            | (go_at_call 123; refine (isDigit_any _ _).mono ?_; rintro e w' ⟨rfl, rfl⟩))
          go_ret
          exact ⟨by rw [HF.out]; rfl, Below.iter _ _ _⟩
        · have HS : Hid (runLen s.data.toList = (pos + 1) + runLen (s.data.toList.drop (pos + 1))) := by show _ = _; rw [HR.out, hd, runLen_go hr]; omega
          have h0 : runI ((s[pos]'hp).toNat : Int) = true := by rw [runI_u]; exact hr
          unfold runI at h0
          clear HR hd
          cases x1 : letI' ((s[pos]'hp).toNat : Int)
          · cases x2 : digI ((s[pos]'hp).toNat : Int)
            · have x3 : (((s[pos]'hp).toNat : Int) != 95) = false := by rw [x1, x2] at h0; simpa using h0
              clear h0
              go_wp2_with (first
                | (go_at_call 122; refine (isLetter_any _ _).mono ?_; rintro e w' ⟨rfl, rfl⟩)
                | (go_at_call 123; refine (isDigit_any _ _).mono ?_; rintro e w' ⟨rfl, rfl⟩))
              go_roundw
              case rel => exact ⟨pos + 1, rfl, hp, HS⟩
              case measure => simp; omega
            · clear h0
              go_wp2_with (first
                | (go_at_call 122; refine (isLetter_any _ _).mono ?_; rintro e w' ⟨rfl, rfl⟩)
                | (go_at_call 123; refine (isDigit_any _ _).mono ?_; rintro e w' ⟨rfl, rfl⟩))
              go_roundw
              case rel => exact ⟨pos + 1, rfl, hp, HS⟩
              case measure => simp; omega
          · clear h0
            go_wp2_with (first
              | (go_at_call 122; refine (isLetter_any _ _).mono ?_; rintro e w' ⟨rfl, rfl⟩)
              | (go_at_call 123; refine (isDigit_any _ _).mono ?_; rintro e w' ⟨rfl, rfl⟩))
            go_roundw
            case rel => exact ⟨pos + 1, rfl, hp, HS⟩
            case measure => simp; omega
      · have hd := drop_at s hp
        have hdec := decode_high s pos hp (by omega)
        have hnx0 : ∀ ty, (Instr.next (.pointer (some ⟨w.heap.size, 0, none⟩)) true ty).run Tryz.prog (w.iter s pos) = _ := fun ty => run_next_any w s pos ty hp
        have HF : Hid (runLen s.data.toList = pos) := by
          show _ = _
          rw [HR.out, hd, runLen_stop]; rfl
          unfold runU letU smallU capU digU
          simp; omega
        clear HR hd
        revert hdec hnx0
        generalize (Utf8.decode s pos).1 = c
        generalize pos + (Utf8.decode s pos).2 = q
        intro hdec hnx
        obtain ⟨x1, x2, x3⟩ := runI_high (c := (c : Int)) (by omega)
        have x3' : ((c : Int) != 95) = true := by simpa using x3
        clear hdec
        go_wp2_with (first
          | (go_at_call 122; refine (isLetter_any _ _).mono ?_; rintro e w' ⟨rfl, rfl⟩)
          | (go_at_call 123; refine (isDigit_any _ _).mono ?_; rintro e w' ⟨rfl, rfl⟩))
        go_ret
        exact ⟨by rw [HF.out]; rfl, Below.iter _ _ _⟩
    · have hnx : ∀ ty, (Instr.next (.pointer (some ⟨w.heap.size, 0, none⟩)) true ty).run Tryz.prog (w.iter s pos) = _ := fun ty => run_next_end w s pos ty hp
      have HF : Hid (runLen s.data.toList = s.size) := by
        show _ = _
        rw [HR.out, drop_end s hp]
        simp [runLen]; omega
      clear HR
      go_wp2
      go_ret
      exact ⟨by rw [HF.out]; rfl, Below.iter _ _ _⟩
end Go.Proofs.YtgfnijhhhgjabaaGreatDoor.LX
end
section
namespace Go.Proofs.YtgfnijhhhgjabaaGreatDoor.LX
open Go.RowKit
set_option linter.unusedVariables false
set_option linter.unusedSimpArgs false
attribute [local go_sem ↓] Go.wp_at_zero Go.wp_at_succ

def kwAt (k : Nat) : List UInt8 := kws.getD k []
def strV (l : List UInt8) : Value := .string ⟨l.toArray⟩
def kwRow : List Value := kws.map strV
theorem kwRow_at {k : Nat} (h : k < 8) : kwRow.toArray[k]? = some (.string ⟨(kwAt k).toArray⟩) := by
  have e : ∀ k : Fin 8, kws[k.val]? = some (kwAt k.val) := by decide
  have := e ⟨k, h⟩
  simp at this
  simp [kwRow, this, strV]
/-- the table of the keywords -/
structure Gl (w : World) : Prop where
  kw : w.rangeAt 1 0 kwRow
theorem Gl.below {w w' : World} (h : Gl w) (hb : Below w.heap.size w w') : Gl w' :=
  ⟨fun i v hi => by have hu := h.kw i v hi; rw [hb.cell (p := ⟨1, 0 + i, none⟩) (World.block_lt_of_cell? _ _ hu)]; exact hu⟩
theorem load_kw {w : World} (hk : w.rangeAt 1 0 kwRow) :
    (Instr.loadAt 175 (.pointer (some ⟨1, 0, none⟩))).run Tryz.prog w = .ok (.agg kwRow.toArray) w :=
  run_loadAt_mid w _ 0 _ kwRow _ hk Tryz.underlying175 rfl (by kernel_rfl)
/-- a load whose run is known -/
theorem wpList_loadEq {P : Program} (w : World) {ops : Array Oper} {rest : List Oper} {o : Oper} {a : Act} {Q : Exit → Act → World → Prop} (hgd : o.guard = none) (p : Operand) (t : TypeId)
    (ho : o.op = Op.load t p) (v c : Value) (hp : a.eval p = v) (hrun : (Instr.loadAt t v).run P w = .ok c w)
    (hK : wpList P ops Q rest (a.put o.dst c) w) : wpList P ops Q (o :: rest) a w := by
  refine wpList_plain hgd fun K' hK' => ?_
  unfold Oper.wp
  simp [execOp, ho, hp, hrun, Result.andThen]
  exact hK' _ _ hK

theorem run_index_row {P : Program} (w : World) (t e : TypeId) (n : Nat) (cs : Array Value) (k : Nat) (v : Value) (h : P.underlying t = some (.array n e)) (h1 : (sizeOf e).run P w = .ok 1 w) (h2 : ∀ w, (isAgg e).run P w = .ok false w) (hk : k < n) (hv : cs[k]? = some v) :
    (Instr.index t (.agg cs) (.int .i64 k)).run P w = .ok v w := by
  have hn : (0 : Int) ≤ k ∧ (k : Int) < n := by omega
  simp [Instr.index, run_underlying h, asIntOf, hn, go_sem, hv, h2, h1, hk]
theorem bytes_ext {s : ByteArray} {l : List UInt8} : s.data.toList = l ↔ s = ⟨l.toArray⟩ := by
  cases s with | mk d => 
  constructor
  · intro h; subst h; simp
  · intro h; simp at h; subst h; simp

theorem kwU_none {l : List UInt8} (h : ∀ j, j < 8 → l ≠ kwAt j) : kwU l = false := by
  unfold kwU
  rw [decide_eq_false_iff_not]
  intro hm
  obtain ⟨j, hj, e⟩ := List.mem_iff_getElem.mp hm
  refine h j (by simpa [kws] using hj) ?_
  unfold kwAt
  rw [List.getD_eq_getElem?_getD, List.getElem?_eq_getElem hj, ← e]; rfl
theorem kwU_some {l : List UInt8} {j : Nat} (hj : j < 8) (h : l = kwAt j) : kwU l = true := by
  unfold kwU
  rw [decide_eq_true_iff]
  subst h
  match j, hj with
  | 0, _ => decide | 1, _ => decide | 2, _ => decide | 3, _ => decide | 4, _ => decide | 5, _ => decide | 6, _ => decide | 7, _ => decide

set_option maxHeartbeats 1600000 in
set_option maxRecDepth 100000 in
theorem Keyword_any (s : ByteArray) (w : World) (hg : Gl w) : Calls Tryz.prog 86 #[.string s] w fun e w' => e = .returned (.bool (kwU s.data.toList)) ∧ w' = w := by
  have HL := load_kw hg.kw
  clear hg
  go_enter Tryz.func86, Tryz.ntmps86
  go_wp2_with (first
    | (refine wpList_loadEq _ rfl (.global 1) 175 rfl _ _ rfl HL ?_)
    | fail)
  clear HL
  go_loop [6] (fun i => ∃ k : Nat, k ≤ 8 ∧ i = .int .i64 k ∧ Hid (∀ j, j < k → s.data.toList ≠ kwAt j)) (fun i => 8 - (intOf i).toNat)
  case atStart => exact ⟨0, Nat.zero_le _, rfl, fun j hj => by omega⟩
  case round =>
    obtain ⟨k, hk, rfl, HN⟩ := hrel
    by_cases hlt : k < 8
    · have hlt' : (k : Int) < 8 := by omega
      have hix := run_index_row w 175 9 8 kwRow.toArray k _ Tryz.underlying175 (Tryz.sizeOf9 w) Tryz.isAgg9 hlt (kwRow_at hlt)
      by_cases he : s.data.toList = kwAt k
      · have HY : Hid (kwU s.data.toList = true) := kwU_some hlt he
        have he' := bytes_ext.mp he
        clear HN he
        generalize kwRow.toArray = R at *
        generalize hx : (⟨(kwAt k).toArray⟩ : ByteArray) = x at *
        clear hx
        subst he'
        go_wp2
        go_ret
        exact ⟨ret_bool HY.out.symm, rfl⟩
      · have HS : Hid (∀ j, j < k + 1 → s.data.toList ≠ kwAt j) := fun j hj => by
          by_cases e : j = k
          · subst e; exact he
          · exact HN.out j (by omega)
        have he' : (s.toList == (⟨(kwAt k).toArray⟩ : ByteArray).toList) = false := by
          rw [beq_eq_false_iff_ne, ByteArray.toList_eq, ByteArray.toList_eq]
          simpa using he
        clear HN he
        generalize kwRow.toArray = R at *
        generalize (⟨(kwAt k).toArray⟩ : ByteArray) = x at *
        go_wp2
        go_round
        case rel => exact ⟨k + 1, by omega, by go_num, HS⟩
        case measure => simp [intOf]; omega
    · have HF : Hid (kwU s.data.toList = false) := kwU_none fun j hj => HN.out j (by omega)
      have hlt' : ¬ (k : Int) < 8 := by omega
      clear HN
      go_wp2
      go_ret
      exact ⟨ret_bool HF.out.symm, rfl⟩

theorem empty_iff (s : ByteArray) : s.toList.isEmpty = decide (s.size = 0) := by
  rw [ByteArray.toList_eq, ← ByteArray.size_data, ← Array.length_toList]
  cases s.data.toList <;> simp
theorem wordU_eq (s : ByteArray) : wordU s.data.toList = (decide (s.size ≠ 0) && decide (s.size ≤ 120) && decide (runLen s.data.toList = s.size)) := by
  unfold wordU
  rw [len_toList]
  congr 2
  have := len_toList s
  congr 1
  apply propext
  constructor
  · intro h e; apply h; exact List.length_eq_zero_iff.mp (by omega)
  · intro h e; apply h; rw [← this, e]; rfl

set_option maxHeartbeats 1600000 in
theorem isWord_any (s : ByteArray) (w : World) (hs : s.size ≤ maxLen) : Calls Tryz.prog 84 #[.string s] w fun e w' => e = .returned (.bool (wordU s.data.toList)) ∧ Below w.heap.size w w' := by
  have HM : Hid (s.size ≤ maxLen) := hs
  unfold maxLen at hs
  rw [wordU_eq]
  by_cases h0 : s.size = 0
  · have he : s.toList.isEmpty = true := by rw [empty_iff]; simpa using h0
    have HF : Hid ((decide (s.size ≠ 0) && decide (s.size ≤ 120) && decide (runLen s.data.toList = s.size)) = false) := by show _ = _; simp [h0]
    go_enter Tryz.func84, Tryz.ntmps84
    go_wp2
    go_ret
    exact ⟨ret_bool (by first | rfl | exact HF.out.symm), Below.refl _ _⟩
  · have he : s.toList.isEmpty = false := by rw [empty_iff]; simpa using h0
    by_cases h1 : s.size ≤ 120
    · have h1' : (s.size : Int) ≤ 120 := by omega
      have HF : Hid ((decide (s.size ≠ 0) && decide (s.size ≤ 120) && decide (runLen s.data.toList = s.size)) = decide (runLen s.data.toList = s.size)) := by show _ = _; simp [h0, h1]
      rw [HF.out]
      clear HF
      generalize hr : runLen s.data.toList = r
      have hx : ((r : Int) == (s.size : Int)) = decide (r = s.size) := by
        by_cases e : r = s.size
        · simp [e]
        · have : ¬ (r : Int) = (s.size : Int) := by omega
          simp [e, this]
      by_cases e : r = s.size
      · have e' : (r : Int) = (s.size : Int) := by omega
        go_enter Tryz.func84, Tryz.ntmps84
        go_wp2_with (go_at_call 109; refine (runLength_any _ _ HM.out).mono ?_; rw [hr]; rintro e w1 ⟨rfl, hb1⟩)
        go_ret
        exact ⟨ret_bool (by simp [e]), hb1⟩
      · have e' : ¬ (r : Int) = (s.size : Int) := by omega
        go_enter Tryz.func84, Tryz.ntmps84
        go_wp2_with (go_at_call 109; refine (runLength_any _ _ HM.out).mono ?_; rw [hr]; rintro e w1 ⟨rfl, hb1⟩)
        go_ret
        exact ⟨ret_bool (by simp [e]), hb1⟩
    · have h1' : ¬ (s.size : Int) ≤ 120 := by omega
      have HF : Hid ((decide (s.size ≠ 0) && decide (s.size ≤ 120) && decide (runLen s.data.toList = s.size)) = false) := by show _ = _; simp [h1]
      go_enter Tryz.func84, Tryz.ntmps84
      go_wp2
      go_ret
      exact ⟨ret_bool (by first | rfl | exact HF.out.symm), Below.refl _ _⟩

theorem list_at (s : ByteArray) (h : 0 < s.size) : s.data.toList = s[0] :: s.data.toList.drop 1 := by
  have := drop_at s h
  simpa using this
theorem headB_at (p : UInt8 → Bool) (s : ByteArray) (h : 0 < s.size) : headB p s.data.toList = p s[0] := by
  rw [list_at s h]; rfl
theorem wordU_pos {s : ByteArray} (h : wordU s.data.toList = true) : 0 < s.size := by
  rw [wordU_eq] at h
  simp only [Bool.and_eq_true, decide_eq_true_eq] at h
  omega
theorem wrap_u8 (c : UInt8) : wrap32 (c.toNat : Int) = (c.toNat : Int) := by
  have := c.toNat_lt
  unfold wrap32
  omega

set_option maxHeartbeats 1600000 in
theorem Name_any (s : ByteArray) (w : World) (hg : Gl w) (hs : s.size ≤ maxLen) : Calls Tryz.prog 57 #[.string s] w fun e w' => e = .returned (.bool (nameU s.data.toList)) ∧ Below w.heap.size w w' := by
  unfold nameU
  cases hw : wordU s.data.toList
  · go_enter Tryz.func57, Tryz.ntmps57
    go_wp2_with (go_at_call 84; refine (isWord_any _ _ hs).mono ?_; rw [hw]; rintro e w1 ⟨rfl, hb1⟩)
    go_ret
    exact ⟨ret_bool (by first | rfl | simp), hb1⟩
  · have hp := wordU_pos hw
    have hp' : (0 : Int) < (s.size : Int) := by omega
    have hwr := wrap_u8 (s[0]'hp)
    rw [headB_at _ s hp, ← smallI_u]
    cases hk : kwU s.data.toList <;> cases hm : smallI ((s[0]'hp).toNat : Int)
    all_goals
      go_enter Tryz.func57, Tryz.ntmps57
      go_wp2_with (first
        | (go_at_call 84; refine (isWord_any _ _ hs).mono ?_; rw [hw]; rintro e w1 ⟨rfl, hb1⟩; have hg1 := hg.below hb1; clear hg)
        | (go_at_call 85; refine (isSmall_any _ _).mono ?_; rintro e w2 ⟨rfl, rfl⟩)
        | (go_at_call 86; refine (Keyword_any _ _ hg1).mono ?_; rintro e w2 ⟨rfl, rfl⟩))
      go_ret
      exact ⟨ret_bool (by first | rfl | simp), hb1⟩

theorem nil_iff {s : ByteArray} : s.data.toList = [] ↔ s.size = 0 := by rw [← len_toList]; exact List.length_eq_zero_iff.symm
theorem letter_run (c : UInt8) : Go.Proofs.YtgfnijhhhgjabaaGreatDoor.letterB (c.toNat : Int) = runU c := by
  unfold Go.Proofs.YtgfnijhhhgjabaaGreatDoor.letterB Go.Proofs.YtgfnijhhhgjabaaGreatDoor.smallB Go.Proofs.YtgfnijhhhgjabaaGreatDoor.capitalB Go.Proofs.YtgfnijhhhgjabaaGreatDoor.digitB runU letU smallU capU digU
  rw [Bool.eq_iff_iff]
  simp
  omega
theorem letters_iff (s : ByteArray) : ∀ n, n ≤ s.size → (Go.Proofs.YtgfnijhhhgjabaaGreatDoor.lettersB s n = true ↔ ∀ x ∈ s.data.toList.take n, runU x = true)
  | 0, _ => by simp [Go.Proofs.YtgfnijhhhgjabaaGreatDoor.lettersB]
  | n + 1, hn => by
    have hlt : n < s.size := by omega
    simp only [Go.Proofs.YtgfnijhhhgjabaaGreatDoor.lettersB, Bool.and_eq_true]
    rw [letters_iff s n (by omega), Go.Proofs.YtgfnijhhhgjabaaGreatDoor.byteAt_eq hlt, letter_run, Go.Proofs.YtgfnijhhhgjabaaGreatDoor.take_more s hlt]
    simp only [List.mem_append, List.mem_singleton]
    constructor
    · rintro ⟨h1, h2⟩ x (hx | rfl)
      · exact h1 x hx
      · exact h2
    · intro h
      exact ⟨fun x hx => h x (.inl hx), h _ (.inr rfl)⟩
theorem run_le : ∀ l : List UInt8, runLen l ≤ l.length
  | [] => Nat.le_refl _
  | c :: r => by
    have := run_le r
    rw [runLen]
    split
    · simpa using this
    · exact Nat.zero_le _
theorem run_iff : ∀ l : List UInt8, runLen l = l.length ↔ ∀ x ∈ l, runU x = true
  | [] => by simp [runLen]
  | c :: r => by
    have ih := run_iff r
    by_cases hc : runU c = true
    · rw [runLen, if_pos hc, List.length_cons]
      simp only [List.mem_cons, forall_eq_or_imp, hc, true_and]
      rw [← ih]
      omega
    · rw [runLen, if_neg hc, List.length_cons]
      simp only [List.mem_cons, forall_eq_or_imp]
      constructor
      · intro h; omega
      · intro h; exact absurd h.1 hc
theorem head_at (p : UInt8 → Bool) : ∀ (l : List UInt8) (hp : 0 < l.length), headB p l = p (l[0]'hp)
  | [], hp => absurd hp (by simp)
  | a :: r, hp => rfl
theorem name_eq (s : ByteArray) : Go.Proofs.YtgfnijhhhgjabaaGreatDoor.nameB s = nameU s.data.toList := by
  by_cases h0 : s.size = 0
  · have e : s.data.toList = [] := nil_iff.2 h0
    unfold Go.Proofs.YtgfnijhhhgjabaaGreatDoor.nameB
    rw [e, h0]
    rfl
  · have hne : s.data.toList ≠ [] := fun e => h0 (nil_iff.1 e)
    have hl := len_toList s
    have h1 : Go.Proofs.YtgfnijhhhgjabaaGreatDoor.lettersB s s.size = decide (runLen s.data.toList = s.data.toList.length) := by
      rw [Bool.eq_iff_iff, decide_eq_true_iff, letters_iff s s.size (Nat.le_refl _), run_iff]
      rw [List.take_of_length_le (by omega)]
    have h2 : Go.Proofs.YtgfnijhhhgjabaaGreatDoor.smallB (Go.Proofs.YtgfnijhhhgjabaaGreatDoor.byteAt s 0) = headB smallU s.data.toList := by
      rw [Go.Proofs.YtgfnijhhhgjabaaGreatDoor.byteAt_eq (by omega : 0 < s.size)]
      have hp : 0 < s.data.toList.length := by omega
      have e : s[0]'(by omega) = s.data.toList[0]'hp := rfl
      have e2 := head_at smallU s.data.toList hp
      rw [e, e2]
      unfold Go.Proofs.YtgfnijhhhgjabaaGreatDoor.smallB smallU
      rw [decide_eq_decide]
      omega
    have h3 : Go.Proofs.YtgfnijhhhgjabaaGreatDoor.kwB s = kwU s.data.toList := by
      unfold Go.Proofs.YtgfnijhhhgjabaaGreatDoor.kwB kwU
      rw [ByteArray.toList_eq]
      rfl
    unfold Go.Proofs.YtgfnijhhhgjabaaGreatDoor.nameB nameU wordU
    rw [h1, h2, h3, hl]
    simp only [decide_eq_true hne, decide_eq_true h0, Bool.true_and]
    cases decide (s.size ≤ 120) <;> cases headB smallU s.data.toList <;> cases kwU s.data.toList <;> cases decide (runLen s.data.toList = s.size) <;> rfl
theorem lexName_any (s : ByteArray) (w : World) (hg : Gl w) (hs : s.size ≤ maxLen) : Calls Tryz.prog 57 #[.string s] w fun e w' => e = .returned (.bool (Go.Proofs.YtgfnijhhhgjabaaGreatDoor.nameB s)) ∧ Below w.heap.size w w' := by
  rw [name_eq]
  exact Name_any s w hg hs
end Go.Proofs.YtgfnijhhhgjabaaGreatDoor.LX
end
