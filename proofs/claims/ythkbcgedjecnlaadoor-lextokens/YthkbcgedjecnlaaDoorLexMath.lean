import Derived.Lib.ParseIntB
import Derived.Lib.Strings
import Derived.Lib.Bytealg
namespace Go.Proofs.YthkbcgedjecnlaaDoor
set_option linter.unusedVariables false
set_option linter.unusedSimpArgs false

/-- a token: its kind, its text's bytes, its number, its place -/
structure Tk where
  k : Int
  s : List UInt8
  n : Int
  a : Int
deriving DecidableEq

def smallU (c : UInt8) : Bool := decide (97 ≤ c.toNat ∧ c.toNat ≤ 122)
def capU (c : UInt8) : Bool := decide (65 ≤ c.toNat ∧ c.toNat ≤ 90)
def digU (c : UInt8) : Bool := decide (48 ≤ c.toNat ∧ c.toNat ≤ 57)
def letU (c : UInt8) : Bool := smallU c || capU c
def runU (c : UInt8) : Bool := letU c || digU c || decide (c.toNat = 95)
def blankU (c : UInt8) : Bool := decide (c.toNat = 9 ∨ c.toNat = 10 ∨ c.toNat = 13 ∨ c.toNat = 32)
def runLen : List UInt8 → Nat
  | [] => 0
  | c :: r => if runU c then runLen r + 1 else 0
def comLen : List UInt8 → Nat
  | [] => 0
  | c :: r => if c.toNat = 10 then 0 else comLen r + 1

def kws : List (List UInt8) := [[110, 111, 116], [99, 111, 117, 110, 116], [115, 117, 109], [109, 105, 110], [109, 97, 120], [108, 101, 110], [99, 104, 97, 114, 115], [98, 97, 99, 107]]
def kwU (l : List UInt8) : Bool := decide (l ∈ kws)
def headB (p : UInt8 → Bool) : List UInt8 → Bool
  | [] => false
  | c :: _ => p c
def wordU (l : List UInt8) : Bool := decide (l ≠ []) && decide (l.length ≤ 120) && decide (runLen l = l.length)
def nameU (l : List UInt8) : Bool := wordU l && headB smallU l && !kwU l
def varU (l : List UInt8) : Bool := wordU l && headB capU l
def sgs : List (List UInt8) := [[58, 45], [33, 61], [60, 61], [62, 61], [40], [41], [44], [46], [63], [61], [60], [62], [43], [45], [42], [47], [37], [38]]

def hexU (c : UInt8) : Int := Lib.indexByte [48, 49, 50, 51, 52, 53, 54, 55, 56, 57, 97, 98, 99, 100, 101, 102] c
/-- the byte that a piece stands for, and the piece's width -/
def hexPc (l : List UInt8) : Option (UInt8 × Nat) :=
  match l with
  | _ :: _ :: h :: g :: _ => if hexU h < 0 ∨ hexU g < 0 then none else some (UInt8.ofNat (16 * (hexU h).toNat + (hexU g).toNat), 4)
  | _ => none
def pieceU (l : List UInt8) : Option (UInt8 × Nat) :=
  match l with
  | [] => none
  | c :: r =>
    if c.toNat < 32 ∨ 126 < c.toNat then none
    else if c.toNat ≠ 92 then some (c, 1)
    else match r with
      | [] => none
      | d :: _ => if d.toNat = 110 then some (10, 2) else if d.toNat = 34 ∨ d.toNat = 92 then some (d, 2) else if d.toNat = 120 then hexPc l else none
/-- what stands behind the quote: the value, and how many bytes are gone through, the last quote too -/
def quotU : Nat → List UInt8 → List UInt8 → Nat → Option (List UInt8 × Nat)
  | 0, _, _, _ => none
  | f + 1, l, out, n =>
    match l with
    | [] => none
    | c :: _ =>
      if 200 < out.length then none
      else if c.toNat = 34 then some (out, n + 1)
      else match pieceU l with
        | none => none
        | some (b, k) => quotU f (l.drop k) (out ++ [b]) (n + k)

inductive Fst where
  | bad (e : Int)
  | tok (t : Tk) (n : Nat)
deriving DecidableEq

def wordT (run : List UInt8) : Fst :=
  if 120 < run.length then .bad 30
  else if kwU run then .tok ⟨6, run, 0, 0⟩ run.length
  else if nameU run then .tok ⟨1, run, 0, 0⟩ run.length
  else .tok ⟨2, run, 0, 0⟩ run.length
def blankT (m : Nat) : Fst := if 1 < m then .bad 31 else .tok ⟨3, [], 0, 0⟩ 1
/-- a uint64 as an int64 -/
def asI64 (u : Nat) : Int := if u < 9223372036854775808 then (u : Int) else (u : Int) - 18446744073709551616
def numT (run : List UInt8) : Fst :=
  match Lib.parseUintB 64 run with
  | .ok u => if 9223372036854775808 < u ∨ (run.head? = some 48 ∧ run ≠ [48]) then .bad 32 else .tok ⟨4, [], asI64 u, 0⟩ run.length
  | _ => .bad 32
def quotT (l : List UInt8) : Fst :=
  match quotU l.length (l.drop 1) [] 1 with
  | some (v, n) => .tok ⟨5, v, 0, 0⟩ n
  | none => .bad 33
def signT (l : List UInt8) : Fst :=
  match sgs.find? (fun w => Lib.hasPrefix l w) with
  | some w => .tok ⟨7, w, 0, 0⟩ w.length
  | none => .bad 31
def firstT (l : List UInt8) : Fst :=
  match l with
  | [] => .bad 31
  | c :: _ =>
    if letU c then wordT (l.take (runLen l))
    else if c.toNat = 95 then blankT (runLen l)
    else if digU c then numT (l.take (runLen l))
    else if c.toNat = 34 then quotT l
    else signT l

inductive Res where
  | bad (e : Int) (a : Nat)
  | ok (ts : List Tk)
deriving DecidableEq
def Res.cons (t : Tk) : Res → Res
  | .bad e a => .bad e a
  | .ok ts => .ok (t :: ts)
def endT (a : Nat) : Tk := ⟨8, [], 0, a⟩
def toksF : Nat → List UInt8 → Nat → Res
  | 0, _, a => .ok [endT a]
  | f + 1, l, a =>
    match l with
    | [] => .ok [endT a]
    | c :: r =>
      if blankU c then toksF f r (a + 1)
      else if c.toNat = 35 then toksF f (r.drop (comLen r)) (a + 1 + comLen r)
      else match firstT l with
        | .bad e => .bad e a
        | .tok t n => (toksF f (l.drop n) (a + n)).cons { t with a := a }
def toks (l : List UInt8) (a : Nat) : Res := toksF l.length l a
def tokens (l : List UInt8) : Res := if 65536 < l.length then .bad 30 65536 else toks l 0

theorem runLen_le : ∀ l, runLen l ≤ l.length
  | [] => Nat.le_refl _
  | c :: r => by
    have := runLen_le r
    unfold runLen
    split <;> simp <;> omega
theorem comLen_le : ∀ l, comLen l ≤ l.length
  | [] => Nat.le_refl _
  | c :: r => by
    have := comLen_le r
    unfold comLen
    split <;> simp <;> omega
theorem pieceU_pos {l : List UInt8} {b : UInt8} {k : Nat} (h : pieceU l = some (b, k)) : 0 < k ∧ k ≤ l.length := by
  unfold pieceU hexPc at h
  repeat' split at h
  all_goals simp at h
  all_goals (try (obtain ⟨_, rfl⟩ := h))
  all_goals simp_all
theorem quotU_le : ∀ (f : Nat) (l out : List UInt8) (n : Nat) {v : List UInt8} {m : Nat}, quotU f l out n = some (v, m) → n < m ∧ m ≤ n + l.length
  | 0, l, out, n, v, m, h => by simp [quotU] at h
  | f + 1, l, out, n, v, m, h => by
    unfold quotU at h
    match l, h with
    | [], h => simp at h
    | c :: r, h =>
      simp only at h
      split at h
      · cases h
      · split at h
        · simp at h; simp; omega
        · split at h
          · cases h
          · next b k hp =>
            have hk := pieceU_pos hp
            have := quotU_le f _ _ _ h
            simp at this hk ⊢
            omega
theorem sgs_len {w : List UInt8} (h : w ∈ sgs) : 0 < w.length ∧ w.length ≤ 2 := by
  revert w; decide
theorem firstT_pos {l : List UInt8} {t : Tk} {n : Nat} (h : firstT l = .tok t n) : 0 < n ∧ n ≤ l.length := by
  match l, h with
  | [], h => simp [firstT] at h
  | c :: r, h =>
    have hr := runLen_le (c :: r)
    unfold firstT at h
    simp only at h
    split at h
    · next hc =>
      have hp : runLen (c :: r) = runLen r + 1 := by simp [runLen, runU, hc]
      unfold wordT at h
      repeat' split at h
      all_goals simp [hp] at h
      all_goals (have := h.2; simp at hr ⊢; have := runLen_le r; omega)
    · split at h
      · unfold blankT at h
        split at h
        · cases h
        · simp at h; simp; omega
      · split at h
        · next hc =>
          have hp : runLen (c :: r) = runLen r + 1 := by simp [runLen, runU, hc]
          unfold numT at h
          repeat' split at h
          all_goals simp [hp] at h
          all_goals (have := h.2; simp at hr ⊢; have := runLen_le r; omega)
        · split at h
          · unfold quotT at h
            split at h
            · next v m hq =>
              have := quotU_le _ _ _ _ hq
              simp at h this ⊢
              omega
            · cases h
          · unfold signT at h
            split at h
            · next w hw =>
              have h1 := List.find?_some hw
              have h2 := sgs_len (List.mem_of_find?_eq_some hw)
              simp at h
              obtain ⟨_, rfl⟩ := h
              refine ⟨h2.1, ?_⟩
              unfold Lib.hasPrefix at h1
              exact (List.isPrefixOf_iff_prefix.mp h1).length_le
            · cases h

/-- fuel enough is fuel enough -/
theorem toksF_fuel : ∀ (f g : Nat) (l : List UInt8) (a : Nat), l.length ≤ f → l.length ≤ g → toksF f l a = toksF g l a
  | 0, 0, l, a, _, _ => rfl
  | 0, g + 1, l, a, hf, _ => by
    have : l = [] := List.length_eq_zero_iff.mp (by omega)
    subst this; rfl
  | f + 1, 0, l, a, _, hg => by
    have : l = [] := List.length_eq_zero_iff.mp (by omega)
    subst this; rfl
  | f + 1, g + 1, [], a, _, _ => rfl
  | f + 1, g + 1, c :: r, a, hf, hg => by
    simp at hf hg
    unfold toksF
    simp only
    split
    · exact toksF_fuel f g r _ hf hg
    · split
      · exact toksF_fuel f g _ _ (by simp; omega) (by simp; omega)
      · split
        · rfl
        · next t n hn =>
          have := firstT_pos hn
          rw [toksF_fuel f g _ _ (by simp at this ⊢; omega) (by simp at this ⊢; omega)]

theorem toks_nil (a : Nat) : toks [] a = .ok [endT a] := rfl
theorem toks_blank {c : UInt8} (r : List UInt8) (a : Nat) (h : blankU c = true) : toks (c :: r) a = toks r (a + 1) := by
  unfold toks
  simp [toksF, h]
theorem toks_com {c : UInt8} (r : List UInt8) (a : Nat) (h : c.toNat = 35) : toks (c :: r) a = toks (r.drop (comLen r)) (a + 1 + comLen r) := by
  have hb : blankU c = false := by simp [blankU, h]
  unfold toks
  simp only [List.length_cons, toksF, hb, h, if_true, Bool.false_eq_true, if_false]
  exact toksF_fuel _ _ _ _ (by simp) (Nat.le_refl _)
theorem toks_bad {c : UInt8} {r : List UInt8} (a : Nat) {e : Int} (hb : blankU c = false) (h : c.toNat ≠ 35) (hf : firstT (c :: r) = .bad e) : toks (c :: r) a = .bad e a := by
  unfold toks
  simp only [List.length_cons, toksF, hb, h, hf, Bool.false_eq_true, if_false]
theorem toks_tok {c : UInt8} {r : List UInt8} (a : Nat) {t : Tk} {n : Nat} (hb : blankU c = false) (h : c.toNat ≠ 35) (hf : firstT (c :: r) = .tok t n) :
    toks (c :: r) a = (toks ((c :: r).drop n) (a + n)).cons { t with a := a } := by
  have hn := firstT_pos hf
  unfold toks
  simp only [List.length_cons, toksF, hb, h, hf, Bool.false_eq_true, if_false]
  rw [toksF_fuel _ _ _ _ (by simp at hn ⊢; omega) (Nat.le_refl _)]
example : tokens [110, 60, 61, 55, 32, 35, 32, 97, 108, 108] = .ok [⟨1, [110], 0, 0⟩, ⟨7, [60, 61], 0, 1⟩, ⟨4, [], 7, 3⟩, endT 10] := by decide +kernel
end Go.Proofs.YthkbcgedjecnlaaDoor
