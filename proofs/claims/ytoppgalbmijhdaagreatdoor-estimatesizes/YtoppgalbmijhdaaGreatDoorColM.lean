import Derived.Test.YtoppgalbmijhdaaGreatDoorFact
import Derived.Deep.OwnRows
import Derived.Deep.Upon
import Derived.Maps.AppendAt
import Derived.OwnWalk
namespace Go.Proofs.YtoppgalbmijhdaaGreatDoor.AR
open Go.RowKit
set_option linter.unusedVariables false
set_option linter.unusedSimpArgs false

/-- the order of two rows, by the signs of their columns -/
def TT : (Nat → Int) → Nat → Nat → Int
  | _, 0, 0 => 0
  | _, 0, _ + 1 => -1
  | _, _ + 1, 0 => 1
  | c, n + 1, m + 1 => orL [c 0, TT (fun i => c (i + 1)) n m]

theorem tupC_TT : ∀ (n m : Nat) (c : Nat → Int) (j : Nat), tupC c (n + j) (m + j) (min n m) = TT (fun i => c (i + j)) n m
  | 0, 0, c, j => by simp [tupC, TT]
  | 0, m + 1, c, j => by simp [tupC, TT, show j < m + 1 + j by omega]
  | n + 1, 0, c, j => by simp [tupC, TT, show ¬ n + 1 + j < j by omega, show j < n + 1 + j by omega]
  | n + 1, m + 1, c, j => by
    have ih := tupC_TT n m c (j + 1)
    rw [show min (n + 1) (m + 1) = min n m + 1 by omega]
    simp only [tupC, TT]
    rw [show min (n + 1 + j) (m + 1 + j) - (min n m + 1) = j by omega, show n + 1 + j = n + (j + 1) by omega, show m + 1 + j = m + (j + 1) by omega, ih]
    simp only [Nat.zero_add, orL, show ∀ i, i + 1 + j = i + (j + 1) by intro i; omega]
    by_cases h : c j = 0
    · simp [h]
    · simp [h]

theorem TT_anti : ∀ (n m : Nat) (c d : Nat → Int), (∀ i, d i = - c i) → TT d m n = - TT c n m
  | 0, 0, c, d, h => by simp [TT]
  | 0, m + 1, c, d, h => by simp [TT]
  | n + 1, 0, c, d, h => by simp [TT]
  | n + 1, m + 1, c, d, h => by
    simp only [TT]
    exact orL2_anti (h 0) (TT_anti n m _ _ (fun i => h (i + 1)))

theorem TT_range : ∀ (n m : Nat) (c : Nat → Int), (∀ i, -1 ≤ c i ∧ c i ≤ 1) → -1 ≤ TT c n m ∧ TT c n m ≤ 1
  | 0, 0, c, h => by simp [TT]
  | 0, m + 1, c, h => by simp [TT]
  | n + 1, 0, c, h => by simp [TT]
  | n + 1, m + 1, c, h => by
    simp only [TT]
    exact orL2_range (h 0) (TT_range n m _ (fun i => h (i + 1)))

theorem TT_O3 : ∀ (n m k : Nat) (a b c : Nat → Int), (∀ i, O3 (a i) (b i) (c i)) → O3 (TT a n m) (TT b m k) (TT c n k)
  | 0, 0, 0, a, b, c, h => by simp [TT, O3]
  | 0, 0, k + 1, a, b, c, h => by simp [TT, O3]
  | 0, m + 1, 0, a, b, c, h => by simp [TT, O3]
  | n + 1, 0, 0, a, b, c, h => by simp [TT, O3]
  | n + 1, 0, k + 1, a, b, c, h => by
    have h1 := TT_range (n + 1) (k + 1) c (fun i => (h i).2.2.1)
    simp only [TT] at h1 ⊢
    unfold O3
    omega
  | 0, m + 1, k + 1, a, b, c, h => by
    have h1 := TT_range (m + 1) (k + 1) b (fun i => (h i).2.1)
    simp only [TT] at h1 ⊢
    unfold O3
    omega
  | n + 1, m + 1, 0, a, b, c, h => by
    have h1 := TT_range (n + 1) (m + 1) a (fun i => (h i).1)
    simp only [TT] at h1 ⊢
    unfold O3
    omega
  | n + 1, m + 1, k + 1, a, b, c, h => by
    simp only [TT]
    exact O3.lex2 (h 0) (TT_O3 n m k _ _ _ (fun i => h (i + 1)))

theorem orL2_zero_iff {a b : Int} : orL [a, b] = 0 ↔ a = 0 ∧ b = 0 :=
  ⟨orL2_zero, fun ⟨h1, h2⟩ => by subst h1 h2; rfl⟩

theorem TT_zero : ∀ (n m : Nat) (c : Nat → Int), TT c n m = 0 ↔ n = m ∧ ∀ i, i < n → c i = 0
  | 0, 0, c => by simp [TT]
  | 0, m + 1, c => by simp [TT]
  | n + 1, 0, c => by simp [TT]
  | n + 1, m + 1, c => by
    simp only [TT]
    rw [orL2_zero_iff, TT_zero n m]
    constructor
    · rintro ⟨h0, h1, h2⟩
      refine ⟨by omega, fun i hi => ?_⟩
      cases i with
      | zero => exact h0
      | succ i => exact h2 i (by omega)
    · rintro ⟨h1, h2⟩
      exact ⟨h2 0 (by omega), by omega, fun i hi => h2 (i + 1) (by omega)⟩

theorem orL_zero_left (b : Int) : orL [0, b] = b := by
  by_cases h : b = 0 <;> simp [orL, h]

theorem TT_skip : ∀ (n m k : Nat) (c : Nat → Int), (∀ i, i < n → c i = 0) → TT c (n + m) (n + k) = TT (fun i => c (n + i)) m k
  | 0, m, k, c, h => by simp
  | n + 1, m, k, c, h => by
    rw [show n + 1 + m = (n + m) + 1 by omega, show n + 1 + k = (n + k) + 1 by omega]
    simp only [TT]
    rw [h 0 (by omega), orL_zero_left, TT_skip n m k _ (fun i hi => h (i + 1) (by omega))]
    simp only [show ∀ i, n + i + 1 = n + 1 + i by intro i; omega]

theorem TT_head {c : Nat → Int} (n m : Nat) (h : ¬ c 0 = 0) : TT c (n + 1) (m + 1) = c 0 := by
  simp [TT, orL, h]

theorem sameTo_iff {K N : Nat → Int} {S : Nat → ByteArray} {K' N' : Nat → Int} {S' : Nat → ByteArray} : ∀ n, sameTo K N S K' N' S' n = true ↔ ∀ i, i < n → cmpV (K i) (N i) (S i) (K' i) (N' i) (S' i) = 0
  | 0 => by simp [sameTo]
  | n + 1 => by
    simp only [sameTo, Bool.and_eq_true, beq_iff_eq]
    rw [sameTo_iff n]
    constructor
    · rintro ⟨h1, h2⟩ i hi
      by_cases e : i = n
      · rw [e]; exact h2
      · exact h1 i (by omega)
    · intro h
      exact ⟨fun i hi => h i (by omega), h n (by omega)⟩

/-- a fact: its name, the place of its row, its row -/
structure Fc where
  p : ByteArray
  a : Option Addr
  n : Nat
  c : Nat
  K : Nat → Int
  N : Nat → Int
  S : Nat → ByteArray
def Fc.lies (x : Fc) (w : World) : Prop := Lst w (.slice x.a x.n x.c) x.n x.K x.N x.S
def tc (x y : Fc) : Int := TT (fun i => cmpV (x.K i) (x.N i) (x.S i) (y.K i) (y.N i) (y.S i)) x.n y.n
def fc (x y : Fc) : Int := orL [Lib.compareBytes x.p.data.toList y.p.data.toList, tc x y]
def sv (x y : Fc) : Bool := sameB x.n y.n x.K x.N x.S y.K y.N y.S
def sf (x y : Fc) : Bool := (x.p.toList == y.p.toList) && sv x y
theorem Fc.lies.below {x : Fc} {w w' : World} (h : x.lies w) (hb : Below w.heap.size w w') : x.lies w' := Lst.below h hb

theorem tc_anti (x y : Fc) : tc y x = - tc x y := TT_anti _ _ _ _ fun i => cmpV_anti _ _ _ _ _ _
theorem tc_O3 (x y z : Fc) : O3 (tc x y) (tc y z) (tc x z) := TT_O3 _ _ _ _ _ _ fun i => cmpV_O3 _ _ _ _ _ _ _ _ _
theorem tc_zero (x y : Fc) : (tc x y == 0) = sv x y := by
  rw [Bool.eq_iff_iff, beq_iff_eq, sv, sameB, Bool.and_eq_true, beq_iff_eq, sameTo_iff]
  exact TT_zero _ _ _
theorem fc_anti (x y : Fc) : fc y x = - fc x y := orL2_anti (compareBytes_anti _ _) (tc_anti x y)
theorem fc_O3 (x y z : Fc) : O3 (fc x y) (fc y z) (fc x z) := O3.lex2 (compareBytes_O3 _ _ _) (tc_O3 x y z)
theorem fc_zero (x y : Fc) : (fc x y == 0) = sf x y := by
  have h := tc_zero x y
  rw [Bool.eq_iff_iff, beq_iff_eq] at h ⊢
  rw [fc, orL2_zero_iff, sf, Bool.and_eq_true, h, beq_iff_eq]
  refine and_congr_left fun _ => ⟨fun e => ?_, fun e => ?_⟩
  · have := compareBytes_zero e
    rw [ByteArray.toList_eq, ByteArray.toList_eq]; exact this
  · rw [ByteArray.toList_eq, ByteArray.toList_eq] at e
    rw [e]; exact compareBytes_self _

theorem vct (x y : Fc) (w : World) (hx : x.lies w) (hy : y.lies w) :
    Calls Tryz.prog 72 #[.slice x.a x.n x.c, .slice y.a y.n y.c] w fun e w' => e = .returned (.int .i64 (tc x y)) ∧ Below w.heap.size w w' := by
  refine (vcompareTuples_any _ _ _ _ _ _ _ _ _ _ w hx hy).mono fun e w' ⟨he, hb⟩ => ⟨?_, hb⟩
  have := tupC_TT x.n y.n (fun i => cmpV (x.K i) (x.N i) (x.S i) (y.K i) (y.N i) (y.S i)) 0
  simp only [Nat.add_zero] at this
  rw [he, this]
  rfl
theorem vcf (x y : Fc) (w : World) (hx : x.lies w) (hy : y.lies w) :
    Calls Tryz.prog 59 #[.agg #[.string x.p, .slice x.a x.n x.c], .agg #[.string y.p, .slice y.a y.n y.c]] w fun e w' => e = .returned (.int .i64 (fc x y)) ∧ Below w.heap.size w w' := by
  refine (vcompareFacts_any _ _ _ _ _ _ _ _ _ _ _ _ w hx hy).mono fun e w' ⟨he, hb⟩ => ⟨?_, hb⟩
  have := tupC_TT x.n y.n (fun i => cmpV (x.K i) (x.N i) (x.S i) (y.K i) (y.N i) (y.S i)) 0
  simp only [Nat.add_zero] at this
  rw [he, this]
  rfl
theorem svs (x y : Fc) (w : World) (hx : x.lies w) (hy : y.lies w) :
    Calls Tryz.prog 40 #[.slice x.a x.n x.c, .slice y.a y.n y.c] w fun e w' => e = .returned (.bool (sv x y)) ∧ Below w.heap.size w w' :=
  sameValues_any _ _ _ _ _ _ _ _ _ _ w hx hy
end Go.Proofs.YtoppgalbmijhdaaGreatDoor.AR
