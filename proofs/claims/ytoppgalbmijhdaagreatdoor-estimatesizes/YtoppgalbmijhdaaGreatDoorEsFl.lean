import Derived.Test.YtoppgalbmijhdaaGreatDoorSoM
namespace Go.Proofs.YtoppgalbmijhdaaGreatDoor
open Ieee

/-! floats: what is no NaN, and which operations keep it so -/
abbrev fD : Format := Ieee.double
def fOk (w : Nat) : Prop := (fD.read w).isNaN = false
def fFin (w : Nat) : Prop := ∃ s m p, fD.read w = .number s m p
def fPos (w : Nat) : Prop := fOk w ∧ (fD.read w).neg = false
theorem fD_sw : fD.signWeight = 9223372036854775808 := by decide
theorem fD_bi : fD.binade = 4503599627370496 := by decide
theorem fD_inf : fD.infRung = 9218868437227405312 := by decide
theorem read_word (neg : Bool) (r : Nat) (h : r ≤ 9218868437227405312) :
    fD.read (fD.word neg r) = if r < 4503599627370496 then .number neg r fD.leastPlace
      else if r < 9218868437227405312 then .number neg (4503599627370496 + r % 4503599627370496) (fD.leastPlace + (r / 4503599627370496 - 1 : Nat))
      else .infinity neg := by
  have h1 : fD.word neg r % 9223372036854775808 = r := by
    unfold Format.word
    rw [fD_sw]
    cases neg <;> simp <;> omega
  have h2 : (fD.word neg r / 9223372036854775808 % 2 == 1) = neg := by
    unfold Format.word
    rw [fD_sw]
    cases neg
    · have : r / 9223372036854775808 = 0 := by omega
      simp [this]
    · have : (9223372036854775808 + r) / 9223372036854775808 = 1 := by omega
      simp [this]
  unfold Format.read
  simp only [fD_sw, fD_bi, fD_inf, h1, h2]
  by_cases a : r < 4503599627370496
  · simp [a]
  · by_cases b : r < 9218868437227405312
    · simp [a, b]
    · have : r = 9218868437227405312 := by omega
      simp [this]
theorem read_ok (neg : Bool) (r : Nat) (h : r ≤ 9218868437227405312) : (fD.read (fD.word neg r)).isNaN = false ∧ (fD.read (fD.word neg r)).neg = neg := by
  rw [read_word neg r h]
  by_cases a : r < 4503599627370496
  · simp [a, Datum.isNaN, Datum.neg]
  · by_cases b : r < 9218868437227405312
    · simp [a, b, Datum.isNaN, Datum.neg]
    · simp [a, b, Datum.isNaN, Datum.neg]
theorem write_ok (d : Datum) (h : d.isNaN = false) : (fD.read (fD.write d)).isNaN = false ∧ (fD.read (fD.write d)).neg = d.neg := by
  cases d with
  | nan s f => cases h
  | infinity s => exact read_ok s _ (by rw [fD_inf]; omega)
  | number s m p =>
    unfold Format.write Format.nearest
    by_cases hm : m = 0
    · simp only [hm, ↓reduceIte]
      exact read_ok s 0 (by omega)
    · simp only [hm, ↓reduceIte]
      exact read_ok s _ (by rw [fD_inf]; omega)
theorem fOk_cases {w : Nat} (h : fOk w) : (∃ s m p, fD.read w = .number s m p) ∨ ∃ s, fD.read w = .infinity s := by
  unfold fOk at h
  cases e : fD.read w with
  | nan s f => rw [e] at h; cases h
  | infinity s => exact .inr ⟨s, rfl⟩
  | number s m p => exact .inl ⟨s, m, p, rfl⟩
theorem fFin.ok {w : Nat} (h : fFin w) : fOk w := by
  obtain ⟨s, m, p, e⟩ := h
  unfold fOk
  rw [e]; rfl
/-- a word that is no NaN is what it is -/
theorem f_eql {w : Nat} (h : fOk w) : (fD.order w w == some .eq) = true := by
  rcases fOk_cases h with ⟨s, m, p, e⟩ | ⟨s, e⟩
  · simp [Format.order, e, Datum.order]
  · simp [Format.order, e, Datum.order]
theorem f_add {x y : Nat} (hx : fOk x) (hy : fFin y) : ∃ z, fD.add x y = some z ∧ fOk z := by
  obtain ⟨t, n, j, ey⟩ := hy
  rcases fOk_cases hx with ⟨s, m, p, e⟩ | ⟨s, e⟩
  · refine ⟨_, by simp [Format.add, e, ey, Datum.sum]; rfl, ?_⟩
    exact (write_ok _ rfl).1
  · refine ⟨_, by simp [Format.add, e, ey, Datum.sum]; rfl, ?_⟩
    exact (write_ok _ rfl).1
theorem f_sub {x y : Nat} (hx : fFin x) (hy : fOk y) : ∃ z, fD.sub x y = some z ∧ fOk z := by
  obtain ⟨t, n, j, ex⟩ := hx
  rcases fOk_cases hy with ⟨s, m, p, e⟩ | ⟨s, e⟩
  · refine ⟨_, by simp [Format.sub, e, ex, Datum.sum, Datum.opposite]; rfl, ?_⟩
    exact (write_ok _ rfl).1
  · refine ⟨_, by simp [Format.sub, e, ex, Datum.sum, Datum.opposite]; rfl, ?_⟩
    exact (write_ok _ rfl).1
theorem f_sq {x : Nat} (hx : fOk x) : ∃ z, fD.mul x x = some z ∧ fPos z := by
  rcases fOk_cases hx with ⟨s, m, p, e⟩ | ⟨s, e⟩
  · refine ⟨_, by simp [Format.mul, e, Datum.product]; rfl, ?_⟩
    exact write_ok _ rfl
  · refine ⟨_, by simp [Format.mul, e, Datum.product]; rfl, ?_⟩
    exact write_ok _ rfl
/-- a count: a number above 0 -/
def fCnt (w : Nat) : Prop := ∃ m p, fD.read w = .number false m p ∧ m ≠ 0
theorem f_div {x c : Nat} (hx : fOk x) (hc : fCnt c) : ∃ z, fD.div x c = some z ∧ fOk z ∧ ((fD.read x).neg = false → fPos z) := by
  obtain ⟨n, j, ec, hn⟩ := hc
  rcases fOk_cases hx with ⟨s, m, p, e⟩ | ⟨s, e⟩
  · refine ⟨_, by simp [Format.div, e, ec, Datum.quotient, hn]; rfl, (write_ok _ rfl).1, fun h => ?_⟩
    rw [e] at h
    have := write_ok (.number s (2 * ((m <<< (fD.fractionBits + 2 + n.log2 - m.log2)) / n) + ((m <<< (fD.fractionBits + 2 + n.log2 - m.log2)) % n != 0).toNat) (p - j - ((fD.fractionBits + 2 + n.log2 - m.log2 : Nat) : Int) - 1)) rfl
    exact ⟨this.1, this.2.trans h⟩
  · refine ⟨_, by simp [Format.div, e, ec, Datum.quotient]; rfl, (write_ok _ rfl).1, fun h => ?_⟩
    rw [e] at h
    have := write_ok (.infinity s) rfl
    exact ⟨this.1, this.2.trans h⟩
theorem f_addp {x y : Nat} (hx : fPos x) (hy : fPos y) : ∃ z, fD.add x y = some z ∧ fPos z := by
  obtain ⟨hx1, hx2⟩ := hx
  obtain ⟨hy1, hy2⟩ := hy
  rcases fOk_cases hx1 with ⟨s, m, p, e⟩ | ⟨s, e⟩ <;> rcases fOk_cases hy1 with ⟨t, n, q, e'⟩ | ⟨t, e'⟩ <;> rw [e] at hx2 <;> rw [e'] at hy2 <;> simp only [Datum.neg] at hx2 hy2 <;> subst hx2 hy2
  · refine ⟨_, by simp only [Format.add, e, e', Datum.sum, Option.map]; rfl, ?_⟩
    refine ⟨(write_ok _ rfl).1, (write_ok _ rfl).2.trans ?_⟩
    simp only [Datum.neg, signed, Bool.false_eq_true, ↓reduceIte]
    split
    · rfl
    · simp only [decide_eq_false_iff_not]
      exact Int.not_lt.2 (Int.add_nonneg (Int.natCast_nonneg _) (Int.natCast_nonneg _))
  · exact ⟨fD.write (.infinity false), by simp [Format.add, e, e', Datum.sum], write_ok (.infinity false) rfl⟩
  · exact ⟨fD.write (.infinity false), by simp [Format.add, e, e', Datum.sum], write_ok (.infinity false) rfl⟩
  · exact ⟨fD.write (.infinity false), by simp [Format.add, e, e', Datum.sum], write_ok (.infinity false) rfl⟩
/-- a whole number of 64 bits is no NaN and no infinity -/
theorem log2_63 {n : Nat} (h : n ≤ 9223372036854775808) : n.log2 ≤ 63 := by
  by_cases h0 : n = 0
  · subst h0; decide
  · exact Nat.le_of_lt_succ ((Nat.log2_lt h0).2 (Nat.lt_of_le_of_lt h (by decide)))
theorem fD_least : fD.leastPlace = -1074 := by decide
theorem fD_fb : fD.fractionBits = 52 := rfl
theorem cut_zero (s : Bool) (n : Nat) : Toward.even.cut s n 0 = n := by
  unfold Toward.cut
  simp [Nat.mod_one]
theorem cut_le (s : Bool) (n d : Nat) (hd : d ≤ n.log2 + 2) : Toward.even.cut s n d ≤ n / 2 ^ d + 1 := by
  unfold Toward.cut
  have e : (1 : Nat) <<< min d (n.log2 + 2) = 2 ^ d := by rw [Nat.min_eq_left hd, Nat.shiftLeft_eq, Nat.one_mul]
  simp only [e]
  generalize (decide (2 ^ d < 2 * (n % 2 ^ d)) || (2 ^ d == 2 * (n % 2 ^ d) && n / 2 ^ d % 2 == 1)) = B
  cases B <;> simp
/-- the word of a whole number -/
theorem near_low (s : Bool) (M : Nat) (h0 : M ≠ 0) (hL : M.log2 ≤ 52) :
    fD.nearest s M 0 = fD.word s (min ((M.log2 + 1022) * 4503599627370496 + M * 2 ^ (52 - M.log2)) 9218868437227405312) := by
  unfold Format.nearest
  simp only [h0, ↓reduceIte, fD_least, fD_fb, fD_bi, fD_inf]
  have e1 : max (0 + (M.log2 : Int) - (52 : Nat)) (-1074) = (M.log2 : Int) - 52 := by omega
  have e2 : (0 - ((M.log2 : Int) - 52)).toNat = 52 - M.log2 := by omega
  have e3 : ((M.log2 : Int) - 52 - 0).toNat = 0 := by omega
  have e4 : ((M.log2 : Int) - 52 - -1074).toNat = M.log2 + 1022 := by omega
  rw [e1, e2, e3, e4, cut_zero, Nat.shiftLeft_eq]
theorem near_high (s : Bool) (M : Nat) (hL : 52 < M.log2) (hM : M ≤ 9223372036854775808) :
    ∃ k, k ≤ 9007199254740993 ∧ fD.nearest s M 0 = fD.word s ((M.log2 + 1022) * 4503599627370496 + k) := by
  have h0 : M ≠ 0 := by rintro rfl; simp at hL
  have h63 := log2_63 hM
  unfold Format.nearest
  simp only [h0, ↓reduceIte, fD_least, fD_fb, fD_bi, fD_inf]
  have e1 : max (0 + (M.log2 : Int) - (52 : Nat)) (-1074) = (M.log2 : Int) - 52 := by omega
  have e2 : (0 - ((M.log2 : Int) - 52)).toNat = 0 := by omega
  have e3 : ((M.log2 : Int) - 52 - 0).toNat = M.log2 - 52 := by omega
  have e4 : ((M.log2 : Int) - 52 - -1074).toNat = M.log2 + 1022 := by omega
  rw [e1, e2, e3, e4, Nat.shiftLeft_zero]
  have hc := cut_le s M (M.log2 - 52) (by omega)
  have hd : M / 2 ^ (M.log2 - 52) < 9007199254740992 := by
    rw [Nat.div_lt_iff_lt_mul (Nat.two_pow_pos _)]
    have := @Nat.lt_log2_self M
    have e : 2 ^ (M.log2 + 1) = 9007199254740992 * 2 ^ (M.log2 - 52) := by
      rw [show (9007199254740992 : Nat) = 2 ^ 53 from rfl, ← Nat.pow_add]
      congr 1
      omega
    omega
  refine ⟨_, Nat.le_trans hc (by omega), ?_⟩
  rw [Nat.min_eq_left (by omega)]
theorem fin_word (s : Bool) (r : Nat) (h : r < 9218868437227405312) : fFin (fD.word s r) := by
  unfold fFin
  rw [read_word s r (by omega)]
  by_cases a : r < 4503599627370496
  · simp only [a, ↓reduceIte]; exact ⟨_, _, _, rfl⟩
  · simp only [a, h, ↓reduceIte]; exact ⟨_, _, _, rfl⟩
theorem low_lt {M : Nat} (h0 : M ≠ 0) (hL : M.log2 ≤ 52) : 4503599627370496 ≤ M * 2 ^ (52 - M.log2) ∧ M * 2 ^ (52 - M.log2) < 9007199254740992 := by
  have h1 := Nat.log2_self_le h0
  have h2 := @Nat.lt_log2_self M
  have e : 2 ^ M.log2 * 2 ^ (52 - M.log2) = 4503599627370496 := by
    rw [← Nat.pow_add, show M.log2 + (52 - M.log2) = 52 by omega]
  have e' : 2 ^ (M.log2 + 1) * 2 ^ (52 - M.log2) = 9007199254740992 := by rw [Nat.pow_succ, Nat.mul_right_comm, e]
  have p := Nat.two_pow_pos (52 - M.log2)
  exact ⟨e ▸ Nat.mul_le_mul_right _ h1, e' ▸ Nat.mul_lt_mul_of_pos_right h2 p⟩
theorem fin_int (n : Int) (h : n.natAbs ≤ 9223372036854775808) : fFin (FloatKind.nearest .f64 n) := by
  show fFin (fD.nearest (decide (n < 0)) n.natAbs 0)
  by_cases h0 : n.natAbs = 0
  · rw [show fD.nearest (decide (n < 0)) n.natAbs 0 = fD.word (decide (n < 0)) 0 by unfold Format.nearest; simp only [h0, ↓reduceIte]]
    exact fin_word _ 0 (by omega)
  · by_cases hL : n.natAbs.log2 ≤ 52
    · have := low_lt h0 hL
      rw [near_low _ _ h0 hL, Nat.min_eq_left (by omega)]
      exact fin_word _ _ (by omega)
    · obtain ⟨k, hk, e⟩ := near_high (decide (n < 0)) n.natAbs (by omega) h
      have := log2_63 h
      rw [e]
      exact fin_word _ _ (by omega)
theorem cnt_int (n : Nat) (h0 : n ≠ 0) (h : n ≤ 1048576) : fCnt (FloatKind.nearest .f64 (n : Int)) := by
  show fCnt (fD.nearest (decide ((n : Int) < 0)) (n : Int).natAbs 0)
  have hL : n.log2 ≤ 52 := Nat.le_of_lt_succ ((Nat.log2_lt h0).2 (Nat.lt_of_le_of_lt h (by decide)))
  have := low_lt h0 hL
  rw [Int.natAbs_natCast, show decide ((n : Int) < 0) = false by simp, near_low _ _ h0 hL, Nat.min_eq_left (by omega)]
  unfold fCnt
  rw [read_word false _ (by omega)]
  simp only [show ¬ ((n.log2 + 1022) * 4503599627370496 + n * 2 ^ (52 - n.log2)) < 4503599627370496 by omega, show ((n.log2 + 1022) * 4503599627370496 + n * 2 ^ (52 - n.log2)) < 9218868437227405312 by omega, ↓reduceIte]
  exact ⟨_, _, rfl, by omega⟩
/-! the mean and the spread of a list of numbers, as both sides reckon them -/
abbrev fI (n : Int) : Nat := FloatKind.nearest .f64 n
def fadd (x y : Nat) : Nat := (fD.add x y).getD 0
def fsub (x y : Nat) : Nat := (fD.sub x y).getD 0
def fmul (x y : Nat) : Nat := (fD.mul x y).getD 0
def fdiv (x y : Nat) : Nat := (fD.div x y).getD 0
def sumF (xs : List Int) : Nat := xs.foldl (fun a x => fadd a (fI x)) 0
def meanF (xs : List Int) : Nat := fdiv (sumF xs) (fI xs.length)
def offF (m : Nat) (x : Int) : Nat := fsub (fI x) m
def partF (m c : Nat) (x : Int) : Nat := fdiv (fmul (offF m x) (offF m x)) c
def spU (m c : Nat) (ys : List Int) : Nat := ys.foldl (fun a x => fadd a (partF m c x)) 0
def spF (xs : List Int) : Nat := spU (meanF xs) (fI xs.length) xs
def in63 (xs : List Int) : Prop := ∀ x ∈ xs, x.natAbs ≤ 9223372036854775808
theorem zero_pos : fPos 0 := by unfold fPos fOk; decide
theorem sum_snoc (xs : List Int) (x : Int) : sumF (xs ++ [x]) = fadd (sumF xs) (fI x) := by simp [sumF]
theorem spU_snoc (m c : Nat) (xs : List Int) (x : Int) : spU m c (xs ++ [x]) = fadd (spU m c xs) (partF m c x) := by simp [spU]
theorem sum_ok : ∀ (n : Nat) (xs : List Int), xs.length = n → in63 xs → fOk (sumF xs)
  | 0, xs, h, _ => by rw [List.eq_nil_of_length_eq_zero h]; exact zero_pos.1
  | n + 1, xs, h, hx => by
    obtain ⟨ys, y, rfl⟩ : ∃ ys y, xs = ys ++ [y] := ⟨xs.dropLast, xs.getLast (by rintro rfl; simp at h), (List.dropLast_concat_getLast _).symm⟩
    have h1 := sum_ok n ys (by simpa using h) (fun x hm => hx x (by simp [hm]))
    obtain ⟨z, h2, h3⟩ := f_add h1 (fin_int y (hx y (by simp)))
    rw [sum_snoc]
    unfold fadd
    rw [h2]
    exact h3
theorem sum_step {xs : List Int} {x : Int} (hx : in63 xs) (h : x.natAbs ≤ 9223372036854775808) : fD.add (sumF xs) (fI x) = some (sumF (xs ++ [x])) := by
  obtain ⟨z, h2, h3⟩ := f_add (sum_ok _ xs rfl hx) (fin_int x h)
  rw [sum_snoc]
  unfold fadd
  rw [h2]
  rfl
theorem mean_ok {xs : List Int} (hx : in63 xs) (h0 : xs ≠ []) (h : xs.length ≤ 1048576) : fD.div (sumF xs) (fI xs.length) = some (meanF xs) ∧ fOk (meanF xs) := by
  obtain ⟨z, h1, h2, _⟩ := f_div (sum_ok _ xs rfl hx) (cnt_int xs.length (by simpa using h0) h)
  unfold meanF fdiv
  rw [h1]
  exact ⟨rfl, h2⟩
theorem off_ok {m : Nat} {x : Int} (hm : fOk m) (h : x.natAbs ≤ 9223372036854775808) : fD.sub (fI x) m = some (offF m x) ∧ fOk (offF m x) := by
  obtain ⟨z, h1, h2⟩ := f_sub (fin_int x h) hm
  unfold offF fsub
  rw [h1]
  exact ⟨rfl, h2⟩
theorem sq_ok {o : Nat} (h : fOk o) : fD.mul o o = some (fmul o o) ∧ fPos (fmul o o) := by
  obtain ⟨z, h1, h2⟩ := f_sq h
  unfold fmul
  rw [h1]
  exact ⟨rfl, h2⟩
theorem part_ok {m c : Nat} {x : Int} (hm : fOk m) (hc : fCnt c) (h : x.natAbs ≤ 9223372036854775808) : fD.div (fmul (offF m x) (offF m x)) c = some (partF m c x) ∧ fPos (partF m c x) := by
  have h1 := (sq_ok (off_ok hm h).2).2
  obtain ⟨z, h2, h3, h4⟩ := f_div h1.1 hc
  unfold partF fdiv
  rw [h2]
  exact ⟨rfl, h4 h1.2⟩
theorem spU_ok {m c : Nat} (hm : fOk m) (hc : fCnt c) : ∀ (n : Nat) (xs : List Int), xs.length = n → in63 xs → fPos (spU m c xs)
  | 0, xs, h, _ => by rw [List.eq_nil_of_length_eq_zero h]; exact zero_pos
  | n + 1, xs, h, hx => by
    obtain ⟨ys, y, rfl⟩ : ∃ ys y, xs = ys ++ [y] := ⟨xs.dropLast, xs.getLast (by rintro rfl; simp at h), (List.dropLast_concat_getLast _).symm⟩
    have h1 := spU_ok hm hc n ys (by simpa using h) (fun x hm => hx x (by simp [hm]))
    obtain ⟨z, h2, h3⟩ := f_addp h1 (part_ok hm hc (hx y (by simp))).2
    rw [spU_snoc]
    unfold fadd
    rw [h2]
    exact h3
theorem spU_step {m c : Nat} (hm : fOk m) (hc : fCnt c) {xs : List Int} {x : Int} (hx : in63 xs) (h : x.natAbs ≤ 9223372036854775808) : fD.add (spU m c xs) (partF m c x) = some (spU m c (xs ++ [x])) := by
  obtain ⟨z, h2, h3⟩ := f_addp (spU_ok hm hc _ xs rfl hx) (part_ok hm hc h).2
  rw [spU_snoc]
  unfold fadd
  rw [h2]
  rfl
/-- what Share tells of numbers: mean, spread, how many -/
def shM (xs : List Int) : Nat := if xs = [] then 0 else meanF xs
def shS (xs : List Int) : Nat := if xs = [] then 0 else spF xs
theorem shM_eql {xs : List Int} (hx : in63 xs) (h : xs.length ≤ 1048576) : (fD.order (shM xs) (shM xs) == some .eq) = true := by
  unfold shM
  split
  · exact f_eql zero_pos.1
  · rename_i h0
    exact f_eql (mean_ok hx h0 h).2
theorem shS_eql {xs : List Int} (hx : in63 xs) (h : xs.length ≤ 1048576) : (fD.order (shS xs) (shS xs) == some .eq) = true := by
  unfold shS
  split
  · exact f_eql zero_pos.1
  · rename_i h0
    exact f_eql (spU_ok (mean_ok hx h0 h).2 (cnt_int xs.length (by simpa using h0) h) _ xs rfl hx).1
/-- the two facts of lives: 2 and 4 -/
theorem two_four : (fD.order (shM [2, 4]) 4613937818241073152 == some .eq) = true ∧ (fD.order (shS [2, 4]) 4607182418800017408 == some .eq) = true := by refine ⟨?_, ?_⟩ <;> kernel_rfl
end Go.Proofs.YtoppgalbmijhdaaGreatDoor
