import Derived.Test.YtgfnijhhhgjabaaGreatDoorA2
import Derived.Test.YtgfnijhhhgjabaaGreatDoorA3
import Derived.Test.YtgfnijhhhgjabaaGreatDoorA1
import Derived.Test.YtgfnijhhhgjabaaGreatDoorG1
section
namespace Go.Proofs.YtgfnijhhhgjabaaGreatDoor.AR
open Go.RowKit Go.Maps
set_option linter.unusedVariables false
set_option linter.unusedSimpArgs false
attribute [local go_sem ↓] Go.wp_at_zero Go.wp_at_succ

/-! what an operation gives -/
structure Res where
  k : Int
  n : Int
  s : ByteArray
  ok : Bool
def Res.val (r : Res) : Value := .tuple #[.agg #[.int .i8 r.k, .int .i64 r.n, .string r.s], .bool r.ok]
def noRes : Res := ⟨0, 0, ⟨#[]⟩, false⟩
def numRes (n : Int) : Res := ⟨1, n, ⟨#[]⟩, true⟩
def txtRes (s : ByteArray) : Res := ⟨2, 0, s, true⟩
def textsR (op : Int) (s : ByteArray) : Res := if op = 8 then numRes (s.size : Int) else if op = 9 then numRes ((starts s).length : Int) else txtRes (backB s)
def joinR (a b : ByteArray) : Res := if 200 < a.size + b.size then noRes else txtRes (a ++ b)
def numsR (op a b : Int) : Res :=
  if op = 2 then numRes (wrap64 (a + b)) else if op = 3 then numRes (wrap64 (a - b)) else if op = 4 then numRes (wrap64 (a * b))
  else if b = 0 then noRes else if op = 5 then numRes (wrap64 (a.tdiv b)) else numRes (a.tmod b)
def arithR (op : Int) (n : Nat) (K N : Nat → Int) (S : Nat → ByteArray) : Res :=
  if tkOf op = 1 ∧ areB 1 1 K N S n = true then numRes (wrap64 (-(N 0)))
  else if tkOf op = 2 ∧ areB 2 1 K N S n = true then numsR op (N 0) (N 1)
  else if tkOf op = 3 ∧ areB 1 2 K N S n = true then textsR op (S 0)
  else if tkOf op = 4 ∧ areB 2 2 K N S n = true then joinR (S 0) (S 1)
  else noRes
set_option maxHeartbeats 800000 in
theorem ofText_any (op : Int) (s : ByteArray) (hs : s.size ≤ 200) (w : World) : Calls Tryz.prog 104 #[.int .i8 op, .string s] w fun e w' => e = .returned (textsR op s).val ∧ Below w.heap.size w w' := by
  have hB := Lib.hid ((Below.refl w.heap.size w).alloc (Nat.le_refl _) (.cells #[.int .i8 0, .int .i64 0, .string ⟨#[]⟩] 38))
  by_cases h8 : op = 8
  · have HR : Hid ((textsR op s).val = .tuple #[.agg #[.int .i8 1, .int .i64 (s.size : Int), .string ⟨#[]⟩], .bool true]) := by show _ = _; unfold textsR; rw [if_pos h8]; rfl
    subst h8
    go_enter Tryz.func104, Tryz.ntmps104
    go_wp2_with fail
    refine (number_any _ _).mono ?_
    rintro e w1 ⟨rfl, hb1⟩
    obtain ⟨hc1, hf1⟩ := bcell hb1
    go_wp2
    exact bodyPost_ret (v := .tuple #[.agg #[.int .i8 1, .int .i64 (s.size : Int), .string ⟨#[]⟩], .bool true]) (by simp [results, Tryz.results104, go_sem, hc1]) rfl
      ⟨by rw [HR.out], (((hB.out.trans (hb1.mono (by simp))).setCell (by simp) _).setCell (by simp) _).setCell (by simp) _⟩
  · have h8' : (op == 8) = false := by simpa using h8
    by_cases h9 : op = 9
    · have HR : Hid ((textsR op s).val = .tuple #[.agg #[.int .i8 1, .int .i64 ((starts s).length : Int), .string ⟨#[]⟩], .bool true]) := by show _ = _; unfold textsR; rw [if_neg h8, if_pos h9]; rfl
      subst h9
      go_enter Tryz.func104, Tryz.ntmps104
      go_wp2_with fail
      refine (characterStarts_any s (by omega) _).mono ?_
      rintro e w0 ⟨sv, rfl, hown, hb0⟩
      obtain ⟨a0, c0, rfl, _⟩ := own_form hown
      have HB0 := Lib.hid hb0
      clear hown hb0
      go_wp2_with fail
      refine (number_any _ _).mono ?_
      rintro e w1 ⟨rfl, hb1⟩
      have hbb := HB0.out.trans (hb1.mono HB0.out.size)
      obtain ⟨hc1, hf1⟩ := bcell hbb
      go_wp2
      exact bodyPost_ret (v := .tuple #[.agg #[.int .i8 1, .int .i64 ((starts s).length : Int), .string ⟨#[]⟩], .bool true]) (by simp [results, Tryz.results104, go_sem, hc1]) rfl
        ⟨by rw [HR.out], (((hB.out.trans (hbb.mono (by simp))).setCell (by simp) _).setCell (by simp) _).setCell (by simp) _⟩
    · have h9' : (op == 9) = false := by simpa using h9
      have HR : Hid ((textsR op s).val = .tuple #[.agg #[.int .i8 2, .int .i64 0, .string (backB s)], .bool true]) := by show _ = _; unfold textsR; rw [if_neg h8, if_neg h9]; rfl
      go_enter Tryz.func104, Tryz.ntmps104
      go_wp2_with fail
      refine (backwards_any s (by omega) _).mono ?_
      rintro e w0 ⟨rfl, hb0⟩
      have HB0 := Lib.hid hb0
      clear hb0
      generalize backB s = bs at HR ⊢
      go_wp2_with fail
      refine (text_any _ _).mono ?_
      rintro e w1 ⟨rfl, hb1⟩
      have hbb := HB0.out.trans (hb1.mono HB0.out.size)
      obtain ⟨hc1, hf1⟩ := bcell hbb
      go_wp2
      exact bodyPost_ret (v := .tuple #[.agg #[.int .i8 2, .int .i64 0, .string bs], .bool true]) (by simp [results, Tryz.results104, go_sem, hc1]) rfl
        ⟨by rw [HR.out], (((hB.out.trans (hbb.mono (by simp))).setCell (by simp) _).setCell (by simp) _).setCell (by simp) _⟩
set_option maxHeartbeats 800000 in
theorem join_any (a b : ByteArray) (ha : a.size ≤ 200) (hb : b.size ≤ 200) (w : World) : Calls Tryz.prog 105 #[.string a, .string b] w fun e w' => e = .returned (joinR a b).val ∧ Below w.heap.size w w' := by
  have hB := Lib.hid ((Below.refl w.heap.size w).alloc (Nat.le_refl _) (.cells #[.int .i8 0, .int .i64 0, .string ⟨#[]⟩] 38))
  by_cases h : 200 < a.size + b.size
  · have HR : Hid ((joinR a b).val = .tuple #[.agg #[.int .i8 0, .int .i64 0, .string ⟨#[]⟩], .bool false]) := by show _ = _; unfold joinR; rw [if_pos h]; rfl
    have h' : (200 : Int) < (a.size : Int) + (b.size : Int) := by omega
    go_enter Tryz.func105, Tryz.ntmps105
    go_wp2
    exact bodyPost_ret (v := .tuple #[.agg #[.int .i8 0, .int .i64 0, .string ⟨#[]⟩], .bool false]) (by simp [results, Tryz.results105, go_sem]) rfl
      ⟨by rw [HR.out], hB.out⟩
  · have HR : Hid ((joinR a b).val = .tuple #[.agg #[.int .i8 2, .int .i64 0, .string (a ++ b)], .bool true]) := by show _ = _; unfold joinR; rw [if_neg h]; rfl
    have h' : ¬ (200 : Int) < (a.size : Int) + (b.size : Int) := by omega
    have h'' : ¬ 9223372036854775807 < a.size + b.size := by omega
    go_enter Tryz.func105, Tryz.ntmps105
    go_wp2_with fail
    refine (text_any _ _).mono ?_
    rintro e w1 ⟨rfl, hb1⟩
    obtain ⟨hc1, hf1⟩ := bcell hb1
    go_wp2
    exact bodyPost_ret (v := .tuple #[.agg #[.int .i8 2, .int .i64 0, .string (a ++ b)], .bool true]) (by simp [results, Tryz.results105, go_sem, hc1]) rfl
      ⟨by rw [HR.out], (((hB.out.trans (hb1.mono (by simp))).setCell (by simp) _).setCell (by simp) _).setCell (by simp) _⟩
theorem ofNumbers_any (op a b : Int) (ho : 2 ≤ op ∧ op ≤ 6) (w : World) : Calls Tryz.prog 103 #[.int .i8 op, .int .i64 a, .int .i64 b] w fun e w' => e = .returned (numsR op a b).val ∧ Below w.heap.size w w' := by
  obtain rfl | rfl | rfl | rfl | rfl : op = 2 ∨ op = 3 ∨ op = 4 ∨ op = 5 ∨ op = 6 := by omega
  · exact ofNumbers_add a b w
  · exact ofNumbers_sub a b w
  · exact ofNumbers_mul a b w
  · by_cases hb : b = 0
    · subst hb
      exact ofNumbers_div0 a w
    · have e : (numsR 5 a b) = numRes (wrap64 (a.tdiv b)) := by unfold numsR; simp [hb]
      rw [e]
      exact ofNumbers_div a b w hb
  · by_cases hb : b = 0
    · subst hb
      exact ofNumbers_mod0 a w
    · have e : (numsR 6 a b) = numRes (a.tmod b) := by unfold numsR; simp [hb]
      rw [e]
      exact ofNumbers_mod a b w hb
set_option maxHeartbeats 800000 in
theorem areValues_nil (a : Option Addr) (cap : Nat) (count kind : Int) (K N : Nat → Int) (S : Nat → ByteArray) (w : World) :
    Calls Tryz.prog 101 #[.slice a 0 cap, .int .i64 count, .int .i8 kind] w fun e w' => e = .returned (.bool (areB count kind K N S 0)) ∧ Below w.heap.size w w' := by
  go_enter Tryz.func101, Tryz.ntmps101
  go_wp2
  go_loopw [8, 11] (fun _ i wr => i = .int .i64 0 ∧ Below w.heap.size w wr) (fun _ _ _ => 0)
  case atStart => exact ⟨rfl, Below.refl _ _⟩
  case round =>
    obtain ⟨rfl, bel⟩ := hrel
    go_wp2
    go_ret
    exact ⟨ret_bool (by unfold areB allOf; rfl), bel⟩
theorem areValues_lst (v : Value) (n : Nat) (count kind : Int) (K N : Nat → Int) (S : Nat → ByteArray) (w : World) (hl : Lst w v n K N S) :
    Calls Tryz.prog 101 #[v, .int .i64 count, .int .i8 kind] w fun e w' => e = .returned (.bool (areB count kind K N S n)) ∧ Below w.heap.size w w' := by
  obtain ⟨hn, ⟨a, cap, rfl, rfl⟩ | ⟨g, off, cap, rfl, h1, h2, hc⟩⟩ := hl
  · exact areValues_nil a cap count kind K N S w
  · by_cases h0 : n = 0
    · subst h0
      exact areValues_nil _ cap count kind K N S w
    · exact areValues_any K N S g off n cap count kind w ⟨hc.lt (by omega), hc.kind, hc.num, hc.text, hc.size⟩ hn
theorem areB_spec {count : Nat} {kind : Int} {K N : Nat → Int} {S : Nat → ByteArray} {n : Nat} (h : areB count kind K N S n = true) : n = count ∧ ∀ i, i < n → K i = kind ∧ chk (K i) (N i) (S i) = 0 := by
  unfold areB at h
  simp only [Bool.and_eq_true, beq_iff_eq] at h
  refine ⟨by omega, ?_⟩
  have : ∀ m, allOf kind K N S m = true → ∀ i, i < m → K i = kind ∧ chk (K i) (N i) (S i) = 0 := by
    intro m
    induction m with
    | zero => intro _ i hi; omega
    | succ m ih =>
      intro hm i hi
      simp only [allOf, Bool.and_eq_true, beq_iff_eq] at hm
      by_cases e : i = m
      · subst e; exact hm.2
      · exact ih hm.1 i (by omega)
  exact this n h.1
theorem chk_text {n : Int} {s : ByteArray} (h : chk 2 n s = 0) : s.size ≤ 200 := by
  unfold chk at h
  split at h
  · rename_i hh
    rcases hh with ⟨h1, _⟩ | ⟨_, _, h1⟩
    · omega
    · omega
  · omega
end Go.Proofs.YtgfnijhhhgjabaaGreatDoor.AR
end
section
namespace Go.Proofs.YtgfnijhhhgjabaaGreatDoor.AR
open Go.RowKit Go.Maps
set_option linter.unusedVariables false
set_option linter.unusedSimpArgs false
attribute [local go_sem ↓] Go.wp_at_zero Go.wp_at_succ

/-! the reference's list of characters -/
def charS (s : ByteArray) (p : Nat) : ByteArray := s.extract p (p + chW s p)
def strC (x : ByteArray) : Value := .string x
theorem infoStr1 : (Tryz.prog.info? 9).map (fun i => (i.zero, i.size, i.bytes)) = some (some (.string ⟨#[]⟩), 1, 16) := by kernel_rfl
end Go.Proofs.YtgfnijhhhgjabaaGreatDoor.AR
end
section
namespace Go.Proofs.YtgfnijhhhgjabaaGreatDoor.AR
open Go.RowKit
set_option linter.unusedVariables false

def addW (a b : Int) : Int := wrap64 (a + b)
def subW (a b : Int) : Int := wrap64 (a - b)
def mulW (a b : Int) : Int := wrap64 (a * b)
def divW (a b : Int) : Int := wrap64 (a.tdiv b)
def modW (a b : Int) : Int := a.tmod b
def negW (a : Int) : Int := wrap64 (-a)
/-- how far a number lies from 0 -/
def szW (a : Int) : Int := if a < 0 then -a else a
def In64 (a : Int) : Prop := -9223372036854775808 ≤ a ∧ a ≤ 9223372036854775807

theorem wrap_rep (n : Int) : ∃ q : Int, wrap64 n = n + 18446744073709551616 * q := by
  refine ⟨-((n + 9223372036854775808) / 18446744073709551616), ?_⟩
  unfold wrap64
  omega
theorem wrap_more (n q : Int) : wrap64 (n + 18446744073709551616 * q) = wrap64 n := by
  unfold wrap64
  omega
theorem wrap_id {n : Int} (h : In64 n) : wrap64 n = n := by
  unfold wrap64
  unfold In64 at h
  omega
theorem wrap_in (n : Int) : In64 (wrap64 n) := by
  unfold In64 wrap64
  omega

theorem wrap_add_l (x c : Int) : wrap64 (wrap64 x + c) = wrap64 (x + c) := by
  obtain ⟨q, h⟩ := wrap_rep x
  rw [h, show x + 18446744073709551616 * q + c = (x + c) + 18446744073709551616 * q by omega, wrap_more]
theorem wrap_add_r (x c : Int) : wrap64 (c + wrap64 x) = wrap64 (c + x) := by
  rw [Int.add_comm, wrap_add_l, Int.add_comm]
theorem wrap_sub_l (x c : Int) : wrap64 (wrap64 x - c) = wrap64 (x - c) := by
  have := wrap_add_l x (-c)
  simpa [Int.sub_eq_add_neg] using this
theorem wrap_mul_l (x c : Int) : wrap64 (wrap64 x * c) = wrap64 (x * c) := by
  obtain ⟨q, h⟩ := wrap_rep x
  rw [h, Int.add_mul, Int.mul_assoc, wrap_more]
theorem wrap_mul_r (x c : Int) : wrap64 (c * wrap64 x) = wrap64 (c * x) := by
  rw [Int.mul_comm, wrap_mul_l, Int.mul_comm]

theorem addW_comm (a b : Int) : addW b a = addW a b := by unfold addW; rw [Int.add_comm]
theorem addW_assoc (a b c : Int) : addW a (addW b c) = addW (addW a b) c := by
  unfold addW
  rw [wrap_add_r, wrap_add_l, Int.add_assoc]
theorem subW_addW (a b : Int) (h : In64 a) : subW (addW a b) b = a := by
  unfold subW addW
  rw [wrap_sub_l, show a + b - b = a by omega, wrap_id h]
theorem mulW_comm (a b : Int) : mulW b a = mulW a b := by unfold mulW; rw [Int.mul_comm]
theorem mulW_assoc (a b c : Int) : mulW a (mulW b c) = mulW (mulW a b) c := by
  unfold mulW
  rw [wrap_mul_r, wrap_mul_l, Int.mul_assoc]
theorem mulW_addW (a b c : Int) : mulW a (addW b c) = addW (mulW a b) (mulW a c) := by
  unfold mulW addW
  rw [wrap_mul_r, wrap_add_l, wrap_add_r, Int.mul_add]
theorem mulW_one (a : Int) (h : In64 a) : mulW a 1 = a := by unfold mulW; rw [Int.mul_one, wrap_id h]
theorem addW_zero (a : Int) (h : In64 a) : addW a 0 = a := by unfold addW; rw [Int.add_zero, wrap_id h]
theorem addW_negW (a : Int) : addW a (negW a) = 0 := by
  unfold addW negW
  rw [wrap_add_r, show a + -a = 0 by omega]
  exact wrap_id (by unfold In64; omega)

theorem divmodW (a b : Int) (h : In64 a) : addW (mulW (divW a b) b) (modW a b) = a := by
  unfold addW mulW divW modW
  rw [wrap_mul_l, wrap_add_l]
  have e : a.tdiv b * b + a.tmod b = a := by rw [Int.mul_comm]; exact Int.mul_tdiv_add_tmod a b
  rw [e, wrap_id h]

theorem szW_abs (a : Int) : szW a = a.natAbs := by unfold szW; split <;> omega
theorem szW_mod (a b : Int) (hb : ¬ b = 0) : szW (modW a b) < szW b := by
  rw [szW_abs, szW_abs]
  unfold modW
  have h := Int.natAbs_tmod a b
  rw [h]
  have : 0 < b.natAbs := by omega
  have := Nat.mod_lt a.natAbs this
  omega
theorem szW_div (a b : Int) (ha : In64 a) : szW (divW a b) ≤ szW a := by
  have h1 : (a.tdiv b).natAbs ≤ a.natAbs := by
    rw [Int.natAbs_tdiv]
    exact Nat.div_le_self _ _
  rw [szW_abs a]
  unfold divW szW wrap64
  unfold In64 at ha
  split <;> omega
theorem modW_sign (a b : Int) (h : ¬ modW a b = 0) : decide (modW a b < 0) = decide (a < 0) := by
  unfold modW at *
  by_cases ha : a < 0
  · have e : a.tmod b = -((-a).tmod b) := by rw [← Int.neg_tmod]; simp
    have : 0 ≤ (-a).tmod b := Int.tmod_nonneg b (by omega)
    have : a.tmod b < 0 := by omega
    simp [ha, this]
  · have : 0 ≤ a.tmod b := Int.tmod_nonneg b (by omega)
    have n : ¬ a.tmod b < 0 := by omega
    simp [ha, n]
theorem modW_in (a b : Int) (ha : In64 a) : In64 (modW a b) := by
  have h : (a.tmod b).natAbs ≤ a.natAbs := by
    rw [Int.natAbs_tmod]
    exact Nat.mod_le _ _
  by_cases c : a < 0
  · have e : a.tmod b = -((-a).tmod b) := by rw [← Int.neg_tmod]; simp
    have : 0 ≤ (-a).tmod b := Int.tmod_nonneg b (by omega)
    unfold modW In64 at *
    omega
  · unfold modW In64 at *
    omega

end Go.Proofs.YtgfnijhhhgjabaaGreatDoor.AR
end
section
namespace Go.Proofs.YtgfnijhhhgjabaaGreatDoor.AR
open Go.RowKit Go.Maps
set_option linter.unusedVariables false
set_option linter.unusedSimpArgs false
attribute [local go_sem ↓] Go.wp_at_zero Go.wp_at_succ

/-! the reference's Arith -/
theorem starts_next (s : ByteArray) : ∀ (f i : Nat), s.size - i ≤ f → ∀ j, j < (startsAt s i).length → (startsAt s i)[j]?.getD 0 + chW s ((startsAt s i)[j]?.getD 0) = if j + 1 < (startsAt s i).length then (startsAt s i)[j + 1]?.getD 0 else s.size
  | 0, i, hf, j, hj => by rw [starts_end s (by omega)] at hj; simp at hj
  | f + 1, i, hf, j, hj => by
    by_cases h : i < s.size
    · have hc := chW_le s h
      have ih := starts_next s f (i + chW s i) (by omega)
      rw [starts_cons s h] at hj ⊢
      cases j with
      | zero =>
        simp only [List.getElem?_cons_zero, Option.getD_some, List.length_cons, Nat.zero_add]
        by_cases h2 : i + chW s i < s.size
        · rw [starts_cons s h2]
          simp
        · rw [starts_end s h2]
          simp
          omega
      | succ j =>
        have hj' : j < (startsAt s (i + chW s i)).length := by simpa using hj
        have := ih j hj'
        simp only [List.getElem?_cons_succ, List.length_cons, Nat.add_lt_add_iff_right]
        exact this
    · rw [starts_end s h] at hj; simp at hj
theorem charS_chunk (s : ByteArray) {k : Nat} (hk : k < (starts s).length) : charS s (startAt s k) = chunk s k := by
  unfold charS chunk
  have h := starts_next s s.size 0 (by omega) ((starts s).length - 1 - k) (by show _ < (starts s).length; omega)
  have e : startAt s k + chW s (startAt s k) = endAt s k := by
    unfold startAt
    refine h.trans ?_
    unfold endAt
    show (if (starts s).length - 1 - k + 1 < (starts s).length then (starts s)[(starts s).length - 1 - k + 1]?.getD 0 else s.size) = _
    by_cases h0 : k = 0
    · rw [if_neg (by omega), if_pos h0]
    · rw [if_pos (by omega), if_neg h0]
      unfold startAt
      rw [show (starts s).length - 1 - (k - 1) = (starts s).length - 1 - k + 1 by omega]
  rw [e]
theorem back_cat (s : ByteArray) (k : Nat) : (⟨(backL s k).toArray⟩ : ByteArray) ++ chunk s k = ⟨(backL s (k + 1)).toArray⟩ := by
  apply ByteArray.ext
  rw [ByteArray.data_append]
  show (backL s k).toArray ++ (chunk s k).data = (backL s k ++ (chunk s k).data.toList).toArray
  apply Array.toList_inj.1
  simp
theorem back_size (s : ByteArray) (k : Nat) : (⟨(backL s k).toArray⟩ : ByteArray).size = (backL s k).length := by
  show (backL s k).toArray.size = _
  simp
end Go.Proofs.YtgfnijhhhgjabaaGreatDoor.AR
end
section
namespace Go.Proofs.YtgfnijhhhgjabaaGreatDoor.AR
open Go.RowKit Go.Maps
set_option linter.unusedVariables false
set_option linter.unusedSimpArgs false
attribute [local go_sem ↓] Go.wp_at_zero Go.wp_at_succ

end Go.Proofs.YtgfnijhhhgjabaaGreatDoor.AR
end
