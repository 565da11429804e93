import Derived.WalkKit
import Derived.Below
import Derived.Lib.Strings
import Derived.Lib.Small
import Derived.Lib.Bytealg
import Derived.Laws.Strings
import Derived.Test.YtgfnijhhhgjabaaGreatDoorProg
import Derived.WalkSpells
import Derived.WalkLawsBesides
import Derived.Deep.RegionHeld3
import Derived.Deep.DrawnRows
import Derived.Deep.Light
import Derived.Lib.Slices
import Derived.Lib.Walk
section
namespace Go.Proofs.YtgfnijhhhgjabaaGreatDoor
open Go.RowKit

theorem bcell {W w1 : World} (hb : Below W.heap.size W w1) : (∀ b o, b < W.heap.size → w1.cell? ⟨b, o, none⟩ = W.cell? ⟨b, o, none⟩) ∧ (∀ b o, b < W.heap.size → w1.frozen? ⟨b, o, none⟩ = W.frozen? ⟨b, o, none⟩) :=
  ⟨fun b o h => hb.cell (p := ⟨b, o, none⟩) h, fun b o h => hb.frozen (p := ⟨b, o, none⟩) h⟩

def chk (k n : Int) (s : ByteArray) : Int :=
  if k = 1 ∧ s.toList = [] ∨ k = 2 ∧ n = 0 ∧ (s.size : Int) ≤ 200 then 0 else 10

theorem chk_ok {k n : Int} {s : ByteArray} (h : k = 1 ∧ s.toList = [] ∨ k = 2 ∧ n = 0 ∧ (s.size : Int) ≤ 200) : 0 = chk k n s := (if_pos h).symm
theorem chk_no {k n : Int} {s : ByteArray} (h : ¬ (k = 1 ∧ s.toList = [] ∨ k = 2 ∧ n = 0 ∧ (s.size : Int) ≤ 200)) : 10 = chk k n s := (if_neg h).symm

theorem ret_int {k : IntKind} {a b : Int} (h : a = b) : Ending.returned (.int k a) = .returned (.int k b) := by rw [h]

theorem ret_bool {a b : Bool} (h : a = b) : Ending.returned (.bool a) = .returned (.bool b) := by rw [h]

def orL : List Int → Int
  | [] => 0
  | z :: r => if z = 0 then orL r else z

theorem orL_drop (zs : List Int) (k : Nat) (h : k < zs.length) : orL (zs.drop k) = if zs.getD k 0 = 0 then orL (zs.drop (k + 1)) else zs.getD k 0 := by
  rw [List.drop_eq_getElem_cons h]
  simp [orL, List.getD, List.getElem?_eq_getElem h]

def cmpV (k1 n1 : Int) (s1 : ByteArray) (k2 n2 : Int) (s2 : ByteArray) : Int :=
  orL [Lib.compareInt k1 k2, Lib.compareInt n1 n2, Lib.compareBytes s1.data.toList s2.data.toList]

theorem compareBytes_self : ∀ a : List UInt8, Lib.compareBytes a a = 0
  | [] => rfl
  | x :: a => by
    have h : ¬ x < x := UInt8.lt_irrefl x
    simp [Lib.compareBytes, h, compareBytes_self a]

theorem compareBytes_less : ∀ a b : List UInt8, Op.bytesLess a b = true → Lib.compareBytes a b = -1
  | [], [] => by simp [Op.bytesLess]
  | [], _ :: _ => by simp [Lib.compareBytes]
  | _ :: _, [] => by simp [Op.bytesLess]
  | x :: a, y :: b => by
    intro h
    simp only [Op.bytesLess, Bool.or_eq_true, decide_eq_true_eq, Bool.and_eq_true, beq_iff_eq] at h
    rcases h with h | ⟨rfl, h⟩
    · simp [Lib.compareBytes, h]
    · have hx : ¬ x < x := UInt8.lt_irrefl x
      simp [Lib.compareBytes, hx, compareBytes_less a b h]

theorem compareBytes_more : ∀ a b : List UInt8, Op.bytesLess a b = false → ¬ a = b → Lib.compareBytes a b = 1
  | [], [] => by simp
  | [], _ :: _ => by simp [Op.bytesLess]
  | _ :: _, [] => by simp [Lib.compareBytes]
  | x :: a, y :: b => by
    intro h hne
    simp only [Op.bytesLess, Bool.or_eq_false_iff, decide_eq_false_iff_not, Bool.and_eq_false_iff, beq_eq_false_iff_ne] at h
    obtain ⟨h1, h2⟩ := h
    by_cases hxy : x = y
    · subst hxy
      have h3 : Op.bytesLess a b = false := by simpa using h2
      have h4 : ¬ a = b := fun e => hne (by rw [e])
      simp [Lib.compareBytes, h1, compareBytes_more a b h3 h4]
    · have : y < x := UInt8.lt_of_le_of_ne (UInt8.not_lt.1 h1) (Ne.symm hxy)
      simp [Lib.compareBytes, h1, this]

theorem compareInt_self (a : Int) : Lib.compareInt a a = 0 := by simp [Lib.compareInt]

theorem cmpV_k1 {k1 k2 : Int} (n1 n2 : Int) (s1 s2 : ByteArray) (h : k1 < k2) : cmpV k1 n1 s1 k2 n2 s2 = -1 := by
  simp [cmpV, orL, Lib.compareInt, h]
theorem cmpV_k2 {k1 k2 : Int} (n1 n2 : Int) (s1 s2 : ByteArray) (hn : ¬ k1 = k2) (h : k2 ≤ k1) : cmpV k1 n1 s1 k2 n2 s2 = 1 := by
  have a : ¬ k1 < k2 := by omega
  have b : k2 < k1 := by omega
  simp [cmpV, orL, Lib.compareInt, a, b]
theorem cmpV_n1 {k n1 n2 : Int} (s1 s2 : ByteArray) (h : n1 < n2) : cmpV k n1 s1 k n2 s2 = -1 := by
  simp [cmpV, orL, Lib.compareInt, h]
theorem cmpV_n2 {k n1 n2 : Int} (s1 s2 : ByteArray) (hn : ¬ n1 = n2) (h : n2 ≤ n1) : cmpV k n1 s1 k n2 s2 = 1 := by
  have a : ¬ n1 < n2 := by omega
  have b : n2 < n1 := by omega
  simp [cmpV, orL, Lib.compareInt, a, b]
theorem cmpV_s (k n : Int) (s1 s2 : ByteArray) : cmpV k n s1 k n s2 = Lib.compareBytes s1.toList s2.toList := by
  rw [ByteArray.toList_eq, ByteArray.toList_eq]
  simp only [cmpV, orL, compareInt_self, if_true]
  split <;> simp_all
theorem cmpV_s0 (k n : Int) {s1 s2 : ByteArray} (h : s1.toList = s2.toList) : cmpV k n s1 k n s2 = 0 := by
  rw [cmpV_s, h]; exact compareBytes_self _
theorem cmpV_s1 (k n : Int) {s1 s2 : ByteArray} (h : Op.bytesLess s1.toList s2.toList = true) : cmpV k n s1 k n s2 = -1 := by
  rw [cmpV_s]; exact compareBytes_less _ _ h
theorem cmpV_s2 (k n : Int) {s1 s2 : ByteArray} (hn : ¬ s1.toList = s2.toList) (h : Op.bytesLess s1.toList s2.toList = false) : cmpV k n s1 k n s2 = 1 := by
  rw [cmpV_s]; exact compareBytes_more _ _ h hn

def relB (r c : Int) : Bool :=
  if r = 1 then c == 0 else if r = 2 then c != 0 else if r = 3 then decide (c < 0) else if r = 4 then decide (c ≤ 0) else if r = 5 then decide (0 < c) else if r = 6 then decide (0 ≤ c) else false

def holdsV (r k1 n1 : Int) (s1 : ByteArray) (k2 n2 : Int) (s2 : ByteArray) : Bool :=
  if chk k1 n1 s1 = 0 ∧ chk k2 n2 s2 = 0 then relB r (cmpV k1 n1 s1 k2 n2 s2) else false

theorem holdsV_yes {r k1 n1 : Int} {s1 : ByteArray} {k2 n2 : Int} {s2 : ByteArray} (c1 : chk k1 n1 s1 = 0) (c2 : chk k2 n2 s2 = 0) : holdsV r k1 n1 s1 k2 n2 s2 = relB r (cmpV k1 n1 s1 k2 n2 s2) := if_pos ⟨c1, c2⟩
theorem holdsV_no {r k1 n1 : Int} {s1 : ByteArray} {k2 n2 : Int} {s2 : ByteArray} (c : ¬ (chk k1 n1 s1 = 0 ∧ chk k2 n2 s2 = 0)) : holdsV r k1 n1 s1 k2 n2 s2 = false := if_neg c

end Go.Proofs.YtgfnijhhhgjabaaGreatDoor
end
section
namespace Go.Proofs.YtgfnijhhhgjabaaGreatDoor
open Go.RowKit
set_option linter.unusedVariables false

set_option maxHeartbeats 400000 in
theorem vcheck_any (k n : Int) (s : ByteArray) (w : World) (hs : s.size ≤ maxLen) :
    Calls Tryz.prog 49 #[.agg #[.int .i8 k, .int .i64 n, .string s]] w fun e w' => e = .returned (.int .i64 (chk k n s)) ∧ Below w.heap.size w w' := by
  unfold maxLen at hs
  go_enter Tryz.func49, Tryz.ntmps49
  go_wp2
  all_goals
    go_ret
    refine ⟨ret_int ?_, (Below.refl _ _).alloc (Nat.le_refl _) _⟩
    skip
    first
      | (refine chk_ok ?_; simp_all; done)
      | (refine chk_no ?_; simp_all; done)
      | (refine chk_no ?_; simp_all; omega)
      | (exfalso; simp_all; done)

set_option maxHeartbeats 400000 in
theorem rcheck_any (k n : Int) (s : ByteArray) (w : World) (hs : s.size ≤ maxLen) :
    Calls Tryz.prog 52 #[.agg #[.int .i8 k, .int .i64 n, .string s]] w fun e w' => e = .returned (.int .i64 (chk k n s)) ∧ Below w.heap.size w w' := by
  unfold maxLen at hs
  go_enter Tryz.func52, Tryz.ntmps52
  go_wp2
  all_goals
    go_ret
    refine ⟨ret_int ?_, (Below.refl _ _).alloc (Nat.le_refl _) _⟩
    skip
    first
      | (refine chk_ok ?_; simp_all; done)
      | (refine chk_no ?_; simp_all; done)
      | (refine chk_no ?_; simp_all; omega)
      | (exfalso; simp_all; done)

theorem cmpKind_any (x y : Int) (w : World) :
    Calls Tryz.prog 79 #[.int .i8 x, .int .i8 y] w fun e w' => e = .returned (.int .i64 (Lib.compareInt x y)) ∧ w' = w := by
  go_enter Tryz.func79, Tryz.ntmps79
  go_wp2
  all_goals (go_ret; refine ⟨?_, rfl⟩; unfold Lib.compareInt; (repeat' split) <;> first | rfl | (exfalso; omega))

theorem cmpNum_any (x y : Int) (w : World) :
    Calls Tryz.prog 80 #[.int .i64 x, .int .i64 y] w fun e w' => e = .returned (.int .i64 (Lib.compareInt x y)) ∧ w' = w := by
  go_enter Tryz.func80, Tryz.ntmps80
  go_wp2
  all_goals (go_ret; refine ⟨?_, rfl⟩; unfold Lib.compareInt; (repeat' split) <;> first | rfl | (exfalso; omega))

set_option maxRecDepth 100000 in
theorem cmpBytealg_any (a b : ByteArray) (w : World) :
    Calls Tryz.prog 108 #[.string a, .string b] w fun e w' => e = .returned (.int .i64 (Lib.compareBytes a.data.toList b.data.toList)) ∧ w' = w := by
  go_enter Tryz.func108, Tryz.ntmps108
  go_wp2
  rw [run_callFunc_extern Tryz.func121 (by kernel_rfl) (by kernel_rfl) (by kernel_rfl) (e := Extern.BytealgCompare.compare) (by kernel_rfl), Lib.run_compareString]
  go_wp2
  go_ret
  exact ⟨rfl, rfl⟩

theorem cmpText_any (a b : ByteArray) (w : World) :
    Calls Tryz.prog 81 #[.string a, .string b] w fun e w' => e = .returned (.int .i64 (Lib.compareBytes a.data.toList b.data.toList)) ∧ w' = w := by
  go_enter Tryz.func81, Tryz.ntmps81
  go_wp2_with (go_at_call 108; refine (cmpBytealg_any _ _ _).mono ?_; rintro e w' ⟨rfl, rfl⟩)
  go_ret
  exact ⟨rfl, rfl⟩

set_option maxHeartbeats 400000 in
theorem or_any (zs : List Int) (g off len cap : Nat) (w : World) (hl : zs.length = len) (hm : len ≤ 1000)
    (hc : ∀ i, i < len → w.cell? ⟨g, off + i, none⟩ = some (.int .i64 (zs.getD i 0))) :
    Calls Tryz.prog 78 #[.slice (some ⟨g, off, none⟩) len cap] w fun e w' => e = .returned (.int .i64 (orL zs)) ∧ w' = w := by
  go_enter Tryz.func78, Tryz.ntmps78
  go_wp2
  go_loop [8] (fun i => ∃ k : Nat, k ≤ len ∧ i = .int .i64 k ∧ Hid (orL zs = orL (zs.drop k))) (fun i => len - (intOf i).toNat)
  case atStart => exact ⟨0, Nat.zero_le _, rfl, rfl⟩
  case round =>
    obtain ⟨k, hk, rfl, HK⟩ := hrel
    by_cases hlt : k < len
    · have hck := hc k hlt
      have HD : Hid (orL (zs.drop k) = if zs.getD k 0 = 0 then orL (zs.drop (k + 1)) else zs.getD k 0) := orL_drop zs k (by omega)
      clear hc hl
      generalize zs.getD k 0 = x at hck HD
      by_cases hz : x = 0
      · subst hz
        go_wp2
        go_round
        case rel => exact ⟨k + 1, by omega, by go_num, by rw [HK.out, HD.out]; exact if_pos rfl⟩
        case measure => simp [intOf]; omega
      · have hz' : (x != 0) = true := by simpa using hz
        have HZ : Hid (¬ x = 0) := hz
        clear hz
        go_wp2
        go_ret
        exact ⟨ret_int (by rw [HK.out, HD.out]; exact (if_neg HZ.out).symm), rfl⟩
    · go_wp2
      go_ret
      exact ⟨ret_int (by rw [HK.out, List.drop_of_length_le (by omega)]; rfl), rfl⟩

attribute [local go_sem ↓] Go.wp_at_zero Go.wp_at_succ

set_option maxHeartbeats 800000 in
theorem vcompare_any (k1 n1 : Int) (s1 : ByteArray) (k2 n2 : Int) (s2 : ByteArray) (w : World) :
    Calls Tryz.prog 50 #[.agg #[.int .i8 k1, .int .i64 n1, .string s1], .agg #[.int .i8 k2, .int .i64 n2, .string s2]] w fun e w' => e = .returned (.int .i64 (cmpV k1 n1 s1 k2 n2 s2)) ∧ Below w.heap.size w w' := by
  go_enter Tryz.func50, Tryz.ntmps50
  go_wp2_with fail
  go_region_held3 (fun w' => w'.cell? ⟨w.heap.size, 0, none⟩ = some (.int .i8 k1) ∧ w'.cell? ⟨w.heap.size, 1, none⟩ = some (.int .i64 n1) ∧ w'.cell? ⟨w.heap.size, 2, none⟩ = some (.string s1) ∧ w'.cell? ⟨w.heap.size + 1, 0, none⟩ = some (.int .i8 k2) ∧ w'.cell? ⟨w.heap.size + 1, 1, none⟩ = some (.int .i64 n2) ∧ w'.cell? ⟨w.heap.size + 1, 2, none⟩ = some (.string s2)) (go_keep)
    (first
      | (go_at_call 79; refine (cmpKind_any _ _ _).mono ?_; rintro e w' ⟨rfl, rfl⟩)
      | (go_at_call 80; refine (cmpNum_any _ _ _).mono ?_; rintro e w' ⟨rfl, rfl⟩)
      | (go_at_call 81; refine (cmpText_any _ _ _).mono ?_; rintro e w' ⟨rfl, rfl⟩)
      | (go_at_call 78; refine (or_any [Lib.compareInt k1 k2, Lib.compareInt n1 n2, Lib.compareBytes s1.data.toList s2.data.toList] _ 0 3 3 _ rfl (by omega) ?_).mono ?_; (intro i hi; obtain rfl | rfl | rfl : i = 0 ∨ i = 1 ∨ i = 2 := (by omega)) <;> go_simp; rintro e w' ⟨rfl, rfl⟩))
  go_wp2
  go_ret
  exact ⟨rfl, ((((Below.refl _ _).alloc (Nat.le_refl _) _).alloc (by simp) _).alloc (by simp; omega) _).drew⟩

set_option maxHeartbeats 1600000 in
theorem vholds_any (r k1 n1 : Int) (s1 : ByteArray) (k2 n2 : Int) (s2 : ByteArray) (w : World) (h1 : s1.size ≤ maxLen) (h2 : s2.size ≤ maxLen) :
    Calls Tryz.prog 25 #[.int .i8 r, .agg #[.int .i8 k1, .int .i64 n1, .string s1], .agg #[.int .i8 k2, .int .i64 n2, .string s2]] w fun e w' => e = .returned (.bool (holdsV r k1 n1 s1 k2 n2 s2)) ∧ Below w.heap.size w w' := by
  by_cases c1 : chk k1 n1 s1 = 0
  · by_cases c2 : chk k2 n2 s2 = 0
    · have HY : Hid (holdsV r k1 n1 s1 k2 n2 s2 = relB r (cmpV k1 n1 s1 k2 n2 s2)) := holdsV_yes c1 c2
      go_enter Tryz.func25, Tryz.ntmps25
      go_wp2_with fail
      refine (vcheck_any _ _ _ _ h1).mono ?_
      rintro e w1 ⟨rfl, hb1⟩
      obtain ⟨hc1, hf1⟩ := bcell hb1
      have hz1 : w.heap.size + 1 < w1.heap.size := by have := hb1.size; simp at this; omega
      have hz1' : w.heap.size < w1.heap.size := by omega
      go_wp2_with fail
      refine (vcheck_any _ _ _ _ h2).mono ?_
      rintro e w2 ⟨rfl, hb2⟩
      obtain ⟨hc2, hf2⟩ := bcell hb2
      have hz2 : w.heap.size + 1 < w2.heap.size := by have := hb2.size; omega
      have hz2' : w.heap.size < w2.heap.size := by omega
      go_wp2_with fail
      refine (vcompare_any _ _ _ _ _ _ _).mono ?_
      rintro e w3 ⟨rfl, hb3⟩
      have hz3 : w.heap.size + 1 < w3.heap.size := by have := hb3.size; omega
      have bel : Below w.heap.size w w3 := (((((Below.refl _ _).alloc (Nat.le_refl _) _).alloc (by simp) _).trans (hb1.mono (by simp; omega))).trans (hb2.mono (by omega))).trans (hb3.mono (by omega))
      clear hc1 hf1 hc2 hf2 hb1 hb2 hb3
      generalize cmpV k1 n1 s1 k2 n2 s2 = c at HY
      go_wp2
      all_goals
        go_ret
        refine ⟨ret_bool ?_, bel⟩
        rw [HY.out]
        go_light
        unfold relB
        simp_all
    · have c2' : (chk k2 n2 s2 != 0) = true := by simpa using c2
      have HY : Hid (holdsV r k1 n1 s1 k2 n2 s2 = false) := holdsV_no (fun h => c2 h.2)
      clear c2
      go_enter Tryz.func25, Tryz.ntmps25
      go_wp2_with fail
      refine (vcheck_any _ _ _ _ h1).mono ?_
      rintro e w1 ⟨rfl, hb1⟩
      obtain ⟨hc1, hf1⟩ := bcell hb1
      have hz1 : w.heap.size + 1 < w1.heap.size := by have := hb1.size; simp at this; omega
      have hz1' : w.heap.size < w1.heap.size := by omega
      go_wp2_with fail
      refine (vcheck_any _ _ _ _ h2).mono ?_
      rintro e w2 ⟨rfl, hb2⟩
      have bel : Below w.heap.size w w2 := ((((Below.refl _ _).alloc (Nat.le_refl _) _).alloc (by simp) _).trans (hb1.mono (by simp; omega))).trans (hb2.mono (by omega))
      go_wp2
      go_ret
      exact ⟨ret_bool HY.out.symm, bel⟩
  · have c1' : (chk k1 n1 s1 != 0) = true := by simpa using c1
    have HY : Hid (holdsV r k1 n1 s1 k2 n2 s2 = false) := holdsV_no (fun h => c1 h.1)
    clear c1
    go_enter Tryz.func25, Tryz.ntmps25
    go_wp2_with fail
    refine (vcheck_any _ _ _ _ h1).mono ?_
    rintro e w1 ⟨rfl, hb1⟩
    have bel : Below w.heap.size w w1 := (((Below.refl _ _).alloc (Nat.le_refl _) _).alloc (by simp) _).trans (hb1.mono (by simp; omega))
    go_wp2
    go_ret
    exact ⟨ret_bool HY.out.symm, bel⟩

end Go.Proofs.YtgfnijhhhgjabaaGreatDoor
end
section
namespace Go.Proofs.YtgfnijhhhgjabaaGreatDoor
open Go.RowKit
set_option linter.unusedVariables false
attribute [local go_sem ↓] Go.wp_at_zero Go.wp_at_succ

def smallB (c : Int) : Bool := decide (97 ≤ c ∧ c ≤ 122)
def capitalB (c : Int) : Bool := decide (65 ≤ c ∧ c ≤ 90)
def digitB (c : Int) : Bool := decide (48 ≤ c ∧ c ≤ 57)
def letterB (c : Int) : Bool := smallB c || capitalB c || digitB c || c == 95
/-- the eight keywords, as bytes -/
def keywords : List (List UInt8) := [[110, 111, 116], [99, 111, 117, 110, 116], [115, 117, 109], [109, 105, 110], [109, 97, 120], [108, 101, 110], [99, 104, 97, 114, 115], [98, 97, 99, 107]]
def kwB (s : ByteArray) : Bool := decide (s.toList ∈ keywords)
def byteAt (s : ByteArray) (k : Nat) : Int := if h : k < s.size then (s[k].toNat : Int) else 0
theorem byteAt_eq {s : ByteArray} {k : Nat} (h : k < s.size) : byteAt s k = (s[k].toNat : Int) := dif_pos h
def lettersB (s : ByteArray) : Nat → Bool
  | 0 => true
  | k + 1 => lettersB s k && letterB (byteAt s k)
def nameB (s : ByteArray) : Bool := decide (s.size ≠ 0) && decide (s.size ≤ 120) && smallB (byteAt s 0) && !kwB s && lettersB s s.size
theorem empty_iff (s : ByteArray) : s.toList.isEmpty = decide (s.size = 0) := by
  rw [ByteArray.toList_eq, ← ByteArray.size_data, ← Array.length_toList]
  cases s.data.toList <;> simp

theorem lettersB_not {s : ByteArray} {k : Nat} (h : letterB (byteAt s k) = false) : ∀ {n : Nat}, k < n → lettersB s n = false
  | 0, hk => by omega
  | n + 1, hk => by
    by_cases e : k = n
    · subst e; simp only [lettersB, h, Bool.and_false]
    · simp only [lettersB, lettersB_not h (n := n) (by omega), Bool.false_and]

theorem isSmall_any (c : Int) (w : World) : Calls Tryz.prog 135 #[.int .u8 c] w fun e w' => e = .returned (.bool (smallB c)) ∧ w' = w := by
  go_enter Tryz.func135, Tryz.ntmps135
  go_wp2
  all_goals
    go_ret
    refine ⟨ret_bool ?_, rfl⟩
    unfold smallB
    first | (simp; omega) | simp_all

theorem isCapital_any (c : Int) (w : World) : Calls Tryz.prog 137 #[.int .u8 c] w fun e w' => e = .returned (.bool (capitalB c)) ∧ w' = w := by
  go_enter Tryz.func137, Tryz.ntmps137
  go_wp2
  all_goals
    go_ret
    refine ⟨ret_bool ?_, rfl⟩
    unfold capitalB
    first | (simp; omega) | simp_all

theorem isDigit_any (c : Int) (w : World) : Calls Tryz.prog 138 #[.int .u8 c] w fun e w' => e = .returned (.bool (digitB c)) ∧ w' = w := by
  go_enter Tryz.func138, Tryz.ntmps138
  go_wp2
  all_goals
    go_ret
    refine ⟨ret_bool ?_, rfl⟩
    unfold digitB
    first | (simp; omega) | simp_all

theorem isKeyword_any (s : ByteArray) (w : World) : Calls Tryz.prog 136 #[.string s] w fun e w' => e = .returned (.bool (kwB s)) ∧ w' = w := by
  go_enter Tryz.func136, Tryz.ntmps136
  go_wp2
  all_goals
    go_ret
    refine ⟨ret_bool ?_, rfl⟩
    go_light
    unfold kwB keywords
    simp_all

set_option maxHeartbeats 1600000 in
theorem isName_any (s : ByteArray) (w : World) (hs : s.size ≤ maxLen) : Calls Tryz.prog 114 #[.string s] w fun e w' => e = .returned (.bool (nameB s)) ∧ w' = w := by
  unfold maxLen at hs
  by_cases h0 : s.size = 0
  · have he : s.toList.isEmpty = true := by rw [empty_iff]; simpa using h0
    have HF : Hid (nameB s = false) := by show nameB s = false; simp [nameB, h0]
    go_enter Tryz.func114, Tryz.ntmps114
    go_wp2
    go_ret
    exact ⟨ret_bool HF.out.symm, rfl⟩
  · have he : s.toList.isEmpty = false := by rw [empty_iff]; simpa using h0
    have hpos : (0 : Int) < (s.size : Int) := by omega
    by_cases h1 : s.size ≤ 120
    · have hlt0 : 0 < s.size := by omega
      have hb0 := byteAt_eq hlt0
      have HN : Hid (nameB s = (smallB (s[0].toNat : Int) && !kwB s && lettersB s s.size)) := by
        show nameB s = _
        unfold nameB
        rw [hb0]
        simp [h0, h1]
      clear hb0
      cases hsm : smallB (s[0].toNat : Int)
      · have HF : Hid (nameB s = false) := by show nameB s = false; rw [HN.out, hsm]; simp
        go_enter Tryz.func114, Tryz.ntmps114
        go_wp2_with (go_at_call 135; refine (isSmall_any _ _).mono ?_; rintro e w' ⟨rfl, rfl⟩)
        go_ret
        exact ⟨ret_bool HF.out.symm, rfl⟩
      · cases hkw : kwB s
        · have HY : Hid (nameB s = lettersB s s.size) := by show nameB s = _; rw [HN.out, hsm, hkw]; simp
          go_enter Tryz.func114, Tryz.ntmps114
          go_wp2_with (first
            | (go_at_call 135; refine (isSmall_any _ _).mono ?_; rintro e w' ⟨rfl, rfl⟩)
            | (go_at_call 136; refine (isKeyword_any _ _).mono ?_; rintro e w' ⟨rfl, rfl⟩))
          go_loop [24] (fun i => ∃ k : Nat, k ≤ s.size ∧ i = .int .i64 k ∧ Hid (lettersB s k = true)) (fun i => s.size - (intOf i).toNat)
          case atStart => exact ⟨0, Nat.zero_le _, rfl, rfl⟩
          case round =>
            obtain ⟨k, hk, rfl, HL⟩ := hrel
            by_cases hlt : k < s.size
            · have HB : Hid (byteAt s k = (s[k].toNat : Int)) := byteAt_eq hlt
              have hlt' : (k : Int) < (s.size : Int) := by omega
              cases hx : letterB (s[k].toNat : Int)
              · have HF : Hid (nameB s = false) := by show nameB s = false; rw [HY.out]; exact lettersB_not (by rw [HB.out]; exact hx) hlt
                unfold letterB at hx
                simp only [Bool.or_eq_false_iff] at hx
                obtain ⟨⟨⟨x1, x2⟩, x3⟩, x4⟩ := hx
                have x4' : ((s[k].toNat : Int) != 95) = true := by simpa using x4
                clear x4
                go_wp2_with (first
                  | (go_at_call 135; refine (isSmall_any _ _).mono ?_; rintro e w' ⟨rfl, rfl⟩)
                  | (go_at_call 137; refine (isCapital_any _ _).mono ?_; rintro e w' ⟨rfl, rfl⟩)
                  | (go_at_call 138; refine (isDigit_any _ _).mono ?_; rintro e w' ⟨rfl, rfl⟩))
                go_ret
                exact ⟨ret_bool HF.out.symm, rfl⟩
              · have HS : Hid (lettersB s (k + 1) = true) := by show lettersB s (k + 1) = true; simp only [lettersB, HL.out, HB.out, hx, Bool.and_self]
                unfold letterB at hx
                cases x1 : smallB (s[k].toNat : Int)
                · cases x2 : capitalB (s[k].toNat : Int)
                  · cases x3 : digitB (s[k].toNat : Int)
                    · have x4 : ((s[k].toNat : Int) != 95) = false := by rw [x1, x2, x3] at hx; simpa using hx
                      clear hx
                      go_wp2_with (first
                        | (go_at_call 135; refine (isSmall_any _ _).mono ?_; rintro e w' ⟨rfl, rfl⟩)
                        | (go_at_call 137; refine (isCapital_any _ _).mono ?_; rintro e w' ⟨rfl, rfl⟩)
                        | (go_at_call 138; refine (isDigit_any _ _).mono ?_; rintro e w' ⟨rfl, rfl⟩))
                      go_round
                      case rel => exact ⟨k + 1, by omega, by go_num, HS⟩
                      case measure => simp [intOf]; omega
                    · clear hx
                      go_wp2_with (first
                        | (go_at_call 135; refine (isSmall_any _ _).mono ?_; rintro e w' ⟨rfl, rfl⟩)
                        | (go_at_call 137; refine (isCapital_any _ _).mono ?_; rintro e w' ⟨rfl, rfl⟩)
                        | (go_at_call 138; refine (isDigit_any _ _).mono ?_; rintro e w' ⟨rfl, rfl⟩))
                      go_round
                      case rel => exact ⟨k + 1, by omega, by go_num, HS⟩
                      case measure => simp [intOf]; omega
                  · clear hx
                    go_wp2_with (first
                      | (go_at_call 135; refine (isSmall_any _ _).mono ?_; rintro e w' ⟨rfl, rfl⟩)
                      | (go_at_call 137; refine (isCapital_any _ _).mono ?_; rintro e w' ⟨rfl, rfl⟩))
                    go_round
                    case rel => exact ⟨k + 1, by omega, by go_num, HS⟩
                    case measure => simp [intOf]; omega
                · clear hx
                  go_wp2_with (go_at_call 135; refine (isSmall_any _ _).mono ?_; rintro e w' ⟨rfl, rfl⟩)
                  go_round
                  case rel => exact ⟨k + 1, by omega, by go_num, HS⟩
                  case measure => simp [intOf]; omega
            · obtain rfl : k = s.size := by omega
              go_wp2
              go_ret
              exact ⟨ret_bool (by rw [HY.out, HL.out]), rfl⟩
        · have HF : Hid (nameB s = false) := by show nameB s = false; rw [HN.out, hkw]; simp
          go_enter Tryz.func114, Tryz.ntmps114
          go_wp2_with (first
            | (go_at_call 135; refine (isSmall_any _ _).mono ?_; rintro e w' ⟨rfl, rfl⟩)
            | (go_at_call 136; refine (isKeyword_any _ _).mono ?_; rintro e w' ⟨rfl, rfl⟩))
          go_ret
          exact ⟨ret_bool HF.out.symm, rfl⟩
    · have HF : Hid (nameB s = false) := by show nameB s = false; simp [nameB, h1]
      go_enter Tryz.func114, Tryz.ntmps114
      go_wp2
      go_ret
      exact ⟨ret_bool HF.out.symm, rfl⟩

end Go.Proofs.YtgfnijhhhgjabaaGreatDoor
end
