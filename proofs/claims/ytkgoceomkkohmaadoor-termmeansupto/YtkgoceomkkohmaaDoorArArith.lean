import Derived.Test.YtkgoceomkkohmaaDoorArBackW
import Derived.Test.YtkgoceomkkohmaaDoorNums2
import Derived.Test.YtkgoceomkkohmaaDoorTwin
namespace Go.Proofs.YtkgoceomkkohmaaDoor.AR
open Go.RowKit Go.Maps
set_option linter.unusedVariables false
set_option linter.unusedSimpArgs false
attribute [local go_sem ↓] Go.wp_at_zero Go.wp_at_succ

/-! what an operation gives -/
structure Res where
  k : Int
  n : Int
  s : ByteArray
  ok : Bool
def Res.val (r : Res) : Value := .tuple #[.agg #[.int .i8 r.k, .int .i64 r.n, .string r.s], .bool r.ok]
def noRes : Res := ⟨0, 0, ⟨#[]⟩, false⟩
def numRes (n : Int) : Res := ⟨1, n, ⟨#[]⟩, true⟩
def txtRes (s : ByteArray) : Res := ⟨2, 0, s, true⟩
def textsR (op : Int) (s : ByteArray) : Res := if op = 8 then numRes (s.size : Int) else if op = 9 then numRes ((starts s).length : Int) else txtRes (backB s)
def joinR (a b : ByteArray) : Res := if 200 < a.size + b.size then noRes else txtRes (a ++ b)
def numsR (op a b : Int) : Res :=
  if op = 2 then numRes (wrap64 (a + b)) else if op = 3 then numRes (wrap64 (a - b)) else if op = 4 then numRes (wrap64 (a * b))
  else if b = 0 then noRes else if op = 5 then numRes (wrap64 (a.tdiv b)) else numRes (a.tmod b)
def arithR (op : Int) (n : Nat) (K N : Nat → Int) (S : Nat → ByteArray) : Res :=
  if tkOf op = 1 ∧ areB 1 1 K N S n = true then numRes (wrap64 (-(N 0)))
  else if tkOf op = 2 ∧ areB 2 1 K N S n = true then numsR op (N 0) (N 1)
  else if tkOf op = 3 ∧ areB 1 2 K N S n = true then textsR op (S 0)
  else if tkOf op = 4 ∧ areB 2 2 K N S n = true then joinR (S 0) (S 1)
  else noRes
set_option maxHeartbeats 800000 in
theorem ofText_any (op : Int) (s : ByteArray) (hs : s.size ≤ 200) (w : World) : Calls Tryd.prog 31 #[.int .i8 op, .string s] w fun e w' => e = .returned (textsR op s).val ∧ Below w.heap.size w w' := by
  have hB := Lib.hid ((Below.refl w.heap.size w).alloc (Nat.le_refl _) (.cells #[.int .i8 0, .int .i64 0, .string ⟨#[]⟩] 26))
  by_cases h8 : op = 8
  · have HR : Hid ((textsR op s).val = .tuple #[.agg #[.int .i8 1, .int .i64 (s.size : Int), .string ⟨#[]⟩], .bool true]) := by show _ = _; unfold textsR; rw [if_pos h8]; rfl
    subst h8
    go_enter Tryd.func31, Tryd.ntmps31
    go_wp2_with fail
    refine (number_any _ _).mono ?_
    rintro e w1 ⟨rfl, hb1⟩
    obtain ⟨hc1, hf1⟩ := bcell hb1
    go_wp2
    exact bodyPost_ret (v := .tuple #[.agg #[.int .i8 1, .int .i64 (s.size : Int), .string ⟨#[]⟩], .bool true]) (by simp [results, Tryd.results31, go_sem, hc1]) rfl
      ⟨by rw [HR.out], (((hB.out.trans (hb1.mono (by simp))).setCell (by simp) _).setCell (by simp) _).setCell (by simp) _⟩
  · have h8' : (op == 8) = false := by simpa using h8
    by_cases h9 : op = 9
    · have HR : Hid ((textsR op s).val = .tuple #[.agg #[.int .i8 1, .int .i64 ((starts s).length : Int), .string ⟨#[]⟩], .bool true]) := by show _ = _; unfold textsR; rw [if_neg h8, if_pos h9]; rfl
      subst h9
      go_enter Tryd.func31, Tryd.ntmps31
      go_wp2_with fail
      refine (characterStarts_any s (by omega) _).mono ?_
      rintro e w0 ⟨sv, rfl, hown, hb0⟩
      obtain ⟨a0, c0, rfl, _⟩ := own_form hown
      have HB0 := Lib.hid hb0
      clear hown hb0
      go_wp2_with fail
      refine (number_any _ _).mono ?_
      rintro e w1 ⟨rfl, hb1⟩
      have hbb := HB0.out.trans (hb1.mono HB0.out.size)
      obtain ⟨hc1, hf1⟩ := bcell hbb
      go_wp2
      exact bodyPost_ret (v := .tuple #[.agg #[.int .i8 1, .int .i64 ((starts s).length : Int), .string ⟨#[]⟩], .bool true]) (by simp [results, Tryd.results31, go_sem, hc1]) rfl
        ⟨by rw [HR.out], (((hB.out.trans (hbb.mono (by simp))).setCell (by simp) _).setCell (by simp) _).setCell (by simp) _⟩
    · have h9' : (op == 9) = false := by simpa using h9
      have HR : Hid ((textsR op s).val = .tuple #[.agg #[.int .i8 2, .int .i64 0, .string (backB s)], .bool true]) := by show _ = _; unfold textsR; rw [if_neg h8, if_neg h9]; rfl
      go_enter Tryd.func31, Tryd.ntmps31
      go_wp2_with fail
      refine (backwards_any s (by omega) _).mono ?_
      rintro e w0 ⟨rfl, hb0⟩
      have HB0 := Lib.hid hb0
      clear hb0
      generalize backB s = bs at HR ⊢
      go_wp2_with fail
      refine (text_any _ _).mono ?_
      rintro e w1 ⟨rfl, hb1⟩
      have hbb := HB0.out.trans (hb1.mono HB0.out.size)
      obtain ⟨hc1, hf1⟩ := bcell hbb
      go_wp2
      exact bodyPost_ret (v := .tuple #[.agg #[.int .i8 2, .int .i64 0, .string bs], .bool true]) (by simp [results, Tryd.results31, go_sem, hc1]) rfl
        ⟨by rw [HR.out], (((hB.out.trans (hbb.mono (by simp))).setCell (by simp) _).setCell (by simp) _).setCell (by simp) _⟩
set_option maxHeartbeats 800000 in
theorem join_any (a b : ByteArray) (ha : a.size ≤ 200) (hb : b.size ≤ 200) (w : World) : Calls Tryd.prog 32 #[.string a, .string b] w fun e w' => e = .returned (joinR a b).val ∧ Below w.heap.size w w' := by
  have hB := Lib.hid ((Below.refl w.heap.size w).alloc (Nat.le_refl _) (.cells #[.int .i8 0, .int .i64 0, .string ⟨#[]⟩] 26))
  by_cases h : 200 < a.size + b.size
  · have HR : Hid ((joinR a b).val = .tuple #[.agg #[.int .i8 0, .int .i64 0, .string ⟨#[]⟩], .bool false]) := by show _ = _; unfold joinR; rw [if_pos h]; rfl
    have h' : (200 : Int) < (a.size : Int) + (b.size : Int) := by omega
    go_enter Tryd.func32, Tryd.ntmps32
    go_wp2
    exact bodyPost_ret (v := .tuple #[.agg #[.int .i8 0, .int .i64 0, .string ⟨#[]⟩], .bool false]) (by simp [results, Tryd.results32, go_sem]) rfl
      ⟨by rw [HR.out], hB.out⟩
  · have HR : Hid ((joinR a b).val = .tuple #[.agg #[.int .i8 2, .int .i64 0, .string (a ++ b)], .bool true]) := by show _ = _; unfold joinR; rw [if_neg h]; rfl
    have h' : ¬ (200 : Int) < (a.size : Int) + (b.size : Int) := by omega
    have h'' : ¬ 9223372036854775807 < a.size + b.size := by omega
    go_enter Tryd.func32, Tryd.ntmps32
    go_wp2_with fail
    refine (text_any _ _).mono ?_
    rintro e w1 ⟨rfl, hb1⟩
    obtain ⟨hc1, hf1⟩ := bcell hb1
    go_wp2
    exact bodyPost_ret (v := .tuple #[.agg #[.int .i8 2, .int .i64 0, .string (a ++ b)], .bool true]) (by simp [results, Tryd.results32, go_sem, hc1]) rfl
      ⟨by rw [HR.out], (((hB.out.trans (hb1.mono (by simp))).setCell (by simp) _).setCell (by simp) _).setCell (by simp) _⟩
theorem ofNumbers_any (op a b : Int) (ho : 2 ≤ op ∧ op ≤ 6) (w : World) : Calls Tryd.prog 30 #[.int .i8 op, .int .i64 a, .int .i64 b] w fun e w' => e = .returned (numsR op a b).val ∧ Below w.heap.size w w' := by
  obtain rfl | rfl | rfl | rfl | rfl : op = 2 ∨ op = 3 ∨ op = 4 ∨ op = 5 ∨ op = 6 := by omega
  · exact ofNumbers_add a b w
  · exact ofNumbers_sub a b w
  · exact ofNumbers_mul a b w
  · by_cases hb : b = 0
    · subst hb
      exact ofNumbers_div0 a w
    · have e : (numsR 5 a b) = numRes (wrap64 (a.tdiv b)) := by unfold numsR; simp [hb]
      rw [e]
      exact ofNumbers_div a b w hb
  · by_cases hb : b = 0
    · subst hb
      exact ofNumbers_mod0 a w
    · have e : (numsR 6 a b) = numRes (a.tmod b) := by unfold numsR; simp [hb]
      rw [e]
      exact ofNumbers_mod a b w hb
set_option maxHeartbeats 800000 in
theorem areValues_nil (a : Option Addr) (cap : Nat) (count kind : Int) (K N : Nat → Int) (S : Nat → ByteArray) (w : World) :
    Calls Tryd.prog 28 #[.slice a 0 cap, .int .i64 count, .int .i8 kind] w fun e w' => e = .returned (.bool (areB count kind K N S 0)) ∧ Below w.heap.size w w' := by
  go_enter Tryd.func28, Tryd.ntmps28
  go_wp2
  go_loopw [8, 11] (fun _ i wr => i = .int .i64 0 ∧ Below w.heap.size w wr) (fun _ _ _ => 0)
  case atStart => exact ⟨rfl, Below.refl _ _⟩
  case round =>
    obtain ⟨rfl, bel⟩ := hrel
    go_wp2
    go_ret
    exact ⟨ret_bool (by unfold areB allOf; rfl), bel⟩
theorem areValues_lst (v : Value) (n : Nat) (count kind : Int) (K N : Nat → Int) (S : Nat → ByteArray) (w : World) (hl : Lst w v n K N S) :
    Calls Tryd.prog 28 #[v, .int .i64 count, .int .i8 kind] w fun e w' => e = .returned (.bool (areB count kind K N S n)) ∧ Below w.heap.size w w' := by
  obtain ⟨hn, ⟨a, cap, rfl, rfl⟩ | ⟨g, off, cap, rfl, h1, h2, hc⟩⟩ := hl
  · exact areValues_nil a cap count kind K N S w
  · by_cases h0 : n = 0
    · subst h0
      exact areValues_nil _ cap count kind K N S w
    · exact areValues_any K N S g off n cap count kind w ⟨hc.lt (by omega), hc.kind, hc.num, hc.text, hc.size⟩ hn
theorem areB_spec {count : Nat} {kind : Int} {K N : Nat → Int} {S : Nat → ByteArray} {n : Nat} (h : areB count kind K N S n = true) : n = count ∧ ∀ i, i < n → K i = kind ∧ chk (K i) (N i) (S i) = 0 := by
  unfold areB at h
  simp only [Bool.and_eq_true, beq_iff_eq] at h
  refine ⟨by omega, ?_⟩
  have : ∀ m, allOf kind K N S m = true → ∀ i, i < m → K i = kind ∧ chk (K i) (N i) (S i) = 0 := by
    intro m
    induction m with
    | zero => intro _ i hi; omega
    | succ m ih =>
      intro hm i hi
      simp only [allOf, Bool.and_eq_true, beq_iff_eq] at hm
      by_cases e : i = m
      · subst e; exact hm.2
      · exact ih hm.1 i (by omega)
  exact this n h.1
theorem chk_text {n : Int} {s : ByteArray} (h : chk 2 n s = 0) : s.size ≤ 200 := by
  unfold chk at h
  split at h
  · rename_i hh
    rcases hh with ⟨h1, _⟩ | ⟨_, _, h1⟩
    · omega
    · omega
  · omega
end Go.Proofs.YtkgoceomkkohmaaDoor.AR
