import Derived.Test.YtoppgalbmijhdaaGreatDoorVal
import Derived.Test.YtoppgalbmijhdaaGreatDoorOrder
import Derived.Deep.OwnRows
import Derived.Deep.QuietTactic
import Derived.BigQuiet
namespace Go.Proofs.YtoppgalbmijhdaaGreatDoor.AR
open Go.RowKit
set_option linter.unusedVariables false
attribute [local go_sem ↓] Go.wp_at_zero Go.wp_at_succ

/-- n values in memory, from a place on: element i has the kind K i, the number N i, the text S i -/
structure Cells (w : World) (g off n : Nat) (K N : Nat → Int) (S : Nat → ByteArray) : Prop where
  lt : 0 < n → g < w.heap.size
  kind : ∀ i, i < n → w.cell? ⟨g, off + i * 3, none⟩ = some (.int .i8 (K i))
  num : ∀ i, i < n → w.cell? ⟨g, off + i * 3 + 1, none⟩ = some (.int .i64 (N i))
  text : ∀ i, i < n → w.cell? ⟨g, off + i * 3 + 2, none⟩ = some (.string (S i))
  size : ∀ i, i < n → (S i).size ≤ maxLen

theorem Cells.below {w w' : World} {g off n : Nat} {K N : Nat → Int} {S : Nat → ByteArray} (v : Cells w g off n K N S) (h : Below w.heap.size w w') : Cells w' g off n K N S :=
  ⟨fun hn => Nat.lt_of_lt_of_le (v.lt hn) h.size, fun i hi => by rw [h.cell (p := ⟨g, _, none⟩) (v.lt (by omega))]; exact v.kind i hi, fun i hi => by rw [h.cell (p := ⟨g, _, none⟩) (v.lt (by omega))]; exact v.num i hi, fun i hi => by rw [h.cell (p := ⟨g, _, none⟩) (v.lt (by omega))]; exact v.text i hi, v.size⟩

theorem Cells.take {w : World} {g off n m : Nat} {K N : Nat → Int} {S : Nat → ByteArray} (v : Cells w g off n K N S) (h : m ≤ n) : Cells w g off m K N S :=
  ⟨fun hm => v.lt (by omega), fun i hi => v.kind i (by omega), fun i hi => v.num i (by omega), fun i hi => v.text i (by omega), fun i hi => v.size i (by omega)⟩

/-- a list of n values: nil, or a slice over their cells -/
def Lst (w : World) (v : Value) (n : Nat) (K N : Nat → Int) (S : Nat → ByteArray) : Prop :=
  n ≤ maxLen ∧ ((∃ a cap, v = .slice a 0 cap ∧ n = 0) ∨ ∃ g off cap, v = .slice (some ⟨g, off, none⟩) n cap ∧ n ≤ cap ∧ cap ≤ maxLen ∧ Cells w g off n K N S)

theorem Lst.below {w w' : World} {v : Value} {n : Nat} {K N : Nat → Int} {S : Nat → ByteArray} (l : Lst w v n K N S) (h : Below w.heap.size w w') : Lst w' v n K N S := by
  obtain ⟨hn, l | ⟨g, off, cap, hv, hl, hc, c⟩⟩ := l
  · exact ⟨hn, .inl l⟩
  · exact ⟨hn, .inr ⟨g, off, cap, hv, hl, hc, c.below h⟩⟩

/-- are the first n elements alike? -/
def sameTo (K N : Nat → Int) (S : Nat → ByteArray) (K' N' : Nat → Int) (S' : Nat → ByteArray) : Nat → Bool
  | 0 => true
  | k + 1 => sameTo K N S K' N' S' k && (cmpV (K k) (N k) (S k) (K' k) (N' k) (S' k) == 0)
def sameB (n m : Nat) (K N : Nat → Int) (S : Nat → ByteArray) (K' N' : Nat → Int) (S' : Nat → ByteArray) : Bool := (n == m) && sameTo K N S K' N' S' n

theorem sameTo_not {K N : Nat → Int} {S : Nat → ByteArray} {K' N' : Nat → Int} {S' : Nat → ByteArray} {k : Nat} (h : ¬ cmpV (K k) (N k) (S k) (K' k) (N' k) (S' k) = 0) : ∀ {n : Nat}, k < n → sameTo K N S K' N' S' n = false
  | 0, hk => by omega
  | n + 1, hk => by
    by_cases e : k = n
    · subst e; simp [sameTo, h]
    · simp [sameTo, sameTo_not h (n := n) (by omega)]
theorem sameTo_self {K N : Nat → Int} {S : Nat → ByteArray} : ∀ n, sameTo K N S K N S n = true
  | 0 => rfl
  | n + 1 => by simp [sameTo, sameTo_self n, cmpV_s0 _ _ rfl]

theorem run_neq_value (k1 n1 : Int) (s1 : ByteArray) (k2 n2 : Int) (s2 : ByteArray) (w : World) :
    (binOp .neq 55 (.agg #[.int .i8 k1, .int .i64 n1, .string s1]) (.agg #[.int .i8 k2, .int .i64 n2, .string s2])).run Tryz.prog w = .ok (.bool (!(cmpV k1 n1 s1 k2 n2 s2 == 0))) w := by
  by_cases hk : k1 = k2
  · by_cases hn : n1 = n2
    · by_cases hs : s1.toList = s2.toList
      · subst hk hn
        rw [cmpV_s0 _ _ hs]
        go_simp
      · have : ¬ cmpV k1 n1 s1 k2 n2 s2 = 0 := fun h => hs (cmpV_zero h).2.2
        have e : (cmpV k1 n1 s1 k2 n2 s2 == 0) = false := by simpa using this
        rw [e]
        go_simp
    · have : ¬ cmpV k1 n1 s1 k2 n2 s2 = 0 := fun h => hn (cmpV_zero h).2.1
      have e : (cmpV k1 n1 s1 k2 n2 s2 == 0) = false := by simpa using this
      rw [e]
      go_simp
  · have : ¬ cmpV k1 n1 s1 k2 n2 s2 = 0 := fun h => hk (cmpV_zero h).1
    have e : (cmpV k1 n1 s1 k2 n2 s2 == 0) = false := by simpa using this
    rw [e]
    go_simp

theorem sameValues_diff (a b : Option Addr) (n m c d : Nat) (w : World) (hn : n ≤ maxLen) (hm : m ≤ maxLen) (h : ¬ n = m) :
    Calls Tryz.prog 40 #[.slice a n c, .slice b m d] w fun e w' => e = .returned (.bool false) ∧ Below w.heap.size w w' := by
  unfold maxLen at hn hm
  have hne : ((n : Int) != (m : Int)) = true := by simp; omega
  go_enter Tryz.func40, Tryz.ntmps40
  go_wp2
  go_ret
  exact ⟨rfl, Below.refl _ _⟩

theorem sameValues_zero (a b : Option Addr) (c d : Nat) (w : World) :
    Calls Tryz.prog 40 #[.slice a 0 c, .slice b 0 d] w fun e w' => e = .returned (.bool true) ∧ Below w.heap.size w w' := by
  go_enter Tryz.func40, Tryz.ntmps40
  go_wp2
  go_loop [5] (fun i => i = .int .i64 0) (fun _ => 0)
  case atStart => rfl
  case round =>
    subst hrel
    go_wp2
    go_ret
    exact ⟨rfl, Below.refl _ _⟩

set_option maxHeartbeats 1600000 in
theorem sameValues_cells (g off c g' off' c' n : Nat) (K N : Nat → Int) (S : Nat → ByteArray) (K' N' : Nat → Int) (S' : Nat → ByteArray) (w : World) (hn : n ≤ maxLen) (hc : Cells w g off n K N S) (hc' : Cells w g' off' n K' N' S') :
    Calls Tryz.prog 40 #[.slice (some ⟨g, off, none⟩) n c, .slice (some ⟨g', off', none⟩) n c'] w fun e w' => e = .returned (.bool (sameTo K N S K' N' S' n)) ∧ Below w.heap.size w w' := by
  unfold maxLen at hn
  go_enter Tryz.func40, Tryz.ntmps40
  go_wp2
  go_loopw [5] (fun i wr => ∃ k : Nat, k ≤ n ∧ i = .int .i64 k ∧ Hid (sameTo K N S K' N' S' k = true) ∧ Below w.heap.size w wr) (fun i _ => n - (intOf i).toNat)
  case atStart => exact ⟨0, Nat.zero_le _, rfl, rfl, Below.refl _ _⟩
  case round =>
    obtain ⟨k, hk, rfl, HS, bel⟩ := hrel
    by_cases hlt : k < n
    · have v := hc.below bel
      have v' := hc'.below bel
      have x0 := v.kind k hlt
      have x1 := v.num k hlt
      have x2 := v.text k hlt
      have y0 := v'.kind k hlt
      have y1 := v'.num k hlt
      have y2 := v'.text k hlt
      have hlt' : (k : Int) < (n : Int) := by omega
      have hge : (0 : Int) ≤ (k : Int) := by omega
      have hE := run_neq_value (K k) (N k) (S k) (K' k) (N' k) (S' k)
      have HC : Hid (∀ z, cmpV (K k) (N k) (S k) (K' k) (N' k) (S' k) = z → sameTo K N S K' N' S' (k + 1) = (z == 0)) := by
        intro z hz
        simp only [sameTo, HS.out, Bool.true_and, hz]
      have HN : Hid (¬ cmpV (K k) (N k) (S k) (K' k) (N' k) (S' k) = 0 → sameTo K N S K' N' S' n = false) := fun h => sameTo_not h hlt
      clear hc hc' v v'
      generalize cmpV (K k) (N k) (S k) (K' k) (N' k) (S' k) = z at hE HC HN
      by_cases hz : z = 0
      · subst hz
        go_wp2_with fail
        go_quiet (fail)
        go_wp2
        go_roundw
        case rel => exact ⟨k + 1, by omega, by go_num, by have := HC.out 0 rfl; show sameTo K N S K' N' S' (k + 1) = true; simpa using this, bel.trans ⟨rfl, rfl, rfl, Nat.le_refl _, fun _ _ => rfl⟩⟩
        case measure => simp [intOf]; omega
      · have hz' : (z == 0) = false := by simpa using hz
        have HF := HN.out hz
        have HF' : Hid (sameTo K N S K' N' S' n = false) := HF
        clear HF hz
        go_wp2_with fail
        go_quiet (fail)
        go_wp2
        go_ret
        exact ⟨ret_bool HF'.out.symm, bel.trans ⟨rfl, rfl, rfl, Nat.le_refl _, fun _ _ => rfl⟩⟩
    · obtain rfl : k = n := by omega
      go_wp2
      go_ret
      exact ⟨ret_bool HS.out.symm, bel⟩

theorem sameValues_any (v v' : Value) (n m : Nat) (K N : Nat → Int) (S : Nat → ByteArray) (K' N' : Nat → Int) (S' : Nat → ByteArray) (w : World) (hl : Lst w v n K N S) (hl' : Lst w v' m K' N' S') :
    Calls Tryz.prog 40 #[v, v'] w fun e w' => e = .returned (.bool (sameB n m K N S K' N' S')) ∧ Below w.heap.size w w' := by
  obtain ⟨hn, ⟨a0, d0, rfl, rfl⟩ | ⟨g, off, cap, rfl, hc, hx, c⟩⟩ := hl <;> obtain ⟨hm, ⟨a1, d1, rfl, rfl⟩ | ⟨g', off', cap', rfl, hc', hx', c'⟩⟩ := hl'
  · exact sameValues_zero _ _ _ _ w
  · by_cases e : m = 0
    · subst e; exact sameValues_zero _ _ _ _ w
    · have := sameValues_diff a0 (some ⟨g', off', none⟩) 0 m d0 cap' w hn hm (by omega)
      refine this.mono fun e w' ⟨he, hb⟩ => ⟨?_, hb⟩
      rw [he]; exact ret_bool (by simp [sameB]; omega)
  · by_cases e : n = 0
    · subst e; exact sameValues_zero _ _ _ _ w
    · have := sameValues_diff (some ⟨g, off, none⟩) a1 n 0 cap d1 w hn hm (by omega)
      refine this.mono fun e w' ⟨he, hb⟩ => ⟨?_, hb⟩
      rw [he]; exact ret_bool (by simp [sameB]; omega)
  · by_cases e : n = m
    · subst e
      refine (sameValues_cells g off cap g' off' cap' n K N S K' N' S' w hn c c').mono fun e w' ⟨he, hb⟩ => ⟨?_, hb⟩
      rw [he]; exact ret_bool (by simp [sameB])
    · refine (sameValues_diff _ _ n m _ _ w hn hm e).mono fun _ w' ⟨he, hb⟩ => ⟨?_, hb⟩
      rw [he]; exact ret_bool (by simp [sameB, e])

theorem markValue_any (n : Int) (w : World) :
    Calls Tryz.prog 33 #[.int .i64 n] w fun e w' => e = .returned (.agg #[.int .i8 99, .int .i64 n, .string ⟨#[]⟩]) ∧ Below w.heap.size w w' := by
  go_enter Tryz.func33, Tryz.ntmps33
  go_wp2
  exact bodyPost_ret (v := .agg #[.int .i8 99, .int .i64 n, .string ⟨#[]⟩]) (by simp [results, Tryz.results33, go_sem]) rfl ⟨rfl, (Below.refl _ _).alloc (Nat.le_refl _) _⟩

theorem isValue_mark (n : Int) (w : World) :
    Calls Tryz.prog 41 #[.agg #[.int .i8 99, .int .i64 n, .string ⟨#[]⟩], .int .i64 n] w fun e w' => e = .returned (.bool true) ∧ Below w.heap.size w w' := by
  go_enter Tryz.func41, Tryz.ntmps41
  go_wp2
  go_ret
  exact ⟨rfl, (Below.refl _ _).alloc (Nat.le_refl _) _⟩

/-- a list with a mark behind it -/
def markK (n : Nat) (K : Nat → Int) : Nat → Int := fun i => if i = n then 99 else K i
def markN (n : Nat) (N : Nat → Int) : Nat → Int := fun i => if i = n then 777777 else N i
def markS (n : Nat) (S : Nat → ByteArray) : Nat → ByteArray := fun i => if i = n then ⟨#[]⟩ else S i

def comp (j : Nat) (k n : Int) (s : ByteArray) : Value := if j = 0 then .int .i8 k else if j = 1 then .int .i64 n else .string s
/-- what a row of values holds whose first k are written -/
def rowF (K N : Nat → Int) (S : Nat → ByteArray) (k : Nat) : Nat → Value := fun j => if j / 3 < k then comp (j % 3) (K (j / 3)) (N (j / 3)) (S (j / 3)) else comp (j % 3) 0 0 ⟨#[]⟩

theorem rowF_step (K N : Nat → Int) (S : Nat → ByteArray) (k j : Nat) :
    (if j = k * 3 + 2 then Value.string (S k) else if j = k * 3 + 1 then .int .i64 (N k) else if j = k * 3 then .int .i8 (K k) else rowF K N S k j) = rowF K N S (k + 1) j := by
  by_cases e : j / 3 = k
  · have h1 : j / 3 < k + 1 := by omega
    have h2 : ¬ j / 3 < k := by omega
    have h3 : j = k * 3 ∨ j = k * 3 + 1 ∨ j = k * 3 + 2 := by omega
    unfold rowF
    rw [if_pos h1, e]
    rcases h3 with rfl | rfl | rfl
    · simp [comp]
    · simp [comp, show (k * 3 + 1) % 3 = 1 by omega]
    · simp [comp, show (k * 3 + 2) % 3 = 2 by omega]
  · have n0 : ¬ j = k * 3 := by omega
    have n1 : ¬ j = k * 3 + 1 := by omega
    have n2 : ¬ j = k * 3 + 2 := by omega
    unfold rowF
    rw [if_neg n2, if_neg n1, if_neg n0]
    by_cases h : j / 3 < k
    · rw [if_pos h, if_pos (by omega)]
    · rw [if_neg h, if_neg (by omega)]

theorem rowF_mark (K N : Nat → Int) (S : Nat → ByteArray) (k j : Nat) :
    (if j = k * 3 + 2 then Value.string ⟨#[]⟩ else if j = k * 3 + 1 then .int .i64 777777 else if j = k * 3 then .int .i8 99 else rowF K N S k j) = rowF (markK k K) (markN k N) (markS k S) (k + 1) j := by
  have h := rowF_step (markK k K) (markN k N) (markS k S) k j
  have e : rowF (markK k K) (markN k N) (markS k S) k j = rowF K N S k j := by
    unfold rowF
    by_cases c : j / 3 < k
    · have n : ¬ j / 3 = k := by omega
      rw [if_pos c, if_pos c]
      simp [markK, markN, markS, n]
    · rw [if_neg c, if_neg c]
  rw [e] at h
  rw [← h]
  simp [markK, markN, markS]

theorem row_cells {w : World} {b : Nat} {t : TypeId} {n : Nat} {K N : Nat → Int} {S : Nat → ByteArray} (h : w.rowIs b t (n * 3) (rowF K N S n)) (hs : ∀ i, i < n → (S i).size ≤ maxLen) : Cells w b 0 n K N S := by
  refine ⟨fun _ => h.lt, fun i hi => ?_, fun i hi => ?_, fun i hi => ?_, hs⟩
  · rw [show 0 + i * 3 = i * 3 by omega, h.cell (by omega)]
    simp [rowF, comp, hi]
  · rw [show 0 + i * 3 + 1 = i * 3 + 1 by omega, h.cell (by omega)]
    simp [rowF, comp, show (i * 3 + 1) / 3 = i by omega, show (i * 3 + 1) % 3 = 1 by omega, hi]
  · rw [show 0 + i * 3 + 2 = i * 3 + 2 by omega, h.cell (by omega)]
    simp [rowF, comp, show (i * 3 + 2) / 3 = i by omega, show (i * 3 + 2) % 3 = 2 by omega, hi]

theorem made_row (w : World) (n : Nat) (K N : Nat → Int) (S : Nat → ByteArray) : (w.alloc (.cells (madeCells #[.int .i8 0, .int .i64 0, .string ⟨#[]⟩] (n * 3)) 55)).rowIs w.heap.size 55 (n * 3) (rowF K N S 0) := by
  have h := World.rowIs_alloc w (madeCells #[.int .i8 0, .int .i64 0, .string ⟨#[]⟩] (n * 3)) 55 (rowF K N S 0) (fun i hi => by
    rw [size_madeCells] at hi
    obtain h | h | h : i % 3 = 0 ∨ i % 3 = 1 ∨ i % 3 = 2 := by omega
    all_goals simp [madeCells, hi, rowF, comp, h])
  rwa [size_madeCells] at h

theorem infoV : (Tryz.prog.info? 55).map (fun i => (i.zero, i.size, i.bytes)) = some (some (.agg #[.int .i8 0, .int .i64 0, .string ⟨#[]⟩]), 3, 32) := by kernel_rfl

theorem run_make_values (n : Nat) (hn : n ≤ 1048576) (w : World) :
    (Instr.makeSlice 29 (.int .i64 ((n : Int) + 1)) (.int .i64 ((n : Int) + 1))).run Tryz.prog w = .ok (.slice (some ⟨w.heap.size, 0, none⟩) (n + 1) (n + 1)) (w.alloc (.cells (madeCells #[.int .i8 0, .int .i64 0, .string ⟨#[]⟩] ((n + 1) * 3)) 55)) := by
  have h := infoV
  obtain ⟨i, hi, he⟩ := Option.map_eq_some_iff.1 h
  simp only [Prod.mk.injEq] at he
  obtain ⟨h1, h2, h3⟩ := he
  have := run_make (P := Tryz.prog) w 29 55 i _ Tryz.underlying29 hi h1 .i64 .i64 ((n : Int) + 1) ((n : Int) + 1) (by omega) (Int.le_refl _) (by rw [h3]; omega) (by omega)
  rw [this, h2, show ((n : Int) + 1).toNat = n + 1 by omega]
  rfl

set_option maxHeartbeats 1600000 in
theorem twinValues_cells (g off c n : Nat) (K N : Nat → Int) (S : Nat → ByteArray) (w : World) (hn : n ≤ 1048576) (hc : Cells w g off n K N S) :
    Calls Tryz.prog 22 #[.slice (some ⟨g, off, none⟩) n c] w fun e w' => e = .returned (.slice (some ⟨w.heap.size, 0, none⟩) n (n + 1)) ∧ Below w.heap.size w w' ∧ Cells w' w.heap.size 0 (n + 1) (markK n K) (markN n N) (markS n S) := by
  have hmk := run_make_values n hn
  go_enter Tryz.func22, Tryz.ntmps22
  go_wp2
  go_loopw [4] (fun i wr => ∃ k : Nat, k ≤ n ∧ i = .int .i64 k ∧ Below w.heap.size w wr ∧ wr.rowIs w.heap.size 55 ((n + 1) * 3) (rowF K N S k)) (fun i _ => n - (intOf i).toNat)
  case atStart => exact ⟨0, Nat.zero_le _, rfl, (Below.refl _ _).alloc (Nat.le_refl _) _, made_row w (n + 1) K N S⟩
  case round =>
    obtain ⟨k, hk, rfl, bel, hrow⟩ := hrel
    by_cases hlt : k < n
    · have v := hc.below bel
      have x0 := v.kind k hlt
      have x1 := v.num k hlt
      have x2 := v.text k hlt
      have z0 := hrow.cell (i := k * 3) (by omega)
      have z1 := hrow.cell (i := k * 3 + 1) (by omega)
      have z2 := hrow.cell (i := k * 3 + 2) (by omega)
      have f := hrow.frozen
      have hg := hc.lt (by omega)
      clear v hmk
      generalize rowF K N S k (k * 3) = q0 at z0
      generalize rowF K N S k (k * 3 + 1) = q1 at z1
      generalize rowF K N S k (k * 3 + 2) = q2 at z2
      go_wp2
      go_roundw
      case rel => exact ⟨k + 1, by omega, by go_num, ((bel.setCell (by simp) _).setCell (by simp) _).setCell (by simp) _, (((hrow.set (k * 3) _).set (k * 3 + 1) _).set (k * 3 + 2) _).congr fun j _ => rowF_step K N S k j⟩
      case measure => simp [intOf]; omega
    · obtain rfl : k = n := by omega
      go_wp2_with fail
      refine (markValue_any _ _).mono ?_
      rintro e w1 ⟨rfl, hb1⟩
      have bel1 : Below w.heap.size w w1 := bel.trans (hb1.mono bel.size)
      have hrow1 : w1.rowIs w.heap.size 55 ((k + 1) * 3) (rowF K N S k) := hrow.of_block (hb1.block _ hrow.lt)
      have z0 := hrow1.cell (i := k * 3) (by omega)
      have z1 := hrow1.cell (i := k * 3 + 1) (by omega)
      have z2 := hrow1.cell (i := k * 3 + 2) (by omega)
      have f := hrow1.frozen
      have hfin := ((((hrow1.set (k * 3) (.int .i8 99)).set (k * 3 + 1) (.int .i64 777777)).set (k * 3 + 2) (.string ⟨#[]⟩)).congr fun j _ => rowF_mark K N S k j)
      have hcells := row_cells hfin (fun i hi => by unfold markS; split; · decide
                                                    · exact hc.size i (by omega))
      clear hrow hrow1 hmk hfin bel hb1
      generalize rowF K N S k (k * 3) = q0 at z0
      generalize rowF K N S k (k * 3 + 1) = q1 at z1
      generalize rowF K N S k (k * 3 + 2) = q2 at z2
      have hk1 : (k : Int) < (k : Int) + 1 := by omega
      go_wp2
      go_ret
      exact ⟨rfl, ((bel1.setCell (by simp) _).setCell (by simp) _).setCell (by simp) _, hcells⟩

theorem twinValues_nil (a : Option Addr) (c : Nat) (w : World) (K N : Nat → Int) (S : Nat → ByteArray) :
    Calls Tryz.prog 22 #[.slice a 0 c] w fun e w' => e = .returned (.slice (some ⟨w.heap.size, 0, none⟩) 0 1) ∧ Below w.heap.size w w' ∧ Cells w' w.heap.size 0 1 (markK 0 K) (markN 0 N) (markS 0 S) := by
  have hmk : ∀ w, (Instr.makeSlice 29 (.int .i64 1) (.int .i64 1)).run Tryz.prog w = .ok (.slice (some ⟨w.heap.size, 0, none⟩) 1 1) (w.alloc (.cells (madeCells #[.int .i8 0, .int .i64 0, .string ⟨#[]⟩] 3) 55)) := run_make_values 0 (by omega)
  go_enter Tryz.func22, Tryz.ntmps22
  go_wp2
  go_loopw [4] (fun i wr => i = .int .i64 0 ∧ Below w.heap.size w wr ∧ wr.rowIs w.heap.size 55 3 (rowF K N S 0)) (fun _ _ => 0)
  case atStart => exact ⟨rfl, (Below.refl _ _).alloc (Nat.le_refl _) _, made_row w 1 K N S⟩
  case round =>
    obtain ⟨rfl, bel, hrow⟩ := hrel
    go_wp2_with fail
    refine (markValue_any _ _).mono ?_
    rintro e w1 ⟨rfl, hb1⟩
    have bel1 : Below w.heap.size w w1 := bel.trans (hb1.mono bel.size)
    have hrow1 : w1.rowIs w.heap.size 55 3 (rowF K N S 0) := hrow.of_block (hb1.block _ hrow.lt)
    have z0 := hrow1.cell (i := 0) (by omega)
    have z1 := hrow1.cell (i := 1) (by omega)
    have z2 := hrow1.cell (i := 2) (by omega)
    have f := hrow1.frozen
    have hfin := ((((hrow1.set 0 (.int .i8 99)).set 1 (.int .i64 777777)).set 2 (.string ⟨#[]⟩)).congr fun j _ => rowF_mark K N S 0 j)
    have hcells := row_cells (n := 1) hfin (fun i hi => by unfold markS; rw [if_pos (by omega)]; decide)
    clear hrow hrow1 hmk hfin bel hb1
    generalize rowF K N S 0 0 = q0 at z0
    generalize rowF K N S 0 1 = q1 at z1
    generalize rowF K N S 0 2 = q2 at z2
    go_wp2
    go_ret
    exact ⟨rfl, ((bel1.setCell (by simp) _).setCell (by simp) _).setCell (by simp) _, hcells⟩

theorem twinValues_any (v : Value) (n : Nat) (K N : Nat → Int) (S : Nat → ByteArray) (w : World) (hn : n ≤ 1048576) (hl : Lst w v n K N S) :
    Calls Tryz.prog 22 #[v] w fun e w' => e = .returned (.slice (some ⟨w.heap.size, 0, none⟩) n (n + 1)) ∧ Below w.heap.size w w' ∧ Cells w' w.heap.size 0 (n + 1) (markK n K) (markN n N) (markS n S) := by
  obtain ⟨_, ⟨a, d, rfl, rfl⟩ | ⟨g, off, cap, rfl, _, _, c⟩⟩ := hl
  · exact twinValues_nil a d w K N S
  · exact twinValues_cells g off cap n K N S w hn c

end Go.Proofs.YtoppgalbmijhdaaGreatDoor.AR
