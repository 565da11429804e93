import Derived.Test.YtgfnijhhhgjabaaGreatDoorG1
import Derived.Defers
import Derived.Recover
import Derived.RegionTactic
import Derived.Laws.Pointers
import Derived.Deep.OwnRows
import Derived.Deep.QuietTactic
import Derived.BigQuiet
import Derived.Lib.Hide
section
namespace Go.Proofs.YtgfnijhhhgjabaaGreatDoor.AR
open Go.RowKit
set_option linter.unusedVariables false
attribute [local go_sem ↓] Go.wp_at_zero Go.wp_at_succ

/-- how an operation takes its values, by its number -/
def tkOf (op : Int) : Int := if op = 1 then 1 else if 2 ≤ op ∧ op ≤ 6 then 2 else if op = 7 then 4 else if 8 ≤ op ∧ op ≤ 10 then 3 else 0

/-- the table of the package lies in block 0 -/
structure Tab (w : World) : Prop where
  pos : 2 < w.heap.size
  cell : ∀ i : Nat, i < 11 → w.cell? ⟨2, i, none⟩ = some (.int .i8 (tkOf i))

theorem Tab.below {w w' : World} (t : Tab w) (h : Below w.heap.size w w') : Tab w' :=
  ⟨Nat.lt_of_lt_of_le t.pos h.size, fun i hi => by rw [h.cell (p := ⟨2, i, none⟩) t.pos]; exact t.cell i hi⟩

def numV (n : Int) : Value := .agg #[.int .i8 1, .int .i64 n, .string ⟨#[]⟩]
def textV (s : ByteArray) : Value := .agg #[.int .i8 2, .int .i64 0, .string s]

theorem number_any (n : Int) (w : World) :
    Calls Tryz.prog 102 #[.int .i64 n] w fun e w' => e = .returned (.agg #[.int .i8 1, .int .i64 n, .string ⟨#[]⟩]) ∧ Below w.heap.size w w' := by
  go_enter Tryz.func102, Tryz.ntmps102
  go_wp2
  exact bodyPost_ret (v := .agg #[.int .i8 1, .int .i64 n, .string ⟨#[]⟩]) (by simp [results, Tryz.results102, go_sem]) rfl ⟨rfl, (Below.refl _ _).alloc (Nat.le_refl _) _⟩

theorem text_any (s : ByteArray) (w : World) :
    Calls Tryz.prog 119 #[.string s] w fun e w' => e = .returned (.agg #[.int .i8 2, .int .i64 0, .string s]) ∧ Below w.heap.size w w' := by
  go_enter Tryz.func119, Tryz.ntmps119
  go_wp2
  exact bodyPost_ret (v := .agg #[.int .i8 2, .int .i64 0, .string s]) (by simp [results, Tryz.results119, go_sem]) rfl ⟨rfl, (Below.refl _ _).alloc (Nat.le_refl _) _⟩

set_option maxHeartbeats 400000 in
theorem takingOf_any (op : Int) (w : World) (ht : Tab w) (hb : -128 ≤ op ∧ op ≤ 127) :
    Calls Tryz.prog 100 #[.int .i8 op] w fun e w' => e = .returned (.int .i8 (tkOf op)) ∧ w' = w := by
  by_cases h0 : op < 0
  · have HT : Hid (tkOf op = 0) := by unfold tkOf; simp only [Hid]; split <;> first | omega | (split <;> first | omega | (split <;> first | omega | (split <;> omega)))
    go_enter Tryz.func100, Tryz.ntmps100
    go_wp2
    all_goals
      go_ret
      exact ⟨ret_int HT.out.symm, rfl⟩
  · by_cases h1 : 11 ≤ op
    · have HT : Hid (tkOf op = 0) := by unfold tkOf; simp only [Hid]; split <;> first | omega | (split <;> first | omega | (split <;> first | omega | (split <;> omega)))
      go_enter Tryz.func100, Tryz.ntmps100
      go_wp2
      all_goals
        go_ret
        exact ⟨ret_int HT.out.symm, rfl⟩
    · obtain ⟨k, rfl⟩ : ∃ k : Nat, op = k := ⟨op.toNat, by omega⟩
      have hc := ht.cell k (by omega)
      clear ht
      generalize tkOf (k : Int) = t at hc
      go_enter Tryz.func100, Tryz.ntmps100
      go_wp2
      go_ret
      exact ⟨rfl, rfl⟩

/-- the values of a list that lies in memory: element i has the kind K i, the number N i, the text S i -/
structure Vals (w : World) (g off len : Nat) (K N : Nat → Int) (S : Nat → ByteArray) : Prop where
  lt : g < w.heap.size
  kind : ∀ i, i < len → w.cell? ⟨g, off + i * 3, none⟩ = some (.int .i8 (K i))
  num : ∀ i, i < len → w.cell? ⟨g, off + i * 3 + 1, none⟩ = some (.int .i64 (N i))
  text : ∀ i, i < len → w.cell? ⟨g, off + i * 3 + 2, none⟩ = some (.string (S i))
  size : ∀ i, i < len → (S i).size ≤ maxLen

theorem Vals.below {w w' : World} {g off len : Nat} {K N : Nat → Int} {S : Nat → ByteArray} (v : Vals w g off len K N S) (h : Below w.heap.size w w') : Vals w' g off len K N S :=
  ⟨Nat.lt_of_lt_of_le v.lt h.size, fun i hi => by rw [h.cell (p := ⟨g, _, none⟩) v.lt]; exact v.kind i hi, fun i hi => by rw [h.cell (p := ⟨g, _, none⟩) v.lt]; exact v.num i hi, fun i hi => by rw [h.cell (p := ⟨g, _, none⟩) v.lt]; exact v.text i hi, v.size⟩

/-- are the first len values of that kind, and values? -/
def allOf (kind : Int) (K N : Nat → Int) (S : Nat → ByteArray) : Nat → Bool
  | 0 => true
  | i + 1 => allOf kind K N S i && (K i == kind && chk (K i) (N i) (S i) == 0)

theorem allOf_not {kind : Int} {K N : Nat → Int} {S : Nat → ByteArray} {k : Nat} : ∀ {len : Nat}, k < len → (K k == kind && chk (K k) (N k) (S k) == 0) = false → allOf kind K N S len = false
  | 0, h, _ => by omega
  | n + 1, h, hf => by
    by_cases e : k = n
    · subst e; simp only [allOf, hf, Bool.and_false]
    · simp only [allOf, allOf_not (len := n) (by omega) hf, Bool.false_and]

theorem allOf_step {kind : Int} {K N : Nat → Int} {S : Nat → ByteArray} {k : Nat} (ha : allOf kind K N S k = true) (hk : K k = kind) (hc : chk (K k) (N k) (S k) = 0) : allOf kind K N S (k + 1) = true := by
  show (allOf kind K N S k && (K k == kind && chk (K k) (N k) (S k) == 0)) = true
  rw [ha, hc]
  simp [hk]

def areB (count kind : Int) (K N : Nat → Int) (S : Nat → ByteArray) (len : Nat) : Bool := allOf kind K N S len && ((len : Int) == count)

set_option maxHeartbeats 800000 in
theorem areValues_any (K N : Nat → Int) (S : Nat → ByteArray) (g off len cap : Nat) (count kind : Int) (w : World) (hv : Vals w g off len K N S) (hl : len ≤ maxLen) :
    Calls Tryz.prog 101 #[.slice (some ⟨g, off, none⟩) len cap, .int .i64 count, .int .i8 kind] w fun e w' => e = .returned (.bool (areB count kind K N S len)) ∧ Below w.heap.size w w' := by
  unfold maxLen at hl
  go_enter Tryz.func101, Tryz.ntmps101
  go_wp2
  go_loopw [8, 11] (fun _ i wr => ∃ k : Nat, k ≤ len ∧ i = .int .i64 k ∧ Hid (allOf kind K N S k = true) ∧ Below w.heap.size w wr) (fun _ i _ => len - (intOf i).toNat)
  case atStart => exact ⟨0, Nat.zero_le _, rfl, rfl, Below.refl _ _⟩
  case round =>
    obtain ⟨k, hk, rfl, HA, bel⟩ := hrel
    by_cases hlt : k < len
    · have vv := hv.below bel
      have hck := vv.kind k hlt
      have hcn := vv.num k hlt
      have hct := vv.text k hlt
      have hsz := hv.size k hlt
      clear hv vv
      generalize hKk : K k = kk at hck
      generalize hNk : N k = nn at hcn
      generalize hSk : S k = ss at hct hsz
      have HK : Hid (K k = kk) := hKk
      have HN : Hid (N k = nn) := hNk
      have HS : Hid (S k = ss) := hSk
      clear hKk hNk hSk
      have hz : w.heap.size ≤ wr.heap.size := bel.size
      by_cases hkd : kk = kind
      · have hkd' : (kk != kind) = false := by simpa using hkd
        have HKD : Hid (kk = kind) := hkd
        clear hkd
        by_cases hchk : chk kk nn ss = 0
        · go_wp2_with fail
          refine (vcheck_any _ _ _ _ hsz).mono ?_
          rintro e w1 ⟨rfl, hb1⟩
          have bel1 : Below w.heap.size w w1 := (bel.alloc hz _).trans (hb1.mono (by simp; omega))
          have HA1 : Hid (allOf kind K N S (k + 1) = true) := allOf_step HA.out (HK.out.trans HKD.out) (by rw [HK.out, HN.out, HS.out]; exact hchk)
          go_wp2
          go_roundw
          case rel => exact ⟨k + 1, by omega, by go_num, HA1, bel1⟩
          case measure => simp [intOf]; omega
        · have hchk' : (chk kk nn ss != 0) = true := by simpa using hchk
          have HC : Hid (¬ chk kk nn ss = 0) := hchk
          clear hchk
          go_wp2_with fail
          refine (vcheck_any _ _ _ _ hsz).mono ?_
          rintro e w1 ⟨rfl, hb1⟩
          have bel1 : Below w.heap.size w w1 := (bel.alloc hz _).trans (hb1.mono (by simp; omega))
          have HF : Hid (areB count kind K N S len = false) := by
            show areB count kind K N S len = false
            unfold areB
            rw [allOf_not hlt (by rw [HK.out, HN.out, HS.out]; simp [HC.out]), Bool.false_and]
          go_wp2
          go_ret
          exact ⟨ret_bool HF.out.symm, bel1⟩
      · have hkd' : (kk != kind) = true := by simpa using hkd
        have HF : Hid (areB count kind K N S len = false) := by
          show areB count kind K N S len = false
          unfold areB
          rw [allOf_not hlt (by rw [HK.out]; simp [hkd]), Bool.false_and]
        clear hkd
        go_wp2
        go_ret
        exact ⟨ret_bool HF.out.symm, bel.alloc hz _⟩
    · obtain rfl : k = len := by omega
      go_wp2
      go_ret
      exact ⟨ret_bool (by unfold areB; rw [HA.out, Bool.true_and]), bel⟩

end Go.Proofs.YtgfnijhhhgjabaaGreatDoor.AR
end
section
namespace Go.Proofs.YtgfnijhhhgjabaaGreatDoor.AR
open Go.RowKit
set_option linter.unusedVariables false
attribute [local go_sem ↓] Go.wp_at_zero Go.wp_at_succ

set_option maxHeartbeats 400000 in
theorem ofNumbers_add (a b : Int) (w : World) :
    Calls Tryz.prog 103 #[.int .i8 2, .int .i64 a, .int .i64 b] w fun e w' => e = .returned (.tuple #[.agg #[.int .i8 1, .int .i64 (wrap64 (a + b)), .string ⟨#[]⟩], .bool true]) ∧ Below w.heap.size w w' := by
  go_enter Tryz.func103, Tryz.ntmps103
  go_wp2_with (go_at_call 102; refine (number_any _ _).mono ?_; rintro e w1 ⟨rfl, hb1⟩; obtain ⟨hc1, hf1⟩ := bcell hb1)
  exact bodyPost_ret (v := .tuple #[.agg #[.int .i8 1, .int .i64 (wrap64 (a + b)), .string ⟨#[]⟩], .bool true]) (by simp [results, Tryz.results103, go_sem, hc1]) rfl
    ⟨rfl, (((((Below.refl _ _).alloc (Nat.le_refl _) _).trans (hb1.mono (by simp))).setCell (by simp) _).setCell (by simp) _).setCell (by simp) _⟩

set_option maxHeartbeats 400000 in
theorem ofNumbers_sub (a b : Int) (w : World) :
    Calls Tryz.prog 103 #[.int .i8 3, .int .i64 a, .int .i64 b] w fun e w' => e = .returned (.tuple #[.agg #[.int .i8 1, .int .i64 (wrap64 (a - b)), .string ⟨#[]⟩], .bool true]) ∧ Below w.heap.size w w' := by
  go_enter Tryz.func103, Tryz.ntmps103
  go_wp2_with (go_at_call 102; refine (number_any _ _).mono ?_; rintro e w1 ⟨rfl, hb1⟩; obtain ⟨hc1, hf1⟩ := bcell hb1)
  exact bodyPost_ret (v := .tuple #[.agg #[.int .i8 1, .int .i64 (wrap64 (a - b)), .string ⟨#[]⟩], .bool true]) (by simp [results, Tryz.results103, go_sem, hc1]) rfl
    ⟨rfl, (((((Below.refl _ _).alloc (Nat.le_refl _) _).trans (hb1.mono (by simp))).setCell (by simp) _).setCell (by simp) _).setCell (by simp) _⟩

set_option maxHeartbeats 400000 in
theorem ofNumbers_mul (a b : Int) (w : World) :
    Calls Tryz.prog 103 #[.int .i8 4, .int .i64 a, .int .i64 b] w fun e w' => e = .returned (.tuple #[.agg #[.int .i8 1, .int .i64 (wrap64 (a * b)), .string ⟨#[]⟩], .bool true]) ∧ Below w.heap.size w w' := by
  go_enter Tryz.func103, Tryz.ntmps103
  go_wp2_with (go_at_call 102; refine (number_any _ _).mono ?_; rintro e w1 ⟨rfl, hb1⟩; obtain ⟨hc1, hf1⟩ := bcell hb1)
  exact bodyPost_ret (v := .tuple #[.agg #[.int .i8 1, .int .i64 (wrap64 (a * b)), .string ⟨#[]⟩], .bool true]) (by simp [results, Tryz.results103, go_sem, hc1]) rfl
    ⟨rfl, (((((Below.refl _ _).alloc (Nat.le_refl _) _).trans (hb1.mono (by simp))).setCell (by simp) _).setCell (by simp) _).setCell (by simp) _⟩

/-- two numbers that lie behind one another in a block -/
structure Nums2 (w : World) (g off : Nat) (a b : Int) : Prop where
  lt : g < w.heap.size
  k0 : w.cell? ⟨g, off, none⟩ = some (.int .i8 1)
  n0 : w.cell? ⟨g, off + 1, none⟩ = some (.int .i64 a)
  t0 : w.cell? ⟨g, off + 2, none⟩ = some (.string ⟨#[]⟩)
  k1 : w.cell? ⟨g, off + 3, none⟩ = some (.int .i8 1)
  n1 : w.cell? ⟨g, off + 4, none⟩ = some (.int .i64 b)
  t1 : w.cell? ⟨g, off + 5, none⟩ = some (.string ⟨#[]⟩)

theorem Nums2.vals {w : World} {g off : Nat} {a b : Int} (h : Nums2 w g off a b) : Vals w g off 2 (fun _ => 1) (fun i => if i = 0 then a else b) (fun _ => ⟨#[]⟩) := by
  refine ⟨h.lt, ?_, ?_, ?_, fun _ _ => by decide⟩ <;> intro i hi <;> obtain rfl | rfl : i = 0 ∨ i = 1 := by omega
  · simpa using h.k0
  · simpa using h.k1
  · simpa using h.n0
  · simpa using h.n1
  · simpa using h.t0
  · simpa using h.t1

theorem areB_nums2 (a b : Int) : areB 2 1 (fun _ => 1) (fun i => if i = 0 then a else b) (fun _ => ⟨#[]⟩) 2 = true := by
  have h : ∀ n, chk 1 n ⟨#[]⟩ = 0 := fun n => (chk_ok (.inl ⟨rfl, by rw [ByteArray.toList_eq]⟩)).symm
  simp [areB, allOf, h]

set_option maxHeartbeats 1600000 in
theorem arith_add (a b : Int) (g off cap : Nat) (w : World) (ht : Tab w) (hn : Nums2 w g off a b) :
    Calls Tryz.prog 77 #[.int .i8 2, .slice (some ⟨g, off, none⟩) 2 cap] w fun e w' => e = .returned (.tuple #[.agg #[.int .i8 1, .int .i64 (wrap64 (a + b)), .string ⟨#[]⟩], .bool true]) ∧ Below w.heap.size w w' := by
  have hlt := hn.lt
  have hn0 := hn.n0
  have hn1 := hn.n1
  go_enter Tryz.func77, Tryz.ntmps77
  go_wp2_with fail
  refine (takingOf_any _ _ (ht.below ((Below.refl _ _).alloc (Nat.le_refl _) _)) (by omega)).mono ?_
  rintro e w0 ⟨rfl, rfl⟩
  have hk : tkOf 2 = 2 := by decide
  go_wp2_with fail
  have hv0 := (hn.vals).below ((Below.refl w.heap.size w).alloc (Nat.le_refl _) (.cells #[.int .i8 0, .int .i64 0, .string ⟨#[]⟩] 38))
  refine (areValues_any _ _ _ g off 2 cap 2 1 _ hv0 (by unfold maxLen; omega)).mono ?_
  rintro e w1 ⟨rfl, hb1⟩
  have hB : areB 2 1 (fun _ => 1) (fun i => if i = 0 then a else b) (fun _ => ⟨#[]⟩) 2 = true := areB_nums2 a b
  have hz1 : w.heap.size < w1.heap.size := by have := hb1.size; simp at this; omega
  have bel1 : Below w.heap.size w w1 := ((Below.refl _ _).alloc (Nat.le_refl _) _).trans (hb1.mono (by simp))
  obtain ⟨hc1, hf1⟩ := bcell hb1
  clear hn hv0
  go_wp2_with fail
  go_region_with (go_at_call 103; refine (ofNumbers_add _ _ _).mono ?_; rintro e w2 ⟨rfl, hb2⟩; obtain ⟨hc2, hf2⟩ := bcell ((hb1.drew).trans (hb2.mono hb1.size)))
  all_goals
    go_wp2
    exact bodyPost_ret (v := .tuple #[.agg #[.int .i8 1, .int .i64 (wrap64 (a + b)), .string ⟨#[]⟩], .bool true]) (by simp [results, Tryz.results77, go_sem, hc2]) rfl
      ⟨rfl, (((bel1.drew.trans (hb2.mono (Nat.le_of_lt hz1))).setCell (by simp) _).setCell (by simp) _).setCell (by simp) _⟩

set_option maxHeartbeats 1600000 in
theorem arith_sub (a b : Int) (g off cap : Nat) (w : World) (ht : Tab w) (hn : Nums2 w g off a b) :
    Calls Tryz.prog 77 #[.int .i8 3, .slice (some ⟨g, off, none⟩) 2 cap] w fun e w' => e = .returned (.tuple #[.agg #[.int .i8 1, .int .i64 (wrap64 (a - b)), .string ⟨#[]⟩], .bool true]) ∧ Below w.heap.size w w' := by
  have hlt := hn.lt
  have hn0 := hn.n0
  have hn1 := hn.n1
  go_enter Tryz.func77, Tryz.ntmps77
  go_wp2_with fail
  refine (takingOf_any _ _ (ht.below ((Below.refl _ _).alloc (Nat.le_refl _) _)) (by omega)).mono ?_
  rintro e w0 ⟨rfl, rfl⟩
  have hk : tkOf 3 = 2 := by decide
  go_wp2_with fail
  have hv0 := (hn.vals).below ((Below.refl w.heap.size w).alloc (Nat.le_refl _) (.cells #[.int .i8 0, .int .i64 0, .string ⟨#[]⟩] 38))
  refine (areValues_any _ _ _ g off 2 cap 2 1 _ hv0 (by unfold maxLen; omega)).mono ?_
  rintro e w1 ⟨rfl, hb1⟩
  have hB : areB 2 1 (fun _ => 1) (fun i => if i = 0 then a else b) (fun _ => ⟨#[]⟩) 2 = true := areB_nums2 a b
  have hz1 : w.heap.size < w1.heap.size := by have := hb1.size; simp at this; omega
  have bel1 : Below w.heap.size w w1 := ((Below.refl _ _).alloc (Nat.le_refl _) _).trans (hb1.mono (by simp))
  obtain ⟨hc1, hf1⟩ := bcell hb1
  clear hn hv0
  go_wp2_with fail
  go_region_with (go_at_call 103; refine (ofNumbers_sub _ _ _).mono ?_; rintro e w2 ⟨rfl, hb2⟩; obtain ⟨hc2, hf2⟩ := bcell ((hb1.drew).trans (hb2.mono hb1.size)))
  all_goals
    go_wp2
    exact bodyPost_ret (v := .tuple #[.agg #[.int .i8 1, .int .i64 (wrap64 (a - b)), .string ⟨#[]⟩], .bool true]) (by simp [results, Tryz.results77, go_sem, hc2]) rfl
      ⟨rfl, (((bel1.drew.trans (hb2.mono (Nat.le_of_lt hz1))).setCell (by simp) _).setCell (by simp) _).setCell (by simp) _⟩

set_option maxHeartbeats 1600000 in
theorem arith_mul (a b : Int) (g off cap : Nat) (w : World) (ht : Tab w) (hn : Nums2 w g off a b) :
    Calls Tryz.prog 77 #[.int .i8 4, .slice (some ⟨g, off, none⟩) 2 cap] w fun e w' => e = .returned (.tuple #[.agg #[.int .i8 1, .int .i64 (wrap64 (a * b)), .string ⟨#[]⟩], .bool true]) ∧ Below w.heap.size w w' := by
  have hlt := hn.lt
  have hn0 := hn.n0
  have hn1 := hn.n1
  go_enter Tryz.func77, Tryz.ntmps77
  go_wp2_with fail
  refine (takingOf_any _ _ (ht.below ((Below.refl _ _).alloc (Nat.le_refl _) _)) (by omega)).mono ?_
  rintro e w0 ⟨rfl, rfl⟩
  have hk : tkOf 4 = 2 := by decide
  go_wp2_with fail
  have hv0 := (hn.vals).below ((Below.refl w.heap.size w).alloc (Nat.le_refl _) (.cells #[.int .i8 0, .int .i64 0, .string ⟨#[]⟩] 38))
  refine (areValues_any _ _ _ g off 2 cap 2 1 _ hv0 (by unfold maxLen; omega)).mono ?_
  rintro e w1 ⟨rfl, hb1⟩
  have hB : areB 2 1 (fun _ => 1) (fun i => if i = 0 then a else b) (fun _ => ⟨#[]⟩) 2 = true := areB_nums2 a b
  have hz1 : w.heap.size < w1.heap.size := by have := hb1.size; simp at this; omega
  have bel1 : Below w.heap.size w w1 := ((Below.refl _ _).alloc (Nat.le_refl _) _).trans (hb1.mono (by simp))
  obtain ⟨hc1, hf1⟩ := bcell hb1
  clear hn hv0
  go_wp2_with fail
  go_region_with (go_at_call 103; refine (ofNumbers_mul _ _ _).mono ?_; rintro e w2 ⟨rfl, hb2⟩; obtain ⟨hc2, hf2⟩ := bcell ((hb1.drew).trans (hb2.mono hb1.size)))
  all_goals
    go_wp2
    exact bodyPost_ret (v := .tuple #[.agg #[.int .i8 1, .int .i64 (wrap64 (a * b)), .string ⟨#[]⟩], .bool true]) (by simp [results, Tryz.results77, go_sem, hc2]) rfl
      ⟨rfl, (((bel1.drew.trans (hb2.mono (Nat.le_of_lt hz1))).setCell (by simp) _).setCell (by simp) _).setCell (by simp) _⟩

end Go.Proofs.YtgfnijhhhgjabaaGreatDoor.AR
end
section
namespace Go.Proofs.YtgfnijhhhgjabaaGreatDoor.AR
open Go.RowKit
set_option linter.unusedVariables false

theorem catch_panicking (p q r : Addr) (x y : Int) (z : Bool) (u : TypeId) (pv : Value) (older : List PanicEntry) (w : World) (hp : w.cell? p = some (.int .i64 x)) (hq : w.cell? q = some (.int .i64 y)) (hr : w.cell? r = some (.bool z))
    (fp : w.frozen? p = false) (fq : w.frozen? q = false) (fr : w.frozen? r = false) (pq : ¬ p = q) (pr : ¬ p = r) (qr : ¬ q = r) :
    CallsD Tryz.prog 141 #[.pointer (some p), .pointer (some q), .pointer (some r)] (.panicking ({ v := .iface u pv, recovered := false } :: older)) w fun e u' w' =>
      e = .returned (.tuple #[]) ∧ u' = .panicking ({ v := .iface u pv, recovered := true } :: older) ∧ w' = ((w.setCell p (.int .i64 0)).setCell q (.int .i64 0)).setCell r (.bool false) := by
  refine callsD_of_wpS Tryz.func141 rfl fun c₀ cs hu => ?_
  apply wpS_seq
  apply wpS_region
  simp [wpOpsS, go_sem, recoverD, hu, Tryz.ntmps141, Exit.thenS]
  refine wpS_cond (t := true) (by simp [Act.eval, Array.replicate]) ?_
  simp only [if_true]
  apply wpS_region
  have hq' : (w.setCell p (.int .i64 0)).cell? q = some (.int .i64 y) := by rw [World.cell?_setCell_other _ _ _ _ pq]; exact hq
  have hr' : ((w.setCell p (.int .i64 0)).setCell q (.int .i64 0)).cell? r = some (.bool z) := by rw [World.cell?_setCell_other _ _ _ _ qr, World.cell?_setCell_other _ _ _ _ pr]; exact hr
  simp [wpOpsS, go_sem, hp, fp, fq, fr, hq', hr', bodyPostS, results, Tryz.results141]

theorem catch_idle (p q r : Addr) (w : World) :
    CallsD Tryz.prog 141 #[.pointer (some p), .pointer (some q), .pointer (some r)] .returning w fun e u' w' => e = .returned (.tuple #[]) ∧ u' = .returning ∧ w' = w := by
  refine callsD_of_wpS Tryz.func141 rfl fun c₀ cs hu => ?_
  apply wpS_seq
  apply wpS_region
  simp [wpOpsS, go_sem, recoverD, hu, Tryz.ntmps141, Exit.thenS]
  refine wpS_cond (t := false) (by simp [Act.eval, Array.replicate]) ?_
  simp only [Bool.false_eq_true, if_false]
  refine wpS_of_wp (wp_skip ?_)
  cases c₀
  simp_all [bodyPostS, results, Tryz.results141]

set_option maxHeartbeats 800000 in
theorem divide_some (a b : Int) (hb : ¬ b = 0) (w : World) :
    Calls Tryz.prog 117 #[.int .i64 a, .int .i64 b] w fun e w' => e = .returned (.tuple #[.int .i64 (wrap64 (a.tdiv b)), .int .i64 (a.tmod b), .bool true]) ∧ Below w.heap.size w w' := by
  have hmf : ∀ (fn : Fn) (first cap : Array Value) (w : World), (Instr.makeFunc fn first cap).run Tryz.prog w = .ok (.func fn first cap) w := fun _ _ _ _ => rfl
  go_enter_defers Tryz.func117, Tryz.ntmps117
  go_wp2
  go_region
  go_wp2
  refine leaves_cons (f := 141) (args := #[.pointer (some ⟨w.heap.size, 0, none⟩), .pointer (some ⟨w.heap.size + 1, 0, none⟩), .pointer (some ⟨w.heap.size + 1 + 1, 0, none⟩)]) (by simp) (by simp [go_sem]) ?_
  refine (catch_idle ⟨w.heap.size, 0, none⟩ ⟨w.heap.size + 1, 0, none⟩ ⟨w.heap.size + 1 + 1, 0, none⟩ _).mono ?_
  rintro e u' w'' ⟨rfl, rfl, rfl⟩
  simp [Leaves, settle, results, Tryz.results117, go_sem]
  exact ((((Below.refl _ _).alloc (Nat.le_refl _) _).alloc (by simp) _).alloc (by simp; omega) _).drew

/-- what is left where the division faults: one panic, the world and the slots that the door reads -/
def Faulted (W0 : World) (ds : List Deferred) (p4 p5 p6 : Value) : Exit → Act → World → Prop
  | .panic c, a, w => (∃ u pv, c = [{ v := .iface u pv, recovered := false }]) ∧ w = W0 ∧ a.defers = ds ∧ a.tmps[4]? = some p4 ∧ a.tmps[5]? = some p5 ∧ a.tmps[6]? = some p6
  | _, _, _ => False

theorem Faulted.put {W0 : World} {ds : List Deferred} {p4 p5 p6 : Value} {k : Nat} (hk : 6 < k) (v : Value) : ∀ c a w, Faulted W0 ds p4 p5 p6 (.panic c) (Act.put a (some k) v) w → Faulted W0 ds p4 p5 p6 (.panic c) a w := by
  intro c a w h
  simp only [Faulted, Act.put] at h ⊢
  rwa [Array.getElem?_setIfInBounds_ne (by omega), Array.getElem?_setIfInBounds_ne (by omega), Array.getElem?_setIfInBounds_ne (by omega)] at h

set_option maxHeartbeats 800000 in
theorem divide_zero (a : Int) (w : World) :
    Calls Tryz.prog 117 #[.int .i64 a, .int .i64 0] w fun e w' => e = .returned (.tuple #[.int .i64 0, .int .i64 0, .bool false]) ∧ Below w.heap.size w w' := by
  have hmf : ∀ (fn : Fn) (first cap : Array Value) (w : World), (Instr.makeFunc fn first cap).run Tryz.prog w = .ok (.func fn first cap) w := fun _ _ _ _ => rfl
  go_enter_defers Tryz.func117, Tryz.ntmps117
  go_wp2
  have hP : ∀ (e : Exit) (f : Act) (v : World), Faulted (((w.alloc (.cells #[.int .i64 0] 2)).alloc (.cells #[.int .i64 0] 2)).alloc (.cells #[.bool false] 4)).drew
      [{ target := .fn (.func 141) #[.pointer (some ⟨w.heap.size, 0, none⟩), .pointer (some ⟨w.heap.size + 1, 0, none⟩), .pointer (some ⟨w.heap.size + 1 + 1, 0, none⟩)], args := #[] }]
      (.pointer (some ⟨w.heap.size, 0, none⟩)) (.pointer (some ⟨w.heap.size + 1, 0, none⟩)) (.pointer (some ⟨w.heap.size + 1 + 1, 0, none⟩)) e f v →
      bodyPostD Tryz.prog Tryz.f117 (fun e w' => e = .returned (.tuple #[.int .i64 0, .int .i64 0, .bool false]) ∧ Below w.heap.size w w') e f v := by
    intro e f v h
    cases e with
    | panic c =>
      obtain ⟨⟨u, pv, rfl⟩, rfl, hd, h4, h5, h6⟩ := h
      show Leaves _ _ _ _ _ _ _
      rw [hd]
      refine leaves_cons (f := 141) (args := #[.pointer (some ⟨w.heap.size, 0, none⟩), .pointer (some ⟨w.heap.size + 1, 0, none⟩), .pointer (some ⟨w.heap.size + 1 + 1, 0, none⟩)]) (by simp) (by simp [go_sem]) ?_
      refine (catch_panicking ⟨w.heap.size, 0, none⟩ ⟨w.heap.size + 1, 0, none⟩ ⟨w.heap.size + 1 + 1, 0, none⟩ 0 0 false u pv [] _ ?_ ?_ ?_ ?_ ?_ ?_ ?_ ?_ ?_).mono ?_
      all_goals try (first | (go_simp; done) | (simp; done))
      rintro e u' w'' ⟨rfl, rfl, rfl⟩
      simp [Leaves, settle, results, Tryz.results117, go_sem, Array.getD_eq_getD_getElem?, h4, h5, h6]
      exact ((((Below.refl _ _).alloc (Nat.le_refl _) _).alloc (by simp) _).alloc (by simp; omega) _).drew
    | _ => exact absurd h (by simp [Faulted])
  refine Code.wp_mono (Q := Faulted (((w.alloc (.cells #[.int .i64 0] 2)).alloc (.cells #[.int .i64 0] 2)).alloc (.cells #[.bool false] 4)).drew
      [{ target := .fn (.func 141) #[.pointer (some ⟨w.heap.size, 0, none⟩), .pointer (some ⟨w.heap.size + 1, 0, none⟩), .pointer (some ⟨w.heap.size + 1 + 1, 0, none⟩)], args := #[] }]
      (.pointer (some ⟨w.heap.size, 0, none⟩)) (.pointer (some ⟨w.heap.size + 1, 0, none⟩)) (.pointer (some ⟨w.heap.size + 1 + 1, 0, none⟩))) ?_ ?_
  · intro e f v h
    cases e with
    | panic c => exact hP _ _ _ h
    | _ => exact absurd h (by simp [Faulted])
  clear hP
  refine wp_region_any (by kernel_rfl) ?_
  change wpAny _ _ _ _ _ _ _ (World.drew _)
  refine wpAny_take (i := 0) (v := .int .i64 a) rfl (by kernel_rfl) (by kernel_rfl) (by kernel_rfl) (Faulted.put (by omega) _) (Or.inl ⟨by rfl, ?_⟩) ?_
  · intro w; go_simp
  refine wpAny_take (i := 1) (v := .int .i64 0) rfl (by kernel_rfl) (by kernel_rfl) (by kernel_rfl) (Faulted.put (by omega) _) (Or.inl ⟨by rfl, ?_⟩) ?_
  · intro w; go_simp
  refine wpAny_take (i := 3) (v := .int .i64 a) rfl (by kernel_rfl) (by kernel_rfl) (by kernel_rfl) (Faulted.put (by omega) _) (Or.inl ⟨by rfl, ?_⟩) ?_
  · intro w; go_simp
  refine wpAny_take (i := 4) (v := .int .i64 0) rfl (by kernel_rfl) (by kernel_rfl) (by kernel_rfl) (Faulted.put (by omega) _) (Or.inl ⟨by rfl, ?_⟩) ?_
  · intro w; go_simp
  refine wpAny_ready (rs := [2, 5]) (by kernel_rfl) (by simp) ?_
  refine AllReady.cons rfl (fun K hK => ?_) (AllReady.cons rfl (fun K hK => ?_) AllReady.nil)
  · go_simp
    clear hK K
    exact ⟨⟨_, _, rfl⟩, rfl, rfl, rfl, rfl, rfl⟩
  · go_simp
    clear hK K
    exact ⟨⟨_, _, rfl⟩, rfl, rfl, rfl, rfl, rfl⟩

end Go.Proofs.YtgfnijhhhgjabaaGreatDoor.AR
end
section
namespace Go.Proofs.YtgfnijhhhgjabaaGreatDoor.AR
open Go.RowKit
set_option linter.unusedVariables false
attribute [local go_sem ↓] Go.wp_at_zero Go.wp_at_succ

set_option maxHeartbeats 800000 in
theorem ofNumbers_div (a b : Int) (w : World) (hb : ¬ b = 0) :
    Calls Tryz.prog 103 #[.int .i8 5, .int .i64 a, .int .i64 b] w fun e w' => e = .returned (.tuple #[.agg #[.int .i8 1, .int .i64 (wrap64 (a.tdiv b)), .string ⟨#[]⟩], .bool true]) ∧ Below w.heap.size w w' := by
  go_enter Tryz.func103, Tryz.ntmps103
  go_wp2_with fail
  refine (divide_some _ _ hb _).mono ?_
  rintro e wd ⟨rfl, hbd⟩
  go_wp2_with fail
  refine (number_any _ _).mono ?_
  rintro e w1 ⟨rfl, hb1⟩
  obtain ⟨hc1, hf1⟩ := bcell (hbd.trans (hb1.mono hbd.size))
  go_wp2
  exact bodyPost_ret (v := .tuple #[.agg #[.int .i8 1, .int .i64 (wrap64 (a.tdiv b)), .string ⟨#[]⟩], .bool true]) (by simp [results, Tryz.results103, go_sem, hc1]) rfl
    ⟨rfl, (((((Below.refl _ _).alloc (Nat.le_refl _) _).trans ((hbd.trans (hb1.mono hbd.size)).mono (by simp))).setCell (by simp) _).setCell (by simp) _).setCell (by simp) _⟩

set_option maxHeartbeats 800000 in
theorem ofNumbers_mod (a b : Int) (w : World) (hb : ¬ b = 0) :
    Calls Tryz.prog 103 #[.int .i8 6, .int .i64 a, .int .i64 b] w fun e w' => e = .returned (.tuple #[.agg #[.int .i8 1, .int .i64 (a.tmod b), .string ⟨#[]⟩], .bool true]) ∧ Below w.heap.size w w' := by
  go_enter Tryz.func103, Tryz.ntmps103
  go_wp2_with fail
  refine (divide_some _ _ hb _).mono ?_
  rintro e wd ⟨rfl, hbd⟩
  go_wp2_with fail
  refine (number_any _ _).mono ?_
  rintro e w1 ⟨rfl, hb1⟩
  obtain ⟨hc1, hf1⟩ := bcell (hbd.trans (hb1.mono hbd.size))
  go_wp2
  exact bodyPost_ret (v := .tuple #[.agg #[.int .i8 1, .int .i64 (a.tmod b), .string ⟨#[]⟩], .bool true]) (by simp [results, Tryz.results103, go_sem, hc1]) rfl
    ⟨rfl, (((((Below.refl _ _).alloc (Nat.le_refl _) _).trans ((hbd.trans (hb1.mono hbd.size)).mono (by simp))).setCell (by simp) _).setCell (by simp) _).setCell (by simp) _⟩

set_option maxHeartbeats 800000 in
theorem ofNumbers_div0 (a : Int) (w : World) :
    Calls Tryz.prog 103 #[.int .i8 5, .int .i64 a, .int .i64 0] w fun e w' => e = .returned (.tuple #[.agg #[.int .i8 0, .int .i64 0, .string ⟨#[]⟩], .bool false]) ∧ Below w.heap.size w w' := by
  go_enter Tryz.func103, Tryz.ntmps103
  go_wp2_with fail
  refine (divide_zero _ _).mono ?_
  rintro e wd ⟨rfl, hbd⟩
  obtain ⟨hc1, hf1⟩ := bcell hbd
  go_wp2
  exact bodyPost_ret (v := .tuple #[.agg #[.int .i8 0, .int .i64 0, .string ⟨#[]⟩], .bool false]) (by simp [results, Tryz.results103, go_sem, hc1]) rfl
    ⟨rfl, (((((Below.refl _ _).alloc (Nat.le_refl _) _).trans (hbd.mono (by simp))).setCell (by simp) _).setCell (by simp) _).setCell (by simp) _⟩

set_option maxHeartbeats 800000 in
theorem ofNumbers_mod0 (a : Int) (w : World) :
    Calls Tryz.prog 103 #[.int .i8 6, .int .i64 a, .int .i64 0] w fun e w' => e = .returned (.tuple #[.agg #[.int .i8 0, .int .i64 0, .string ⟨#[]⟩], .bool false]) ∧ Below w.heap.size w w' := by
  go_enter Tryz.func103, Tryz.ntmps103
  go_wp2_with fail
  refine (divide_zero _ _).mono ?_
  rintro e wd ⟨rfl, hbd⟩
  obtain ⟨hc1, hf1⟩ := bcell hbd
  go_wp2
  exact bodyPost_ret (v := .tuple #[.agg #[.int .i8 0, .int .i64 0, .string ⟨#[]⟩], .bool false]) (by simp [results, Tryz.results103, go_sem, hc1]) rfl
    ⟨rfl, (((((Below.refl _ _).alloc (Nat.le_refl _) _).trans (hbd.mono (by simp))).setCell (by simp) _).setCell (by simp) _).setCell (by simp) _⟩

set_option maxHeartbeats 1600000 in
theorem arith_div (a b : Int) (g off cap : Nat) (w : World) (ht : Tab w) (hn : Nums2 w g off a b) (hb : ¬ b = 0) :
    Calls Tryz.prog 77 #[.int .i8 5, .slice (some ⟨g, off, none⟩) 2 cap] w fun e w' => e = .returned (.tuple #[.agg #[.int .i8 1, .int .i64 (wrap64 (a.tdiv b)), .string ⟨#[]⟩], .bool true]) ∧ Below w.heap.size w w' := by
  have hlt := hn.lt
  have hn0 := hn.n0
  have hn1 := hn.n1
  go_enter Tryz.func77, Tryz.ntmps77
  go_wp2_with fail
  refine (takingOf_any _ _ (ht.below ((Below.refl _ _).alloc (Nat.le_refl _) _)) (by omega)).mono ?_
  rintro e w0 ⟨rfl, rfl⟩
  have hk : tkOf 5 = 2 := by decide
  go_wp2_with fail
  have hv0 := (hn.vals).below ((Below.refl w.heap.size w).alloc (Nat.le_refl _) (.cells #[.int .i8 0, .int .i64 0, .string ⟨#[]⟩] 38))
  refine (areValues_any _ _ _ g off 2 cap 2 1 _ hv0 (by unfold maxLen; omega)).mono ?_
  rintro e w1 ⟨rfl, hb1⟩
  have hB : areB 2 1 (fun _ => 1) (fun i => if i = 0 then a else b) (fun _ => ⟨#[]⟩) 2 = true := areB_nums2 a b
  have hz1 : w.heap.size < w1.heap.size := by have := hb1.size; simp at this; omega
  have bel1 : Below w.heap.size w w1 := ((Below.refl _ _).alloc (Nat.le_refl _) _).trans (hb1.mono (by simp))
  obtain ⟨hc1, hf1⟩ := bcell hb1
  clear hn hv0
  go_wp2_with fail
  go_region_with (go_at_call 103; refine (ofNumbers_div _ _ _ hb).mono ?_; rintro e w2 ⟨rfl, hb2⟩; obtain ⟨hc2, hf2⟩ := bcell ((hb1.drew).trans (hb2.mono hb1.size)))
  all_goals
    go_wp2
    exact bodyPost_ret (v := .tuple #[.agg #[.int .i8 1, .int .i64 (wrap64 (a.tdiv b)), .string ⟨#[]⟩], .bool true]) (by simp [results, Tryz.results77, go_sem, hc2]) rfl
      ⟨rfl, (((bel1.drew.trans (hb2.mono (Nat.le_of_lt hz1))).setCell (by simp) _).setCell (by simp) _).setCell (by simp) _⟩

set_option maxHeartbeats 1600000 in
theorem arith_mod (a b : Int) (g off cap : Nat) (w : World) (ht : Tab w) (hn : Nums2 w g off a b) (hb : ¬ b = 0) :
    Calls Tryz.prog 77 #[.int .i8 6, .slice (some ⟨g, off, none⟩) 2 cap] w fun e w' => e = .returned (.tuple #[.agg #[.int .i8 1, .int .i64 (a.tmod b), .string ⟨#[]⟩], .bool true]) ∧ Below w.heap.size w w' := by
  have hlt := hn.lt
  have hn0 := hn.n0
  have hn1 := hn.n1
  go_enter Tryz.func77, Tryz.ntmps77
  go_wp2_with fail
  refine (takingOf_any _ _ (ht.below ((Below.refl _ _).alloc (Nat.le_refl _) _)) (by omega)).mono ?_
  rintro e w0 ⟨rfl, rfl⟩
  have hk : tkOf 6 = 2 := by decide
  go_wp2_with fail
  have hv0 := (hn.vals).below ((Below.refl w.heap.size w).alloc (Nat.le_refl _) (.cells #[.int .i8 0, .int .i64 0, .string ⟨#[]⟩] 38))
  refine (areValues_any _ _ _ g off 2 cap 2 1 _ hv0 (by unfold maxLen; omega)).mono ?_
  rintro e w1 ⟨rfl, hb1⟩
  have hB : areB 2 1 (fun _ => 1) (fun i => if i = 0 then a else b) (fun _ => ⟨#[]⟩) 2 = true := areB_nums2 a b
  have hz1 : w.heap.size < w1.heap.size := by have := hb1.size; simp at this; omega
  have bel1 : Below w.heap.size w w1 := ((Below.refl _ _).alloc (Nat.le_refl _) _).trans (hb1.mono (by simp))
  obtain ⟨hc1, hf1⟩ := bcell hb1
  clear hn hv0
  go_wp2_with fail
  go_region_with (go_at_call 103; refine (ofNumbers_mod _ _ _ hb).mono ?_; rintro e w2 ⟨rfl, hb2⟩; obtain ⟨hc2, hf2⟩ := bcell ((hb1.drew).trans (hb2.mono hb1.size)))
  all_goals
    go_wp2
    exact bodyPost_ret (v := .tuple #[.agg #[.int .i8 1, .int .i64 (a.tmod b), .string ⟨#[]⟩], .bool true]) (by simp [results, Tryz.results77, go_sem, hc2]) rfl
      ⟨rfl, (((bel1.drew.trans (hb2.mono (Nat.le_of_lt hz1))).setCell (by simp) _).setCell (by simp) _).setCell (by simp) _⟩

set_option maxHeartbeats 1600000 in
theorem arith_div0 (a : Int) (g off cap : Nat) (w : World) (ht : Tab w) (hn : Nums2 w g off a 0) :
    Calls Tryz.prog 77 #[.int .i8 5, .slice (some ⟨g, off, none⟩) 2 cap] w fun e w' => e = .returned (.tuple #[.agg #[.int .i8 0, .int .i64 0, .string ⟨#[]⟩], .bool false]) ∧ Below w.heap.size w w' := by
  have hlt := hn.lt
  have hn0 := hn.n0
  have hn1 := hn.n1
  go_enter Tryz.func77, Tryz.ntmps77
  go_wp2_with fail
  refine (takingOf_any _ _ (ht.below ((Below.refl _ _).alloc (Nat.le_refl _) _)) (by omega)).mono ?_
  rintro e w0 ⟨rfl, rfl⟩
  have hk : tkOf 5 = 2 := by decide
  go_wp2_with fail
  have hv0 := (hn.vals).below ((Below.refl w.heap.size w).alloc (Nat.le_refl _) (.cells #[.int .i8 0, .int .i64 0, .string ⟨#[]⟩] 38))
  refine (areValues_any _ _ _ g off 2 cap 2 1 _ hv0 (by unfold maxLen; omega)).mono ?_
  rintro e w1 ⟨rfl, hb1⟩
  have hB : areB 2 1 (fun _ => 1) (fun i => if i = 0 then a else 0) (fun _ => ⟨#[]⟩) 2 = true := areB_nums2 a 0
  have hz1 : w.heap.size < w1.heap.size := by have := hb1.size; simp at this; omega
  have bel1 : Below w.heap.size w w1 := ((Below.refl _ _).alloc (Nat.le_refl _) _).trans (hb1.mono (by simp))
  obtain ⟨hc1, hf1⟩ := bcell hb1
  clear hn hv0
  go_wp2_with fail
  go_region_with (go_at_call 103; refine (ofNumbers_div0 _ _).mono ?_; rintro e w2 ⟨rfl, hb2⟩; obtain ⟨hc2, hf2⟩ := bcell ((hb1.drew).trans (hb2.mono hb1.size)))
  all_goals
    go_wp2
    exact bodyPost_ret (v := .tuple #[.agg #[.int .i8 0, .int .i64 0, .string ⟨#[]⟩], .bool false]) (by simp [results, Tryz.results77, go_sem, hc2]) rfl
      ⟨rfl, (((bel1.drew.trans (hb2.mono (Nat.le_of_lt hz1))).setCell (by simp) _).setCell (by simp) _).setCell (by simp) _⟩

set_option maxHeartbeats 1600000 in
theorem arith_mod0 (a : Int) (g off cap : Nat) (w : World) (ht : Tab w) (hn : Nums2 w g off a 0) :
    Calls Tryz.prog 77 #[.int .i8 6, .slice (some ⟨g, off, none⟩) 2 cap] w fun e w' => e = .returned (.tuple #[.agg #[.int .i8 0, .int .i64 0, .string ⟨#[]⟩], .bool false]) ∧ Below w.heap.size w w' := by
  have hlt := hn.lt
  have hn0 := hn.n0
  have hn1 := hn.n1
  go_enter Tryz.func77, Tryz.ntmps77
  go_wp2_with fail
  refine (takingOf_any _ _ (ht.below ((Below.refl _ _).alloc (Nat.le_refl _) _)) (by omega)).mono ?_
  rintro e w0 ⟨rfl, rfl⟩
  have hk : tkOf 6 = 2 := by decide
  go_wp2_with fail
  have hv0 := (hn.vals).below ((Below.refl w.heap.size w).alloc (Nat.le_refl _) (.cells #[.int .i8 0, .int .i64 0, .string ⟨#[]⟩] 38))
  refine (areValues_any _ _ _ g off 2 cap 2 1 _ hv0 (by unfold maxLen; omega)).mono ?_
  rintro e w1 ⟨rfl, hb1⟩
  have hB : areB 2 1 (fun _ => 1) (fun i => if i = 0 then a else 0) (fun _ => ⟨#[]⟩) 2 = true := areB_nums2 a 0
  have hz1 : w.heap.size < w1.heap.size := by have := hb1.size; simp at this; omega
  have bel1 : Below w.heap.size w w1 := ((Below.refl _ _).alloc (Nat.le_refl _) _).trans (hb1.mono (by simp))
  obtain ⟨hc1, hf1⟩ := bcell hb1
  clear hn hv0
  go_wp2_with fail
  go_region_with (go_at_call 103; refine (ofNumbers_mod0 _ _).mono ?_; rintro e w2 ⟨rfl, hb2⟩; obtain ⟨hc2, hf2⟩ := bcell ((hb1.drew).trans (hb2.mono hb1.size)))
  all_goals
    go_wp2
    exact bodyPost_ret (v := .tuple #[.agg #[.int .i8 0, .int .i64 0, .string ⟨#[]⟩], .bool false]) (by simp [results, Tryz.results77, go_sem, hc2]) rfl
      ⟨rfl, (((bel1.drew.trans (hb2.mono (Nat.le_of_lt hz1))).setCell (by simp) _).setCell (by simp) _).setCell (by simp) _⟩

end Go.Proofs.YtgfnijhhhgjabaaGreatDoor.AR
end
section
namespace Go.Proofs.YtgfnijhhhgjabaaGreatDoor.AR

/-- three answers of a comparison, of x with y, y with z, x with z, that make an order -/
def O3 (xy yz xz : Int) : Prop :=
  (-1 ≤ xy ∧ xy ≤ 1) ∧ (-1 ≤ yz ∧ yz ≤ 1) ∧ (-1 ≤ xz ∧ xz ≤ 1) ∧ (xy = 0 → xz = yz) ∧ (yz = 0 → xz = xy) ∧ (xy = yz → xz = xy)

theorem O3.zero : O3 0 0 0 := by unfold O3; omega

theorem O3.lex2 {a1 a2 a3 b1 b2 b3 : Int} (ha : O3 a1 a2 a3) (hb : O3 b1 b2 b3) : O3 (orL [a1, b1]) (orL [a2, b2]) (orL [a3, b3]) := by
  unfold O3 at *
  simp only [orL]
  (repeat' split) <;> omega

theorem orL3 (a b c : Int) : orL [a, b, c] = orL [a, orL [b, c]] := by
  simp only [orL]
  (repeat' split) <;> simp_all

theorem O3.lex3 {a1 a2 a3 b1 b2 b3 c1 c2 c3 : Int} (ha : O3 a1 a2 a3) (hb : O3 b1 b2 b3) (hc : O3 c1 c2 c3) : O3 (orL [a1, b1, c1]) (orL [a2, b2, c2]) (orL [a3, b3, c3]) := by
  rw [orL3, orL3 a2, orL3 a3]
  exact ha.lex2 (hb.lex2 hc)

theorem compareInt_O3 (x y z : Int) : O3 (Lib.compareInt x y) (Lib.compareInt y z) (Lib.compareInt x z) := by
  unfold O3 Lib.compareInt
  (repeat' split) <;> omega

theorem compareInt_anti (x y : Int) : Lib.compareInt y x = - Lib.compareInt x y := by
  unfold Lib.compareInt
  (repeat' split) <;> omega

theorem compareInt_zero {x y : Int} (h : Lib.compareInt x y = 0) : x = y := by
  unfold Lib.compareInt at h
  (repeat' split at h) <;> omega

theorem compareBytes_cons (x y : UInt8) (a b : List UInt8) : Lib.compareBytes (x :: a) (y :: b) = orL [Lib.compareInt (x.toNat : Int) (y.toNat : Int), Lib.compareBytes a b] := by
  simp only [Lib.compareBytes, orL, Lib.compareInt]
  have h1 : x < y ↔ (x.toNat : Int) < (y.toNat : Int) := by rw [UInt8.lt_iff_toNat_lt]; omega
  have h2 : y < x ↔ (x.toNat : Int) > (y.toNat : Int) := by rw [UInt8.lt_iff_toNat_lt]; omega
  by_cases c1 : x < y
  · simp [c1, h1.1 c1]
  · by_cases c2 : y < x
    · have : ¬ (x.toNat : Int) < (y.toNat : Int) := fun h => c1 (h1.2 h)
      simp [c1, c2, this, h2.1 c2]
    · have e1 : ¬ (x.toNat : Int) < (y.toNat : Int) := fun h => c1 (h1.2 h)
      have e2 : ¬ (x.toNat : Int) > (y.toNat : Int) := fun h => c2 (h2.2 h)
      simp only [c1, c2, e1, e2, if_false, if_true]
      split <;> simp_all

theorem orL2_range {a b : Int} (ha : -1 ≤ a ∧ a ≤ 1) (hb : -1 ≤ b ∧ b ≤ 1) : -1 ≤ orL [a, b] ∧ orL [a, b] ≤ 1 := by
  simp only [orL]
  (repeat' split) <;> omega

theorem compareInt_range (a b : Int) : -1 ≤ Lib.compareInt a b ∧ Lib.compareInt a b ≤ 1 := by
  unfold Lib.compareInt
  (repeat' split) <;> omega

theorem compareBytes_range : ∀ a b : List UInt8, -1 ≤ Lib.compareBytes a b ∧ Lib.compareBytes a b ≤ 1
  | [], [] => by simp [Lib.compareBytes]
  | [], _ :: _ => by simp [Lib.compareBytes]
  | _ :: _, [] => by simp [Lib.compareBytes]
  | x :: a, y :: b => by
    rw [compareBytes_cons]
    exact orL2_range (compareInt_range _ _) (compareBytes_range a b)

theorem compareBytes_O3 : ∀ a b c : List UInt8, O3 (Lib.compareBytes a b) (Lib.compareBytes b c) (Lib.compareBytes a c)
  | [], [], [] => by unfold O3; simp [Lib.compareBytes]
  | [], [], _ :: _ => by unfold O3; simp [Lib.compareBytes]
  | [], _ :: _, [] => by unfold O3; simp [Lib.compareBytes]
  | _ :: _, [], [] => by unfold O3; simp [Lib.compareBytes]
  | [], y :: b, z :: c => by
    have h := compareBytes_range (y :: b) (z :: c)
    have e1 : Lib.compareBytes [] (y :: b) = -1 := rfl
    have e2 : Lib.compareBytes [] (z :: c) = -1 := rfl
    rw [e1, e2]
    unfold O3
    omega
  | x :: a, [], z :: c => by
    have h := compareBytes_range (x :: a) (z :: c)
    have e1 : Lib.compareBytes (x :: a) [] = 1 := rfl
    have e2 : Lib.compareBytes [] (z :: c) = -1 := rfl
    rw [e1, e2]
    unfold O3
    omega
  | x :: a, y :: b, [] => by
    have h := compareBytes_range (x :: a) (y :: b)
    have e1 : Lib.compareBytes (x :: a) [] = 1 := rfl
    have e2 : Lib.compareBytes (y :: b) [] = 1 := rfl
    rw [e1, e2]
    unfold O3
    omega
  | x :: a, y :: b, z :: c => by
    rw [compareBytes_cons, compareBytes_cons, compareBytes_cons]
    exact (compareInt_O3 _ _ _).lex2 (compareBytes_O3 a b c)

theorem orL2_anti {a b a' b' : Int} (ha : a' = -a) (hb : b' = -b) : orL [a', b'] = - orL [a, b] := by
  simp only [orL]
  (repeat' split) <;> omega

theorem compareBytes_anti : ∀ a b : List UInt8, Lib.compareBytes b a = - Lib.compareBytes a b
  | [], [] => rfl
  | [], _ :: _ => rfl
  | _ :: _, [] => rfl
  | x :: a, y :: b => by
    rw [compareBytes_cons, compareBytes_cons]
    exact orL2_anti (compareInt_anti _ _) (compareBytes_anti a b)

theorem orL2_zero {a b : Int} (h : orL [a, b] = 0) : a = 0 ∧ b = 0 := by
  simp only [orL] at h
  (repeat' split at h) <;> omega

theorem compareBytes_zero : ∀ {a b : List UInt8}, Lib.compareBytes a b = 0 → a = b
  | [], [], _ => rfl
  | [], _ :: _, h => by simp [Lib.compareBytes] at h
  | _ :: _, [], h => by simp [Lib.compareBytes] at h
  | x :: a, y :: b, h => by
    rw [compareBytes_cons] at h
    obtain ⟨h1, h2⟩ := orL2_zero h
    have e := compareInt_zero h1
    have e' : x = y := UInt8.toNat_inj.1 (by omega)
    rw [e', compareBytes_zero h2]

theorem cmpV_O3 (k1 n1 : Int) (s1 : ByteArray) (k2 n2 : Int) (s2 : ByteArray) (k3 n3 : Int) (s3 : ByteArray) : O3 (cmpV k1 n1 s1 k2 n2 s2) (cmpV k2 n2 s2 k3 n3 s3) (cmpV k1 n1 s1 k3 n3 s3) :=
  (compareInt_O3 _ _ _).lex3 (compareInt_O3 _ _ _) (compareBytes_O3 _ _ _)

theorem cmpV_anti (k1 n1 : Int) (s1 : ByteArray) (k2 n2 : Int) (s2 : ByteArray) : cmpV k2 n2 s2 k1 n1 s1 = - cmpV k1 n1 s1 k2 n2 s2 := by
  unfold cmpV
  rw [orL3, orL3 (Lib.compareInt k1 k2)]
  exact orL2_anti (compareInt_anti _ _) (orL2_anti (compareInt_anti _ _) (compareBytes_anti _ _))

theorem cmpV_zero {k1 n1 : Int} {s1 : ByteArray} {k2 n2 : Int} {s2 : ByteArray} (h : cmpV k1 n1 s1 k2 n2 s2 = 0) : k1 = k2 ∧ n1 = n2 ∧ s1.toList = s2.toList := by
  unfold cmpV at h
  rw [orL3] at h
  obtain ⟨h1, h2⟩ := orL2_zero h
  obtain ⟨h3, h4⟩ := orL2_zero h2
  exact ⟨compareInt_zero h1, compareInt_zero h3, by rw [ByteArray.toList_eq, ByteArray.toList_eq]; exact compareBytes_zero h4⟩

theorem cmpV_range (k1 n1 : Int) (s1 : ByteArray) (k2 n2 : Int) (s2 : ByteArray) : cmpV k1 n1 s1 k2 n2 s2 = -1 ∨ cmpV k1 n1 s1 k2 n2 s2 = 0 ∨ cmpV k1 n1 s1 k2 n2 s2 = 1 := by
  have := (cmpV_O3 k1 n1 s1 k2 n2 s2 k2 n2 s2).1
  omega

end Go.Proofs.YtgfnijhhhgjabaaGreatDoor.AR
end
section
namespace Go.Proofs.YtgfnijhhhgjabaaGreatDoor.AR
open Go.RowKit
set_option linter.unusedVariables false
attribute [local go_sem ↓] Go.wp_at_zero Go.wp_at_succ

/-- n values in memory, from a place on: element i has the kind K i, the number N i, the text S i -/
structure Cells (w : World) (g off n : Nat) (K N : Nat → Int) (S : Nat → ByteArray) : Prop where
  lt : 0 < n → g < w.heap.size
  kind : ∀ i, i < n → w.cell? ⟨g, off + i * 3, none⟩ = some (.int .i8 (K i))
  num : ∀ i, i < n → w.cell? ⟨g, off + i * 3 + 1, none⟩ = some (.int .i64 (N i))
  text : ∀ i, i < n → w.cell? ⟨g, off + i * 3 + 2, none⟩ = some (.string (S i))
  size : ∀ i, i < n → (S i).size ≤ maxLen

theorem Cells.below {w w' : World} {g off n : Nat} {K N : Nat → Int} {S : Nat → ByteArray} (v : Cells w g off n K N S) (h : Below w.heap.size w w') : Cells w' g off n K N S :=
  ⟨fun hn => Nat.lt_of_lt_of_le (v.lt hn) h.size, fun i hi => by rw [h.cell (p := ⟨g, _, none⟩) (v.lt (by omega))]; exact v.kind i hi, fun i hi => by rw [h.cell (p := ⟨g, _, none⟩) (v.lt (by omega))]; exact v.num i hi, fun i hi => by rw [h.cell (p := ⟨g, _, none⟩) (v.lt (by omega))]; exact v.text i hi, v.size⟩

theorem Cells.take {w : World} {g off n m : Nat} {K N : Nat → Int} {S : Nat → ByteArray} (v : Cells w g off n K N S) (h : m ≤ n) : Cells w g off m K N S :=
  ⟨fun hm => v.lt (by omega), fun i hi => v.kind i (by omega), fun i hi => v.num i (by omega), fun i hi => v.text i (by omega), fun i hi => v.size i (by omega)⟩

/-- a list of n values: nil, or a slice over their cells -/
def Lst (w : World) (v : Value) (n : Nat) (K N : Nat → Int) (S : Nat → ByteArray) : Prop :=
  n ≤ maxLen ∧ ((∃ a cap, v = .slice a 0 cap ∧ n = 0) ∨ ∃ g off cap, v = .slice (some ⟨g, off, none⟩) n cap ∧ n ≤ cap ∧ cap ≤ maxLen ∧ Cells w g off n K N S)

theorem Lst.below {w w' : World} {v : Value} {n : Nat} {K N : Nat → Int} {S : Nat → ByteArray} (l : Lst w v n K N S) (h : Below w.heap.size w w') : Lst w' v n K N S := by
  obtain ⟨hn, l | ⟨g, off, cap, hv, hl, hc, c⟩⟩ := l
  · exact ⟨hn, .inl l⟩
  · exact ⟨hn, .inr ⟨g, off, cap, hv, hl, hc, c.below h⟩⟩

/-- are the first n elements alike? -/
def sameTo (K N : Nat → Int) (S : Nat → ByteArray) (K' N' : Nat → Int) (S' : Nat → ByteArray) : Nat → Bool
  | 0 => true
  | k + 1 => sameTo K N S K' N' S' k && (cmpV (K k) (N k) (S k) (K' k) (N' k) (S' k) == 0)
def sameB (n m : Nat) (K N : Nat → Int) (S : Nat → ByteArray) (K' N' : Nat → Int) (S' : Nat → ByteArray) : Bool := (n == m) && sameTo K N S K' N' S' n

theorem sameTo_not {K N : Nat → Int} {S : Nat → ByteArray} {K' N' : Nat → Int} {S' : Nat → ByteArray} {k : Nat} (h : ¬ cmpV (K k) (N k) (S k) (K' k) (N' k) (S' k) = 0) : ∀ {n : Nat}, k < n → sameTo K N S K' N' S' n = false
  | 0, hk => by omega
  | n + 1, hk => by
    by_cases e : k = n
    · subst e; simp [sameTo, h]
    · simp [sameTo, sameTo_not h (n := n) (by omega)]
theorem sameTo_self {K N : Nat → Int} {S : Nat → ByteArray} : ∀ n, sameTo K N S K N S n = true
  | 0 => rfl
  | n + 1 => by simp [sameTo, sameTo_self n, cmpV_s0 _ _ rfl]

theorem run_neq_value (k1 n1 : Int) (s1 : ByteArray) (k2 n2 : Int) (s2 : ByteArray) (w : World) :
    (binOp .neq 38 (.agg #[.int .i8 k1, .int .i64 n1, .string s1]) (.agg #[.int .i8 k2, .int .i64 n2, .string s2])).run Tryz.prog w = .ok (.bool (!(cmpV k1 n1 s1 k2 n2 s2 == 0))) w := by
  by_cases hk : k1 = k2
  · by_cases hn : n1 = n2
    · by_cases hs : s1.toList = s2.toList
      · subst hk hn
        rw [cmpV_s0 _ _ hs]
        go_simp
      · have : ¬ cmpV k1 n1 s1 k2 n2 s2 = 0 := fun h => hs (cmpV_zero h).2.2
        have e : (cmpV k1 n1 s1 k2 n2 s2 == 0) = false := by simpa using this
        rw [e]
        go_simp
    · have : ¬ cmpV k1 n1 s1 k2 n2 s2 = 0 := fun h => hn (cmpV_zero h).2.1
      have e : (cmpV k1 n1 s1 k2 n2 s2 == 0) = false := by simpa using this
      rw [e]
      go_simp
  · have : ¬ cmpV k1 n1 s1 k2 n2 s2 = 0 := fun h => hk (cmpV_zero h).1
    have e : (cmpV k1 n1 s1 k2 n2 s2 == 0) = false := by simpa using this
    rw [e]
    go_simp

end Go.Proofs.YtgfnijhhhgjabaaGreatDoor.AR
end
section
namespace Go.Proofs.YtgfnijhhhgjabaaGreatDoor.AR
open Go.RowKit
set_option linter.unusedVariables false
attribute [local go_sem ↓] Go.wp_at_zero Go.wp_at_succ

/-- the order of two lists, r rounds ahead of the shorter one's end -/
def tupC (c : Nat → Int) (n m : Nat) : Nat → Int
  | 0 => if n < m then -1 else if m < n then 1 else 0
  | r + 1 => if c (min n m - (r + 1)) = 0 then tupC c n m r else c (min n m - (r + 1))

theorem tupC_step (c : Nat → Int) (n m k : Nat) (h : k < min n m) : tupC c n m (min n m - k) = if c k = 0 then tupC c n m (min n m - (k + 1)) else c k := by
  obtain ⟨r, hr⟩ : ∃ r, min n m - k = r + 1 := ⟨min n m - k - 1, by omega⟩
  rw [hr, show min n m - (k + 1) = r by omega]
  simp only [tupC]
  rw [show min n m - (r + 1) = k by omega]

theorem Lst.form {w : World} {v : Value} {n : Nat} {K N : Nat → Int} {S : Nat → ByteArray} (l : Lst w v n K N S) : ∃ a cap, v = .slice a n cap ∧ n ≤ maxLen ∧ (0 < n → ∃ g off, a = some ⟨g, off, none⟩ ∧ Cells w g off n K N S) := by
  obtain ⟨hn, ⟨a, d, rfl, rfl⟩ | ⟨g, off, cap, rfl, _, _, c⟩⟩ := l
  · exact ⟨a, d, rfl, hn, fun h => by omega⟩
  · exact ⟨_, cap, rfl, hn, fun _ => ⟨g, off, rfl, c⟩⟩

end Go.Proofs.YtgfnijhhhgjabaaGreatDoor.AR
end
