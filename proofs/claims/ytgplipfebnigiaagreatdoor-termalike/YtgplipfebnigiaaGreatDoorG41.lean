import Derived.Test.YtgplipfebnigiaaGreatDoorG1
import Derived.Test.YtgplipfebnigiaaGreatDoorG40
import Derived.Test.YtgplipfebnigiaaGreatDoorG5
import Derived.Test.YtgplipfebnigiaaGreatDoorG18
import Derived.Deep.DeepCutAuto
import Derived.Test.YtgplipfebnigiaaGreatDoorApR
import Derived.Deep.RegionHeld3
section
namespace Go.Proofs.YtgplipfebnigiaaGreatDoor.LV
open Go.RowKit
set_option linter.unusedVariables false
attribute [local go_sem ↓] Go.wp_at_zero Go.wp_at_succ

/-- how an operation takes its values, by its number -/
def tkOf (op : Int) : Int := if op = 1 then 1 else if 2 ≤ op ∧ op ≤ 6 then 2 else if op = 7 then 4 else if 8 ≤ op ∧ op ≤ 10 then 3 else 0

/-- the table of the package lies in block 0 -/
structure Tab (w : World) : Prop where
  pos : 2 < w.heap.size
  cell : ∀ i : Nat, i < 11 → w.cell? ⟨2, i, none⟩ = some (.int .i8 (tkOf i))

theorem Tab.below {w w' : World} (t : Tab w) (h : Below w.heap.size w w') : Tab w' :=
  ⟨Nat.lt_of_lt_of_le t.pos h.size, fun i hi => by rw [h.cell (p := ⟨2, i, none⟩) t.pos]; exact t.cell i hi⟩

def numV (n : Int) : Value := .agg #[.int .i8 1, .int .i64 n, .string ⟨#[]⟩]
def textV (s : ByteArray) : Value := .agg #[.int .i8 2, .int .i64 0, .string s]

theorem number_any (n : Int) (w : World) :
    Calls Tryz.prog 135 #[.int .i64 n] w fun e w' => e = .returned (.agg #[.int .i8 1, .int .i64 n, .string ⟨#[]⟩]) ∧ Below w.heap.size w w' := by
  go_enter Tryz.func135, Tryz.ntmps135
  go_wp2
  exact bodyPost_ret (v := .agg #[.int .i8 1, .int .i64 n, .string ⟨#[]⟩]) (by simp [results, Tryz.results135, go_sem]) rfl ⟨rfl, (Below.refl _ _).alloc (Nat.le_refl _) _⟩

theorem text_any (s : ByteArray) (w : World) :
    Calls Tryz.prog 156 #[.string s] w fun e w' => e = .returned (.agg #[.int .i8 2, .int .i64 0, .string s]) ∧ Below w.heap.size w w' := by
  go_enter Tryz.func156, Tryz.ntmps156
  go_wp2
  exact bodyPost_ret (v := .agg #[.int .i8 2, .int .i64 0, .string s]) (by simp [results, Tryz.results156, go_sem]) rfl ⟨rfl, (Below.refl _ _).alloc (Nat.le_refl _) _⟩

set_option maxHeartbeats 400000 in
theorem takingOf_any (op : Int) (w : World) (ht : Tab w) (hb : -128 ≤ op ∧ op ≤ 127) :
    Calls Tryz.prog 133 #[.int .i8 op] w fun e w' => e = .returned (.int .i8 (tkOf op)) ∧ w' = w := by
  by_cases h0 : op < 0
  · have HT : Hid (tkOf op = 0) := by unfold tkOf; simp only [Hid]; split <;> first | omega | (split <;> first | omega | (split <;> first | omega | (split <;> omega)))
    go_enter Tryz.func133, Tryz.ntmps133
    go_wp2
    all_goals
      go_ret
      exact ⟨ret_int HT.out.symm, rfl⟩
  · by_cases h1 : 11 ≤ op
    · have HT : Hid (tkOf op = 0) := by unfold tkOf; simp only [Hid]; split <;> first | omega | (split <;> first | omega | (split <;> first | omega | (split <;> omega)))
      go_enter Tryz.func133, Tryz.ntmps133
      go_wp2
      all_goals
        go_ret
        exact ⟨ret_int HT.out.symm, rfl⟩
    · obtain ⟨k, rfl⟩ : ∃ k : Nat, op = k := ⟨op.toNat, by omega⟩
      have hc := ht.cell k (by omega)
      clear ht
      generalize tkOf (k : Int) = t at hc
      go_enter Tryz.func133, Tryz.ntmps133
      go_wp2
      go_ret
      exact ⟨rfl, rfl⟩

/-- the values of a list that lies in memory: element i has the kind K i, the number N i, the text S i -/
structure Vals (w : World) (g off len : Nat) (K N : Nat → Int) (S : Nat → ByteArray) : Prop where
  lt : g < w.heap.size
  kind : ∀ i, i < len → w.cell? ⟨g, off + i * 3, none⟩ = some (.int .i8 (K i))
  num : ∀ i, i < len → w.cell? ⟨g, off + i * 3 + 1, none⟩ = some (.int .i64 (N i))
  text : ∀ i, i < len → w.cell? ⟨g, off + i * 3 + 2, none⟩ = some (.string (S i))
  size : ∀ i, i < len → (S i).size ≤ maxLen

theorem Vals.below {w w' : World} {g off len : Nat} {K N : Nat → Int} {S : Nat → ByteArray} (v : Vals w g off len K N S) (h : Below w.heap.size w w') : Vals w' g off len K N S :=
  ⟨Nat.lt_of_lt_of_le v.lt h.size, fun i hi => by rw [h.cell (p := ⟨g, _, none⟩) v.lt]; exact v.kind i hi, fun i hi => by rw [h.cell (p := ⟨g, _, none⟩) v.lt]; exact v.num i hi, fun i hi => by rw [h.cell (p := ⟨g, _, none⟩) v.lt]; exact v.text i hi, v.size⟩

/-- are the first len values of that kind, and values? -/
def allOf (kind : Int) (K N : Nat → Int) (S : Nat → ByteArray) : Nat → Bool
  | 0 => true
  | i + 1 => allOf kind K N S i && (K i == kind && chk (K i) (N i) (S i) == 0)

theorem allOf_not {kind : Int} {K N : Nat → Int} {S : Nat → ByteArray} {k : Nat} : ∀ {len : Nat}, k < len → (K k == kind && chk (K k) (N k) (S k) == 0) = false → allOf kind K N S len = false
  | 0, h, _ => by omega
  | n + 1, h, hf => by
    by_cases e : k = n
    · subst e; simp only [allOf, hf, Bool.and_false]
    · simp only [allOf, allOf_not (len := n) (by omega) hf, Bool.false_and]

theorem allOf_step {kind : Int} {K N : Nat → Int} {S : Nat → ByteArray} {k : Nat} (ha : allOf kind K N S k = true) (hk : K k = kind) (hc : chk (K k) (N k) (S k) = 0) : allOf kind K N S (k + 1) = true := by
  show (allOf kind K N S k && (K k == kind && chk (K k) (N k) (S k) == 0)) = true
  rw [ha, hc]
  simp [hk]

def areB (count kind : Int) (K N : Nat → Int) (S : Nat → ByteArray) (len : Nat) : Bool := allOf kind K N S len && ((len : Int) == count)

set_option maxHeartbeats 800000 in
theorem areValues_any (K N : Nat → Int) (S : Nat → ByteArray) (g off len cap : Nat) (count kind : Int) (w : World) (hv : Vals w g off len K N S) (hl : len ≤ maxLen) :
    Calls Tryz.prog 134 #[.slice (some ⟨g, off, none⟩) len cap, .int .i64 count, .int .i8 kind] w fun e w' => e = .returned (.bool (areB count kind K N S len)) ∧ Below w.heap.size w w' := by
  unfold maxLen at hl
  go_enter Tryz.func134, Tryz.ntmps134
  go_wp2
  go_loopw [8, 11] (fun _ i wr => ∃ k : Nat, k ≤ len ∧ i = .int .i64 k ∧ Hid (allOf kind K N S k = true) ∧ Below w.heap.size w wr) (fun _ i _ => len - (intOf i).toNat)
  case atStart => exact ⟨0, Nat.zero_le _, rfl, rfl, Below.refl _ _⟩
  case round =>
    obtain ⟨k, hk, rfl, HA, bel⟩ := hrel
    by_cases hlt : k < len
    · have vv := hv.below bel
      have hck := vv.kind k hlt
      have hcn := vv.num k hlt
      have hct := vv.text k hlt
      have hsz := hv.size k hlt
      clear hv vv
      generalize hKk : K k = kk at hck
      generalize hNk : N k = nn at hcn
      generalize hSk : S k = ss at hct hsz
      have HK : Hid (K k = kk) := hKk
      have HN : Hid (N k = nn) := hNk
      have HS : Hid (S k = ss) := hSk
      clear hKk hNk hSk
      have hz : w.heap.size ≤ wr.heap.size := bel.size
      by_cases hkd : kk = kind
      · have hkd' : (kk != kind) = false := by simpa using hkd
        have HKD : Hid (kk = kind) := hkd
        clear hkd
        by_cases hchk : chk kk nn ss = 0
        · go_wp2_with fail
          refine (vcheck_any _ _ _ _ hsz).mono ?_
          rintro e w1 ⟨rfl, hb1⟩
          have bel1 : Below w.heap.size w w1 := (bel.alloc hz _).trans (hb1.mono (by simp; omega))
          have HA1 : Hid (allOf kind K N S (k + 1) = true) := allOf_step HA.out (HK.out.trans HKD.out) (by rw [HK.out, HN.out, HS.out]; exact hchk)
          go_wp2
          go_roundw
          case rel => exact ⟨k + 1, by omega, by go_num, HA1, bel1⟩
          case measure => simp [intOf]; omega
        · have hchk' : (chk kk nn ss != 0) = true := by simpa using hchk
          have HC : Hid (¬ chk kk nn ss = 0) := hchk
          clear hchk
          go_wp2_with fail
          refine (vcheck_any _ _ _ _ hsz).mono ?_
          rintro e w1 ⟨rfl, hb1⟩
          have bel1 : Below w.heap.size w w1 := (bel.alloc hz _).trans (hb1.mono (by simp; omega))
          have HF : Hid (areB count kind K N S len = false) := by
            show areB count kind K N S len = false
            unfold areB
            rw [allOf_not hlt (by rw [HK.out, HN.out, HS.out]; simp [HC.out]), Bool.false_and]
          go_wp2
          go_ret
          exact ⟨ret_bool HF.out.symm, bel1⟩
      · have hkd' : (kk != kind) = true := by simpa using hkd
        have HF : Hid (areB count kind K N S len = false) := by
          show areB count kind K N S len = false
          unfold areB
          rw [allOf_not hlt (by rw [HK.out]; simp [hkd]), Bool.false_and]
        clear hkd
        go_wp2
        go_ret
        exact ⟨ret_bool HF.out.symm, bel.alloc hz _⟩
    · obtain rfl : k = len := by omega
      go_wp2
      go_ret
      exact ⟨ret_bool (by unfold areB; rw [HA.out, Bool.true_and]), bel⟩

end Go.Proofs.YtgplipfebnigiaaGreatDoor.LV
end
section
namespace Go.Proofs.YtgplipfebnigiaaGreatDoor.LV
open Go.RowKit
set_option linter.unusedVariables false
attribute [local go_sem ↓] Go.wp_at_zero Go.wp_at_succ

set_option maxHeartbeats 400000 in
theorem ofNumbers_add (a b : Int) (w : World) :
    Calls Tryz.prog 136 #[.int .i8 2, .int .i64 a, .int .i64 b] w fun e w' => e = .returned (.tuple #[.agg #[.int .i8 1, .int .i64 (wrap64 (a + b)), .string ⟨#[]⟩], .bool true]) ∧ Below w.heap.size w w' := by
  go_enter Tryz.func136, Tryz.ntmps136
  go_wp2_with (go_at_call 135; refine (number_any _ _).mono ?_; rintro e w1 ⟨rfl, hb1⟩; obtain ⟨hc1, hf1⟩ := bcell hb1)
  exact bodyPost_ret (v := .tuple #[.agg #[.int .i8 1, .int .i64 (wrap64 (a + b)), .string ⟨#[]⟩], .bool true]) (by simp [results, Tryz.results136, go_sem, hc1]) rfl
    ⟨rfl, (((((Below.refl _ _).alloc (Nat.le_refl _) _).trans (hb1.mono (by simp))).setCell (by simp) _).setCell (by simp) _).setCell (by simp) _⟩

set_option maxHeartbeats 400000 in
theorem ofNumbers_sub (a b : Int) (w : World) :
    Calls Tryz.prog 136 #[.int .i8 3, .int .i64 a, .int .i64 b] w fun e w' => e = .returned (.tuple #[.agg #[.int .i8 1, .int .i64 (wrap64 (a - b)), .string ⟨#[]⟩], .bool true]) ∧ Below w.heap.size w w' := by
  go_enter Tryz.func136, Tryz.ntmps136
  go_wp2_with (go_at_call 135; refine (number_any _ _).mono ?_; rintro e w1 ⟨rfl, hb1⟩; obtain ⟨hc1, hf1⟩ := bcell hb1)
  exact bodyPost_ret (v := .tuple #[.agg #[.int .i8 1, .int .i64 (wrap64 (a - b)), .string ⟨#[]⟩], .bool true]) (by simp [results, Tryz.results136, go_sem, hc1]) rfl
    ⟨rfl, (((((Below.refl _ _).alloc (Nat.le_refl _) _).trans (hb1.mono (by simp))).setCell (by simp) _).setCell (by simp) _).setCell (by simp) _⟩

set_option maxHeartbeats 400000 in
theorem ofNumbers_mul (a b : Int) (w : World) :
    Calls Tryz.prog 136 #[.int .i8 4, .int .i64 a, .int .i64 b] w fun e w' => e = .returned (.tuple #[.agg #[.int .i8 1, .int .i64 (wrap64 (a * b)), .string ⟨#[]⟩], .bool true]) ∧ Below w.heap.size w w' := by
  go_enter Tryz.func136, Tryz.ntmps136
  go_wp2_with (go_at_call 135; refine (number_any _ _).mono ?_; rintro e w1 ⟨rfl, hb1⟩; obtain ⟨hc1, hf1⟩ := bcell hb1)
  exact bodyPost_ret (v := .tuple #[.agg #[.int .i8 1, .int .i64 (wrap64 (a * b)), .string ⟨#[]⟩], .bool true]) (by simp [results, Tryz.results136, go_sem, hc1]) rfl
    ⟨rfl, (((((Below.refl _ _).alloc (Nat.le_refl _) _).trans (hb1.mono (by simp))).setCell (by simp) _).setCell (by simp) _).setCell (by simp) _⟩

/-- two numbers that lie behind one another in a block -/
structure Nums2 (w : World) (g off : Nat) (a b : Int) : Prop where
  lt : g < w.heap.size
  k0 : w.cell? ⟨g, off, none⟩ = some (.int .i8 1)
  n0 : w.cell? ⟨g, off + 1, none⟩ = some (.int .i64 a)
  t0 : w.cell? ⟨g, off + 2, none⟩ = some (.string ⟨#[]⟩)
  k1 : w.cell? ⟨g, off + 3, none⟩ = some (.int .i8 1)
  n1 : w.cell? ⟨g, off + 4, none⟩ = some (.int .i64 b)
  t1 : w.cell? ⟨g, off + 5, none⟩ = some (.string ⟨#[]⟩)

theorem Nums2.vals {w : World} {g off : Nat} {a b : Int} (h : Nums2 w g off a b) : Vals w g off 2 (fun _ => 1) (fun i => if i = 0 then a else b) (fun _ => ⟨#[]⟩) := by
  refine ⟨h.lt, ?_, ?_, ?_, fun _ _ => by decide⟩ <;> intro i hi <;> obtain rfl | rfl : i = 0 ∨ i = 1 := by omega
  · simpa using h.k0
  · simpa using h.k1
  · simpa using h.n0
  · simpa using h.n1
  · simpa using h.t0
  · simpa using h.t1

theorem areB_nums2 (a b : Int) : areB 2 1 (fun _ => 1) (fun i => if i = 0 then a else b) (fun _ => ⟨#[]⟩) 2 = true := by
  have h : ∀ n, chk 1 n ⟨#[]⟩ = 0 := fun n => (chk_ok (.inl ⟨rfl, by rw [ByteArray.toList_eq]⟩)).symm
  simp [areB, allOf, h]

set_option maxHeartbeats 1600000 in
theorem arith_add (a b : Int) (g off cap : Nat) (w : World) (ht : Tab w) (hn : Nums2 w g off a b) :
    Calls Tryz.prog 111 #[.int .i8 2, .slice (some ⟨g, off, none⟩) 2 cap] w fun e w' => e = .returned (.tuple #[.agg #[.int .i8 1, .int .i64 (wrap64 (a + b)), .string ⟨#[]⟩], .bool true]) ∧ Below w.heap.size w w' := by
  have hlt := hn.lt
  have hn0 := hn.n0
  have hn1 := hn.n1
  go_enter Tryz.func111, Tryz.ntmps111
  go_wp2_with fail
  refine (takingOf_any _ _ (ht.below ((Below.refl _ _).alloc (Nat.le_refl _) _)) (by omega)).mono ?_
  rintro e w0 ⟨rfl, rfl⟩
  have hk : tkOf 2 = 2 := by decide
  go_wp2_with fail
  have hv0 := (hn.vals).below ((Below.refl w.heap.size w).alloc (Nat.le_refl _) (.cells #[.int .i8 0, .int .i64 0, .string ⟨#[]⟩] 44))
  refine (areValues_any _ _ _ g off 2 cap 2 1 _ hv0 (by unfold maxLen; omega)).mono ?_
  rintro e w1 ⟨rfl, hb1⟩
  have hB : areB 2 1 (fun _ => 1) (fun i => if i = 0 then a else b) (fun _ => ⟨#[]⟩) 2 = true := areB_nums2 a b
  have hz1 : w.heap.size < w1.heap.size := by have := hb1.size; simp at this; omega
  have bel1 : Below w.heap.size w w1 := ((Below.refl _ _).alloc (Nat.le_refl _) _).trans (hb1.mono (by simp))
  obtain ⟨hc1, hf1⟩ := bcell hb1
  clear hn hv0
  go_wp2_with fail
  go_region_with (go_at_call 136; refine (ofNumbers_add _ _ _).mono ?_; rintro e w2 ⟨rfl, hb2⟩; obtain ⟨hc2, hf2⟩ := bcell ((hb1.drew).trans (hb2.mono hb1.size)))
  all_goals
    go_wp2
    exact bodyPost_ret (v := .tuple #[.agg #[.int .i8 1, .int .i64 (wrap64 (a + b)), .string ⟨#[]⟩], .bool true]) (by simp [results, Tryz.results111, go_sem, hc2]) rfl
      ⟨rfl, (((bel1.drew.trans (hb2.mono (Nat.le_of_lt hz1))).setCell (by simp) _).setCell (by simp) _).setCell (by simp) _⟩

set_option maxHeartbeats 1600000 in
theorem arith_sub (a b : Int) (g off cap : Nat) (w : World) (ht : Tab w) (hn : Nums2 w g off a b) :
    Calls Tryz.prog 111 #[.int .i8 3, .slice (some ⟨g, off, none⟩) 2 cap] w fun e w' => e = .returned (.tuple #[.agg #[.int .i8 1, .int .i64 (wrap64 (a - b)), .string ⟨#[]⟩], .bool true]) ∧ Below w.heap.size w w' := by
  have hlt := hn.lt
  have hn0 := hn.n0
  have hn1 := hn.n1
  go_enter Tryz.func111, Tryz.ntmps111
  go_wp2_with fail
  refine (takingOf_any _ _ (ht.below ((Below.refl _ _).alloc (Nat.le_refl _) _)) (by omega)).mono ?_
  rintro e w0 ⟨rfl, rfl⟩
  have hk : tkOf 3 = 2 := by decide
  go_wp2_with fail
  have hv0 := (hn.vals).below ((Below.refl w.heap.size w).alloc (Nat.le_refl _) (.cells #[.int .i8 0, .int .i64 0, .string ⟨#[]⟩] 44))
  refine (areValues_any _ _ _ g off 2 cap 2 1 _ hv0 (by unfold maxLen; omega)).mono ?_
  rintro e w1 ⟨rfl, hb1⟩
  have hB : areB 2 1 (fun _ => 1) (fun i => if i = 0 then a else b) (fun _ => ⟨#[]⟩) 2 = true := areB_nums2 a b
  have hz1 : w.heap.size < w1.heap.size := by have := hb1.size; simp at this; omega
  have bel1 : Below w.heap.size w w1 := ((Below.refl _ _).alloc (Nat.le_refl _) _).trans (hb1.mono (by simp))
  obtain ⟨hc1, hf1⟩ := bcell hb1
  clear hn hv0
  go_wp2_with fail
  go_region_with (go_at_call 136; refine (ofNumbers_sub _ _ _).mono ?_; rintro e w2 ⟨rfl, hb2⟩; obtain ⟨hc2, hf2⟩ := bcell ((hb1.drew).trans (hb2.mono hb1.size)))
  all_goals
    go_wp2
    exact bodyPost_ret (v := .tuple #[.agg #[.int .i8 1, .int .i64 (wrap64 (a - b)), .string ⟨#[]⟩], .bool true]) (by simp [results, Tryz.results111, go_sem, hc2]) rfl
      ⟨rfl, (((bel1.drew.trans (hb2.mono (Nat.le_of_lt hz1))).setCell (by simp) _).setCell (by simp) _).setCell (by simp) _⟩

set_option maxHeartbeats 1600000 in
theorem arith_mul (a b : Int) (g off cap : Nat) (w : World) (ht : Tab w) (hn : Nums2 w g off a b) :
    Calls Tryz.prog 111 #[.int .i8 4, .slice (some ⟨g, off, none⟩) 2 cap] w fun e w' => e = .returned (.tuple #[.agg #[.int .i8 1, .int .i64 (wrap64 (a * b)), .string ⟨#[]⟩], .bool true]) ∧ Below w.heap.size w w' := by
  have hlt := hn.lt
  have hn0 := hn.n0
  have hn1 := hn.n1
  go_enter Tryz.func111, Tryz.ntmps111
  go_wp2_with fail
  refine (takingOf_any _ _ (ht.below ((Below.refl _ _).alloc (Nat.le_refl _) _)) (by omega)).mono ?_
  rintro e w0 ⟨rfl, rfl⟩
  have hk : tkOf 4 = 2 := by decide
  go_wp2_with fail
  have hv0 := (hn.vals).below ((Below.refl w.heap.size w).alloc (Nat.le_refl _) (.cells #[.int .i8 0, .int .i64 0, .string ⟨#[]⟩] 44))
  refine (areValues_any _ _ _ g off 2 cap 2 1 _ hv0 (by unfold maxLen; omega)).mono ?_
  rintro e w1 ⟨rfl, hb1⟩
  have hB : areB 2 1 (fun _ => 1) (fun i => if i = 0 then a else b) (fun _ => ⟨#[]⟩) 2 = true := areB_nums2 a b
  have hz1 : w.heap.size < w1.heap.size := by have := hb1.size; simp at this; omega
  have bel1 : Below w.heap.size w w1 := ((Below.refl _ _).alloc (Nat.le_refl _) _).trans (hb1.mono (by simp))
  obtain ⟨hc1, hf1⟩ := bcell hb1
  clear hn hv0
  go_wp2_with fail
  go_region_with (go_at_call 136; refine (ofNumbers_mul _ _ _).mono ?_; rintro e w2 ⟨rfl, hb2⟩; obtain ⟨hc2, hf2⟩ := bcell ((hb1.drew).trans (hb2.mono hb1.size)))
  all_goals
    go_wp2
    exact bodyPost_ret (v := .tuple #[.agg #[.int .i8 1, .int .i64 (wrap64 (a * b)), .string ⟨#[]⟩], .bool true]) (by simp [results, Tryz.results111, go_sem, hc2]) rfl
      ⟨rfl, (((bel1.drew.trans (hb2.mono (Nat.le_of_lt hz1))).setCell (by simp) _).setCell (by simp) _).setCell (by simp) _⟩

end Go.Proofs.YtgplipfebnigiaaGreatDoor.LV
end
section
namespace Go.Proofs.YtgplipfebnigiaaGreatDoor.LV
open Go.RowKit Go.Maps
set_option linter.unusedVariables false
set_option linter.unusedSimpArgs false
attribute [local go_sem ↓] Go.wp_at_zero Go.wp_at_succ

theorem variable_any (s : ByteArray) (w : World) : Calls Tryz.prog 19 #[.string s] w fun e w' => e = .returned (.agg #[.string s, .int .i8 0, .int .i64 0, .string ⟨#[]⟩]) ∧ Below w.heap.size w w' := by
  go_enter Tryz.func19, Tryz.ntmps19
  go_wp2
  exact bodyPost_ret (v := .agg #[.string s, .int .i8 0, .int .i64 0, .string ⟨#[]⟩]) (by simp [results, Tryz.results19, go_sem]) rfl ⟨rfl, (Below.refl _ _).alloc (Nat.le_refl _) _⟩
theorem given_any (n : Int) (w : World) : Calls Tryz.prog 35 #[.int .i64 n] w fun e w' => e = .returned (.agg #[.string ⟨#[]⟩, .int .i8 1, .int .i64 n, .string ⟨#[]⟩]) ∧ Below w.heap.size w w' := by
  have HR : Hid (RL (w.alloc (.cells #[.string ⟨#[]⟩, .int .i8 0, .int .i64 0, .string ⟨#[]⟩] 46)) w.heap.size 46 [.string ⟨#[]⟩, .int .i8 0, .int .i64 0, .string ⟨#[]⟩]) := rl_new w #[.string ⟨#[]⟩, .int .i8 0, .int .i64 0, .string ⟨#[]⟩] 46
  have HB : Hid (Below w.heap.size w (w.alloc (.cells #[.string ⟨#[]⟩, .int .i8 0, .int .i64 0, .string ⟨#[]⟩] 46))) := (Below.refl _ _).alloc (Nat.le_refl _) _
  go_enter Tryz.func35, Tryz.ntmps35
  go_wp2_with fail
  refine (Num_any n _).mono ?_
  rintro e w1 ⟨rfl, b1⟩
  have h1 : RL w1 w.heap.size 46 _ := RL.below HR.out b1
  have B1 : Below w.heap.size w w1 := HB.out.trans (b1.mono HB.out.size)
  have c0 := h1.at (j := 0) rfl
  have c1 := h1.at (j := 1) rfl
  have c2 := h1.at (j := 2) rfl
  have c3 := h1.at (j := 3) rfl
  have f0 := World.rowIs.frozen h1 0
  have f1 := World.rowIs.frozen h1 1
  have f2 := World.rowIs.frozen h1 2
  have f3 := World.rowIs.frozen h1 3
  clear b1 HR HB
  have H1 : Hid (RL w1 w.heap.size 46 _) := h1
  have HB1 : Hid (Below w.heap.size w w1) := B1
  clear h1 B1
  go_wp2
  refine bodyPost_ret (v := .agg #[.string ⟨#[]⟩, .int .i8 1, .int .i64 n, .string ⟨#[]⟩]) (rl_results Tryz.results35 (b := w.heap.size) rfl (run_loadVar_mid _ _ 0 46 [.string ⟨#[]⟩, .int .i8 1, .int .i64 n, .string ⟨#[]⟩] _ (RL.range ((((H1.out.set 0 (.string ⟨#[]⟩)).set 1 (.int .i8 1)).set 2 (.int .i64 n)).set 3 (.string ⟨#[]⟩))) Tryz.underlying46 rfl (by kernel_rfl))) rfl ⟨rfl, ?_⟩
  exact (((HB1.out.setCell (p := ⟨w.heap.size, 0, none⟩) (by simp) _).setCell (p := ⟨w.heap.size, 1, none⟩) (by simp) _).setCell (p := ⟨w.heap.size, 2, none⟩) (by simp) _).setCell (p := ⟨w.heap.size, 3, none⟩) (by simp) _
theorem rl_results3 {fn : Func} {sl s2 : Nat} {ty : TypeId} (hr : fn.results = #[.cell sl ty, .tmp s2]) {W : World} {tmps : Array Value} {b : Nat} {v u : Value} (h2 : tmps.getD sl undef = .pointer (some ⟨b, 0, none⟩)) (h3 : tmps.getD s2 undef = u) (hl : (loadVar ty ⟨b, 0, none⟩).run Tryz.prog W = .ok v W) :
    (results fn tmps).run Tryz.prog W = .ok (.tuple #[v, u]) W := by
  have h2' : tmps[sl]?.getD undef = .pointer (some ⟨b, 0, none⟩) := by simpa using h2
  have h3' : tmps[s2]?.getD undef = u := by simpa using h3
  unfold results
  rw [hr]
  simp [h2', h3', asAddr, hl, Result.andThen]
theorem optV_form (o : Option V) : ∃ k n s b, optV o = .tuple #[.agg #[.int .i8 k, .int .i64 n, .string s], .bool b] := by
  cases o with
  | none => exact ⟨_, _, _, _, rfl⟩
  | some a => exact ⟨_, _, _, _, rfl⟩
set_option maxHeartbeats 3200000 in
theorem work_leaf (t : T) (a : Option Addr) (c : Nat) (v : Value) (l : List B) (w : World) (ht : t.wf) (hl : Lb w v l) :
    Calls Tryz.prog 74 #[(E.mk 0 t []).val a c, v] w fun e w' => e = .returned (optV (valOf t l)) ∧ Below w.heap.size w w' := by
  unfold E.val
  simp only [op_mk, t_mk, kids_mk, List.length_nil]
  have BA : Below w.heap.size w (w.alloc (.cells #[.int .i8 0, .string t.v, .int .i8 t.a.k, .int .i64 t.a.n, .string t.a.s, .slice a 0 c] 74)) := (Below.refl _ _).alloc (Nat.le_refl _) _
  have BB : Below w.heap.size w ((w.alloc (.cells #[.int .i8 0, .string t.v, .int .i8 t.a.k, .int .i64 t.a.n, .string t.a.s, .slice a 0 c] 74)).alloc (.cells #[.int .i8 0, .int .i64 0, .string ⟨#[]⟩] 44)) := BA.alloc BA.size _
  have HV : Hid _ := valueOf_any t v l _ ht (hl.below BB)
  have HR : Hid (RL ((w.alloc (.cells #[.int .i8 0, .string t.v, .int .i8 t.a.k, .int .i64 t.a.n, .string t.a.s, .slice a 0 c] 74)).alloc (.cells #[.int .i8 0, .int .i64 0, .string ⟨#[]⟩] 44)) (w.heap.size + 1) 44 [.int .i8 0, .int .i64 0, .string ⟨#[]⟩]) := by
    have := rl_new (w.alloc (.cells #[.int .i8 0, .string t.v, .int .i8 t.a.k, .int .i64 t.a.n, .string t.a.s, .slice a 0 c] 74)) #[.int .i8 0, .int .i64 0, .string ⟨#[]⟩] 44
    rw [World.size_alloc] at this
    exact this
  have HB : Hid (Below w.heap.size w _) := BB
  obtain ⟨k, n, s, b, ho⟩ := optV_form (valOf t l)
  rw [ho] at HV ⊢
  obtain ⟨a0, c0, rfl, -, -, -⟩ := hl.form
  clear BA BB hl ho ht
  go_enter Tryz.func74, Tryz.ntmps74
  go_wp2_with fail
  refine Calls.mono HV.out ?_
  rintro e w1 ⟨rfl, b1⟩
  have h1 : RL w1 (w.heap.size + 1) 44 _ := RL.below HR.out b1
  have H1 : Hid (RL w1 (w.heap.size + 1) 44 _) := h1
  have HB1 : Hid (Below w.heap.size w w1) := HB.out.trans (b1.mono HB.out.size)
  have c0 := h1.at (j := 0) rfl
  have c1 := h1.at (j := 1) rfl
  have c2 := h1.at (j := 2) rfl
  have f0 := World.rowIs.frozen h1 0
  have f1 := World.rowIs.frozen h1 1
  have f2 := World.rowIs.frozen h1 2
  clear b1 HR HB h1 HV
  go_wp2
  refine bodyPost_ret (v := .tuple #[.agg #[.int .i8 k, .int .i64 n, .string s], .bool b]) (rl_results3 Tryz.results74 (b := w.heap.size + 1) rfl rfl (run_loadVar_mid _ _ 0 44 [.int .i8 k, .int .i64 n, .string s] _ (RL.range (((H1.out.set 0 (.int .i8 k)).set 1 (.int .i64 n)).set 2 (.string s))) Tryz.underlying44 rfl (by kernel_rfl))) rfl ⟨rfl, ?_⟩
  exact ((HB1.out.setCell (p := ⟨w.heap.size + 1, 0, none⟩) (by simp) _).setCell (p := ⟨w.heap.size + 1, 1, none⟩) (by simp) _).setCell (p := ⟨w.heap.size + 1, 2, none⟩) (by simp) _
theorem infoValE : (Tryz.prog.info? 44).map (fun i => (i.zero, i.size, i.bytes)) = some (some (.agg #[.int .i8 0, .int .i64 0, .string ⟨#[]⟩]), 3, 32) := by kernel_rfl
/-- what work keeps: the expression's box, the result, the values that grow -/
structure WSt (w : World) (R : List Value) (vs : List V) (k : Nat) (a' : Option Addr) (c' : Nat) (wr : World) : Prop where
  bel : Below w.heap.size w wr
  sz : w.heap.size + 2 ≤ wr.heap.size
  r0 : RL wr w.heap.size 74 R
  r1 : RL wr (w.heap.size + 1) 44 [.int .i8 0, .int .i64 0, .string ⟨#[]⟩]
  own : wr.ownsRow (w.heap.size + 2) 44 3 (.slice a' k c') k ((vs.take k).flatMap V.cells)
theorem WSt.keep {w : World} {R : List Value} {vs : List V} {k : Nat} {a' : Option Addr} {c' : Nat} {wr wr' : World} (h : WSt w R vs k a' c' wr) (b : Below wr.heap.size wr wr') : WSt w R vs k a' c' wr' :=
  ⟨h.bel.trans (b.mono h.bel.size), Nat.le_trans h.sz b.size, h.r0.below b, h.r1.below b, own_below h.own b⟩
theorem WSt.step {w : World} {R : List Value} {vs : List V} {k : Nat} {a' : Option Addr} {c' : Nat} {U w3 : World} {news : List Value} {v' : Value} (h : WSt w R vs k a' c' U) (hT : (vs.take (k + 1)).flatMap V.cells = (vs.take k).flatMap V.cells ++ news)
    (hown' : w3.ownsRow (w.heap.size + 2) 44 3 v' (k + 1) ((vs.take k).flatMap V.cells ++ news)) (hgrow : U.grownBy w3 (Value.slice a' k c').ownBlock) :
    ∃ a2 c2, v' = .slice a2 (k + 1) c2 ∧ WSt w R vs (k + 1) a2 c2 w3 := by
  obtain ⟨a2, c2, rfl, _⟩ := own_form hown'
  have hlt := fun g (hg : (Value.slice a' k c').ownBlock = some g) => (h.own.lt g hg).1
  have kb : ∀ j, j < w.heap.size + 2 → w3.heap[j]? = U.heap[j]? := fun j hj => hgrow.block j (Nat.lt_of_lt_of_le hj h.sz) (fun e => by have := hlt j e.symm; omega)
  refine ⟨a2, c2, rfl, ⟨h.bel.grown hgrow (by have := h.sz; omega) (fun j hj => by have := hlt j hj; omega), ?_, World.rowIs.of_block h.r0 (kb _ (by omega)), World.rowIs.of_block h.r1 (kb _ (by omega)), by rw [hT]; exact hown'⟩⟩
  have h1 := h.sz
  have h2 := hgrow.size
  omega
theorem wst_new (w : World) (R : Array Value) (vs : List V) : WSt w R.toList vs 0 none 0 ((w.alloc (.cells R 74)).alloc (.cells #[.int .i8 0, .int .i64 0, .string ⟨#[]⟩] 44)) := by
  have B1 : Below w.heap.size w (w.alloc (.cells R 74)) := (Below.refl _ _).alloc (Nat.le_refl _) _
  have r0 := rl_new w R 74
  have r1 := rl_new (w.alloc (.cells R 74)) #[.int .i8 0, .int .i64 0, .string ⟨#[]⟩] 44
  rw [World.size_alloc] at r1
  refine ⟨B1.alloc B1.size _, by simp, r0.below ((Below.refl _ _).alloc (Nat.le_refl _) _), r1, ?_⟩
  simp only [List.take_zero, List.flatMap_nil]
  exact World.ownsRow_nil _ _ _ _
def numV2 (n : Int) : V := ⟨1, n, noS⟩
def addE (t1 t2 : T) : E := .mk 2 T0 [.mk 0 t1 [], .mk 0 t2 []]
theorem nums_own {w : World} {b : Nat} {v : Value} {x y : Int} (h : w.ownsRow b 44 3 v 2 (([numV2 x, numV2 y] : List V).flatMap V.cells)) : ∃ g off c, v = .slice (some ⟨g, off, none⟩) 2 c ∧ Nums2 w g off x y := by
  obtain ⟨_, a, c, rfl, _, _, hc⟩ := ls_own h
  obtain ⟨g, off, rfl, hg, hf⟩ := hc (by omega)
  have q := fun i (h : i < 6) => hf i h
  exact ⟨g, off, c, rfl, ⟨hg, q 0 (by omega), q 1 (by omega), q 2 (by omega), q 3 (by omega), q 4 (by omega), q 5 (by omega)⟩⟩
set_option maxHeartbeats 6400000 in
set_option maxRecDepth 100000 in
theorem work_add (t1 t2 : T) (x y : Int) (a : Option Addr) (c : Nat) (v : Value) (l : List B) (w : World) (d : Nat) (ht : Tab w) (hE : EIs w (d + 1) (addE t1 t2) a c) (hw1 : t1.wf) (hw2 : t2.wf) (hl : Lb w v l) (h1 : valOf t1 l = some (numV2 x)) (h2 : valOf t2 l = some (numV2 y)) :
    Calls Tryz.prog 74 #[(addE t1 t2).val a c, v] w fun e w' => e = .returned (.tuple #[.agg #[.int .i8 1, .int .i64 (wrap64 (x + y)), .string ⟨#[]⟩], .bool true]) ∧ Below w.heap.size w w' := by
  obtain ⟨i0, hi0, hz0, hz1, hz2⟩ := info_parts infoValE
  obtain ⟨_, _, hc1, hc2, hk⟩ := hE
  unfold addE at hc1 hk
  simp only [kids_mk] at hc1 hk
  have h2l : ([E.mk 0 t1 [], E.mk 0 t2 []] : List E).length = 2 := rfl
  rw [h2l] at hc1 hk
  obtain ⟨g, off, rfl, hg, hk⟩ := hk (by omega)
  have HK : Hid (∀ i, i < 2 → ∃ a' c', ∀ u, Below w.heap.size w u → XAt u g (off + i * 6) 0 (atT [t1, t2] i) (.slice a' 0 c')) := fun i hi => by
    obtain ⟨a', c', hx, _⟩ := hk i hi
    refine ⟨a', c', fun u hu => ?_⟩
    have hx2 := hx.below hu hg
    have : i = 0 ∨ i = 1 := by omega
    rcases this with rfl | rfl <;> exact hx2
  have HW : Hid (∀ i, i < 2 → ∀ a' c' u, Below w.heap.size w u → Calls Tryz.prog 74 #[.agg #[.int .i8 0, .string (atT [t1, t2] i).v, .int .i8 (atT [t1, t2] i).a.k, .int .i64 (atT [t1, t2] i).a.n, .string (atT [t1, t2] i).a.s, .slice a' 0 c'], v] u fun e w' => e = .returned (.tuple #[.agg #[.int .i8 1, .int .i64 (if i = 0 then x else y), .string ⟨#[]⟩], .bool true]) ∧ Below u.heap.size u w') := fun i hi a' c' u hu => by
    have : i = 0 ∨ i = 1 := by omega
    rcases this with rfl | rfl
    · have := work_leaf t1 a' c' v l u hw1 (hl.below hu)
      rw [h1] at this
      exact this
    · have := work_leaf t2 a' c' v l u hw2 (hl.below hu)
      rw [h2] at this
      exact this
  have HT : Hid (∀ u, Below w.heap.size w u → Tab u) := fun u hu => ht.below hu
  have HTK : Hid (∀ k, k < 2 → (([numV2 x, numV2 y] : List V).take (k + 1)).flatMap V.cells = (([numV2 x, numV2 y] : List V).take k).flatMap V.cells ++ [.int .i8 1, .int .i64 (if k = 0 then x else y), .string ⟨#[]⟩]) := fun k hk => by
    have : k = 0 ∨ k = 1 := by omega
    rcases this with rfl | rfl <;> rfl
  obtain ⟨a0, c0, rfl, -, -, -⟩ := hl.form
  have HS0 : Hid (WSt w [.int .i8 2, .string ⟨#[]⟩, .int .i8 0, .int .i64 0, .string ⟨#[]⟩, .slice (some ⟨g, off, none⟩) 2 c] [numV2 x, numV2 y] 0 none 0 ((w.alloc (.cells #[.int .i8 2, .string ⟨#[]⟩, .int .i8 0, .int .i64 0, .string ⟨#[]⟩, .slice (some ⟨g, off, none⟩) 2 c] 74)).alloc (.cells #[.int .i8 0, .int .i64 0, .string ⟨#[]⟩] 44))) := wst_new w #[.int .i8 2, .string ⟨#[]⟩, .int .i8 0, .int .i64 0, .string ⟨#[]⟩, .slice (some ⟨g, off, none⟩) 2 c] _
  have hval : (addE t1 t2).val (some ⟨g, off, none⟩) c = .agg #[.int .i8 2, .string ⟨#[]⟩, .int .i8 0, .int .i64 0, .string ⟨#[]⟩, .slice (some ⟨g, off, none⟩) 2 c] := rfl
  rw [hval]
  obtain ⟨zz, hzz⟩ : ∃ zz, wrap64 (x + y) = zz := ⟨_, rfl⟩
  rw [hzz]
  have HZ : Hid (wrap64 (x + y) = zz) := hzz
  clear hval ht hl h1 h2 hk hw1 hw2 hc2 h2l hg hzz
  go_enter Tryz.func74, Tryz.ntmps74
  go_upto_region 3 with fail
  generalize (w.alloc (.cells #[.int .i8 2, .string ⟨#[]⟩, .int .i8 0, .int .i64 0, .string ⟨#[]⟩, .slice (some ⟨g, off, none⟩) 2 c] 74)).alloc (.cells #[.int .i8 0, .int .i64 0, .string ⟨#[]⟩] 44) = W at HS0 ⊢
  have q5 := HS0.out.r0.at (j := 5) rfl
  go_wp2
  clear q5
  go_loopw [6, 23] (fun kv i wr => ∃ (k : Nat) (a' : Option Addr) (c' : Nat), k ≤ 2 ∧ i = .int .i64 k ∧ kv = .slice a' k c' ∧ Hid (WSt w [.int .i8 2, .string ⟨#[]⟩, .int .i8 0, .int .i64 0, .string ⟨#[]⟩, .slice (some ⟨g, off, none⟩) 2 c] [numV2 x, numV2 y] k a' c' wr)) (fun _ i _ => 2 - (intOf i).toNat)
  case atStart => exact ⟨0, none, 0, by omega, rfl, rfl, HS0⟩
  case round =>
    obtain ⟨k, a', c', hk, rfl, rfl, HH⟩ := hrel
    by_cases hlt : k < 2
    · have hlt' : (k : Int) < 2 := by omega
      have hk0 : (0 : Int) ≤ (k : Int) := by omega
      obtain ⟨a1, c1, hX⟩ := HK.out k hlt
      obtain ⟨x0, x1, x2, x3, x4, x5⟩ := hX wr HH.out.bel
      have HWk : Hid _ := HW.out k hlt a1 c1
      have HTk : Hid _ := HTK.out k hlt
      generalize atT [t1, t2] k = tk at x0 x1 x2 x3 x4 HWk
      generalize (if k = 0 then x else y) = z at HWk HTk
      have HB1 : Hid (WSt w [.int .i8 2, .string ⟨#[]⟩, .int .i8 0, .int .i64 0, .string ⟨#[]⟩, .slice (some ⟨g, off, none⟩) 2 c] [numV2 x, numV2 y] k a' c' (wr.alloc (.cells #[.int .i8 0, .string tk.v, .int .i8 tk.a.k, .int .i64 tk.a.n, .string tk.a.s, .slice a1 0 c1] 74))) := HH.out.keep ((Below.refl _ _).alloc (Nat.le_refl _) _)
      clear hX
      go_wp2_with fail
      refine Calls.mono (HWk.out _ HB1.out.bel) ?_
      rintro e w1 ⟨rfl, b1⟩
      have H1 : Hid (WSt w [.int .i8 2, .string ⟨#[]⟩, .int .i8 0, .int .i64 0, .string ⟨#[]⟩, .slice (some ⟨g, off, none⟩) 2 c] [numV2 x, numV2 y] k a' c' w1) := HB1.out.keep b1
      have hz := H1.out.sz
      clear b1 HB1 HWk x0 x1 x2 x3 x4 x5 HH
      go_upto_region 10 with fail
      have l0 : (w1.alloc (.cells #[.int .i8 1, .int .i64 z, .string ⟨#[]⟩] 44)).cell? ⟨w1.heap.size, 0, none⟩ = some (.int .i8 1) := (rl_new w1 #[.int .i8 1, .int .i64 z, .string ⟨#[]⟩] 44).at (j := 0) rfl
      have l1 : (w1.alloc (.cells #[.int .i8 1, .int .i64 z, .string ⟨#[]⟩] 44)).cell? ⟨w1.heap.size, 1, none⟩ = some (.int .i64 z) := (rl_new w1 #[.int .i8 1, .int .i64 z, .string ⟨#[]⟩] 44).at (j := 1) rfl
      have l2 : (w1.alloc (.cells #[.int .i8 1, .int .i64 z, .string ⟨#[]⟩] 44)).cell? ⟨w1.heap.size, 2, none⟩ = some (.string ⟨#[]⟩) := (rl_new w1 #[.int .i8 1, .int .i64 z, .string ⟨#[]⟩] 44).at (j := 2) rfl
      have H2 : Hid (WSt w [.int .i8 2, .string ⟨#[]⟩, .int .i8 0, .int .i64 0, .string ⟨#[]⟩, .slice (some ⟨g, off, none⟩) 2 c] [numV2 x, numV2 y] k a' c' (w1.alloc (.cells #[.int .i8 1, .int .i64 z, .string ⟨#[]⟩] 44))) := H1.out.keep ((Below.refl _ _).alloc (Nat.le_refl _) _)
      generalize w1.alloc (.cells #[.int .i8 1, .int .i64 z, .string ⟨#[]⟩] 44) = W1 at H2 l0 l1 l2 ⊢
      have hz1' := H2.out.sz
      have H3 : Hid (WSt w [.int .i8 2, .string ⟨#[]⟩, .int .i8 0, .int .i64 0, .string ⟨#[]⟩, .slice (some ⟨g, off, none⟩) 2 c] [numV2 x, numV2 y] k a' c' (W1.alloc (.cells #[.int .i8 1, .int .i64 z, .string ⟨#[]⟩] 44))) := H2.out.keep ((Below.refl _ _).alloc (Nat.le_refl _) _)
      have HOWN : Hid _ := H3.out.own
      clear H1 H2
      go_wp2_with (at_builtin; refine wpList_append_own_at _ rfl _ _ 63 rfl (w.heap.size + 2) 44 i0 _ 3 32 Tryz.underlying63 hi0 hz0 hz1 hz2 rfl (by decide) _ _ _ rfl HOWN.out ⟨_, 0, none⟩ 1 1 [.int .i8 1, .int .i64 z, .string ⟨#[]⟩] rfl rfl (lit_news _ #[.int .i8 1, .int .i64 z, .string ⟨#[]⟩] _) (by simp [Value.oneCell']) (by unfold maxLen; omega) (by omega) (by simp; omega) ?_; intro v' w3 hown' hgrow hnil hloc; obtain ⟨a2, c2, rfl, hfin⟩ := H3.out.step HTk.out hown' hgrow; clear hown' hgrow hnil hloc)
      go_roundw
      case rel => exact ⟨k + 1, a2, c2, by omega, by go_num, rfl, hfin⟩
      case measure => simp [intOf]; omega
    · obtain rfl : k = 2 := by omega
      obtain ⟨g2, off2, cc, e2, hN⟩ := nums_own (x := x) (y := y) HH.out.own
      cases e2
      have q0 := HH.out.r0.at (j := 0) rfl
      have HA : Hid _ := arith_add x y g2 off2 c' wr (HT.out wr HH.out.bel) hN
      rw [HZ.out] at HA
      have HR1 : Hid (RL wr (w.heap.size + 1) 44 _) := HH.out.r1
      have HB : Hid (Below w.heap.size w wr) := HH.out.bel
      clear hN
      go_wp2_with fail
      refine Calls.mono HA.out ?_
      rintro e w1 ⟨rfl, b1⟩
      have r1 : RL w1 (w.heap.size + 1) 44 _ := RL.below HR1.out b1
      have H1 : Hid (RL w1 (w.heap.size + 1) 44 _) := r1
      have HB1 : Hid (Below w.heap.size w w1) := HB.out.trans (b1.mono HB.out.size)
      have c0' := r1.at (j := 0) rfl
      have c1' := r1.at (j := 1) rfl
      have c2' := r1.at (j := 2) rfl
      have f0 := World.rowIs.frozen r1 0
      have f1 := World.rowIs.frozen r1 1
      have f2 := World.rowIs.frozen r1 2
      clear b1 r1 HR1 HB HA HH q0
      go_wp2
      refine bodyPost_ret (v := .tuple #[.agg #[.int .i8 1, .int .i64 zz, .string ⟨#[]⟩], .bool true]) (rl_results3 Tryz.results74 (b := w.heap.size + 1) rfl rfl (run_loadVar_mid _ _ 0 44 [.int .i8 1, .int .i64 zz, .string ⟨#[]⟩] _ (RL.range (((H1.out.set 0 (.int .i8 1)).set 1 (.int .i64 zz)).set 2 (.string ⟨#[]⟩))) Tryz.underlying44 rfl (by kernel_rfl))) rfl ⟨rfl, ?_⟩
      exact ((HB1.out.setCell (p := ⟨w.heap.size + 1, 0, none⟩) (by simp) _).setCell (p := ⟨w.heap.size + 1, 1, none⟩) (by simp) _).setCell (p := ⟨w.heap.size + 1, 2, none⟩) (by simp) _
set_option maxHeartbeats 3200000 in
theorem eval_add (t1 t2 : T) (x y : Int) (a : Option Addr) (c : Nat) (v : Value) (l : List B) (w : World) (d : Nat) (ht : Tab w) (hkt : KT w) (hE : EIs w (d + 1) (addE t1 t2) a c) (hok : exprB 8 (addE t1 t2) = true) (hw1 : t1.wf) (hw2 : t2.wf) (hl : Lb w v l) (h1 : valOf t1 l = some (numV2 x)) (h2 : valOf t2 l = some (numV2 y)) :
    Calls Tryz.prog 38 #[(addE t1 t2).val a c, v] w fun e w' => e = .returned (.tuple #[.agg #[.int .i8 1, .int .i64 (wrap64 (x + y)), .string ⟨#[]⟩], .bool true]) ∧ Below w.heap.size w w' := by
  have hval : (addE t1 t2).val a c = .agg #[.int .i8 2, .string ⟨#[]⟩, .int .i8 0, .int .i64 0, .string ⟨#[]⟩, .slice a 2 c] := rfl
  have BA : Below w.heap.size w (w.alloc (.cells #[.int .i8 2, .string ⟨#[]⟩, .int .i8 0, .int .i64 0, .string ⟨#[]⟩, .slice a 2 c] 74)) := (Below.refl _ _).alloc (Nat.le_refl _) _
  have BB : Below w.heap.size w ((w.alloc (.cells #[.int .i8 2, .string ⟨#[]⟩, .int .i8 0, .int .i64 0, .string ⟨#[]⟩, .slice a 2 c] 74)).alloc (.cells #[.int .i8 0, .int .i64 0, .string ⟨#[]⟩] 44)) := BA.alloc BA.size _
  have HI : Hid (Calls Tryz.prog 73 #[.agg #[.int .i8 2, .string ⟨#[]⟩, .int .i8 0, .int .i64 0, .string ⟨#[]⟩, .slice a 2 c], .int .i64 8] ((w.alloc (.cells #[.int .i8 2, .string ⟨#[]⟩, .int .i8 0, .int .i64 0, .string ⟨#[]⟩, .slice a 2 c] 74)).alloc (.cells #[.int .i8 0, .int .i64 0, .string ⟨#[]⟩] 44)) fun r w' => r = .returned (.bool true) ∧ Below (((w.alloc (.cells #[.int .i8 2, .string ⟨#[]⟩, .int .i8 0, .int .i64 0, .string ⟨#[]⟩, .slice a 2 c] 74)).alloc (.cells #[.int .i8 0, .int .i64 0, .string ⟨#[]⟩] 44))).heap.size ((w.alloc (.cells #[.int .i8 2, .string ⟨#[]⟩, .int .i8 0, .int .i64 0, .string ⟨#[]⟩, .slice a 2 c] 74)).alloc (.cells #[.int .i8 0, .int .i64 0, .string ⟨#[]⟩] 44)) w') := by
    have := isExpr_any 8 (d + 1) (addE t1 t2) a c ((w.alloc (.cells #[.int .i8 2, .string ⟨#[]⟩, .int .i8 0, .int .i64 0, .string ⟨#[]⟩, .slice a 2 c] 74)).alloc (.cells #[.int .i8 0, .int .i64 0, .string ⟨#[]⟩] 44)) (by omega) (hkt.below BB) (hE.below BB)
    rw [hok, hval] at this
    exact this
  have HWk : Hid (∀ u, Below w.heap.size w u → Calls Tryz.prog 74 #[.agg #[.int .i8 2, .string ⟨#[]⟩, .int .i8 0, .int .i64 0, .string ⟨#[]⟩, .slice a 2 c], v] u fun e w' => e = .returned (.tuple #[.agg #[.int .i8 1, .int .i64 (wrap64 (x + y)), .string ⟨#[]⟩], .bool true]) ∧ Below u.heap.size u w') := fun u hu => work_add t1 t2 x y a c v l u d (ht.below hu) (hE.below hu) hw1 hw2 (hl.below hu) h1 h2
  have HR0 : Hid (RL ((w.alloc (.cells #[.int .i8 2, .string ⟨#[]⟩, .int .i8 0, .int .i64 0, .string ⟨#[]⟩, .slice a 2 c] 74)).alloc (.cells #[.int .i8 0, .int .i64 0, .string ⟨#[]⟩] 44)) w.heap.size 74 [.int .i8 2, .string ⟨#[]⟩, .int .i8 0, .int .i64 0, .string ⟨#[]⟩, .slice a 2 c]) := (rl_new w #[.int .i8 2, .string ⟨#[]⟩, .int .i8 0, .int .i64 0, .string ⟨#[]⟩, .slice a 2 c] 74).below ((Below.refl _ _).alloc (Nat.le_refl _) _)
  have HR1 : Hid (RL ((w.alloc (.cells #[.int .i8 2, .string ⟨#[]⟩, .int .i8 0, .int .i64 0, .string ⟨#[]⟩, .slice a 2 c] 74)).alloc (.cells #[.int .i8 0, .int .i64 0, .string ⟨#[]⟩] 44)) (w.heap.size + 1) 44 [.int .i8 0, .int .i64 0, .string ⟨#[]⟩]) := by
    have := rl_new (w.alloc (.cells #[.int .i8 2, .string ⟨#[]⟩, .int .i8 0, .int .i64 0, .string ⟨#[]⟩, .slice a 2 c] 74)) #[.int .i8 0, .int .i64 0, .string ⟨#[]⟩] 44
    rw [World.size_alloc] at this
    exact this
  have HB : Hid (Below w.heap.size w _) := BB
  obtain ⟨a0, c0, rfl, -, -, -⟩ := hl.form
  rw [hval]
  clear hval BA BB ht hkt hE hok hw1 hw2 hl h1 h2
  obtain ⟨z, hz⟩ : ∃ z, wrap64 (x + y) = z := ⟨_, rfl⟩
  rw [hz] at HWk ⊢
  clear hz
  go_enter Tryz.func38, Tryz.ntmps38
  go_wp2_with fail
  refine Calls.mono HI.out ?_
  rintro e w1 ⟨rfl, b1⟩
  have r0 : RL w1 w.heap.size 74 _ := RL.below HR0.out b1
  have HR1' : Hid (RL w1 (w.heap.size + 1) 44 _) := RL.below HR1.out b1
  have HB1 : Hid (Below w.heap.size w w1) := HB.out.trans (b1.mono HB.out.size)
  have c0' := r0.at (j := 0) rfl
  have c1' := r0.at (j := 1) rfl
  have c2' := r0.at (j := 2) rfl
  have c3' := r0.at (j := 3) rfl
  have c4' := r0.at (j := 4) rfl
  have c5' := r0.at (j := 5) rfl
  clear b1 r0 HR0 HR1 HB HI
  go_wp2_with fail
  refine Calls.mono (HWk.out _ HB1.out) ?_
  rintro e w2 ⟨rfl, b2⟩
  have r1 : RL w2 (w.heap.size + 1) 44 _ := RL.below HR1'.out b2
  have H1 : Hid (RL w2 (w.heap.size + 1) 44 _) := r1
  have HB2 : Hid (Below w.heap.size w w2) := HB1.out.trans (b2.mono HB1.out.size)
  have d0' := r1.at (j := 0) rfl
  have d1' := r1.at (j := 1) rfl
  have d2' := r1.at (j := 2) rfl
  have f0 := World.rowIs.frozen r1 0
  have f1 := World.rowIs.frozen r1 1
  have f2 := World.rowIs.frozen r1 2
  clear b2 r1 HR1' HB1 HWk c0' c1' c2' c3' c4' c5'
  go_wp2
  refine bodyPost_ret (v := .tuple #[.agg #[.int .i8 1, .int .i64 z, .string ⟨#[]⟩], .bool true]) (rl_results3 Tryz.results38 (b := w.heap.size + 1) rfl rfl (run_loadVar_mid _ _ 0 44 [.int .i8 1, .int .i64 z, .string ⟨#[]⟩] _ (RL.range (((H1.out.set 0 (.int .i8 1)).set 1 (.int .i64 z)).set 2 (.string ⟨#[]⟩))) Tryz.underlying44 rfl (by kernel_rfl))) rfl ⟨rfl, ?_⟩
  exact ((HB2.out.setCell (p := ⟨w.heap.size + 1, 0, none⟩) (by simp) _).setCell (p := ⟨w.heap.size + 1, 1, none⟩) (by simp) _).setCell (p := ⟨w.heap.size + 1, 2, none⟩) (by simp) _
end Go.Proofs.YtgplipfebnigiaaGreatDoor.LV
end
section
namespace Go.Proofs.YtgplipfebnigiaaGreatDoor.LV
open Go.RowKit Go.Maps
set_option linter.unusedVariables false
set_option linter.unusedSimpArgs false
attribute [local go_sem ↓] Go.wp_at_zero Go.wp_at_succ

def lvA : List T := [⟨⟨#[88]⟩, V0⟩, ⟨blankS, V0⟩, ⟨noS, ⟨1, 5, noS⟩⟩]
def lvF (n : Int) : List V := [⟨1, 1, noS⟩, ⟨1, 2, noS⟩, ⟨1, n, noS⟩]
def lvP : ByteArray := ⟨#[112]⟩
theorem lv_atom : atomB lvP lvA = true := by decide +kernel
theorem lv_mat5 : mat [] lvA (lvF 5) = some [⟨⟨#[88]⟩, ⟨1, 1, noS⟩⟩] := by decide +kernel
theorem lv_mat6 : mat [] lvA (lvF 6) = none := by decide +kernel
theorem lv_wf : ∀ t ∈ lvA, t.wf := by
  intro t ht
  simp only [lvA, List.mem_cons, List.not_mem_nil, or_false] at ht
  rcases ht with rfl | rfl | rfl
  · exact ⟨by decide, ⟨by decide, by decide, by decide⟩⟩
  · exact ⟨by decide, ⟨by decide, by decide, by decide⟩⟩
  · exact ⟨by decide, ⟨by decide, by decide, by decide⟩⟩
theorem lvF_wf {n : Int} (h : n = 5 ∨ n = 6) : ∀ t ∈ lvF n, t.wf := by
  intro t ht
  simp only [lvF, List.mem_cons, List.not_mem_nil, or_false] at ht
  rcases ht with rfl | rfl | rfl
  · exact ⟨by decide, by decide, by decide⟩
  · exact ⟨by decide, by decide, by decide⟩
  · rcases h with rfl | rfl <;> exact ⟨by decide, by decide, by decide⟩
theorem ls_of_rl {w : World} {b n : Nat} {t : TypeId} {xs : List Value} (h : RL w b t xs) (hn : n ≤ maxLen) : Ls w (.slice (some ⟨b, 0, none⟩) n n) n xs :=
  ⟨hn, _, _, rfl, Nat.le_refl _, hn, fun _ => ⟨b, 0, rfl, World.rowIs.lt h, fun i hi => by rw [Nat.zero_add]; exact h.at (List.getElem?_eq_getElem hi)⟩⟩
def cA : List Value := [.string ⟨#[88]⟩, .int .i8 0, .int .i64 0, .string ⟨#[]⟩, .string ⟨#[95]⟩, .int .i8 0, .int .i64 0, .string ⟨#[]⟩, .string ⟨#[]⟩, .int .i8 1, .int .i64 5, .string ⟨#[]⟩]
def cF (n : Int) : List Value := [.int .i8 1, .int .i64 1, .string ⟨#[]⟩, .int .i8 1, .int .i64 2, .string ⟨#[]⟩, .int .i8 1, .int .i64 n, .string ⟨#[]⟩]
/-- what lives keeps: the atom and the fact, each with its list -/
structure LvS (w : World) (bA bF : Nat) (n : Int) (wc : World) : Prop where
  bel : Below w.heap.size w wc
  lo : w.heap.size ≤ bA ∧ bA + 1 < bF
  a : RL wc bA 46 cA
  a1 : RL wc (bA + 1) 61 [.string lvP, .slice (some ⟨bA, 0, none⟩) 3 3]
  f : RL wc bF 44 (cF n)
  f1 : RL wc (bF + 1) 65 [.string lvP, .slice (some ⟨bF, 0, none⟩) 3 3]
theorem LvS.next {w : World} {bA bF : Nat} {n : Int} {u v : World} (h : LvS w bA bF n u) (b : Below u.heap.size u v) : LvS w bA bF n v :=
  ⟨h.bel.trans (b.mono h.bel.size), h.lo, h.a.below b, h.a1.below b, h.f.below b, h.f1.below b⟩
theorem LvS.lt {w : World} {bA bF : Nat} {n : Int} {u : World} (h : LvS w bA bF n u) : Lt u (.slice (some ⟨bA, 0, none⟩) 3 3) lvA := ⟨ls_of_rl h.a (by decide), lv_wf⟩
theorem LvS.lv {w : World} {bA bF : Nat} {n : Int} {u : World} (h : LvS w bA bF n u) (hn : n = 5 ∨ n = 6) : Lv u (.slice (some ⟨bF, 0, none⟩) 3 3) (lvF n) := ⟨ls_of_rl h.f (by decide), lvF_wf hn⟩
theorem lv_next {wc u v : World} (h : Below wc.heap.size wc u) (b : Below u.heap.size u v) : Below wc.heap.size wc v := h.trans (b.mono h.size)
theorem leaf_is (w : World) (t : T) (ht : t.wf) : EIs w 1 (.mk 0 t []) none 0 := ⟨⟨⟨by show (-128 : Int) ≤ 0; omega, by show (0 : Int) ≤ 127; omega⟩, by show 0 ≤ 281474976710656; omega⟩, ht, Nat.le_refl _, by unfold maxLen; omega, fun h => absurd (show (0 : Nat) < 0 from h) (by omega)⟩
theorem ex_is {w : World} {b : Nat} {t1 t2 : T} (r : RL w b 74 [.int .i8 0, .string t1.v, .int .i8 t1.a.k, .int .i64 t1.a.n, .string t1.a.s, .slice none 0 0, .int .i8 0, .string t2.v, .int .i8 t2.a.k, .int .i64 t2.a.n, .string t2.a.s, .slice none 0 0]) (h1 : t1.wf) (h2 : t2.wf) : EIs w 2 (addE t1 t2) (some ⟨b, 0, none⟩) 2 := by
  refine ⟨⟨⟨by show (-128 : Int) ≤ 2; omega, by show (2 : Int) ≤ 127; omega⟩, by show 2 ≤ 281474976710656; omega⟩, T0.ok, Nat.le_refl _, by unfold maxLen; omega, fun _ => ⟨b, 0, rfl, World.rowIs.lt r, fun i hi => ?_⟩⟩
  have : i = 0 ∨ i = 1 := by have : i < 2 := hi; omega
  rcases this with rfl | rfl
  · exact ⟨none, 0, ⟨r.at (j := 0) rfl, r.at (j := 1) rfl, r.at (j := 2) rfl, r.at (j := 3) rfl, r.at (j := 4) rfl, r.at (j := 5) rfl⟩, leaf_is w t1 h1⟩
  · exact ⟨none, 0, ⟨r.at (j := 6) rfl, r.at (j := 7) rfl, r.at (j := 8) rfl, r.at (j := 9) rfl, r.at (j := 10) rfl, r.at (j := 11) rfl⟩, leaf_is w t2 h2⟩
set_option maxHeartbeats 12800000 in
set_option maxRecDepth 100000 in
theorem lives_any (w : World) (ht : Tab w) (hk : KT w) : Calls Tryz.prog 14 #[] w fun e w' => e = .returned (.bool true) ∧ Below w.heap.size w w' := by
  have HTK : Hid (∀ u, Below w.heap.size w u → Tab u ∧ KT u) := fun u hu => ⟨ht.below hu, hk.below hu⟩
  clear ht hk
  go_enter Tryz.func14, Tryz.ntmps14
  go_wp2_with fail
  refine (variable_any _ _).mono ?_
  rintro e w1 ⟨rfl, b1⟩
  go_wp2_with fail
  refine (variable_any _ _).mono ?_
  rintro e w2 ⟨rfl, b2⟩
  go_wp2_with fail
  refine (given_any _ _).mono ?_
  rintro e w3 ⟨rfl, b3⟩
  have B3 : Hid (Below w.heap.size w w3) := b1.trans ((b2.mono b1.size).trans (b3.mono (Nat.le_trans b1.size b2.size)))
  clear b1 b2 b3
  have HA : Hid (RL ((w3.alloc (.cells #[.string ⟨#[88]⟩, .int .i8 0, .int .i64 0, .string ⟨#[]⟩, .string ⟨#[95]⟩, .int .i8 0, .int .i64 0, .string ⟨#[]⟩, .string ⟨#[]⟩, .int .i8 1, .int .i64 5, .string ⟨#[]⟩] 46)).alloc (.cells #[.string ⟨#[112]⟩, .slice (some ⟨w3.heap.size, 0, none⟩) 3 3] 61)) w3.heap.size 46 cA ∧ RL ((w3.alloc (.cells #[.string ⟨#[88]⟩, .int .i8 0, .int .i64 0, .string ⟨#[]⟩, .string ⟨#[95]⟩, .int .i8 0, .int .i64 0, .string ⟨#[]⟩, .string ⟨#[]⟩, .int .i8 1, .int .i64 5, .string ⟨#[]⟩] 46)).alloc (.cells #[.string ⟨#[112]⟩, .slice (some ⟨w3.heap.size, 0, none⟩) 3 3] 61)) (w3.heap.size + 1) 61 [.string lvP, .slice (some ⟨w3.heap.size, 0, none⟩) 3 3] ∧ Below w.heap.size w ((w3.alloc (.cells #[.string ⟨#[88]⟩, .int .i8 0, .int .i64 0, .string ⟨#[]⟩, .string ⟨#[95]⟩, .int .i8 0, .int .i64 0, .string ⟨#[]⟩, .string ⟨#[]⟩, .int .i8 1, .int .i64 5, .string ⟨#[]⟩] 46)).alloc (.cells #[.string ⟨#[112]⟩, .slice (some ⟨w3.heap.size, 0, none⟩) 3 3] 61)) ∧ w.heap.size ≤ w3.heap.size) := by
    have r0 := rl_new w3 #[.string ⟨#[88]⟩, .int .i8 0, .int .i64 0, .string ⟨#[]⟩, .string ⟨#[95]⟩, .int .i8 0, .int .i64 0, .string ⟨#[]⟩, .string ⟨#[]⟩, .int .i8 1, .int .i64 5, .string ⟨#[]⟩] 46
    have r1 := rl_new (w3.alloc (.cells #[.string ⟨#[88]⟩, .int .i8 0, .int .i64 0, .string ⟨#[]⟩, .string ⟨#[95]⟩, .int .i8 0, .int .i64 0, .string ⟨#[]⟩, .string ⟨#[]⟩, .int .i8 1, .int .i64 5, .string ⟨#[]⟩] 46)) #[.string ⟨#[112]⟩, .slice (some ⟨w3.heap.size, 0, none⟩) 3 3] 61
    rw [World.size_alloc] at r1
    exact ⟨r0.below ((Below.refl _ _).alloc (Nat.le_refl _) _), r1, (B3.out.alloc B3.out.size _).alloc (by have := B3.out.size; simp; omega) _, B3.out.size⟩
  go_upto_region 2 with fail
  generalize ((w3.alloc (.cells #[.string ⟨#[88]⟩, .int .i8 0, .int .i64 0, .string ⟨#[]⟩, .string ⟨#[95]⟩, .int .i8 0, .int .i64 0, .string ⟨#[]⟩, .string ⟨#[]⟩, .int .i8 1, .int .i64 5, .string ⟨#[]⟩] 46)).alloc (.cells #[.string ⟨#[112]⟩, .slice (some ⟨w3.heap.size, 0, none⟩) 3 3] 61)) = W4 at HA ⊢
  clear B3
  generalize w3.heap.size = bA at HA ⊢
  go_wp2_with fail
  refine (Num_any _ _).mono ?_
  rintro e w5 ⟨rfl, b5⟩
  go_wp2_with fail
  refine (Num_any _ _).mono ?_
  rintro e w6 ⟨rfl, b6⟩
  go_wp2_with fail
  refine (Num_any _ _).mono ?_
  rintro e w7 ⟨rfl, b7⟩
  have B7 : Hid (Below W4.heap.size W4 w7) := b5.trans ((b6.mono b5.size).trans (b7.mono (Nat.le_trans b5.size b6.size)))
  clear b5 b6 b7
  have HS8 : Hid (LvS w bA w7.heap.size 5 ((w7.alloc (.cells #[.int .i8 1, .int .i64 1, .string ⟨#[]⟩, .int .i8 1, .int .i64 2, .string ⟨#[]⟩, .int .i8 1, .int .i64 5, .string ⟨#[]⟩] 44)).alloc (.cells #[.string ⟨#[112]⟩, .slice (some ⟨w7.heap.size, 0, none⟩) 3 3] 65)) ∧ w7.heap.size + 2 ≤ (((w7.alloc (.cells #[.int .i8 1, .int .i64 1, .string ⟨#[]⟩, .int .i8 1, .int .i64 2, .string ⟨#[]⟩, .int .i8 1, .int .i64 5, .string ⟨#[]⟩] 44)).alloc (.cells #[.string ⟨#[112]⟩, .slice (some ⟨w7.heap.size, 0, none⟩) 3 3] 65))).heap.size) := by
    have r0 := rl_new w7 #[.int .i8 1, .int .i64 1, .string ⟨#[]⟩, .int .i8 1, .int .i64 2, .string ⟨#[]⟩, .int .i8 1, .int .i64 5, .string ⟨#[]⟩] 44
    have r1 := rl_new (w7.alloc (.cells #[.int .i8 1, .int .i64 1, .string ⟨#[]⟩, .int .i8 1, .int .i64 2, .string ⟨#[]⟩, .int .i8 1, .int .i64 5, .string ⟨#[]⟩] 44)) #[.string ⟨#[112]⟩, .slice (some ⟨w7.heap.size, 0, none⟩) 3 3] 65
    rw [World.size_alloc] at r1
    obtain ⟨p1, p2, p3, p4⟩ := HA.out
    have q : Below W4.heap.size W4 ((w7.alloc (.cells #[.int .i8 1, .int .i64 1, .string ⟨#[]⟩, .int .i8 1, .int .i64 2, .string ⟨#[]⟩, .int .i8 1, .int .i64 5, .string ⟨#[]⟩] 44)).alloc (.cells #[.string ⟨#[112]⟩, .slice (some ⟨w7.heap.size, 0, none⟩) 3 3] 65)) := (B7.out.alloc B7.out.size _).alloc (by have := B7.out.size; simp; omega) _
    have hlt : bA + 1 < W4.heap.size := World.rowIs.lt p2
    exact ⟨⟨p3.trans (q.mono p3.size), ⟨p4, Nat.lt_of_lt_of_le hlt B7.out.size⟩, p1.below q, p2.below q, r0.below ((Below.refl _ _).alloc (Nat.le_refl _) _), r1⟩, by simp⟩
  go_upto_region 3 with fail
  generalize ((w7.alloc (.cells #[.int .i8 1, .int .i64 1, .string ⟨#[]⟩, .int .i8 1, .int .i64 2, .string ⟨#[]⟩, .int .i8 1, .int .i64 5, .string ⟨#[]⟩] 44)).alloc (.cells #[.string ⟨#[112]⟩, .slice (some ⟨w7.heap.size, 0, none⟩) 3 3] 65)) = W8 at HS8 ⊢
  clear B7 HA
  generalize w7.heap.size = bF at HS8 ⊢
  have x0 := HS8.out.1.a1.at (j := 0) rfl
  have x1 := HS8.out.1.a1.at (j := 1) rfl
  have y0 := HS8.out.1.f1.at (j := 0) rfl
  have y1 := HS8.out.1.f1.at (j := 1) rfl
  have HM : Hid _ := match_yes lvP _ _ lvA (lvF 5) W8 (by decide) HS8.out.1.lt (HS8.out.1.lv (.inl rfl)) rfl lv_atom
  rw [lv_mat5] at HM
  go_wp2_with fail
  refine Calls.mono HM.out ?_
  rintro e w9 ⟨⟨sv, rfl, _, hs⟩, b9⟩
  obtain ⟨hown, hwf, _⟩ := hs _ rfl
  obtain ⟨a0, c0, rfl, _⟩ := own_form hown
  have HO9 : Hid (w9.ownsRow W8.heap.size 110 4 (.slice a0 1 c0) 1 (([⟨⟨#[88]⟩, ⟨1, 1, noS⟩⟩] : List B).flatMap B.cells)) := hown
  have HWF : Hid (∀ p ∈ ([⟨⟨#[88]⟩, ⟨1, 1, noS⟩⟩] : List B), p.wf) := hwf
  have HS9 : Hid (LvS w bA bF 5 w9 ∧ bF + 2 ≤ W8.heap.size) := ⟨HS8.out.1.next b9, HS8.out.2⟩
  clear hs hown hwf b9 HM x0 x1 y0 y1 HS8
  have y1 := HS9.out.1.f1.at (j := 1) rfl
  go_upto_region 4 with fail
  go_cut [4] from 25 to 28 (fun tt wc => tt = .bool true ∧ Hid (LvS w bA bF 6 wc ∧ wc.ownsRow W8.heap.size 110 4 (.slice a0 1 c0) 1 (([⟨⟨#[88]⟩, ⟨1, 1, noS⟩⟩] : List B).flatMap B.cells)))
  case first =>
    go_region_law (
      refine step_call rfl 36 Tryz.func36 (by kernel_rfl) (by kernel_rfl) #[.const (.int .i64 6)] _ rfl #[.int .i64 6] (by simp [Act.eval, Act.put]) (Num_any 6 _) ?_
      rintro ee wa ⟨rfl, ba⟩
      refine ⟨_, rfl, ?_⟩
      have HSa : Hid (LvS w bA bF 5 wa) := by first | exact (HS9.out.1.next (Below.refl _ _).drew).next ba | exact HS9.out.1.next ba
      have HOa : Hid (wa.ownsRow W8.heap.size 110 4 (.slice a0 1 c0) 1 (([⟨⟨#[88]⟩, ⟨1, 1, noS⟩⟩] : List B).flatMap B.cells)) := by first | exact own_below (own_below HO9.out (Below.refl _ _).drew) ba | exact own_below HO9.out ba
      have z1 := HSa.out.f1.at (j := 1) rfl
      have u6 := HSa.out.f.at (j := 6) rfl
      have u7 := HSa.out.f.at (j := 7) rfl
      have u8 := HSa.out.f.at (j := 8) rfl
      have g6 := World.rowIs.frozen HSa.out.f 6
      have g7 := World.rowIs.frozen HSa.out.f 7
      have g8 := World.rowIs.frozen HSa.out.f 8
      clear ba)
    all_goals
      go_wp2_with fail
      go_meet
      case rel =>
        refine ⟨rfl, ?_, ?_⟩
        · have hlo := HSa.out.lo
          have e : cF 6 = (((cF 5).set 6 (.int .i8 1)).set 7 (.int .i64 6)).set 8 (.string ⟨#[]⟩) := rfl
          refine ⟨((HSa.out.bel.setCell (p := ⟨bF, 6, none⟩) (by show _ ≤ bF; omega) _).setCell (p := ⟨bF, 7, none⟩) (by show _ ≤ bF; omega) _).setCell (p := ⟨bF, 8, none⟩) (by show _ ≤ bF; omega) _, hlo, ?_, ?_, ?_, ?_⟩
          · exact ((HSa.out.a.other (by omega) _).other (by omega) _).other (by omega) _
          · exact ((HSa.out.a1.other (by omega) _).other (by omega) _).other (by omega) _
          · rw [e]; exact ((HSa.out.f.set 6 _).set 7 _).set 8 _
          · exact ((HSa.out.f1.other (by omega) _).other (by omega) _).other (by omega) _
        · refine own_of_block HOa.out (fun g hg => ?_)
          have h1 := (HOa.out.lt g hg).1
          have h2 := HS9.out.2
          rw [heap_setCell_other _ _ _ _ (by show g ≠ bF; omega), heap_setCell_other _ _ _ _ (by show g ≠ bF; omega), heap_setCell_other _ _ _ _ (by show g ≠ bF; omega)]
  case rest =>
    obtain ⟨rfl, HSb⟩ := hcut
    clear HS9 HO9 y1
    have x0 := HSb.out.1.a1.at (j := 0) rfl
    have x1 := HSb.out.1.a1.at (j := 1) rfl
    have y0 := HSb.out.1.f1.at (j := 0) rfl
    have y1 := HSb.out.1.f1.at (j := 1) rfl
    have HM : Hid _ := match_yes lvP _ _ lvA (lvF 6) wc (by decide) HSb.out.1.lt (HSb.out.1.lv (.inr rfl)) rfl lv_atom
    rw [lv_mat6] at HM
    go_wp2_with fail
    refine Calls.mono HM.out ?_
    rintro e wd ⟨⟨sv, rfl, hsv, _⟩, bd⟩
    obtain rfl := hsv rfl
    have HSd : Hid (LvS w bA bF 6 wd ∧ Lb wd (.slice a0 1 c0) [⟨⟨#[88]⟩, ⟨1, 1, noS⟩⟩]) := ⟨HSb.out.1.next bd, ⟨(ls_own HSb.out.2).below bd, HWF.out⟩⟩
    clear bd HSb HM hsv x0 x1 y0 y1 HWF
    go_wp2_with fail
    refine (variable_any _ _).mono ?_
    rintro e we ⟨rfl, be⟩
    go_wp2_with fail
    refine (given_any _ _).mono ?_
    rintro e wf ⟨rfl, bf⟩
    have BF : Below wd.heap.size wd wf := be.trans (bf.mono be.size)
    have HSf : Hid (LvS w bA bF 6 wf ∧ Lb wf (.slice a0 1 c0) [⟨⟨#[88]⟩, ⟨1, 1, noS⟩⟩]) := ⟨HSd.out.1.next BF, HSd.out.2.below BF⟩
    clear be bf BF HSd
    have hal : Below wf.heap.size wf (wf.alloc (.cells #[.int .i8 0, .string ⟨#[88]⟩, .int .i8 0, .int .i64 0, .string ⟨#[]⟩, .slice none 0 0, .int .i8 0, .string ⟨#[]⟩, .int .i8 1, .int .i64 2, .string ⟨#[]⟩, .slice none 0 0] 74)) := (Below.refl _ _).alloc (Nat.le_refl _) _
    have HSg : Hid (LvS w bA bF 6 (wf.alloc (.cells #[.int .i8 0, .string ⟨#[88]⟩, .int .i8 0, .int .i64 0, .string ⟨#[]⟩, .slice none 0 0, .int .i8 0, .string ⟨#[]⟩, .int .i8 1, .int .i64 2, .string ⟨#[]⟩, .slice none 0 0] 74)) ∧ Lb (wf.alloc (.cells #[.int .i8 0, .string ⟨#[88]⟩, .int .i8 0, .int .i64 0, .string ⟨#[]⟩, .slice none 0 0, .int .i8 0, .string ⟨#[]⟩, .int .i8 1, .int .i64 2, .string ⟨#[]⟩, .slice none 0 0] 74)) (.slice a0 1 c0) [⟨⟨#[88]⟩, ⟨1, 1, noS⟩⟩]) := ⟨HSf.out.1.next hal, HSf.out.2.below hal⟩
    have HEv : Hid (Calls Tryz.prog 38 #[.agg #[.int .i8 2, .string ⟨#[]⟩, .int .i8 0, .int .i64 0, .string ⟨#[]⟩, .slice (some ⟨wf.heap.size, 0, none⟩) 2 2], .slice a0 1 c0] (wf.alloc (.cells #[.int .i8 0, .string ⟨#[88]⟩, .int .i8 0, .int .i64 0, .string ⟨#[]⟩, .slice none 0 0, .int .i8 0, .string ⟨#[]⟩, .int .i8 1, .int .i64 2, .string ⟨#[]⟩, .slice none 0 0] 74)) fun e w' => e = .returned (.tuple #[.agg #[.int .i8 1, .int .i64 3, .string ⟨#[]⟩], .bool true]) ∧ Below (wf.alloc (.cells #[.int .i8 0, .string ⟨#[88]⟩, .int .i8 0, .int .i64 0, .string ⟨#[]⟩, .slice none 0 0, .int .i8 0, .string ⟨#[]⟩, .int .i8 1, .int .i64 2, .string ⟨#[]⟩, .slice none 0 0] 74)).heap.size (wf.alloc (.cells #[.int .i8 0, .string ⟨#[88]⟩, .int .i8 0, .int .i64 0, .string ⟨#[]⟩, .slice none 0 0, .int .i8 0, .string ⟨#[]⟩, .int .i8 1, .int .i64 2, .string ⟨#[]⟩, .slice none 0 0] 74)) w') := by
      have r := rl_new wf #[.int .i8 0, .string ⟨#[88]⟩, .int .i8 0, .int .i64 0, .string ⟨#[]⟩, .slice none 0 0, .int .i8 0, .string ⟨#[]⟩, .int .i8 1, .int .i64 2, .string ⟨#[]⟩, .slice none 0 0] 74
      have hh := HTK.out _ HSg.out.1.bel
      have h3 : wrap64 (1 + 2) = 3 := by unfold wrap64; decide
      have := eval_add ⟨⟨#[88]⟩, V0⟩ ⟨noS, ⟨1, 2, noS⟩⟩ 1 2 (some ⟨wf.heap.size, 0, none⟩) 2 (.slice a0 1 c0) _ (wf.alloc (.cells #[.int .i8 0, .string ⟨#[88]⟩, .int .i8 0, .int .i64 0, .string ⟨#[]⟩, .slice none 0 0, .int .i8 0, .string ⟨#[]⟩, .int .i8 1, .int .i64 2, .string ⟨#[]⟩, .slice none 0 0] 74)) 1 hh.1 hh.2 (ex_is (t1 := ⟨⟨#[88]⟩, V0⟩) (t2 := ⟨noS, ⟨1, 2, noS⟩⟩) r ⟨by decide, ⟨by decide, by decide, by decide⟩⟩ ⟨by decide, ⟨by decide, by decide, by decide⟩⟩) (by decide +kernel) ⟨by decide, ⟨by decide, by decide, by decide⟩⟩ ⟨by decide, ⟨by decide, by decide, by decide⟩⟩ HSg.out.2 (by decide +kernel) (by decide +kernel)
      rw [h3] at this
      exact this
    clear HSf hal
    go_wp2_with fail
    refine Calls.mono HEv.out ?_
    rintro e wh ⟨rfl, bh⟩
    have HSh : Hid (LvS w bA bF 6 wh) := HSg.out.1.next bh
    clear HEv HSg bh
    go_upto_region 7 with fail
    have HSi : Hid (LvS w bA bF 6 (wh.alloc (.cells #[.int .i8 1, .int .i64 3, .string ⟨#[]⟩] 44))) := HSh.out.next ((Below.refl _ _).alloc (Nat.le_refl _) _)
    have HRv : Hid (RL (wh.alloc (.cells #[.int .i8 1, .int .i64 3, .string ⟨#[]⟩] 44)) wh.heap.size 44 [.int .i8 1, .int .i64 3, .string ⟨#[]⟩]) := rl_new wh #[.int .i8 1, .int .i64 3, .string ⟨#[]⟩] 44
    generalize wh.alloc (.cells #[.int .i8 1, .int .i64 3, .string ⟨#[]⟩] 44) = Wi at HSi HRv ⊢
    generalize wh.heap.size = bV at HRv ⊢
    clear HSh
    have HC : Hid (∀ u, Below Wi.heap.size Wi u → LvS w bA bF 6 u ∧ (u.cell? ⟨bV, 0, none⟩ = some (.int .i8 1) ∧ u.cell? ⟨bV, 1, none⟩ = some (.int .i64 3) ∧ u.cell? ⟨bV, 2, none⟩ = some (.string ⟨#[]⟩)) ∧ (u.cell? ⟨bA + 1, 0, none⟩ = some (.string lvP) ∧ u.cell? ⟨bA + 1, 1, none⟩ = some (.slice (some ⟨bA, 0, none⟩) 3 3))) := fun u hu => ⟨HSi.out.next hu, ⟨(RL.below HRv.out hu).at (j := 0) rfl, (RL.below HRv.out hu).at (j := 1) rfl, (RL.below HRv.out hu).at (j := 2) rfl⟩, (HSi.out.next hu).a1.at (j := 0) rfl, (HSi.out.next hu).a1.at (j := 1) rfl⟩
    have HCA : Hid (∀ u, Below Wi.heap.size Wi u → Calls Tryz.prog 39 #[.agg #[.string lvP, .slice (some ⟨bA, 0, none⟩) 3 3]] u fun e w' => e = .returned (.int .i64 0) ∧ Below u.heap.size u w') := fun u hu => by
      have := checkAtom_any lvP _ lvA u (by decide) (HSi.out.next hu).lt
      rw [lv_atom] at this
      exact this
    have HF : Hid (∀ u, Below Wi.heap.size Wi u → Below w.heap.size w u) := fun u hu => HSi.out.bel.trans (hu.mono HSi.out.bel.size)
    have bel : Below Wi.heap.size Wi Wi := Below.refl _ _
    have hS0 := HC.out _ bel
    clear HSi HRv HTK
    go_region_held3 (fun u => (Below Wi.heap.size Wi u) ∧ (u.cell? ⟨bV, 0, none⟩ = some (.int .i8 1) ∧ u.cell? ⟨bV, 1, none⟩ = some (.int .i64 3) ∧ u.cell? ⟨bV, 2, none⟩ = some (.string ⟨#[]⟩)) ∧ (u.cell? ⟨bA + 1, 0, none⟩ = some (.string lvP) ∧ u.cell? ⟨bA + 1, 1, none⟩ = some (.slice (some ⟨bA, 0, none⟩) 3 3)))
      (first
        | assumption
        | exact ⟨bel.drew, (HC.out _ bel.drew).2⟩
        | exact ⟨(by assumption), (HC.out _ (by assumption)).2⟩)
      (first
        | (go_at_call 36; refine (Num_any 3 _).mono ?_; rintro ee w2 ⟨rfl, b2⟩; have b2' : Below Wi.heap.size Wi w2 := lv_next (by first | assumption | exact bel.drew) b2)
        | (go_at_call 39; refine Calls.mono (HCA.out _ (by first | assumption | exact bel.drew)) ?_; rintro ee w3 ⟨rfl, b3⟩; have b3' : Below Wi.heap.size Wi w3 := lv_next (by first | assumption | exact bel.drew) b3)
        | fail)
    all_goals
      go_wp2
      go_ret
      exact ⟨rfl, HF.out _ (by first | assumption | exact bel.drew)⟩
end Go.Proofs.YtgplipfebnigiaaGreatDoor.LV
end
