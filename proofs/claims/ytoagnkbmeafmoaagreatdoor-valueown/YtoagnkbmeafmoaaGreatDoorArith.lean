import Derived.Test.YtoagnkbmeafmoaaGreatDoorVal
namespace Go.Proofs.YtoagnkbmeafmoaaGreatDoor.AR
open Go.RowKit
set_option linter.unusedVariables false
attribute [local go_sem ↓] Go.wp_at_zero Go.wp_at_succ

/-- how an operation takes its values, by its number -/
def tkOf (op : Int) : Int := if op = 1 then 1 else if 2 ≤ op ∧ op ≤ 6 then 2 else if op = 7 then 4 else if 8 ≤ op ∧ op ≤ 10 then 3 else 0

/-- the table of the package lies in block 0 -/
structure Tab (w : World) : Prop where
  pos : 0 < w.heap.size
  cell : ∀ i : Nat, i < 11 → w.cell? ⟨0, i, none⟩ = some (.int .i8 (tkOf i))

theorem Tab.below {w w' : World} (t : Tab w) (h : Below w.heap.size w w') : Tab w' :=
  ⟨Nat.lt_of_lt_of_le t.pos h.size, fun i hi => by rw [h.cell (p := ⟨0, i, none⟩) t.pos]; exact t.cell i hi⟩

def numV (n : Int) : Value := .agg #[.int .i8 1, .int .i64 n, .string ⟨#[]⟩]
def textV (s : ByteArray) : Value := .agg #[.int .i8 2, .int .i64 0, .string s]

theorem number_any (n : Int) (w : World) :
    Calls Tryz.prog 76 #[.int .i64 n] w fun e w' => e = .returned (.agg #[.int .i8 1, .int .i64 n, .string ⟨#[]⟩]) ∧ Below w.heap.size w w' := by
  go_enter Tryz.func76, Tryz.ntmps76
  go_wp2
  exact bodyPost_ret (v := .agg #[.int .i8 1, .int .i64 n, .string ⟨#[]⟩]) (by simp [results, Tryz.results76, go_sem]) rfl ⟨rfl, (Below.refl _ _).alloc (Nat.le_refl _) _⟩

theorem text_any (s : ByteArray) (w : World) :
    Calls Tryz.prog 188 #[.string s] w fun e w' => e = .returned (.agg #[.int .i8 2, .int .i64 0, .string s]) ∧ Below w.heap.size w w' := by
  go_enter Tryz.func188, Tryz.ntmps188
  go_wp2
  exact bodyPost_ret (v := .agg #[.int .i8 2, .int .i64 0, .string s]) (by simp [results, Tryz.results188, go_sem]) rfl ⟨rfl, (Below.refl _ _).alloc (Nat.le_refl _) _⟩

theorem num_any (n : Int) (w : World) :
    Calls Tryz.prog 19 #[.int .i64 n] w fun e w' => e = .returned (.agg #[.int .i8 1, .int .i64 n, .string ⟨#[]⟩]) ∧ Below w.heap.size w w' := by
  go_enter Tryz.func19, Tryz.ntmps19
  go_wp2
  exact bodyPost_ret (v := .agg #[.int .i8 1, .int .i64 n, .string ⟨#[]⟩]) (by simp [results, Tryz.results19, go_sem]) rfl ⟨rfl, (Below.refl _ _).alloc (Nat.le_refl _) _⟩

theorem word1_any (s : ByteArray) (w : World) :
    Calls Tryz.prog 21 #[.string s] w fun e w' => e = .returned (.agg #[.int .i8 2, .int .i64 0, .string s]) ∧ Below w.heap.size w w' := by
  go_enter Tryz.func21, Tryz.ntmps21
  go_wp2
  exact bodyPost_ret (v := .agg #[.int .i8 2, .int .i64 0, .string s]) (by simp [results, Tryz.results21, go_sem]) rfl ⟨rfl, (Below.refl _ _).alloc (Nat.le_refl _) _⟩

set_option maxHeartbeats 400000 in
theorem takingOf_any (op : Int) (w : World) (ht : Tab w) (hb : -128 ≤ op ∧ op ≤ 127) :
    Calls Tryz.prog 74 #[.int .i8 op] w fun e w' => e = .returned (.int .i8 (tkOf op)) ∧ w' = w := by
  by_cases h0 : op < 0
  · have HT : Hid (tkOf op = 0) := by unfold tkOf; simp only [Hid]; split <;> first | omega | (split <;> first | omega | (split <;> first | omega | (split <;> omega)))
    go_enter Tryz.func74, Tryz.ntmps74
    go_wp2
    all_goals
      go_ret
      exact ⟨ret_int HT.out.symm, rfl⟩
  · by_cases h1 : 11 ≤ op
    · have HT : Hid (tkOf op = 0) := by unfold tkOf; simp only [Hid]; split <;> first | omega | (split <;> first | omega | (split <;> first | omega | (split <;> omega)))
      go_enter Tryz.func74, Tryz.ntmps74
      go_wp2
      all_goals
        go_ret
        exact ⟨ret_int HT.out.symm, rfl⟩
    · obtain ⟨k, rfl⟩ : ∃ k : Nat, op = k := ⟨op.toNat, by omega⟩
      have hc := ht.cell k (by omega)
      clear ht
      generalize tkOf (k : Int) = t at hc
      go_enter Tryz.func74, Tryz.ntmps74
      go_wp2
      go_ret
      exact ⟨rfl, rfl⟩

/-- the values of a list that lies in memory: element i has the kind K i, the number N i, the text S i -/
structure Vals (w : World) (g off len : Nat) (K N : Nat → Int) (S : Nat → ByteArray) : Prop where
  lt : g < w.heap.size
  kind : ∀ i, i < len → w.cell? ⟨g, off + i * 3, none⟩ = some (.int .i8 (K i))
  num : ∀ i, i < len → w.cell? ⟨g, off + i * 3 + 1, none⟩ = some (.int .i64 (N i))
  text : ∀ i, i < len → w.cell? ⟨g, off + i * 3 + 2, none⟩ = some (.string (S i))
  size : ∀ i, i < len → (S i).size ≤ maxLen

theorem Vals.below {w w' : World} {g off len : Nat} {K N : Nat → Int} {S : Nat → ByteArray} (v : Vals w g off len K N S) (h : Below w.heap.size w w') : Vals w' g off len K N S :=
  ⟨Nat.lt_of_lt_of_le v.lt h.size, fun i hi => by rw [h.cell (p := ⟨g, _, none⟩) v.lt]; exact v.kind i hi, fun i hi => by rw [h.cell (p := ⟨g, _, none⟩) v.lt]; exact v.num i hi, fun i hi => by rw [h.cell (p := ⟨g, _, none⟩) v.lt]; exact v.text i hi, v.size⟩

/-- are the first len values of that kind, and values? -/
def allOf (kind : Int) (K N : Nat → Int) (S : Nat → ByteArray) : Nat → Bool
  | 0 => true
  | i + 1 => allOf kind K N S i && (K i == kind && chk (K i) (N i) (S i) == 0)

theorem allOf_not {kind : Int} {K N : Nat → Int} {S : Nat → ByteArray} {k : Nat} : ∀ {len : Nat}, k < len → (K k == kind && chk (K k) (N k) (S k) == 0) = false → allOf kind K N S len = false
  | 0, h, _ => by omega
  | n + 1, h, hf => by
    by_cases e : k = n
    · subst e; simp only [allOf, hf, Bool.and_false]
    · simp only [allOf, allOf_not (len := n) (by omega) hf, Bool.false_and]

theorem allOf_step {kind : Int} {K N : Nat → Int} {S : Nat → ByteArray} {k : Nat} (ha : allOf kind K N S k = true) (hk : K k = kind) (hc : chk (K k) (N k) (S k) = 0) : allOf kind K N S (k + 1) = true := by
  show (allOf kind K N S k && (K k == kind && chk (K k) (N k) (S k) == 0)) = true
  rw [ha, hc]
  simp [hk]

def areB (count kind : Int) (K N : Nat → Int) (S : Nat → ByteArray) (len : Nat) : Bool := allOf kind K N S len && ((len : Int) == count)

set_option maxHeartbeats 800000 in
theorem areValues_any (K N : Nat → Int) (S : Nat → ByteArray) (g off len cap : Nat) (count kind : Int) (w : World) (hv : Vals w g off len K N S) (hl : len ≤ maxLen) :
    Calls Tryz.prog 75 #[.slice (some ⟨g, off, none⟩) len cap, .int .i64 count, .int .i8 kind] w fun e w' => e = .returned (.bool (areB count kind K N S len)) ∧ Below w.heap.size w w' := by
  unfold maxLen at hl
  go_enter Tryz.func75, Tryz.ntmps75
  go_wp2
  go_loopw [8, 11] (fun _ i wr => ∃ k : Nat, k ≤ len ∧ i = .int .i64 k ∧ Hid (allOf kind K N S k = true) ∧ Below w.heap.size w wr) (fun _ i _ => len - (intOf i).toNat)
  case atStart => exact ⟨0, Nat.zero_le _, rfl, rfl, Below.refl _ _⟩
  case round =>
    obtain ⟨k, hk, rfl, HA, bel⟩ := hrel
    by_cases hlt : k < len
    · have vv := hv.below bel
      have hck := vv.kind k hlt
      have hcn := vv.num k hlt
      have hct := vv.text k hlt
      have hsz := hv.size k hlt
      clear hv vv
      generalize hKk : K k = kk at hck
      generalize hNk : N k = nn at hcn
      generalize hSk : S k = ss at hct hsz
      have HK : Hid (K k = kk) := hKk
      have HN : Hid (N k = nn) := hNk
      have HS : Hid (S k = ss) := hSk
      clear hKk hNk hSk
      have hz : w.heap.size ≤ wr.heap.size := bel.size
      by_cases hkd : kk = kind
      · have hkd' : (kk != kind) = false := by simpa using hkd
        have HKD : Hid (kk = kind) := hkd
        clear hkd
        by_cases hchk : chk kk nn ss = 0
        · go_wp2_with fail
          refine (vcheck_any _ _ _ _ hsz).mono ?_
          rintro e w1 ⟨rfl, hb1⟩
          have bel1 : Below w.heap.size w w1 := (bel.alloc hz _).trans (hb1.mono (by simp; omega))
          have HA1 : Hid (allOf kind K N S (k + 1) = true) := allOf_step HA.out (HK.out.trans HKD.out) (by rw [HK.out, HN.out, HS.out]; exact hchk)
          go_wp2
          go_roundw
          case rel => exact ⟨k + 1, by omega, by go_num, HA1, bel1⟩
          case measure => simp [intOf]; omega
        · have hchk' : (chk kk nn ss != 0) = true := by simpa using hchk
          have HC : Hid (¬ chk kk nn ss = 0) := hchk
          clear hchk
          go_wp2_with fail
          refine (vcheck_any _ _ _ _ hsz).mono ?_
          rintro e w1 ⟨rfl, hb1⟩
          have bel1 : Below w.heap.size w w1 := (bel.alloc hz _).trans (hb1.mono (by simp; omega))
          have HF : Hid (areB count kind K N S len = false) := by
            show areB count kind K N S len = false
            unfold areB
            rw [allOf_not hlt (by rw [HK.out, HN.out, HS.out]; simp [HC.out]), Bool.false_and]
          go_wp2
          go_ret
          exact ⟨ret_bool HF.out.symm, bel1⟩
      · have hkd' : (kk != kind) = true := by simpa using hkd
        have HF : Hid (areB count kind K N S len = false) := by
          show areB count kind K N S len = false
          unfold areB
          rw [allOf_not hlt (by rw [HK.out]; simp [hkd]), Bool.false_and]
        clear hkd
        go_wp2
        go_ret
        exact ⟨ret_bool HF.out.symm, bel.alloc hz _⟩
    · obtain rfl : k = len := by omega
      go_wp2
      go_ret
      exact ⟨ret_bool (by unfold areB; rw [HA.out, Bool.true_and]), bel⟩

end Go.Proofs.YtoagnkbmeafmoaaGreatDoor.AR
