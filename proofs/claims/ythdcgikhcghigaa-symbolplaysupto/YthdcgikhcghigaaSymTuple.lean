import Derived.Test.YthdcgikhcghigaaSymFull
namespace Go.Proofs.Ythdcgikhcghigaa
open Go.RowKit Go.Maps Go.ChangeMaps
set_option linter.unusedVariables false
set_option linter.unusedSimpArgs false
attribute [local go_sem ↓] Go.wp_at_zero Go.wp_at_succ

set_option maxHeartbeats 1600000 in
theorem same_self (w : World) (a b : Option Addr) (c d : Nat) (xs : List V) (ha : Lv w (.slice a xs.length c) xs) (hb : Lv w (.slice b xs.length d) xs) (hx : xs.length ≤ 1048576) :
    Calls Try.prog 29 #[.slice a xs.length c, .slice b xs.length d] w fun e w' => e = .returned (.bool true) ∧ Below w.heap.size w w' := by
  go_enter Try.func29, Try.ntmps29
  go_wp2
  go_loopw [5] (fun i wr => ∃ k : Nat, k ≤ xs.length ∧ i = .int .i64 k ∧ Below w.heap.size w wr) (fun i _ => xs.length - (intOf i).toNat)
  case atStart => exact ⟨0, Nat.zero_le _, rfl, Below.refl _ _⟩
  case round =>
    obtain ⟨k, hk, rfl, bel⟩ := hrel
    by_cases hlt : k < xs.length
    · obtain ⟨g, off, rfl, hg, x0, x1, x2⟩ := (ha.below bel).at hlt
      obtain ⟨g', off', rfl, hg', y0, y1, y2⟩ := (hb.below bel).at hlt
      generalize atV xs k = u at x0 x1 x2 y0 y1 y2
      have hne : ∀ W, (binOp .neq 39 (.agg #[.int .i8 u.k, .int .i64 u.n, .string u.s]) (.agg #[.int .i8 u.k, .int .i64 u.n, .string u.s])).run Try.prog W = .ok (.bool false) W := fun W => by rw [run_neq]; simp
      have hlt' : (k : Int) < (xs.length : Int) := by omega
      clear ha hb
      go_wp2_with fail
      go_quiet (fail)
      go_wp2
      go_roundw
      case rel => exact ⟨k + 1, by omega, by go_num, bel.trans ⟨rfl, rfl, rfl, Nat.le_refl _, fun _ _ => rfl⟩⟩
      case measure => simp [intOf]; omega
    · clear ha hb
      go_wp2
      go_ret
      exact ⟨rfl, bel⟩

/-- what a row of values holds whose first k are written -/
def compV (j : Nat) (v : V) : Value := if j = 0 then .int .i8 v.k else if j = 1 then .int .i64 v.n else .string v.s
def rowV (f : Nat → V) (k : Nat) : Nat → Value := fun j => if j / 3 < k then compV (j % 3) (f (j / 3)) else compV (j % 3) V0

theorem rowV_step (f : Nat → V) (k j : Nat) :
    (if j = k * 3 + 2 then Value.string (f k).s else if j = k * 3 + 1 then .int .i64 (f k).n else if j = k * 3 then .int .i8 (f k).k else rowV f k j) = rowV f (k + 1) j := by
  by_cases e : j / 3 = k
  · have h1 : j / 3 < k + 1 := by omega
    have h3 : j = k * 3 ∨ j = k * 3 + 1 ∨ j = k * 3 + 2 := by omega
    unfold rowV
    rw [if_pos h1, e]
    rcases h3 with rfl | rfl | rfl
    · simp [compV]
    · simp [compV, show (k * 3 + 1) % 3 = 1 by omega]
    · simp [compV, show (k * 3 + 2) % 3 = 2 by omega]
  · have n0 : ¬ j = k * 3 := by omega
    have n1 : ¬ j = k * 3 + 1 := by omega
    have n2 : ¬ j = k * 3 + 2 := by omega
    unfold rowV
    rw [if_neg n2, if_neg n1, if_neg n0]
    by_cases h : j / 3 < k
    · rw [if_pos h, if_pos (by omega)]
    · rw [if_neg h, if_neg (by omega)]

theorem rowV_lv {w : World} {b n c : Nat} {f : Nat → V} (h : w.rowIs b 39 (n * 3) (rowV f n)) (hn : n ≤ 24) (hw : ∀ i, i < n → (f i).wf) : Lv w (.slice (some ⟨b, 0, none⟩) ((List.range n).map f).length c) ((List.range n).map f) := by
  have hl : ((List.range n).map f).length = n := by simp
  refine ⟨?_, by rw [hl]; unfold maxLen; omega, _, _, rfl, fun i hi => ⟨b, 0, rfl, h.lt, ?_⟩⟩
  · intro u hu
    obtain ⟨i, hi, rfl⟩ := List.mem_map.1 hu
    exact hw i (by simpa using hi)
  · rw [hl] at hi
    have e : atV ((List.range n).map f) i = f i := by rw [atV_eq (by rw [hl]; exact hi)]; simp
    rw [e, show 0 + i * 3 = i * 3 by omega, h.cell (by omega), h.cell (by omega), h.cell (by omega)]
    refine ⟨?_, ?_, ?_⟩
    · simp [rowV, compV, hi]
    · simp [rowV, compV, show (i * 3 + 1) / 3 = i by omega, show (i * 3 + 1) % 3 = 1 by omega, hi]
    · simp [rowV, compV, show (i * 3 + 2) / 3 = i by omega, show (i * 3 + 2) % 3 = 2 by omega, hi]

theorem made_rowV (w : World) (n : Nat) (f : Nat → V) : (w.alloc (.cells (madeCells #[.int .i8 0, .int .i64 0, .string ⟨#[]⟩] (n * 3)) 39)).rowIs w.heap.size 39 (n * 3) (rowV f 0) := by
  have h := World.rowIs_alloc w (madeCells #[.int .i8 0, .int .i64 0, .string ⟨#[]⟩] (n * 3)) 39 (rowV f 0) (fun i hi => by
    rw [size_madeCells] at hi
    obtain h | h | h : i % 3 = 0 ∨ i % 3 = 1 ∨ i % 3 = 2 := by omega
    all_goals simp [madeCells, hi, rowV, compV, h, V0])
  rwa [size_madeCells] at h

theorem run_make_vals (n : Nat) (hn : n ≤ 24) (w : World) :
    (Instr.makeSlice 40 (.int .i64 n) (.int .i64 n)).run Try.prog w = .ok (.slice (some ⟨w.heap.size, 0, none⟩) n n) (w.alloc (.cells (madeCells #[.int .i8 0, .int .i64 0, .string ⟨#[]⟩] (n * 3)) 39)) := by
  obtain ⟨i, hi, h1, h2, h3⟩ := info_parts infoVal
  have := run_make (P := Try.prog) w 40 39 i _ Try.underlying40 hi h1 .i64 .i64 (n : Int) (n : Int) (by omega) (Int.le_refl _) (by rw [h3]; omega) (by omega)
  rw [this, h2, show ((n : Int)).toNat = n by omega]
  rfl

set_option maxHeartbeats 3200000 in
theorem fillValue_any {w0 w : World} {B t : Nat} {vs : List V} {most : Int} (T0 : Table w0 B t vs most) (b0 : Below w0.heap.size w0 w) (hvl : vs.length ≤ 2147483647) (bd bs n : Nat) (ss : Nat → Nat) (hn : n ≤ 24) (hss : ∀ i, i < n → ss i < vs.length) (C : Array Value) (hbs : w.heap[bs]? = some (.cells C 43 (0, 0))) (hC : ∀ i, i < n → C[i]? = some (.int .i32 (ss i)))
    (hd : w.rowIs bd 39 (n * 3) (rowV (fun i => atV vs (ss i)) 0)) (hbd : w0.heap.size ≤ bd) (hne : bs ≠ bd) :
    Calls Try.prog 35 #[.slice (some ⟨bd, 0, none⟩) n n, .slice (some ⟨bs, 0, none⟩) n 24, .func (.func 17) #[.pointer (some ⟨t, 0, none⟩)] #[]] w fun e w' => e = .returned (.int .i64 0) ∧ Below w0.heap.size w0 w' ∧ w'.rowIs bd 39 (n * 3) (rowV (fun i => atV vs (ss i)) n) := by
  go_enter Try.func35, Try.ntmps35
  go_wp2
  go_loopw [13] (fun i wr => ∃ k : Nat, k ≤ n ∧ i = .int .i64 k ∧ Below w0.heap.size w0 wr ∧ wr.heap[bs]? = some (.cells C 43 (0, 0)) ∧ wr.rowIs bd 39 (n * 3) (rowV (fun i => atV vs (ss i)) k)) (fun i _ => n - (intOf i).toNat)
  case atStart => exact ⟨0, Nat.zero_le _, rfl, b0, hbs, hd⟩
  case round =>
    obtain ⟨k, hk, rfl, bel, hb, hrow⟩ := hrel
    clear hbs hd
    by_cases hlt : k < n
    · have x0 : wr.cell? ⟨bs, k, none⟩ = some (.int .i32 (ss k)) := by
        simp only [World.cell?]
        rw [hb]
        simpa using hC k hlt
      have hsk := hss k hlt
      have bslt : bs < wr.heap.size := World.block_lt_of_cell? _ _ x0
      have HST : ∀ j, (if j = k * 3 + 2 then Value.string (atV vs (ss k)).s else if j = k * 3 + 1 then .int .i64 (atV vs (ss k)).n else if j = k * 3 then .int .i8 (atV vs (ss k)).k else rowV (fun i => atV vs (ss i)) k j) = rowV (fun i => atV vs (ss i)) (k + 1) j := fun j => rowV_step _ k j
      have HV : Hid _ := HST
      clear HST
      go_wp2_with fail
      refine (tval_in (T0.below bel) hsk hvl).mono ?_
      rintro e w2 ⟨rfl, hb2⟩
      have belw2 := bel.trans (hb2.mono bel.size)
      have hbs2 : w2.heap[bs]? = some (.cells C 43 (0, 0)) := (hb2.block bs bslt).trans hb
      have hrow1 := hrow.of_block (hb2.block bd hrow.lt)
      generalize atV vs (ss k) = u at HV ⊢
      have z0 := hrow1.cell (i := k * 3) (by omega)
      have z1 := hrow1.cell (i := k * 3 + 1) (by omega)
      have z2 := hrow1.cell (i := k * 3 + 2) (by omega)
      have f := hrow1.frozen
      have bdlt : bd < w2.heap.size := Nat.lt_of_lt_of_le hrow.lt hb2.size
      have bdne : ¬ bd = w2.heap.size := by omega
      have hfin := (((hrow1.set (k * 3) (.int .i8 u.k)).set (k * 3 + 1) (.int .i64 u.n)).set (k * 3 + 2) (.string u.s)).congr fun j _ => HV.out j
      have hk24 : (k : Int) < (n : Int) := by omega
      have bslt2 : bs < w2.heap.size := Nat.lt_of_lt_of_le bslt hb2.size
      have belf := (((belw2.setCell (p := ⟨bd, k * 3, none⟩) hbd (.int .i8 u.k)).setCell (p := ⟨bd, k * 3 + 1, none⟩) hbd (.int .i64 u.n)).setCell (p := ⟨bd, k * 3 + 2, none⟩) hbd (.string u.s))
      have hbsf : (((w2.setCell ⟨bd, k * 3, none⟩ (.int .i8 u.k)).setCell ⟨bd, k * 3 + 1, none⟩ (.int .i64 u.n)).setCell ⟨bd, k * 3 + 2, none⟩ (.string u.s)).heap[bs]? = some (.cells C 43 (0, 0)) := by
        rw [Below.heap_setCell _ ⟨bd, k * 3 + 2, none⟩ _ bs hne, Below.heap_setCell _ ⟨bd, k * 3 + 1, none⟩ _ bs hne, Below.heap_setCell _ ⟨bd, k * 3, none⟩ _ bs hne]
        exact hbs2
      clear hrow hrow1 hb hb2 bel x0 hC hss hbs2
      generalize rowV (fun i => atV vs (ss i)) k (k * 3) = q0 at z0
      generalize rowV (fun i => atV vs (ss i)) k (k * 3 + 1) = q1 at z1
      generalize rowV (fun i => atV vs (ss i)) k (k * 3 + 2) = q2 at z2
      go_wp2
      go_roundw
      case rel => exact ⟨k + 1, by omega, by go_num, belf.alloc belf.size _, (Below.heap_alloc _ _ bs (by simpa [World.setCell] using bslt2)).trans hbsf, hfin.alloc _⟩
      case measure => simp [intOf]; omega
    · obtain rfl : k = n := by omega
      go_wp2
      go_ret
      exact ⟨rfl, bel, hrow⟩
theorem tthere {w : World} {B t : Nat} {vs : List V} {most : Int} (h : Table w B t vs most) :
    Calls Try.prog 21 #[.pointer (some ⟨t, 0, none⟩)] w fun e w' => e = .returned (.bool true) ∧ w' = w := by
  obtain ⟨m, sv, T, r⟩ := h
  exact there_any T

set_option maxHeartbeats 3200000 in
theorem tuple_ok {w : World} {B t : Nat} {vs : List V} {most : Int} (T : Table w B t vs most) (hvl : vs.length ≤ 2147483647) (C : Array Value) (hCs : C.size = 24) (n : Nat) (hn : n ≤ 24) (ss : Nat → Nat) (hC : ∀ i, i < n → C[i]? = some (.int .i32 (ss i))) (hss : ∀ i, i < n → ss i < vs.length) :
    Calls Try.prog 27 #[.pointer (some ⟨t, 0, none⟩), .agg C, .int .i64 n] w fun e w' => ∃ bd, e = .returned (.tuple #[.slice (some ⟨bd, 0, none⟩) n n, .int .i64 0]) ∧ Below w.heap.size w w' ∧ w'.rowIs bd 39 (n * 3) (rowV (fun i => atV vs (ss i)) n) ∧ w.heap.size ≤ bd := by
  have hmf : ∀ (fn : Fn) (first cap : Array Value) (w : World), (Instr.makeFunc fn first cap).run Try.prog w = .ok (.func fn first cap) w := fun _ _ _ _ => rfl
  have hmk := run_make_vals n hn
  have b1 := (Below.refl w.heap.size w).alloc (Nat.le_refl _) (.cells C 43)
  have b2 := b1.alloc (by simp) (.cells (madeCells #[.int .i8 0, .int .i64 0, .string ⟨#[]⟩] (n * 3)) 39)
  have T1 := T.below b1
  have hrow := made_rowV (w.alloc (.cells C 43)) n (fun i => atV vs (ss i))
  have e1 : (w.alloc (.cells C 43)).heap.size = w.heap.size + 1 := by simp
  rw [e1] at hrow
  have hbs : ((w.alloc (.cells C 43)).alloc (.cells (madeCells #[.int .i8 0, .int .i64 0, .string ⟨#[]⟩] (n * 3)) 39)).heap[w.heap.size]? = some (.cells C 43 (0, 0)) := by
    rw [Below.heap_alloc _ _ _ (by simp)]
    exact heap_alloc_new w _
  have hfill := fillValue_any T b2 hvl (w.heap.size + 1) w.heap.size n ss hn hss C hbs hC hrow (by omega) (by omega)
  have hn1 : ¬ (24 : Int) < (n : Int) := by omega
  have hn2 : (n : Int) ≤ 24 := by omega
  clear hrow hbs hC hss
  generalize madeCells #[.int .i8 0, .int .i64 0, .string ⟨#[]⟩] (n * 3) = M at hmk hfill b2
  go_enter Try.func27, Try.ntmps27
  go_wp2_with (first
    | (go_at_call 21; refine (tthere T1).mono ?_; rintro e w' ⟨rfl, rfl⟩)
    | fail)
  refine hfill.mono ?_
  rintro e w2 ⟨rfl, hb2, hr2⟩
  clear hfill
  go_wp2
  go_ret2
  exact ⟨_, rfl, hb2, hr2, by omega⟩
end Go.Proofs.Ythdcgikhcghigaa
