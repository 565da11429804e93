import Derived.Test.YthdcgikhcghigaaSpOut
namespace Go.Proofs.Ythdcgikhcghigaa
open Go.RowKit Go.Maps Go.ChangeMaps
set_option linter.unusedVariables false
set_option linter.unusedSimpArgs false
attribute [local go_sem ↓] Go.wp_at_zero Go.wp_at_succ

set_option maxHeartbeats 3200000 in
theorem fillValue_bad {w0 w : World} {B t : Nat} {vs : List V} {most : Int} (T0 : Table w0 B t vs most) (b0 : Below w0.heap.size w0 w) (hvl : vs.length ≤ 2147483647) (bd bs n k0 : Nat) (ss : Nat → Nat) (z : Int) (hk0 : k0 < n) (hn : n ≤ 24) (hss : ∀ i, i < k0 → ss i < vs.length) (hz : z < 0 ∨ (vs.length : Int) ≤ z) (hz0 : -2147483648 ≤ z) (hz1 : z ≤ 2147483647) (C : Array Value) (hbs : w.heap[bs]? = some (.cells C 43 (0, 0))) (hC : ∀ i, i < k0 → C[i]? = some (.int .i32 (ss i))) (hCz : C[k0]? = some (.int .i32 z))
    (hd : w.rowIs bd 39 (n * 3) (rowV (fun i => atV vs (ss i)) 0)) (hbd : w0.heap.size ≤ bd) (hne : bs ≠ bd) :
    Calls Try.prog 35 #[.slice (some ⟨bd, 0, none⟩) n n, .slice (some ⟨bs, 0, none⟩) n 24, .func (.func 17) #[.pointer (some ⟨t, 0, none⟩)] #[]] w fun e w' => e = .returned (.int .i64 21) ∧ Below w0.heap.size w0 w' := by
  go_enter Try.func35, Try.ntmps35
  go_wp2
  go_loopw [13] (fun i wr => ∃ k : Nat, k ≤ k0 ∧ i = .int .i64 k ∧ Below w0.heap.size w0 wr ∧ wr.heap[bs]? = some (.cells C 43 (0, 0)) ∧ wr.rowIs bd 39 (n * 3) (rowV (fun i => atV vs (ss i)) k)) (fun i _ => k0 - (intOf i).toNat)
  case atStart => exact ⟨0, Nat.zero_le _, rfl, b0, hbs, hd⟩
  case round =>
    obtain ⟨k, hk, rfl, bel, hb, hrow⟩ := hrel
    clear hbs hd
    by_cases hlt : k < k0
    · have x0 : wr.cell? ⟨bs, k, none⟩ = some (.int .i32 (ss k)) := by
        simp only [World.cell?]
        rw [hb]
        simpa using hC k hlt
      have hsk := hss k hlt
      have bslt : bs < wr.heap.size := World.block_lt_of_cell? _ _ x0
      have HST : ∀ j, (if j = k * 3 + 2 then Value.string (atV vs (ss k)).s else if j = k * 3 + 1 then .int .i64 (atV vs (ss k)).n else if j = k * 3 then .int .i8 (atV vs (ss k)).k else rowV (fun i => atV vs (ss i)) k j) = rowV (fun i => atV vs (ss i)) (k + 1) j := fun j => rowV_step _ k j
      have HV : Hid _ := HST
      clear HST
      go_wp2_with fail
      refine (tval_in (T0.below bel) hsk hvl).mono ?_
      rintro e w2 ⟨rfl, hb2⟩
      have belw2 := bel.trans (hb2.mono bel.size)
      have hbs2 : w2.heap[bs]? = some (.cells C 43 (0, 0)) := (hb2.block bs bslt).trans hb
      have hrow1 := hrow.of_block (hb2.block bd hrow.lt)
      generalize atV vs (ss k) = u at HV ⊢
      have z0 := hrow1.cell (i := k * 3) (by omega)
      have z1 := hrow1.cell (i := k * 3 + 1) (by omega)
      have z2 := hrow1.cell (i := k * 3 + 2) (by omega)
      have f := hrow1.frozen
      have bdlt : bd < w2.heap.size := Nat.lt_of_lt_of_le hrow.lt hb2.size
      have bdne : ¬ bd = w2.heap.size := by omega
      have hfin := (((hrow1.set (k * 3) (.int .i8 u.k)).set (k * 3 + 1) (.int .i64 u.n)).set (k * 3 + 2) (.string u.s)).congr fun j _ => HV.out j
      have hk24 : (k : Int) < (n : Int) := by omega
      have bslt2 : bs < w2.heap.size := Nat.lt_of_lt_of_le bslt hb2.size
      have belf := (((belw2.setCell (p := ⟨bd, k * 3, none⟩) hbd (.int .i8 u.k)).setCell (p := ⟨bd, k * 3 + 1, none⟩) hbd (.int .i64 u.n)).setCell (p := ⟨bd, k * 3 + 2, none⟩) hbd (.string u.s))
      have hbsf : (((w2.setCell ⟨bd, k * 3, none⟩ (.int .i8 u.k)).setCell ⟨bd, k * 3 + 1, none⟩ (.int .i64 u.n)).setCell ⟨bd, k * 3 + 2, none⟩ (.string u.s)).heap[bs]? = some (.cells C 43 (0, 0)) := by
        rw [Below.heap_setCell _ ⟨bd, k * 3 + 2, none⟩ _ bs hne, Below.heap_setCell _ ⟨bd, k * 3 + 1, none⟩ _ bs hne, Below.heap_setCell _ ⟨bd, k * 3, none⟩ _ bs hne]
        exact hbs2
      clear hrow hrow1 hb hb2 bel x0 hC hss hbs2 hCz
      generalize rowV (fun i => atV vs (ss i)) k (k * 3) = q0 at z0
      generalize rowV (fun i => atV vs (ss i)) k (k * 3 + 1) = q1 at z1
      generalize rowV (fun i => atV vs (ss i)) k (k * 3 + 2) = q2 at z2
      go_wp2
      go_roundw
      case rel => exact ⟨k + 1, by omega, by go_num, belf.alloc belf.size _, (Below.heap_alloc _ _ bs (by simpa [World.setCell] using bslt2)).trans hbsf, hfin.alloc _⟩
      case measure => simp [intOf]; omega
    · obtain rfl : k = k0 := by omega
      have x0 : wr.cell? ⟨bs, k, none⟩ = some (.int .i32 z) := by
        simp only [World.cell?]
        rw [hb]
        simpa using hCz
      have hk24 : (k : Int) < (n : Int) := by omega
      have HBL := Lib.hid bel
      obtain ⟨m, sv, T1, _⟩ := T0.below bel
      have HV := Lib.hid (value_outI T1 hz hz0 hz1)
      clear hrow bel hb T1 hC hCz hss
      go_wp2_with fail
      refine HV.out.mono ?_
      rintro e w2 ⟨rfl, hb2⟩
      go_wp2
      go_ret
      exact ⟨rfl, (HBL.out.trans (hb2.mono HBL.out.size)).alloc (Nat.le_trans HBL.out.size hb2.size) _⟩
set_option maxHeartbeats 3200000 in
theorem tuple_bad {w : World} {B t : Nat} {vs : List V} {most : Int} (T : Table w B t vs most) (hvl : vs.length ≤ 2147483647) (C : Array Value) (hCs : C.size = 24) (n k0 : Nat) (hn : n ≤ 24) (ss : Nat → Nat) (z : Int) (hk0 : k0 < n) (hC : ∀ i, i < k0 → C[i]? = some (.int .i32 (ss i))) (hCz : C[k0]? = some (.int .i32 z)) (hss : ∀ i, i < k0 → ss i < vs.length) (hz : z < 0 ∨ (vs.length : Int) ≤ z) (hz0 : -2147483648 ≤ z) (hz1 : z ≤ 2147483647) :
    Calls Try.prog 27 #[.pointer (some ⟨t, 0, none⟩), .agg C, .int .i64 n] w fun e w' => e = .returned (.tuple #[.slice none 0 0, .int .i64 21]) ∧ Below w.heap.size w w' := by
  have hmf : ∀ (fn : Fn) (first cap : Array Value) (w : World), (Instr.makeFunc fn first cap).run Try.prog w = .ok (.func fn first cap) w := fun _ _ _ _ => rfl
  have hmk := run_make_vals n hn
  have b1 := (Below.refl w.heap.size w).alloc (Nat.le_refl _) (.cells C 43)
  have b2 := b1.alloc (by simp) (.cells (madeCells #[.int .i8 0, .int .i64 0, .string ⟨#[]⟩] (n * 3)) 39)
  have T1 := T.below b1
  have hrow := made_rowV (w.alloc (.cells C 43)) n (fun i => atV vs (ss i))
  have e1 : (w.alloc (.cells C 43)).heap.size = w.heap.size + 1 := by simp
  rw [e1] at hrow
  have hbs : ((w.alloc (.cells C 43)).alloc (.cells (madeCells #[.int .i8 0, .int .i64 0, .string ⟨#[]⟩] (n * 3)) 39)).heap[w.heap.size]? = some (.cells C 43 (0, 0)) := by
    rw [Below.heap_alloc _ _ _ (by simp)]
    exact heap_alloc_new w _
  have hfill := fillValue_bad T b2 hvl (w.heap.size + 1) w.heap.size n k0 ss z hk0 hn hss hz hz0 hz1 C hbs hC hCz hrow (by omega) (by omega)
  have hn1 : ¬ (24 : Int) < (n : Int) := by omega
  have hn2 : (n : Int) ≤ 24 := by omega
  clear hrow hbs hC hss hCz
  generalize madeCells #[.int .i8 0, .int .i64 0, .string ⟨#[]⟩] (n * 3) = M at hmk hfill b2
  go_enter Try.func27, Try.ntmps27
  go_wp2_with (first
    | (go_at_call 21; refine (tthere T1).mono ?_; rintro e w' ⟨rfl, rfl⟩)
    | fail)
  refine hfill.mono ?_
  rintro e w2 ⟨rfl, hb2⟩
  clear hfill
  go_wp2
  go_ret2
  exact ⟨rfl, hb2⟩
end Go.Proofs.Ythdcgikhcghigaa
