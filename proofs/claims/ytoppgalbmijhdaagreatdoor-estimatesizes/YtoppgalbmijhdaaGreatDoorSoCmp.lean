import Derived.Test.YtoppgalbmijhdaaGreatDoorColM
import Derived.Sort.Grow
namespace Go.Proofs.YtoppgalbmijhdaaGreatDoor.AR
open Go.RowKit
set_option linter.unusedVariables false
set_option linter.unusedSimpArgs false
attribute [local go_sem ↓] Go.wp_at_zero Go.wp_at_succ

/-! the comparisons once more: they draw, and lay blocks, and do nothing else (slices.SortFunc asks for that) -/
theorem grown_of {w w' : World} (hb : Below w.heap.size w w') (hd : w.drawn ≤ w'.drawn) : ∃ q os, w' = Go.Sort.grow (w.drewN q) os := by
  refine ⟨w'.drawn - w.drawn, w'.heap.extract w.heap.size w'.heap.size, ?_⟩
  obtain ⟨heap, tape, drawn, os, output⟩ := w
  obtain ⟨heap', tape', drawn', os', output'⟩ := w'
  obtain ⟨h1, h2, h3, h4, h5⟩ := hb
  simp only at h1 h2 h3 h4 h5 hd
  subst h1 h2 h3
  have e1 : drawn + (drawn' - drawn) = drawn' := by omega
  have e2 : heap ++ heap'.extract heap.size heap'.size = heap' := by
    apply Array.ext_getElem?
    intro i
    by_cases hi : i < heap.size
    · rw [Array.getElem?_append_left hi, h5 i hi]
    · rw [Array.getElem?_append_right (by omega), Array.getElem?_extract]
      by_cases hj : i < heap'.size
      · rw [if_pos (by omega)]
        congr 1
        omega
      · rw [if_neg (by omega), Array.getElem?_eq_none (by omega)]
  show World.mk heap' tape' drawn' os' output' = World.mk (heap ++ heap'.extract heap.size heap'.size) tape' (drawn + (drawn' - drawn)) os' output'
  rw [e1, e2]
set_option maxHeartbeats 1600000 in
theorem vcompareD (k1 n1 : Int) (s1 : ByteArray) (k2 n2 : Int) (s2 : ByteArray) (w : World) :
    Calls Tryz.prog 82 #[.agg #[.int .i8 k1, .int .i64 n1, .string s1], .agg #[.int .i8 k2, .int .i64 n2, .string s2]] w fun e w' => e = .returned (.int .i64 (cmpV k1 n1 s1 k2 n2 s2)) ∧ Below w.heap.size w w' ∧ w.drawn ≤ w'.drawn := by
  go_enter Tryz.func82, Tryz.ntmps82
  go_wp2_with fail
  go_region_held3 (fun w' => w'.cell? ⟨w.heap.size, 0, none⟩ = some (.int .i8 k1) ∧ w'.cell? ⟨w.heap.size, 1, none⟩ = some (.int .i64 n1) ∧ w'.cell? ⟨w.heap.size, 2, none⟩ = some (.string s1) ∧ w'.cell? ⟨w.heap.size + 1, 0, none⟩ = some (.int .i8 k2) ∧ w'.cell? ⟨w.heap.size + 1, 1, none⟩ = some (.int .i64 n2) ∧ w'.cell? ⟨w.heap.size + 1, 2, none⟩ = some (.string s2)) (go_keep)
    (first
      | (go_at_call 96; refine (cmpKind_any _ _ _).mono ?_; rintro e w' ⟨rfl, rfl⟩)
      | (go_at_call 97; refine (cmpNum_any _ _ _).mono ?_; rintro e w' ⟨rfl, rfl⟩)
      | (go_at_call 71; refine (cmpText_any _ _ _).mono ?_; rintro e w' ⟨rfl, rfl⟩)
      | (go_at_call 70; refine (or_any [Lib.compareInt k1 k2, Lib.compareInt n1 n2, Lib.compareBytes s1.data.toList s2.data.toList] _ 0 3 3 _ rfl (by omega) ?_).mono ?_; (intro i hi; obtain rfl | rfl | rfl : i = 0 ∨ i = 1 ∨ i = 2 := (by omega)) <;> go_simp; rintro e w' ⟨rfl, rfl⟩))
  go_wp2
  go_ret
  exact ⟨rfl, ((((Below.refl _ _).alloc (Nat.le_refl _) _).alloc (by simp) _).alloc (by simp; omega) _).drew, by simp⟩

set_option maxHeartbeats 1600000 in
theorem compareFuncD (a b : Option Addr) (n m c d : Nat) (K N : Nat → Int) (S : Nat → ByteArray) (K' N' : Nat → Int) (S' : Nat → ByteArray) (w : World) (hn : n ≤ maxLen) (hm : m ≤ maxLen)
    (ha : 0 < n → ∃ g off, a = some ⟨g, off, none⟩ ∧ Cells w g off n K N S) (hb : 0 < m → ∃ g off, b = some ⟨g, off, none⟩ ∧ Cells w g off m K' N' S') :
    Calls Tryz.prog 81 #[.slice a n c, .slice b m d, .func (.func 82) #[] #[]] w fun e w' => e = .returned (.int .i64 (tupC (fun i => cmpV (K i) (N i) (S i) (K' i) (N' i) (S' i)) n m (min n m))) ∧ Below w.heap.size w w' ∧ w.drawn ≤ w'.drawn := by
  unfold maxLen at hn hm
  go_enter Tryz.func81, Tryz.ntmps81
  go_wp2
  go_loopw [13] (fun i wr => ∃ k : Nat, k ≤ n ∧ k ≤ m ∧ i = .int .i64 k ∧ Hid (tupC (fun i => cmpV (K i) (N i) (S i) (K' i) (N' i) (S' i)) n m (min n m) = tupC (fun i => cmpV (K i) (N i) (S i) (K' i) (N' i) (S' i)) n m (min n m - k)) ∧ Below w.heap.size w wr ∧ w.drawn ≤ wr.drawn) (fun i _ => n - (intOf i).toNat)
  case atStart => exact ⟨0, Nat.zero_le _, Nat.zero_le _, rfl, rfl, Below.refl _ _, Nat.le_refl _⟩
  case round =>
    obtain ⟨k, hk, hkm, rfl, HT, bel, dr⟩ := hrel
    have HDR : Hid (w.drawn ≤ wr.drawn) := dr
    clear dr
    by_cases hlt : k < n
    · obtain ⟨g, off, rfl, hc⟩ := ha (by omega)
      have v := hc.below bel
      have x0 := v.kind k hlt
      have x1 := v.num k hlt
      have x2 := v.text k hlt
      have hz := bel.size
      by_cases hlm : k < m
      · obtain ⟨g', off', rfl, hc'⟩ := hb (by omega)
        have v' := hc'.below bel
        have y0 := v'.kind k hlm
        have y1 := v'.num k hlm
        have y2 := v'.text k hlm
        have hg := v.lt (by omega)
        have hg' := v'.lt (by omega)
        have HS := tupC_step (fun i => cmpV (K i) (N i) (S i) (K' i) (N' i) (S' i)) n m k (by omega)
        have HS' : Hid (tupC (fun i => cmpV (K i) (N i) (S i) (K' i) (N' i) (S' i)) n m (min n m - k) = if cmpV (K k) (N k) (S k) (K' k) (N' k) (S' k) = 0 then tupC (fun i => cmpV (K i) (N i) (S i) (K' i) (N' i) (S' i)) n m (min n m - (k + 1)) else cmpV (K k) (N k) (S k) (K' k) (N' k) (S' k)) := HS
        clear HS ha hb hc hc' v v'
        go_wp2_with fail
        refine (vcompareD _ _ _ _ _ _ _).mono ?_
        rintro e w1 ⟨rfl, hb1, hd1⟩
        have HD1 : Hid (w.drawn ≤ w1.drawn) := Nat.le_trans HDR.out (by simpa using hd1)
        clear hd1
        have bel1 : Below w.heap.size w w1 := ((bel.alloc hz _).alloc (by simp; omega) _).trans (hb1.mono (by simp; omega))
        clear hb1
        by_cases hc0 : cmpV (K k) (N k) (S k) (K' k) (N' k) (S' k) = 0
        · go_wp2
          go_roundw
          case rel => exact ⟨k + 1, by omega, by omega, by go_num, by show _ = _; rw [HT.out, HS'.out]; exact if_pos hc0, bel1, HD1.out⟩
          case measure => simp [intOf]; omega
        · have hc1 : (cmpV (K k) (N k) (S k) (K' k) (N' k) (S' k) != 0) = true := by simpa using hc0
          have HC : Hid (¬ cmpV (K k) (N k) (S k) (K' k) (N' k) (S' k) = 0) := hc0
          clear hc0
          go_wp2
          go_ret
          exact ⟨ret_int (by rw [HT.out, HS'.out]; exact (if_neg HC.out).symm), bel1, HD1.out⟩
      · obtain rfl : k = m := by omega
        have HF : Hid (tupC (fun i => cmpV (K i) (N i) (S i) (K' i) (N' i) (S' i)) n k (min n k - k) = 1) := by
          show _ = (1 : Int)
          rw [show min n k - k = 0 by omega]
          simp only [tupC]
          rw [if_neg (by omega), if_pos hlt]
        clear ha hb hc v
        go_wp2
        go_ret
        exact ⟨ret_int (by rw [HT.out, HF.out]), bel.alloc hz _, by simpa using HDR.out⟩
    · obtain rfl : k = n := by omega
      by_cases hlm : k < m
      · have HF : Hid (tupC (fun i => cmpV (K i) (N i) (S i) (K' i) (N' i) (S' i)) k m (min k m - k) = -1) := by
          show _ = (-1 : Int)
          rw [show min k m - k = 0 by omega]
          simp only [tupC]
          rw [if_pos hlm]
        clear ha hb
        go_wp2
        go_ret
        exact ⟨ret_int (by rw [HT.out, HF.out]), bel, HDR.out⟩
      · have HF : Hid (tupC (fun i => cmpV (K i) (N i) (S i) (K' i) (N' i) (S' i)) k m (min k m - k) = 0) := by
          show _ = (0 : Int)
          rw [show min k m - k = 0 by omega]
          simp only [tupC]
          rw [if_neg hlm, if_neg (by omega)]
        clear ha hb
        go_wp2
        go_ret
        exact ⟨ret_int (by rw [HT.out, HF.out]), bel, HDR.out⟩

theorem vcompareTuplesD (v v' : Value) (n m : Nat) (K N : Nat → Int) (S : Nat → ByteArray) (K' N' : Nat → Int) (S' : Nat → ByteArray) (w : World) (hl : Lst w v n K N S) (hl' : Lst w v' m K' N' S') :
    Calls Tryz.prog 72 #[v, v'] w fun e w' => e = .returned (.int .i64 (tupC (fun i => cmpV (K i) (N i) (S i) (K' i) (N' i) (S' i)) n m (min n m))) ∧ Below w.heap.size w w' ∧ w.drawn ≤ w'.drawn := by
  obtain ⟨a, c, rfl, hn, ha⟩ := hl.form
  obtain ⟨b, d, rfl, hm, hb⟩ := hl'.form
  clear hl hl'
  go_enter Tryz.func72, Tryz.ntmps72
  go_wp2_with fail
  refine (compareFuncD a b n m c d K N S K' N' S' _ hn hm ha hb).mono ?_
  rintro e w1 ⟨rfl, hb1, hd1⟩
  have HD1 : Hid (w.drawn ≤ w1.drawn) := hd1
  clear hd1
  go_wp2
  go_ret
  exact ⟨rfl, hb1, HD1.out⟩

theorem fact_keepD {w : World} {p p' : ByteArray} {v v' : Value} {u u' : World} (hb : Below u.heap.size u u') (hd : u.drawn ≤ u'.drawn)
    (h : w.drawn ≤ u.drawn ∧ w.heap.size + 1 < u.heap.size ∧ Below w.heap.size w u ∧ u.cell? ⟨w.heap.size, 0, none⟩ = some (.string p) ∧ u.cell? ⟨w.heap.size, 1, none⟩ = some v ∧ u.cell? ⟨w.heap.size + 1, 0, none⟩ = some (.string p') ∧ u.cell? ⟨w.heap.size + 1, 1, none⟩ = some v') :
    w.drawn ≤ u'.drawn ∧ w.heap.size + 1 < u'.heap.size ∧ Below w.heap.size w u' ∧ u'.cell? ⟨w.heap.size, 0, none⟩ = some (.string p) ∧ u'.cell? ⟨w.heap.size, 1, none⟩ = some v ∧ u'.cell? ⟨w.heap.size + 1, 0, none⟩ = some (.string p') ∧ u'.cell? ⟨w.heap.size + 1, 1, none⟩ = some v' :=
  ⟨Nat.le_trans h.1 hd, fact_keep hb h.2⟩
set_option maxHeartbeats 1600000 in
theorem vcompareFactsD (p p' : ByteArray) (v v' : Value) (n m : Nat) (K N : Nat → Int) (S : Nat → ByteArray) (K' N' : Nat → Int) (S' : Nat → ByteArray) (w : World) (hl : Lst w v n K N S) (hl' : Lst w v' m K' N' S') :
    Calls Tryz.prog 59 #[.agg #[.string p, v], .agg #[.string p', v']] w fun e w' => e = .returned (.int .i64 (cmpF p p' (tupC (fun i => cmpV (K i) (N i) (S i) (K' i) (N' i) (S' i)) n m (min n m)))) ∧ Below w.heap.size w w' ∧ w.drawn ≤ w'.drawn := by
  obtain ⟨a, c, rfl, _, _⟩ := hl.form
  obtain ⟨b, d, rfl, _, _⟩ := hl'.form
  go_enter Tryz.func59, Tryz.ntmps59
  go_wp2_with fail
  go_region_held3 (fun w' => w.drawn ≤ w'.drawn ∧ w.heap.size + 1 < w'.heap.size ∧ Below w.heap.size w w' ∧ w'.cell? ⟨w.heap.size, 0, none⟩ = some (.string p) ∧ w'.cell? ⟨w.heap.size, 1, none⟩ = some (.slice a n c) ∧ w'.cell? ⟨w.heap.size + 1, 0, none⟩ = some (.string p') ∧ w'.cell? ⟨w.heap.size + 1, 1, none⟩ = some (.slice b m d))
    (first
      | assumption
      | exact fact_keepD (by assumption) (by assumption) (by assumption)
      | exact fact_keepD ((Below.refl _ _).alloc (Nat.le_refl _) _) (by simp) (by assumption)
      | (refine ⟨(by simp), (by simp), (((Below.refl _ _).alloc (Nat.le_refl _) _).alloc (by simp) _).drew, ?_, ?_, ?_, ?_⟩ <;> go_simp)
      | (refine ⟨(by simp), (by simp), (((Below.refl _ _).alloc (Nat.le_refl _) _).alloc (by simp) _), ?_, ?_, ?_, ?_⟩ <;> go_simp))
    (first
      | (go_at_call 71; refine (cmpText_any _ _ _).mono ?_; rintro e w' ⟨rfl, rfl⟩)
      | (go_at_call 72; refine (vcompareTuplesD _ _ n m K N S K' N' S' _ (hl.below ((((Below.refl _ _).alloc (Nat.le_refl _) _).alloc (by simp) _).drew)) (hl'.below ((((Below.refl _ _).alloc (Nat.le_refl _) _).alloc (by simp) _).drew))).mono ?_; rintro e w1 ⟨rfl, hb1, hd1⟩)
      | (go_at_call 70; refine (or_any [Lib.compareBytes p.data.toList p'.data.toList, tupC (fun i => cmpV (K i) (N i) (S i) (K' i) (N' i) (S' i)) n m (min n m)] _ 0 2 2 _ rfl (by omega) ?_).mono ?_; (intro i hi; obtain rfl | rfl : i = 0 ∨ i = 1 := (by omega)) <;> go_simp; rintro e w' ⟨rfl, rfl⟩))
  go_wp2
  go_ret
  exact ⟨rfl, by rename_i h; exact h.2.2.1, by rename_i h; exact h.1⟩

theorem vctD (x y : Fc) (w : World) (hx : x.lies w) (hy : y.lies w) :
    Calls Tryz.prog 72 #[.slice x.a x.n x.c, .slice y.a y.n y.c] w fun e w' => e = .returned (.int .i64 (tc x y)) ∧ ∃ q os, w' = Go.Sort.grow (w.drewN q) os := by
  refine (vcompareTuplesD _ _ _ _ _ _ _ _ _ _ w hx hy).mono fun e w' ⟨he, hb, hd⟩ => ⟨?_, grown_of hb hd⟩
  have := tupC_TT x.n y.n (fun i => cmpV (x.K i) (x.N i) (x.S i) (y.K i) (y.N i) (y.S i)) 0
  simp only [Nat.add_zero] at this
  rw [he, this]
  rfl
theorem vcfD (x y : Fc) (w : World) (hx : x.lies w) (hy : y.lies w) :
    Calls Tryz.prog 59 #[.agg #[.string x.p, .slice x.a x.n x.c], .agg #[.string y.p, .slice y.a y.n y.c]] w fun e w' => e = .returned (.int .i64 (fc x y)) ∧ ∃ q os, w' = Go.Sort.grow (w.drewN q) os := by
  refine (vcompareFactsD _ _ _ _ _ _ _ _ _ _ _ _ w hx hy).mono fun e w' ⟨he, hb, hd⟩ => ⟨?_, grown_of hb hd⟩
  have := tupC_TT x.n y.n (fun i => cmpV (x.K i) (x.N i) (x.S i) (y.K i) (y.N i) (y.S i)) 0
  simp only [Nat.add_zero] at this
  rw [he, this]
  rfl
end Go.Proofs.YtoppgalbmijhdaaGreatDoor.AR
