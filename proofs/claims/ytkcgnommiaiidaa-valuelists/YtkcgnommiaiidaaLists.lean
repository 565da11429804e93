import Derived.Test.YtkcgnommiaiidaaFact
import Derived.Test.YtkcgnommiaiidaaBeyond
namespace Go.Proofs.Ytkcgnommiaiidaa
open Go.RowKit
set_option linter.unusedVariables false
attribute [local go_sem ↓] Go.wp_at_zero Go.wp_at_succ

theorem Cells.congr {w : World} {g off n : Nat} {K N : Nat → Int} {S : Nat → ByteArray} {K' N' : Nat → Int} {S' : Nat → ByteArray} (h : Cells w g off n K N S) (e1 : ∀ i, i < n → K i = K' i) (e2 : ∀ i, i < n → N i = N' i) (e3 : ∀ i, i < n → S i = S' i) : Cells w g off n K' N' S' :=
  ⟨h.lt, fun i hi => by rw [← e1 i hi]; exact h.kind i hi, fun i hi => by rw [← e2 i hi]; exact h.num i hi, fun i hi => by rw [← e3 i hi]; exact h.text i hi, fun i hi => by rw [← e3 i hi]; exact h.size i hi⟩
theorem Cells.unmark {w : World} {g off n : Nat} {K N : Nat → Int} {S : Nat → ByteArray} (h : Cells w g off (n + 1) (markK n K) (markN n N) (markS n S)) : Cells w g off n K N S :=
  (h.take (Nat.le_succ n)).congr (fun i hi => if_neg (by omega)) (fun i hi => if_neg (by omega)) (fun i hi => if_neg (by omega))

theorem lists_keep {w : World} {p p' : ByteArray} {a b : Option Addr} {c d n m : Nat} {K N : Nat → Int} {S : Nat → ByteArray} {K' N' : Nat → Int} {S' : Nat → ByteArray} {X1 X2 B1 B2 : Nat} {u : World} {u' : World} (hb : Below u.heap.size u u') (h : (X1 < u.heap.size ∧ X2 < u.heap.size ∧ w.heap.size + 1 < u.heap.size) ∧ Below w.heap.size w u ∧ Cells u B1 0 (n + 1) (markK n K) (markN n N) (markS n S) ∧ Cells u B2 0 (m + 1) (markK m K') (markN m N') (markS m S') ∧ u.cell? ⟨w.heap.size, 0, none⟩ = some (.string p) ∧ u.cell? ⟨w.heap.size, 1, none⟩ = some (.slice a n c) ∧ u.cell? ⟨w.heap.size + 1, 0, none⟩ = some (.string p') ∧ u.cell? ⟨w.heap.size + 1, 1, none⟩ = some (.slice b m d) ∧ u.cell? ⟨X1, 0, none⟩ = some (.string p) ∧ u.cell? ⟨X1, 1, none⟩ = some (.slice (some ⟨B1, 0, none⟩) n (n + 1)) ∧ u.cell? ⟨X2, 0, none⟩ = some (.string p') ∧ u.cell? ⟨X2, 1, none⟩ = some (.slice (some ⟨B2, 0, none⟩) m (m + 1))) :
    (X1 < u'.heap.size ∧ X2 < u'.heap.size ∧ w.heap.size + 1 < u'.heap.size) ∧ Below w.heap.size w u' ∧ Cells u' B1 0 (n + 1) (markK n K) (markN n N) (markS n S) ∧ Cells u' B2 0 (m + 1) (markK m K') (markN m N') (markS m S') ∧ u'.cell? ⟨w.heap.size, 0, none⟩ = some (.string p) ∧ u'.cell? ⟨w.heap.size, 1, none⟩ = some (.slice a n c) ∧ u'.cell? ⟨w.heap.size + 1, 0, none⟩ = some (.string p') ∧ u'.cell? ⟨w.heap.size + 1, 1, none⟩ = some (.slice b m d) ∧ u'.cell? ⟨X1, 0, none⟩ = some (.string p) ∧ u'.cell? ⟨X1, 1, none⟩ = some (.slice (some ⟨B1, 0, none⟩) n (n + 1)) ∧ u'.cell? ⟨X2, 0, none⟩ = some (.string p') ∧ u'.cell? ⟨X2, 1, none⟩ = some (.slice (some ⟨B2, 0, none⟩) m (m + 1)) := by
  obtain ⟨⟨z1, z2, z3⟩, bel, c1, c2, a0, a1, b0, b1, x0, x1, y0, y1⟩ := h
  have hs := hb.size
  refine ⟨⟨by omega, by omega, by omega⟩, bel.trans (hb.mono (by omega)), c1.below hb, c2.below hb, ?_, ?_, ?_, ?_, ?_, ?_, ?_, ?_⟩
  · rw [hb.cell (by show w.heap.size < _; omega)]; exact a0
  · rw [hb.cell (by show w.heap.size < _; omega)]; exact a1
  · rw [hb.cell (by show w.heap.size + 1 < _; omega)]; exact b0
  · rw [hb.cell (by show w.heap.size + 1 < _; omega)]; exact b1
  · rw [hb.cell (by show X1 < _; omega)]; exact x0
  · rw [hb.cell (by show X1 < _; omega)]; exact x1
  · rw [hb.cell (by show X2 < _; omega)]; exact y0
  · rw [hb.cell (by show X2 < _; omega)]; exact y1

theorem lists_vf {w : World} {p p' : ByteArray} {a b : Option Addr} {c d n m : Nat} {K N : Nat → Int} {S : Nat → ByteArray} {K' N' : Nat → Int} {S' : Nat → ByteArray} {X1 X2 B1 B2 : Nat} {u : World} (hn : n ≤ 1048576) (hm : m ≤ 1048576) (hl : Lst w (.slice a n c) n K N S) (hl' : Lst w (.slice b m d) m K' N' S') (h : (X1 < u.heap.size ∧ X2 < u.heap.size ∧ w.heap.size + 1 < u.heap.size) ∧ Below w.heap.size w u ∧ Cells u B1 0 (n + 1) (markK n K) (markN n N) (markS n S) ∧ Cells u B2 0 (m + 1) (markK m K') (markN m N') (markS m S') ∧ u.cell? ⟨w.heap.size, 0, none⟩ = some (.string p) ∧ u.cell? ⟨w.heap.size, 1, none⟩ = some (.slice a n c) ∧ u.cell? ⟨w.heap.size + 1, 0, none⟩ = some (.string p') ∧ u.cell? ⟨w.heap.size + 1, 1, none⟩ = some (.slice b m d) ∧ u.cell? ⟨X1, 0, none⟩ = some (.string p) ∧ u.cell? ⟨X1, 1, none⟩ = some (.slice (some ⟨B1, 0, none⟩) n (n + 1)) ∧ u.cell? ⟨X2, 0, none⟩ = some (.string p') ∧ u.cell? ⟨X2, 1, none⟩ = some (.slice (some ⟨B2, 0, none⟩) m (m + 1))) :
    Calls Try.prog 14 #[.agg #[.string p, .slice (some ⟨B1, 0, none⟩) n (n + 1)], .agg #[.string p', .slice (some ⟨B2, 0, none⟩) m (m + 1)]] u fun e u' => e = .returned (.int .i64 (cmpF p p' (tupC (fun i => cmpV (K i) (N i) (S i) (K' i) (N' i) (S' i)) n m (min n m)))) ∧ ((X1 < u'.heap.size ∧ X2 < u'.heap.size ∧ w.heap.size + 1 < u'.heap.size) ∧ Below w.heap.size w u' ∧ Cells u' B1 0 (n + 1) (markK n K) (markN n N) (markS n S) ∧ Cells u' B2 0 (m + 1) (markK m K') (markN m N') (markS m S') ∧ u'.cell? ⟨w.heap.size, 0, none⟩ = some (.string p) ∧ u'.cell? ⟨w.heap.size, 1, none⟩ = some (.slice a n c) ∧ u'.cell? ⟨w.heap.size + 1, 0, none⟩ = some (.string p') ∧ u'.cell? ⟨w.heap.size + 1, 1, none⟩ = some (.slice b m d) ∧ u'.cell? ⟨X1, 0, none⟩ = some (.string p) ∧ u'.cell? ⟨X1, 1, none⟩ = some (.slice (some ⟨B1, 0, none⟩) n (n + 1)) ∧ u'.cell? ⟨X2, 0, none⟩ = some (.string p') ∧ u'.cell? ⟨X2, 1, none⟩ = some (.slice (some ⟨B2, 0, none⟩) m (m + 1))) :=
  (vcompareFacts_any p p' _ _ n m K N S K' N' S' u ((h.2.2.1.unmark).lst (Nat.le_succ n) (by unfold maxLen; omega)) ((h.2.2.2.1.unmark).lst (Nat.le_succ m) (by unfold maxLen; omega))).mono fun e u' ⟨he, hb⟩ => ⟨he, lists_keep hb h⟩

theorem lists_rf {w : World} {p p' : ByteArray} {a b : Option Addr} {c d n m : Nat} {K N : Nat → Int} {S : Nat → ByteArray} {K' N' : Nat → Int} {S' : Nat → ByteArray} {X1 X2 B1 B2 : Nat} {u : World} (hn : n ≤ 1048576) (hm : m ≤ 1048576) (hl : Lst w (.slice a n c) n K N S) (hl' : Lst w (.slice b m d) m K' N' S') (h : (X1 < u.heap.size ∧ X2 < u.heap.size ∧ w.heap.size + 1 < u.heap.size) ∧ Below w.heap.size w u ∧ Cells u B1 0 (n + 1) (markK n K) (markN n N) (markS n S) ∧ Cells u B2 0 (m + 1) (markK m K') (markN m N') (markS m S') ∧ u.cell? ⟨w.heap.size, 0, none⟩ = some (.string p) ∧ u.cell? ⟨w.heap.size, 1, none⟩ = some (.slice a n c) ∧ u.cell? ⟨w.heap.size + 1, 0, none⟩ = some (.string p') ∧ u.cell? ⟨w.heap.size + 1, 1, none⟩ = some (.slice b m d) ∧ u.cell? ⟨X1, 0, none⟩ = some (.string p) ∧ u.cell? ⟨X1, 1, none⟩ = some (.slice (some ⟨B1, 0, none⟩) n (n + 1)) ∧ u.cell? ⟨X2, 0, none⟩ = some (.string p') ∧ u.cell? ⟨X2, 1, none⟩ = some (.slice (some ⟨B2, 0, none⟩) m (m + 1))) :
    Calls Try.prog 15 #[.agg #[.string p, .slice a n c], .agg #[.string p', .slice b m d]] u fun e u' => e = .returned (.int .i64 (cmpF p p' (tupC (fun i => cmpV (K i) (N i) (S i) (K' i) (N' i) (S' i)) n m (min n m)))) ∧ ((X1 < u'.heap.size ∧ X2 < u'.heap.size ∧ w.heap.size + 1 < u'.heap.size) ∧ Below w.heap.size w u' ∧ Cells u' B1 0 (n + 1) (markK n K) (markN n N) (markS n S) ∧ Cells u' B2 0 (m + 1) (markK m K') (markN m N') (markS m S') ∧ u'.cell? ⟨w.heap.size, 0, none⟩ = some (.string p) ∧ u'.cell? ⟨w.heap.size, 1, none⟩ = some (.slice a n c) ∧ u'.cell? ⟨w.heap.size + 1, 0, none⟩ = some (.string p') ∧ u'.cell? ⟨w.heap.size + 1, 1, none⟩ = some (.slice b m d) ∧ u'.cell? ⟨X1, 0, none⟩ = some (.string p) ∧ u'.cell? ⟨X1, 1, none⟩ = some (.slice (some ⟨B1, 0, none⟩) n (n + 1)) ∧ u'.cell? ⟨X2, 0, none⟩ = some (.string p') ∧ u'.cell? ⟨X2, 1, none⟩ = some (.slice (some ⟨B2, 0, none⟩) m (m + 1))) :=
  (rcompareFacts_any p p' _ _ n m K N S K' N' S' u (hl.below h.2.1) (hl'.below h.2.1)).mono fun e u' ⟨he, hb⟩ => ⟨he, lists_keep hb h⟩

theorem lists_vt {w : World} {p p' : ByteArray} {a b : Option Addr} {c d n m : Nat} {K N : Nat → Int} {S : Nat → ByteArray} {K' N' : Nat → Int} {S' : Nat → ByteArray} {X1 X2 B1 B2 : Nat} {u : World} (hn : n ≤ 1048576) (hm : m ≤ 1048576) (hl : Lst w (.slice a n c) n K N S) (hl' : Lst w (.slice b m d) m K' N' S') (h : (X1 < u.heap.size ∧ X2 < u.heap.size ∧ w.heap.size + 1 < u.heap.size) ∧ Below w.heap.size w u ∧ Cells u B1 0 (n + 1) (markK n K) (markN n N) (markS n S) ∧ Cells u B2 0 (m + 1) (markK m K') (markN m N') (markS m S') ∧ u.cell? ⟨w.heap.size, 0, none⟩ = some (.string p) ∧ u.cell? ⟨w.heap.size, 1, none⟩ = some (.slice a n c) ∧ u.cell? ⟨w.heap.size + 1, 0, none⟩ = some (.string p') ∧ u.cell? ⟨w.heap.size + 1, 1, none⟩ = some (.slice b m d) ∧ u.cell? ⟨X1, 0, none⟩ = some (.string p) ∧ u.cell? ⟨X1, 1, none⟩ = some (.slice (some ⟨B1, 0, none⟩) n (n + 1)) ∧ u.cell? ⟨X2, 0, none⟩ = some (.string p') ∧ u.cell? ⟨X2, 1, none⟩ = some (.slice (some ⟨B2, 0, none⟩) m (m + 1))) :
    Calls Try.prog 16 #[.slice (some ⟨B1, 0, none⟩) n (n + 1), .slice (some ⟨B2, 0, none⟩) m (m + 1)] u fun e u' => e = .returned (.int .i64 (tupC (fun i => cmpV (K i) (N i) (S i) (K' i) (N' i) (S' i)) n m (min n m))) ∧ ((X1 < u'.heap.size ∧ X2 < u'.heap.size ∧ w.heap.size + 1 < u'.heap.size) ∧ Below w.heap.size w u' ∧ Cells u' B1 0 (n + 1) (markK n K) (markN n N) (markS n S) ∧ Cells u' B2 0 (m + 1) (markK m K') (markN m N') (markS m S') ∧ u'.cell? ⟨w.heap.size, 0, none⟩ = some (.string p) ∧ u'.cell? ⟨w.heap.size, 1, none⟩ = some (.slice a n c) ∧ u'.cell? ⟨w.heap.size + 1, 0, none⟩ = some (.string p') ∧ u'.cell? ⟨w.heap.size + 1, 1, none⟩ = some (.slice b m d) ∧ u'.cell? ⟨X1, 0, none⟩ = some (.string p) ∧ u'.cell? ⟨X1, 1, none⟩ = some (.slice (some ⟨B1, 0, none⟩) n (n + 1)) ∧ u'.cell? ⟨X2, 0, none⟩ = some (.string p') ∧ u'.cell? ⟨X2, 1, none⟩ = some (.slice (some ⟨B2, 0, none⟩) m (m + 1))) :=
  (vcompareTuples_any _ _ n m K N S K' N' S' u ((h.2.2.1.unmark).lst (Nat.le_succ n) (by unfold maxLen; omega)) ((h.2.2.2.1.unmark).lst (Nat.le_succ m) (by unfold maxLen; omega))).mono fun e u' ⟨he, hb⟩ => ⟨he, lists_keep hb h⟩

theorem lists_rt {w : World} {p p' : ByteArray} {a b : Option Addr} {c d n m : Nat} {K N : Nat → Int} {S : Nat → ByteArray} {K' N' : Nat → Int} {S' : Nat → ByteArray} {X1 X2 B1 B2 : Nat} {u : World} (hn : n ≤ 1048576) (hm : m ≤ 1048576) (hl : Lst w (.slice a n c) n K N S) (hl' : Lst w (.slice b m d) m K' N' S') (h : (X1 < u.heap.size ∧ X2 < u.heap.size ∧ w.heap.size + 1 < u.heap.size) ∧ Below w.heap.size w u ∧ Cells u B1 0 (n + 1) (markK n K) (markN n N) (markS n S) ∧ Cells u B2 0 (m + 1) (markK m K') (markN m N') (markS m S') ∧ u.cell? ⟨w.heap.size, 0, none⟩ = some (.string p) ∧ u.cell? ⟨w.heap.size, 1, none⟩ = some (.slice a n c) ∧ u.cell? ⟨w.heap.size + 1, 0, none⟩ = some (.string p') ∧ u.cell? ⟨w.heap.size + 1, 1, none⟩ = some (.slice b m d) ∧ u.cell? ⟨X1, 0, none⟩ = some (.string p) ∧ u.cell? ⟨X1, 1, none⟩ = some (.slice (some ⟨B1, 0, none⟩) n (n + 1)) ∧ u.cell? ⟨X2, 0, none⟩ = some (.string p') ∧ u.cell? ⟨X2, 1, none⟩ = some (.slice (some ⟨B2, 0, none⟩) m (m + 1))) :
    Calls Try.prog 17 #[.slice a n c, .slice b m d] u fun e u' => e = .returned (.int .i64 (tupC (fun i => cmpV (K i) (N i) (S i) (K' i) (N' i) (S' i)) n m (min n m))) ∧ ((X1 < u'.heap.size ∧ X2 < u'.heap.size ∧ w.heap.size + 1 < u'.heap.size) ∧ Below w.heap.size w u' ∧ Cells u' B1 0 (n + 1) (markK n K) (markN n N) (markS n S) ∧ Cells u' B2 0 (m + 1) (markK m K') (markN m N') (markS m S') ∧ u'.cell? ⟨w.heap.size, 0, none⟩ = some (.string p) ∧ u'.cell? ⟨w.heap.size, 1, none⟩ = some (.slice a n c) ∧ u'.cell? ⟨w.heap.size + 1, 0, none⟩ = some (.string p') ∧ u'.cell? ⟨w.heap.size + 1, 1, none⟩ = some (.slice b m d) ∧ u'.cell? ⟨X1, 0, none⟩ = some (.string p) ∧ u'.cell? ⟨X1, 1, none⟩ = some (.slice (some ⟨B1, 0, none⟩) n (n + 1)) ∧ u'.cell? ⟨X2, 0, none⟩ = some (.string p') ∧ u'.cell? ⟨X2, 1, none⟩ = some (.slice (some ⟨B2, 0, none⟩) m (m + 1))) :=
  (rcompareTuples_any _ _ n m K N S K' N' S' u (hl.below h.2.1) (hl'.below h.2.1)).mono fun e u' ⟨he, hb⟩ => ⟨he, lists_keep hb h⟩

theorem lists_lx {w : World} {p p' : ByteArray} {a b : Option Addr} {c d n m : Nat} {K N : Nat → Int} {S : Nat → ByteArray} {K' N' : Nat → Int} {S' : Nat → ByteArray} {X1 X2 B1 B2 : Nat} {u : World} (hn : n ≤ 1048576) (hm : m ≤ 1048576) (hl : Lst w (.slice a n c) n K N S) (hl' : Lst w (.slice b m d) m K' N' S') (h : (X1 < u.heap.size ∧ X2 < u.heap.size ∧ w.heap.size + 1 < u.heap.size) ∧ Below w.heap.size w u ∧ Cells u B1 0 (n + 1) (markK n K) (markN n N) (markS n S) ∧ Cells u B2 0 (m + 1) (markK m K') (markN m N') (markS m S') ∧ u.cell? ⟨w.heap.size, 0, none⟩ = some (.string p) ∧ u.cell? ⟨w.heap.size, 1, none⟩ = some (.slice a n c) ∧ u.cell? ⟨w.heap.size + 1, 0, none⟩ = some (.string p') ∧ u.cell? ⟨w.heap.size + 1, 1, none⟩ = some (.slice b m d) ∧ u.cell? ⟨X1, 0, none⟩ = some (.string p) ∧ u.cell? ⟨X1, 1, none⟩ = some (.slice (some ⟨B1, 0, none⟩) n (n + 1)) ∧ u.cell? ⟨X2, 0, none⟩ = some (.string p') ∧ u.cell? ⟨X2, 1, none⟩ = some (.slice (some ⟨B2, 0, none⟩) m (m + 1))) :
    Calls Try.prog 18 #[.agg #[.string p, .slice (some ⟨B1, 0, none⟩) n (n + 1)], .agg #[.string p, .slice a n c]] u fun e u' => e = .returned (.bool true) ∧ ((X1 < u'.heap.size ∧ X2 < u'.heap.size ∧ w.heap.size + 1 < u'.heap.size) ∧ Below w.heap.size w u' ∧ Cells u' B1 0 (n + 1) (markK n K) (markN n N) (markS n S) ∧ Cells u' B2 0 (m + 1) (markK m K') (markN m N') (markS m S') ∧ u'.cell? ⟨w.heap.size, 0, none⟩ = some (.string p) ∧ u'.cell? ⟨w.heap.size, 1, none⟩ = some (.slice a n c) ∧ u'.cell? ⟨w.heap.size + 1, 0, none⟩ = some (.string p') ∧ u'.cell? ⟨w.heap.size + 1, 1, none⟩ = some (.slice b m d) ∧ u'.cell? ⟨X1, 0, none⟩ = some (.string p) ∧ u'.cell? ⟨X1, 1, none⟩ = some (.slice (some ⟨B1, 0, none⟩) n (n + 1)) ∧ u'.cell? ⟨X2, 0, none⟩ = some (.string p') ∧ u'.cell? ⟨X2, 1, none⟩ = some (.slice (some ⟨B2, 0, none⟩) m (m + 1))) :=
  (leftFact_true p _ B1 n K N S u hn h.2.2.1 (hl.below h.2.1)).mono fun e u' ⟨he, hb⟩ => ⟨he, lists_keep hb h⟩

theorem lists_ly {w : World} {p p' : ByteArray} {a b : Option Addr} {c d n m : Nat} {K N : Nat → Int} {S : Nat → ByteArray} {K' N' : Nat → Int} {S' : Nat → ByteArray} {X1 X2 B1 B2 : Nat} {u : World} (hn : n ≤ 1048576) (hm : m ≤ 1048576) (hl : Lst w (.slice a n c) n K N S) (hl' : Lst w (.slice b m d) m K' N' S') (h : (X1 < u.heap.size ∧ X2 < u.heap.size ∧ w.heap.size + 1 < u.heap.size) ∧ Below w.heap.size w u ∧ Cells u B1 0 (n + 1) (markK n K) (markN n N) (markS n S) ∧ Cells u B2 0 (m + 1) (markK m K') (markN m N') (markS m S') ∧ u.cell? ⟨w.heap.size, 0, none⟩ = some (.string p) ∧ u.cell? ⟨w.heap.size, 1, none⟩ = some (.slice a n c) ∧ u.cell? ⟨w.heap.size + 1, 0, none⟩ = some (.string p') ∧ u.cell? ⟨w.heap.size + 1, 1, none⟩ = some (.slice b m d) ∧ u.cell? ⟨X1, 0, none⟩ = some (.string p) ∧ u.cell? ⟨X1, 1, none⟩ = some (.slice (some ⟨B1, 0, none⟩) n (n + 1)) ∧ u.cell? ⟨X2, 0, none⟩ = some (.string p') ∧ u.cell? ⟨X2, 1, none⟩ = some (.slice (some ⟨B2, 0, none⟩) m (m + 1))) :
    Calls Try.prog 18 #[.agg #[.string p', .slice (some ⟨B2, 0, none⟩) m (m + 1)], .agg #[.string p', .slice b m d]] u fun e u' => e = .returned (.bool true) ∧ ((X1 < u'.heap.size ∧ X2 < u'.heap.size ∧ w.heap.size + 1 < u'.heap.size) ∧ Below w.heap.size w u' ∧ Cells u' B1 0 (n + 1) (markK n K) (markN n N) (markS n S) ∧ Cells u' B2 0 (m + 1) (markK m K') (markN m N') (markS m S') ∧ u'.cell? ⟨w.heap.size, 0, none⟩ = some (.string p) ∧ u'.cell? ⟨w.heap.size, 1, none⟩ = some (.slice a n c) ∧ u'.cell? ⟨w.heap.size + 1, 0, none⟩ = some (.string p') ∧ u'.cell? ⟨w.heap.size + 1, 1, none⟩ = some (.slice b m d) ∧ u'.cell? ⟨X1, 0, none⟩ = some (.string p) ∧ u'.cell? ⟨X1, 1, none⟩ = some (.slice (some ⟨B1, 0, none⟩) n (n + 1)) ∧ u'.cell? ⟨X2, 0, none⟩ = some (.string p') ∧ u'.cell? ⟨X2, 1, none⟩ = some (.slice (some ⟨B2, 0, none⟩) m (m + 1))) :=
  (leftFact_true p' _ B2 m K' N' S' u hm h.2.2.2.1 (hl'.below h.2.1)).mono fun e u' ⟨he, hb⟩ => ⟨he, lists_keep hb h⟩

theorem lists_drew {w : World} {p p' : ByteArray} {a b : Option Addr} {c d n m : Nat} {K N : Nat → Int} {S : Nat → ByteArray} {K' N' : Nat → Int} {S' : Nat → ByteArray} {X1 X2 B1 B2 : Nat} {u : World} (h : (X1 < u.heap.size ∧ X2 < u.heap.size ∧ w.heap.size + 1 < u.heap.size) ∧ Below w.heap.size w u ∧ Cells u B1 0 (n + 1) (markK n K) (markN n N) (markS n S) ∧ Cells u B2 0 (m + 1) (markK m K') (markN m N') (markS m S') ∧ u.cell? ⟨w.heap.size, 0, none⟩ = some (.string p) ∧ u.cell? ⟨w.heap.size, 1, none⟩ = some (.slice a n c) ∧ u.cell? ⟨w.heap.size + 1, 0, none⟩ = some (.string p') ∧ u.cell? ⟨w.heap.size + 1, 1, none⟩ = some (.slice b m d) ∧ u.cell? ⟨X1, 0, none⟩ = some (.string p) ∧ u.cell? ⟨X1, 1, none⟩ = some (.slice (some ⟨B1, 0, none⟩) n (n + 1)) ∧ u.cell? ⟨X2, 0, none⟩ = some (.string p') ∧ u.cell? ⟨X2, 1, none⟩ = some (.slice (some ⟨B2, 0, none⟩) m (m + 1))) : (X1 < u.drew.heap.size ∧ X2 < u.drew.heap.size ∧ w.heap.size + 1 < u.drew.heap.size) ∧ Below w.heap.size w u.drew ∧ Cells u.drew B1 0 (n + 1) (markK n K) (markN n N) (markS n S) ∧ Cells u.drew B2 0 (m + 1) (markK m K') (markN m N') (markS m S') ∧ u.drew.cell? ⟨w.heap.size, 0, none⟩ = some (.string p) ∧ u.drew.cell? ⟨w.heap.size, 1, none⟩ = some (.slice a n c) ∧ u.drew.cell? ⟨w.heap.size + 1, 0, none⟩ = some (.string p') ∧ u.drew.cell? ⟨w.heap.size + 1, 1, none⟩ = some (.slice b m d) ∧ u.drew.cell? ⟨X1, 0, none⟩ = some (.string p) ∧ u.drew.cell? ⟨X1, 1, none⟩ = some (.slice (some ⟨B1, 0, none⟩) n (n + 1)) ∧ u.drew.cell? ⟨X2, 0, none⟩ = some (.string p') ∧ u.drew.cell? ⟨X2, 1, none⟩ = some (.slice (some ⟨B2, 0, none⟩) m (m + 1)) := lists_keep (Below.drew (Below.refl _ _)) h

set_option maxHeartbeats 4000000 in
theorem lists_walk (p p' : ByteArray) (a b : Option Addr) (c d n m : Nat) (K N : Nat → Int) (S : Nat → ByteArray) (K' N' : Nat → Int) (S' : Nat → ByteArray) (w : World) (hn : n ≤ 281474976710656) (hm : m ≤ 281474976710656)
    (hl : Lst w (.slice a n c) n K N S) (hl' : Lst w (.slice b m d) m K' N' S') :
    Calls Try.prog 5 #[.agg #[.string p, .slice a n c], .agg #[.string p', .slice b m d]] w fun e w' => e = .returned (.bool true) ∧ Below w.heap.size w w' := by
  have bel3 : ∀ o o' o'', Below w.heap.size w (((w.alloc o).alloc o').alloc o'') := fun o o' o'' => (((Below.refl _ _).alloc (Nat.le_refl _) _).alloc (by simp) _).alloc (by simp; omega) _
  have HB : Hid (sumL (fun i => if i = 0 then n else m) 2 = n + m + 2) := by show sumL _ 2 = n + m + 2; simp [sumL]; omega
  go_enter Try.func5, Try.ntmps5
  go_wp2_with fail
  refine (beyondFacts_any (w.heap.size + 1 + 1) 0 2 2 (fun i => if i = 0 then a else b) (fun i => if i = 0 then n else m) (fun i => if i = 0 then c else d) _ (by omega) ?_ ?_).mono ?_
  · intro i hi
    show (if i = 0 then n else m) ≤ _
    split <;> assumption
  · intro i hi
    obtain rfl | rfl : i = 0 ∨ i = 1 := by omega
    · go_simp
    · go_simp
  rintro e w0 ⟨rfl, rfl⟩
  rw [HB.out]
  by_cases hbig : 1048576 < n + m + 2
  · go_wp2
    go_ret
    exact ⟨rfl, bel3 _ _ _⟩
  · have hn' : n ≤ 1048576 := by omega
    have hm' : m ≤ 1048576 := by omega
    go_wp2_with fail
    refine (twinFact_any p _ n K N S _ hn' (hl.below (bel3 _ _ _))).mono ?_
    rintro e w1 ⟨B1, rfl, hb1, hc1⟩
    have t1 : Below w.heap.size w w1 := (bel3 _ _ _).trans (hb1.mono (by simp; omega))
    have q1 : w.heap.size + 1 + 1 < w1.heap.size := by have := hb1.size; simp at this; omega
    have q1' : w.heap.size + 1 < w1.heap.size := by omega
    have q1'' : w.heap.size < w1.heap.size := by omega
    have g0 : w1.cell? ⟨w.heap.size, 0, none⟩ = some (.string p) := by rw [hb1.cell (p := ⟨w.heap.size, 0, none⟩) (by simp; omega)]; go_simp
    have g1 : w1.cell? ⟨w.heap.size, 1, none⟩ = some (.slice a n c) := by rw [hb1.cell (p := ⟨w.heap.size, 1, none⟩) (by simp; omega)]; go_simp
    have g2 : w1.cell? ⟨w.heap.size + 1, 0, none⟩ = some (.string p') := by rw [hb1.cell (p := ⟨w.heap.size + 1, 0, none⟩) (by simp)]; go_simp
    have g3 : w1.cell? ⟨w.heap.size + 1, 1, none⟩ = some (.slice b m d) := by rw [hb1.cell (p := ⟨w.heap.size + 1, 1, none⟩) (by simp)]; go_simp
    clear hb1
    go_wp2_with fail
    have a1 : ∀ o, Below w1.heap.size w1 (w1.alloc o) := fun o => (Below.refl _ _).alloc (Nat.le_refl _) _
    refine (twinFact_any p' _ m K' N' S' _ hm' ((hl'.below t1).below (a1 _))).mono ?_
    rintro e w2 ⟨B2, rfl, hb2, hc2⟩
    have hc1' := (hc1.below (a1 (.cells #[.string p, (.slice (some ⟨B1, 0, none⟩) n (n + 1))] 34))).below hb2
    have t2 : Below w.heap.size w w2 := (t1.alloc t1.size _).trans (hb2.mono (by have := t1.size; simp; omega))
    have q2 : w1.heap.size < w2.heap.size := by have := hb2.size; simp at this; omega
    have q2' : w.heap.size + 1 < w2.heap.size := by omega
    have q2'' : w.heap.size < w2.heap.size := by omega
    have k0 : w2.cell? ⟨w.heap.size, 0, none⟩ = some (.string p) := by rw [hb2.cell (p := ⟨w.heap.size, 0, none⟩) (by simp; omega)]; go_simp
    have k1 : w2.cell? ⟨w.heap.size, 1, none⟩ = some (.slice a n c) := by rw [hb2.cell (p := ⟨w.heap.size, 1, none⟩) (by simp; omega)]; go_simp
    have k2 : w2.cell? ⟨w.heap.size + 1, 0, none⟩ = some (.string p') := by rw [hb2.cell (p := ⟨w.heap.size + 1, 0, none⟩) (by simp; omega)]; go_simp
    have k3 : w2.cell? ⟨w.heap.size + 1, 1, none⟩ = some (.slice b m d) := by rw [hb2.cell (p := ⟨w.heap.size + 1, 1, none⟩) (by simp; omega)]; go_simp
    have k4 : w2.cell? ⟨w1.heap.size, 0, none⟩ = some (.string p) := by rw [hb2.cell (p := ⟨w1.heap.size, 0, none⟩) (by simp)]; go_simp
    have k5 : w2.cell? ⟨w1.heap.size, 1, none⟩ = some (.slice (some ⟨B1, 0, none⟩) n (n + 1)) := by rw [hb2.cell (p := ⟨w1.heap.size, 1, none⟩) (by simp)]; go_simp
    clear hb2 g0 g1 g2 g3 hc1
    have a2 : ∀ o, Below w2.heap.size w2 (w2.alloc o) := fun o => (Below.refl _ _).alloc (Nat.le_refl _) _
    have hS : (w1.heap.size < (w2.alloc (.cells #[.string p', (.slice (some ⟨B2, 0, none⟩) m (m + 1))] 34)).heap.size ∧ w2.heap.size < (w2.alloc (.cells #[.string p', (.slice (some ⟨B2, 0, none⟩) m (m + 1))] 34)).heap.size ∧ w.heap.size + 1 < (w2.alloc (.cells #[.string p', (.slice (some ⟨B2, 0, none⟩) m (m + 1))] 34)).heap.size) ∧ Below w.heap.size w (w2.alloc (.cells #[.string p', (.slice (some ⟨B2, 0, none⟩) m (m + 1))] 34)) ∧ Cells (w2.alloc (.cells #[.string p', (.slice (some ⟨B2, 0, none⟩) m (m + 1))] 34)) B1 0 (n + 1) (markK n K) (markN n N) (markS n S) ∧ Cells (w2.alloc (.cells #[.string p', (.slice (some ⟨B2, 0, none⟩) m (m + 1))] 34)) B2 0 (m + 1) (markK m K') (markN m N') (markS m S') ∧ (w2.alloc (.cells #[.string p', (.slice (some ⟨B2, 0, none⟩) m (m + 1))] 34)).cell? ⟨w.heap.size, 0, none⟩ = some (.string p) ∧ (w2.alloc (.cells #[.string p', (.slice (some ⟨B2, 0, none⟩) m (m + 1))] 34)).cell? ⟨w.heap.size, 1, none⟩ = some (.slice a n c) ∧ (w2.alloc (.cells #[.string p', (.slice (some ⟨B2, 0, none⟩) m (m + 1))] 34)).cell? ⟨w.heap.size + 1, 0, none⟩ = some (.string p') ∧ (w2.alloc (.cells #[.string p', (.slice (some ⟨B2, 0, none⟩) m (m + 1))] 34)).cell? ⟨w.heap.size + 1, 1, none⟩ = some (.slice b m d) ∧ (w2.alloc (.cells #[.string p', (.slice (some ⟨B2, 0, none⟩) m (m + 1))] 34)).cell? ⟨w1.heap.size, 0, none⟩ = some (.string p) ∧ (w2.alloc (.cells #[.string p', (.slice (some ⟨B2, 0, none⟩) m (m + 1))] 34)).cell? ⟨w1.heap.size, 1, none⟩ = some (.slice (some ⟨B1, 0, none⟩) n (n + 1)) ∧ (w2.alloc (.cells #[.string p', (.slice (some ⟨B2, 0, none⟩) m (m + 1))] 34)).cell? ⟨w2.heap.size, 0, none⟩ = some (.string p') ∧ (w2.alloc (.cells #[.string p', (.slice (some ⟨B2, 0, none⟩) m (m + 1))] 34)).cell? ⟨w2.heap.size, 1, none⟩ = some (.slice (some ⟨B2, 0, none⟩) m (m + 1)) := by
      refine ⟨⟨by simp; omega, by simp, by simp; omega⟩, t2.alloc t2.size _, hc1'.below (a2 _), hc2.below (a2 _), ?_, ?_, ?_, ?_, ?_, ?_, ?_, ?_⟩ <;> go_simp
    clear hc1' hc2 k0 k1 k2 k3 k4 k5
    go_wp2_with fail
    go_region_held3 (fun w' => (w1.heap.size < w'.heap.size ∧ w2.heap.size < w'.heap.size ∧ w.heap.size + 1 < w'.heap.size) ∧ Below w.heap.size w w' ∧ Cells w' B1 0 (n + 1) (markK n K) (markN n N) (markS n S) ∧ Cells w' B2 0 (m + 1) (markK m K') (markN m N') (markS m S') ∧ w'.cell? ⟨w.heap.size, 0, none⟩ = some (.string p) ∧ w'.cell? ⟨w.heap.size, 1, none⟩ = some (.slice a n c) ∧ w'.cell? ⟨w.heap.size + 1, 0, none⟩ = some (.string p') ∧ w'.cell? ⟨w.heap.size + 1, 1, none⟩ = some (.slice b m d) ∧ w'.cell? ⟨w1.heap.size, 0, none⟩ = some (.string p) ∧ w'.cell? ⟨w1.heap.size, 1, none⟩ = some (.slice (some ⟨B1, 0, none⟩) n (n + 1)) ∧ w'.cell? ⟨w2.heap.size, 0, none⟩ = some (.string p') ∧ w'.cell? ⟨w2.heap.size, 1, none⟩ = some (.slice (some ⟨B2, 0, none⟩) m (m + 1)))
      (first
        | assumption
        | exact lists_drew hS)
      (first
        | (go_at_call 14; refine (lists_vf hn' hm' hl hl' (by assumption)).mono ?_; rintro e u' ⟨rfl, hu⟩)
        | (go_at_call 15; refine (lists_rf hn' hm' hl hl' (by assumption)).mono ?_; rintro e u' ⟨rfl, hu⟩)
        | (go_at_call 16; refine (lists_vt hn' hm' hl hl' (by assumption)).mono ?_; rintro e u' ⟨rfl, hu⟩)
        | (go_at_call 17; refine (lists_rt hn' hm' hl hl' (by assumption)).mono ?_; rintro e u' ⟨rfl, hu⟩)
        | (go_at_call_of 18 B1; refine (lists_lx hn' hm' hl hl' (by assumption)).mono ?_; rintro e u' ⟨rfl, hu⟩)
        | (go_at_call 18; refine (lists_ly hn' hm' hl hl' (by assumption)).mono ?_; rintro e u' ⟨rfl, hu⟩))
    go_wp2
    go_ret
    exact ⟨rfl, by rename_i h; exact h.2.1⟩

end Go.Proofs.Ytkcgnommiaiidaa
