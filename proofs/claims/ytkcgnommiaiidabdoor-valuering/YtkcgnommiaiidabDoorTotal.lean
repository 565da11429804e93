import Derived.Test.YtkcgnommiaiidabDoorAlive
import Derived.Deep.DeepCutAuto
namespace Go.Proofs.YtkcgnommiaiidabDoor
open Go.RowKit
set_option linter.unusedVariables false
attribute [local go_sem ↓] Go.wp_at_zero Go.wp_at_succ

theorem run_eql_value (k1 n1 : Int) (s1 : ByteArray) (k2 n2 : Int) (s2 : ByteArray) (w : World) :
    (binOp .eql 34 (.agg #[.int .i8 k1, .int .i64 n1, .string s1]) (.agg #[.int .i8 k2, .int .i64 n2, .string s2])).run Tryd.prog w = .ok (.bool (cmpV k1 n1 s1 k2 n2 s2 == 0)) w := by
  by_cases hk : k1 = k2
  · by_cases hn : n1 = n2
    · by_cases hs : s1.toList = s2.toList
      · subst hk hn
        rw [cmpV_s0 _ _ hs]
        go_simp
      · have : ¬ cmpV k1 n1 s1 k2 n2 s2 = 0 := fun h => hs (cmpV_zero h).2.2
        have e : (cmpV k1 n1 s1 k2 n2 s2 == 0) = false := by simpa using this
        rw [e]
        go_simp
    · have : ¬ cmpV k1 n1 s1 k2 n2 s2 = 0 := fun h => hn (cmpV_zero h).2.1
      have e : (cmpV k1 n1 s1 k2 n2 s2 == 0) = false := by simpa using this
      rw [e]
      go_simp
  · have : ¬ cmpV k1 n1 s1 k2 n2 s2 = 0 := fun h => hk (cmpV_zero h).1
    have e : (cmpV k1 n1 s1 k2 n2 s2 == 0) = false := by simpa using this
    rw [e]
    go_simp

theorem held3_keep {w : World} {k1 n1 : Int} {s1 : ByteArray} {k2 n2 : Int} {s2 : ByteArray} {k3 n3 : Int} {s3 : ByteArray} {v v' : World} (hb : Below v.heap.size v v')
    (h : w.heap.size + 2 < v.heap.size ∧ Below w.heap.size w v ∧ v.cell? ⟨w.heap.size, 0, none⟩ = some (.int .i8 k1) ∧ v.cell? ⟨w.heap.size, 1, none⟩ = some (.int .i64 n1) ∧ v.cell? ⟨w.heap.size, 2, none⟩ = some (.string s1) ∧ v.cell? ⟨w.heap.size + 1, 0, none⟩ = some (.int .i8 k2) ∧ v.cell? ⟨w.heap.size + 1, 1, none⟩ = some (.int .i64 n2) ∧ v.cell? ⟨w.heap.size + 1, 2, none⟩ = some (.string s2) ∧ v.cell? ⟨w.heap.size + 2, 0, none⟩ = some (.int .i8 k3) ∧ v.cell? ⟨w.heap.size + 2, 1, none⟩ = some (.int .i64 n3) ∧ v.cell? ⟨w.heap.size + 2, 2, none⟩ = some (.string s3)) :
    w.heap.size + 2 < v'.heap.size ∧ Below w.heap.size w v' ∧ v'.cell? ⟨w.heap.size, 0, none⟩ = some (.int .i8 k1) ∧ v'.cell? ⟨w.heap.size, 1, none⟩ = some (.int .i64 n1) ∧ v'.cell? ⟨w.heap.size, 2, none⟩ = some (.string s1) ∧ v'.cell? ⟨w.heap.size + 1, 0, none⟩ = some (.int .i8 k2) ∧ v'.cell? ⟨w.heap.size + 1, 1, none⟩ = some (.int .i64 n2) ∧ v'.cell? ⟨w.heap.size + 1, 2, none⟩ = some (.string s2) ∧ v'.cell? ⟨w.heap.size + 2, 0, none⟩ = some (.int .i8 k3) ∧ v'.cell? ⟨w.heap.size + 2, 1, none⟩ = some (.int .i64 n3) ∧ v'.cell? ⟨w.heap.size + 2, 2, none⟩ = some (.string s3) := by
  obtain ⟨hz, bel, a0, a1, a2, b0, b1, b2, c0, c1, c2⟩ := h
  have hs := hb.size
  refine ⟨by omega, bel.trans (hb.mono (by omega)), ?_, ?_, ?_, ?_, ?_, ?_, ?_, ?_, ?_⟩
  · rw [hb.cell (by show w.heap.size < _; omega)]; exact a0
  · rw [hb.cell (by show w.heap.size < _; omega)]; exact a1
  · rw [hb.cell (by show w.heap.size < _; omega)]; exact a2
  · rw [hb.cell (by show w.heap.size + 1 < _; omega)]; exact b0
  · rw [hb.cell (by show w.heap.size + 1 < _; omega)]; exact b1
  · rw [hb.cell (by show w.heap.size + 1 < _; omega)]; exact b2
  · rw [hb.cell (by show w.heap.size + 2 < _; omega)]; exact c0
  · rw [hb.cell (by show w.heap.size + 2 < _; omega)]; exact c1
  · rw [hb.cell (by show w.heap.size + 2 < _; omega)]; exact c2

theorem holds_m {k1 n1 : Int} {s1 : ByteArray} {k2 n2 : Int} {s2 : ByteArray} (c1 : chk k1 n1 s1 = 0) (c2 : chk k2 n2 s2 = 0) (hc : cmpV k1 n1 s1 k2 n2 s2 = -1) :
    holdsV 1 k1 n1 s1 k2 n2 s2 = false ∧ holdsV 2 k1 n1 s1 k2 n2 s2 = true ∧ holdsV 3 k1 n1 s1 k2 n2 s2 = true ∧ holdsV 4 k1 n1 s1 k2 n2 s2 = true ∧ holdsV 5 k1 n1 s1 k2 n2 s2 = false ∧ holdsV 6 k1 n1 s1 k2 n2 s2 = false ∧ holdsV 3 k2 n2 s2 k1 n1 s1 = false ∧ holdsV 5 k2 n2 s2 k1 n1 s1 = true := by
  have hv : ∀ r, holdsV r k1 n1 s1 k2 n2 s2 = relB r (-1) := fun r => by rw [holdsV_yes c1 c2, hc]
  have hv' : ∀ r, holdsV r k2 n2 s2 k1 n1 s1 = relB r (-(-1)) := fun r => by rw [holdsV_yes c2 c1, cmpV_anti, hc]
  simp only [hv, hv']
  decide

theorem holds_z {k1 n1 : Int} {s1 : ByteArray} {k2 n2 : Int} {s2 : ByteArray} (c1 : chk k1 n1 s1 = 0) (c2 : chk k2 n2 s2 = 0) (hc : cmpV k1 n1 s1 k2 n2 s2 = 0) :
    holdsV 1 k1 n1 s1 k2 n2 s2 = true ∧ holdsV 2 k1 n1 s1 k2 n2 s2 = false ∧ holdsV 3 k1 n1 s1 k2 n2 s2 = false ∧ holdsV 4 k1 n1 s1 k2 n2 s2 = true ∧ holdsV 5 k1 n1 s1 k2 n2 s2 = false ∧ holdsV 6 k1 n1 s1 k2 n2 s2 = true ∧ holdsV 3 k2 n2 s2 k1 n1 s1 = false ∧ holdsV 5 k2 n2 s2 k1 n1 s1 = false := by
  have hv : ∀ r, holdsV r k1 n1 s1 k2 n2 s2 = relB r (0) := fun r => by rw [holdsV_yes c1 c2, hc]
  have hv' : ∀ r, holdsV r k2 n2 s2 k1 n1 s1 = relB r (-(0)) := fun r => by rw [holdsV_yes c2 c1, cmpV_anti, hc]
  simp only [hv, hv']
  decide

theorem holds_p {k1 n1 : Int} {s1 : ByteArray} {k2 n2 : Int} {s2 : ByteArray} (c1 : chk k1 n1 s1 = 0) (c2 : chk k2 n2 s2 = 0) (hc : cmpV k1 n1 s1 k2 n2 s2 = 1) :
    holdsV 1 k1 n1 s1 k2 n2 s2 = false ∧ holdsV 2 k1 n1 s1 k2 n2 s2 = true ∧ holdsV 3 k1 n1 s1 k2 n2 s2 = false ∧ holdsV 4 k1 n1 s1 k2 n2 s2 = false ∧ holdsV 5 k1 n1 s1 k2 n2 s2 = true ∧ holdsV 6 k1 n1 s1 k2 n2 s2 = true ∧ holdsV 3 k2 n2 s2 k1 n1 s1 = true ∧ holdsV 5 k2 n2 s2 k1 n1 s1 = false := by
  have hv : ∀ r, holdsV r k1 n1 s1 k2 n2 s2 = relB r (1) := fun r => by rw [holdsV_yes c1 c2, hc]
  have hv' : ∀ r, holdsV r k2 n2 s2 k1 n1 s1 = relB r (-(1)) := fun r => by rw [holdsV_yes c2 c1, cmpV_anti, hc]
  simp only [hv, hv']
  decide

theorem holds_none {k1 n1 : Int} {s1 : ByteArray} {k2 n2 : Int} {s2 : ByteArray} (c : ¬ (chk k1 n1 s1 = 0 ∧ chk k2 n2 s2 = 0)) :
    holdsV 1 k1 n1 s1 k2 n2 s2 = false ∧ holdsV 2 k1 n1 s1 k2 n2 s2 = false ∧ holdsV 3 k1 n1 s1 k2 n2 s2 = false ∧ holdsV 4 k1 n1 s1 k2 n2 s2 = false ∧ holdsV 5 k1 n1 s1 k2 n2 s2 = false ∧ holdsV 6 k1 n1 s1 k2 n2 s2 = false := ⟨holdsV_no c, holdsV_no c, holdsV_no c, holdsV_no c, holdsV_no c, holdsV_no c⟩

theorem compare_held {w : World} {k1 n1 : Int} {s1 : ByteArray} {k2 n2 : Int} {s2 : ByteArray} {k3 n3 : Int} {s3 : ByteArray} {v : World} (ka na : Int) (sa : ByteArray) (kb nb : Int) (sb : ByteArray) (h : w.heap.size + 2 < v.heap.size ∧ Below w.heap.size w v ∧ v.cell? ⟨w.heap.size, 0, none⟩ = some (.int .i8 k1) ∧ v.cell? ⟨w.heap.size, 1, none⟩ = some (.int .i64 n1) ∧ v.cell? ⟨w.heap.size, 2, none⟩ = some (.string s1) ∧ v.cell? ⟨w.heap.size + 1, 0, none⟩ = some (.int .i8 k2) ∧ v.cell? ⟨w.heap.size + 1, 1, none⟩ = some (.int .i64 n2) ∧ v.cell? ⟨w.heap.size + 1, 2, none⟩ = some (.string s2) ∧ v.cell? ⟨w.heap.size + 2, 0, none⟩ = some (.int .i8 k3) ∧ v.cell? ⟨w.heap.size + 2, 1, none⟩ = some (.int .i64 n3) ∧ v.cell? ⟨w.heap.size + 2, 2, none⟩ = some (.string s3)) :
    Calls Tryd.prog 23 #[.agg #[.int .i8 ka, .int .i64 na, .string sa], .agg #[.int .i8 kb, .int .i64 nb, .string sb]] v fun e v' => e = .returned (.int .i64 (cmpV ka na sa kb nb sb)) ∧ (w.heap.size + 2 < v'.heap.size ∧ Below w.heap.size w v' ∧ v'.cell? ⟨w.heap.size, 0, none⟩ = some (.int .i8 k1) ∧ v'.cell? ⟨w.heap.size, 1, none⟩ = some (.int .i64 n1) ∧ v'.cell? ⟨w.heap.size, 2, none⟩ = some (.string s1) ∧ v'.cell? ⟨w.heap.size + 1, 0, none⟩ = some (.int .i8 k2) ∧ v'.cell? ⟨w.heap.size + 1, 1, none⟩ = some (.int .i64 n2) ∧ v'.cell? ⟨w.heap.size + 1, 2, none⟩ = some (.string s2) ∧ v'.cell? ⟨w.heap.size + 2, 0, none⟩ = some (.int .i8 k3) ∧ v'.cell? ⟨w.heap.size + 2, 1, none⟩ = some (.int .i64 n3) ∧ v'.cell? ⟨w.heap.size + 2, 2, none⟩ = some (.string s3)) :=
  (vcompare_any ka na sa kb nb sb v).mono fun e v' ⟨he, hb⟩ => ⟨he, held3_keep hb h⟩

theorem holds_held {w : World} {k1 n1 : Int} {s1 : ByteArray} {k2 n2 : Int} {s2 : ByteArray} {k3 n3 : Int} {s3 : ByteArray} {v : World} (r ka na : Int) (sa : ByteArray) (kb nb : Int) (sb : ByteArray) (ha : sa.size ≤ maxLen) (hb : sb.size ≤ maxLen) (h : w.heap.size + 2 < v.heap.size ∧ Below w.heap.size w v ∧ v.cell? ⟨w.heap.size, 0, none⟩ = some (.int .i8 k1) ∧ v.cell? ⟨w.heap.size, 1, none⟩ = some (.int .i64 n1) ∧ v.cell? ⟨w.heap.size, 2, none⟩ = some (.string s1) ∧ v.cell? ⟨w.heap.size + 1, 0, none⟩ = some (.int .i8 k2) ∧ v.cell? ⟨w.heap.size + 1, 1, none⟩ = some (.int .i64 n2) ∧ v.cell? ⟨w.heap.size + 1, 2, none⟩ = some (.string s2) ∧ v.cell? ⟨w.heap.size + 2, 0, none⟩ = some (.int .i8 k3) ∧ v.cell? ⟨w.heap.size + 2, 1, none⟩ = some (.int .i64 n3) ∧ v.cell? ⟨w.heap.size + 2, 2, none⟩ = some (.string s3)) :
    Calls Tryd.prog 25 #[.int .i8 r, .agg #[.int .i8 ka, .int .i64 na, .string sa], .agg #[.int .i8 kb, .int .i64 nb, .string sb]] v fun e v' => e = .returned (.bool (holdsV r ka na sa kb nb sb)) ∧ (w.heap.size + 2 < v'.heap.size ∧ Below w.heap.size w v' ∧ v'.cell? ⟨w.heap.size, 0, none⟩ = some (.int .i8 k1) ∧ v'.cell? ⟨w.heap.size, 1, none⟩ = some (.int .i64 n1) ∧ v'.cell? ⟨w.heap.size, 2, none⟩ = some (.string s1) ∧ v'.cell? ⟨w.heap.size + 1, 0, none⟩ = some (.int .i8 k2) ∧ v'.cell? ⟨w.heap.size + 1, 1, none⟩ = some (.int .i64 n2) ∧ v'.cell? ⟨w.heap.size + 1, 2, none⟩ = some (.string s2) ∧ v'.cell? ⟨w.heap.size + 2, 0, none⟩ = some (.int .i8 k3) ∧ v'.cell? ⟨w.heap.size + 2, 1, none⟩ = some (.int .i64 n3) ∧ v'.cell? ⟨w.heap.size + 2, 2, none⟩ = some (.string s3)) :=
  (vholds_any r ka na sa kb nb sb v ha hb).mono fun e v' ⟨he, hb⟩ => ⟨he, held3_keep hb h⟩

theorem check_held {w : World} {k1 n1 : Int} {s1 : ByteArray} {k2 n2 : Int} {s2 : ByteArray} {k3 n3 : Int} {s3 : ByteArray} {v : World} (ka na : Int) (sa : ByteArray) (ha : sa.size ≤ maxLen) (h : w.heap.size + 2 < v.heap.size ∧ Below w.heap.size w v ∧ v.cell? ⟨w.heap.size, 0, none⟩ = some (.int .i8 k1) ∧ v.cell? ⟨w.heap.size, 1, none⟩ = some (.int .i64 n1) ∧ v.cell? ⟨w.heap.size, 2, none⟩ = some (.string s1) ∧ v.cell? ⟨w.heap.size + 1, 0, none⟩ = some (.int .i8 k2) ∧ v.cell? ⟨w.heap.size + 1, 1, none⟩ = some (.int .i64 n2) ∧ v.cell? ⟨w.heap.size + 1, 2, none⟩ = some (.string s2) ∧ v.cell? ⟨w.heap.size + 2, 0, none⟩ = some (.int .i8 k3) ∧ v.cell? ⟨w.heap.size + 2, 1, none⟩ = some (.int .i64 n3) ∧ v.cell? ⟨w.heap.size + 2, 2, none⟩ = some (.string s3)) :
    Calls Tryd.prog 24 #[.agg #[.int .i8 ka, .int .i64 na, .string sa]] v fun e v' => e = .returned (.int .i64 (chk ka na sa)) ∧ (w.heap.size + 2 < v'.heap.size ∧ Below w.heap.size w v' ∧ v'.cell? ⟨w.heap.size, 0, none⟩ = some (.int .i8 k1) ∧ v'.cell? ⟨w.heap.size, 1, none⟩ = some (.int .i64 n1) ∧ v'.cell? ⟨w.heap.size, 2, none⟩ = some (.string s1) ∧ v'.cell? ⟨w.heap.size + 1, 0, none⟩ = some (.int .i8 k2) ∧ v'.cell? ⟨w.heap.size + 1, 1, none⟩ = some (.int .i64 n2) ∧ v'.cell? ⟨w.heap.size + 1, 2, none⟩ = some (.string s2) ∧ v'.cell? ⟨w.heap.size + 2, 0, none⟩ = some (.int .i8 k3) ∧ v'.cell? ⟨w.heap.size + 2, 1, none⟩ = some (.int .i64 n3) ∧ v'.cell? ⟨w.heap.size + 2, 2, none⟩ = some (.string s3)) :=
  (rcheck_any ka na sa v ha).mono fun e v' ⟨he, hb⟩ => ⟨he, held3_keep hb h⟩

set_option maxRecDepth 100000 in
set_option maxHeartbeats 8000000 in
theorem total_walk (k1 n1 : Int) (s1 : ByteArray) (k2 n2 : Int) (s2 : ByteArray) (k3 n3 : Int) (s3 : ByteArray) (w : World) (ht : Tab w) (h1 : s1.size ≤ maxLen) (h2 : s2.size ≤ maxLen) :
    Calls Tryd.prog 4 #[.agg #[.int .i8 k1, .int .i64 n1, .string s1], .agg #[.int .i8 k2, .int .i64 n2, .string s2], .agg #[.int .i8 k3, .int .i64 n3, .string s3]] w fun e w' => e = .returned (.bool true) ∧ Below w.heap.size w w' := by
  go_enter Tryd.func4, Tryd.ntmps4
  go_upto_region 1 with fail
  go_cut [43] (fun t wc => t = .bool false ∧ w.heap.size + 2 < wc.heap.size ∧ Below w.heap.size w wc ∧ wc.cell? ⟨w.heap.size, 0, none⟩ = some (.int .i8 k1) ∧ wc.cell? ⟨w.heap.size, 1, none⟩ = some (.int .i64 n1) ∧ wc.cell? ⟨w.heap.size, 2, none⟩ = some (.string s1) ∧ wc.cell? ⟨w.heap.size + 1, 0, none⟩ = some (.int .i8 k2) ∧ wc.cell? ⟨w.heap.size + 1, 1, none⟩ = some (.int .i64 n2) ∧ wc.cell? ⟨w.heap.size + 1, 2, none⟩ = some (.string s2) ∧ wc.cell? ⟨w.heap.size + 2, 0, none⟩ = some (.int .i8 k3) ∧ wc.cell? ⟨w.heap.size + 2, 1, none⟩ = some (.int .i64 n3) ∧ wc.cell? ⟨w.heap.size + 2, 2, none⟩ = some (.string s3))
  case first =>
    have hA := cmpV_anti k1 n1 s1 k2 n2 s2
    have hB := cmpV_anti k2 n2 s2 k3 n3 s3
    have hC := cmpV_anti k1 n1 s1 k3 n3 s3
    have hO : O3 (cmpV k1 n1 s1 k2 n2 s2) (cmpV k2 n2 s2 k3 n3 s3) (cmpV k1 n1 s1 k3 n3 s3) := cmpV_O3 _ _ _ _ _ _ _ _ _
    have hE1 := run_eql_value k1 n1 s1 k2 n2 s2
    have hE2 := run_eql_value k2 n2 s2 k3 n3 s3
    have hE3 := run_eql_value k1 n1 s1 k3 n3 s3
    go_region_held3 (fun w' => w.heap.size + 2 < w'.heap.size ∧ Below w.heap.size w w' ∧ w'.cell? ⟨w.heap.size, 0, none⟩ = some (.int .i8 k1) ∧ w'.cell? ⟨w.heap.size, 1, none⟩ = some (.int .i64 n1) ∧ w'.cell? ⟨w.heap.size, 2, none⟩ = some (.string s1) ∧ w'.cell? ⟨w.heap.size + 1, 0, none⟩ = some (.int .i8 k2) ∧ w'.cell? ⟨w.heap.size + 1, 1, none⟩ = some (.int .i64 n2) ∧ w'.cell? ⟨w.heap.size + 1, 2, none⟩ = some (.string s2) ∧ w'.cell? ⟨w.heap.size + 2, 0, none⟩ = some (.int .i8 k3) ∧ w'.cell? ⟨w.heap.size + 2, 1, none⟩ = some (.int .i64 n3) ∧ w'.cell? ⟨w.heap.size + 2, 2, none⟩ = some (.string s3))
      (first
        | assumption
        | exact held3_keep (by assumption) (by assumption)
        | (refine ⟨(by simp), ((((Below.refl _ _).alloc (Nat.le_refl _) _).alloc (by simp) _).alloc (by simp; omega) _).drew, ?_, ?_, ?_, ?_, ?_, ?_, ?_, ?_, ?_⟩ <;> go_simp)
        | (refine ⟨(by simp), ((((Below.refl _ _).alloc (Nat.le_refl _) _).alloc (by simp) _).alloc (by simp; omega) _), ?_, ?_, ?_, ?_, ?_, ?_, ?_, ?_, ?_⟩ <;> go_simp))
      (first
        | (go_at_call 21; refine (lives_true _ (ht.below (((((Below.refl _ _).alloc (Nat.le_refl _) _).alloc (by simp) _).alloc (by simp; omega) _).drew))).mono ?_; rintro e w1 ⟨rfl, hb1⟩)
        | (go_at_call 23; refine (vcompare_any _ _ _ _ _ _ _).mono ?_; rintro e w' ⟨rfl, hbx⟩)
        | (go_at_call 22; refine (ordered_true _ _ _ _ hO).mono ?_; rintro e w' ⟨rfl, rfl⟩))
    go_wp2_with fail
    go_meet
    case rel => exact ⟨rfl, by assumption⟩
  case rest =>
    obtain ⟨rfl, hH⟩ := hcut
    go_upto_region 3 with fail
    go_cut [74] (fun t wc => t = .bool false ∧ w.heap.size + 2 < wc.heap.size ∧ Below w.heap.size w wc ∧ wc.cell? ⟨w.heap.size, 0, none⟩ = some (.int .i8 k1) ∧ wc.cell? ⟨w.heap.size, 1, none⟩ = some (.int .i64 n1) ∧ wc.cell? ⟨w.heap.size, 2, none⟩ = some (.string s1) ∧ wc.cell? ⟨w.heap.size + 1, 0, none⟩ = some (.int .i8 k2) ∧ wc.cell? ⟨w.heap.size + 1, 1, none⟩ = some (.int .i64 n2) ∧ wc.cell? ⟨w.heap.size + 1, 2, none⟩ = some (.string s2) ∧ wc.cell? ⟨w.heap.size + 2, 0, none⟩ = some (.int .i8 k3) ∧ wc.cell? ⟨w.heap.size + 2, 1, none⟩ = some (.int .i64 n3) ∧ wc.cell? ⟨w.heap.size + 2, 2, none⟩ = some (.string s3))
    case first =>
      by_cases hk : k1 < k2
      · have hc := cmpV_k1 n1 n2 s1 s2 hk
        go_wp2_with (first
          | (go_at_call 23; refine (compare_held _ _ _ _ _ _ hH).mono ?_; clear hH; rintro e v' ⟨rfl, hH⟩)
          | (go_at_call_of 25 s1; refine (holds_held _ _ _ _ _ _ _ (by assumption) (by assumption) hH).mono ?_; clear hH; rintro e v' ⟨rfl, hH⟩)
          | (go_at_call 24; refine (check_held _ _ _ (by assumption) hH).mono ?_; clear hH; rintro e v' ⟨rfl, hH⟩))
        go_meet
        case rel => exact ⟨rfl, hH⟩
      · by_cases hke : k1 = k2
        · by_cases hn : n1 < n2
          · have hc : cmpV k1 n1 s1 k2 n2 s2 = -1 := by rw [hke]; exact cmpV_n1 s1 s2 hn
            have hke' : (k1 == k2) = true := by simpa using hke
            have HK : Hid (k1 = k2) := hke
            clear hke
            go_wp2_with (first
          | (go_at_call 23; refine (compare_held _ _ _ _ _ _ hH).mono ?_; clear hH; rintro e v' ⟨rfl, hH⟩)
          | (go_at_call_of 25 s1; refine (holds_held _ _ _ _ _ _ _ (by assumption) (by assumption) hH).mono ?_; clear hH; rintro e v' ⟨rfl, hH⟩)
          | (go_at_call 24; refine (check_held _ _ _ (by assumption) hH).mono ?_; clear hH; rintro e v' ⟨rfl, hH⟩))
            go_meet
            case rel => exact ⟨rfl, hH⟩
          · have hke' : (k1 == k2) = true := by simpa using hke
            have HK : Hid (k1 = k2) := hke
            clear hke
            go_wp2
            go_meet
            case rel => exact ⟨rfl, hH⟩
        · have hke' : (k1 == k2) = false := by simpa using hke
          go_wp2
          go_meet
          case rel => exact ⟨rfl, hH⟩
    case rest =>
      obtain ⟨rfl, hH⟩ := hcut
      have hE1 := run_eql_value k1 n1 s1 k2 n2 s2
      by_cases c1 : chk k1 n1 s1 = 0
      · by_cases c2 : chk k2 n2 s2 = 0
        · rcases cmpV_range k1 n1 s1 k2 n2 s2 with hc | hc | hc
          · have ⟨a1, a2, a3, a4, a5, a6, b3, b5⟩ := holds_m c1 c2 hc
            go_wp2_with (first
            | (go_at_call 23; refine (compare_held _ _ _ _ _ _ hH).mono ?_; clear hH; rintro e v' ⟨rfl, hH⟩)
            | (go_at_call 25; refine (holds_held _ _ _ _ _ _ _ ?_ ?_ hH).mono ?_; assumption; assumption; clear hH; rintro e v' ⟨rfl, hH⟩)
            | (go_at_call 24; refine (check_held _ _ _ ?_ hH).mono ?_; assumption; clear hH; rintro e v' ⟨rfl, hH⟩))
            go_ret
            exact ⟨rfl, hH.2.1⟩
          · have ⟨a1, a2, a3, a4, a5, a6, b3, b5⟩ := holds_z c1 c2 hc
            go_wp2_with (first
            | (go_at_call 23; refine (compare_held _ _ _ _ _ _ hH).mono ?_; clear hH; rintro e v' ⟨rfl, hH⟩)
            | (go_at_call 25; refine (holds_held _ _ _ _ _ _ _ ?_ ?_ hH).mono ?_; assumption; assumption; clear hH; rintro e v' ⟨rfl, hH⟩)
            | (go_at_call 24; refine (check_held _ _ _ ?_ hH).mono ?_; assumption; clear hH; rintro e v' ⟨rfl, hH⟩))
            go_ret
            exact ⟨rfl, hH.2.1⟩
          · have ⟨a1, a2, a3, a4, a5, a6, b3, b5⟩ := holds_p c1 c2 hc
            go_wp2_with (first
            | (go_at_call 23; refine (compare_held _ _ _ _ _ _ hH).mono ?_; clear hH; rintro e v' ⟨rfl, hH⟩)
            | (go_at_call 25; refine (holds_held _ _ _ _ _ _ _ ?_ ?_ hH).mono ?_; assumption; assumption; clear hH; rintro e v' ⟨rfl, hH⟩)
            | (go_at_call 24; refine (check_held _ _ _ ?_ hH).mono ?_; assumption; clear hH; rintro e v' ⟨rfl, hH⟩))
            go_ret
            exact ⟨rfl, hH.2.1⟩
        · have ⟨a1, a2, a3, a4, a5, a6⟩ := holds_none (k1 := k1) (n1 := n1) (s1 := s1) (fun h => c2 h.2)
          have c2' : (chk k2 n2 s2 == 0) = false := by simpa using c2
          clear c2
          go_wp2_with (first
            | (go_at_call 23; refine (compare_held _ _ _ _ _ _ hH).mono ?_; clear hH; rintro e v' ⟨rfl, hH⟩)
            | (go_at_call 25; refine (holds_held _ _ _ _ _ _ _ ?_ ?_ hH).mono ?_; assumption; assumption; clear hH; rintro e v' ⟨rfl, hH⟩)
            | (go_at_call 24; refine (check_held _ _ _ ?_ hH).mono ?_; assumption; clear hH; rintro e v' ⟨rfl, hH⟩))
          go_ret
          exact ⟨rfl, hH.2.1⟩
      · have ⟨a1, a2, a3, a4, a5, a6⟩ := holds_none (k2 := k2) (n2 := n2) (s2 := s2) (fun h => c1 h.1)
        have c1' : (chk k1 n1 s1 == 0) = false := by simpa using c1
        clear c1
        go_wp2_with (first
            | (go_at_call 23; refine (compare_held _ _ _ _ _ _ hH).mono ?_; clear hH; rintro e v' ⟨rfl, hH⟩)
            | (go_at_call 25; refine (holds_held _ _ _ _ _ _ _ ?_ ?_ hH).mono ?_; assumption; assumption; clear hH; rintro e v' ⟨rfl, hH⟩)
            | (go_at_call 24; refine (check_held _ _ _ ?_ hH).mono ?_; assumption; clear hH; rintro e v' ⟨rfl, hH⟩))
        go_ret
        exact ⟨rfl, hH.2.1⟩

end Go.Proofs.YtkcgnommiaiidabDoor
