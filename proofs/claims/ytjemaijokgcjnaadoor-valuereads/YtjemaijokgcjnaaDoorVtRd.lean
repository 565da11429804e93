import Derived.Test.YtjemaijokgcjnaaDoorVtRead
namespace Go.Proofs.YtjemaijokgcjnaaDoor
open Go.RowKit Go.Maps
set_option linter.unusedVariables false
set_option linter.unusedSimpArgs false
attribute [local go_sem ↓] Go.wp_at_zero Go.wp_at_succ

theorem showV_ok {k n : Int} {s : ByteArray} (h : chk k n s = 0) : showV k n s = .tuple #[.string ⟨(showB ⟨k, n, s⟩).toArray⟩, .int .i64 0] := by
  unfold showV showB
  rw [if_pos h]
  simp only
  split
  · rfl
  · split <;> simp
/-- what Read tells -/
def readV (s : ByteArray) : Option V :=
  match guessV s with
  | none => none
  | some u => if chk u.k u.n u.s = 0 ∧ showB u = s.data.toList then some u else none
def rdV : Option V → Value
  | some u => .tuple #[.agg #[.int .i8 u.k, .int .i64 u.n, .string u.s], .int .i64 0]
  | none => .tuple #[.agg #[.int .i8 0, .int .i64 0, .string ⟨#[]⟩], .int .i64 10]
theorem arr_bytes {l : List UInt8} {s : ByteArray} : ((⟨l.toArray⟩ : ByteArray).toList == s.toList) = decide (l = s.data.toList) := by
  rw [ByteArray.toList_eq, ByteArray.toList_eq]
  simp only [List.toList_toArray]
  by_cases h : l = s.data.toList
  · rw [h]; simp
  · rw [decide_eq_false h]; simpa using h
set_option maxHeartbeats 3200000 in
set_option maxRecDepth 100000 in
theorem read_any (s : ByteArray) (hs : s.size ≤ 140737488355328) (w : World) (hg : Gv w) : Calls Tryd.prog 6 #[.string s] w fun e w' => e = .returned (rdV (readV s)) ∧ Below w.heap.size w w' := by
  have b0 := (Below.refl w.heap.size w).alloc (Nat.le_refl _) (.cells #[.int .i8 0, .int .i64 0, .string ⟨#[]⟩] 25)
  have HO0 : Hid (Own3 (w.alloc (.cells #[.int .i8 0, .int .i64 0, .string ⟨#[]⟩] 25)) w.heap.size) := own3 (Below.refl _ _)
  have HG := Lib.hid (hg.alloc (.cells #[.int .i8 0, .int .i64 0, .string ⟨#[]⟩] 25))
  obtain ⟨k, n, t, b, hgi, hgc⟩ := guess_any s hs _ HG.out
  have HGC := Lib.hid hgc
  clear hg hgc
  obtain ⟨R, HR⟩ : ∃ R, Hid (rdV (readV s) = R) := ⟨_, rfl⟩
  rw [HR.out]
  cases hgv : guessV s with
  | none =>
    rw [hgv] at hgi
    obtain rfl : b = false := hgi
    have HV : Hid (R = .tuple #[.agg #[.int .i8 0, .int .i64 0, .string ⟨#[]⟩], .int .i64 10]) := by show _ = _; rw [← HR.out]; unfold readV; rw [hgv]; rfl
    clear hgv HR
    go_enter Tryd.func6, Tryd.ntmps6
    go_upto_region 1 with fail
    generalize w.alloc (.cells #[.int .i8 0, .int .i64 0, .string ⟨#[]⟩] 25) = W at b0 HO0 HG HGC ⊢
    go_wp2_with fail
    refine HGC.out.mono ?_
    rintro e w1 ⟨rfl, hb1⟩
    have HO1 := Lib.hid ((HO0.out.below hb1).below ((Below.refl _ _).alloc (Nat.le_refl _) (.cells #[.int .i8 k, .int .i64 n, .string t] 25)))
    have b1 := b0.trans (hb1.mono b0.size)
    have b2 := b1.alloc b1.size (.cells #[.int .i8 k, .int .i64 n, .string t] 25)
    clear HGC hb1 b0 HO0 HG b1
    obtain ⟨⟨y0, y1, y2, c0, c1, c2⟩, f0, f1, f2, hl⟩ := HO1.out
    go_wp2
    refine val_done Tryd.results6 (ok := .int .i64 10) HO1.out (Nat.le_refl _) b2 ?_ ?_ HV.out <;> rfl
  | some u =>
    rw [hgv] at hgi
    obtain ⟨rfl, rfl, ht, hn0, hn1⟩ := hgi
    have hrv : readV s = if chk k n t = 0 ∧ showB ⟨k, n, t⟩ = s.data.toList then some ⟨k, n, t⟩ else none := by unfold readV; rw [hgv]
    have HB := Lib.hid (And.intro ht (And.intro hn0 hn1))
    clear ht hn0 hn1 hgv
    go_enter Tryd.func6, Tryd.ntmps6
    go_upto_region 1 with fail
    generalize w.alloc (.cells #[.int .i8 0, .int .i64 0, .string ⟨#[]⟩] 25) = W at b0 HO0 HG HGC ⊢
    have HRV := Lib.hid hrv
    clear hrv
    go_wp2_with fail
    refine HGC.out.mono ?_
    rintro e w1 ⟨rfl, hb1⟩
    have ha : Below w1.heap.size w1 (w1.alloc (.cells #[.int .i8 k, .int .i64 n, .string t] 25)) := (Below.refl _ _).alloc (Nat.le_refl _) _
    have HO1 := Lib.hid ((HO0.out.below hb1).below ha)
    have HG1 := Lib.hid ((HG.out.below hb1).below ha)
    have b1 := b0.trans (hb1.mono b0.size)
    have b2 := b1.trans (ha.mono b1.size)
    have HA := Lib.hid (own3 (Below.refl _ (w1.alloc (.cells #[.int .i8 k, .int .i64 n, .string t] 25))))
    have HC : Hid ((w1.alloc (.cells #[.int .i8 k, .int .i64 n, .string t] 25)).cell? ⟨w1.heap.size, 0, none⟩ = some (.int .i8 k) ∧ (w1.alloc (.cells #[.int .i8 k, .int .i64 n, .string t] 25)).cell? ⟨w1.heap.size, 1, none⟩ = some (.int .i64 n) ∧ (w1.alloc (.cells #[.int .i8 k, .int .i64 n, .string t] 25)).cell? ⟨w1.heap.size, 2, none⟩ = some (.string t)) := ⟨keptC (Below.refl _ _) 0 _ rfl, keptC (Below.refl _ _) 1 _ rfl, keptC (Below.refl _ _) 2 _ rfl⟩
    clear HGC hb1 b0 HO0 HG b1 ha
    go_upto_region 4 with fail
    generalize w1.alloc (.cells #[.int .i8 k, .int .i64 n, .string t] 25) = W2 at b2 HO1 HG1 HA HC ⊢
    obtain ⟨d0, d1, d2⟩ := HC.out
    go_wp2_with fail
    refine (vshow_any k n t _ HG1.out.pw HB.out.1 HB.out.2.1 HB.out.2.2).mono ?_
    rintro e w3 ⟨rfl, hb3⟩
    have HO3 := Lib.hid (HO1.out.below hb3)
    have b3 := b2.trans (hb3.mono b2.size)
    have g1 := HA.out.2.2.2.2
    have d0' : w3.cell? ⟨w1.heap.size, 0, none⟩ = some (.int .i8 k) := by rw [hb3.cell (by exact g1)]; exact d0
    have d1' : w3.cell? ⟨w1.heap.size, 1, none⟩ = some (.int .i64 n) := by rw [hb3.cell (by exact g1)]; exact d1
    have d2' : w3.cell? ⟨w1.heap.size, 2, none⟩ = some (.string t) := by rw [hb3.cell (by exact g1)]; exact d2
    clear hb3 b2 HO1 HG1 HA HC g1 d0 d1 d2 HB
    obtain ⟨⟨y0, y1, y2, c0, c1, c2⟩, f0, f1, f2, hl⟩ := HO3.out
    by_cases hc : chk k n t = 0
    · rw [showV_ok hc]
      have hq := arr_bytes (l := showB ⟨k, n, t⟩) (s := s)
      by_cases he : showB ⟨k, n, t⟩ = s.data.toList
      · have HV : Hid (R = .tuple #[.agg #[.int .i8 k, .int .i64 n, .string t], .int .i64 0]) := by show _ = _; rw [← HR.out, HRV.out, if_pos ⟨hc, he⟩]; rfl
        rw [decide_eq_true he] at hq
        generalize (⟨(showB ⟨k, n, t⟩).toArray⟩ : ByteArray) = T1 at hq ⊢
        clear he hc HR HRV
        go_wp2
        refine val_done Tryd.results6 (ok := .int .i64 0) HO3.out (Nat.le_refl _) b3 ?_ ?_ HV.out <;> rfl
      · have HV : Hid (R = .tuple #[.agg #[.int .i8 0, .int .i64 0, .string ⟨#[]⟩], .int .i64 10]) := by show _ = _; rw [← HR.out, HRV.out, if_neg (fun h => he h.2)]; rfl
        rw [decide_eq_false he] at hq
        generalize (⟨(showB ⟨k, n, t⟩).toArray⟩ : ByteArray) = T1 at hq ⊢
        clear he hc HR HRV
        go_wp2
        refine val_done Tryd.results6 (ok := .int .i64 10) HO3.out (Nat.le_refl _) b3 ?_ ?_ HV.out <;> rfl
    · have HV : Hid (R = .tuple #[.agg #[.int .i8 0, .int .i64 0, .string ⟨#[]⟩], .int .i64 10]) := by show _ = _; rw [← HR.out, HRV.out, if_neg (fun h => hc h.1)]; rfl
      have hsv : showV k n t = .tuple #[.string ⟨#[]⟩, .int .i64 10] := by unfold showV; rw [if_neg hc]
      rw [hsv]
      clear hc hsv HR HRV
      go_wp2
      refine val_done Tryd.results6 (ok := .int .i64 10) HO3.out (Nat.le_refl _) b3 ?_ ?_ HV.out <;> rfl
end Go.Proofs.YtjemaijokgcjnaaDoor
