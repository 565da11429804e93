import Derived.Test.YtjemaijokgcjnaaDoorVtBack
import Derived.Test.YtjemaijokgcjnaaDoorAlive
import Derived.Deep.DeepCutAuto
namespace Go.Proofs.YtjemaijokgcjnaaDoor
open Go.RowKit Go.Maps
set_option linter.unusedVariables false
set_option linter.unusedSimpArgs false
attribute [local go_sem ↓] Go.wp_at_zero Go.wp_at_succ

theorem itoa_len (n : Int) (h0 : -9223372036854775808 ≤ n) (h1 : n ≤ 9223372036854775807) : 1 ≤ (Lib.itoa n).length ∧ (Lib.itoa n).length ≤ 21 := by
  unfold Lib.itoa
  split
  · rw [List.length_cons, Lib.decDigits_length]
    have := nDig_le 19 n.natAbs (by omega)
    omega
  · rw [Lib.decDigits_length]
    have := nDig_le 19 n.toNat (by omega)
    have := Lib.nDigits_pos n.toNat
    omega
theorem flat_le4 : ∀ l : List UInt8, (l.flatMap pieceQ).length ≤ 4 * l.length
  | [] => by simp
  | c :: r => by
    have := flat_le4 r
    have := (pieceQ_len c).2
    rw [List.flatMap_cons, List.length_append, List.length_cons]
    omega
theorem quoteQ_len (s : ByteArray) : (quoteQ s).data.toList.length ≤ 4 * s.size + 2 := by
  have := flat_le4 s.data.toList
  rw [len_toList] at this
  unfold quoteQ
  simp only [List.length_append, List.length_cons, List.length_nil]
  omega
theorem showB_len {k n : Int} {s : ByteArray} (h0 : -9223372036854775808 ≤ n) (h1 : n ≤ 9223372036854775807) (hc : chk k n s = 0) : 1 ≤ (showB ⟨k, n, s⟩).length ∧ (showB ⟨k, n, s⟩).length ≤ 1000 := by
  unfold showB
  by_cases hk : k = 1
  · rw [if_pos hk]
    have := itoa_len n h0 h1
    simp only
    omega
  · rw [if_neg hk]
    obtain ⟨_, _, hs⟩ := chk_two hc hk
    simp only
    cases hn : nameB s
    · simp only [Bool.false_eq_true, if_false]
      have h2 := quoteQ_len s
      have h3 := quoteQ_size s
      rw [← len_toList (quoteQ s)] at h3
      omega
    · simp only [if_true]
      rw [len_toList]
      unfold nameB at hn
      simp only [Bool.and_eq_true, decide_eq_true_eq] at hn
      omega

theorem read_range {s : ByteArray} (hs : s.size ≤ 140737488355328) {u : V} (h : readV s = some u) : u.s.size ≤ maxLen ∧ -9223372036854775808 ≤ u.n ∧ u.n ≤ 9223372036854775807 := by
  have hg : guessV s = some u := by
    unfold readV at h
    cases hg : guessV s with
    | none => rw [hg] at h; cases h
    | some v =>
      rw [hg] at h
      simp only at h
      split at h
      · exact h
      · cases h
  obtain ⟨hc, hb⟩ := read_ok h
  by_cases hk : u.k = 1
  · have hz : u.s.toList = [] := by
      unfold chk at hc
      split at hc
      · rename_i hh
        rcases hh with ⟨_, e⟩ | ⟨e, _⟩
        · exact e
        · rw [hk] at e; cases e
      · cases hc
    have hsz : u.s.size ≤ maxLen := by rw [PU.noS_of hz]; decide
    refine ⟨hsz, ?_⟩
    unfold guessV at hg
    split at hg
    · cases hg
    split at hg
    · split at hg
      · cases hg; cases hk
      · cases hg
    split at hg
    · split at hg
      · rename_i m hp
        have hbd := Lib.parseIntB_bounds hp
        cases hg
        simp at hbd
        exact ⟨hbd.1, by show m ≤ _; omega⟩
      · cases hg
    · cases hg; cases hk
  · obtain ⟨_, hn, hs2⟩ := chk_two hc hk
    rw [hn]
    exact ⟨by unfold maxLen; omega, by decide, by decide⟩
set_option maxHeartbeats 6400000 in
set_option maxRecDepth 100000 in
theorem valueThere_walk (k n : Int) (t s : ByteArray) (w : World) (hg : Gv w) (htab : Tab w) (ht : t.size ≤ maxLen) (h0 : -9223372036854775808 ≤ n) (h1 : n ≤ 9223372036854775807) (hs : s.size ≤ 140737488355328) :
    Calls Tryd.prog 4 #[.agg #[.int .i8 k, .int .i64 n, .string t], .string s] w fun e w' => e = .returned (.bool true) ∧ Below w.heap.size w w' := by
  have ha : Below w.heap.size w (w.alloc (.cells #[.int .i8 k, .int .i64 n, .string t] 25)) := (Below.refl _ _).alloc (Nat.le_refl _) _
  have HG := Lib.hid (hg.below ha)
  have HT := Lib.hid (htab.below ha)
  have HA := Lib.hid (own3 (Below.refl _ (w.alloc (.cells #[.int .i8 k, .int .i64 n, .string t] 25))))
  have HC : Hid ((w.alloc (.cells #[.int .i8 k, .int .i64 n, .string t] 25)).cell? ⟨w.heap.size, 0, none⟩ = some (.int .i8 k) ∧ (w.alloc (.cells #[.int .i8 k, .int .i64 n, .string t] 25)).cell? ⟨w.heap.size, 1, none⟩ = some (.int .i64 n) ∧ (w.alloc (.cells #[.int .i8 k, .int .i64 n, .string t] 25)).cell? ⟨w.heap.size, 2, none⟩ = some (.string t)) := ⟨keptC (Below.refl _ _) 0 _ rfl, keptC (Below.refl _ _) 1 _ rfl, keptC (Below.refl _ _) 2 _ rfl⟩
  have HB := Lib.hid (And.intro ht (And.intro h0 h1))
  have HS := Lib.hid hs
  clear hg htab ht h0 h1 hs
  go_enter Tryd.func4, Tryd.ntmps4
  go_upto_region 1 with fail
  generalize w.alloc (.cells #[.int .i8 k, .int .i64 n, .string t] 25) = W at ha HG HT HA HC ⊢
  go_wp2_with fail
  refine (lives_true _ HT.out).mono ?_
  rintro e w1 ⟨rfl, hb1⟩
  have g1 := HA.out.2.2.2.2
  obtain ⟨d0, d1, d2⟩ := HC.out
  have c0 : w1.cell? ⟨w.heap.size, 0, none⟩ = some (.int .i8 k) := by rw [hb1.cell (by exact g1)]; exact d0
  have c1 : w1.cell? ⟨w.heap.size, 1, none⟩ = some (.int .i64 n) := by rw [hb1.cell (by exact g1)]; exact d1
  have c2 : w1.cell? ⟨w.heap.size, 2, none⟩ = some (.string t) := by rw [hb1.cell (by exact g1)]; exact d2
  have HG1 := Lib.hid (HG.out.below hb1)
  have b1 := ha.trans (hb1.mono ha.size)
  have z1 : w.heap.size < w1.heap.size := Nat.lt_of_lt_of_le g1 hb1.size
  clear HT HG HA HC hb1 ha g1 d0 d1 d2
  go_wp2_with fail
  refine (vshow_any k n t _ HG1.out.pw HB.out.1 HB.out.2.1 HB.out.2.2).mono ?_
  rintro e w2 ⟨rfl, hb2⟩
  have e0 : w2.cell? ⟨w.heap.size, 0, none⟩ = some (.int .i8 k) := by rw [hb2.cell (by exact z1)]; exact c0
  have e1 : w2.cell? ⟨w.heap.size, 1, none⟩ = some (.int .i64 n) := by rw [hb2.cell (by exact z1)]; exact c1
  have e2 : w2.cell? ⟨w.heap.size, 2, none⟩ = some (.string t) := by rw [hb2.cell (by exact z1)]; exact c2
  have HG2 := Lib.hid (HG1.out.below hb2)
  have b2 := b1.trans (hb2.mono b1.size)
  have z2 : w.heap.size < w2.heap.size := Nat.lt_of_lt_of_le z1 hb2.size
  clear HG1 b1 hb2 z1 c0 c1 c2
  obtain ⟨T1, E1, hsv, hE⟩ : ∃ (T1 : ByteArray) (E1 : Int), showV k n t = .tuple #[.string T1, .int .i64 E1] ∧ (chk k n t = 0 ∧ E1 = 0 ∧ T1 = ⟨(showB ⟨k, n, t⟩).toArray⟩ ∨ chk k n t ≠ 0 ∧ E1 ≠ 0) := by
    by_cases hc : chk k n t = 0
    · exact ⟨_, _, showV_ok hc, .inl ⟨hc, rfl, rfl⟩⟩
    · exact ⟨⟨#[]⟩, 10, by unfold showV; rw [if_neg hc], .inr ⟨hc, by decide⟩⟩
  rw [hsv]
  have HE := Lib.hid hE
  clear hsv hE
  go_wp2_with fail
  refine (rcheck_any k n t _ HB.out.1).mono ?_
  rintro e w3 ⟨rfl, hb3⟩
  have f0 : w3.cell? ⟨w.heap.size, 0, none⟩ = some (.int .i8 k) := by rw [hb3.cell (by exact z2)]; exact e0
  have f1 : w3.cell? ⟨w.heap.size, 1, none⟩ = some (.int .i64 n) := by rw [hb3.cell (by exact z2)]; exact e1
  have f2 : w3.cell? ⟨w.heap.size, 2, none⟩ = some (.string t) := by rw [hb3.cell (by exact z2)]; exact e2
  have HG3 := Lib.hid (HG2.out.below hb3)
  have b3 := b2.trans (hb3.mono b2.size)
  have z3 : w.heap.size < w3.heap.size := Nat.lt_of_lt_of_le z2 hb3.size
  clear HG2 b2 hb3 z2 e0 e1 e2
  have hEE : (E1 == 0) = (chk k n t == 0) := by
    rcases HE.out with ⟨x, y, _⟩ | ⟨x, y⟩
    · rw [x, y]
    · rw [beq_false_of_ne x, beq_false_of_ne y]
  generalize hz : chk k n t = Z at hEE HE ⊢
  have HZ := Lib.hid hz
  clear hz
  go_upto_if 28 with fail
  go_cut [28] (fun x wc => Below w.heap.size w wc ∧ Hid (Gv wc))
  case first =>
    rcases HE.out with ⟨hc, rfl, hT⟩ | ⟨hc, he⟩
    · have hk := HZ.out.trans hc
      obtain ⟨l1, l2⟩ := showB_len HB.out.2.1 HB.out.2.2 hk
      have hts : T1.size = (showB ⟨k, n, t⟩).length := by rw [hT]; rfl
      have hrv : readV T1 = some ⟨k, n, t⟩ := read_back hk HB.out.2.1 HB.out.2.2 (by rw [hT])
      have HP : Hid (∀ j (h : j < T1.size), 32 ≤ T1[j].toNat ∧ T1[j].toNat ≤ 126) := fun j h => by
        have e : T1.data.toList[j]'(by rw [len_toList]; exact h) = T1[j] := by simp [ByteArray.getElem_eq_getElem_data]
        rw [← e]
        exact PU.show_pl ⟨k, n, t⟩ _ (by
          have : T1.data.toList = showB ⟨k, n, t⟩ := by rw [hT]
          rw [← this]
          exact List.getElem_mem _)
      have m1 : 1 ≤ T1.size := by omega
      have m2 : T1.size ≤ 1000 := by omega
      have hR := read_any T1 (by omega) w3 HG3.out
      rw [hrv] at hR
      have HR := Lib.hid hR
      obtain rfl : Z = 0 := hc
      clear hR hrv hts l1 l2 hT hk HE HZ hEE
      go_wp2_with fail
      refine HR.out.mono ?_
      rintro e w4 ⟨rfl, hb4⟩
      have ha4 : Below w4.heap.size w4 (w4.alloc (.cells #[.int .i8 k, .int .i64 n, .string t] 25)) := (Below.refl _ _).alloc (Nat.le_refl _) _
      have c0 : (w4.alloc (.cells #[.int .i8 k, .int .i64 n, .string t] 25)).cell? ⟨w.heap.size, 0, none⟩ = some (.int .i8 k) := by rw [ha4.cell (by exact Nat.lt_of_lt_of_le z3 hb4.size), hb4.cell (by exact z3)]; exact f0
      have c1 : (w4.alloc (.cells #[.int .i8 k, .int .i64 n, .string t] 25)).cell? ⟨w.heap.size, 1, none⟩ = some (.int .i64 n) := by rw [ha4.cell (by exact Nat.lt_of_lt_of_le z3 hb4.size), hb4.cell (by exact z3)]; exact f1
      have c2 : (w4.alloc (.cells #[.int .i8 k, .int .i64 n, .string t] 25)).cell? ⟨w.heap.size, 2, none⟩ = some (.string t) := by rw [ha4.cell (by exact Nat.lt_of_lt_of_le z3 hb4.size), hb4.cell (by exact z3)]; exact f2
      have g0 : (w4.alloc (.cells #[.int .i8 k, .int .i64 n, .string t] 25)).cell? ⟨w4.heap.size, 0, none⟩ = some (.int .i8 k) := keptC (Below.refl _ _) 0 _ rfl
      have g1 : (w4.alloc (.cells #[.int .i8 k, .int .i64 n, .string t] 25)).cell? ⟨w4.heap.size, 1, none⟩ = some (.int .i64 n) := keptC (Below.refl _ _) 1 _ rfl
      have g2 : (w4.alloc (.cells #[.int .i8 k, .int .i64 n, .string t] 25)).cell? ⟨w4.heap.size, 2, none⟩ = some (.string t) := keptC (Below.refl _ _) 2 _ rfl
      have HG4 := Lib.hid ((HG3.out.below hb4).below ha4)
      have b4 := b3.trans (hb4.mono b3.size)
      have b5 := b4.trans (ha4.mono b4.size)
      clear HR HG3 b3 b4 hb4 ha4 z3 f0 f1 f2
      unfold rdV
      go_upto_region 8 with fail
      generalize w4.alloc (.cells #[.int .i8 k, .int .i64 n, .string t] 25) = W5 at b5 HG4 c0 c1 c2 g0 g1 g2 ⊢
      have hemp : ((T1.size : Int) == 0) = false := beq_false_of_ne (by omega)
      have hemp2 : ¬ (T1.size : Int) = 0 := by omega
      go_wp2
      go_loopw [9] (fun i wr => ∃ q : Nat, q ≤ T1.size ∧ i = .int .i64 q ∧ wr = W5) (fun i _ => T1.size - (intOf i).toNat)
      case atStart => exact ⟨0, Nat.zero_le _, rfl, rfl⟩
      case round =>
        obtain ⟨q, hq, rfl, rfl⟩ := hrel
        by_cases hlt : q < T1.size
        · have hlt' : (q : Int) < (T1.size : Int) := by omega
          obtain ⟨x1, x2⟩ := HP.out q hlt
          have x1' : ¬ (T1[q].toNat : Int) < 32 := by omega
          have x2' : ¬ (126 : Int) < (T1[q].toNat : Int) := by omega
          go_wp2
          go_round
          case rel => exact ⟨q + 1, by omega, by go_num, by first | rfl | trivial⟩
          case measure => simp [intOf]; omega
        · obtain rfl : q = T1.size := by omega
          go_wp2
          go_meet
          exact ⟨b5, HG4⟩
    · have he' : (E1 == 0) = false := beq_false_of_ne he
      clear hEE HE HZ
      go_wp2_with fail
      go_meet
      exact ⟨b3, HG3⟩
  case rest =>
    obtain ⟨bc, HGC⟩ := hcut
    cases hrv : readV s with
    | none =>
      have hR := read_any s HS.out wc HGC.out
      rw [hrv] at hR
      have HR := Lib.hid hR
      clear hR hrv HE HZ hEE f0 f1 f2 z3 b3 HG3
      go_wp2_with fail
      refine HR.out.mono ?_
      rintro e w4 ⟨rfl, hb4⟩
      have ha4 : Below w4.heap.size w4 (w4.alloc (.cells #[.int .i8 0, .int .i64 0, .string ⟨#[]⟩] 25)) := (Below.refl _ _).alloc (Nat.le_refl _) _
      have b4 := bc.trans (hb4.mono bc.size)
      have b5 := b4.trans (ha4.mono b4.size)
      have g0 : (w4.alloc (.cells #[.int .i8 0, .int .i64 0, .string ⟨#[]⟩] 25)).cell? ⟨w4.heap.size, 0, none⟩ = some (.int .i8 0) := keptC (Below.refl _ _) 0 _ rfl
      have g1 : (w4.alloc (.cells #[.int .i8 0, .int .i64 0, .string ⟨#[]⟩] 25)).cell? ⟨w4.heap.size, 1, none⟩ = some (.int .i64 0) := keptC (Below.refl _ _) 1 _ rfl
      have g2 : (w4.alloc (.cells #[.int .i8 0, .int .i64 0, .string ⟨#[]⟩] 25)).cell? ⟨w4.heap.size, 2, none⟩ = some (.string ⟨#[]⟩) := keptC (Below.refl _ _) 2 _ rfl
      clear HR b4 hb4 ha4 bc HGC
      unfold rdV
      go_upto_region 17 with fail
      generalize w4.alloc (.cells #[.int .i8 0, .int .i64 0, .string ⟨#[]⟩] 25) = W5 at b5 g0 g1 g2 ⊢
      go_wp2
      go_ret
      exact ⟨rfl, b5⟩
    | some u =>
      obtain ⟨k2, n2, t2⟩ := u
      obtain ⟨hk2, hs2⟩ := read_ok hrv
      obtain ⟨m1, m2, m3⟩ := read_range HS.out hrv
      have hR := read_any s HS.out wc HGC.out
      rw [hrv] at hR
      have HR := Lib.hid hR
      have HM := Lib.hid (And.intro m1 (And.intro m2 m3))
      have HK := Lib.hid (And.intro hk2 hs2)
      clear hR hrv HE HZ hEE f0 f1 f2 z3 b3 HG3 hk2 hs2 m1 m2 m3
      go_wp2_with fail
      refine HR.out.mono ?_
      rintro e w4 ⟨rfl, hb4⟩
      have ha4 : Below w4.heap.size w4 (w4.alloc (.cells #[.int .i8 k2, .int .i64 n2, .string t2] 25)) := (Below.refl _ _).alloc (Nat.le_refl _) _
      have b4 := bc.trans (hb4.mono bc.size)
      have b5 := b4.trans (ha4.mono b4.size)
      have HG5 := Lib.hid ((HGC.out.below hb4).below ha4)
      have g0 : (w4.alloc (.cells #[.int .i8 k2, .int .i64 n2, .string t2] 25)).cell? ⟨w4.heap.size, 0, none⟩ = some (.int .i8 k2) := keptC (Below.refl _ _) 0 _ rfl
      have g1 : (w4.alloc (.cells #[.int .i8 k2, .int .i64 n2, .string t2] 25)).cell? ⟨w4.heap.size, 1, none⟩ = some (.int .i64 n2) := keptC (Below.refl _ _) 1 _ rfl
      have g2 : (w4.alloc (.cells #[.int .i8 k2, .int .i64 n2, .string t2] 25)).cell? ⟨w4.heap.size, 2, none⟩ = some (.string t2) := keptC (Below.refl _ _) 2 _ rfl
      have z5 : w4.heap.size < (w4.alloc (.cells #[.int .i8 k2, .int .i64 n2, .string t2] 25)).heap.size := by simp
      have Z5 := Lib.hid z5
      clear HR b4 hb4 ha4 bc HGC z5
      unfold rdV
      go_upto_region 18 with fail
      generalize w4.alloc (.cells #[.int .i8 k2, .int .i64 n2, .string t2] 25) = W5 at b5 g0 g1 g2 HG5 Z5 ⊢
      go_wp2_with fail
      refine (vshow_any k2 n2 t2 _ HG5.out.pw HM.out.1 HM.out.2.1 HM.out.2.2).mono ?_
      rintro e w6 ⟨rfl, hb6⟩
      have j0 : w6.cell? ⟨w4.heap.size, 0, none⟩ = some (.int .i8 k2) := by rw [hb6.cell (by exact Z5.out)]; exact g0
      have j1 : w6.cell? ⟨w4.heap.size, 1, none⟩ = some (.int .i64 n2) := by rw [hb6.cell (by exact Z5.out)]; exact g1
      have j2 : w6.cell? ⟨w4.heap.size, 2, none⟩ = some (.string t2) := by rw [hb6.cell (by exact Z5.out)]; exact g2
      have b6 := b5.trans (hb6.mono b5.size)
      clear b5 hb6 HG5 Z5 g0 g1 g2
      rw [showV_ok HK.out.1]
      have hq := arr_bytes (l := showB ⟨k2, n2, t2⟩) (s := s)
      rw [decide_eq_true HK.out.2] at hq
      generalize (⟨(showB ⟨k2, n2, t2⟩).toArray⟩ : ByteArray) = T2 at hq ⊢
      have hz := HK.out.1
      go_wp2_with (go_at_call 10; refine (vcheck_any k2 n2 t2 _ HM.out.1).mono ?_; rintro e w7 ⟨rfl, hb7⟩)
      go_ret
      exact ⟨rfl, b6.trans (hb7.mono b6.size)⟩
end Go.Proofs.YtjemaijokgcjnaaDoor
