import Derived.Test.YtjemaijokgcjnaaDoorVrUnq
namespace Go.Proofs.YtjemaijokgcjnaaDoor
open Go.RowKit Go.Maps
set_option linter.unusedVariables false
set_option linter.unusedSimpArgs false
attribute [local go_sem ↓] Go.wp_at_zero Go.wp_at_succ

def Hit (s : ByteArray) (v : V) : Prop := chk v.k v.n v.s = 0 ∧ showB v = s.data.toList
theorem hit_read {s : ByteArray} {v : V} (h : Hit s v) (h0 : -9223372036854775808 ≤ v.n) (h1 : v.n ≤ 9223372036854775807) : readV s = some v := read_back (k := v.k) (n := v.n) (t := v.s) h.1 h0 h1 h.2
/-- of the three that the reference tries one is the one, if there is one -/
theorem no_hit {s r : ByteArray} (hr : UqR s r) (a : ¬ Hit s ⟨1, numN s.data.toList, noS⟩) (b : ¬ Hit s ⟨2, 0, s⟩) (c : ¬ Hit s ⟨2, 0, r⟩) (hs : s.size ≤ 140737488355328) : readV s = none := by
  cases h : readV s with
  | none => rfl
  | some u =>
    exfalso
    have hh := read_ok h
    obtain ⟨_, m0, m1⟩ := read_range hs h
    obtain ⟨k, n, t⟩ := u
    simp only at hh m0 m1
    have hu : Hit s ⟨k, n, t⟩ := hh
    obtain ⟨hc, hb⟩ := hh
    by_cases hk : k = 1
    · subst hk
      have ht : t = noS := by
        unfold chk at hc
        split at hc
        · rename_i x
          rcases x with ⟨_, e⟩ | ⟨e, _⟩
          · exact PU.noS_of e
          · cases e
        · cases hc
      subst ht
      have e : showB ⟨1, n, noS⟩ = Lib.itoa n := by unfold showB; rw [if_pos rfl]
      have hn : numN s.data.toList = n := by rw [← hb, e, num_itoa m0 m1]
      exact a (by rw [hn]; exact hu)
    · obtain ⟨rfl, rfl, _⟩ := chk_two hc hk
      cases hnm : nameB t with
      | true =>
        have e : showB ⟨2, 0, t⟩ = t.data.toList := by unfold showB; rw [if_neg (by simp), if_pos hnm]
        rw [e] at hb
        obtain rfl : t = s := PU.bytes_inj hb
        exact b hu
      | false =>
        have e : showB ⟨2, 0, t⟩ = 34 :: (t.data.toList.flatMap pieceQ ++ [34]) := by
          unfold showB; rw [if_neg (by simp), if_neg (by simp [hnm])]; unfold quoteQ; simp
        rw [e] at hb
        have := hr.2 t.data.toList hb.symm
        obtain rfl : r = t := PU.bytes_inj this
        exact c hu
/-- the three that are tried, in their block -/
def Cand (w : World) (B : Nat) (n : Int) (s r : ByteArray) : Prop := B < w.heap.size ∧ ∀ (j : Nat) (v : Value), ([.int .i8 1, .int .i64 n, .string ⟨#[]⟩, .int .i8 2, .int .i64 0, .string s, .int .i8 2, .int .i64 0, .string r] : List Value)[j]? = some v → w.cell? ⟨B, j, none⟩ = some v
theorem Cand.below {w w' : World} {B : Nat} {n : Int} {s r : ByteArray} (h : Cand w B n s r) (hb : Below w.heap.size w w') : Cand w' B n s r :=
  ⟨Nat.lt_of_lt_of_le h.1 hb.size, fun j v e => by rw [hb.cell (p := ⟨B, j, none⟩) h.1]; exact h.2 j v e⟩
theorem cand_new (w : World) (n : Int) (s r : ByteArray) (T : TypeId) : Cand (w.alloc (.cells #[.int .i8 1, .int .i64 n, .string ⟨#[]⟩, .int .i8 2, .int .i64 0, .string s, .int .i8 2, .int .i64 0, .string r] T)) w.heap.size n s r :=
  ⟨by simp, fun j v e => keptC (Below.refl _ _) j v (by rw [← Array.getElem?_toList]; exact e)⟩
/-- which of the three -/
def candV (n : Int) (s r : ByteArray) : Nat → V
  | 0 => ⟨1, n, noS⟩
  | 1 => ⟨2, 0, s⟩
  | _ => ⟨2, 0, r⟩
set_option maxHeartbeats 6400000 in
set_option maxRecDepth 100000 in
theorem rread_any (s : ByteArray) (hs : s.size ≤ 140737488355328) (w : World) : Calls Tryd.prog 5 #[.string s] w fun e w' => e = .returned (rdV (readV s)) ∧ Below w.heap.size w w' := by
  have b0 := (Below.refl w.heap.size w).alloc (Nat.le_refl _) (.cells #[.int .i8 0, .int .i64 0, .string ⟨#[]⟩] 25)
  have HO0 : Hid (Own3 (w.alloc (.cells #[.int .i8 0, .int .i64 0, .string ⟨#[]⟩] 25)) w.heap.size) := own3 (Below.refl _ _)
  obtain ⟨R, HR⟩ : ∃ R, Hid (rdV (readV s) = R) := ⟨_, rfl⟩
  rw [HR.out]
  have hm : s.size ≤ maxLen := by unfold maxLen; omega
  have HS := Lib.hid hs
  have hnr := numN_in s.data.toList
  have HNU := fun W => Lib.hid (rnumber_any s W hm)
  obtain ⟨N, HN⟩ : ∃ N, Hid (numN s.data.toList = N) := ⟨_, rfl⟩
  rw [HN.out] at hnr HNU
  have HNR := Lib.hid hnr
  clear hs hnr
  go_enter Tryd.func5, Tryd.ntmps5
  go_upto_region 1 with fail
  generalize w.alloc (.cells #[.int .i8 0, .int .i64 0, .string ⟨#[]⟩] 25) = W at b0 HO0 ⊢
  go_wp2_with fail
  refine (HNU _).out.mono ?_
  rintro e w1 ⟨rfl, rfl⟩
  go_wp2_with fail
  refine (unquoted_any s HS.out _).mono ?_
  rintro e w2 ⟨r, rfl, hb2, HQ⟩
  have ha : Below w2.heap.size w2 (w2.alloc (.cells #[.int .i8 1, .int .i64 N, .string ⟨#[]⟩, .int .i8 2, .int .i64 0, .string s, .int .i8 2, .int .i64 0, .string r] 25)) := (Below.refl _ _).alloc (Nat.le_refl _) _
  have HO2 := Lib.hid ((HO0.out.below hb2).below ha)
  have b2 := b0.trans (hb2.mono b0.size)
  have b3 := b2.trans (ha.mono b2.size)
  have HC := Lib.hid (cand_new w2 N s r 25)
  clear HO0 b0 hb2 b2 ha HNU
  go_upto_region 2 with fail
  generalize w2.alloc (.cells #[.int .i8 1, .int .i64 N, .string ⟨#[]⟩, .int .i8 2, .int .i64 0, .string s, .int .i8 2, .int .i64 0, .string r] 25) = W3 at HO2 b3 HC ⊢
  generalize w2.heap.size = B at HC ⊢
  go_wp2
  go_loopw [5, 6, 7] (fun i t e wr => ∃ k : Nat, k ≤ 3 ∧ i = .int .i64 k ∧ Hid (Below w.heap.size w wr ∧ Own3 wr w.heap.size ∧ Cand wr B N s r ∧ ∀ j, j < k → ¬ Hit s (candV N s r j))) (fun i _ _ _ => 3 - (intOf i).toNat)
  case atStart => exact ⟨0, by omega, rfl, b3, HO2.out, HC.out, fun j hj => absurd hj (by omega)⟩
  case round =>
    obtain ⟨k, hk, rfl, HI⟩ := hrel
    clear b3 HO2 HC
    have hsr := HQ.out.1
    have hmr : r.size ≤ maxLen := by unfold maxLen; omega
    have HMR := Lib.hid hmr
    have HM := Lib.hid hm
    clear hsr hmr hm
    obtain rfl | rfl | rfl | rfl : k = 0 ∨ k = 1 ∨ k = 2 ∨ k = 3 := by omega
    · obtain ⟨bel, hO, hC, hno⟩ := HI.out
      have c0 := hC.2 0 _ rfl
      have c1 := hC.2 1 _ rfl
      have c2 := hC.2 2 _ rfl
      clear hk
      go_wp2_with fail
      refine (rshow_any 1 N ⟨#[]⟩ _ (by decide) HNR.out.1 HNR.out.2).mono ?_
      rintro e w4 ⟨rfl, hb4⟩
      have HO4 := Lib.hid (hO.below hb4)
      have HC4 := Lib.hid (hC.below hb4)
      have b4 := bel.trans (hb4.mono bel.size)
      have HNO := Lib.hid hno
      have d0 := HC4.out.2 0 _ rfl
      have d1 := HC4.out.2 1 _ rfl
      have d2 := HC4.out.2 2 _ rfl
      clear HI bel hO hC hno c0 c1 c2 hb4
      obtain ⟨⟨y0, y1, y2, e0, e1, e2⟩, f0, f1, f2, hl⟩ := HO4.out
      by_cases hh : Hit s ⟨1, N, ⟨#[]⟩⟩
      · rw [showV_ok hh.1]
        have hq := arr_bytes (l := showB ⟨1, N, ⟨#[]⟩⟩) (s := s)
        rw [decide_eq_true hh.2] at hq
        generalize (⟨(showB ⟨1, N, ⟨#[]⟩⟩).toArray⟩ : ByteArray) = T1 at hq ⊢
        have HV : Hid (R = .tuple #[.agg #[.int .i8 1, .int .i64 N, .string ⟨#[]⟩], .int .i64 0]) := by show _ = _; rw [← HR.out, hit_read hh HNR.out.1 HNR.out.2]; rfl
        clear hh
        go_wp2
        refine val_done Tryd.results5 (ok := .int .i64 0) HO4.out (Nat.le_refl _) b4 ?_ ?_ HV.out <;> rfl
      · have HF : Hid (Below w.heap.size w w4 ∧ Own3 w4 w.heap.size ∧ Cand w4 B N s r ∧ ∀ j, j < 0 + 1 → ¬ Hit s (candV N s r j)) := ⟨b4, HO4.out, HC4.out, fun j hj => by
          rcases Nat.lt_or_ge j 0 with h | h
          · exact HNO.out j h
          · obtain rfl : j = 0 := by omega
            exact hh⟩
        by_cases hc : chk 1 N ⟨#[]⟩ = 0
        · rw [showV_ok hc]
          have hq := arr_bytes (l := showB ⟨1, N, ⟨#[]⟩⟩) (s := s)
          rw [decide_eq_false (fun e => hh ⟨hc, e⟩)] at hq
          generalize (⟨(showB ⟨1, N, ⟨#[]⟩⟩).toArray⟩ : ByteArray) = T1 at hq ⊢
          clear hc hh
          go_wp2
          go_roundw
          case rel => exact ⟨0 + 1, by omega, by first | rfl | go_num, HF⟩
          case measure => simp [intOf] <;> omega
        · have hsv : showV 1 N ⟨#[]⟩ = .tuple #[.string ⟨#[]⟩, .int .i64 10] := by unfold showV; rw [if_neg hc]
          rw [hsv]
          clear hc hh hsv
          go_wp2
          go_roundw
          case rel => exact ⟨0 + 1, by omega, by first | rfl | go_num, HF⟩
          case measure => simp [intOf] <;> omega
    · obtain ⟨bel, hO, hC, hno⟩ := HI.out
      have c0 := hC.2 3 _ rfl
      have c1 := hC.2 4 _ rfl
      have c2 := hC.2 5 _ rfl
      clear hk
      go_wp2_with fail
      refine (rshow_any 2 0 s _ HM.out (by decide) (by decide)).mono ?_
      rintro e w4 ⟨rfl, hb4⟩
      have HO4 := Lib.hid (hO.below hb4)
      have HC4 := Lib.hid (hC.below hb4)
      have b4 := bel.trans (hb4.mono bel.size)
      have HNO := Lib.hid hno
      have d0 := HC4.out.2 3 _ rfl
      have d1 := HC4.out.2 4 _ rfl
      have d2 := HC4.out.2 5 _ rfl
      clear HI bel hO hC hno c0 c1 c2 hb4
      obtain ⟨⟨y0, y1, y2, e0, e1, e2⟩, f0, f1, f2, hl⟩ := HO4.out
      by_cases hh : Hit s ⟨2, 0, s⟩
      · rw [showV_ok hh.1]
        have hq := arr_bytes (l := showB ⟨2, 0, s⟩) (s := s)
        rw [decide_eq_true hh.2] at hq
        generalize (⟨(showB ⟨2, 0, s⟩).toArray⟩ : ByteArray) = T1 at hq ⊢
        have HV : Hid (R = .tuple #[.agg #[.int .i8 2, .int .i64 0, .string s], .int .i64 0]) := by show _ = _; rw [← HR.out, hit_read hh (show (-9223372036854775808 : Int) ≤ 0 by decide) (show (0 : Int) ≤ 9223372036854775807 by decide)]; rfl
        clear hh
        go_wp2
        refine val_done Tryd.results5 (ok := .int .i64 0) HO4.out (Nat.le_refl _) b4 ?_ ?_ HV.out <;> rfl
      · have HF : Hid (Below w.heap.size w w4 ∧ Own3 w4 w.heap.size ∧ Cand w4 B N s r ∧ ∀ j, j < 1 + 1 → ¬ Hit s (candV N s r j)) := ⟨b4, HO4.out, HC4.out, fun j hj => by
          rcases Nat.lt_or_ge j 1 with h | h
          · exact HNO.out j h
          · obtain rfl : j = 1 := by omega
            exact hh⟩
        by_cases hc : chk 2 0 s = 0
        · rw [showV_ok hc]
          have hq := arr_bytes (l := showB ⟨2, 0, s⟩) (s := s)
          rw [decide_eq_false (fun e => hh ⟨hc, e⟩)] at hq
          generalize (⟨(showB ⟨2, 0, s⟩).toArray⟩ : ByteArray) = T1 at hq ⊢
          clear hc hh
          go_wp2
          go_roundw
          case rel => exact ⟨1 + 1, by omega, by first | rfl | go_num, HF⟩
          case measure => simp [intOf] <;> omega
        · have hsv : showV 2 0 s = .tuple #[.string ⟨#[]⟩, .int .i64 10] := by unfold showV; rw [if_neg hc]
          rw [hsv]
          clear hc hh hsv
          go_wp2
          go_roundw
          case rel => exact ⟨1 + 1, by omega, by first | rfl | go_num, HF⟩
          case measure => simp [intOf] <;> omega
    · obtain ⟨bel, hO, hC, hno⟩ := HI.out
      have c0 := hC.2 6 _ rfl
      have c1 := hC.2 7 _ rfl
      have c2 := hC.2 8 _ rfl
      clear hk
      go_wp2_with fail
      refine (rshow_any 2 0 r _ HMR.out (by decide) (by decide)).mono ?_
      rintro e w4 ⟨rfl, hb4⟩
      have HO4 := Lib.hid (hO.below hb4)
      have HC4 := Lib.hid (hC.below hb4)
      have b4 := bel.trans (hb4.mono bel.size)
      have HNO := Lib.hid hno
      have d0 := HC4.out.2 6 _ rfl
      have d1 := HC4.out.2 7 _ rfl
      have d2 := HC4.out.2 8 _ rfl
      clear HI bel hO hC hno c0 c1 c2 hb4
      obtain ⟨⟨y0, y1, y2, e0, e1, e2⟩, f0, f1, f2, hl⟩ := HO4.out
      by_cases hh : Hit s ⟨2, 0, r⟩
      · rw [showV_ok hh.1]
        have hq := arr_bytes (l := showB ⟨2, 0, r⟩) (s := s)
        rw [decide_eq_true hh.2] at hq
        generalize (⟨(showB ⟨2, 0, r⟩).toArray⟩ : ByteArray) = T1 at hq ⊢
        have HV : Hid (R = .tuple #[.agg #[.int .i8 2, .int .i64 0, .string r], .int .i64 0]) := by show _ = _; rw [← HR.out, hit_read hh (show (-9223372036854775808 : Int) ≤ 0 by decide) (show (0 : Int) ≤ 9223372036854775807 by decide)]; rfl
        clear hh
        go_wp2
        refine val_done Tryd.results5 (ok := .int .i64 0) HO4.out (Nat.le_refl _) b4 ?_ ?_ HV.out <;> rfl
      · have HF : Hid (Below w.heap.size w w4 ∧ Own3 w4 w.heap.size ∧ Cand w4 B N s r ∧ ∀ j, j < 2 + 1 → ¬ Hit s (candV N s r j)) := ⟨b4, HO4.out, HC4.out, fun j hj => by
          rcases Nat.lt_or_ge j 2 with h | h
          · exact HNO.out j h
          · obtain rfl : j = 2 := by omega
            exact hh⟩
        by_cases hc : chk 2 0 r = 0
        · rw [showV_ok hc]
          have hq := arr_bytes (l := showB ⟨2, 0, r⟩) (s := s)
          rw [decide_eq_false (fun e => hh ⟨hc, e⟩)] at hq
          generalize (⟨(showB ⟨2, 0, r⟩).toArray⟩ : ByteArray) = T1 at hq ⊢
          clear hc hh
          go_wp2
          go_roundw
          case rel => exact ⟨2 + 1, by omega, by first | rfl | go_num, HF⟩
          case measure => simp [intOf] <;> omega
        · have hsv : showV 2 0 r = .tuple #[.string ⟨#[]⟩, .int .i64 10] := by unfold showV; rw [if_neg hc]
          rw [hsv]
          clear hc hh hsv
          go_wp2
          go_roundw
          case rel => exact ⟨2 + 1, by omega, by first | rfl | go_num, HF⟩
          case measure => simp [intOf] <;> omega
    · obtain ⟨bel, hO, hC, hno⟩ := HI.out
      have HV : Hid (R = .tuple #[.agg #[.int .i8 0, .int .i64 0, .string ⟨#[]⟩], .int .i64 10]) := by
        show _ = _
        rw [← HR.out, no_hit HQ.out (by rw [HN.out]; exact hno 0 (by omega)) (hno 1 (by omega)) (hno 2 (by omega)) HS.out]
        rfl
      have HO4 := Lib.hid hO
      clear HI hC hno hO
      obtain ⟨⟨y0, y1, y2, e0, e1, e2⟩, f0, f1, f2, hl⟩ := HO4.out
      go_wp2
      refine val_done Tryd.results5 (ok := .int .i64 10) HO4.out (Nat.le_refl _) bel ?_ ?_ HV.out <;> rfl
end Go.Proofs.YtjemaijokgcjnaaDoor
