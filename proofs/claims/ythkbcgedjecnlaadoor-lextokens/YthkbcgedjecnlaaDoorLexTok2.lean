import Derived.Test.YthkbcgedjecnlaaDoorLexTok
import Derived.Lib.AtoiErrMem
namespace Go.Proofs.YthkbcgedjecnlaaDoor
open Go.RowKit
set_option linter.unusedVariables false
set_option linter.unusedSimpArgs false
attribute [local go_sem ↓] Go.wp_at_zero Go.wp_at_succ

theorem sgs_at {k : Nat} (h : k < 18) : sgs[k]? = some (sgAt k) := by
  have e : ∀ k : Fin 18, sgs[k.val]? = some (sgAt k.val) := by decide
  exact e ⟨k, h⟩
theorem signT_some {l : List UInt8} {k : Nat} (hk : k < 18) (hn : ∀ j, j < k → Lib.hasPrefix l (sgAt j) = false) (h : Lib.hasPrefix l (sgAt k) = true) :
    signT l = .tok ⟨7, sgAt k, 0, 0⟩ (sgAt k).length := by
  have hf : sgs.find? (fun w => Lib.hasPrefix l w) = some (sgAt k) := by
    rw [List.find?_eq_some_iff_getElem]
    refine ⟨h, k, hk, ?_, fun j hj => ?_⟩
    · have := sgs_at hk
      rw [List.getElem?_eq_getElem (by exact hk)] at this
      exact Option.some.inj this
    · have := sgs_at (k := j) (by omega)
      rw [List.getElem?_eq_getElem (by have : sgs.length = 18 := rfl; omega)] at this
      rw [Option.some.inj this, hn j hj]; rfl
  unfold signT
  rw [hf]
theorem signT_none {l : List UInt8} (hn : ∀ j, j < 18 → Lib.hasPrefix l (sgAt j) = false) : signT l = .bad 31 := by
  have hf : sgs.find? (fun w => Lib.hasPrefix l w) = none := by
    rw [List.find?_eq_none]
    intro x hx
    obtain ⟨j, hj, rfl⟩ := List.mem_iff_getElem.mp hx
    have := sgs_at (k := j) (by exact hj)
    rw [List.getElem?_eq_getElem (by exact hj)] at this
    rw [Option.some.inj this, hn j (by exact hj)]; simp
  unfold signT
  rw [hf]
theorem sgAt_len (k : Nat) : (sgAt k).length ≤ 2 := by
  by_cases h : k < 18
  · have e : ∀ k : Fin 18, (sgAt k.val).length ≤ 2 := by decide
    exact e ⟨k, h⟩
  · unfold sgAt
    rw [List.getD_eq_getElem?_getD, List.getElem?_eq_none (by have : sgs.length = 18 := rfl; omega)]
    simp
theorem size_mk (l : List UInt8) : (⟨l.toArray⟩ : ByteArray).size = l.length := by simp [ByteArray.size]

set_option maxHeartbeats 1600000 in
set_option maxRecDepth 100000 in
theorem sign_any (s : ByteArray) (w : World) (hg : Gl w) (hs : s.size ≤ maxLen) : Calls Tryd.prog 28 #[.string s] w fun e w' => e = .returned (fstV (signT s.data.toList)) ∧ Below w.heap.size w w' := by
  have HL := load_sg (hg.alloc (.cells #[.int .i8 0, .string ⟨#[]⟩, .int .i64 0, .int .i64 0] 37)).sg
  clear hg
  obtain ⟨v, HVV⟩ : ∃ v, Hid (fstV (signT s.data.toList) = v) := ⟨_, rfl⟩
  rw [HVV.out]
  go_enter Tryd.func28, Tryd.ntmps28
  go_wp2_with (first
    | (refine wpList_loadEq _ rfl (.global 1) 74 rfl _ _ rfl HL ?_)
    | fail)
  clear HL
  go_loop [8] (fun i => ∃ k : Nat, k ≤ 18 ∧ i = .int .i64 k ∧ Hid (∀ j, j < k → Lib.hasPrefix s.data.toList (sgAt j) = false)) (fun i => 18 - (intOf i).toNat)
  case atStart => exact ⟨0, Nat.zero_le _, rfl, fun j hj => by omega⟩
  case round =>
    obtain ⟨k, hk, rfl, HN⟩ := hrel
    by_cases hlt : k < 18
    · have hlt' : (k : Int) < 18 := by omega
      have hix := run_index_row (w.alloc (.cells #[.int .i8 0, .string ⟨#[]⟩, .int .i64 0, .int .i64 0] 37)) 74 9 18 sgRow.toArray k _ Tryd.underlying74 (Tryd.sizeOf9 _) Tryd.isAgg9 hlt (sgRow_at hlt)
      have hz : ((⟨(sgAt k).toArray⟩ : ByteArray).size : Int) = (sgAt k).length := by rw [size_mk]
      have hzl := sgAt_len k
      cases he : Lib.hasPrefix s.data.toList (sgAt k)
      · have HS : Hid (∀ j, j < k + 1 → Lib.hasPrefix s.data.toList (sgAt j) = false) := fun j hj => by
          by_cases e : j = k
          · subst e; exact he
          · exact HN.out j (by omega)
        have he' : Lib.hasPrefix s.data.toList (⟨(sgAt k).toArray⟩ : ByteArray).data.toList = false := by simpa using he
        clear HN he hz hzl
        generalize sgRow.toArray = R at *
        generalize (⟨(sgAt k).toArray⟩ : ByteArray) = x at *
        go_wp2_with (go_at_call 43; refine (Tryd.strings_HasPrefix _ _ _).mono ?_; rw [he']; rintro e w' ⟨rfl, rfl⟩)
        go_round
        case rel => exact ⟨k + 1, by omega, by go_num, HS⟩
        case measure => simp [intOf]; omega
      · have HS : Hid (signT s.data.toList = .tok ⟨7, sgAt k, 0, 0⟩ (sgAt k).length) := signT_some hlt HN.out he
        have he' : Lib.hasPrefix s.data.toList (⟨(sgAt k).toArray⟩ : ByteArray).data.toList = true := by simpa using he
        clear HN he
        have HV : Hid (v = .tuple #[.agg #[.int .i8 7, .string ⟨(sgAt k).toArray⟩, .int .i64 0, .int .i64 0], .int .i64 (sgAt k).length, .int .i64 0]) := by show _ = _; rw [← HVV.out, HS.out]; rfl
        clear HS
        generalize sgRow.toArray = R at *
        generalize (sgAt k).length = n at *
        generalize (⟨(sgAt k).toArray⟩ : ByteArray) = x at *
        go_wp2_with (go_at_call 43; refine (Tryd.strings_HasPrefix _ _ _).mono ?_; rw [he']; rintro e w' ⟨rfl, rfl⟩)
        refine tok_done_new Tryd.results28 ?_ ?_ ?_ HV.out <;> rfl
    · have HV : Hid (v = .tuple #[.agg #[.int .i8 0, .string ⟨#[]⟩, .int .i64 0, .int .i64 0], .int .i64 0, .int .i64 31]) := by
        show _ = _; rw [← HVV.out, signT_none fun j hj => HN.out j (by omega)]; rfl
      have hlt' : ¬ (k : Int) < 18 := by omega
      clear HN
      go_wp2
      refine tok_done_new Tryd.results28 ?_ ?_ ?_ HV.out <;> rfl

theorem ext_take (s : ByteArray) (k : Nat) : (s.extract 0 k).data.toList = s.data.toList.take k := by
  rw [Lib.extract_data]; simp
theorem ext_size (s : ByteArray) {k : Nat} (h : k ≤ s.size) : (s.extract 0 k).size = k := by
  rw [← len_toList, ext_take, List.length_take, len_toList]; omega
theorem mk_toList (s : ByteArray) : (⟨s.data.toList.toArray⟩ : ByteArray) = s := by cases s; simp

set_option maxHeartbeats 3200000 in
theorem word_any (s : ByteArray) (w : World) (hg : Gl w) (hs : s.size ≤ maxLen) : Calls Tryd.prog 23 #[.string s] w fun e w' => e = .returned (fstV (wordT (s.data.toList.take (runLen s.data.toList)))) ∧ Below w.heap.size w w' := by
  have HM : Hid (s.size ≤ maxLen) := hs
  have hrl := runLen_le s.data.toList
  rw [len_toList] at hrl
  unfold maxLen at hs
  obtain ⟨r, hr⟩ : ∃ r, runLen s.data.toList = r := ⟨_, rfl⟩
  rw [hr] at hrl
  have hsz := ext_size s hrl
  rw [hr, ← ext_take]
  obtain ⟨x, hx⟩ : ∃ x, s.extract 0 r = x := ⟨_, rfl⟩
  rw [hx] at hsz
  rw [hx]
  obtain ⟨v, HVV⟩ : ∃ v, Hid (fstV (wordT x.data.toList) = v) := ⟨_, rfl⟩
  rw [HVV.out]
  go_enter Tryd.func23, Tryd.ntmps23
  go_wp2_with fail
  refine (runLength_any _ _ HM.out).mono ?_
  rw [hr]
  rintro e w1 ⟨rfl, hb1⟩
  have HG : Hid _ := (hg.alloc _).below hb1
  have HO : Hid _ := own4 hb1
  have hb := ((Below.refl w.heap.size w).alloc (Nat.le_refl _) _).trans (hb1.mono (by simp))
  clear hb1 hg hr
  have hr1 : (r : Int) ≤ (s.size : Int) := by omega
  by_cases h1 : 120 < r
  · have h1' : (120 : Int) < (r : Int) := by omega
    have HV : Hid (v = .tuple #[noTk, .int .i64 0, .int .i64 30]) := by
      show _ = _; rw [← HVV.out]; unfold wordT; rw [len_toList, hsz, if_pos h1]; rfl
    obtain ⟨⟨y0, y1, y2, y3, c0, c1, c2, c3⟩, f0, f1, f2, f3, hl⟩ := HO.out
    go_wp2
    refine tok_done Tryd.results23 HO.out (Nat.le_refl _) hb ?_ ?_ ?_ HV.out <;> rfl
  · have h1' : ¬ (120 : Int) < (r : Int) := by omega
    have HX : Hid (x.size ≤ maxLen) := by show _ ≤ _; unfold maxLen; omega
    cases hk : kwU x.data.toList
    · cases hn : nameU x.data.toList
      · have HV : Hid (v = .tuple #[.agg #[.int .i8 2, .string x, .int .i64 0, .int .i64 0], .int .i64 r, .int .i64 0]) := by
          show _ = _; rw [← HVV.out]; unfold wordT; rw [len_toList, hsz, if_neg h1, hk, hn]; simp [fstV, tkV, mk_toList, hsz]
        go_wp2_with (first
          | (go_at_call 13; refine (Keyword_any _ _ HG.out).mono ?_; rw [hk]; rintro e w' ⟨rfl, rfl⟩)
          | (go_at_call 40; refine (Name_any _ _ HG.out HX.out).mono ?_; rw [hn]; rintro e w2 ⟨rfl, hb2⟩; have HO2 : Hid _ := Own4.below HO.out hb2; have hbf := hb.trans (hb2.mono hb.size); obtain ⟨⟨y0, y1, y2, y3, c0, c1, c2, c3⟩, f0, f1, f2, f3, hl⟩ := HO2.out; clear hb2 hb HO))
        refine tok_done Tryd.results23 HO2.out (Nat.le_refl _) hbf ?_ ?_ ?_ HV.out <;> rfl
      · have HV : Hid (v = .tuple #[.agg #[.int .i8 1, .string x, .int .i64 0, .int .i64 0], .int .i64 r, .int .i64 0]) := by
          show _ = _; rw [← HVV.out]; unfold wordT; rw [len_toList, hsz, if_neg h1, hk, hn]; simp [fstV, tkV, mk_toList, hsz]
        go_wp2_with (first
          | (go_at_call 13; refine (Keyword_any _ _ HG.out).mono ?_; rw [hk]; rintro e w' ⟨rfl, rfl⟩)
          | (go_at_call 40; refine (Name_any _ _ HG.out HX.out).mono ?_; rw [hn]; rintro e w2 ⟨rfl, hb2⟩; have HO2 : Hid _ := Own4.below HO.out hb2; have hbf := hb.trans (hb2.mono hb.size); obtain ⟨⟨y0, y1, y2, y3, c0, c1, c2, c3⟩, f0, f1, f2, f3, hl⟩ := HO2.out; clear hb2 hb HO))
        refine tok_done Tryd.results23 HO2.out (Nat.le_refl _) hbf ?_ ?_ ?_ HV.out <;> rfl
    · have HV : Hid (v = .tuple #[.agg #[.int .i8 6, .string x, .int .i64 0, .int .i64 0], .int .i64 r, .int .i64 0]) := by
        show _ = _; rw [← HVV.out]; unfold wordT; rw [len_toList, hsz, if_neg h1, hk]; simp [fstV, tkV, mk_toList, hsz]
      obtain ⟨⟨y0, y1, y2, y3, c0, c1, c2, c3⟩, f0, f1, f2, f3, hl⟩ := HO.out
      go_wp2_with (go_at_call 13; refine (Keyword_any _ _ HG.out).mono ?_; rw [hk]; rintro e w' ⟨rfl, rfl⟩)
      refine tok_done Tryd.results23 HO.out (Nat.le_refl _) hb ?_ ?_ ?_ HV.out <;> rfl
end Go.Proofs.YthkbcgedjecnlaaDoor
