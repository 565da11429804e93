import Derived.Test.YtpnmepabecbgcaaDoorLexFmt
import Derived.Test.YtpnmepabecbgcaaDoorLexSignR
import Derived.Test.YtpnmepabecbgcaaDoorLexQuotedR
namespace Go.Proofs.YtpnmepabecbgcaaDoor
open Go.RowKit Go.Maps
set_option linter.unusedVariables false
set_option linter.unusedSimpArgs false

theorem letter_run (c : UInt8) : VS.letterB (c.toNat : Int) = runU c := by
  unfold VS.letterB VS.smallB VS.capitalB VS.digitB runU letU smallU capU digU
  rw [Bool.eq_iff_iff]
  simp
  omega
theorem letters_iff (s : ByteArray) : ∀ n, n ≤ s.size → (VS.lettersB s n = true ↔ ∀ x ∈ s.data.toList.take n, runU x = true)
  | 0, _ => by simp [VS.lettersB]
  | n + 1, hn => by
    have hlt : n < s.size := by omega
    simp only [VS.lettersB, Bool.and_eq_true]
    rw [letters_iff s n (by omega), VS.byteAt_eq hlt, letter_run, VS.take_more s hlt]
    simp only [List.mem_append, List.mem_singleton]
    constructor
    · rintro ⟨h1, h2⟩ x (hx | rfl)
      · exact h1 x hx
      · exact h2
    · intro h
      exact ⟨fun x hx => h x (.inl hx), h _ (.inr rfl)⟩
theorem run_le : ∀ l : List UInt8, runLen l ≤ l.length
  | [] => Nat.le_refl _
  | c :: r => by
    have := run_le r
    rw [runLen]
    split
    · simpa using this
    · exact Nat.zero_le _
theorem run_iff : ∀ l : List UInt8, runLen l = l.length ↔ ∀ x ∈ l, runU x = true
  | [] => by simp [runLen]
  | c :: r => by
    have ih := run_iff r
    by_cases hc : runU c = true
    · rw [runLen, if_pos hc, List.length_cons]
      simp only [List.mem_cons, forall_eq_or_imp, hc, true_and]
      rw [← ih]
      omega
    · rw [runLen, if_neg hc, List.length_cons]
      simp only [List.mem_cons, forall_eq_or_imp]
      constructor
      · intro h; omega
      · intro h; exact absurd h.1 hc
theorem head_at (p : UInt8 → Bool) : ∀ (l : List UInt8) (hp : 0 < l.length), headB p l = p (l[0]'hp)
  | [], hp => absurd hp (by simp)
  | a :: r, hp => rfl
theorem name_eq (s : ByteArray) : VS.nameB s = nameU s.data.toList := by
  by_cases h0 : s.size = 0
  · have e : s.data.toList = [] := nil_iff.2 h0
    unfold VS.nameB
    rw [e, h0]
    rfl
  · have hne : s.data.toList ≠ [] := fun e => h0 (nil_iff.1 e)
    have hl := len_toList s
    have h1 : VS.lettersB s s.size = decide (runLen s.data.toList = s.data.toList.length) := by
      rw [Bool.eq_iff_iff, decide_eq_true_iff, letters_iff s s.size (Nat.le_refl _), run_iff]
      rw [List.take_of_length_le (by omega)]
    have h2 : VS.smallB (VS.byteAt s 0) = headB smallU s.data.toList := by
      rw [VS.byteAt_eq (by omega : 0 < s.size)]
      have hp : 0 < s.data.toList.length := by omega
      have e : s[0]'(by omega) = s.data.toList[0]'hp := rfl
      have e2 := head_at smallU s.data.toList hp
      rw [e, e2]
      unfold VS.smallB smallU
      rw [decide_eq_decide]
      omega
    have h3 : VS.kwB s = kwU s.data.toList := by
      unfold VS.kwB kwU
      rw [ByteArray.toList_eq]
      rfl
    unfold VS.nameB nameU wordU
    rw [h1, h2, h3, hl]
    simp only [decide_eq_true hne, decide_eq_true h0, Bool.true_and]
    cases decide (s.size ≤ 120) <;> cases headB smallU s.data.toList <;> cases kwU s.data.toList <;> cases decide (runLen s.data.toList = s.size) <;> rfl
theorem run_piece {c : UInt8} (h : runU c = true) : VS.pieceQ c = [c] := by
  unfold runU letU smallU capU digU at h
  simp at h
  unfold VS.pieceQ
  rw [if_neg (by omega), if_neg (by omega), if_pos (by omega)]
theorem flat_run : ∀ l : List UInt8, (∀ x ∈ l, runU x = true) → l.flatMap VS.pieceQ = l
  | [], _ => rfl
  | c :: r, h => by
    rw [List.flatMap_cons, run_piece (h c (by simp)), flat_run r (fun x hx => h x (by simp [hx]))]
    rfl
theorem name_quote {s : ByteArray} (h : nameU s.data.toList = true) : VS.quoteQ s = ⟨((34 :: s.data.toList) ++ [34]).toArray⟩ := by
  unfold nameU wordU at h
  simp only [Bool.and_eq_true, decide_eq_true_eq] at h
  unfold VS.quoteQ
  rw [flat_run _ ((run_iff _).1 h.1.1.2)]
theorem app3 (s : ByteArray) : (⟨#[34]⟩ : ByteArray) ++ s ++ ⟨#[34]⟩ = ⟨((34 :: s.data.toList) ++ [34]).toArray⟩ := by
  refine str_eq ?_
  simp [ByteArray.data_append]
set_option maxHeartbeats 1600000 in
theorem quote_full (s : ByteArray) (hs : s.size ≤ 200) (w : World) (hg : Gl w) (ht : Lib.TabIs Tryd.prog w "internal/strconv.uint64pow10" .u64 Lib.pow10Tab) :
    Calls Tryd.prog 19 #[.string s] w fun e w' => e = .returned (.string (VS.quoteQ s)) ∧ Below w.heap.size w w' := by
  have hm : s.size ≤ maxLen := by unfold maxLen; omega
  have hsh := VS.vshow_any 2 0 s w ht hm (by omega) (by omega)
  have hv : VS.showV 2 0 s = .tuple #[.string (if nameU s.data.toList then s else VS.quoteQ s), .int .i64 0] := by
    unfold VS.showV
    rw [if_pos (chk_ok (.inr ⟨rfl, rfl, by omega⟩)).symm, if_neg (by decide), name_eq]
  rw [hv] at hsh
  have HSH : Hid (Calls Tryd.prog 32 #[.agg #[.int .i8 2, .int .i64 0, .string s]] w fun e w' => e = .returned (.tuple #[.string (if nameU s.data.toList then s else VS.quoteQ s), .int .i64 0]) ∧ Below w.heap.size w w') := hsh
  have HNM : Hid (∀ w, Gl w → Calls Tryd.prog 28 #[.string s] w fun e w' => e = .returned (.bool (nameU s.data.toList)) ∧ Below w.heap.size w w') := fun w hg => Name_any s w hg hm
  have HQ : Hid (nameU s.data.toList = true → (⟨#[34]⟩ : ByteArray) ++ s ++ ⟨#[34]⟩ = VS.quoteQ s) := fun h => by rw [app3, name_quote h]
  have HG : Hid (Gl w) := hg
  clear hsh hv ht hg
  obtain ⟨q, hq⟩ : ∃ q, q = VS.quoteQ s := ⟨_, rfl⟩
  rw [← hq] at HSH HQ ⊢
  clear hq
  cases hn : nameU s.data.toList
  · rw [hn] at HSH HNM
    go_enter Tryd.func19, Tryd.ntmps19
    go_wp2_with fail
    refine HSH.out.mono ?_
    rintro e w1 ⟨rfl, hb1⟩
    clear HSH
    go_wp2_with fail
    refine (HNM.out _ (HG.out.below hb1)).mono ?_
    rintro e w2 ⟨rfl, hb2⟩
    clear HNM
    go_wp2
    go_ret
    exact ⟨rfl, hb1.trans (hb2.mono hb1.size)⟩
  · rw [hn] at HSH HNM
    have hqq := HQ.out hn
    clear HQ
    go_enter Tryd.func19, Tryd.ntmps19
    go_wp2_with fail
    refine HSH.out.mono ?_
    rintro e w1 ⟨rfl, hb1⟩
    clear HSH
    go_wp2_with fail
    refine (HNM.out _ (HG.out.below hb1)).mono ?_
    rintro e w2 ⟨rfl, hb2⟩
    clear HNM
    go_wp2
    go_ret
    exact ⟨by rw [← hqq]; rfl, hb1.trans (hb2.mono hb1.size)⟩
def u64 (n : Int) : Nat := if n < 0 then (n + 18446744073709551616).toNat else n.toNat
theorem u64_lt {n : Int} (h0 : -9223372036854775808 ≤ n) (h1 : n ≤ 9223372036854775807) : u64 n < 18446744073709551616 := by
  unfold u64; split <;> omega
theorem u64_wrap {n : Int} (h0 : -9223372036854775808 ≤ n) (h1 : n ≤ 9223372036854775807) : IntKind.u64.wrap n = (u64 n : Int) := by
  unfold u64
  rw [IntKind.wrap_u64]
  split <;> omega
def fullT (t : Tk) : Option (List UInt8) := if mayT t then some (if t.k = 3 then [95] else if t.k = 4 then Lib.decDigits (u64 t.n) else if t.k = 5 then (VS.quoteQ ⟨t.s.toArray⟩).data.toList else t.s) else none
theorem may5 {s : List UInt8} {n a : Int} (h : mayT ⟨5, s, n, a⟩ = true) : s.length ≤ 200 := by
  unfold mayT at h
  simp at h
  exact h.2
set_option maxHeartbeats 3200000 in
theorem Text_full (k : Int) (s : ByteArray) (n a : Int) (hs : s.size ≤ maxLen) (h0 : -9223372036854775808 ≤ n) (h1 : n ≤ 9223372036854775807) (w : World) (hg : Gl w) (ht : Lib.TabIs Tryd.prog w "internal/strconv.uint64pow10" .u64 Lib.pow10Tab) :
    Calls Tryd.prog 10 #[.agg #[.int .i8 k, .string s, .int .i64 n, .int .i64 a]] w fun e w' => e = .returned (txV (fullT ⟨k, s.data.toList, n, a⟩)) ∧ Below w.heap.size w w' := by
  have HMB : Hid (∀ w, Gl w → Calls Tryd.prog 17 #[.agg #[.int .i8 k, .string s, .int .i64 n, .int .i64 a]] w fun e w' => e = .returned (.bool (mayT ⟨k, s.data.toList, n, a⟩)) ∧ Below w.heap.size w w') := fun w hg => mayBe_any k s n a w hg hs
  have HG : Hid (Gl w) := hg
  have HT : Hid (Lib.TabIs Tryd.prog w "internal/strconv.uint64pow10" .u64 Lib.pow10Tab) := ht
  obtain ⟨v, HV⟩ : ∃ v, Hid (txV (fullT ⟨k, s.data.toList, n, a⟩) = v) := ⟨_, rfl⟩
  rw [HV.out]
  clear hg ht
  have hal : ∀ o, Below w.heap.size w (w.alloc o) := fun o => (Below.refl _ _).alloc (Nat.le_refl _) _
  have HAL : Hid (∀ o, Below w.heap.size w (w.alloc o)) := hal
  clear hal
  go_enter Tryd.func10, Tryd.ntmps10
  go_wp2_with fail
  refine (HMB.out _ (HG.out.below (HAL.out _))).mono ?_
  rintro e w1 ⟨rfl, hb1⟩
  have c0 := kept_cell hb1 0 _ rfl
  have c1 := kept_cell hb1 1 _ rfl
  have c2 := kept_cell hb1 2 _ rfl
  have hbf := (HAL.out _).trans (hb1.mono (by simp))
  clear hb1 HMB
  cases hm : mayT ⟨k, s.data.toList, n, a⟩ with
  | false =>
    have HV2 : Hid (v = .tuple #[.string ⟨#[]⟩, .int .i64 1]) := by show _ = _; rw [← HV.out]; unfold fullT; rw [hm]; rfl
    clear hm
    go_wp2_with fail
    go_ret2
    exact ⟨by rw [HV2.out]; rfl, hbf⟩
  | true =>
    by_cases k3 : k = 3
    · subst k3
      have HV2 : Hid (v = .tuple #[.string ⟨#[95]⟩, .int .i64 0]) := by show _ = _; rw [← HV.out]; unfold fullT; rw [hm]; rfl
      clear hm
      go_wp2_with fail
      go_ret2
      exact ⟨by rw [HV2.out]; rfl, hbf⟩
    · by_cases k4 : k = 4
      · subst k4
        have HV2 : Hid (v = .tuple #[.string ⟨(Lib.decDigits (u64 n)).toArray⟩, .int .i64 0]) := by show _ = _; rw [← HV.out]; unfold fullT; rw [hm]; rfl
        have hw := u64_wrap h0 h1
        have HU : Hid (∀ w, Lib.TabIs Tryd.prog w "internal/strconv.uint64pow10" .u64 Lib.pow10Tab → Calls Tryd.prog 18 #[.int .u64 (u64 n), .int .i64 10] w fun e w' => e = .returned (.string ⟨(Lib.decDigits (u64 n)).toArray⟩) ∧ Below w.heap.size w w') := fun w h => fmtUint_any _ (u64_lt h0 h1) w h
        clear hm h0 h1 k3
        generalize u64 n = u at hw HU HV2
        go_wp2_with fail
        refine (HU.out _ (VS.tab_below HT.out hbf)).mono ?_
        rintro e w2 ⟨rfl, hb2⟩
        clear HU
        go_wp2
        go_ret2
        exact ⟨by rw [HV2.out]; rfl, hbf.trans (hb2.mono hbf.size)⟩
      · by_cases k5 : k = 5
        · subst k5
          have hsl : s.size ≤ 200 := by have := may5 hm; rwa [len_toList] at this
          have HV2 : Hid (v = .tuple #[.string (VS.quoteQ s), .int .i64 0]) := by show _ = _; rw [← HV.out]; unfold fullT; rw [hm]; rfl
          have HQ : Hid (∀ w, Gl w → Lib.TabIs Tryd.prog w "internal/strconv.uint64pow10" .u64 Lib.pow10Tab → Calls Tryd.prog 19 #[.string s] w fun e w' => e = .returned (.string (VS.quoteQ s)) ∧ Below w.heap.size w w') := fun w hg ht => quote_full s hsl w hg ht
          clear hm
          go_wp2_with fail
          refine (HQ.out _ (HG.out.below hbf) (VS.tab_below HT.out hbf)).mono ?_
          rintro e w2 ⟨rfl, hb2⟩
          clear HQ
          go_wp2
          go_ret2
          exact ⟨by rw [HV2.out]; rfl, hbf.trans (hb2.mono hbf.size)⟩
        · have HV2 : Hid (v = .tuple #[.string s, .int .i64 0]) := by show _ = _; rw [← HV.out]; unfold fullT; rw [hm, if_pos rfl, if_neg k3, if_neg k4, if_neg k5]; rfl
          clear hm
          go_wp2_with fail
          go_ret2
          exact ⟨by rw [HV2.out]; rfl, hbf⟩
end Go.Proofs.YtpnmepabecbgcaaDoor
