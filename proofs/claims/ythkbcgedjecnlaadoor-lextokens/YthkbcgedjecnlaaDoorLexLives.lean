import Derived.Test.YthkbcgedjecnlaaDoorLexText
namespace Go.Proofs.YthkbcgedjecnlaaDoor
open Go.RowKit Go.Maps
set_option linter.unusedVariables false
set_option linter.unusedSimpArgs false
attribute [local go_sem ↓] Go.wp_at_zero Go.wp_at_succ

/-- the text of a token that is neither a quoted text nor a number over 99 -/
def plainT (t : Tk) : Option (List UInt8) := if mayT t then some (if t.k = 3 then [95] else if t.k = 4 then Lib.decDigits t.n.toNat else t.s) else none

set_option maxHeartbeats 3200000 in
theorem Text_plain (t : Tk) (hs : t.s.length ≤ maxLen) (h5 : t.k ≠ 5) (h4 : t.k = 4 → 0 ≤ t.n ∧ t.n < 100) : TextOK plainT t := by
  intro w hg
  have hs' : (⟨t.s.toArray⟩ : ByteArray).size ≤ maxLen := by rw [size_mk]; exact hs
  have hM := fun w hg => mayBe_any t.k ⟨t.s.toArray⟩ t.n t.a w hg hs'
  have hMB : ∀ w, Gl w → Calls Tryd.prog 44 #[.agg #[.int .i8 t.k, .string ⟨t.s.toArray⟩, .int .i64 t.n, .int .i64 t.a]] w fun e w' => e = .returned (.bool (mayT t)) ∧ Below w.heap.size w w' := hM
  have HMB : Hid _ := hMB
  have hgb := hg.alloc (.cells #[.int .i8 t.k, .string ⟨t.s.toArray⟩, .int .i64 t.n, .int .i64 t.a] 37)
  have HG : Hid _ := hgb
  obtain ⟨v, HV⟩ : ∃ v, Hid (txV (plainT t) = v) := ⟨_, rfl⟩
  rw [HV.out]
  clear hM hMB hgb hg
  unfold tkV
  have HX : Hid (⟨t.s.toArray⟩ = (⟨t.s.toArray⟩ : ByteArray)) := rfl
  obtain ⟨x, hx⟩ : ∃ x : ByteArray, ⟨t.s.toArray⟩ = x := ⟨_, rfl⟩
  rw [hx] at HMB HG
  rw [hx]
  go_enter Tryd.func29, Tryd.ntmps29
  go_wp2_with fail
  refine (HMB.out _ HG.out).mono ?_
  rintro e w1 ⟨rfl, hb1⟩
  have c0 := kept_cell hb1 0 _ rfl
  have c1 := kept_cell hb1 1 _ rfl
  have c2 := kept_cell hb1 2 _ rfl
  have hbf := ((Below.refl w.heap.size w).alloc (Nat.le_refl _) _).trans (hb1.mono (by simp))
  clear hb1 HMB HG HX
  cases hm : mayT t with
  | false =>
    have HV2 : Hid (v = .tuple #[.string ⟨#[]⟩, .int .i64 1]) := by show _ = _; rw [← HV.out]; unfold plainT; rw [hm]; rfl
    go_wp2_with fail
    go_ret2
    exact ⟨by rw [HV2.out]; rfl, hbf⟩
  | true =>
    by_cases k3 : t.k = 3
    · have HV2 : Hid (v = .tuple #[.string ⟨#[95]⟩, .int .i64 0]) := by show _ = _; rw [← HV.out]; unfold plainT; rw [hm, if_pos rfl, if_pos k3]; rfl
      go_wp2_with fail
      go_ret2
      exact ⟨by rw [HV2.out]; rfl, hbf⟩
    · by_cases k4 : t.k = 4
      · obtain ⟨n0, n1⟩ := h4 k4
        obtain ⟨u, hu⟩ : ∃ u : Nat, t.n = (u : Int) := ⟨t.n.toNat, by omega⟩
        have HV2 : Hid (v = .tuple #[.string ⟨(Lib.decDigits u).toArray⟩, .int .i64 0]) := by
          show _ = _; rw [← HV.out]; unfold plainT; rw [hm, if_pos rfl, if_neg k3, if_pos k4, hu]; rfl
        rw [hu] at c2
        have hu1 : (u : Int) < 100 := by omega
        have hu2 : u < 100 := by omega
        clear h4 n0 n1
        go_wp2_with (first
          | (go_at_call 66; refine (Tryd.internal_strconv_small u hu2 _).mono ?_; rintro e w2 ⟨rfl, rfl⟩)
          | go_in)
        go_ret2
        exact ⟨by rw [HV2.out]; rfl, hbf⟩
      · have HV2 : Hid (v = .tuple #[.string x, .int .i64 0]) := by show _ = _; rw [← HV.out]; unfold plainT; rw [hm, if_pos rfl, if_neg k3, if_neg k4, ← hx]; rfl
        clear h4
        go_wp2_with fail
        go_ret2
        exact ⟨by rw [HV2.out]; rfl, hbf⟩

def liveToks : List Tk := [⟨1, [110], 0, 0⟩, ⟨7, [60, 61], 0, 1⟩, ⟨4, [], 7, 3⟩, endT 10]
theorem live_tokens : tokens [110, 60, 61, 55, 32, 35, 32, 97, 108, 108] = .ok liveToks := by decide +kernel
theorem live_join : joinT plainT 0 [] liveToks = ([110, 32, 60, 61, 32, 55], 0) := by decide +kernel
theorem live_text : ∀ t ∈ liveToks, TextOK plainT t := by
  intro t ht
  have h : t.s.length ≤ maxLen ∧ t.k ≠ 5 ∧ (t.k = 4 → 0 ≤ t.n ∧ t.n < 100) := by
    simp only [liveToks, List.mem_cons, List.not_mem_nil, or_false] at ht
    rcases ht with rfl | rfl | rfl | rfl <;> decide
  exact Text_plain t h.1 h.2.1 h.2.2
theorem live_len : ∀ t ∈ liveToks, ∀ s, plainT t = some s → s.length ≤ 1000 := by
  intro t ht s hs
  have h : ∀ t ∈ liveToks, ((plainT t).getD []).length ≤ 1000 := by decide +kernel
  have := h t ht
  rw [hs] at this
  exact this
theorem flt_eql (a b : Int) (w : World) : (binOp .eql 25 (.agg #[.int .i64 a, .int .i64 b]) (.agg #[.int .i64 0, .int .i64 0])).run Tryd.prog w = .ok (.bool (decide (a = 0 ∧ b = 0))) w := by
  by_cases h1 : a = 0
  · by_cases h2 : b = 0
    · subst h1 h2
      go_simp
    · rw [decide_eq_false (fun h => h2 h.2)]
      go_simp
  · rw [decide_eq_false (fun h => h1 h.1)]
    go_simp

set_option maxHeartbeats 6400000 in
set_option maxRecDepth 100000 in
theorem lives_any (w : World) (hg : Gl w) : Calls Tryd.prog 8 #[] w fun e w' => e = .returned (.bool true) ∧ Below w.heap.size w w' := by
  have hT := Tokens_any ⟨#[110, 60, 61, 55, 32, 35, 32, 97, 108, 108]⟩ w hg (by decide)
  rw [show tokens (⟨#[110, 60, 61, 55, 32, 35, 32, 97, 108, 108]⟩ : ByteArray).data.toList = .ok liveToks from live_tokens] at hT
  go_enter Tryd.func8, Tryd.ntmps8
  go_wp2_with fail
  refine hT.mono ?_
  rintro e w1 ⟨sv, rfl, hown, hb1⟩
  obtain ⟨a, c, rfl, hm, htl⟩ := TL_of_own hown
  have hg1 : Gl w1 := hg.below hb1
  clear hT hg hown
  unfold Res.flt
  have hgA := hg1.alloc (.cells #[.int .i64 0, .int .i64 0] 25)
  have htA : TL _ a liveToks := TL.below htl ((Below.refl _ _).alloc (Nat.le_refl _) (.cells #[.int .i64 0, .int .i64 0] 25))
  have bA := hb1.alloc hb1.size (.cells #[.int .i64 0, .int .i64 0] 25)
  have hJ := Join_any plainT _ a c liveToks hgA htA hm live_text live_len
  rw [live_join] at hJ
  have HJ : Hid _ := hJ
  clear htl hg1 hJ
  go_wp2_with fail
  refine Calls.mono HJ.out ?_
  rintro e w2 ⟨rfl, hb2⟩
  have f0 := kept_cell hb2 0 _ rfl
  have f1 := kept_cell hb2 1 _ rfl
  have hg2 := hgA.below hb2
  have ht2 : TL _ a liveToks := TL.below htA hb2
  have bF := bA.trans (hb2.mono bA.size)
  obtain ⟨g, off, rfl, p0, p1, _, _⟩ := ht2 1 ⟨7, [60, 61], 0, 1⟩ rfl
  obtain ⟨g', off', e', _, _, p2, _⟩ := ht2 2 ⟨4, [], 7, 3⟩ rfl
  obtain ⟨rfl, rfl⟩ : g = g' ∧ off = off' := by simpa using e'
  clear ht2 htA hgA HJ hb2 bA hb1 e'
  have hfe := flt_eql 0 0 w2
  have HK := Keyword_any ⟨#[110, 111, 116]⟩ w2 hg2
  rw [show kwU (⟨#[110, 111, 116]⟩ : ByteArray).data.toList = true by decide] at HK
  have HK2 : Hid _ := HK
  clear HK
  simp only at p0 p1 p2
  go_wp2_with (first
    | (go_at_call 13; refine Calls.mono HK2.out ?_; rintro e w3 ⟨rfl, rfl⟩)
    | fail)
  go_ret
  exact ⟨rfl, bF⟩
end Go.Proofs.YthkbcgedjecnlaaDoor
