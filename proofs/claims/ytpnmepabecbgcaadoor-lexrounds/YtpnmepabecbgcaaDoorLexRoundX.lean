import Derived.Test.YtpnmepabecbgcaaDoorLexRoundW
namespace Go.Proofs.YtpnmepabecbgcaaDoor
open Go.RowKit Go.Maps
set_option linter.unusedVariables false
set_option linter.unusedSimpArgs false
attribute [local go_sem ↓] Go.wp_at_zero Go.wp_at_succ

theorem back_tokens {ts : List Tk} {out : List UInt8} (h : joinT fullT 0 [] ts = (out, 0)) (hok : ∀ t ∈ ts, t.ok) : ∃ ts', tokens out = .ok ts' ∧ ts'.map Tk.bare = (wholeG ts).map Tk.bare ∧ out.length ≤ 65536 := by
  obtain ⟨h1, h2, h3⟩ := join_ok ts 0 [] out h
  obtain ⟨ts', i1, i2⟩ := round_back ts 0 0 h2 hok
  rw [whole_good ts h2] at i2
  refine ⟨ts', ?_, i2, h3⟩
  unfold tokens
  rw [if_neg (by omega), h1, List.nil_append]
  exact i1
theorem mk_data (l : List UInt8) : (⟨l.toArray⟩ : ByteArray).data.toList = l := by simp
theorem whole_len (ts : List Tk) : (wholeG ts).length ≤ ts.length + 1 := by
  unfold wholeG
  split
  · split <;> simp
  · simp
/-- Tokens of what Join wrote, and alike -/
theorem back_calls {ts : List Tk} {out : List UInt8} (h : joinT fullT 0 [] ts = (out, 0)) (hok : ∀ t ∈ ts, t.ok) (w : World) (hg : Gl w) : Calls Tryd.prog 6 #[.string ⟨out.toArray⟩] w fun e w' => ∃ ts' a c, e = .returned (.tuple #[.slice a ts'.length c, .agg #[.int .i64 0, .int .i64 0]]) ∧ TL w' a ts' ∧ ts'.length ≤ maxLen ∧ ts'.map Tk.bare = (wholeG ts).map Tk.bare ∧ Below w.heap.size w w' := by
  obtain ⟨ts', i1, i2, i3⟩ := back_tokens h hok
  refine (Tokens_at (s := ⟨out.toArray⟩) (R := .ok ts') (by rw [mk_data]; exact i1) w hg (by rw [size_mk]; unfold maxLen; omega)).mono ?_
  rintro e w' ⟨a, c, rfl, h1, h2, h3⟩
  exact ⟨ts', a, c, rfl, h1, h2, i2, h3⟩
theorem own_lit2 (w : World) (o : Obj) : ((w.alloc o).alloc (.cells #[] 38)).ownsRow w.heap.size 38 4 (.slice (some ⟨w.heap.size + 1, 0, none⟩) 0 0) 0 [] := by
  have h := World.ownsRow_lit (base := w.heap.size) (e := 38) (size := 4) (w.alloc o) #[] 0 (by simp) (by decide) rfl
  simpa using h
set_option maxHeartbeats 6400000 in
set_option maxRecDepth 100000 in
theorem LexRounds_any (ts : List Tk) (a : Option Addr) (c : Nat) (s : ByteArray) (w : World) (hg : Gl w) (hlen : ts.length ≤ maxLen) (hl : TL w a ts) (hts : ∀ t ∈ ts, t.ok) (hs : s.size ≤ maxLen) :
    Calls Tryd.prog 3 #[.slice a ts.length c, .string s] w fun e w' => e = .returned (.bool true) ∧ Below w.heap.size w w' := by
  have HG : Hid (Gl w) := hg
  have HL : Hid (TL w a ts) := hl
  have HTS : Hid (∀ t ∈ ts, t.ok) := hts
  have HS : Hid (s.size ≤ maxLen) := hs
  have HB : Hid (Calls Tryd.prog 4 #[.slice a ts.length c] w fun e w' => (∃ b, e = .returned (.bool b) ∧ (b = false → ts.length ≤ 2147483647)) ∧ w' = w) := beyond_any ts w a c hlen hl hts
  have HJ : Hid (∀ (u : World) (us : List Tk) (a : Option Addr) (c : Nat), Gl u → TL u a us → us.length ≤ 2147483647 → (∀ t ∈ us, t.ok) → Calls Tryd.prog 5 #[.slice a us.length c] u fun e u' => e = .returned (.tuple #[.string ⟨(joinT fullT 0 [] us).1.toArray⟩, .int .i64 (joinT fullT 0 [] us).2]) ∧ Below u.heap.size u u') :=
    fun u us a c hg htl hlen hok => Join_any fullT u a c us hg htl (by unfold maxLen; omega) (fun t ht => text_ok (hok t ht)) (fun t ht s hs => full_len (hok t ht) hs)
  have HAL : Hid (∀ (u : World) o, Below u.heap.size u (u.alloc o)) := fun u o => (Below.refl _ _).alloc (Nat.le_refl _) _
  have hfe := fun w => flt_eql2 0 0 0 0 w
  have hfn := fun w => flt_neq 0 0 0 0 w
  clear hg hl hts hlen hs
  go_enter Tryd.func3, Tryd.ntmps3
  go_wp2_with fail
  refine HB.out.mono ?_
  rintro e w0 ⟨⟨b, rfl, hbf⟩, rfl⟩
  clear HB
  cases b with
  | true =>
    go_wp2
    go_ret
    exact ⟨rfl, Below.refl _ _⟩
  | false =>
    have hlen := hbf rfl
    clear hbf
    go_wp2_with (at_builtin; refine wpList_appT rfl (.tmp 18) (.tmp 19) rfl (b := w0.heap.size) (v := .slice (some ⟨w0.heap.size, 0, none⟩) 0 0) (n := 0) (xs := []) (ad := a) (c := c) (ts := ts) (by simp [Act.eval, Act.put]) (World.ownsRow_lit w0 #[] 0 (Nat.le_refl _) (by decide) rfl) (by simp [Act.eval, Act.put]) (HL.out.below (HAL.out _ _)) (by omega) (by simp) ?_; intro v1 w1 own1 hg1 hl1; have bel1 : Below w0.heap.size w0 w1 := (HAL.out w0 _).grown hg1 (by simp) (fun j hj => by simp [Value.ownBlock] at hj; omega); rw [Nat.zero_add, List.nil_append] at own1; obtain ⟨a1, c1, rfl, _, htl1⟩ := TL_of_own own1; clear own1 hg1 hl1)
    refine (HJ.out w1 ts a1 c1 (HG.out.below bel1) htl1 hlen HTS.out).mono ?_
    rintro e w2 ⟨rfl, hb2⟩
    have bel2 : Below w0.heap.size w0 w2 := bel1.trans (hb2.mono bel1.size)
    clear hb2 bel1 htl1
    by_cases hj : (joinT fullT 0 [] ts).2 = 0
    case' pos =>
      obtain ⟨out, hout⟩ : ∃ out, joinT fullT 0 [] ts = (out, 0) := ⟨(joinT fullT 0 [] ts).1, by rw [← hj]⟩
      rw [hout]
      have HK : Hid _ := back_calls hout HTS.out w2 (HG.out.below bel2)
      clear hj hout
      go_wp2_with fail
      refine Calls.mono HK.out ?_
      rintro e w3 ⟨ts', a3, c3, rfl, htl3, hlen3, hbare, hb3⟩
      have bel3 : Below w0.heap.size w0 w3 := bel2.trans (hb3.mono bel2.size)
      have bel4 := bel3.alloc bel3.size (.cells #[.int .i64 0, .int .i64 0] 28)
      have HTL4 : Hid (TL (w3.alloc (.cells #[.int .i64 0, .int .i64 0] 28)) a3 ts') := TL.below htl3 (HAL.out _ _)
      have HB3 : Hid (ts'.map Tk.bare = (wholeG ts).map Tk.bare) := hbare
      have HW : Hid _ := whole_any ts (w3.alloc (.cells #[.int .i64 0, .int .i64 0] 28)) a c hlen (HL.out.below bel4)
      have HL3 : Hid (ts'.length ≤ maxLen) := hlen3
      clear hb3 bel2 HK htl3 hbare hlen3 bel3
      go_wp2_with fail
      refine Calls.mono HW.out ?_
      rintro e w5 ⟨a5, c5, rfl, htl5, hb5⟩
      have bel5 : Below w0.heap.size w0 w5 := bel4.trans (hb5.mono bel4.size)
      have HA : Hid (Calls Tryd.prog 7 #[.slice a3 ts'.length c3, .slice a5 (wholeG ts).length c5] w5 fun e w' => e = .returned (.bool true) ∧ Below w5.heap.size w5 w') := by
        have h := alike_any ts' (wholeG ts) w5 a3 a5 c3 c5 HL3.out (by have := whole_len ts; unfold maxLen; omega) (TL.below HTL4.out hb5) htl5
        rw [decide_eq_true HB3.out] at h
        exact h
      clear hb5 bel4 HW htl5 HTL4 HB3 HL3
      go_wp2_with fail
      refine Calls.mono HA.out ?_
      rintro e wq ⟨rfl, hbq⟩
      have belq : Below w0.heap.size w0 wq := bel5.trans (hbq.mono bel5.size)
      clear hbq HA bel5
    case' neg =>
      generalize (⟨(joinT fullT 0 [] ts).1.toArray⟩ : ByteArray) = jx
      generalize (joinT fullT 0 [] ts).2 = jy at hj ⊢
      obtain ⟨wq, hwq⟩ : ∃ wq, wq = w2 := ⟨_, rfl⟩
      subst hwq
      have belq : Below w0.heap.size w0 wq := bel2
      clear bel2
    all_goals
      cases hR : tokens s.data.toList with
      | bad e q =>
        have he0 := tokens_err hR
        have hne : (e != 0) = true := by simpa using he0
        have HK : Hid _ := Tokens_at hR wq (HG.out.below belq) HS.out
        have hfb := fun w => flt_neq e q 0 0 w
        rw [decide_eq_false (fun h => he0 h.1)] at hfb
        clear hR
        go_wp2_with fail
        refine Calls.mono HK.out ?_
        rintro e' w6 ⟨a6, c6, rfl, _, _, hb6⟩
        have bel6 : Below w0.heap.size w0 w6 := belq.trans (hb6.mono belq.size)
        have bel7 := bel6.alloc bel6.size (.cells #[.int .i64 e, .int .i64 q] 28)
        have HLV : Hid _ := lives_any _ (HG.out.below bel7)
        unfold Res.flt
        simp only [Res.ts, List.length_nil]
        clear HK hb6 bel6 belq
        go_wp2_with fail
        refine Calls.mono HLV.out ?_
        rintro e8 w8 ⟨rfl, hb8⟩
        go_wp2
        go_ret
        exact ⟨rfl, bel7.trans (hb8.mono bel7.size)⟩
      | ok us =>
        obtain ⟨hsz, hT⟩ := tokens_ok hR
        obtain ⟨hgood, huok, hwu⟩ := toks_good _ _ 0 (Nat.le_refl _) hT
        have hul : us.length ≤ 2147483647 := by
          have := toks_len _ _ 0 (Nat.le_refl _) hT
          rw [len_toList] at this
          omega
        rw [whole_good us hgood] at hwu
        have HK : Hid _ := Tokens_at hR wq (HG.out.below belq) HS.out
        have HGD : Hid (goodL us) := hgood
        have HOK : Hid (∀ t ∈ us, t.ok) := huok
        have HWU : Hid (wholeG us = us) := hwu
        clear hR hsz hT hgood huok hwu
        go_wp2_with fail
        refine Calls.mono HK.out ?_
        rintro e' w6 ⟨a6, c6, rfl, htl6, _, hb6⟩
        simp only [Res.ts] at htl6 ⊢
        have bel6 : Below w0.heap.size w0 w6 := belq.trans (hb6.mono belq.size)
        have bel7 := bel6.alloc bel6.size (.cells #[.int .i64 0, .int .i64 0] 28)
        have HT7 : Hid (TL (w6.alloc (.cells #[.int .i64 0, .int .i64 0] 28)) a6 us) := TL.below htl6 (HAL.out _ _)
        unfold Res.flt
        clear HK hb6 bel6 belq htl6
        go_wp2_with (at_builtin; refine wpList_appT rfl (.tmp 61) (.tmp 62) rfl (b := w6.heap.size) (v := .slice (some ⟨w6.heap.size + 1, 0, none⟩) 0 0) (n := 0) (xs := []) (ad := a6) (c := c6) (ts := us) (by simp [Act.eval, Act.put]) (own_lit2 w6 _) (by simp [Act.eval, Act.put]) (TL.below HT7.out (HAL.out _ _)) (by omega) (by simp; omega) ?_; intro v8 w8 own8 hg8 hl8)
        have bel8 : Below w0.heap.size w0 w8 := (bel7.alloc bel7.size _).grown hg8 (by have := bel7.size; simp at this ⊢; omega) (fun j hj => by have := bel7.size; simp [Value.ownBlock] at hj this; omega)
        have hb78 : Below (w6.heap.size + 1) (w6.alloc (.cells #[.int .i64 0, .int .i64 0] 28)) w8 := by
          have h := (HAL.out (w6.alloc (.cells #[.int .i64 0, .int .i64 0] 28)) (.cells #[] 38)).grown hg8 (by simp) (fun j hj => by simp [Value.ownBlock] at hj ⊢; omega)
          simpa using h
        have HT8 : Hid (TL w8 a6 us) := TL.below HT7.out (by simpa using hb78)
        rw [Nat.zero_add, List.nil_append] at own8
        obtain ⟨a8, c8, rfl, _, htl8⟩ := TL_of_own own8
        clear own8 hg8 hl8 hb78 bel7 HT7
        refine (HJ.out w8 us a8 c8 (HG.out.below bel8) htl8 hul HOK.out).mono ?_
        rintro e w9 ⟨rfl, hb9⟩
        have bel9 : Below w0.heap.size w0 w9 := bel8.trans (hb9.mono bel8.size)
        have HT9 : Hid (TL w9 a6 us) := TL.below HT8.out hb9
        clear hb9 HT8 bel8 htl8
        rcases join_good us 0 [] HGD.out with ⟨out, hout⟩ | hlong
        · rw [hout]
          have HK : Hid _ := back_calls hout HOK.out w9 (HG.out.below bel9)
          clear hout
          go_wp2_with fail
          refine Calls.mono HK.out ?_
          rintro e w10 ⟨us', a10, c10, rfl, htl10, hlen10, hbare, hb10⟩
          have bel10 : Below w0.heap.size w0 w10 := bel9.trans (hb10.mono bel9.size)
          have bel11 := bel10.alloc bel10.size (.cells #[.int .i64 0, .int .i64 0] 28)
          have HA : Hid (Calls Tryd.prog 7 #[.slice a10 us'.length c10, .slice a6 us.length c6] (w10.alloc (.cells #[.int .i64 0, .int .i64 0] 28)) fun e w' => e = .returned (.bool true) ∧ Below (w10.alloc (.cells #[.int .i64 0, .int .i64 0] 28)).heap.size (w10.alloc (.cells #[.int .i64 0, .int .i64 0] 28)) w') := by
            have h := alike_any us' us (w10.alloc (.cells #[.int .i64 0, .int .i64 0] 28)) a10 a6 c10 c6 hlen10 (by unfold maxLen; omega) (TL.below htl10 (HAL.out _ _)) (TL.below (TL.below HT9.out hb10) (HAL.out _ _))
            rw [HWU.out] at hbare
            rw [decide_eq_true hbare] at h
            exact h
          clear hb10 bel10 bel9 HK htl10 hlen10 hbare HT9
          go_wp2_with fail
          refine Calls.mono HA.out ?_
          rintro e w12 ⟨rfl, hb12⟩
          have bel12 : Below w0.heap.size w0 w12 := bel11.trans (hb12.mono bel11.size)
          clear HA hb12 bel11
          go_wp2_with fail
          refine (lives_any _ (HG.out.below bel12)).mono ?_
          rintro e w13 ⟨rfl, hb13⟩
          go_wp2
          go_ret
          exact ⟨rfl, bel12.trans (hb13.mono bel12.size)⟩
        · rw [hlong]
          go_wp2_with fail
          refine (lives_any _ (HG.out.below bel9)).mono ?_
          rintro e w13 ⟨rfl, hb13⟩
          go_wp2
          go_ret
          exact ⟨rfl, bel9.trans (hb13.mono bel9.size)⟩
end Go.Proofs.YtpnmepabecbgcaaDoor
