import Derived.Test.YthkbcgedjecnlaaDoorLtD
import Derived.Test.YthkbcgedjecnlaaDoorLtE
import Derived.Test.YthkbcgedjecnlaaDoorLtF
namespace Go.Proofs.YthkbcgedjecnlaaDoor
open Go.RowKit Go.Maps
set_option linter.unusedVariables false
set_option linter.unusedSimpArgs false
attribute [local go_sem ↓] Go.wp_at_zero Go.wp_at_succ

theorem rtoken_any (s : ByteArray) (p : Nat) (w : World) (hs : s.size ≤ 65536) (hp : p < s.size) : Calls Tryd.prog 10 #[.string s, .int .i64 p] w fun e w' => TokP p (firstT (s.data.toList.drop p)) e ∧ Below w.heap.size w w' := by
  cases a1 : letU (s[p]'hp) with
  | true => exact rtoken_let s p w hs hp a1
  | false =>
    by_cases a2 : (s[p]'hp).toNat = 95
    · exact rtoken_blank s p w hs hp a1 a2
    · cases a3 : digU (s[p]'hp) with
      | true => exact rtoken_dig s p w hs hp a1 a2 a3
      | false =>
        by_cases a4 : (s[p]'hp).toNat = 34
        · exact rtoken_quot s p w hs hp a1 a2 a3 a4
        · exact rtoken_sign s p w hs hp a1 a2 a3 a4
set_option maxHeartbeats 6400000 in
set_option maxRecDepth 100000 in
theorem rTokens_any (s : ByteArray) (w : World) (hs : s.size ≤ maxLen) : Calls Tryd.prog 4 #[.string s] w (ToksPost w (tokens s.data.toList)) := by
  unfold maxLen at hs
  obtain ⟨R, HR⟩ : ∃ R, Hid (tokens s.data.toList = R) := ⟨_, rfl⟩
  rw [HR.out]
  obtain ⟨i0, hi0, hz0, hz1, hz2⟩ := info_parts infoTok
  have hO := own2 (Below.refl _ (w.alloc (.cells #[.int .i64 0, .int .i64 0] 25)))
  have hB := (Below.refl w.heap.size w).alloc (Nat.le_refl _) (.cells #[.int .i64 0, .int .i64 0] 25)
  by_cases h1 : 65536 < s.size
  · have h1' : (65536 : Int) < (s.size : Int) := by omega
    obtain rfl : R = .bad 30 65536 := by rw [← HR.out]; unfold tokens; rw [len_toList, if_pos h1]
    go_enter Tryd.func4, Tryd.ntmps4
    go_wp2
    try rw [Exit.noGoto_ret]
    refine toks_done_new Tryd.results4 ?_ ?_ ?_ ?_ <;> rfl
  · have h1' : ¬ (65536 : Int) < (s.size : Int) := by omega
    have hl0 : s.size ≤ 65536 := by omega
    have HT : Hid (R = (toks (s.data.toList.drop 0) 0).app []) := by show _ = _; rw [← HR.out, Res.app_nil]; unfold tokens; rw [len_toList, if_neg h1]; rfl
    have HNX : Hid (∀ p w, p ≤ s.size → Calls Tryd.prog 9 #[.string s, .int .i64 (p : Nat)] w fun e w' => (∃ q : Nat, e = .returned (.int .i64 q) ∧ NextIs s p q) ∧ w' = w) := fun p w hp => rnext_any s p w hl0 hp
    have HN0 : Hid (∀ w, Calls Tryd.prog 9 #[.string s, .int .i64 0] w fun e w' => (∃ q : Nat, e = .returned (.int .i64 q) ∧ NextIs s 0 q) ∧ w' = w) := fun w => by
      have h := HNX.out 0 w (Nat.zero_le _)
      exact h
    clear HR
    go_enter Tryd.func4, Tryd.ntmps4
    go_wp2_with fail
    generalize w.alloc (.cells #[.int .i64 0, .int .i64 0] 25) = W at hO hB ⊢
    have HO : Hid _ := hO
    have HB : Hid _ := hB
    clear hO hB
    refine (HN0.out _).mono ?_
    rintro e w0 ⟨⟨q0, rfl, hN0⟩, hw0⟩
    subst hw0
    have HN1 : Hid (NextIs s 0 q0) := hN0
    clear hN0 HN0
    have hl1 := h1'
    clear h1' h1 hs
    go_wp2
    go_loopw [4, 5] (fun o i wr => ∃ p : Nat, p ≤ s.size ∧ i = .int .i64 p ∧ Below w0.heap.size w0 wr ∧ Hid (∀ h : p < s.size, blankU (s[p]'h) = false ∧ (s[p]'h).toNat ≠ 35) ∧ ∃ pre : List Tk, wr.ownsRow w0.heap.size 37 4 o pre.length (pre.flatMap Tk.cells) ∧ pre.length ≤ p ∧ Hid (R = (toks (s.data.toList.drop p) p).app pre)) (fun _ i _ => s.size - (intOf i).toNat)
    case atStart => exact ⟨q0, HN1.out.2.1, rfl, Below.refl _ _, HN1.out.2.2.2, [], World.ownsRow_nil _ _ _ _, Nat.zero_le _, by show _ = _; rw [HT.out, HN1.out.2.2.1]⟩
    case round =>
      clear HN1 HT
      obtain ⟨p, hp, rfl, bel, HNB, pre, hown, hpre, HF⟩ := hrel
      by_cases hlt : p < s.size
      · have hlt' : (p : Int) < (s.size : Int) := by omega
        have HD : Hid _ := drop_at s hlt
        obtain ⟨hbl, h35⟩ := HNB.out hlt
        have HTK : Hid (∀ w, Calls Tryd.prog 10 #[.string s, .int .i64 p] w fun e w' => TokP p (firstT (s.data.toList.drop p)) e ∧ Below w.heap.size w w') := fun w => rtoken_any s p w hl0 hlt
        clear HNB
        cases hfi : firstT (s.data.toList.drop p) with
        | bad e =>
          have he := firstT_bad hfi
          have he0 : ¬ e = 0 := by omega
          have HR1 : Hid (R = .bad e p) := by show _ = _; rw [HF.out, HD.out, toks_bad _ hbl h35 (by rw [← HD.out]; exact hfi)]; rfl
          have HK : Hid (∀ w, Calls Tryd.prog 10 #[.string s, .int .i64 p] w fun e' w' => (∃ m : Int, e' = .returned (.tuple #[.agg #[.int .i8 0, .string ⟨#[]⟩, .int .i64 0, .int .i64 0], .int .i64 m, .int .i64 e])) ∧ Below w.heap.size w w') := fun w => by
            refine (HTK.out w).mono ?_
            rw [hfi]
            exact fun _ _ h => h
          clear HF HD hbl h35 hfi hown he HTK HNX
          go_wp2_with (first
            | (go_at_call 10; refine (HK.out _).mono ?_; rintro e' w1 ⟨⟨m, rfl⟩, hb1⟩; have bel1 := bel.trans (hb1.mono bel.size); have bel2 := bel1.alloc bel1.size (.cells #[.int .i8 0, .string ⟨#[]⟩, .int .i64 0, .int .i64 0] 37); have HO1 : Hid _ := Own2.below HO.out bel2; have hbf := HB.out.trans (bel2.mono HB.out.size); clear hb1 bel bel1 bel2; obtain ⟨⟨z0, z1, c0, c1⟩, f0, f1, hl⟩ := HO1.out)
            | fail)
          try rw [Exit.noGoto_ret]
          have hR := HR1.out
          subst hR
          refine toks_done Tryd.results4 HO1.out (Nat.le_refl _) hbf rfl (World.ownsRow_nil _ _ _ _) (by simp [Value.ownBlock]) ?_ ?_ <;> rfl
        | tok t n =>
          have hn := firstT_pos hfi
          rw [List.length_drop, len_toList] at hn
          have HN : Hid (R = (toks (s.data.toList.drop (p + n)) (p + n)).app (pre ++ [{ t with a := p }])) := by
            show _ = _
            rw [HF.out, HD.out, toks_tok _ hbl h35 (by rw [← HD.out]; exact hfi), Res.app_cons, ← HD.out, List.drop_drop]
          have HK : Hid (∀ w, Calls Tryd.prog 10 #[.string s, .int .i64 p] w fun e' w' => e' = .returned (.tuple #[.agg #[.int .i8 t.k, .string ⟨t.s.toArray⟩, .int .i64 t.n, .int .i64 p], .int .i64 n, .int .i64 0]) ∧ Below w.heap.size w w') := fun w => by
            refine (HTK.out w).mono ?_
            rw [hfi]
            exact fun _ _ h => h
          have HC : Hid (∀ u : Value, (pre ++ [{ t with a := (p : Int) }]).flatMap Tk.cells = pre.flatMap Tk.cells ++ [.int .i8 t.k, .string ⟨t.s.toArray⟩, .int .i64 t.n, .int .i64 p]) := by intro _; rw [cells_snoc]; rfl
          have HNn : Hid (∀ w, Calls Tryd.prog 9 #[.string s, .int .i64 ((p : Int) + (n : Int))] w fun e w' => (∃ q : Nat, e = .returned (.int .i64 q) ∧ NextIs s (p + n) q) ∧ w' = w) := fun w => by
            have h := HNX.out (p + n) w (by omega)
            rw [show ((p + n : Nat) : Int) = (p : Int) + (n : Int) by omega] at h
            exact h
          clear HF HD hbl h35 hfi HTK HNX
          generalize (⟨t.s.toArray⟩ : ByteArray) = ts at *
          go_wp2_with (first
            | (go_at_call 10; refine (HK.out _).mono ?_; rintro e w1 ⟨rfl, hb1⟩; have bel1 := bel.trans (hb1.mono bel.size); have hown1 := own_below hown hb1; clear hb1 bel hown)
            | (go_at_call 9; refine (HNn.out _).mono ?_; rintro e w3 ⟨⟨q, rfl, hnx⟩, rfl⟩; have HX : Hid (NextIs s (p + n) q) := hnx; clear hnx)
            | (at_builtin; refine wpList_append_own_at _ rfl _ _ 22 rfl w0.heap.size 37 i0 _ 4 40 Tryd.underlying22 hi0 hz0 hz1 hz2 rfl (by decide) _ _ _ rfl (own_below hown1 (((Below.refl _ _).alloc (Nat.le_refl _) _).alloc (by simp) _)) ⟨w1.heap.size + 1, 0, none⟩ 1 1 [.int .i8 t.k, .string ts, .int .i64 t.n, .int .i64 p] rfl rfl (one_tok1 w1 _ _ _ _ _) (by simp [Value.oneCell']) (by unfold maxLen; omega) (by omega) (by have := bel1.size; simp; omega) ?_; intro v' w2 hown' hgrow hnil hloc)
            | fail)
          go_roundw
          case rel => exact ⟨q, HX.out.2.1, rfl, ((bel1.alloc bel1.size _).alloc (by have := bel1.size; simp; omega) _).grown hgrow (by have := bel1.size; simp; omega) (fun j hj => (hown1.lt j hj).1), HX.out.2.2.2, _, by rw [HC.out (.bool true), List.length_append]; exact hown', by have := HX.out.1; simp; omega, by show _ = _; rw [HN.out, HX.out.2.2.1]⟩
          case measure => have h1 := HX.out.1; have h2 := HX.out.2.1; simp [intOf]; omega
      · have hps : p = s.size := by omega
        subst hps
        have hR : R = .ok (pre ++ [endT s.size]) := by rw [HF.out, drop_end s hlt]; rfl
        have HR1 : Hid _ := hR
        have HC : Hid ((pre ++ [endT s.size]).flatMap Tk.cells = pre.flatMap Tk.cells ++ [.int .i8 8, .string ⟨#[]⟩, .int .i64 0, .int .i64 s.size]) := by show _ = _; rw [cells_snoc]; rfl
        clear HF hR HNX HNB
        go_wp2_with (first
          | (at_builtin; refine wpList_append_own_at _ rfl _ _ 22 rfl w0.heap.size 37 i0 _ 4 40 Tryd.underlying22 hi0 hz0 hz1 hz2 rfl (by decide) _ _ _ rfl (own_below hown ((Below.refl _ _).alloc (Nat.le_refl _) _)) ⟨wr.heap.size, 0, none⟩ 1 1 [.int .i8 8, .string ⟨#[]⟩, .int .i64 0, .int .i64 s.size] rfl rfl (one_tok wr _ _ _ _) (by simp [Value.oneCell']) (by unfold maxLen; omega) (by omega) (by have := bel.size; simp; omega) ?_; intro v' w2 hown' hgrow hnil hloc; have bel2 := (bel.alloc bel.size (.cells #[.int .i8 8, .string ⟨#[]⟩, .int .i64 0, .int .i64 s.size] 37)).grown hgrow (by have := bel.size; simp; omega) (fun j hj => (hown.lt j hj).1); have HO1 : Hid _ := Own2.below HO.out bel2; have hbf := HB.out.trans (bel2.mono HB.out.size); obtain ⟨⟨z0, z1, c0, c1⟩, f0, f1, hl⟩ := HO1.out)
          | fail)
        try rw [Exit.noGoto_ret]
        have hR := HR1.out
        subst hR
        have hne : v'.ownBlock ≠ some w.heap.size := fun e => by
          have h1 := (hown'.lt _ e).1
          have h2 := HO.out.2.2.2
          omega
        refine toks_done Tryd.results4 HO1.out (Nat.le_refl _) hbf rfl ?_ hne ?_ ?_
        · show w2.ownsRow w.heap.size _ 4 v' (pre ++ [endT s.size]).length ((pre ++ [endT s.size]).flatMap Tk.cells)
          rw [HC.out, List.length_append]
          exact own_base hown' HB.out.size
        · rfl
        · rfl
end Go.Proofs.YthkbcgedjecnlaaDoor
