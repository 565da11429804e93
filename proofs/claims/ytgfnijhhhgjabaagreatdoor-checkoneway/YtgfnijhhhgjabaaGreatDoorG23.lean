import Derived.Test.YtgfnijhhhgjabaaGreatDoorG22
section
namespace Go.Proofs.YtgfnijhhhgjabaaGreatDoor
open Go.RowKit Go.Maps
set_option linter.unusedVariables false
set_option linter.unusedSimpArgs false
attribute [local go_sem ↓] Go.wp_at_zero Go.wp_at_succ

theorem argB_0 {x : A5} (h : x.g = 0) : argB x = namedB x.t := by unfold argB; rw [if_pos h]
theorem argB_1 {x : A5} (h : x.g = 1) : argB x = decide (x.t = T0) := by unfold argB; rw [if_neg (by omega), if_pos h]
theorem argB_2 {x : A5} (h : x.g = 2 ∨ x.g = 3 ∨ x.g = 4) : argB x = (namedB x.t && !decide (x.t.v = noS)) := by unfold argB; rw [if_neg (by omega), if_neg (by omega), if_pos h]
theorem argB_n {x : A5} (h : x.g ≠ 0 ∧ x.g ≠ 1 ∧ x.g ≠ 2 ∧ x.g ≠ 3 ∧ x.g ≠ 4) : argB x = false := by unfold argB; rw [if_neg (by omega), if_neg (by omega), if_neg (by omega)]
set_option maxHeartbeats 3200000 in
theorem tArg_any (x : A5) (w : World) (hx : x.wf) : Calls Tryz.prog 70 #[.agg #[.int .i8 x.g, .string x.t.v, .int .i8 x.t.a.k, .int .i64 x.t.a.n, .string x.t.a.s]] w fun e w' => e = .returned (.bool (argB x)) ∧ Below w.heap.size w w' := by
  have BA := (Below.refl w.heap.size w).alloc (Nat.le_refl _) (.cells #[.int .i8 x.g, .string x.t.v, .int .i8 x.t.a.k, .int .i64 x.t.a.n, .string x.t.a.s] 58)
  have HRL : Hid (RL (w.alloc (.cells #[.int .i8 x.g, .string x.t.v, .int .i8 x.t.a.k, .int .i64 x.t.a.n, .string x.t.a.s] 58)) w.heap.size 58 [.int .i8 x.g, .string x.t.v, .int .i8 x.t.a.k, .int .i64 x.t.a.n, .string x.t.a.s]) := rl_new w #[.int .i8 x.g, .string x.t.v, .int .i8 x.t.a.k, .int .i64 x.t.a.n, .string x.t.a.s] 58
  have HN : Hid (∀ u, Calls Tryz.prog 75 #[.agg #[.string x.t.v, .int .i8 x.t.a.k, .int .i64 x.t.a.n, .string x.t.a.s]] u fun e w' => e = .returned (.bool (namedB x.t)) ∧ Below u.heap.size u w') := fun u => isNamed_any x.t u hx.t
  have HBA : Hid (Below w.heap.size w _) := BA
  clear hx BA
  by_cases g0 : x.g = 0
  · have f0 : (x.g == 0) = true := by rw [g0]; rfl
    have HF : Hid _ := argB_0 g0
    clear g0
    go_enter Tryz.func70, Tryz.ntmps70
    go_wp2_with (go_at_call 75; refine Calls.mono (HN.out _) ?_; rintro ee w1 ⟨rfl, b1⟩)
    go_ret
    exact ⟨ret_bool HF.out.symm, HBA.out.trans (b1.mono HBA.out.size)⟩
  · have f0 : (x.g == 0) = false := by rw [beq_eq_false_iff_ne]; exact g0
    by_cases g1 : x.g = 1
    · have f1 : (x.g == 1) = true := by rw [g1]; rfl
      have HF : Hid _ := argB_1 g1
      have hQ := run_eqT x.t T0
      unfold T0 V0 noS at hQ
      dsimp only at hQ
      clear g0 g1
      go_enter Tryz.func70, Tryz.ntmps70
      go_wp2
      go_ret
      exact ⟨ret_bool HF.out.symm, HBA.out⟩
    · have f1 : (x.g == 1) = false := by rw [beq_eq_false_iff_ne]; exact g1
      by_cases g2 : x.g = 2 ∨ x.g = 3 ∨ x.g = 4
      · have HF : Hid _ := argB_2 g2
        have F : (x.g == 2) = true ∨ ((x.g == 2) = false ∧ (x.g == 3) = true) ∨ ((x.g == 2) = false ∧ (x.g == 3) = false ∧ (x.g == 4) = true) := by
          rcases g2 with e | e | e
          · exact .inl (by rw [e]; rfl)
          · exact .inr (.inl ⟨by rw [e]; rfl, by rw [e]; rfl⟩)
          · exact .inr (.inr ⟨by rw [e]; rfl, by rw [e]; rfl, by rw [e]; rfl⟩)
        clear g0 g1 g2
        cases hN : namedB x.t
        · rcases F with f2 | ⟨f2, f3⟩ | ⟨f2, f3, f4⟩
          all_goals
            go_enter Tryz.func70, Tryz.ntmps70
            go_wp2_with (go_at_call 75; refine Calls.mono (HN.out _) ?_; rw [hN]; rintro ee w1 ⟨rfl, b1⟩)
            go_ret
            exact ⟨ret_bool (by rw [HF.out, hN]; rfl), HBA.out.trans (b1.mono HBA.out.size)⟩
        · by_cases en : x.t.v = noS
          · have he : x.t.v.toList.isEmpty = true := by rw [en, ByteArray.toList_eq]; rfl
            have HF2 : Hid (argB x = false) := by show _ = _; rw [HF.out, decide_eq_true en]; simp
            clear en
            rcases F with f2 | ⟨f2, f3⟩ | ⟨f2, f3, f4⟩
            all_goals
              go_enter Tryz.func70, Tryz.ntmps70
              go_wp2_with (go_at_call 75; refine Calls.mono (HN.out _) ?_; rw [hN]; rintro ee w1 ⟨rfl, b1⟩; have z1 := (RL.below HRL.out b1).at (j := 1) rfl)
              go_ret
              exact ⟨ret_bool HF2.out.symm, HBA.out.trans (b1.mono HBA.out.size)⟩
          · have he := some_iff x.t.v en
            have HF2 : Hid (argB x = true) := by show _ = _; rw [HF.out, hN, decide_eq_false en]; rfl
            clear en
            rcases F with f2 | ⟨f2, f3⟩ | ⟨f2, f3, f4⟩
            all_goals
              go_enter Tryz.func70, Tryz.ntmps70
              go_wp2_with (go_at_call 75; refine Calls.mono (HN.out _) ?_; rw [hN]; rintro ee w1 ⟨rfl, b1⟩; have z1 := (RL.below HRL.out b1).at (j := 1) rfl)
              go_ret
              exact ⟨ret_bool HF2.out.symm, HBA.out.trans (b1.mono HBA.out.size)⟩
      · have f2 : (x.g == 2) = false := by rw [beq_eq_false_iff_ne]; omega
        have f3 : (x.g == 3) = false := by rw [beq_eq_false_iff_ne]; omega
        have f4 : (x.g == 4) = false := by rw [beq_eq_false_iff_ne]; omega
        have HF : Hid (argB x = false) := argB_n ⟨g0, g1, by omega, by omega, by omega⟩
        clear g0 g1 g2
        go_enter Tryz.func70, Tryz.ntmps70
        go_wp2
        go_ret
        exact ⟨ret_bool HF.out.symm, HBA.out⟩
set_option maxHeartbeats 3200000 in
theorem rArg_any (x : A5) (w : World) (hx : x.wf) : Calls Tryz.prog 40 #[.agg #[.int .i8 x.g, .string x.t.v, .int .i8 x.t.a.k, .int .i64 x.t.a.n, .string x.t.a.s]] w fun e w' => e = .returned (.bool (argB x)) ∧ Below w.heap.size w w' := by
  have BA := (Below.refl w.heap.size w).alloc (Nat.le_refl _) (.cells #[.int .i8 x.g, .string x.t.v, .int .i8 x.t.a.k, .int .i64 x.t.a.n, .string x.t.a.s] 58)
  have HBA : Hid (Below w.heap.size w _) := BA.alloc BA.size (.cells #[.string ⟨#[]⟩, .int .i8 0, .int .i64 0, .string ⟨#[]⟩] 44)
  have HN : Hid (∀ u, Calls Tryz.prog 65 #[.agg #[.string x.t.v, .int .i8 x.t.a.k, .int .i64 x.t.a.n, .string x.t.a.s]] u fun e w' => e = .returned (.bool (termB x.t)) ∧ Below u.heap.size u w') := fun u => rterm_any x.t u hx.t
  have HNB : Hid (namedB x.t = (!decide (x.t.v = blankS) && termB x.t)) := rfl
  clear hx BA
  by_cases g0 : x.g = 0
  · have f0 : (x.g == 0) = true := by rw [g0]; rfl
    have HF : Hid _ := argB_0 g0
    clear g0
    by_cases eb : x.t.v = blankS
    · have hB : (x.t.v.toList == [95]) = true := by rw [eb, ByteArray.toList_eq]; rfl
      have HF2 : Hid (argB x = false) := by show _ = _; rw [HF.out, HNB.out, decide_eq_true eb]; rfl
      clear eb
      go_enter Tryz.func40, Tryz.ntmps40
      go_wp2
      go_ret
      exact ⟨ret_bool HF2.out.symm, HBA.out⟩
    · have hB := blank_iff eb
      have HF2 : Hid (argB x = termB x.t) := by show _ = _; rw [HF.out, HNB.out, decide_eq_false eb]; rfl
      clear eb
      go_enter Tryz.func40, Tryz.ntmps40
      go_wp2_with (go_at_call 65; refine Calls.mono (HN.out _) ?_; rintro ee w1 ⟨rfl, b1⟩)
      go_ret
      exact ⟨ret_bool HF2.out.symm, HBA.out.trans (b1.mono HBA.out.size)⟩
  · have f0 : (x.g == 0) = false := by rw [beq_eq_false_iff_ne]; exact g0
    by_cases g1 : x.g = 1
    · have f1 : (x.g == 1) = true := by rw [g1]; rfl
      have HF : Hid _ := argB_1 g1
      have hQ := run_eqT x.t T0
      unfold T0 V0 noS at hQ
      dsimp only at hQ
      clear g0 g1
      go_enter Tryz.func40, Tryz.ntmps40
      go_wp2
      go_ret
      exact ⟨ret_bool HF.out.symm, HBA.out⟩
    · have f1 : (x.g == 1) = false := by rw [beq_eq_false_iff_ne]; exact g1
      by_cases g2 : x.g = 2 ∨ x.g = 3 ∨ x.g = 4
      · have HF : Hid _ := argB_2 g2
        have F : (x.g == 2) = true ∨ ((x.g == 2) = false ∧ (x.g == 3) = true) ∨ ((x.g == 2) = false ∧ (x.g == 3) = false ∧ (x.g == 4) = true) := by
          rcases g2 with e | e | e
          · exact .inl (by rw [e]; rfl)
          · exact .inr (.inl ⟨by rw [e]; rfl, by rw [e]; rfl⟩)
          · exact .inr (.inr ⟨by rw [e]; rfl, by rw [e]; rfl, by rw [e]; rfl⟩)
        clear g0 g1 g2
        by_cases en : x.t.v = noS
        · have he : x.t.v.toList.isEmpty = true := by rw [en, ByteArray.toList_eq]; rfl
          have HF2 : Hid (argB x = false) := by show _ = _; rw [HF.out, decide_eq_true en]; simp
          clear en
          rcases F with f2 | ⟨f2, f3⟩ | ⟨f2, f3, f4⟩
          all_goals
            go_enter Tryz.func40, Tryz.ntmps40
            go_wp2
            go_ret
            exact ⟨ret_bool HF2.out.symm, HBA.out⟩
        · have he := some_iff x.t.v en
          by_cases eb : x.t.v = blankS
          · have hB : (x.t.v.toList == [95]) = true := by rw [eb, ByteArray.toList_eq]; rfl
            have HF2 : Hid (argB x = false) := by show _ = _; rw [HF.out, HNB.out, decide_eq_true eb]; rfl
            clear eb en
            rcases F with f2 | ⟨f2, f3⟩ | ⟨f2, f3, f4⟩
            all_goals
              go_enter Tryz.func40, Tryz.ntmps40
              go_wp2
              go_ret
              exact ⟨ret_bool HF2.out.symm, HBA.out⟩
          · have hB := blank_iff eb
            have HF2 : Hid (argB x = termB x.t) := by show _ = _; rw [HF.out, HNB.out, decide_eq_false eb, decide_eq_false en]; simp
            clear eb en
            rcases F with f2 | ⟨f2, f3⟩ | ⟨f2, f3, f4⟩
            all_goals
              go_enter Tryz.func40, Tryz.ntmps40
              go_wp2_with (go_at_call 65; refine Calls.mono (HN.out _) ?_; rintro ee w1 ⟨rfl, b1⟩)
              go_ret
              exact ⟨ret_bool HF2.out.symm, HBA.out.trans (b1.mono HBA.out.size)⟩
      · have f2 : (x.g == 2) = false := by rw [beq_eq_false_iff_ne]; omega
        have f3 : (x.g == 3) = false := by rw [beq_eq_false_iff_ne]; omega
        have f4 : (x.g == 4) = false := by rw [beq_eq_false_iff_ne]; omega
        have HF : Hid (argB x = false) := argB_n ⟨g0, g1, by omega, by omega, by omega⟩
        clear g0 g1 g2
        go_enter Tryz.func40, Tryz.ntmps40
        go_wp2
        go_ret
        exact ⟨ret_bool HF.out.symm, HBA.out⟩
end Go.Proofs.YtgfnijhhhgjabaaGreatDoor
end
section
namespace Go.Proofs.YtgfnijhhhgjabaaGreatDoor
open Go.RowKit Go.Maps
set_option linter.unusedVariables false
set_option linter.unusedSimpArgs false
attribute [local go_sem ↓] Go.wp_at_zero Go.wp_at_succ
attribute [-go_sem] loadVar storeVar

set_option maxHeartbeats 6400000 in
theorem isRule_any (d : Nat) (r : R3) (p : RP) (w : World) (hT : KT w) (hR : RIs w d r p) (hs : smallR d r) : Calls Tryz.prog 43 #[r.val p] w fun e w' => e = .returned (.bool (ruleB d r)) ∧ Below w.heap.size w w' := by
  obtain ⟨pr, hd, bd⟩ := r
  obtain ⟨pa, pc, ba, bc⟩ := p
  have HA : Hid (ruleB d ⟨pr, hd, bd⟩ = (nameB pr && (decide (hd.length ≤ 24) && (decide (bd.length ≤ 16) && (hd.all argB && (bd.all (fun y => litB y.x) && decide ((vsT [] (termsR d ⟨pr, hd, bd⟩)).length ≤ 24))))))) := rfl
  have HVs : Hid (∀ u, Below w.heap.size w u → Calls Tryz.prog 19 #[.agg #[.string pr, .slice pa hd.length pc, .slice ba bd.length bc]] u fun e w' => ∃ sv, e = .returned sv ∧ Ls w' sv (vsT [] (termsR d ⟨pr, hd, bd⟩)).length ((vsT [] (termsR d ⟨pr, hd, bd⟩)).flatMap strB) ∧ Below u.heap.size u w') := fun u hu => vruleVars_any d ⟨pr, hd, bd⟩ ⟨pa, pc, ba, bc⟩ u (hR.below hu) (by have := hs.terms; omega)
  have hhl := hR.hl
  have hbl := hR.bl
  have hpb := hR.pb
  have h1 := hR.hd
  have h2 := hR.bd
  unfold R3.val
  dsimp only at hhl hbl hpb h1 h2 ⊢
  have HAi : Hid (∀ i, i < hd.length → ∀ u, Calls Tryz.prog 70 #[.agg (atA hd i).cells.toArray] u fun e w' => e = .returned (.bool (argB (atA hd i))) ∧ Below u.heap.size u w') := fun i hi u => tArg_any _ u (h1.at_wf hi)
  have HLi : Hid (∀ i, i < bd.length → ∀ u, Below w.heap.size w u → Calls Tryz.prog 71 #[.agg (atL bd i).cells.toArray] u fun e w' => e = .returned (.bool (litB (atL bd i).x)) ∧ Below u.heap.size u w') := fun i hi => fun u hu => isLiteral_any d _ _ u (hT.below hu) ((h2.at_is hi).below hu) (h2.at_is hi).l.len (h2.at_is hi).r.len
  obtain ⟨a1, c1, e1, hc1, hc2, hk1⟩ := h1.form
  cases e1
  obtain ⟨a2, c2, e2, hc3, hc4, hk2⟩ := h2.form
  cases e2
  have HK1 : Hid _ := hk1
  have HK2 : Hid _ := hk2
  have HBA : Hid (Below w.heap.size w (w.alloc (.cells #[.string pr, .slice pa hd.length pc, .slice ba bd.length bc] 25))) := (Below.refl w.heap.size w).alloc (Nat.le_refl _) _
  have HR0 : Hid (RL (w.alloc (.cells #[.string pr, .slice pa hd.length pc, .slice ba bd.length bc] 25)) w.heap.size 25 [.string pr, .slice pa hd.length pc, .slice ba bd.length bc]) := rl_new w #[.string pr, .slice pa hd.length pc, .slice ba bd.length bc] 25
  have HLD : Hid (∀ u, RL u w.heap.size 25 [.string pr, .slice pa hd.length pc, .slice ba bd.length bc] → (loadVar 25 ⟨w.heap.size, 0, none⟩).run Tryz.prog u = .ok (.agg #[.string pr, .slice pa hd.length pc, .slice ba bd.length bc]) u) := fun u hu => run_loadVar_mid _ _ 0 25 [.string pr, .slice pa hd.length pc, .slice ba bd.length bc] _ (RL.range hu) Tryz.underlying25 rfl (by kernel_rfl)
  have hagg1 := fun q => loadVar.eq_1 23 q
  have hagg2 := fun q => loadVar.eq_1 22 q
  have hagg3 := fun q => loadVar.eq_1 9 q
  obtain ⟨vn, hvn⟩ : ∃ vn, vsT [] (termsR d ⟨pr, hd, bd⟩) = vn := ⟨_, rfl⟩
  rw [hvn] at HA HVs
  obtain ⟨rb, hrb⟩ : ∃ rb, ruleB d ⟨pr, hd, bd⟩ = rb := ⟨_, rfl⟩
  rw [hrb] at HA ⊢
  clear hk1 hk2 h1 h2 hR hs hvn hrb hc2 hc4 hc1 hc3 hT
  go_enter Tryz.func43, Tryz.ntmps43
  go_wp2_with fail
  refine (tName_any pr _ hpb).mono ?_
  rintro e w1 ⟨rfl, b1⟩
  have HB1 : Hid (Below w.heap.size w w1) := HBA.out.trans (b1.mono HBA.out.size)
  have HR1 : Hid (RL w1 w.heap.size 25 [.string pr, .slice pa hd.length pc, .slice ba bd.length bc]) := RL.below HR0.out b1
  clear b1 HR0 HBA
  have r1 := HR1.out.at (j := 1) rfl
  have r2 := HR1.out.at (j := 2) rfl
  cases hn : nameB pr
  · have HF : Hid (rb = false) := by show _ = _; rw [HA.out, hn]; rfl
    go_wp2
    go_ret
    exact ⟨ret_bool HF.out.symm, HB1.out⟩
  · by_cases h24 : hd.length ≤ 24
    · by_cases h16 : bd.length ≤ 16
      · have h24' : (hd.length : Int) ≤ 24 := by omega
        have h16' : (bd.length : Int) ≤ 16 := by omega
        have HB : Hid (rb = (hd.all argB && (bd.all (fun y => litB y.x) && decide (vn.length ≤ 24)))) := by show _ = _; rw [HA.out, hn, decide_eq_true h24, decide_eq_true h16]; rfl
        clear HA hn
        go_wp2
        clear r1 r2
        go_loopw [26] (fun i wr => ∃ k : Nat, k ≤ hd.length ∧ i = .int .i64 k ∧ Below w.heap.size w wr ∧ Hid (RL wr w.heap.size 25 [.string pr, .slice pa hd.length pc, .slice ba bd.length bc]) ∧ Hid ((hd.take k).all argB = true)) (fun i _ => hd.length - (intOf i).toNat)
        case atStart => exact ⟨0, Nat.zero_le _, rfl, HB1.out, HR1, by simp [Hid]⟩
        case round =>
          obtain ⟨k, hk, rfl, bel, HRw, HS⟩ := hrel
          by_cases hlt : k < hd.length
          · have hlt' : (k : Int) < (hd.length : Int) := by omega
            have hk0 : (0 : Int) ≤ (k : Int) := by omega
            obtain ⟨g, off, rfl, hg, hT⟩ := HK1.out (by omega)
            have hld := load_Arg (range_below (hT k hlt) bel hg) rfl
            have HI : Hid _ := HAi.out k hlt
            have HN : Hid (argB (atA hd k) = false → rb = false) := fun h => by rw [HB.out, allA_not hlt h]; rfl
            have HY : Hid (argB (atA hd k) = true → (hd.take (k + 1)).all argB = true) := fun h => by rw [allA_take hlt, HS.out, h]; rfl
            have hst : (storeVar 58 ⟨wr.heap.size, 0, none⟩ (.agg (atA hd k).cells.toArray)).run Tryz.prog (wr.alloc (.cells #[.int .i8 0, .string ⟨#[]⟩, .int .i8 0, .int .i64 0, .string ⟨#[]⟩] 58)) = .ok () (wr.alloc (.cells (atA hd k).cells.toArray 58)) := run_storeVar_new wr 58 #[.int .i8 0, .string ⟨#[]⟩, .int .i8 0, .int .i64 0, .string ⟨#[]⟩] (atA hd k).cells.toArray (by kernel_rfl) rfl (oneCells_arg _)
            have hl2 := load_Arg (RL.range (rl_new wr (atA hd k).cells.toArray 58)) rfl
            have HB2 : Hid (Below w.heap.size w (wr.alloc (.cells (atA hd k).cells.toArray 58))) := bel.alloc bel.size _
            have HBN : Hid (Below wr.heap.size wr (wr.alloc (.cells (atA hd k).cells.toArray 58))) := (Below.refl _ _).alloc (Nat.le_refl _) _
            generalize wr.alloc (.cells (atA hd k).cells.toArray 58) = W2 at hst hl2 HB2 HBN
            have hl2' : (loadVar 58 ⟨wr.heap.size, 0, none⟩).run Tryz.prog W2 = .ok (.agg (atA hd k).cells.toArray) W2 := hl2
            clear hl2
            generalize Value.agg (atA hd k).cells.toArray = QV at hld hst hl2' HI
            generalize argB (atA hd k) = ab at HI HN HY
            clear hT
            go_wp2_with fail
            refine Calls.mono (HI.out _) ?_
            rintro e w2 ⟨rfl, b2⟩
            have bel2 : Below w.heap.size w w2 := HB2.out.trans (b2.mono HB2.out.size)
            have HR2 : Hid (RL w2 w.heap.size 25 _) := RL.below (RL.below HRw.out HBN.out) b2
            clear b2 HI hld hst hl2'
            cases ab
            · go_wp2
              go_ret
              exact ⟨ret_bool (HN.out (by first | rfl | trivial)).symm, bel2⟩
            · go_wp2
              go_roundw
              case rel => exact ⟨k + 1, by omega, by go_num, bel2, HR2, HY.out (by first | rfl | trivial)⟩
              case measure => simp [intOf]; omega
          · obtain rfl : k = hd.length := by omega
            rw [List.take_length] at HS
            have HB2 : Hid (rb = (bd.all (fun y => litB y.x) && decide (vn.length ≤ 24))) := by show _ = _; rw [HB.out, HS.out]; rfl
            have HRx : Hid _ := HRw.out
            have q2 := HRw.out.at (j := 2) rfl
            have HBx : Hid _ := bel
            clear HB HS HRw bel
            go_wp2
            clear q2
            go_loopw [37] (fun i wr => ∃ k : Nat, k ≤ bd.length ∧ i = .int .i64 k ∧ Below w.heap.size w wr ∧ Hid (RL wr w.heap.size 25 [.string pr, .slice pa hd.length pc, .slice ba bd.length bc]) ∧ Hid ((bd.take k).all (fun y => litB y.x) = true)) (fun i _ => bd.length - (intOf i).toNat)
            case atStart => exact ⟨0, Nat.zero_le _, rfl, HBx.out, HRx, by simp [Hid]⟩
            case round =>
              obtain ⟨k, hk, rfl, bel, HRw, HS⟩ := hrel
              by_cases hlt : k < bd.length
              · have hlt' : (k : Int) < (bd.length : Int) := by omega
                have hk0 : (0 : Int) ≤ (k : Int) := by omega
                obtain ⟨g, off, rfl, hg, hT⟩ := HK2.out (by omega)
                have hld := load_Lit (range_below (hT k hlt) bel hg) rfl
                have HI : Hid _ := HLi.out k hlt
                have HN : Hid (litB (atL bd k).x = false → rb = false) := fun h => by rw [HB2.out, allL_not (f := fun y => litB y.x) hlt h]; rfl
                have HY : Hid (litB (atL bd k).x = true → (bd.take (k + 1)).all (fun y => litB y.x) = true) := fun h => by rw [allL_take (f := fun y => litB y.x) hlt, HS.out, h]; rfl
                have hst : (storeVar 55 ⟨wr.heap.size, 0, none⟩ (.agg (atL bd k).cells.toArray)).run Tryz.prog (wr.alloc (.cells #[.int .i8 0, .string ⟨#[]⟩, .slice none 0 0, .int .i8 0, .int .i8 0, .string ⟨#[]⟩, .int .i8 0, .int .i64 0, .string ⟨#[]⟩, .slice none 0 0, .int .i8 0, .string ⟨#[]⟩, .int .i8 0, .int .i64 0, .string ⟨#[]⟩, .slice none 0 0] 55)) = .ok () (wr.alloc (.cells (atL bd k).cells.toArray 55)) := run_storeVar_new wr 55 #[.int .i8 0, .string ⟨#[]⟩, .slice none 0 0, .int .i8 0, .int .i8 0, .string ⟨#[]⟩, .int .i8 0, .int .i64 0, .string ⟨#[]⟩, .slice none 0 0, .int .i8 0, .string ⟨#[]⟩, .int .i8 0, .int .i64 0, .string ⟨#[]⟩, .slice none 0 0] (atL bd k).cells.toArray (by kernel_rfl) rfl (oneCells_lit _)
                have hl2 := load_Lit (RL.range (rl_new wr (atL bd k).cells.toArray 55)) rfl
                have HB3 : Hid (Below w.heap.size w (wr.alloc (.cells (atL bd k).cells.toArray 55))) := bel.alloc bel.size _
                have HBN : Hid (Below wr.heap.size wr (wr.alloc (.cells (atL bd k).cells.toArray 55))) := (Below.refl _ _).alloc (Nat.le_refl _) _
                generalize wr.alloc (.cells (atL bd k).cells.toArray 55) = W2 at hst hl2 HB3 HBN
                have hl2' : (loadVar 55 ⟨wr.heap.size, 0, none⟩).run Tryz.prog W2 = .ok (.agg (atL bd k).cells.toArray) W2 := hl2
                clear hl2
                generalize Value.agg (atL bd k).cells.toArray = QV at hld hst hl2' HI
                generalize litB (atL bd k).x = ab at HI HN HY
                clear hT
                go_wp2_with fail
                refine Calls.mono (HI.out _ HB3.out) ?_
                rintro e w2 ⟨rfl, b2⟩
                have bel2 : Below w.heap.size w w2 := HB3.out.trans (b2.mono HB3.out.size)
                have HR2 : Hid (RL w2 w.heap.size 25 _) := RL.below (RL.below HRw.out HBN.out) b2
                clear b2 HI hld hst hl2'
                cases ab
                · go_wp2
                  go_ret
                  exact ⟨ret_bool (HN.out (by first | rfl | trivial)).symm, bel2⟩
                · go_wp2
                  go_roundw
                  case rel => exact ⟨k + 1, by omega, by go_num, bel2, HR2, HY.out (by first | rfl | trivial)⟩
                  case measure => simp [intOf]; omega
              · obtain rfl : k = bd.length := by omega
                rw [List.take_length] at HS
                have HB4 : Hid (rb = decide (vn.length ≤ 24)) := by show _ = _; rw [HB2.out, HS.out]; rfl
                have hl9 := HLD.out _ HRw.out
                go_wp2_with fail
                refine Calls.mono (HVs.out _ bel) ?_
                rintro e w2 ⟨sv, rfl, hls, b2⟩
                obtain ⟨va, vc, rfl, hv1, hv2, _⟩ := ls_str hls
                have bel2 : Below w.heap.size w w2 := bel.trans (b2.mono bel.size)
                clear hls b2 hl9 HB2 HS
                go_wp2
                go_ret
                exact ⟨ret_bool (by rw [HB4.out]; rw [Bool.eq_iff_iff]; simp only [decide_eq_true_eq]; omega), bel2⟩
      · have h16' : (16 : Int) < (bd.length : Int) := by omega
        have h24' : (hd.length : Int) ≤ 24 := by omega
        have HF : Hid (rb = false) := by show _ = _; rw [HA.out, decide_eq_false h16]; simp
        go_wp2
        go_ret
        exact ⟨ret_bool HF.out.symm, HB1.out⟩
    · have h24' : (24 : Int) < (hd.length : Int) := by omega
      have HF : Hid (rb = false) := by show _ = _; rw [HA.out, decide_eq_false h24]; simp
      go_wp2
      go_ret
      exact ⟨ret_bool HF.out.symm, HB1.out⟩
set_option maxHeartbeats 6400000 in
theorem rrule_any (d : Nat) (r : R3) (p : RP) (w : World) (hR : RIs w d r p) (hs : smallR d r) : Calls Tryz.prog 16 #[r.val p] w fun e w' => e = .returned (.bool (ruleB d r)) ∧ Below w.heap.size w w' := by
  obtain ⟨pr, hd, bd⟩ := r
  obtain ⟨pa, pc, ba, bc⟩ := p
  have HA : Hid (ruleB d ⟨pr, hd, bd⟩ = (nameB pr && (decide (hd.length ≤ 24) && (decide (bd.length ≤ 16) && (hd.all argB && (bd.all (fun y => litB y.x) && decide ((vsT [] (termsR d ⟨pr, hd, bd⟩)).length ≤ 24))))))) := rfl
  have HVs : Hid (∀ u, Below w.heap.size w u → Calls Tryz.prog 10 #[.agg #[.string pr, .slice pa hd.length pc, .slice ba bd.length bc]] u fun e w' => ∃ sv, e = .returned sv ∧ Ls w' sv (vsT [] (termsR d ⟨pr, hd, bd⟩)).length ((vsT [] (termsR d ⟨pr, hd, bd⟩)).flatMap strB) ∧ Below u.heap.size u w') := fun u hu => rruleVars_any d ⟨pr, hd, bd⟩ ⟨pa, pc, ba, bc⟩ u (hR.below hu) hs.terms
  have hhl := hR.hl
  have hbl := hR.bl
  have hpb := hR.pb
  have h1 := hR.hd
  have h2 := hR.bd
  unfold R3.val
  dsimp only at hhl hbl hpb h1 h2 ⊢
  have HAi : Hid (∀ i, i < hd.length → ∀ u, Calls Tryz.prog 40 #[.agg (atA hd i).cells.toArray] u fun e w' => e = .returned (.bool (argB (atA hd i))) ∧ Below u.heap.size u w') := fun i hi u => rArg_any _ u (h1.at_wf hi)
  have HLi : Hid (∀ i, i < bd.length → ∀ u, Below w.heap.size w u → Calls Tryz.prog 41 #[.agg (atL bd i).cells.toArray] u fun e w' => e = .returned (.bool (litB (atL bd i).x)) ∧ Below u.heap.size u w') := fun i hi => fun u hu => rliteral_any d _ _ u ((h2.at_is hi).below hu) (h2.at_is hi).l.len (h2.at_is hi).r.len
  obtain ⟨a1, c1, e1, hc1, hc2, hk1⟩ := h1.form
  cases e1
  obtain ⟨a2, c2, e2, hc3, hc4, hk2⟩ := h2.form
  cases e2
  have HK1 : Hid _ := hk1
  have HK2 : Hid _ := hk2
  have HBA : Hid (Below w.heap.size w (w.alloc (.cells #[.string pr, .slice pa hd.length pc, .slice ba bd.length bc] 25))) := (Below.refl w.heap.size w).alloc (Nat.le_refl _) _
  have HR0 : Hid (RL (w.alloc (.cells #[.string pr, .slice pa hd.length pc, .slice ba bd.length bc] 25)) w.heap.size 25 [.string pr, .slice pa hd.length pc, .slice ba bd.length bc]) := rl_new w #[.string pr, .slice pa hd.length pc, .slice ba bd.length bc] 25
  have HLD : Hid (∀ u, RL u w.heap.size 25 [.string pr, .slice pa hd.length pc, .slice ba bd.length bc] → (loadVar 25 ⟨w.heap.size, 0, none⟩).run Tryz.prog u = .ok (.agg #[.string pr, .slice pa hd.length pc, .slice ba bd.length bc]) u) := fun u hu => run_loadVar_mid _ _ 0 25 [.string pr, .slice pa hd.length pc, .slice ba bd.length bc] _ (RL.range hu) Tryz.underlying25 rfl (by kernel_rfl)
  have hagg1 := fun q => loadVar.eq_1 23 q
  have hagg2 := fun q => loadVar.eq_1 22 q
  have hagg3 := fun q => loadVar.eq_1 9 q
  obtain ⟨vn, hvn⟩ : ∃ vn, vsT [] (termsR d ⟨pr, hd, bd⟩) = vn := ⟨_, rfl⟩
  rw [hvn] at HA HVs
  obtain ⟨rb, hrb⟩ : ∃ rb, ruleB d ⟨pr, hd, bd⟩ = rb := ⟨_, rfl⟩
  rw [hrb] at HA ⊢
  clear hk1 hk2 h1 h2 hR hs hvn hrb hc2 hc4 hc1 hc3
  go_enter Tryz.func16, Tryz.ntmps16
  go_wp2_with fail
  refine (rName_any pr _ hpb).mono ?_
  rintro e w1 ⟨rfl, hw1⟩
  subst hw1
  have HB1 : Hid (Below w.heap.size w (w.alloc (.cells #[.string pr, .slice pa hd.length pc, .slice ba bd.length bc] 25))) := HBA.out
  have HR1 : Hid (RL (w.alloc (.cells #[.string pr, .slice pa hd.length pc, .slice ba bd.length bc] 25)) w.heap.size 25 [.string pr, .slice pa hd.length pc, .slice ba bd.length bc]) := HR0.out
  clear HR0 HBA
  generalize w.alloc (.cells #[.string pr, .slice pa hd.length pc, .slice ba bd.length bc] 25) = w1 at HB1 HR1 ⊢
  have r1 := HR1.out.at (j := 1) rfl
  have r2 := HR1.out.at (j := 2) rfl
  cases hn : nameB pr
  · have HF : Hid (rb = false) := by show _ = _; rw [HA.out, hn]; rfl
    go_wp2
    go_ret
    exact ⟨ret_bool HF.out.symm, HB1.out⟩
  · by_cases h24 : hd.length ≤ 24
    · by_cases h16 : bd.length ≤ 16
      · have h24' : (hd.length : Int) ≤ 24 := by omega
        have h16' : (bd.length : Int) ≤ 16 := by omega
        have HB : Hid (rb = (hd.all argB && (bd.all (fun y => litB y.x) && decide (vn.length ≤ 24)))) := by show _ = _; rw [HA.out, hn, decide_eq_true h24, decide_eq_true h16]; rfl
        clear HA hn
        go_wp2
        clear r1 r2
        go_loopw [3] (fun i wr => ∃ k : Nat, k ≤ hd.length ∧ i = .int .i64 k ∧ Below w.heap.size w wr ∧ Hid (RL wr w.heap.size 25 [.string pr, .slice pa hd.length pc, .slice ba bd.length bc]) ∧ Hid ((hd.take k).all argB = true)) (fun i _ => hd.length - (intOf i).toNat)
        case atStart => exact ⟨0, Nat.zero_le _, rfl, HB1.out, HR1, by simp [Hid]⟩
        case round =>
          obtain ⟨k, hk, rfl, bel, HRw, HS⟩ := hrel
          have r1 := HRw.out.at (j := 1) rfl
          by_cases hlt : k < hd.length
          · have hlt' : (k : Int) < (hd.length : Int) := by omega
            have hk0 : (0 : Int) ≤ (k : Int) := by omega
            obtain ⟨g, off, rfl, hg, hT⟩ := HK1.out (by omega)
            have hld := load_Arg (range_below (hT k hlt) bel hg) rfl
            have HI : Hid _ := HAi.out k hlt
            have HN : Hid (argB (atA hd k) = false → rb = false) := fun h => by rw [HB.out, allA_not hlt h]; rfl
            have HY : Hid (argB (atA hd k) = true → (hd.take (k + 1)).all argB = true) := fun h => by rw [allA_take hlt, HS.out, h]; rfl
            have HB2 : Hid (Below w.heap.size w wr) := bel
            generalize Value.agg (atA hd k).cells.toArray = QV at hld HI
            generalize argB (atA hd k) = ab at HI HN HY
            clear hT
            go_wp2_with fail
            refine Calls.mono (HI.out _) ?_
            rintro e w2 ⟨rfl, b2⟩
            have bel2 : Below w.heap.size w w2 := HB2.out.trans (b2.mono HB2.out.size)
            have HR2 : Hid (RL w2 w.heap.size 25 _) := RL.below (HRw.out) b2
            clear b2 HI hld r1
            cases ab
            · go_wp2
              go_ret
              exact ⟨ret_bool (HN.out (by first | rfl | trivial)).symm, bel2⟩
            · go_wp2
              go_roundw
              case rel => exact ⟨k + 1, by omega, by go_num, bel2, HR2, HY.out (by first | rfl | trivial)⟩
              case measure => simp [intOf]; omega
          · obtain rfl : k = hd.length := by omega
            rw [List.take_length] at HS
            have HB2 : Hid (rb = (bd.all (fun y => litB y.x) && decide (vn.length ≤ 24))) := by show _ = _; rw [HB.out, HS.out]; rfl
            have HRx : Hid _ := HRw.out
            have q2 := HRw.out.at (j := 2) rfl
            have HBx : Hid _ := bel
            clear HB HS HRw bel
            go_wp2
            clear q2 r1
            go_loopw [4] (fun i wr => ∃ k : Nat, k ≤ bd.length ∧ i = .int .i64 k ∧ Below w.heap.size w wr ∧ Hid (RL wr w.heap.size 25 [.string pr, .slice pa hd.length pc, .slice ba bd.length bc]) ∧ Hid ((bd.take k).all (fun y => litB y.x) = true)) (fun i _ => bd.length - (intOf i).toNat)
            case atStart => exact ⟨0, Nat.zero_le _, rfl, HBx.out, HRx, by simp [Hid]⟩
            case round =>
              obtain ⟨k, hk, rfl, bel, HRw, HS⟩ := hrel
              have r2 := HRw.out.at (j := 2) rfl
              by_cases hlt : k < bd.length
              · have hlt' : (k : Int) < (bd.length : Int) := by omega
                have hk0 : (0 : Int) ≤ (k : Int) := by omega
                obtain ⟨g, off, rfl, hg, hT⟩ := HK2.out (by omega)
                have hld := load_Lit (range_below (hT k hlt) bel hg) rfl
                have HI : Hid _ := HLi.out k hlt
                have HN : Hid (litB (atL bd k).x = false → rb = false) := fun h => by rw [HB2.out, allL_not (f := fun y => litB y.x) hlt h]; rfl
                have HY : Hid (litB (atL bd k).x = true → (bd.take (k + 1)).all (fun y => litB y.x) = true) := fun h => by rw [allL_take (f := fun y => litB y.x) hlt, HS.out, h]; rfl
                have HB3 : Hid (Below w.heap.size w wr) := bel
                generalize Value.agg (atL bd k).cells.toArray = QV at hld HI
                generalize litB (atL bd k).x = ab at HI HN HY
                clear hT
                go_wp2_with fail
                refine Calls.mono (HI.out _ HB3.out) ?_
                rintro e w2 ⟨rfl, b2⟩
                have bel2 : Below w.heap.size w w2 := HB3.out.trans (b2.mono HB3.out.size)
                have HR2 : Hid (RL w2 w.heap.size 25 _) := RL.below (HRw.out) b2
                clear b2 HI hld r2
                cases ab
                · go_wp2
                  go_ret
                  exact ⟨ret_bool (HN.out (by first | rfl | trivial)).symm, bel2⟩
                · go_wp2
                  go_roundw
                  case rel => exact ⟨k + 1, by omega, by go_num, bel2, HR2, HY.out (by first | rfl | trivial)⟩
                  case measure => simp [intOf]; omega
              · obtain rfl : k = bd.length := by omega
                rw [List.take_length] at HS
                have HB4 : Hid (rb = decide (vn.length ≤ 24)) := by show _ = _; rw [HB2.out, HS.out]; rfl
                have hl9 := HLD.out _ HRw.out
                go_wp2_with fail
                refine Calls.mono (HVs.out _ bel) ?_
                rintro e w2 ⟨sv, rfl, hls, b2⟩
                obtain ⟨va, vc, rfl, hv1, hv2, _⟩ := ls_str hls
                have bel2 : Below w.heap.size w w2 := bel.trans (b2.mono bel.size)
                clear hls b2 hl9 HB2 HS r2
                go_wp2
                go_ret
                exact ⟨ret_bool (by rw [HB4.out]; rw [Bool.eq_iff_iff]; simp only [decide_eq_true_eq]; omega), bel2⟩
      · have h16' : (16 : Int) < (bd.length : Int) := by omega
        have h24' : (hd.length : Int) ≤ 24 := by omega
        have HF : Hid (rb = false) := by show _ = _; rw [HA.out, decide_eq_false h16]; simp
        go_wp2
        go_ret
        exact ⟨ret_bool HF.out.symm, HB1.out⟩
    · have h24' : (24 : Int) < (hd.length : Int) := by omega
      have HF : Hid (rb = false) := by show _ = _; rw [HA.out, decide_eq_false h24]; simp
      go_wp2
      go_ret
      exact ⟨ret_bool HF.out.symm, HB1.out⟩
theorem checkRule_any (d : Nat) (r : R3) (p : RP) (w : World) (hT : KT w) (hR : RIs w d r p) (hs : smallR d r) : Calls Tryz.prog 17 #[r.val p] w fun e w' => e = .returned (.int .i64 (errB (ruleB d r))) ∧ Below w.heap.size w w' := by
  have BA := (Below.refl w.heap.size w).alloc (Nat.le_refl _) (.cells #[.string r.pr, .slice p.a r.hd.length p.c, .slice p.ba r.bd.length p.bc] 25)
  have HL : Hid _ := isRule_any d r p _ (hT.below BA) (hR.below BA) hs
  have hld : (loadVar 25 ⟨w.heap.size, 0, none⟩).run Tryz.prog (w.alloc (.cells #[.string r.pr, .slice p.a r.hd.length p.c, .slice p.ba r.bd.length p.bc] 25)) = .ok (.agg #[.string r.pr, .slice p.a r.hd.length p.c, .slice p.ba r.bd.length p.bc]) _ := run_loadVar_mid _ _ 0 25 [.string r.pr, .slice p.a r.hd.length p.c, .slice p.ba r.bd.length p.bc] _ (RL.range (rl_new w #[.string r.pr, .slice p.a r.hd.length p.c, .slice p.ba r.bd.length p.bc] 25)) Tryz.underlying25 rfl (by kernel_rfl)
  clear hR hs hT
  unfold R3.val at *
  go_enter Tryz.func17, Tryz.ntmps17
  go_wp2_with fail
  refine Calls.mono HL.out ?_
  rintro ee w1 ⟨rfl, b1⟩
  go_wp2_with fail
  refine (verdict_any _ _).mono ?_
  rintro ee w2 ⟨rfl, rfl⟩
  go_wp2
  go_ret
  exact ⟨rfl, BA.trans (b1.mono BA.size)⟩
theorem rcheckRule_any (d : Nat) (r : R3) (p : RP) (w : World) (hR : RIs w d r p) (hs : smallR d r) : Calls Tryz.prog 6 #[r.val p] w fun e w' => e = .returned (.int .i64 (errB (ruleB d r))) ∧ Below w.heap.size w w' := by
  have BA := (Below.refl w.heap.size w).alloc (Nat.le_refl _) (.cells #[.string r.pr, .slice p.a r.hd.length p.c, .slice p.ba r.bd.length p.bc] 25)
  have HL : Hid _ := rrule_any d r p _ (hR.below BA) hs
  have hld : (loadVar 25 ⟨w.heap.size, 0, none⟩).run Tryz.prog (w.alloc (.cells #[.string r.pr, .slice p.a r.hd.length p.c, .slice p.ba r.bd.length p.bc] 25)) = .ok (.agg #[.string r.pr, .slice p.a r.hd.length p.c, .slice p.ba r.bd.length p.bc]) _ := run_loadVar_mid _ _ 0 25 [.string r.pr, .slice p.a r.hd.length p.c, .slice p.ba r.bd.length p.bc] _ (RL.range (rl_new w #[.string r.pr, .slice p.a r.hd.length p.c, .slice p.ba r.bd.length p.bc] 25)) Tryz.underlying25 rfl (by kernel_rfl)
  clear hR hs
  unfold R3.val at *
  go_enter Tryz.func6, Tryz.ntmps6
  go_wp2_with fail
  refine Calls.mono HL.out ?_
  rintro ee w1 ⟨rfl, b1⟩
  go_wp2_with fail
  refine (said_any _ _).mono ?_
  rintro ee w2 ⟨rfl, rfl⟩
  go_wp2
  go_ret
  exact ⟨rfl, BA.trans (b1.mono BA.size)⟩
end Go.Proofs.YtgfnijhhhgjabaaGreatDoor
end
