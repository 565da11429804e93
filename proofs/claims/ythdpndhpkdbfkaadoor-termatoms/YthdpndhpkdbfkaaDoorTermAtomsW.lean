import Derived.Test.YthdpndhpkdbfkaaDoorTermVars
import Derived.Test.YthdpndhpkdbfkaaDoorLitTwin
import Derived.Deep.RegionHeld3
namespace Go.Proofs.YthdpndhpkdbfkaaDoor
open Go.RowKit Go.Maps
set_option linter.unusedVariables false
set_option linter.unusedSimpArgs false
attribute [local go_sem ↓] Go.wp_at_zero Go.wp_at_succ

theorem checkAtom_any (pred : ByteArray) (v : Value) (l : List T) (w : World) (hp : pred.size ≤ maxLen) (hl : Lt w v l) : Calls Tryd.prog 5 #[.agg #[.string pred, v]] w fun e w' => e = .returned (.int .i64 (errB (atomB pred l))) ∧ Below w.heap.size w w' := by
  obtain ⟨a, c, rfl, hc1, hc2, -⟩ := hl.form
  have b0 := (Below.refl w.heap.size w).alloc (Nat.le_refl _) (.cells #[.string pred, .slice a l.length c] 24)
  go_enter Tryd.func5, Tryd.ntmps5
  go_wp2_with fail
  refine (isAtom_any pred _ l _ hp (hl.below b0)).mono ?_
  rintro e w1 ⟨rfl, b1⟩
  go_wp2_with fail
  refine (verdict_any _ _).mono ?_
  rintro e w2 ⟨rfl, rfl⟩
  go_wp2
  go_ret
  exact ⟨rfl, b0.trans (b1.mono b0.size)⟩
theorem r4checkAtom_any (pred : ByteArray) (v : Value) (l : List T) (w : World) (hp : pred.size ≤ maxLen) (hl : Lt w v l) : Calls Tryd.prog 6 #[.agg #[.string pred, v]] w fun e w' => e = .returned (.int .i64 (errB (atomB pred l))) ∧ Below w.heap.size w w' := by
  obtain ⟨a, c, rfl, hc1, hc2, -⟩ := hl.form
  have b0 := (Below.refl w.heap.size w).alloc (Nat.le_refl _) (.cells #[.string pred, .slice a l.length c] 24)
  go_enter Tryd.func6, Tryd.ntmps6
  go_wp2_with fail
  refine (ratom_any pred _ l _ hp (hl.below b0)).mono ?_
  rintro e w1 ⟨rfl, b1⟩
  go_wp2_with fail
  refine (said_any _ _).mono ?_
  rintro e w2 ⟨rfl, rfl⟩
  go_wp2
  go_ret
  exact ⟨rfl, b0.trans (b1.mono b0.size)⟩
theorem below_next {wc u v : World} (h : Below wc.heap.size wc u) (b : Below u.heap.size u v) : Below wc.heap.size wc v := h.trans (b.mono h.size)
set_option maxHeartbeats 3200000 in
theorem termAtoms_walk (pa : ByteArray) (la : List T) (aa : Option Addr) (ca : Nat) (w : World) (hp : PWt w) (hpa : pa.size ≤ maxLen) (hla : la.length ≤ 4398046511104) (hL : Lt w (.slice aa la.length ca) la) :
    Calls Tryd.prog 3 #[.agg #[.string pa, .slice aa la.length ca]] w fun r w' => r = .returned (.bool true) ∧ Below w.heap.size w w' := by
  have HP : Hid (∀ u, Below w.heap.size w u → PWt u) := fun u hu => tab_below hp hu
  have HL : Hid (∀ u, Below w.heap.size w u → Lt u (.slice aa la.length ca) la) := fun u hu => hL.below hu
  have HB0 : Hid (Below w.heap.size w (w.alloc (.cells #[.string pa, .slice aa la.length ca] 24))) := (Below.refl w.heap.size w).alloc (Nat.le_refl _) _
  have HRA : Hid (RL (w.alloc (.cells #[.string pa, .slice aa la.length ca] 24)) w.heap.size 24 [.string pa, .slice aa la.length ca]) := rl_new w #[.string pa, .slice aa la.length ca] 24
  obtain ⟨n0, hn0⟩ : ∃ n0, errB (atomB pa la) = n0 := ⟨_, rfl⟩
  have HC1 : Hid (∀ u v, Lt u v la → Calls Tryd.prog 5 #[.agg #[.string pa, v]] u fun e w' => e = .returned (.int .i64 n0) ∧ Below u.heap.size u w') := fun u v h => by
    have := checkAtom_any pa v la u hpa h
    rw [hn0] at this
    exact this
  have HC2 : Hid (∀ u v, Lt u v la → Calls Tryd.prog 6 #[.agg #[.string pa, v]] u fun e w' => e = .returned (.int .i64 n0) ∧ Below u.heap.size u w') := fun u v h => by
    have := r4checkAtom_any pa v la u hpa h
    rw [hn0] at this
    exact this
  obtain ⟨ns, hns⟩ : ∃ ns, vsT [] la = ns := ⟨_, rfl⟩
  have HV1 : Hid (∀ u v, Lt u v la → Calls Tryd.prog 8 #[.agg #[.string pa, v]] u fun e w' => ∃ sv, e = .returned sv ∧ Ls w' sv ns.length (ns.flatMap strB) ∧ Below u.heap.size u w') := fun u v h => by
    refine (vatomVars_any pa v la u hla h).mono ?_
    rintro e w' ⟨sv, rfl, ho, b⟩
    rw [hns] at ho
    exact ⟨sv, rfl, ls_own ho, b⟩
  have HV2 : Hid (∀ u v, Lt u v la → Calls Tryd.prog 9 #[.agg #[.string pa, v]] u fun e w' => ∃ sv, e = .returned sv ∧ Ls w' sv ns.length (ns.flatMap strB) ∧ Below u.heap.size u w') := fun u v h => by
    refine (atomVars_any pa v la u hla h).mono ?_
    rintro e w' ⟨sv, rfl, ho, b⟩
    rw [hns] at ho
    exact ⟨sv, rfl, ls_own ho, b⟩
  clear hp hL hpa hn0 hns
  go_enter Tryd.func3, Tryd.ntmps3
  go_wp2_with fail
  refine Calls.mono (twinAtom_any pa _ la _ (HP.out _ HB0.out) hla (HL.out _ HB0.out)) ?_
  rintro e w2 ⟨a2, rfl, b2, t2⟩
  have TT : Hid (∀ u, Below w2.heap.size w2 u → TwT u (w.alloc (.cells #[.string pa, .slice aa la.length ca] 24)).heap.size la a2 (la.length + 1)) := fun u hu => t2.below hu
  have R3 : Hid (RL (w2.alloc (.cells #[.string pa, .slice a2 la.length (la.length + 1)] 24)) w2.heap.size 24 [.string pa, .slice a2 la.length (la.length + 1)]) := rl_new w2 #[.string pa, .slice a2 la.length (la.length + 1)] 24
  have B3 : Hid (Below w2.heap.size w2 (w2.alloc (.cells #[.string pa, .slice a2 la.length (la.length + 1)] 24))) := (Below.refl _ _).alloc (Nat.le_refl _) _
  have HRA2 : Hid (RL w2 w.heap.size 24 [.string pa, .slice aa la.length ca]) := RL.below HRA.out b2
  have HB2 : Hid (Below w.heap.size w w2) := HB0.out.trans (b2.mono HB0.out.size)
  clear b2 t2 HRA HB0
  go_upto_region 2 with fail
  generalize w2.alloc (.cells #[.string pa, .slice a2 la.length (la.length + 1)] 24) = W at R3 B3 ⊢
  generalize (w.alloc (.cells #[.string pa, .slice aa la.length ca] 24)).heap.size = lo at TT
  have HC : Hid (∀ u, Below W.heap.size W u → (Below w2.heap.size w2 u ∧ Below w.heap.size w u) ∧ u.cell? ⟨w.heap.size, 0, none⟩ = some (.string pa) ∧ u.cell? ⟨w.heap.size, 1, none⟩ = some (.slice aa la.length ca) ∧ u.cell? ⟨w2.heap.size, 0, none⟩ = some (.string pa) ∧ u.cell? ⟨w2.heap.size, 1, none⟩ = some (.slice a2 la.length (la.length + 1))) := fun u hu => by
    have hu2 := B3.out.trans (hu.mono B3.out.size)
    have hr := RL.below R3.out hu
    have hra := RL.below HRA2.out hu2
    exact ⟨⟨hu2, HB2.out.trans (hu2.mono HB2.out.size)⟩, hra.at (j := 0) rfl, hra.at (j := 1) rfl, hr.at (j := 0) rfl, hr.at (j := 1) rfl⟩
  have HLu : Hid (∀ u, Below W.heap.size W u → Lt u (.slice aa la.length ca) la) := fun u hu => HL.out _ (HC.out u hu).1.2
  have HLt : Hid (∀ u, Below W.heap.size W u → Lt u (.slice a2 la.length (la.length + 1)) la) := fun u hu => (TT.out u (HC.out u hu).1.1).lt (HL.out _ (HC.out u hu).1.2) hla
  have HLf : Hid (∀ u, Below W.heap.size W u → Calls Tryd.prog 10 #[.agg #[.string pa, .slice a2 la.length (la.length + 1)], .agg #[.string pa, .slice aa la.length ca]] u fun r w' => r = .returned (.bool true) ∧ Below u.heap.size u w') := fun u hu => leftAtom_any pa la a2 aa (la.length + 1) ca lo _ hla (HP.out _ (HC.out u hu).1.2) (TT.out u (HC.out u hu).1.1) (HL.out _ (HC.out u hu).1.2)
  have hB0 : Below W.heap.size W W.drew := (Below.refl _ _).drew
  have hS0 := HC.out _ (Below.refl _ _)
  clear TT R3 B3 HRA2 HB2
  go_region_held3 (fun u => (Below W.heap.size W u) ∧ u.cell? ⟨w.heap.size, 0, none⟩ = some (.string pa) ∧ u.cell? ⟨w.heap.size, 1, none⟩ = some (.slice aa la.length ca) ∧ u.cell? ⟨w2.heap.size, 0, none⟩ = some (.string pa) ∧ u.cell? ⟨w2.heap.size, 1, none⟩ = some (.slice a2 la.length (la.length + 1)))
    (first
      | assumption
      | exact ⟨hB0, (HC.out _ hB0).2⟩
      | exact ⟨(by assumption), (HC.out _ (by assumption)).2⟩)
    (first
      | (go_at_call 5; refine Calls.mono (HC1.out _ _ (HLt.out _ (by assumption))) ?_; rintro ee w3 ⟨rfl, b3⟩; have b3' := below_next (wc := W) (by assumption) b3)
      | (go_at_call 6; refine Calls.mono (HC2.out _ _ (HLu.out _ (by assumption))) ?_; rintro ee w4 ⟨rfl, b4⟩; have b4' := below_next (wc := W) (by assumption) b4)
      | (go_at_call 8; refine Calls.mono (HV1.out _ _ (HLt.out _ (by assumption))) ?_; rintro ee w5 ⟨sv5, rfl, hs5, b5⟩; have b5' := below_next (wc := W) (by assumption) b5; have HS5 : Hid (∀ u, Below w5.heap.size w5 u → Ls u sv5 ns.length (ns.flatMap strB)) := fun u hu => hs5.below hu; clear hs5)
      | (go_at_call 9; refine Calls.mono (HV2.out _ _ (HLu.out _ (by assumption))) ?_; rintro ee w6 ⟨sv6, rfl, hs6, b6⟩; have b6' := below_next (wc := W) (by assumption) b6; have HSM : Hid _ := sameTexts_same sv5 sv6 ns w6 (HS5.out _ b6) hs6; clear hs6)
      | (go_at_call 7; refine Calls.mono HSM.out ?_; rintro ee w7 ⟨rfl, b7⟩; have b7' := below_next (wc := W) (by assumption) b7)
      | (go_at_call 10; refine Calls.mono (HLf.out _ (by assumption)) ?_; rintro ee w8 ⟨rfl, b8⟩; have b8' := below_next (wc := W) (by assumption) b8)
      | fail)
  go_wp2
  go_ret
  exact ⟨rfl, (HC.out _ (by assumption)).1.2⟩
end Go.Proofs.YthdpndhpkdbfkaaDoor
