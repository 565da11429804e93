import Derived.Test.YtoppgalbmijhdaaGreatDoorFaFact
namespace Go.Proofs.YtoppgalbmijhdaaGreatDoor
open Go.RowKit Go.Maps
set_option linter.unusedVariables false
set_option linter.unusedSimpArgs false
attribute [local go_sem ↓] Go.wp_at_zero Go.wp_at_succ
attribute [-go_sem] loadVar storeVar

structure Lf (w : World) (v : Value) (l : List XF) : Prop where
  lies : Ls w v l.length (l.flatMap XF.cells)
  each : ∀ i, i < l.length → FIs w (atF l i)
theorem Lf.below {w w' : World} {v : Value} {l : List XF} (h : Lf w v l) (b : Below w.heap.size w w') : Lf w' v l := ⟨h.lies.below b, fun i hi => (h.each i hi).below b⟩
theorem Lf.form {w : World} {v : Value} {l : List XF} (h : Lf w v l) : ∃ a c, v = .slice a l.length c ∧ l.length ≤ c ∧ c ≤ maxLen ∧ (0 < l.length → ∃ g off, a = some ⟨g, off, none⟩ ∧ g < w.heap.size ∧ ∀ i, i < l.length → w.rangeAt g (off + i * 2) (atF l i).cells) := ls_range (f := XF.cells) (k := 2) (fun _ => rfl) XF0 h.lies
/-- facts that are not beyond the bound -/
structure smallF (l : List XF) : Prop where
  len : l.length ≤ 1048576
  each : ∀ i, i < l.length → (atF l i).vs.length ≤ 1048576
  vals : (l.flatMap XF.vs).length ≤ 1048576
theorem load_Fac {u : World} {g o : Nat} {cs : List Value} (h : u.rangeAt g o cs) (hl : cs.length = 2) : (loadVar 31 ⟨g, o, none⟩).run Tryz.prog u = .ok (.agg cs.toArray) u :=
  run_loadVar_mid u g o _ cs _ h Tryz.underlying31 rfl (by rw [hl]; kernel_rfl)
set_option maxHeartbeats 1600000 in
theorem markF_any (w : World) (hp : PWt w) : Calls Tryz.prog 14 #[.int .i64 777777] w fun e w' => e = .returned (.agg #[.string markW, .slice none 0 0]) ∧ Below w.heap.size w w' := by
  have BA := (Below.refl w.heap.size w).alloc (Nat.le_refl _) (.cells #[.string ⟨#[]⟩, .slice none 0 0] 31)
  have HP : Hid _ := tab_below hp BA
  have HR0 : Hid (RL (w.alloc (.cells #[.string ⟨#[]⟩, .slice none 0 0] 31)) w.heap.size 31 [.string ⟨#[]⟩, .slice none 0 0]) := rl_new w #[.string ⟨#[]⟩, .slice none 0 0] 31
  clear hp
  go_enter Tryz.func14, Tryz.ntmps14
  go_wp2_with fail
  refine (word_any _ HP.out).mono ?_
  rintro e w1 ⟨rfl, b1⟩
  have HR : Hid (RL w1 w.heap.size 31 [.string ⟨#[]⟩, .slice none 0 0]) := RL.below HR0.out b1
  have B1 : Hid (Below w.heap.size w w1) := BA.trans (b1.mono BA.size)
  clear b1 BA HR0 HP
  generalize hmw : markW = MW
  have HM : Hid _ := hmw
  clear hmw
  have hst : (storeVar 31 ⟨w.heap.size, 0, none⟩ (.agg #[.string MW, .slice none 0 0])).run Tryz.prog w1 = .ok () (w1.setCells w.heap.size 0 [.string MW, .slice none 0 0]) := run_storeVar_mid w1 _ 0 _ #[.string MW, .slice none 0 0] (by have := rl_there HR.out; exact this) (by kernel_rfl) (by simp [Value.oneCell'])
  go_wp2
  refine bodyPost_ret (rl_results Tryz.results14 (v := .agg #[.string MW, .slice none 0 0]) rfl (run_loadVar_mid _ _ 0 31 [.string MW, .slice none 0 0] _ (RL.range (rl_setAll HR.out [.string MW, .slice none 0 0] rfl)) Tryz.underlying31 rfl (by kernel_rfl))) rfl ⟨by rw [HM.out], ?_⟩
  exact below_setCells (Nat.le_refl _) _ _ _ B1.out
theorem infoFac : (Tryz.prog.info? 31).map (fun i => (i.zero, i.size, i.bytes)) = some (some (.agg #[.string ⟨#[]⟩, .slice none 0 0]), 2, 40) := by kernel_rfl
theorem run_make_Fac (n : Nat) (hn : n ≤ 1048576) (w : World) :
    (Instr.makeSlice 22 (.int .i64 ((n : Int) + 1)) (.int .i64 ((n : Int) + 1))).run Tryz.prog w = .ok (.slice (some ⟨w.heap.size, 0, none⟩) (n + 1) (n + 1)) (w.alloc (.cells (madeCells #[.string ⟨#[]⟩, .slice none 0 0] ((n + 1) * 2)) 31)) := by
  have h := infoFac
  obtain ⟨i, hi, he⟩ := Option.map_eq_some_iff.1 h
  simp only [Prod.mk.injEq] at he
  obtain ⟨h1, h2, h3⟩ := he
  have := run_make (P := Tryz.prog) w 22 31 i _ Tryz.underlying22 hi h1 .i64 .i64 ((n : Int) + 1) ((n : Int) + 1) (by omega) (Int.le_refl _) (by rw [h3]; omega) (by omega)
  rw [this, h2, show ((n : Int) + 1).toNat = n + 1 by omega]
  rfl
theorem store_Fac {u : World} {b o : Nat} {cs : List Value} (h : u.there b o 2) (hl : cs.length = 2) (h1 : cs.toArray.all (·.oneCell') = true) : (storeVar 31 ⟨b, o, none⟩ (.agg cs.toArray)).run Tryz.prog u = .ok () (u.setCells b o cs) :=
  run_storeVar_mid u b o _ cs.toArray (by rw [List.size_toArray, hl]; exact h) (by rw [List.size_toArray, hl]; kernel_rfl) h1
/-- a copy of a list of rules, with a mark behind it -/
structure TwG (w : World) (lo : Nat) (l : List XF) (a : Option Addr) (c : Nat) : Prop where
  cap : c = l.length + 1
  lies : ∃ g, a = some ⟨g, 0, none⟩ ∧ lo ≤ g ∧ g < w.heap.size ∧ w.rowIs g 31 ((l.length + 1) * 2) (rowF 2 (fun i => if i = l.length then [.string markW, .slice none 0 0] else (atF l i).cells))
  each : ∀ i, i < l.length → TwF w lo (atF l i)
  apart : ∀ g, a = some ⟨g, 0, none⟩ → ∀ i, i < l.length → TwF w (g + 1) (atF l i)
set_option maxHeartbeats 3200000 in
theorem twinFs_any (v : Value) (l : List XF) (w : World) (hp : PWt w) (hs : l.length ≤ 1048576) (hsm : ∀ i, i < l.length → (atF l i).vs.length ≤ 1048576) (hL : Lf w v l) :
    Calls Tryz.prog 6 #[v] w fun r w' => ∃ a' l', r = .returned (.slice a' l.length (l.length + 1)) ∧ Below w.heap.size w w' ∧ l'.length = l.length ∧ (∀ i, i < l.length → LikeF (atF l i) (atF l' i)) ∧ TwG w' w.heap.size l' a' (l.length + 1) := by
  have HEa : Hid (∀ i, i < l.length → FIs w (atF l i) ∧ (atF l i).vs.length ≤ 1048576) := fun i hi => ⟨hL.each i hi, hsm i hi⟩
  obtain ⟨a, c, rfl, hc1, hc2, hk⟩ := hL.form
  have hmk := run_make_Fac l.length hs
  have HK : Hid _ := hk
  have HP : Hid (PWt w) := hp
  clear hk hp hc2 hL hsm
  go_enter Tryz.func6, Tryz.ntmps6
  go_wp2
  go_loopw [4] (fun i wr => ∃ (k : Nat) (U : Nat → XF), k ≤ l.length ∧ i = .int .i64 k ∧ Below w.heap.size w wr ∧ wr.rowIs w.heap.size 31 ((l.length + 1) * 2) (rowF 2 (upC XF.cells [.string ⟨#[]⟩, .slice none 0 0] U k)) ∧ Hid (∀ i, i < k → LikeF (atF l i) (U i) ∧ TwF wr (w.heap.size + 1) (U i))) (fun i _ => l.length - (intOf i).toNat)
  case atStart => exact ⟨0, atF l, Nat.zero_le _, rfl, (Below.refl _ _).alloc (Nat.le_refl _) _, made_row w #[.string ⟨#[]⟩, .slice none 0 0] 31 (l.length + 1) (by decide), fun i hi => absurd hi (by omega)⟩
  case round =>
    obtain ⟨k, U, hk, rfl, bel, hrow, HTW⟩ := hrel
    clear hmk
    have HR : Hid (wr.rowIs w.heap.size 31 ((l.length + 1) * 2) (rowF 2 (upC XF.cells [.string ⟨#[]⟩, .slice none 0 0] U k))) := hrow
    have hwlt : w.heap.size < wr.heap.size := hrow.lt
    clear hrow
    by_cases hlt : k < l.length
    · have hlt' : (k : Int) < (l.length : Int) := by omega
      obtain ⟨g, off, rfl, hg, hKS⟩ := HK.out (by omega)
      have hld := load_Fac (range_below (hKS k hlt) bel hg) rfl
      obtain ⟨hxL, hxS⟩ := HEa.out k hlt
      have HT : Hid _ := twinF_any (atF l k) wr hxS (hxL.below bel)
      rw [XF.val_eq] at hld
      generalize (atF l k).val = QV at hld HT
      clear hKS hxL hxS
      go_wp2_with fail
      refine Calls.mono HT.out ?_
      rintro r w1 ⟨s, rfl, b1, hlk, htw⟩
      have HR1 : Hid (w1.rowIs w.heap.size 31 ((l.length + 1) * 2) (rowF 2 (upC XF.cells [.string ⟨#[]⟩, .slice none 0 0] U k))) := HR.out.of_block (b1.block _ hwlt)
      have bel1 : Below w.heap.size w w1 := bel.trans (b1.mono bel.size)
      have hst := store_Fac (rowF_there HR1.out rfl (i := k) (by omega)) (cs := XF.cells s) rfl (oneCells_fact _)
      rw [XF.val_eq] at hst
      have HN : Hid ((w1.setCells w.heap.size (k * 2) (XF.cells s)).rowIs w.heap.size 31 ((l.length + 1) * 2) (rowF 2 (upC XF.cells [.string ⟨#[]⟩, .slice none 0 0] (fun i => if i = k then s else U i) (k + 1)))) := by
        have := rowF_set (k := k) (by decide) HR1.out (XF.cells s) rfl
        rw [upC_step] at this
        exact this
      have HBn : Hid (Below w.heap.size w (w1.setCells w.heap.size (k * 2) (XF.cells s))) := below_setCells (Nat.le_refl _) _ _ _ bel1
      have HTn : Hid (∀ i, i < k + 1 → LikeF (atF l i) ((fun i => if i = k then s else U i) i) ∧ TwF (w1.setCells w.heap.size (k * 2) (XF.cells s)) (w.heap.size + 1) ((fun i => if i = k then s else U i) i)) := fun i hi => by
        by_cases e : i = k
        · subst e
          simp only [if_true]
          exact ⟨hlk, twF_setCells (by omega) _ _ _ (htw.lower hwlt)⟩
        · simp only [if_neg e]
          obtain ⟨h1, h2⟩ := HTW.out i (by omega)
          exact ⟨h1, twF_setCells (by omega) _ _ _ (h2.below b1)⟩
      generalize w1.setCells w.heap.size (k * 2) (XF.cells s) = W2 at hst HN HBn HTn
      have hk1 : (k : Int) < (l.length : Int) + 1 := by omega
      have hst2 : (storeVar 31 ⟨w.heap.size, k * 2, none⟩ s.val).run Tryz.prog w1 = .ok () W2 := hst
      obtain ⟨RV, hrv⟩ : ∃ RV, s.val = RV := ⟨_, rfl⟩
      rw [hrv] at hst2 ⊢
      clear HR hld HT b1 htw HR1 HTW hst hrv hlk
      go_wp2
      go_roundw
      case rel => exact ⟨k + 1, _, by omega, by go_num, HBn.out, HN.out, HTn.out⟩
      case measure => simp [intOf]; omega
    · obtain rfl : k = l.length := by omega
      go_wp2_with fail
      refine (markF_any _ (tab_below HP.out bel)).mono ?_
      rintro r w1 ⟨rfl, b1⟩
      have HR1 : Hid (w1.rowIs w.heap.size 31 ((l.length + 1) * 2) (rowF 2 (upC XF.cells [.string ⟨#[]⟩, .slice none 0 0] U l.length))) := HR.out.of_block (b1.block _ hwlt)
      have bel1 : Below w.heap.size w w1 := bel.trans (b1.mono bel.size)
      have hst := store_Fac (rowF_there HR1.out rfl (i := l.length) (by omega)) (cs := [.string markW, .slice none 0 0]) rfl (by simp [Value.oneCell'])
      have HN : Hid ((w1.setCells w.heap.size (l.length * 2) [.string markW, .slice none 0 0]).rowIs w.heap.size 31 ((l.length + 1) * 2) (rowF 2 (fun i => if i = l.length then [.string markW, .slice none 0 0] else upC XF.cells [.string ⟨#[]⟩, .slice none 0 0] U l.length i))) := rowF_set (k := l.length) (by decide) HR1.out [.string markW, .slice none 0 0] rfl
      have HBn : Hid (Below w.heap.size w (w1.setCells w.heap.size (l.length * 2) [.string markW, .slice none 0 0])) := below_setCells (Nat.le_refl _) _ _ _ bel1
      have HTn : Hid (∀ i, i < l.length → LikeF (atF l i) (U i) ∧ TwF (w1.setCells w.heap.size (l.length * 2) [.string markW, .slice none 0 0]) (w.heap.size + 1) (U i)) := fun i hi => by
        obtain ⟨h1, h2⟩ := HTW.out i hi
        exact ⟨h1, twF_setCells (by omega) _ _ _ (h2.below b1)⟩
      have hst2 : (storeVar 31 ⟨w.heap.size, l.length * 2, none⟩ (.agg #[.string markW, .slice none 0 0])).run Tryz.prog w1 = _ := hst
      clear hst
      generalize w1.setCells w.heap.size (l.length * 2) [.string markW, .slice none 0 0] = W2 at hst2 HN HBn HTn
      have hk1 : (l.length : Int) < (l.length : Int) + 1 := by omega
      clear b1 HR bel HR1 HTW
      obtain ⟨MW, hmw⟩ : ∃ MW, markW = MW := ⟨_, rfl⟩
      rw [hmw] at hst2 HN ⊢
      have HM : Hid _ := hmw
      clear hmw
      go_wp2
      go_ret
      have hln : ((List.range l.length).map U).length = l.length := by simp
      refine ⟨some ⟨w.heap.size, 0, none⟩, (List.range l.length).map U, rfl, HBn.out, hln, fun i hi => by rw [atF_map U hi]; exact (HTn.out i hi).1, by rw [hln], ⟨w.heap.size, rfl, Nat.le_refl _, World.rowIs.lt HN.out, ?_⟩, fun i hi => ?_, fun g hg i hi => ?_⟩
      · rw [HM.out, hln]
        have := HN.out
        refine World.rowIs.congr this fun j hj => ?_
        unfold rowF
        have hji : j / 2 < l.length + 1 := by omega
        by_cases e : j / 2 = l.length
        · simp only [if_pos e]
        · simp only [if_neg e]
          rw [atF_map U (by omega : j / 2 < l.length)]
          unfold upC
          rw [if_pos (by omega)]
      · rw [hln] at hi
        rw [atF_map U hi]
        exact (HTn.out i hi).2.lower (by omega)
      · rw [hln] at hi
        rw [atF_map U hi]
        have : w.heap.size = g := by simpa using congrArg Addr.block (Option.some.inj hg)
        rw [← this]
        exact (HTn.out i hi).2
end Go.Proofs.YtoppgalbmijhdaaGreatDoor
