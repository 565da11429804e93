import Derived.Test.YtdchfmokicfmnaaDoorA25
namespace Go.Proofs.YtdchfmokicfmnaaDoor
open Go.RowKit Go.Maps Go.Shelf
set_option linter.unusedVariables false
set_option linter.unusedSimpArgs false
attribute [local go_sem ↓] Go.wp_at_zero Go.wp_at_succ
attribute [-go_sem] loadVar

/-- the kind of a step on an atom, as the law has it -/
def MkOk (x : Lit4) (M n : Nat) (sk : Int) : Prop := (x.k = 2 ∧ sk = 4) ∨ (x.k = 1 ∧ sk = kindA M n)
theorem stM_kind {d : Nat} {ss : List ByteArray} {x : Lit4} {k : Nat} (hx : x.k = 1 ∨ x.k = 2) (hk : ((stM d ss x k).k != 0) = true) : (stM d ss x k).m = ((colM ss x.ts x.ts.length : Nat) : Int) ∧ MkOk x (colM ss x.ts x.ts.length) x.ts.length (stM d ss x k).k := by
  rcases hx with h1 | h2
  · unfold stM
    rw [if_pos h1]
    exact ⟨rfl, .inr ⟨h1, rfl⟩⟩
  · have h1 : ¬ x.k = 1 := by rw [h2]; decide
    unfold stM at hk ⊢
    rw [if_neg h1, if_pos h2] at hk ⊢
    refine ⟨rfl, .inl ⟨h2, ?_⟩⟩
    simp only at hk ⊢
    split at hk
    · next h => rw [if_pos h]
    · cases hk
set_option maxHeartbeats 6400000 in
set_option maxRecDepth 100000 in
theorem marked_atom {w : World} {x : Lit4} {q : LP} {d : Nat} {hv : Value} {ss : List ByteArray} {sk si : Int} {g : List ByteArray} {sa : Option Addr} {sc : Nat} (hX : LIs w d x q) (hl : Ls w hv ss.length (ss.flatMap strB)) (hn : x.ts.length ≤ 24) (h12 : x.k = 1 ∨ x.k = 2) (hs : MkOk x (colM ss x.ts x.ts.length) x.ts.length sk) :
    Calls Tryd.prog 9 #[x.val q, .agg #[.int .i8 sk, .int .i64 si, .int .u32 ((colM ss x.ts x.ts.length : Nat) : Int), .slice sa g.length sc], hv] w fun e w' => e = .returned (.bool true) ∧ Below w.heap.size w w' := by
  have hA0 := belowA (w := w) (.cells #[.int .i8 x.k, .string x.pr, .slice q.a x.ts.length q.c, .int .i8 x.rel, .int .i8 x.l.op, .string x.l.t.v, .int .i8 x.l.t.a.k, .int .i64 x.l.t.a.n, .string x.l.t.a.s, .slice q.la x.l.kids.length q.lc, .int .i8 x.r.op, .string x.r.t.v, .int .i8 x.r.t.a.k, .int .i64 x.r.t.a.n, .string x.r.t.a.s, .slice q.ra x.r.kids.length q.rc] 54)
  have hA1 : Below w.heap.size w ((w.alloc (.cells #[.int .i8 x.k, .string x.pr, .slice q.a x.ts.length q.c, .int .i8 x.rel, .int .i8 x.l.op, .string x.l.t.v, .int .i8 x.l.t.a.k, .int .i64 x.l.t.a.n, .string x.l.t.a.s, .slice q.la x.l.kids.length q.lc, .int .i8 x.r.op, .string x.r.t.v, .int .i8 x.r.t.a.k, .int .i64 x.r.t.a.n, .string x.r.t.a.s, .slice q.ra x.r.kids.length q.rc] 54)).alloc (.cells #[.int .i8 sk, .int .i64 si, .int .u32 ((colM ss x.ts x.ts.length : Nat) : Int), .slice sa g.length sc] 38)) := hA0.trans ((belowA _).mono hA0.size)
  have r3 : RL ((w.alloc (.cells #[.int .i8 x.k, .string x.pr, .slice q.a x.ts.length q.c, .int .i8 x.rel, .int .i8 x.l.op, .string x.l.t.v, .int .i8 x.l.t.a.k, .int .i64 x.l.t.a.n, .string x.l.t.a.s, .slice q.la x.l.kids.length q.lc, .int .i8 x.r.op, .string x.r.t.v, .int .i8 x.r.t.a.k, .int .i64 x.r.t.a.n, .string x.r.t.a.s, .slice q.ra x.r.kids.length q.rc] 54)).alloc (.cells #[.int .i8 sk, .int .i64 si, .int .u32 ((colM ss x.ts x.ts.length : Nat) : Int), .slice sa g.length sc] 38)) w.heap.size 54 [.int .i8 x.k, .string x.pr, .slice q.a x.ts.length q.c, .int .i8 x.rel, .int .i8 x.l.op, .string x.l.t.v, .int .i8 x.l.t.a.k, .int .i64 x.l.t.a.n, .string x.l.t.a.s, .slice q.la x.l.kids.length q.lc, .int .i8 x.r.op, .string x.r.t.v, .int .i8 x.r.t.a.k, .int .i64 x.r.t.a.n, .string x.r.t.a.s, .slice q.ra x.r.kids.length q.rc] := RL.below (rl_new w #[.int .i8 x.k, .string x.pr, .slice q.a x.ts.length q.c, .int .i8 x.rel, .int .i8 x.l.op, .string x.l.t.v, .int .i8 x.l.t.a.k, .int .i64 x.l.t.a.n, .string x.l.t.a.s, .slice q.la x.l.kids.length q.lc, .int .i8 x.r.op, .string x.r.t.v, .int .i8 x.r.t.a.k, .int .i64 x.r.t.a.n, .string x.r.t.a.s, .slice q.ra x.r.kids.length q.rc] 54) (belowA _)
  have r4 := rl_new (w.alloc (.cells #[.int .i8 x.k, .string x.pr, .slice q.a x.ts.length q.c, .int .i8 x.rel, .int .i8 x.l.op, .string x.l.t.v, .int .i8 x.l.t.a.k, .int .i64 x.l.t.a.n, .string x.l.t.a.s, .slice q.la x.l.kids.length q.lc, .int .i8 x.r.op, .string x.r.t.v, .int .i8 x.r.t.a.k, .int .i64 x.r.t.a.n, .string x.r.t.a.s, .slice q.ra x.r.kids.length q.rc] 54)) #[.int .i8 sk, .int .i64 si, .int .u32 ((colM ss x.ts x.ts.length : Nat) : Int), .slice sa g.length sc] 38
  rw [World.size_alloc] at r4
  have l1 := load_lkP (RL.at r3 (j := 0) rfl)
  have l4 := load_mkP (RL.at r4 (j := 2) rfl)
  have HR3 := Lib.hid r3
  have HR4 := Lib.hid r4
  have HB := Lib.hid hA1
  have HL := Lib.hid (hl.below hA1)
  have HTS := Lib.hid (hX.ts.below hA1)
  have dk : (x.k == 3) = false := by rw [beq_eq_false_iff_ne]; rcases h12 with h | h <;> rw [h] <;> decide
  have HS := Lib.hid hs
  have HBT : Hid (∀ k, k < x.ts.length → (colM ss x.ts x.ts.length).testBit k = knT ss (atT x.ts k)) := fun k hk => colM_bit ss x.ts _ k hk
  have HML := Lib.hid (colM_lt ss x.ts x.ts.length)
  have hM32 : colM ss x.ts x.ts.length < 16777217 := Nat.lt_of_lt_of_le (colM_lt ss x.ts x.ts.length) (Nat.le_trans (Nat.pow_le_pow_right (by omega) hn) (by decide))
  clear hA0 hA1 r3 r4 h12 hs hX hl
  unfold Lit4.val
  obtain ⟨M, hM⟩ : ∃ M, M = colM ss x.ts x.ts.length := ⟨_, rfl⟩
  rw [← hM] at l1 l4 HR3 HR4 HB HL HTS HS HBT HML hM32 ⊢
  have HM := Lib.hid hM
  clear hM
  go_enter Tryd.func9, Tryd.ntmps9
  go_wp2
  obtain ⟨W, hW⟩ : ∃ W, W = (w.alloc (.cells #[.int .i8 x.k, .string x.pr, .slice q.a x.ts.length q.c, .int .i8 x.rel, .int .i8 x.l.op, .string x.l.t.v, .int .i8 x.l.t.a.k, .int .i64 x.l.t.a.n, .string x.l.t.a.s, .slice q.la x.l.kids.length q.lc, .int .i8 x.r.op, .string x.r.t.v, .int .i8 x.r.t.a.k, .int .i64 x.r.t.a.n, .string x.r.t.a.s, .slice q.ra x.r.kids.length q.rc] 54)).alloc (.cells #[.int .i8 sk, .int .i64 si, .int .u32 (M : Int), .slice sa g.length sc] 38) := ⟨_, rfl⟩
  rw [← hW] at HR3 HR4 HB HL HTS ⊢
  clear hW l1 l4 dk
  obtain ⟨ta, tc, hts, hc1, hc2, hat⟩ := HTS.out.form
  injection hts with e1 e2 e3
  subst e1 e3
  have HAT := Lib.hid hat
  have HWF := Lib.hid HTS.out.wf
  clear hat HTS e2
  have HST : Hid (decide (colM ss x.ts 0 = 0) = true ∧ decide (colM ss x.ts 0 = 2 ^ 0 - 1) = true ∧ M / 2 ^ 0 = M) := ⟨rfl, rfl, by simp⟩
  go_loopw [7, 8, 9, 10, 11, 12] (fun nn ev lf i _ _ wr => ∃ (k MK : Nat) (nb eb : Bool), k ≤ x.ts.length ∧ i = .int .i64 k ∧ nn = .bool nb ∧ ev = .bool eb ∧ lf = .int .u32 (MK : Int) ∧ Hid (decide (colM ss x.ts k = 0) = nb ∧ decide (colM ss x.ts k = 2 ^ k - 1) = eb ∧ M / 2 ^ k = MK) ∧ Hid (Below W.heap.size W wr)) (fun _ _ _ i _ _ _ => x.ts.length - (intOf i).toNat)
  case atStart => exact ⟨0, M, true, true, Nat.zero_le _, rfl, rfl, rfl, rfl, HST, Below.refl _ _⟩
  case round =>
    clear HST
    obtain ⟨k, MK, nb, eb, hk, rfl, rfl, rfl, rfl, HI, HBW⟩ := hrel
    have la := load_tmP (RL.at (RL.below HR3.out HBW.out) (j := 2) rfl)
    by_cases hlt : k < x.ts.length
    · have hlt' : (k : Int) < (x.ts.length : Int) := by omega
      have hk0 : (0 : Int) ≤ (k : Int) := by omega
      obtain ⟨tg, toff, hqa, htg, hT⟩ := HAT.out (by omega)
      rw [hqa] at la
      clear hqa
      obtain ⟨x0, x1, x2, x3⟩ := (hT k hlt).below HBW.out htg
      have lt : (loadVar 49 ⟨tg, toff + k * 4, none⟩).run Tryd.prog wr = .ok (.agg #[.string (atT x.ts k).v, .int .i8 (atT x.ts k).a.k, .int .i64 (atT x.ts k).a.n, .string (atT x.ts k).a.s]) wr := load_teP (cs := [.string (atT x.ts k).v, .int .i8 (atT x.ts k).a.k, .int .i64 (atT x.ts k).a.n, .string (atT x.ts k).a.s]) (fun j v hv => by
        have hj : j < 4 := (List.getElem?_eq_some_iff.1 hv).1
        have hj6 : j = 0 ∨ j = 1 ∨ j = 2 ∨ j = 3 := by omega
        rcases hj6 with rfl | rfl | rfl | rfl <;> (simp only [List.getElem?_cons_zero, List.getElem?_cons_succ, Option.some.injEq] at hv; subst hv; assumption)) rfl
      have hbt := HBT.out k hlt
      rw [Nat.testBit_eq_decide_div_mod_eq, HI.out.2.2] at hbt
      have HZ : Hid (decide (colM ss x.ts (k + 1) = 0) = (nb && !knT ss (atT x.ts k)) ∧ decide (colM ss x.ts (k + 1) = 2 ^ (k + 1) - 1) = (eb && knT ss (atT x.ts k)) ∧ M / 2 ^ (k + 1) = MK / 2) := by
        refine ⟨by rw [colM_zero, HI.out.1], by rw [colM_full, HI.out.2.1], ?_⟩
        rw [Nat.pow_succ, ← Nat.div_div_eq_div_mul, HI.out.2.2]
      have HKN : Hid (knT ss (atT x.ts k) = (decide ((atT x.ts k).v = noS) || inB ss (atT x.ts k).v)) := rfl
      generalize knT ss (atT x.ts k) = z at hbt HZ HKN
      generalize atT x.ts k = t at lt x0 x1 x2 x3 HKN
      have hA := belowA (w := wr) (.cells #[.string t.v, .int .i8 t.a.k, .int .i64 t.a.n, .string t.a.s] 49)
      have HA := Lib.hid hA
      have HBN := Lib.hid (HBW.out.trans (hA.mono HBW.out.size))
      have HH := Lib.hid (has_any (HL.out.below (HBW.out.trans (hA.mono HBW.out.size))) t.v)
      have hmk2 : MK ≤ 16777216 := by
        have := Nat.div_le_self M (2 ^ k)
        rw [HI.out.2.2] at this
        omega
      have lb := load_strP (RL.at (rl_new wr #[.string t.v, .int .i8 t.a.k, .int .i64 t.a.n, .string t.a.s] 49) (j := 0) rfl)
      have dz : (((MK : Int) % 2) == 1) = z := by
        rw [← hbt]
        by_cases h : MK % 2 = 1
        · rw [decide_eq_true h, beq_iff_eq]
          omega
        · rw [decide_eq_false h, beq_eq_false_iff_ne]
          omega
      have HQ : Hid (((MK : Int) / 2) = ((M / 2 ^ (k + 1) : Nat) : Int)) := by
        show _ = _
        rw [HZ.out.2.2]
        omega
      clear hT hA HI x0 x1 x2 x3 hbt
      by_cases hv0 : t.v = noS
      · have de : t.v.toList.isEmpty = true := by rw [hv0, ByteArray.toList_eq]; rfl
        have hz : z = true := by rw [HKN.out, decide_eq_true hv0, Bool.true_or]
        subst hz
        clear hv0 HKN HH
        cases nb <;> cases eb
        all_goals
          go_wp2
          go_roundw
          case rel => exact ⟨k + 1, M / 2 ^ (k + 1), _, _, by omega, by go_num, rfl, rfl, by rw [← HQ.out], ⟨HZ.out.1, HZ.out.2.1, rfl⟩, HBN.out⟩
          case measure => simp [intOf]; omega
      · have de : t.v.toList.isEmpty = false := some_iff _ hv0
        have hz : z = inB ss t.v := by rw [HKN.out, decide_eq_false hv0, Bool.false_or]
        rw [← hz] at HH
        clear hv0 HKN hz
        go_wp2_with fail
        refine HH.out.mono ?_
        rintro e w9 ⟨rfl, hw9⟩
        subst hw9
        cases z <;> cases nb <;> cases eb
        all_goals
          go_wp2
          go_roundw
          case rel => exact ⟨k + 1, M / 2 ^ (k + 1), _, _, by omega, by go_num, rfl, rfl, by rw [← HQ.out], ⟨HZ.out.1, HZ.out.2.1, rfl⟩, HBN.out⟩
          case measure => simp [intOf]; omega
    · obtain rfl : k = x.ts.length := by omega
      have hMK : MK = 0 := by
        rw [← HI.out.2.2]
        exact Nat.div_eq_of_lt HML.out
      subst hMK
      have h1 := HI.out.1
      have h2 := HI.out.2.1
      rw [← HM.out] at h1 h2
      have lk := load_lkP (RL.at (RL.below HR3.out HBW.out) (j := 0) rfl)
      have lsk := load_kdP (RL.at (RL.below HR4.out HBW.out) (j := 0) rfl)
      have HF := Lib.hid (HB.out.trans (HBW.out.mono HB.out.size))
      rcases HS.out with ⟨hx2, rfl⟩ | ⟨hx1, hkd⟩
      · have d2 : (x.k == 2) = true := by rw [hx2]; rfl
        clear h1 h2 hx2
        go_wp2
        go_ret
        exact ⟨rfl, HF.out⟩
      · have d2 : (x.k == 2) = false := by rw [hx1]; rfl
        clear hx1
        unfold kindA at hkd
        by_cases c1 : M = 2 ^ x.ts.length - 1
        · rw [if_pos c1] at hkd
          rw [decide_eq_true c1] at h2
          subst hkd h2
          clear c1 h1
          cases nb
          all_goals
            go_wp2
            go_ret
            exact ⟨rfl, HF.out⟩
        · rw [if_neg c1] at hkd
          rw [decide_eq_false c1] at h2
          by_cases c2 : M = 0
          · rw [if_pos c2] at hkd
            rw [decide_eq_true c2] at h1
            subst hkd h1 h2
            clear c1 c2
            go_wp2
            go_ret
            exact ⟨rfl, HF.out⟩
          · rw [if_neg c2] at hkd
            rw [decide_eq_false c2] at h1
            subst hkd h1 h2
            clear c1 c2
            go_wp2
            go_ret
            exact ⟨rfl, HF.out⟩
end Go.Proofs.YtdchfmokicfmnaaDoor
