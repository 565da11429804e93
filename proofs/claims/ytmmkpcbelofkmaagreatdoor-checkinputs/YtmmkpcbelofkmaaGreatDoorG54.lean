import Derived.Test.YtmmkpcbelofkmaaGreatDoorG52
section
namespace Go.Proofs.YtmmkpcbelofkmaaGreatDoor
open Go.RowKit Go.Maps
set_option linter.unusedVariables false
set_option linter.unusedSimpArgs false
attribute [local go_sem ↓] Go.wp_at_zero Go.wp_at_succ

/-- the facts, as the reference has them -/
def fmR (s : List Pd) : List XF → Nat → Int × Int × List Pd
  | [], _ => (0, 0, s)
  | y :: l, i => if inpF y = 0 then (match meetL s [pdF y] with
    | some t => fmR t l (i + 1)
    | none => ((i : Int), 72, s)) else ((i : Int), inpF y, s)
def fbR (s : List Pd) (fs : List XF) : Int × Int × List Pd := if 65536 < fs.length then (0, 70, s) else fmR s fs 0
def qmE (s : List Pd) (pr : ByteArray) (ts : List T) : Int := if inpQ pr ts = 0 then (if (meetL s [⟨pr, ts.length⟩]).isSome = true then 0 else 72) else inpQ pr ts
def imR (d : Nat) (F : R3 → List ByteArray) (rs : List XR) (fs : List XF) (pr : ByteArray) (ts : List T) : Int × Int × Int :=
  if (paR d F rs).2.1 = 0 then
    (if (fbR (paR d F rs).2.2 fs).2.1 = 0 then
      (if qmE (fbR (paR d F rs).2.2 fs).2.2 pr ts = 0 then (0, 0, 0) else (3, qmE (fbR (paR d F rs).2.2 fs).2.2 pr ts, 0))
    else (2, (fbR (paR d F rs).2.2 fs).2.1, (fbR (paR d F rs).2.2 fs).1))
  else (1, (paR d F rs).2.1, (paR d F rs).1)
theorem fmR_step {s : List Pd} {fs : List XF} {k : Nat} (h : k < fs.length) : fmR s (fs.drop k) k = if inpF (atF fs k) = 0 then (match meetL s [pdF (atF fs k)] with
    | some t => fmR t (fs.drop (k + 1)) (k + 1)
    | none => ((k : Int), 72, s)) else ((k : Int), inpF (atF fs k), s) := by
  rw [List.drop_eq_getElem_cons h, ← atF_eq h, fmR]
/-- both sides alike -/
structure Eqv (a b : Int × Int × List Pd) : Prop where
  at_ : a.1 = b.1
  er : a.2.1 = b.2.1
  pm : a.2.2.Perm b.2.2
  up : Up b.2.2
theorem rt_rm : ∀ (rs : List XR) (i : Nat) (s k : List Pd), s.Perm k → Up k → Eqv (rtR s rs i) (rmR k rs i)
  | [], i, s, k, hp, hu => ⟨rfl, rfl, hp, hu⟩
  | y :: l, i, s, k, hp, hu => by
    rw [rtR, rmR]
    have hb := both_meet (stR y.r) s k hp hu
    generalize letL s (stR y.r) = a at hb
    generalize meetL k (stR y.r) = b at hb
    cases hb with
    | none => exact ⟨rfl, rfl, hp, hu⟩
    | some hp' hu' => exact rt_rm l (i + 1) _ _ hp' hu'
theorem ra_pa (d : Nat) (F : R3 → List ByteArray) (rs : List XR) : Eqv (raR d F [] rs) (paR d F rs) := by
  unfold raR paR
  by_cases h1 : 500 < rs.length
  · rw [if_pos h1, if_pos h1]
    exact ⟨rfl, rfl, List.Perm.refl _, List.Pairwise.nil⟩
  · rw [if_neg h1, if_neg h1]
    by_cases h2 : (rcR d F rs 0).2 = 0
    · rw [if_pos h2, if_pos h2]
      exact rt_rm rs 0 [] [] (List.Perm.refl _) List.Pairwise.nil
    · rw [if_neg h2, if_neg h2]
      exact ⟨rfl, rfl, List.Perm.refl _, List.Pairwise.nil⟩
/-- one predicate, both ways -/
theorem one_both {s k : List Pd} (p : Pd) (hp : s.Perm k) (hu : Up k) : ((takeP s p).2 = true ∧ ∃ t, meetL k [p] = some t ∧ (takeP s p).1.Perm t ∧ Up t) ∨ ((takeP s p).2 = false ∧ meetL k [p] = none) := by
  have hb := both_meet [p] s k hp hu
  rw [letL_cons] at hb
  cases h : (takeP s p).2
  · rw [h] at hb
    simp only [Bool.false_eq_true, if_false] at hb
    generalize meetL k [p] = b at hb
    cases hb
    exact .inr ⟨rfl, rfl⟩
  · rw [h, if_pos rfl, letL] at hb
    generalize meetL k [p] = b at hb
    cases hb with
    | some hp' hu' => exact .inl ⟨rfl, _, rfl, hp', hu'⟩
theorem fs_fm : ∀ (fs : List XF) (i : Nat) (s k : List Pd), s.Perm k → Up k → Eqv (fsR s fs i) (fmR k fs i)
  | [], i, s, k, hp, hu => ⟨rfl, rfl, hp, hu⟩
  | y :: l, i, s, k, hp, hu => by
    rw [fsR, fmR]
    unfold fiE inpF
    cases factB y
    · exact ⟨rfl, rfl, hp, hu⟩
    · rw [if_pos rfl, if_pos rfl]
      unfold ipE
      by_cases h1 : inpE [pdF y] [] = 0
      · rw [if_pos h1, if_pos h1]
        rcases one_both (pdF y) hp hu with ⟨h2, t, h3, hp', hu'⟩ | ⟨h2, h3⟩
        · rw [h2, if_pos rfl, if_pos rfl, h3]
          exact fs_fm l (i + 1) _ _ hp' hu'
        · rw [h2, h3]
          exact ⟨rfl, rfl, hp, hu⟩
      · rw [if_neg h1, if_neg h1, if_neg h1]
        exact ⟨rfl, rfl, hp, hu⟩
theorem fa_fb {s k : List Pd} (fs : List XF) (hp : s.Perm k) (hu : Up k) : Eqv (faR s fs) (fbR k fs) := by
  unfold faR fbR
  by_cases h1 : 65536 < fs.length
  · rw [if_pos h1, if_pos h1]
    exact ⟨rfl, rfl, hp, hu⟩
  · rw [if_neg h1, if_neg h1]
    exact fs_fm fs 0 s k hp hu
theorem qy_qm {s k : List Pd} (pr : ByteArray) (ts : List T) (hp : s.Perm k) (hu : Up k) : qyE s pr ts = qmE k pr ts := by
  unfold qyE qmE inpQ
  cases atomB pr ts
  · rfl
  · rw [if_pos rfl, if_pos rfl]
    unfold ipE
    by_cases h1 : inpE [⟨pr, ts.length⟩] (vsT [] ts) = 0
    · rw [if_pos h1, if_pos h1]
      rcases one_both ⟨pr, ts.length⟩ hp hu with ⟨h2, t, h3, _⟩ | ⟨h2, h3⟩
      · rw [h2, h3]
        rfl
      · rw [h2, h3]
        rfl
    · rw [if_neg h1, if_neg h1]
theorem im_in (d : Nat) (F : R3 → List ByteArray) (rs : List XR) (fs : List XF) (pr : ByteArray) (ts : List T) : inR d F rs fs pr ts = imR d F rs fs pr ts := by
  unfold inR imR
  have h1 := ra_pa d F rs
  rw [h1.at_, h1.er]
  by_cases e1 : (paR d F rs).2.1 = 0
  · rw [if_pos e1, if_pos e1]
    have h2 := fa_fb fs h1.pm h1.up
    rw [h2.at_, h2.er]
    by_cases e2 : (fbR (paR d F rs).2.2 fs).2.1 = 0
    · rw [if_pos e2, if_pos e2, qy_qm pr ts h2.pm h2.up]
    · rw [if_neg e2, if_neg e2]
  · rw [if_neg e1, if_neg e1]
set_option maxHeartbeats 6400000 in
set_option maxRecDepth 100000 in
theorem rinput_any (d : Nat) (F : R3 → List ByteArray) (hF0 : ∀ r, Lim (eqL (d + 1) r.bd) (atN r.bd) (F r)) (rs : List XR) (fs : List XF) (pr : ByteArray) (ts : List T) (ra : Option Addr) (rc : Nat) (fa : Option Addr) (fc : Nat) (qa : Option Addr) (qc : Nat) (w : World) (hR : Lr w (.slice ra rs.length rc) (d + 1) rs) (hsm : ∀ i, i < rs.length → smallR (d + 1) (atR rs i).r) (hF : Lf w (.slice fa fs.length fc) fs) (hpr : pr.size ≤ maxLen) (hlen : ts.length ≤ 4398046511104) (hL : Lt w (.slice qa ts.length qc) ts) :
    Calls Tryz.prog 9 #[.agg #[.slice ra rs.length rc], .slice fa fs.length fc, .agg #[.string pr, .slice qa ts.length qc]] w fun e w' => e = .returned (refV (imR (d + 1) F rs fs pr ts)) ∧ Below w.heap.size w w' := by
  obtain ⟨A1, hA1⟩ : ∃ A1, A1 = w.alloc (.cells #[.slice ra rs.length rc] 24) := ⟨_, rfl⟩
  obtain ⟨A2, hA2⟩ : ∃ A2, A2 = A1.alloc (.cells #[.string pr, .slice qa ts.length qc] 28) := ⟨_, rfl⟩
  obtain ⟨W0, hW0⟩ : ∃ W0, W0 = A2.alloc (.cells #[.int .i8 0, .int .i64 0, .int .i64 0] 37) := ⟨_, rfl⟩
  have z1 : A1.heap.size = w.heap.size + 1 := by rw [hA1]; simp
  have z2 : A2.heap.size = w.heap.size + 2 := by rw [hA2]; simp [z1]
  have z3 : W0.heap.size = w.heap.size + 3 := by rw [hW0]; simp [z2]
  have b1 : Below w.heap.size w A1 := by rw [hA1]; exact belowA _
  have b2 : Below A1.heap.size A1 A2 := by rw [hA2]; exact belowA _
  have b3 : Below A2.heap.size A2 W0 := by rw [hW0]; exact belowA _
  have k2 : Below A1.heap.size A1 W0 := b2.trans (b3.mono b2.size)
  have k1 : Below w.heap.size w W0 := b1.trans (k2.mono b1.size)
  have r3 : RL W0 w.heap.size 24 [.slice ra rs.length rc] := by
    have := rl_new w #[.slice ra rs.length rc] 24
    rw [← hA1] at this
    exact RL.below this k2
  have HR5 : Hid (RL W0 (w.heap.size + 1) 28 [.string pr, .slice qa ts.length qc]) := by
    have := rl_new A1 #[.string pr, .slice qa ts.length qc] 28
    rw [← hA2, z1] at this
    exact RL.below this b3
  have HR6 : Hid (RL W0 (w.heap.size + 2) 37 [.int .i8 0, .int .i64 0, .int .i64 0]) := by
    have := rl_new A2 #[.int .i8 0, .int .i64 0, .int .i64 0] 37
    rw [← hW0, z2] at this
    exact this
  have x0 := RL.at r3 (j := 0) rfl
  have HP := Lib.hid (rprogram_any d F hF0 rs ra rc W0 (hR.below k1) hsm)
  have HFE : Hid (∀ i, i < fs.length → ∀ u, Below W0.heap.size W0 u → FIs u (atF fs i)) := fun i hi u hu => ((hF.each i hi).below k1).below hu
  have HQ : Hid (∀ u, Below W0.heap.size W0 u → _) := fun u hu => ofQuery_any pr ts qa qc u hpr hlen ((hL.below k1).below hu)
  have HRF : Hid (∀ u, Below W0.heap.size W0 u → RL u (w.heap.size + 2) 37 [.int .i8 0, .int .i64 0, .int .i64 0]) := fun u hu => RL.below HR6.out hu
  have HBW : Hid (∀ u, Below W0.heap.size W0 u → Below w.heap.size w u) := fun u hu => k1.trans (hu.mono k1.size)
  have HZ3 := Lib.hid z3
  obtain ⟨fa', fc', hfv, hf1, hf2, hfat⟩ := (hF.below k1).form
  injection hfv with hfv1 _ hfv2
  subst hfv1 hfv2
  have hmf : fs.length ≤ maxLen := Nat.le_trans hf1 hf2
  unfold maxLen at hmf
  have HFA := Lib.hid hfat
  have HE : Hid (imR (d + 1) F rs fs pr ts = if (paR (d + 1) F rs).2.1 = 0 then (if (fbR (paR (d + 1) F rs).2.2 fs).2.1 = 0 then (if qmE (fbR (paR (d + 1) F rs).2.2 fs).2.2 pr ts = 0 then (0, 0, 0) else (3, qmE (fbR (paR (d + 1) F rs).2.2 fs).2.2 pr ts, 0)) else (2, (fbR (paR (d + 1) F rs).2.2 fs).2.1, (fbR (paR (d + 1) F rs).2.2 fs).1)) else (1, (paR (d + 1) F rs).2.1, (paR (d + 1) F rs).1)) := rfl
  obtain ⟨R, hRR⟩ : ∃ R, imR (d + 1) F rs fs pr ts = R := ⟨_, rfl⟩
  rw [hRR] at HE ⊢
  generalize paR (d + 1) F rs = A at HP HE
  obtain ⟨at1, er1, s1⟩ := A
  dsimp only at HP HE
  clear z1 z2 z3 b1 b2 b3 k1 k2 hR hsm hF hL hF0 hRR r3 hfat
  go_enter Tryz.func9, Tryz.ntmps9
  go_upto_region 1 with fail
  rw [← hA1, ← hA2, ← hW0]
  clear hA1 hA2 hW0
  by_cases hz1 : er1 = 0
  · subst hz1
    rw [if_pos rfl] at HE
    have hpv : refV (pgV (at1, 0, s1)) = .agg #[.int .i8 0, .int .i64 0, .int .i64 0] := rfl
    rw [hpv] at HP
    clear hpv
    go_wp2_with fail
    clear x0
    refine HP.out.mono ?_
    rintro e w1 ⟨kv, rfl, b1, h1⟩
    obtain ⟨hls, hln⟩ := h1 (by first | rfl | trivial)
    have HB1 := Lib.hid b1
    obtain ⟨ka, kc, rfl, _, _, _⟩ := pd_form hls
    have HLN := Lib.hid hln
    have ba := belowA (w := w1) (.cells #[.int .i8 0, .int .i64 0, .int .i64 0] 37)
    have HRN := Lib.hid (rl_new w1 #[.int .i8 0, .int .i64 0, .int .i64 0] 37)
    have HLS3 := Lib.hid (hls.below ba)
    have HB3 := Lib.hid (b1.trans (ba.mono b1.size))
    have c1 := RL.at HRN.out (j := 1) rfl
    clear hls hln h1 b1 ba HP HRN HB1
    go_upto_region 4 with fail
    clear c1
    generalize w1.alloc (.cells #[.int .i8 0, .int .i64 0, .int .i64 0] 37) = W3 at HLS3 HB3 ⊢
    have HD : Hid (fbR s1 fs = if 65536 < fs.length then (0, 70, s1) else fmR s1 fs 0) := rfl
    generalize fbR s1 fs = A at HE HD
    obtain ⟨at2, er2, s2⟩ := A
    dsimp only at HE
    by_cases hbig : 65536 < fs.length
    · have hbig' : (65536 : Int) < (fs.length : Int) := by omega
      rw [if_pos hbig] at HD
      have hd := HD.out
      injection hd with hd1 hd2
      injection hd2 with hd2 hd3
      subst hd1 hd2 hd3
      have HER : Hid (R = (2, 70, 0)) := HE.out
      have HR63 := Lib.hid (HRF.out W3 HB3.out)
      have c0 := RL.at HR63.out (j := 0) rfl
      have c1 := RL.at HR63.out (j := 1) rfl
      have c2 := RL.at HR63.out (j := 2) rfl
      have f0 := World.rowIs.frozen HR63.out 0
      have f1 := World.rowIs.frozen HR63.out 1
      have f2 := World.rowIs.frozen HR63.out 2
      clear hbig HE HD
      go_wp2
      refine bodyPost_ret (rl_results Tryz.results9 (v := .agg #[.int .i8 2, .int .i64 70, .int .i64 0]) rfl (load_refV (ref_set HR63.out 2 70 0))) rfl ?_
      rw [HER.out]
      exact ⟨rfl, ref_below (HBW.out W3 HB3.out) (by omega)⟩
    · have hbig' : ¬ ((65536 : Int) < (fs.length : Int)) := by omega
      have h65 : fs.length ≤ 65536 := by omega
      rw [if_neg hbig] at HD
      clear hbig
      go_wp2
      go_loopw [7, 9] (fun v i wr => ∃ (k : Nat) (a' : Option Addr) (c' : Nat) (kn : List Pd), k ≤ fs.length ∧ i = .int .i64 k ∧ v = .slice a' kn.length c' ∧ Hid ((at2, er2, s2) = fmR kn (fs.drop k) k) ∧ Hid (Ls wr (.slice a' kn.length c') kn.length (kn.flatMap Pd.cells)) ∧ Hid (kn.length ≤ 600000000 + k) ∧ Hid (Below W0.heap.size W0 wr)) (fun _ i _ => fs.length - (intOf i).toNat)
      case atStart => exact ⟨0, ka, kc, s1, Nat.zero_le _, rfl, rfl, HD, HLS3, HLN, HB3⟩
      case round =>
        clear HD HLS3 HLN HB3
        obtain ⟨k, a', c', kn, hk, rfl, rfl, HK, HLS, HLN, HB⟩ := hrel
        obtain ⟨V, rfl⟩ : ∃ V, V = wr := ⟨_, rfl⟩
        by_cases hlt : k < fs.length
        · have hlt' : (k : Int) < (fs.length : Int) := by omega
          have hk0 : (0 : Int) ≤ (k : Int) := by omega
          obtain ⟨g, off, rfl, hg, hT⟩ := HFA.out (by omega)
          have HST := Lib.hid (fmR_step (s := kn) hlt)
          rw [← HK.out] at HST
          have HFI := Lib.hid (HFE.out k hlt V HB.out)
          have HRG : Hid (∀ u, Below W0.heap.size W0 u → u.rangeAt g (off + k * 2) (atF fs k).cells) := fun u hu => range_below (hT k hlt) hu hg
          obtain ⟨y, hy⟩ : ∃ y, atF fs k = y := ⟨_, rfl⟩
          rw [hy] at HRG HST HFI
          have HOF := Lib.hid (ofFact_any y V HFI.out)
          have hyc : Value.agg y.cells.toArray = .agg #[.string y.pr, .slice y.a y.vs.length y.c] := rfl
          rw [hyc] at HOF
          have x0 : V.cell? ⟨g, off + k * 2, none⟩ = some (.string y.pr) := HRG.out V HB.out 0 _ rfl
          have x1 : V.cell? ⟨g, off + k * 2 + 1, none⟩ = some (.slice y.a y.vs.length y.c) := HRG.out V HB.out 1 _ rfl
          obtain ⟨e0, he0⟩ : ∃ e0, inpF y = e0 := ⟨_, rfl⟩
          rw [he0] at HST HOF
          clear hT hy HFI hyc he0 HK
          by_cases hz : e0 = 0
          · subst hz
            rw [if_pos rfl] at HST
            go_wp2_with fail
            clear x0 x1
            refine HOF.out.mono ?_
            rintro e w4 ⟨rfl, b4⟩
            have HB4 : Hid (Below W0.heap.size W0 w4) := HB.out.trans (b4.mono HB.out.size)
            have HLS4 := Lib.hid (HLS.out.below b4)
            have hD : Below w4.heap.size w4 w4.drew := (Below.refl _ _).drew
            have hA := belowA (w := w4.drew) (.cells #[.string y.pr, .int .i64 (y.vs.length : Int)] 65)
            have hBA : Below w4.heap.size w4 (w4.drew.alloc (.cells #[.string y.pr, .int .i64 (y.vs.length : Int)] 65)) := hD.trans (hA.mono hD.size)
            have HDD := Lib.hid hD
            have HSB := Lib.hid hBA
            have HUP : Hid (∀ u, Below w4.heap.size w4 u → Below W0.heap.size W0 u) := fun u hu => HB4.out.trans (hu.mono HB4.out.size)
            have HLP : Hid (∀ u, Below w4.heap.size w4 u → (loadVar 9 ⟨g, off + k * 2, none⟩).run Tryz.prog u = .ok (.string y.pr) u) := fun u hu => load_s (HRG.out u (HUP.out u hu) 0 _ rfl)
            have HLV : Hid (∀ u, Below w4.heap.size w4 u → (loadVar 46 ⟨g, off + k * 2 + 1, none⟩).run Tryz.prog u = .ok (.slice y.a y.vs.length y.c) u) := fun u hu => load_vals (HRG.out u (HUP.out u hu) 1 _ rfl)
            have HC1 : Hid (Calls Tryz.prog 24 #[.slice a' kn.length c', .slice (some ⟨w4.heap.size, 0, none⟩) 1 1] (w4.drew.alloc (.cells #[.string y.pr, .int .i64 (y.vs.length : Int)] 65)) fun e u1 => ∃ nv ok, e = .returned (.tuple #[nv, .bool ok]) ∧ Below w4.heap.size w4 u1 ∧ MoP w W0 kn (pdF y) nv ok u1) := by
              have ho : (w4.drew.alloc (.cells #[.string y.pr, .int .i64 (y.vs.length : Int)] 65)).ownsRow w4.heap.size 65 2 (.slice (some ⟨w4.heap.size, 0, none⟩) 1 1) 1 [.string y.pr, .int .i64 (y.vs.length : Int)] := World.ownsRow_lit w4.drew #[.string y.pr, .int .i64 (y.vs.length : Int)] 1 (Nat.le_refl _) (by decide) rfl
              have hl : Ls (w4.drew.alloc (.cells #[.string y.pr, .int .i64 (y.vs.length : Int)] 65)) (.slice (some ⟨w4.heap.size, 0, none⟩) 1 1) ([pdF y] : List Pd).length (([pdF y] : List Pd).flatMap Pd.cells) := ls_own ho
              refine (meet_any _ _ kn [pdF y] _ ((HLS4.out.below hD).below hA) hl (by have := HLN.out; simp only [List.length_cons, List.length_nil]; omega)).mono ?_
              rintro e u1 ⟨bb, hres⟩
              have k1 : Below w4.heap.size w4 u1 := hBA.trans (bb.mono hBA.size)
              have k3 : Below W0.heap.size W0 u1 := HUP.out u1 k1
              have k2 : Below w.heap.size w u1 := HBW.out u1 k3
              rcases hres with ⟨r, sv, hm, rfl, hls⟩ | ⟨hm, rfl⟩
              · exact ⟨sv, true, rfl, k1, k2, k3, .inl ⟨rfl, r, hm, hls⟩⟩
              · exact ⟨.slice none 0 0, false, rfl, k1, k2, k3, .inr ⟨rfl, hm, rfl⟩⟩
            clear hD hA hBA HRG hg b4 HOF HB HLS HB4 HLS4 HUP
            go_upto_region 12 with fail
            refine wp_region_noPanic ?_
            refine wp_region_held (S := fun u => Below w4.heap.size w4 u) (by kernel_rfl) ?_
            refine rfinput (w5 := w4) (S := fun u => Below w4.heap.size w4 u) (g := g) (off := off) (nn := fs.length) (cc := fc) (k := k) (tn := y.vs.length) (tc := y.c) (ta := y.a) (pr := y.pr) (kv := .slice a' kn.length c') (P := fun nv ok u => MoP w W0 kn (pdF y) nv ok u) rfl rfl rfl rfl rfl rfl rfl rfl rfl rfl rfl rfl rfl rfl rfl rfl rfl rfl rfl rfl (by kernel_rfl) (by kernel_rfl) (by kernel_rfl) (by kernel_rfl) (by kernel_rfl) (fun _ _ _ _ _ h => h) (by simp) rfl rfl rfl HDD.out (fun _ _ _ h => h) hlt HLP.out HLV.out HSB.out HC1.out ?_
            intro wc nv ok2 hMo
            have HMO := Lib.hid hMo
            clear hMo HC1 HLP HLV HSB HDD
            refine NoPanic.normal ?_
            rename_i hJ hQ hK
            first | refine hJ _ _ ?_ | refine hK _ _ ?_
            simp (config := { maxSteps := 8000000 }) only [Act.put, List.getElem_toArray, List.getElem_cons_zero, List.getElem_cons_succ, List.setIfInBounds_toArray, List.set_cons_succ, List.set_cons_zero]
            obtain ⟨k2, k3, hres⟩ := HMO.out
            have HB5 := Lib.hid k3
            rcases hres with ⟨rfl, r, hm, hls⟩ | ⟨rfl, hm, rfl⟩
            · obtain ⟨a3, c3, rfl, _, _, _⟩ := pd_form hls
              rw [hm] at HST
              have HLS5 := Lib.hid hls
              have HLN5 : Hid (r.length ≤ 600000000 + (k + 1)) := by
                have h1 := meetL_len _ _ _ hm
                have h2 := HLN.out
                simp only [List.length_cons, List.length_nil] at h1
                show _ ≤ _
                omega
              clear k2 k3 HMO hm hls HLN
              go_wp2
              go_roundw
              case rel => exact ⟨k + 1, a3, c3, r, by omega, by go_num, rfl, HST, HLS5, HLN5, HB5⟩
              case measure => simp [intOf]; omega
            · rw [hm] at HST
              have hd := HST.out
              injection hd with hd1 hd2
              injection hd2 with hd2 hd3
              subst hd1 hd2 hd3
              have HER : Hid (R = (2, 72, (k : Int))) := HE.out
              have HR63 := Lib.hid (HRF.out wc HB5.out)
              have c0 := RL.at HR63.out (j := 0) rfl
              have c1 := RL.at HR63.out (j := 1) rfl
              have c2 := RL.at HR63.out (j := 2) rfl
              have f0 := World.rowIs.frozen HR63.out 0
              have f1 := World.rowIs.frozen HR63.out 1
              have f2 := World.rowIs.frozen HR63.out 2
              clear k2 k3 HMO hm HLN HE HST
              go_wp2
              refine bodyPost_ret (rl_results Tryz.results9 (v := .agg #[.int .i8 2, .int .i64 72, .int .i64 k]) rfl (load_refV (ref_set HR63.out 2 72 k))) rfl ?_
              rw [HER.out]
              exact ⟨rfl, ref_below (HBW.out wc HB5.out) (by omega)⟩
          · rw [if_neg hz] at HST
            have e1 : (e0 != 0) = true := by rw [bne_iff_ne]; exact hz
            have hd := HST.out
            injection hd with hd1 hd2
            injection hd2 with hd2 hd3
            subst hd1 hd2 hd3
            have HER : Hid (R = (2, er2, (k : Int))) := by show _ = _; rw [HE.out, if_neg hz]
            clear hz HST HE
            go_wp2_with fail
            clear x0 x1
            refine HOF.out.mono ?_
            rintro e w4 ⟨rfl, b4⟩
            have HB4 : Hid (Below W0.heap.size W0 w4) := HB.out.trans (b4.mono HB.out.size)
            have HR63 := Lib.hid (HRF.out w4 HB4.out)
            have c0 := RL.at HR63.out (j := 0) rfl
            have c1 := RL.at HR63.out (j := 1) rfl
            have c2 := RL.at HR63.out (j := 2) rfl
            have f0 := World.rowIs.frozen HR63.out 0
            have f1 := World.rowIs.frozen HR63.out 1
            have f2 := World.rowIs.frozen HR63.out 2
            clear b4 HOF HB HLS HLN HRG
            go_wp2
            refine bodyPost_ret (rl_results Tryz.results9 (v := .agg #[.int .i8 2, .int .i64 er2, .int .i64 k]) rfl (load_refV (ref_set HR63.out 2 er2 k))) rfl ?_
            rw [HER.out]
            exact ⟨rfl, ref_below (HBW.out w4 HB4.out) (by omega)⟩
        · obtain rfl : k = fs.length := by omega
          rw [List.drop_length, fmR] at HK
          have hd := HK.out
          injection hd with hd1 hd2
          injection hd2 with hd2 hd3
          subst hd1 hd2 hd3
          rw [if_pos rfl] at HE
          have HOQ := Lib.hid (HQ.out V HB.out)
          have y0 := RL.at (RL.below HR5.out HB.out) (j := 0) rfl
          have y1 := RL.at (RL.below HR5.out HB.out) (j := 1) rfl
          have HQD : Hid (qmE s2 pr ts = if inpQ pr ts = 0 then (if (meetL s2 [⟨pr, ts.length⟩]).isSome = true then 0 else 72) else inpQ pr ts) := rfl
          generalize inpQ pr ts = e3 at HOQ HQD
          generalize qmE s2 pr ts = e4 at HE HQD
          clear HK HQ HFA HFE hlt
          go_wp2_with fail
          clear y0 y1
          refine HOQ.out.mono ?_
          rintro e w4 ⟨rfl, b4⟩
          have HB4 : Hid (Below W0.heap.size W0 w4) := HB.out.trans (b4.mono HB.out.size)
          have HLS4 := Lib.hid (HLS.out.below b4)
          clear b4 HOQ HB HLS
          by_cases hz : e3 = 0
          · subst hz
            rw [if_pos rfl] at HQD
            have y0 := RL.at (RL.below HR5.out HB4.out) (j := 0) rfl
            have y1 := RL.at (RL.below HR5.out HB4.out) (j := 1) rfl
            have hA := belowA (w := w4) (.cells #[.string pr, .int .i64 (ts.length : Int)] 65)
            have ho : (w4.alloc (.cells #[.string pr, .int .i64 (ts.length : Int)] 65)).ownsRow w4.heap.size 65 2 (.slice (some ⟨w4.heap.size, 0, none⟩) 1 1) 1 [.string pr, .int .i64 (ts.length : Int)] := World.ownsRow_lit w4 #[.string pr, .int .i64 (ts.length : Int)] 1 (Nat.le_refl _) (by decide) rfl
            have hl : Ls (w4.alloc (.cells #[.string pr, .int .i64 (ts.length : Int)] 65)) (.slice (some ⟨w4.heap.size, 0, none⟩) 1 1) ([⟨pr, ts.length⟩] : List Pd).length (([⟨pr, ts.length⟩] : List Pd).flatMap Pd.cells) := ls_own ho
            have HM := Lib.hid (meet_any (.slice a' s2.length c') _ s2 [⟨pr, ts.length⟩] _ (HLS4.out.below hA) hl (by have := HLN.out; simp only [List.length_cons, List.length_nil]; omega))
            have HBA : Hid (Below W0.heap.size W0 (w4.alloc (.cells #[.string pr, .int .i64 (ts.length : Int)] 65))) := HB4.out.trans (hA.mono HB4.out.size)
            clear hA ho hl HLS4 HLN
            go_wp2_with fail
            clear y0 y1
            refine HM.out.mono ?_
            rintro e w5 ⟨b5, hres⟩
            have HB5 : Hid (Below W0.heap.size W0 w5) := HBA.out.trans (b5.mono HBA.out.size)
            have HR63 := Lib.hid (HRF.out w5 HB5.out)
            have c0 := RL.at HR63.out (j := 0) rfl
            have c1 := RL.at HR63.out (j := 1) rfl
            have c2 := RL.at HR63.out (j := 2) rfl
            have f0 := World.rowIs.frozen HR63.out 0
            have f1 := World.rowIs.frozen HR63.out 1
            have f2 := World.rowIs.frozen HR63.out 2
            clear b5 HM HBA
            rcases hres with ⟨r, sv, hm, rfl, hls⟩ | ⟨hm, rfl⟩
            · have HER : Hid (R = (0, 0, 0)) := by
                show _ = _
                rw [HE.out, HQD.out, hm]
                rfl
              clear hm hls HE HQD
              go_wp2
              refine bodyPost_ret (rl_results Tryz.results9 (v := .agg #[.int .i8 0, .int .i64 0, .int .i64 0]) rfl (load_refV (ref_set HR63.out 0 0 0))) rfl ?_
              rw [HER.out]
              exact ⟨rfl, ref_below (HBW.out w5 HB5.out) (by omega)⟩
            · have HER : Hid (R = (3, 72, 0)) := by
                show _ = _
                rw [HE.out, HQD.out, hm]
                rfl
              clear hm HE HQD
              go_wp2
              refine bodyPost_ret (rl_results Tryz.results9 (v := .agg #[.int .i8 3, .int .i64 72, .int .i64 0]) rfl (load_refV (ref_set HR63.out 3 72 0))) rfl ?_
              rw [HER.out]
              exact ⟨rfl, ref_below (HBW.out w5 HB5.out) (by omega)⟩
          · rw [if_neg hz] at HQD
            have e1 : (e3 != 0) = true := by rw [bne_iff_ne]; exact hz
            have HER : Hid (R = (3, e3, 0)) := by show _ = _; rw [HE.out, HQD.out, if_neg hz]
            have HR63 := Lib.hid (HRF.out w4 HB4.out)
            have c0 := RL.at HR63.out (j := 0) rfl
            have c1 := RL.at HR63.out (j := 1) rfl
            have c2 := RL.at HR63.out (j := 2) rfl
            have f0 := World.rowIs.frozen HR63.out 0
            have f1 := World.rowIs.frozen HR63.out 1
            have f2 := World.rowIs.frozen HR63.out 2
            clear hz HE HQD
            go_wp2
            refine bodyPost_ret (rl_results Tryz.results9 (v := .agg #[.int .i8 3, .int .i64 e3, .int .i64 0]) rfl (load_refV (ref_set HR63.out 3 e3 0))) rfl ?_
            rw [HER.out]
            exact ⟨rfl, ref_below (HBW.out w4 HB4.out) (by omega)⟩
  · rw [if_neg hz1] at HE
    have hpv : refV (pgV (at1, er1, s1)) = .agg #[.int .i8 1, .int .i64 er1, .int .i64 at1] := by unfold pgV refV; rw [if_neg hz1]
    rw [hpv] at HP
    have e1 : (er1 != 0) = true := by rw [bne_iff_ne]; exact hz1
    clear hpv hz1
    go_wp2_with fail
    clear x0
    refine HP.out.mono ?_
    rintro e w1 ⟨kv, rfl, b1, _⟩
    have ba := belowA (w := w1) (.cells #[.int .i8 1, .int .i64 er1, .int .i64 at1] 37)
    have HRN := Lib.hid (rl_new w1 #[.int .i8 1, .int .i64 er1, .int .i64 at1] 37)
    have HB3 := Lib.hid (b1.trans (ba.mono b1.size))
    have d0 := RL.at HRN.out (j := 0) rfl
    have d1 := RL.at HRN.out (j := 1) rfl
    have d2 := RL.at HRN.out (j := 2) rfl
    clear b1 ba HP HRN
    go_upto_region 3 with fail
    generalize w1.alloc (.cells #[.int .i8 1, .int .i64 er1, .int .i64 at1] 37) = W3 at d0 d1 d2 HB3 ⊢
    have HR63 := Lib.hid (HRF.out W3 HB3.out)
    have c0 := RL.at HR63.out (j := 0) rfl
    have c1 := RL.at HR63.out (j := 1) rfl
    have c2 := RL.at HR63.out (j := 2) rfl
    have f0 := World.rowIs.frozen HR63.out 0
    have f1 := World.rowIs.frozen HR63.out 1
    have f2 := World.rowIs.frozen HR63.out 2
    go_wp2
    refine bodyPost_ret (rl_results Tryz.results9 (v := .agg #[.int .i8 1, .int .i64 er1, .int .i64 at1]) rfl (load_refV (ref_set HR63.out 1 er1 at1))) rfl ?_
    rw [HE.out]
    exact ⟨rfl, ref_below (HBW.out W3 HB3.out) (by omega)⟩
end Go.Proofs.YtmmkpcbelofkmaaGreatDoor
end
section
namespace Go.Proofs.YtmmkpcbelofkmaaGreatDoor
open Go.RowKit Go.Maps
set_option linter.unusedVariables false
set_option linter.unusedSimpArgs false
attribute [local go_sem ↓] Go.wp_at_zero Go.wp_at_succ
attribute [-go_sem] loadVar storeVar

theorem LikeR.avI {r s : R3} (h : LikeR r s) : avL s.bd = avL r.bd := avL_same h.map
theorem LikeR.eqI {r s : R3} (h : LikeR r s) (d : Nat) : eqL d s.bd = eqL d r.bd := eqL_same d h.map
theorem LikeR.atI {r s : R3} (h : LikeR r s) : atN s.bd = atN r.bd := by unfold atN; rw [h.avI]
theorem LikeR.bdl {r s : R3} (h : LikeR r s) : s.bd.length = r.bd.length := by have := congrArg List.length h.map; simpa using this
theorem LikeR.ri {d : Nat} {F : R3 → List ByteArray} (hF : ∀ r, Lim (eqL d r.bd) (atN r.bd) (F r)) {r s : R3} (h : LikeR r s) : riE d F s = riE d F r := by
  have hf : F s = F r := by
    have h1 := hF s
    rw [h.eqI, h.atI] at h1
    exact h1.one (hF r)
  unfold riE ruE
  rw [h.ruleB, h.terms, h.st, h.bdl, hf]
/-- the rules by what each comes to -/
def rcM : List Int → Nat → Int × Int
  | [], _ => (0, 0)
  | e :: l, i => if e = 0 then rcM l (i + 1) else ((i : Int), e)
theorem rcR_map (d : Nat) (F : R3 → List ByteArray) : ∀ (l : List XR) (i : Nat), rcR d F l i = rcM (l.map (fun y => riE d F y.r)) i
  | [], _ => rfl
  | y :: l, i => by rw [rcR, List.map_cons, rcM, rcR_map d F l]
def rtM (s : List Pd) : List (List Pd) → Nat → Int × Int × List Pd
  | [], _ => (0, 0, s)
  | p :: l, i => match letL s p with
    | some t => rtM t l (i + 1)
    | none => ((i : Int), 72, s)
theorem rtR_map : ∀ (l : List XR) (s : List Pd) (i : Nat), rtR s l i = rtM s (l.map (fun y => stR y.r)) i
  | [], _, _ => rfl
  | y :: l, s, i => by
    rw [rtR, List.map_cons, rtM]
    cases letL s (stR y.r) with
    | none => rfl
    | some t => exact rtR_map l t (i + 1)
def fsM (s : List Pd) : List (Bool × Pd) → Nat → Int × Int × List Pd
  | [], _ => (0, 0, s)
  | p :: l, i => if (if p.1 = true then ipE s p.2 [] else 10) = 0 then fsM (takeP s p.2).1 l (i + 1) else ((i : Int), (if p.1 = true then ipE s p.2 [] else 10), s)
theorem fsR_map : ∀ (l : List XF) (s : List Pd) (i : Nat), fsR s l i = fsM s (l.map (fun y => (factB y, pdF y))) i
  | [], _, _ => rfl
  | y :: l, s, i => by
    rw [fsR, List.map_cons, fsM]
    unfold fiE
    rw [fsR_map l]
theorem in_same {d : Nat} {F : R3 → List ByteArray} (hF : ∀ r, Lim (eqL d r.bd) (atN r.bd) (F r)) {l l' : List XR} {m m' : List XF} (hl : l'.length = l.length) (hx : ∀ i, i < l.length → LikeR (atR l i).r (atR l' i).r) (hm : m'.length = m.length) (hy : ∀ i, i < m.length → LikeF (atF m i) (atF m' i)) (pr : ByteArray) (ts : List T) : inR d F l' m' pr ts = inR d F l m pr ts := by
  have e1 : raR d F [] l' = raR d F [] l := by
    unfold raR
    rw [rcR_map, rcR_map, rtR_map, rtR_map, hl, map_likeR (fun r => riE d F r) hl (fun i hi => (hx i hi).ri hF), map_likeR stR hl (fun i hi => (hx i hi).st)]
  have e2 : ∀ s, faR s m' = faR s m := fun s => by
    unfold faR
    rw [fsR_map, fsR_map, hm, map_likeF (fun y => (factB y, pdF y)) hm (fun i hi => by unfold factB pdF; rw [(hy i hi).pr, (hy i hi).vs])]
  unfold inR
  rw [e1, e2]
theorem store_at (u : World) (pr : ByteArray) (a : Option Addr) (n c : Nat) : (storeVar 28 ⟨u.heap.size, 0, none⟩ (.agg #[.string pr, .slice a n c])).run Tryz.prog (u.alloc (.cells #[.string ⟨#[]⟩, .slice none 0 0] 28)) = .ok () (u.alloc (.cells #[.string pr, .slice a n c] 28)) :=
  run_storeVar_new u 28 #[.string ⟨#[]⟩, .slice none 0 0] #[.string pr, .slice a n c] (by kernel_rfl) rfl (by simp [Value.oneCell'])
set_option maxHeartbeats 6400000 in
theorem checkInputs_walk (d : Nat) (l : List XR) (a : Option Addr) (c : Nat) (m : List XF) (a2 : Option Addr) (c2 : Nat) (pr : ByteArray) (ts : List T) (qa : Option Addr) (qc : Nat) (w : World) (hG : PWt w ∧ KT w ∧ LX.Gl w) (hl : l.length ≤ 281474976710656) (hL : Lr w (.slice a l.length c) (d + 1) l) (hm : m.length ≤ 281474976710656) (hM : Lf w (.slice a2 m.length c2) m) (hpr : pr.size ≤ maxLen) (hlen : ts.length ≤ 4398046511104) (hT : Lt w (.slice qa ts.length qc) ts) :
    Calls Tryz.prog 3 #[.agg #[.slice a l.length c], .slice a2 m.length c2, .agg #[.string pr, .slice qa ts.length qc]] w fun r w' => r = .returned (.bool true) ∧ Below w.heap.size w w' := by
  obtain ⟨A1, hA1⟩ : ∃ A1, A1 = w.alloc (.cells #[.slice a l.length c] 24) := ⟨_, rfl⟩
  obtain ⟨W0, hW0⟩ : ∃ W0, W0 = A1.alloc (.cells #[.string pr, .slice qa ts.length qc] 28) := ⟨_, rfl⟩
  have z1 : A1.heap.size = w.heap.size + 1 := by rw [hA1]; simp
  have b1 : Below w.heap.size w A1 := by rw [hA1]; exact belowA _
  have b2 : Below A1.heap.size A1 W0 := by rw [hW0]; exact belowA _
  have HK : Hid (Below w.heap.size w W0) := b1.trans (b2.mono b1.size)
  have HR3 : Hid (RL W0 w.heap.size 24 [.slice a l.length c]) := by
    have := rl_new w #[.slice a l.length c] 24
    rw [← hA1] at this
    exact RL.below this b2
  have HR5 : Hid (RL W0 (w.heap.size + 1) 28 [.string pr, .slice qa ts.length qc]) := by
    have := rl_new A1 #[.string pr, .slice qa ts.length qc] 28
    rw [← hW0, z1] at this
    exact this
  have hl0 : (loadVar 22 ⟨w.heap.size, 0, none⟩).run Tryz.prog W0 = .ok (.slice a l.length c) W0 := load_rules (HR3.out.at (j := 0) rfl)
  have HL : Hid (∀ u, Below W0.heap.size W0 u → Lr u (.slice a l.length c) (d + 1) l) := fun u hu => (hL.below HK.out).below hu
  have HM : Hid (∀ u, Below W0.heap.size W0 u → Lf u (.slice a2 m.length c2) m) := fun u hu => (hM.below HK.out).below hu
  have HT : Hid (∀ u, Below W0.heap.size W0 u → Lt u (.slice qa ts.length qc) ts) := fun u hu => (hT.below HK.out).below hu
  have HG : Hid (∀ u, Below W0.heap.size W0 u → PWt u ∧ KT u ∧ LX.Gl u) := fun u hu => ⟨tab_below (tab_below hG.1 HK.out) hu, (hG.2.1.below HK.out).below hu, (hG.2.2.below HK.out).below hu⟩
  have HLP : Hid (∀ u, Below W0.heap.size W0 u → (loadVar 24 ⟨w.heap.size, 0, none⟩).run Tryz.prog u = .ok (.agg #[.slice a l.length c]) u) := fun u hu => load_pg (RL.below HR3.out hu)
  have HLA : Hid (∀ u, Below W0.heap.size W0 u → (loadVar 28 ⟨w.heap.size + 1, 0, none⟩).run Tryz.prog u = .ok (.agg #[.string pr, .slice qa ts.length qc]) u) := fun u hu => load_atomV (RL.below HR5.out hu)
  have HB := Lib.hid (beyondJob_any (d + 1) _ _ l m W0 hl hm (HL.out W0 (Below.refl _ _)) (HM.out W0 (Below.refl _ _)))
  obtain ⟨F, hF⟩ : ∃ F : R3 → List ByteArray, ∀ r, Lim (eqL (d + 1) r.bd) (atN r.bd) (F r) := Classical.axiomOfChoice (fun (r : R3) => lim_ex (eqL (d + 1) r.bd) (atN r.bd) (eqL_ok _ _))
  have HF := Lib.hid hF
  clear hG hL hM hT hF z1 b1 b2 HR3 HR5
  go_enter Tryz.func3, Tryz.ntmps3
  go_upto_region 1 with fail
  rw [← hA1, ← hW0]
  clear hA1 hW0
  go_wp2_with fail
  clear hl0
  refine HB.out.mono ?_
  rintro e w1 ⟨b, rfl, b1, hs⟩
  have HS := Lib.hid hs
  have B1 := Lib.hid b1
  clear hs HB b1
  cases b
  · obtain ⟨hsS, hsF⟩ := HS.out (by first | rfl | trivial)
    have HSS := Lib.hid hsS
    have HSF := Lib.hid hsF
    have hl1 := HLP.out w1 B1.out
    have HU := Lib.hid (twinProgram_any (d + 1) a c l w1 (HG.out w1 B1.out).1 HSS.out.len HSS.out.each (HL.out w1 B1.out))
    clear HS hsS hsF
    go_wp2_with fail
    clear hl1
    refine HU.out.mono ?_
    rintro e w3 ⟨a', l', rfl, b3, hl2, hx2, hw2⟩
    have B3 : Hid (Below W0.heap.size W0 w3) := B1.out.trans (b3.mono B1.out.size)
    have HL2 : Hid (l'.length = l.length) := hl2
    have HX2 := Lib.hid hx2
    have hst := store_pg w3 a' l.length (l.length + 1)
    have BP := belowA (w := w3) (.cells #[.slice a' l.length (l.length + 1)] 24)
    have HRP := Lib.hid (rl_new w3 #[.slice a' l.length (l.length + 1)] 24)
    have HW2 := Lib.hid (hw2.below BP)
    have B4 : Hid (Below W0.heap.size W0 (w3.alloc (.cells #[.slice a' l.length (l.length + 1)] 24))) := B3.out.trans (BP.mono B3.out.size)
    clear b3 hl2 hx2 hw2 HU BP
    generalize hW4 : w3.alloc (.cells #[.slice a' l.length (l.length + 1)] 24) = W4 at hst HRP HW2 B4
    clear hW4
    have HF2 := Lib.hid (twinFs_any _ m W4 (HG.out W4 B4.out).1 HSF.out.len HSF.out.each (HM.out W4 B4.out))
    go_wp2_with fail
    clear hst
    refine HF2.out.mono ?_
    rintro e w5 ⟨a3, m', rfl, b5, hm3, hy3, hw3⟩
    have B5 : Hid (Below W0.heap.size W0 w5) := B4.out.trans (b5.mono B4.out.size)
    have HM3 : Hid (m'.length = m.length) := hm3
    have HY3 := Lib.hid hy3
    have HW3 := Lib.hid hw3
    have HW2b := Lib.hid (HW2.out.below b5)
    have HRP5 := Lib.hid (RL.below HRP.out b5)
    have hl5 := HLA.out w5 B5.out
    have HTA := Lib.hid (twinAtom_any pr _ ts w5 (HG.out w5 B5.out).1 hlen (HT.out w5 B5.out))
    clear b5 hm3 hy3 hw3 HF2 HW2 HRP
    go_wp2_with fail
    clear hl5
    refine HTA.out.mono ?_
    rintro e w6 ⟨qa', rfl, b6, hta⟩
    have B6 : Hid (Below W0.heap.size W0 w6) := B5.out.trans (b6.mono B5.out.size)
    have hst := store_at w6 pr qa' ts.length (ts.length + 1)
    have BQ := belowA (w := w6) (.cells #[.string pr, .slice qa' ts.length (ts.length + 1)] 28)
    have HRQ := Lib.hid (rl_new w6 #[.string pr, .slice qa' ts.length (ts.length + 1)] 28)
    have HTQ := Lib.hid (hta.below BQ)
    have HW2c := Lib.hid ((HW2b.out.below b6).below BQ)
    have HW3c := Lib.hid ((HW3.out.below b6).below BQ)
    have HRP6 := Lib.hid (RL.below (RL.below HRP5.out b6) BQ)
    have B7 : Hid (Below W0.heap.size W0 (w6.alloc (.cells #[.string pr, .slice qa' ts.length (ts.length + 1)] 28))) := B6.out.trans (BQ.mono B6.out.size)
    clear b6 hta HTA BQ HW2b HW3 HRP5
    generalize hW7 : w6.alloc (.cells #[.string pr, .slice qa' ts.length (ts.length + 1)] 28) = W7 at hst HRQ HTQ HW2c HW3c HRP6 B7
    clear hW7
    go_upto_region 6 with fail
    clear hst
    have hD : Below W7.heap.size W7 W7.drew := (Below.refl _ _).drew
    have HUP : Hid (∀ u, Below W7.heap.size W7 u → Below W0.heap.size W0 u) := fun u hu => B7.out.trans (hu.mono B7.out.size)
    have HC1 : Hid (Calls Tryz.prog 8 #[.agg #[.slice a' l.length (l.length + 1)], .slice a3 m.length (m.length + 1), .agg #[.string pr, .slice qa' ts.length (ts.length + 1)]] W7.drew fun e u1 => e = .returned (refV (inR (d + 1) F l m pr ts)) ∧ Below W7.heap.size W7 u1 ∧ Calls Tryz.prog 9 #[.agg #[.slice a l.length c], .slice a2 m.length c2, .agg #[.string pr, .slice qa ts.length qc]] u1 fun e u2 => e = .returned (refV (inR (d + 1) F l m pr ts)) ∧ Below W7.heap.size W7 u2 ∧ Calls Tryz.prog 10 #[.agg #[.slice a' l.length (l.length + 1)], .agg #[.slice a l.length c]] u2 fun e u3 => e = .returned (.bool true) ∧ Below W7.heap.size W7 u3 ∧ Calls Tryz.prog 11 #[.slice a3 m.length (m.length + 1), .slice a2 m.length c2] u3 fun e u4 => e = .returned (.bool true) ∧ Below W7.heap.size W7 u4 ∧ Calls Tryz.prog 12 #[.agg #[.string pr, .slice qa' ts.length (ts.length + 1)], .agg #[.string pr, .slice qa ts.length qc]] u4 fun e u5 => e = .returned (.bool true) ∧ Below W7.heap.size W7 u5) := by
      have k0 := hD
      have hLr : Lr W7.drew (.slice a' l'.length (l.length + 1)) (d + 1) l' := (HW2c.out.below k0).lrJ HL2.out HX2.out (HL.out W0 (Below.refl _ _)) HSS.out
      have hLf : Lf W7.drew (.slice a3 m'.length (m.length + 1)) m' := (HW3c.out.below k0).lfJ (HM.out W0 (Below.refl _ _)) HSF.out HM3.out HY3.out
      have hLt : Lt W7.drew (.slice qa' ts.length (ts.length + 1)) ts := (HTQ.out.below k0).lt (HT.out W0 (Below.refl _ _)) hlen
      have hsm' : ∀ i, i < l'.length → smallR (d + 1) (atR l' i).r := fun i hi => (HX2.out i (by have := HL2.out; omega)).small (HSS.out.each i (by have := HL2.out; omega))
      have hg := HG.out _ (HUP.out _ k0)
      have hI := input_any d F HF.out l' m' pr ts a' (l.length + 1) a3 (m.length + 1) qa' (ts.length + 1) W7.drew hg.2 hLr hsm' hLf hpr hlen hLt
      rw [in_same HF.out HL2.out HX2.out HM3.out HY3.out, HL2.out, HM3.out] at hI
      refine hI.mono ?_
      rintro e u1 ⟨rfl, c1⟩
      have k1 : Below W7.heap.size W7 u1 := k0.trans (c1.mono k0.size)
      refine ⟨rfl, k1, ?_⟩
      have hR := rinput_any d F HF.out l m pr ts a c a2 c2 qa qc u1 (HL.out u1 (HUP.out u1 k1)) HSS.out.each (HM.out u1 (HUP.out u1 k1)) hpr hlen (HT.out u1 (HUP.out u1 k1))
      rw [← im_in] at hR
      refine hR.mono ?_
      rintro e u2 ⟨rfl, c2⟩
      have k2 : Below W7.heap.size W7 u2 := k1.trans (c2.mono k1.size)
      refine ⟨rfl, k2, ?_⟩
      refine (leftProgram_any (d + 1) l l' a' a (l.length + 1) c _ u2 HL2.out HX2.out HSS.out (HG.out u2 (HUP.out u2 k2)).1 (HW2c.out.below k2) (HL.out u2 (HUP.out u2 k2))).mono ?_
      rintro e u3 ⟨rfl, c3⟩
      have k3 : Below W7.heap.size W7 u3 := k2.trans (c3.mono k2.size)
      refine ⟨rfl, k3, ?_⟩
      refine (leftFs_any m m' a3 a2 (m.length + 1) _ _ u3 HM3.out HY3.out HSF.out (HG.out u3 (HUP.out u3 k3)).1 (HW3c.out.below k3) (HM.out u3 (HUP.out u3 k3))).mono ?_
      rintro e u4 ⟨rfl, c4⟩
      have k4 : Below W7.heap.size W7 u4 := k3.trans (c4.mono k3.size)
      refine ⟨rfl, k4, ?_⟩
      refine (leftAtom_any pr ts qa' qa (ts.length + 1) qc _ u4 hlen (HG.out u4 (HUP.out u4 k4)).1 (HTQ.out.below k4) (HT.out u4 (HUP.out u4 k4))).mono ?_
      rintro e u5 ⟨rfl, c5⟩
      exact ⟨rfl, k4.trans (c5.mono k4.size)⟩
    unfold refV at HC1
    have HDD := Lib.hid hD
    have HTV : Hid (∀ u, Below W7.heap.size W7 u → (loadVar 24 ⟨w3.heap.size, 0, none⟩).run Tryz.prog u = .ok (.agg #[.slice a' l.length (l.length + 1)]) u) := fun u hu => load_pg (RL.below HRP6.out hu)
    have HTT : Hid (∀ u, Below W7.heap.size W7 u → (loadVar 28 ⟨w6.heap.size, 0, none⟩).run Tryz.prog u = .ok (.agg #[.string pr, .slice qa' ts.length (ts.length + 1)]) u) := fun u hu => load_atomV (RL.below HRQ.out hu)
    have HRV : Hid (∀ u, Below W7.heap.size W7 u → (loadVar 24 ⟨w.heap.size, 0, none⟩).run Tryz.prog u = .ok (.agg #[.slice a l.length c]) u) := fun u hu => HLP.out u (HUP.out u hu)
    have HRA : Hid (∀ u, Below W7.heap.size W7 u → (loadVar 28 ⟨w.heap.size + 1, 0, none⟩).run Tryz.prog u = .ok (.agg #[.string pr, .slice qa ts.length qc]) u) := fun u hu => HLA.out u (HUP.out u hu)
    have HBF : Hid (∀ u, Below W7.heap.size W7 u → Below w.heap.size w u) := fun u hu => HK.out.trans ((HUP.out u hu).mono HK.out.size)
    obtain ⟨⟨p1, p2, p3⟩, hin⟩ : ∃ x, inR (d + 1) F l m pr ts = x := ⟨_, rfl⟩
    rw [hin] at HC1
    dsimp only at HC1
    clear hD HUP HL HM HT HG HLP HLA HF HSS HSF HL2 HX2 HM3 HY3 HRP6 HRQ HTQ HW2c HW3c hin
    refine wp_region_noPanic ?_
    refine wp_region_held (S := fun u => Below W7.heap.size W7 u) (by kernel_rfl) ?_
    refine cilaw (w5 := W7) (S := fun u => Below W7.heap.size W7 u) (b3 := w.heap.size) (b5 := w.heap.size + 1) (b7 := w3.heap.size) (b9 := w6.heap.size) (p1 := p1) (p2 := p2) (p3 := p3) rfl rfl rfl rfl rfl rfl rfl rfl rfl rfl rfl rfl rfl rfl rfl rfl rfl rfl rfl rfl rfl rfl rfl rfl rfl (by kernel_rfl) (by kernel_rfl) (by kernel_rfl) (by kernel_rfl) (by kernel_rfl) (by kernel_rfl) (by kernel_rfl) (by kernel_rfl) (fun _ _ _ _ _ h => h) (by simp) rfl rfl rfl rfl rfl rfl HDD.out (fun _ _ _ h => h) (fun u hu => HTV.out u hu) (fun u hu => HRV.out u hu) (fun u hu => HTT.out u hu) (fun u hu => HRA.out u hu) (fun u => run_eqRf p1 p2 p3 u) HC1.out ?_
    intro wc hwc
    have HBW := Lib.hid (HBF.out wc hwc)
    clear hwc HC1 HTV HTT HRV HRA HDD HBF
    refine NoPanic.normal ?_
    rename_i hK
    refine hK _ _ ?_
    simp (config := { maxSteps := 8000000 }) only [Act.put, List.getElem_toArray, List.getElem_cons_zero, List.getElem_cons_succ, List.setIfInBounds_toArray, List.set_cons_succ, List.set_cons_zero]
    go_wp2
    go_ret
    exact ⟨by first | rfl | simp, HBW.out⟩
  · clear HS
    go_wp2
    go_ret
    exact ⟨by first | rfl | simp, HK.out.trans (B1.out.mono HK.out.size)⟩
end Go.Proofs.YtmmkpcbelofkmaaGreatDoor
end
