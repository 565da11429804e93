import Derived.Test.YthdcgikhcghigaaSpRef
namespace Go.Proofs.Ythdcgikhcghigaa
open Go.RowKit Go.Maps Go.ChangeMaps
set_option linter.unusedVariables false
set_option linter.unusedSimpArgs false
attribute [local go_sem ↓] Go.wp_at_zero Go.wp_at_succ

/-- a value more -/
theorem rt_grow {W u w3 : World} {B p : Nat} {sv v' : Value} {vs : List V} {v : V} {most : Int}
    (h : Rt W B p sv vs most) (hv : v.wf) (hWu : Below W.heap.size W u)
    (hown : w3.ownsRow B 39 3 v' (vs.length + 1) (vs.flatMap V.cells ++ [.int .i8 v.k, .int .i64 v.n, .string v.s])) (hg : u.grownBy w3 sv.ownBlock) (hloc : v'.ownBlock = sv.ownBlock ∨ v'.ownBlock = some u.heap.size) :
    Rt (w3.setCell ⟨p, 2, none⟩ v') B p v' (vs ++ [v]) most ∧ w3.cell? ⟨p, 2, none⟩ = some sv ∧ w3.frozen? ⟨p, 2, none⟩ = false ∧ Touch W (w3.setCell ⟨p, 2, none⟩ v') p p sv v' := by
  have tl := World.rowIs.lt h.rl
  have hz := hWu.size
  have nt : some p ≠ sv.ownBlock := fun e => h.ne p e.symm rfl
  have rl3 : RL w3 p 58 [.bool true, .int .i64 most, sv] := World.rowIs.of_block h.rl ((hg.block p (by omega) nt).trans (hWu.block p tl))
  have ne3 : ∀ g, v'.ownBlock = some g → g ≠ p := fun g hgg => by
    rcases hloc with e | e
    · exact h.ne g (by rw [← e]; exact hgg)
    · rw [e] at hgg
      have := Option.some.inj hgg
      omega
  refine ⟨⟨rl3.set 2 v', ?_, fun x hx => ?_, h.lo, ne3⟩, rl3.at (j := 2) rfl, World.rowIs.frozen rl3 2, ⟨?_, ?_, ?_⟩⟩
  · rw [List.length_append, flat_snoc]
    exact ownsRow_of_block hown (fun g hgg => Below.heap_setCell w3 ⟨p, 2, none⟩ v' g (ne3 g hgg))
  · rcases List.mem_append.1 hx with hx | hx
    · exact h.wf x hx
    · rw [List.mem_singleton.1 hx]; exact hv
  · exact ((hWu.mono (Nat.zero_le _)).grown hg (Nat.zero_le _) (fun _ _ => Nat.zero_le _)).setCell (Nat.zero_le _) _
  · intro k hk n1 n2 n3
    exact (Below.heap_setCell _ _ _ _ n1).trans ((hg.block k (Nat.lt_of_lt_of_le hk hz) (fun e => n3 e.symm)).trans (hWu.block k hk))
  · intro g hgg
    rcases hloc with e | e
    · exact .inl (e ▸ hgg)
    · rw [e] at hgg
      cases hgg
      exact .inr hz
theorem Touch.after {w u w' : World} {t m : Nat} {sv sv' : Value} (h : Touch u w' t m sv sv') (b : Below w.heap.size w u) : Touch w w' t m sv sv' :=
  ⟨(b.mono (Nat.zero_le _)).trans h.low, fun k hk n1 n2 n3 => (h.block k (Nat.lt_of_lt_of_le hk b.size) n1 n2 n3).trans (b.block k hk), fun g hg => (h.new g hg).imp_right (Nat.le_trans b.size)⟩
set_option maxHeartbeats 3200000 in
set_option maxRecDepth 100000 in
theorem rtadd_any {w : World} {B p : Nat} {sv : Value} {vs : List V} {most : Int} (h : Rt w B p sv vs most) (hB : B ≤ w.heap.size) (hlen : vs.length ≤ 1000000000) (v : V) (hv : v.wf) :
    Calls Try.prog 14 #[.pointer (some ⟨p, 0, none⟩), .agg #[.int .i8 v.k, .int .i64 v.n, .string v.s]] w fun e w' =>
      (chk v.k v.n v.s ≠ 0 ∧ e = .returned (.tuple #[.int .i32 0, .int .i64 10]) ∧ Below w.heap.size w w') ∨
      (chk v.k v.n v.s = 0 ∧ (∃ i : Nat, e = .returned (.tuple #[.int .i32 i, .int .i64 0]) ∧ vs[i]? = some v ∧ ∀ j, j < i → vs[j]? ≠ some v) ∧ Below w.heap.size w w') ∨
      (chk v.k v.n v.s = 0 ∧ v ∉ vs ∧ most ≤ vs.length ∧ e = .returned (.tuple #[.int .i32 0, .int .i64 20]) ∧ Below w.heap.size w w') ∨
      (chk v.k v.n v.s = 0 ∧ v ∉ vs ∧ vs.length < most ∧ e = .returned (.tuple #[.int .i32 vs.length, .int .i64 0]) ∧ ∃ sv', Rt w' B p sv' (vs ++ [v]) most ∧ Touch w w' p p sv sv') := by
  obtain ⟨i0, hi0, hz0, hz1, hz2⟩ := info_parts infoVal
  have HB := Lib.hid (belowA (w := w) (.cells #[.int .i8 v.k, .int .i64 v.n, .string v.s] 39))
  have HA := Lib.hid (rl_new w #[.int .i8 v.k, .int .i64 v.n, .string v.s] 39)
  have HR := Lib.hid (h.keep HB.out)
  have HV := Lib.hid hv
  have hzW : w.heap.size < (w.alloc (.cells #[.int .i8 v.k, .int .i64 v.n, .string v.s] 39)).heap.size := by simp
  clear h hv
  go_enter Try.func14, Try.ntmps14
  have HT := Lib.hid (rtthere_yes HR.out)
  go_wp2_with fail
  refine HT.out.mono ?_
  rintro e w1 ⟨rfl, rfl⟩
  clear HT
  generalize w.alloc (.cells #[.int .i8 v.k, .int .i64 v.n, .string v.s] 39) = W at HB HA HR hzW ⊢
  have y0 := HA.out.at (j := 0) rfl
  have y1 := HA.out.at (j := 1) rfl
  have y2 := HA.out.at (j := 2) rfl
  go_wp2_with fail
  refine (rcheck_any _ _ _ _ HV.out.text).mono ?_
  rintro e w1 ⟨rfl, hb1⟩
  have HBW := Lib.hid (HB.out.trans (hb1.mono HB.out.size))
  have HR1 := Lib.hid (HR.out.keep hb1)
  have HA1 := Lib.hid (HA.out.below hb1)
  have hz1' : w.heap.size < w1.heap.size := Nat.lt_of_lt_of_le hzW hb1.size
  clear hb1 HA HR HB y0 y1 y2 hzW
  by_cases hc : chk v.k v.n v.s = 0
  · have HC := Lib.hid hc
    rw [hc]
    clear hc
    have y0 := HA1.out.at (j := 0) rfl
    have y1 := HA1.out.at (j := 1) rfl
    have y2 := HA1.out.at (j := 2) rfl
    go_wp2_with fail
    refine (rtfind_any HR1.out hlen v HV.out).mono ?_
    rintro e w2 ⟨⟨rfl, hm⟩ | ⟨i, rfl, hi, hj⟩, hb2⟩
    · have HM := Lib.hid hm
      have HBX := Lib.hid (HBW.out.trans (hb2.mono HBW.out.size))
      have HR2 := Lib.hid (HR1.out.keep hb2)
      have HA2 := Lib.hid (HA1.out.below hb2)
      obtain ⟨a, c, rfl, _⟩ := ownsRow_form HR2.out.own
      have c1 := HR2.out.rl.at (j := 1) rfl
      have c2 := HR2.out.rl.at (j := 2) rfl
      clear y0 y1 y2 hm HR1 HA1 HBW hb2
      by_cases hf : most ≤ (vs.length : Int)
      · go_wp2
        go_quiet (fail)
        go_wp2
        go_ret2
        exact .inr (.inr (.inl ⟨HC.out, HM.out, hf, rfl, below_drewV HBX.out _⟩))
      · go_wp2
        go_quiet (fail)
        go_wp2
        have HBc := Lib.hid (below_drewV HBX.out nq)
        have HRc := Lib.hid (HR2.out.keep (below_drewV (Below.refl _ _) nq))
        have HAc := Lib.hid (HA2.out.below (below_drewV (Below.refl _ _) nq))
        have hzc : w.heap.size < (w2.drewN nq).heap.size := World.rowIs.lt HAc.out
        clear c1 c2 HBX HR2 HA2 hz1'
        generalize w2.drewN nq = wc at HBc HRc HAc hzc ⊢
        have c2 := HRc.out.rl.at (j := 2) rfl
        have y0 := HAc.out.at (j := 0) rfl
        have y1 := HAc.out.at (j := 1) rfl
        have y2 := HAc.out.at (j := 2) rfl
        have hp : p < wc.heap.size := World.rowIs.lt HRc.out.rl
        have hd : Below wc.heap.size wc wc.drew := (Below.refl _ _).drew
        have hau : Below wc.drew.heap.size wc.drew (wc.drew.alloc (.cells #[.int .i8 v.k, .int .i64 v.n, .string v.s] 39)) := belowA _
        have HRD := Lib.hid (HRc.out.keep hd)
        have HOWN := Lib.hid (own_belowW (own_belowW HRc.out.own hd) hau)
        have HAU := Lib.hid hau
        have HBD : Hid (Below w.heap.size w wc.drew) := HBc.out.drew
        have HSZ : Hid (B ≤ (wc.drew.alloc (.cells #[.int .i8 v.k, .int .i64 v.n, .string v.s] 39)).heap.size) := by show _ ≤ _; have := HBc.out.size; simp; omega
        have HN : Hid (∀ (j : Nat) (u : Value), ([.int .i8 v.k, .int .i64 v.n, .string v.s] : List Value)[j]? = some u → (wc.drew.alloc (.cells #[.int .i8 v.k, .int .i64 v.n, .string v.s] 39)).cell? ((⟨wc.heap.size, 0, none⟩ : Addr).add j) = some u) := one_news wc.drew v
        clear hd hau HBc HRc HAc
        go_region_law (
          refine step_append_own rfl (.tmp 36) (.tmp 38) 40 rfl 39 i0 _ 3 32 Try.underlying40 hi0 hz0 hz1 hz2 rfl (by decide) B (.slice a vs.length c) vs.length _ (by simp [Act.eval, Act.put]) HOWN.out ⟨wc.heap.size, 0, none⟩ 1 1 [.int .i8 v.k, .int .i64 v.n, .string v.s] (by simp [Act.eval, Act.put]) rfl HN.out (by simp [Value.oneCell']) (by unfold maxLen; omega) (by omega) HSZ.out ?_
          intro v' w3 hown' hgrow hloc
          obtain ⟨hfin, m4, f4, hbf⟩ := rt_grow HRD.out HV.out HAU.out hown' hgrow hloc
          obtain ⟨a2, c3, hv', _⟩ := ownsRow_form hown'
          subst hv'
          have HFIN := Lib.hid hfin
          have HBF := Lib.hid hbf
          clear hown' hgrow hloc hfin hbf)
        all_goals
          go_wp2
          go_ret2
          exact .inr (.inr (.inr ⟨HC.out, HM.out, by omega, rfl, _, HFIN.out, HBF.out.after HBD.out⟩))
    · have HX := Lib.hid (And.intro hi hj)
      have HBX := Lib.hid (HBW.out.trans (hb2.mono HBW.out.size))
      clear hi hj hb2 HBW y0 y1 y2
      go_wp2
      go_ret2
      exact .inr (.inl ⟨HC.out, ⟨i, rfl, HX.out⟩, HBX.out⟩)
  · go_wp2
    go_ret2
    exact .inl ⟨hc, rfl, HBW.out⟩
end Go.Proofs.Ythdcgikhcghigaa
