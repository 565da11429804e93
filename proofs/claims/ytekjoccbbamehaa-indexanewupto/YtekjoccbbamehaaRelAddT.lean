import Derived.Test.YtekjoccbbamehaaRelRemove
namespace Go.Proofs.Ytekjoccbbamehaa
open Go.RowKit Go.Maps
set_option linter.unusedVariables false
set_option linter.unusedSimpArgs false
attribute [local go_sem ↓] Go.wp_at_zero Go.wp_at_succ

theorem RTouch.trans {a b c : World} {t m : Nat} {sv : Value} (h : RTouch a b t m sv) (k : RTouch b c t m sv) : RTouch a c t m sv :=
  ⟨k.os.trans h.os, k.tape.trans h.tape, k.output.trans h.output, Nat.le_trans h.size k.size, fun i hi h1 h2 h3 => (k.block i (Nat.lt_of_lt_of_le hi h.size) h1 h2 h3).trans (h.block i hi h1 h2 h3)⟩
theorem RTouch.mapTurned {a b c : World} {t m : Nat} {sv : Value} (h : RTouch a b t m sv) (ht : b.mapTurned c m) : RTouch a c t m sv := by
  have s := Beside.mapTurned ht
  exact ⟨s.os.trans h.os, s.tape.trans h.tape, s.output.trans h.output, Nat.le_trans h.size s.size, fun i hi h1 h2 h3 => (s.block i (Nat.lt_of_lt_of_le hi h.size) h2).trans (h.block i hi h1 h2 h3)⟩
theorem rel_growT {W u w3 : World} {B t m : Nat} {sv v' : Value} {rows : List (List Int)} {r : List Int} {ar gone : Int}
    (rl : RL W t 65 [sv, .map (some m), .int .i64 ar, .int .i64 gone]) (own : W.ownsRow B 34 24 sv rows.length (rows.flatMap (fun r => r.map cellI))) (map : MapR W m (rows ++ [r])) (hWu : Below W.heap.size W u)
    (hown : w3.ownsRow B 34 24 v' (rows.length + 1) (rows.flatMap (fun r => r.map cellI) ++ r.map cellI)) (hg : u.grownBy w3 sv.ownBlock) (hloc : v'.ownBlock = sv.ownBlock ∨ v'.ownBlock = some u.heap.size)
    (nd : (rows ++ [r]).Nodup) (ok : ∀ x ∈ rows ++ [r], RowOk x) (lo : B ≤ t ∧ B ≤ m) (ne : t ≠ m ∧ ∀ g, sv.ownBlock = some g → g ≠ t ∧ g ≠ m) (hB : B ≤ W.heap.size) :
    Rel (w3.setCell ⟨t, 0, none⟩ v') B t m v' (rows ++ [r]) ar gone ∧ w3.cell? ⟨t, 0, none⟩ = some sv ∧ w3.frozen? ⟨t, 0, none⟩ = false ∧ RTouch W (w3.setCell ⟨t, 0, none⟩ v') t m sv := by
  obtain ⟨h1, h2, h3, h4⟩ := rel_grow rl own map hWu hown hg hloc nd ok lo ne hB
  refine ⟨h1, h2, h3, h4.os, h4.tape, h4.output, h4.size, fun k hk hkt _ hks => ?_⟩
  exact (Below.heap_setCell _ _ _ _ hkt).trans ((hg.block k (Nat.lt_of_lt_of_le hk hWu.size) (fun e => hks e.symm)).trans (hWu.block k hk))
attribute [-go_sem] loadVar
set_option maxHeartbeats 3200000 in
set_option maxRecDepth 100000 in
theorem put_newT {w : World} {B t m : Nat} {sv : Value} {rows : List (List Int)} {ar gone : Int} (h : Rel w B t m sv rows ar gone) (hB : B ≤ w.heap.size) (hlen : rows.length ≤ 1000000000) (r : List Int) (hr : RowOk r) (hx : r ∉ rows) : Calls Try.prog 30 #[.pointer (some ⟨t, 0, none⟩), rowV r] w fun e w' => e = .returned (.bool true) ∧ RTouch w w' t m sv ∧ ∃ sv', Rel w' B t m sv' (rows ++ [r]) ar gone ∧ ∀ g, sv'.ownBlock = some g → sv.ownBlock = some g ∨ w.heap.size ≤ g := by
  obtain ⟨i0, hi0, hz0, hz1, hz2⟩ := info_parts infoRowB
  have hb := (Below.refl w.heap.size w).alloc (Nat.le_refl _) (.cells (rowC r) 34)
  have HB := Lib.hid hb
  have HA := Lib.hid (rowAt_new w r)
  have l2 := run_loadRow (rowAt_new w r) hr.len
  have HR := Lib.hid (h.keep hb)
  have HH := Lib.hid (has_any (h.keep hb) r hr false ⟨fun e => (by cases e), fun e => absurd e hx⟩)
  have HX := Lib.hid (And.intro hr hx)
  have HTM := Lib.hid (And.intro (World.rowIs.lt h.rl) h.map.lt)
  clear h hb hx
  unfold rowV at l2 HH ⊢
  go_enter Try.func30, Try.ntmps30
  go_upto_region 1 with fail
  generalize w.alloc (.cells (rowC r) 34) = W at HB HA l2 HR HH ⊢
  go_wp2_with fail
  refine HH.out.mono ?_
  rintro e w1 ⟨rfl, b1⟩
  have HR1 := Lib.hid ((HR.out.keep b1).keep (Below.refl _ _).drew)
  have HA1 := Lib.hid ((HA.out.below b1).below (Below.refl _ _).drew)
  have HB1 := Lib.hid ((HB.out.trans (b1.mono HB.out.size)).drew)
  clear HR HA HB HH b1 l2
  obtain ⟨ao, co, hsv, _⟩ := own_form HR1.out.own
  subst hsv
  have l0 := run_loadRows (HR1.out.rl.at (j := 0) rfl)
  have l1 := run_loadMap (HR1.out.rl.at (j := 1) rfl)
  have l2 := run_loadRow HA1.out HX.out.1.len
  obtain ⟨w2, hput, hm2, ht2⟩ := HR1.out.map.put HX.out.1 HX.out.2
  have HM2 := Lib.hid hm2
  have HT2 := Lib.hid (HR1.out.turned ht2)
  unfold rowV at l2 hput
  have HA2 : Hid (RowAt w2 w.heap.size r) := (ht2.grown.block w.heap.size HA1.out.lt (fun e => by have := HTM.out.2; have := Option.some.inj e; omega)).trans HA1.out
  have HB2 : Hid (RTouch w w2 t m (.slice ao rows.length co)) := (RTouch.of HB1.out).mapTurned ht2
  have HNE := Lib.hid (And.intro HR1.out.lo HR1.out.ne)
  have HND : Hid ((rows ++ [r]).Nodup ∧ ∀ x ∈ rows ++ [r], RowOk x) := by
    refine ⟨?_, fun x hx => ?_⟩
    · rw [List.nodup_append]
      exact ⟨HR1.out.nd, by simp, fun a ha b hb => by rw [List.mem_singleton.1 hb]; exact fun e => HX.out.2 (e ▸ ha)⟩
    · rcases List.mem_append.1 hx with hx | hx
      · exact HR1.out.ok x hx
      · rw [List.mem_singleton.1 hx]; exact HX.out.1
  have HBZ : Hid (B ≤ w2.heap.size) := by show _ ≤ _; have := HB2.out.size; omega
  clear hm2 ht2 HTM
  go_upto_region 3 with fail
  go_cut [8] (fun _ wc => wc = w2)
  case first =>
    go_region
    all_goals
      go_wp2_with fail
      go_meet
      exact rfl
  case rest =>
    subst hcut
    have hd : Below wc.heap.size wc wc.drew := (Below.refl _ _).drew
    have hau : Below wc.drew.heap.size wc.drew (wc.drew.alloc (.cells (rowC r) 34)) := (Below.refl _ _).alloc (Nat.le_refl _) _
    have HRL := Lib.hid (HT2.out.1.below hd)
    have HOW := Lib.hid (own_below HT2.out.2 hd)
    have HOWN := Lib.hid (own_below (own_below HT2.out.2 hd) hau)
    have HMP := Lib.hid (HM2.out.below hd)
    have HAU := Lib.hid hau
    have HSZ : Hid (B ≤ (wc.drew.alloc (.cells (rowC r) 34)).heap.size) := by show _ ≤ _; have := HBZ.out; simp; omega
    have HBZ' : Hid (B ≤ wc.drew.heap.size) := HBZ.out
    have HBW : Hid (RTouch w wc.drew t m (.slice ao rows.length co)) := HB2.out.trans (RTouch.of (Below.refl _ _).drew)
    have l0' := run_loadRows (HRL.out.at (j := 0) rfl)
    have l0'' : (loadVar 22 ⟨t, 0, none⟩).run Try.prog (wc.alloc (.cells (List.map cellI r).toArray 34)).drew = .ok (.slice ao rows.length co) (wc.alloc (.cells (List.map cellI r).toArray 34)).drew := run_loadRows ((HRL.out.below hau).at (j := 0) rfl)
    have l2' := run_loadRow (HA2.out.below hd) HX.out.1.len
    have hrl : (r.map cellI).length = 1 * 24 := by rw [List.length_map, HX.out.1.len]
    have HC : Hid (∀ (j : Nat) (u : Value), (r.map cellI)[j]? = some u → (wc.drew.alloc (.cells (rowC r) 34)).cell? ((⟨wc.heap.size, 0, none⟩ : Addr).add j) = some u) := fun j u hu => lit_news wc.drew (rowC r) 34 j u (by simpa using hu)
    have HONE : Hid (∀ u ∈ r.map cellI, u.oneCell' = true) := fun u hu => by
      obtain ⟨x, _, rfl⟩ := List.mem_map.1 hu
      rfl
    have hfold := fold_row HX.out.1.len (A := #[.int .i32 0, .int .i32 0, .int .i32 0, .int .i32 0, .int .i32 0, .int .i32 0, .int .i32 0, .int .i32 0, .int .i32 0, .int .i32 0, .int .i32 0, .int .i32 0, .int .i32 0, .int .i32 0, .int .i32 0, .int .i32 0, .int .i32 0, .int .i32 0, .int .i32 0, .int .i32 0, .int .i32 0, .int .i32 0, .int .i32 0, .int .i32 0]) rfl
    unfold rowV at l2'
    clear hd hau l0 l1 l2 hput HM2 HT2 HA2 HB2 HBZ HA1 HB1 HR1
    go_upto_region 4 with fail
    go_region_law (
      refine step_append_own rfl (.tmp 22) (.tmp 24) 22 rfl 34 i0 _ 24 96 Try.underlying22 hi0 hz0 hz1 hz2 rfl (by decide) B (.slice ao rows.length co) rows.length _ (by simp [Act.eval, Act.put]) HOWN.out ⟨wc.heap.size, 0, none⟩ 1 1 (r.map cellI) (by simp [Act.eval, Act.put]) hrl HC.out HONE.out (by unfold maxLen; omega) (by omega) HSZ.out ?_
      intro v' w3 hown' hgrow hloc
      obtain ⟨hfin, m4, f4, hbf⟩ := rel_growT HRL.out HOW.out HMP.out HAU.out hown' hgrow hloc HND.out.1 HND.out.2 HNE.out.1 HNE.out.2 HBZ'.out
      obtain ⟨a2, c2, hv', _⟩ := own_form hown'
      subst hv'
      have HFIN := Lib.hid hfin
      have HBF := Lib.hid hbf
      have HLOC := Lib.hid hloc
      clear hown' hgrow hloc hfin hbf)
    all_goals
      go_wp2
      go_ret
      refine ⟨rfl, HBW.out.trans HBF.out, _, HFIN.out, fun g hg => ?_⟩
      rcases HLOC.out with e | e
      · exact .inl (e ▸ hg)
      · rw [e] at hg
        have h1 := Option.some.inj hg
        have h2 := HBW.out.size
        simp at h1 h2
        exact .inr (by omega)
set_option maxHeartbeats 3200000 in
set_option maxRecDepth 100000 in
theorem add_anyT {w : World} {B t m : Nat} {sv : Value} {rows : List (List Int)} {ar gone : Int} (h : Rel w B t m sv rows ar gone) (hB : B ≤ w.heap.size) (hlen : rows.length ≤ 1000000000) (r : List Int) (hr : RowOk r) :
    Calls Try.prog 15 #[.pointer (some ⟨t, 0, none⟩), rowV r] w fun e w' =>
      (fitB r ar = false ∧ e = .returned (.tuple #[.bool false, .int .i64 100]) ∧ Below w.heap.size w w') ∨
      (fitB r ar = true ∧ r ∈ rows ∧ e = .returned (.tuple #[.bool false, .int .i64 0]) ∧ Below w.heap.size w w') ∨
      (fitB r ar = true ∧ r ∉ rows ∧ e = .returned (.tuple #[.bool true, .int .i64 0]) ∧ RTouch w w' t m sv ∧ ∃ sv', Rel w' B t m sv' (rows ++ [r]) ar gone ∧ ∀ g, sv'.ownBlock = some g → sv.ownBlock = some g ∨ w.heap.size ≤ g) := by
  have hb := (Below.refl w.heap.size w).alloc (Nat.le_refl _) (.cells (rowC r) 34)
  have HB := Lib.hid hb
  have HA := Lib.hid (rowAt_new w r)
  have HR := Lib.hid (h.keep hb)
  have HT := Lib.hid (there_yes (h.keep hb))
  have HX := Lib.hid hr
  have hzW : w.heap.size ≤ (w.alloc (.cells (rowC r) 34)).heap.size := by simp
  clear h hb
  unfold rowV
  go_enter Try.func15, Try.ntmps15
  go_upto_region 1 with fail
  generalize w.alloc (.cells (rowC r) 34) = W at HB HA HR HT hzW ⊢
  go_wp2_with fail
  refine HT.out.mono ?_
  rintro e w1 ⟨rfl, rfl⟩
  have HR1 := Lib.hid (HR.out.keep (Below.refl _ _).drew)
  have HA1 := Lib.hid (HA.out.below (Below.refl _ _).drew)
  have l1 := run_loadInt (HR1.out.rl.at (j := 2) rfl)
  have l2 := run_loadRow HA1.out HX.out.len
  unfold rowV at l2
  have HF := fun u => Lib.hid (fits_any r HX.out.len ar u)
  unfold rowV at HF
  clear HT
  go_upto_region 3 with fail
  go_region_law (
    refine step_call rfl 29 Try.func29 (by kernel_rfl) (by kernel_rfl) #[.tmp 9, .tmp 13] _ rfl #[.agg (List.map cellI r).toArray, .int .i64 ar] (by simp [Act.eval, Act.put]) (HF _).out ?_
    rintro ee w2 ⟨rfl, b2⟩
    refine ⟨_, rfl, ?_⟩
    have HB2 := Lib.hid b2
    clear b2)
  all_goals
    have HR2 := Lib.hid ((HR1.out.keep HB2.out).keep (Below.refl _ _).drew)
    have HA2 := Lib.hid ((HA1.out.below HB2.out).below (Below.refl _ _).drew)
    have HBW := Lib.hid (HB.out.drew.trans (HB2.out.mono HB.out.drew.size))
    have hzz : Hid (B ≤ w2.drew.heap.size) := by show _ ≤ _; have := HBW.out.size; show B ≤ w2.heap.size; omega
    have l2' := run_loadRow HA2.out HX.out.len
    unfold rowV at l2'
    clear l1 l2 HR1 HA1 HB2 HF HB HA HR
    cases hf : fitB r ar with
    | false =>
      go_wp2
      go_ret2
      exact .inl ⟨hf, rfl, HBW.out⟩
    | true =>
      by_cases hm : r ∈ rows
      · have HP := Lib.hid (put_old HR2.out r HX.out hm)
        unfold rowV at HP
        have HM := Lib.hid hm
        clear HR2 HA2 hm
        go_upto_region 5 with fail
        go_region_law (
          refine step_call rfl 30 Try.func30 (by kernel_rfl) (by kernel_rfl) #[.tmp 18, .tmp 19] _ rfl #[.pointer (some ⟨t, 0, none⟩), .agg (List.map cellI r).toArray] (by simp [Act.eval, Act.put]) HP.out ?_
          rintro ee w3 ⟨rfl, b3⟩
          refine ⟨_, rfl, ?_⟩
          have HB3 := Lib.hid (HBW.out.drew.trans (b3.mono HBW.out.drew.size))
          clear b3)
        all_goals
          go_wp2
          go_ret2
          exact .inr (.inl ⟨hf, HM.out, rfl, HB3.out⟩)
      · have HP := Lib.hid (put_newT HR2.out hzz.out hlen r HX.out hm)
        unfold rowV at HP
        have HM := Lib.hid hm
        clear HR2 HA2 hm
        go_upto_region 5 with fail
        go_region_law (
          refine step_call rfl 30 Try.func30 (by kernel_rfl) (by kernel_rfl) #[.tmp 18, .tmp 19] _ rfl #[.pointer (some ⟨t, 0, none⟩), .agg (List.map cellI r).toArray] (by simp [Act.eval, Act.put]) HP.out ?_
          rintro ee w3 ⟨rfl, b3, sv', hrel, hloc⟩
          refine ⟨_, rfl, ?_⟩
          have HB3 : Hid (RTouch w w3 t m sv) := (RTouch.of HBW.out.drew).trans b3
          have HRL := Lib.hid hrel
          have HLC := Lib.hid hloc
          clear b3 hrel hloc)
        all_goals
          go_wp2
          go_ret2
          exact .inr (.inr ⟨hf, HM.out, rfl, HB3.out, sv', HRL.out, fun g hg => (HLC.out g hg).imp id (fun h => Nat.le_trans HBW.out.size h)⟩)
end Go.Proofs.Ytekjoccbbamehaa
