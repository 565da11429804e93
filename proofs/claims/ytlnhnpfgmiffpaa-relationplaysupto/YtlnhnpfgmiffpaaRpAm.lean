import Derived.Test.YtlnhnpfgmiffpaaRpAmA
namespace Go.Proofs.Ytlnhnpfgmiffpaa
open Go.RowKit Go.Maps Go.Shelf
set_option linter.unusedVariables false
set_option linter.unusedSimpArgs false
attribute [local go_sem ↓] Go.wp_at_zero Go.wp_at_succ
attribute [local go_sem] Oper.semAt_some
theorem run_loadPB {w : World} {a : Addr} {v : Value} (h : w.cell? a = some v) : (loadVar 58 a).run Try.prog w = .ok v w := by
  simp [loadVar, go_sem, h]
attribute [-go_sem] loadVar
set_option maxHeartbeats 12800000 in
set_option maxRecDepth 100000 in
theorem amid_live {w : World} {b o t m p n : Nat} {sv sv' : Value} {rows : List (List Int)} {gn : Int} (h : Bo w b o 0 t m sv p sv' rows n gn) (hlen : rows.length ≤ 50000000) (hw : IntKind.i64.wrap (gn + 1) = gn + 1) (on kk nn mm mask : Int) (r : List Int) (hr : RowOk r) :
    Calls Try.prog 47 #[.pointer (some ⟨b, o, none⟩), .agg (opL on kk nn mm mask r).toArray] w fun e w' => e = .returned (.bool true) ∧
      (∃ sv2 sv2' rows2 gn2, Bo w' b o 0 t m sv2 p sv2' rows2 n gn2 ∧ LocB w sv sv2 ∧ LocB w sv' sv2' ∧ rows2.length ≤ rows.length + 1 ∧ (gn2 = gn ∨ gn2 = gn + 1)) ∧ BK.Tch (BoE t m sv p sv') w w' := by
  refine (callsIn_wide (n := 8)).1 ?_
  refine callsIn_of_wp_marks Try.func47 rfl trivial ?_ rfl
  simp only [Try.ntmps47, List.size_toArray, List.length_cons, List.length_nil, Nat.reduceAdd, Nat.reduceSub, Array.replicate_succ, Array.replicate_zero, List.push_toArray, List.append_toArray, List.nil_append, List.cons_append]
  have hb3 := ((((Below.refl w.heap.size w).alloc (Nat.le_refl _) (.cells #[.pointer (some ⟨b, o, none⟩)] 58)).alloc (by simp) (.cells (opL on kk nn mm mask r).toArray 42)).alloc (by simp; omega) (.cells #[.bool false] 4))
  have HB3 := Lib.hid hb3
  have HN3 := Lib.hid (h.keep hb3)
  have HRX := Lib.hid (And.intro hr hw)
  have H0 := Lib.hid h
  have B1 := Lib.hid (bxB (bxB (Boxed.new w 58 (.pointer (some ⟨b, o, none⟩))) (belowA (.cells (opL on kk nn mm mask r).toArray 42))) (belowA (.cells #[.bool false] 4)))
  have O2 : Hid (OpAt (((w.alloc (.cells #[.pointer (some ⟨b, o, none⟩)] 58)).alloc (.cells (opL on kk nn mm mask r).toArray 42)).alloc (.cells #[.bool false] 4)) (w.heap.size + 1) on kk nn mm mask r) := by
    have := (opAt_new (w.alloc (.cells #[.pointer (some ⟨b, o, none⟩)] 58)) on kk nn mm mask r).below (belowA (.cells #[.bool false] 4))
    simp only [World.size_alloc] at this
    exact this
  have B3 := Lib.hid (bxN (w := (w.alloc (.cells #[.pointer (some ⟨b, o, none⟩)] 58)).alloc (.cells (opL on kk nn mm mask r).toArray 42)) (B := w.heap.size + 1 + 1) (by simp) 4 (.bool false))
  clear h hb3 hr hw
  gi_wp2_with fail
  generalize (((w.alloc (.cells #[.pointer (some ⟨b, o, none⟩)] 58)).alloc (.cells (opL on kk nn mm mask r).toArray 42)).alloc (.cells #[.bool false] 4)) = W at HB3 HN3 B1 O2 B3 ⊢
  refine wpIn_wide.2 ?_
  have hB0 : Below W.heap.size W W.drew := (Below.refl _ _).drew
  have HS : Hid (∀ u, Below W.heap.size W u → (loadVar 25 ⟨b, o + 1, none⟩).run Try.prog u = .ok (.pointer (some ⟨p, 0, none⟩)) u ∧ (loadVar 58 ⟨w.heap.size, 0, none⟩).run Try.prog u = .ok (.pointer (some ⟨b, o, none⟩)) u ∧ (loadVar 3 ⟨w.heap.size + 1, 2, none⟩).run Try.prog u = .ok (.int .i64 nn) u ∧ (loadVar 3 ⟨w.heap.size + 1, 3, none⟩).run Try.prog u = .ok (.int .i64 mm) u) :=
    fun u hu => ⟨run_loadRef (HN3.out.keep hu).cR, run_loadPB (bxB B1.out hu).cell, run_loadInt (O2.out.below hu).c2, run_loadInt (O2.out.below hu).c3⟩
  go_cut [5] from 14 to 22 (fun x wc => ∃ bw la lc, x = .pointer (some ⟨bw, 0, none⟩) ∧ Hid (Below W.heap.size W wc ∧ W.heap.size ≤ bw ∧ Boxed wc bw 69 (.slice la (rngN rows nn mm rows.length).length lc) ∧ Wl wc la (rngN rows nn mm rows.length) ∧ ∀ g, (Value.slice la (rngN rows nn mm rows.length).length lc).ownBlock = some g → W.heap.size ≤ g))
  case first =>
    go_region_held3 (fun u => Below W.heap.size W u ∧ (loadVar 25 ⟨b, o + 1, none⟩).run Try.prog u = .ok (.pointer (some ⟨p, 0, none⟩)) u ∧ (loadVar 58 ⟨w.heap.size, 0, none⟩).run Try.prog u = .ok (.pointer (some ⟨b, o, none⟩)) u ∧ (loadVar 3 ⟨w.heap.size + 1, 2, none⟩).run Try.prog u = .ok (.int .i64 nn) u ∧ (loadVar 3 ⟨w.heap.size + 1, 3, none⟩).run Try.prog u = .ok (.int .i64 mm) u)
      (first | assumption | exact ⟨hB0, HS.out _ hB0⟩ | exact ⟨(belowA _).drew, HS.out _ (belowA _).drew⟩ | exact ⟨b3', HS.out _ b3'⟩ | exact ⟨b3'.alloc b3'.size _, HS.out _ (b3'.alloc b3'.size _)⟩ | exact ⟨b3'.setCell (p := ⟨W.heap.size, 0, none⟩) (Nat.le_refl _) _, HS.out _ (b3'.setCell (p := ⟨W.heap.size, 0, none⟩) (Nat.le_refl _) _)⟩)
      (first
        | (go_at_call 32; refine (rrange_any (HN3.out.keep (by first | exact hB0 | exact (belowA _).drew)).rf (by omega) _ _).mono ?_; rintro ee w3 ⟨la, lc, rfl, hown, b3⟩; have b3' : Below W.heap.size W w3 := (by first | exact hB0.trans (b3.mono hB0.size) | exact Below.trans (belowA _).drew (b3.mono (Below.size (belowA _).drew))); have hwl := wl_of_own hown; have HLB : Hid (∀ g, (Value.slice la (rngN rows nn mm rows.length).length lc).ownBlock = some g → W.heap.size ≤ g) := (fun g hg => by have := (hown.lt g hg).1; simp at this; omega); (try (have q1 := bxB (bxB (Boxed.new W 69 (.slice none 0 0)) (Below.refl _ _).drew) b3; have c5 := q1.cell; have f5 := q1.frozen; have Q1 := Lib.hid q1; clear q1; have HW5 := Lib.hid (wl_of_own (own_of_block hown (w' := w3.setCell ⟨W.heap.size, 0, none⟩ (.slice la (rngN rows nn mm rows.length).length lc)) (fun g hg => heap_setCell_other _ _ _ _ (by have := (hown.lt g hg).1; simp at this; show g ≠ W.heap.size; omega)))))); clear hown b3)
        | fail)
    · rename_i hJ hK hHd
      simp only [Exit.then]
      refine hK _ _ (Met.intro (hJ _ _ ?_))
      (repeat apply Exists.intro)
      refine ⟨?rel, rfl⟩
      case rel =>
        refine ⟨_, _, _, rfl, b3'.alloc b3'.size _, b3'.size, Boxed.new w3 _ _, hwl.keep (belowA _), HLB.out⟩
    · rename_i hJ hK hHd
      simp only [Exit.then]
      refine hK _ _ (Met.intro (hJ _ _ ?_))
      (repeat apply Exists.intro)
      refine ⟨?rel, rfl⟩
      case rel =>
        exact ⟨_, _, _, rfl, b3'.setCell (p := ⟨W.heap.size, 0, none⟩) (Nat.le_refl _) _, Nat.le_refl _, Q1.out.set _, HW5.out, HLB.out⟩
  case rest =>
    obtain ⟨bw, la, lc, rfl, HC⟩ := hcut
    clear hB0 HS
    have HBC := Lib.hid HC.out.1
    gi_wp2_with fail
    refine wpIn_wide.2 ?_
    have hB0 : Below wc.heap.size wc wc.drew := (Below.refl _ _).drew
    have HS1 : Hid (∀ u, Below wc.heap.size wc u → (loadVar 24 ⟨b, o, none⟩).run Try.prog u = .ok (.pointer (some ⟨t, 0, none⟩)) u ∧ (loadVar 58 ⟨w.heap.size, 0, none⟩).run Try.prog u = .ok (.pointer (some ⟨b, o, none⟩)) u ∧ (loadVar 3 ⟨w.heap.size + 1, 2, none⟩).run Try.prog u = .ok (.int .i64 nn) u ∧ (loadVar 3 ⟨w.heap.size + 1, 3, none⟩).run Try.prog u = .ok (.int .i64 mm) u) := fun u hu => by
      have hu' := HBC.out.trans (hu.mono HBC.out.size)
      exact ⟨run_loadRel (HN3.out.keep hu').cT, run_loadPB (bxB B1.out hu').cell, run_loadInt (O2.out.below hu').c2, run_loadInt (O2.out.below hu').c3⟩
    go_region_held3 (fun u => Below wc.heap.size wc u ∧ (loadVar 24 ⟨b, o, none⟩).run Try.prog u = .ok (.pointer (some ⟨t, 0, none⟩)) u ∧ (loadVar 58 ⟨w.heap.size, 0, none⟩).run Try.prog u = .ok (.pointer (some ⟨b, o, none⟩)) u ∧ (loadVar 3 ⟨w.heap.size + 1, 2, none⟩).run Try.prog u = .ok (.int .i64 nn) u ∧ (loadVar 3 ⟨w.heap.size + 1, 3, none⟩).run Try.prog u = .ok (.int .i64 mm) u)
      (first | assumption | exact ⟨hB0, HS1.out _ hB0⟩ | exact ⟨(by assumption), HS1.out _ (by assumption)⟩)
      (first
        | (go_at_call 31; refine (range_callsF (.inr ⟨t, rfl⟩) _ _ _).mono ?_; rintro ee w4 ⟨b0, b1, b2, rfl, k0, k1, k2, hlt, hge, b4⟩; have b4' : Below wc.heap.size wc w4 := hB0.trans (b4.mono hB0.size); have HKK := Lib.hid (And.intro k0 (And.intro k1 (And.intro k2 (And.intro hlt hge)))); clear b4 k0 k1 k2 hlt hge; unfold seqOf)
        | fail)
    simp only [Exit.then]
    go_at_K
    clear hB0 HS1
    have HB4 := Lib.hid b4'
    clear b4'
    have hft := fun w => fn_there 51 #[.pointer (some ⟨b0, 0, none⟩), .pointer (some ⟨b1, 0, none⟩), .pointer (some ⟨b2, 0, none⟩)] w
    have HA8 := Lib.hid (belowA (w := w4) (.cells #[.int .i64 0] 3))
    have C8 := Lib.hid (Boxed.new w4 3 (.int .i64 0))
    have hs8 : (w4.alloc (.cells #[.int .i64 0] 3)).heap.size = w4.heap.size + 1 := by simp
    gi_wp2_with fail
    generalize hw4e : w4.heap.size = kb at C8 hs8 ⊢
    generalize w4.alloc (.cells #[.int .i64 0] 3) = W8 at HA8 C8 hs8 ⊢
    have hz4 : wc.heap.size ≤ w4.heap.size := HB4.out.size
    have hzc : W.heap.size ≤ wc.heap.size := HBC.out.size
    have hzw : w.heap.size + 1 + 1 < W.heap.size := Boxed.lt B3.out
    have HW8 : Hid (Below w.heap.size w W8) := HB3.out.trans ((HBC.out.trans ((HB4.out.trans (HA8.out.mono HB4.out.size)).mono HBC.out.size)).mono HB3.out.size)
    have HC8 : Hid (Below wc.heap.size wc W8) := HB4.out.trans (HA8.out.mono HB4.out.size)
    have HWW : Hid (Below W.heap.size W W8) := HBC.out.trans (HC8.out.mono HBC.out.size)
    have HE : Hid (∀ q, BoE t m sv p sv' q → q < w.heap.size) := fun q hq => H0.out.ltE hq
    have hbl : b < w.heap.size := H0.out.bl
    have hnb : ¬ BoE t m sv p sv' b := by
      rintro (e | e | e | e | e)
      · exact H0.out.nb.1 e
      · exact H0.out.nb.2.1 e
      · exact H0.out.nb.2.2.1 e
      · exact H0.out.nb.2.2.2.1 e
      · exact H0.out.nb.2.2.2.2 e
    obtain ⟨g, hgw, hgs⟩ : ∃ g, g < w.heap.size ∧ ∀ q, sv.ownBlock = some q → q = g := by
      cases e : sv.ownBlock with
      | none => exact ⟨t, HE.out t (.inl rfl), fun q hq => by cases hq⟩
      | some g => exact ⟨g, HE.out g (.inr (.inr (.inr (.inl e)))), fun q hq => (Option.some.inj hq).symm⟩
    obtain ⟨k0, k1, k2, hlt, hge⟩ := HKK.out
    have hb28 : b2 < W8.heap.size := by omega
    have hb2k : b2 ≠ kb := by omega
    have hb2w : wc.heap.size ≤ b2 := hge.2.2
    have cc : ∀ {q : Nat} {v : Value}, q < w4.heap.size → w4.cell? ⟨q, 0, none⟩ = some v → W8.cell? ⟨q, 0, none⟩ = some v := fun hq hv => (HA8.out.cell (p := ⟨_, 0, none⟩) hq).trans hv
    have HSQ := Lib.hid (range_tellsG 7 (H0.out.rel.keep HW8.out) (by omega) g hgs nn mm (cc hlt.1 k0) (cc hlt.2.1 k1) (cc hlt.2.2 k2) ⟨by omega, by omega, by omega⟩)
    have e1 := rngN_is rows nn mm rows.length
    have e2 : (rngN rows nn mm rows.length).length = min rows.length mm.toNat - nn.toNat := by rw [e1]; simp
    obtain ⟨N, hN⟩ : ∃ N, N = min rows.length mm.toNat - nn.toNat := ⟨_, rfl⟩
    obtain ⟨lo, hlo⟩ : ∃ lo, lo = nn.toNat := ⟨_, rfl⟩
    have HFX : Hid (∀ V, Fx (BoE t m sv p sv') kb W8 V → Boxed V w.heap.size 58 (.pointer (some ⟨b, o, none⟩)) ∧ OpAt V (w.heap.size + 1) on kk nn mm mask r ∧ Boxed V (w.heap.size + 1 + 1) 4 (.bool false) ∧ Boxed V bw 69 (.slice la N lc) ∧ Wl V la ((List.range N).map (fun i => (lo + i, rows.getD (lo + i) []))) ∧ V.heap[b2]? = W8.heap[b2]? ∧ W8.heap.size ≤ V.heap.size) := fun V hV => by
      have blk : ∀ q, w.heap.size ≤ q → q < w4.heap.size → V.heap[q]? = W8.heap[q]? := fun q h1 h2 => hV.block q (by omega) (by
        rintro (e | e)
        · have := HE.out q e; omega
        · omega)
      have hc := HC.out
      rw [e2, e1, ← hN, ← hlo] at hc
      have hbwl := Boxed.lt hc.2.2.1
      refine ⟨(blk _ (Nat.le_refl _) (by omega)).trans (bxB B1.out HWW.out), (blk _ (by omega) (by omega)).trans (O2.out.below HWW.out), (blk _ (by omega) (by omega)).trans (bxB B3.out HWW.out), (blk _ (by have := hc.2.1; omega) (by omega)).trans (bxB hc.2.2.1 HC8.out), fun hp => ?_, blk b2 (by omega) (by omega), hV.size⟩
      obtain ⟨g', eg, hg', hcl⟩ := hc.2.2.2.1 hp
      have hg2 := hc.2.2.2.2 g' (by rw [eg]; rfl)
      refine ⟨g', eg, by have := hV.size; omega, fun j hj => ?_⟩
      exact ((World.cell?_of_block (w := W8) (blk g' (by omega) (by omega))).trans (HC8.out.cell (p := ⟨g', j, none⟩) hg')).trans (hcl j hj)
    rw [← hN, ← hlo] at HSQ
    have HRW : Hid (∀ k, k < N → lo + k < rows.length ∧ RowOk (rows.getD (lo + k) [])) := fun k hk => by
      have hlt : lo + k < rows.length := by omega
      exact ⟨hlt, H0.out.rel.ok _ (by rw [List.getD, List.getElem?_eq_getElem hlt]; exact List.getElem_mem hlt)⟩
    obtain ⟨rowsA, hrA⟩ : ∃ rowsA, rowsA = remRows (addRows rows r (n : Int)) (rows.getD lo []) := ⟨_, rfl⟩
    obtain ⟨gnA, hgA⟩ : ∃ gnA, gnA = remG (addRows rows r (n : Int)) (rows.getD lo []) gn := ⟨_, rfl⟩
    have HAA := Lib.hid (And.intro hrA hgA)
    have hNl : N ≤ 50000000 := by omega
    have HAM : Hid (Am W8 b o t m p n kb sv sv' rows rowsA gn gnA 0 W8) := ⟨.inl ⟨rfl, H0.out.keep HW8.out⟩, BK.Tch.refl _ _, C8.out⟩
    clear hft HKK k0 k1 k2 hlt hge cc e1 e2 hrA hgA HN3 B1 O2 B3 HB3 HC HBC HB4 HA8 C8 hN hlo
    have hmo : Try.prog.follows .mixedOrders = true := by kernel_rfl
    refine wpIn_rangeRowsX (rows := rows) (lo := lo) (N := N) (gf := 51) (lb := #[.pointer (some ⟨b0, 0, none⟩), .pointer (some ⟨b1, 0, none⟩), .pointer (some ⟨b2, 0, none⟩)]) rfl (enters_of Try.func51 (by kernel_rfl) rfl) HSQ.out (fun h k => h.trans k)
      (fun W l o o' hl _ _ _ => KeepsP.of (World.putObj_heap_other (by omega)) (World.putObj_heap_other (by omega))) (Below.refl _ _) rfl
      (fun k W => Am W8 b o t m p n kb sv sv' rows rowsA gn gnA k W) (fun _ _ _ => False)
      (fun k X Y row hs hg hr => hs.kept hg hr (by omega) (by have := HE.out t (.inl rfl); omega) (by have := HE.out m (.inr (.inl rfl)); omega) (by have := HE.out p (.inr (.inr (.inl rfl))); omega) (by omega))
      (fun _ _ _ _ _ hs _ _ => hs) HAM.out
      (fun T k yb => (((T.setIfInBounds 35 (.int .i64 ((lo + k : Nat) : Int))).setIfInBounds 36 (.agg (List.map cellI (rows.getD (lo + k) [])).toArray)).setIfInBounds 8 (.int .i64 ((lo + k : Nat) : Int))).setIfInBounds 9 (.pointer (some ⟨yb, 0, none⟩))) ?assign ?body ?done ?stop
    case assign =>
      intro l k W K hk hi hK
      have hro := (HRW.out k hk).2
      have h24y := hro.len
      have hst := store_fresh W _ h24y
      have hA := belowA (w := W) (.cells (rowC (rows.getD (lo + k) [])) 40)
      have hsz := hi.fx.size
      have hK' := hK _ _ (KeepsFrom.below hA) (KeepsP.of (hA.block g (by omega)) (hA.block b2 (by omega))) (hi.keep hA) ⟨W.heap.size, rfl, rowAt_new W _, hsz⟩
      simp (config := { maxSteps := 10000000 }) only [List.setIfInBounds_toArray, List.set_cons_succ, List.set_cons_zero] at hK'
      clear hK hi HSQ hA hro HAM HFX HW8 HC8 HWW HE H0
      unfold rowsAt rowV
      generalize rows.getD (lo + k) [] = y at h24y hst hK' ⊢
      generalize lo + k = q at hK' ⊢
      gi_wp2
      exact hK'
    case body =>
      intro l k yb W hk hi hy hyl
      simp (config := { maxSteps := 10000000 }) only [List.setIfInBounds_toArray, List.set_cons_succ, List.set_cons_zero]
      obtain ⟨f1, f2, f3, f4, f5, f6, f7⟩ := HFX.out W hi.fx
      obtain ⟨hlk, hro⟩ := HRW.out k hk
      obtain ⟨gw, rfl, hgw', hcw⟩ := f5 (by simp; omega)
      have hLk : ((List.range N).map (fun i => (lo + i, rows.getD (lo + i) [])))[k]? = some (lo + k, rows.getD (lo + k) []) := by simp [hk]
      have hLok : ∀ z ∈ (List.range N).map (fun i => (lo + i, rows.getD (lo + i) [])), z.2.length = 24 := fun z hz => by
        obtain ⟨i, hi, rfl⟩ := List.mem_map.1 hz
        exact (HRW.out i (List.mem_range.1 hi)).2.len
      have hbM : ∀ q, Below W.heap.size W (W.drewN q) := fun q => below_drewN (Below.refl _ _) q
      have hcD : ∀ q, ∀ j, j < ((List.range N).map (fun i => (lo + i, rows.getD (lo + i) []))).length * 25 → (W.drewN q).cell? ⟨gw, j, none⟩ = (flatN ((List.range N).map (fun i => (lo + i, rows.getD (lo + i) []))))[j]? := fun q j hj => ((hbM q).cell (p := ⟨gw, j, none⟩) hgw').trans (hcw j hj)
      have d7 := fun q => run_loadInt (bxB hi.bk (hbM q)).cell
      have d5 := fun q => run_loadNumsP (bxB f4 (hbM q)).cell
      have dn := fun q => run_loadInt (Wl.num (hcD q) hLok hLk)
      have dr := fun q => Wl.row (hcD q) hLok hLk
      have dy := fun q => run_loadRow (hy.below (hbM q)) hro.len
      have hne' : ∀ u : World, (binOp .neq 40 (rowV (rows.getD (lo + k) [])) (rowV (rows.getD (lo + k) []))).run Try.prog u = .ok (.bool false) u := fun u => by
        rw [run_neqRowK hro hro u]
        simp
      have HV : Hid (∀ q, Am W8 b o t m p n kb sv sv' rows rowsA gn gnA k (W.drewN q) ∧ RowAt (W.drewN q) yb (rows.getD (lo + k) []) ∧ Below W.heap.size W (W.drewN q)) := fun q => ⟨hi.keep (hbM q), hy.below (hbM q), hbM q⟩
      have hkN : ¬ N ≤ k := by omega
      have hkL : k < N := hk
      have hk2 : (k : Int) < (N : Int) := by omega
      have hk0 : (0 : Int) ≤ (k : Int) := by omega
      have iwk : IntKind.i64.wrap ((k : Int) + 1) = (k : Int) + 1 := by rw [IntKind.wrap_i64]; omega
      have HW := Lib.hid (And.intro hi (And.intro hy hro))
      unfold rowV at dr dy hne'
      simp only at dn dr
      clear hi hy HSQ HAM hcD hcw hLk hLok hro hbM f1 f2 f3 f4 f5 f6 f7
      obtain ⟨y, hye⟩ : ∃ y, y = rows.getD (lo + k) [] := ⟨_, rfl⟩
      obtain ⟨q0, hq0⟩ : ∃ q0, q0 = lo + k := ⟨_, rfl⟩
      rw [← hye] at dr dy hne' HV HW ⊢
      rw [← hq0] at dn ⊢
      have HYE := Lib.hid (And.intro hye hq0)
      clear hye hq0
      gi_wp2_with fail
      refine wpIn_region_quiet_round (by kernel_rfl) (by kernel_rfl) (by kernel_rfl) ?_
      repeat (gi_big_quiet_step (fail))
      refine wpQuietIn_nil ?_
      rintro _ ⟨nq, rfl⟩
      have l7 := d7 nq
      obtain ⟨hv1, hv2, hv3⟩ := HV.out nq
      have HV1 := Lib.hid hv1
      have HV2 := Lib.hid (And.intro hv2 hv3)
      clear d7 d5 dn dr dy HV hv1 hv2 hv3
      generalize W.drewN nq = V at l7 HV1 HV2 ⊢
      by_cases hke : k = 0
      · subst hke
        have hbo : Bo V b o 0 t m sv p sv' rows n gn := by
          rcases HV1.out.st with ⟨_, h1⟩ | ⟨e, _⟩
          · exact h1
          · exact absurd e (Nat.lt_irrefl 0)
        have hg0 : sv.ownBlock = some g := by
          rcases hbo.rel.own.2 with ⟨e, hz⟩ | ⟨g', cap, cur, e, _⟩
          · exfalso; omega
          · have h2 := hgs g' (by rw [e]; rfl)
            rw [e, ← h2]; rfl
        have hyz : y = rows.getD lo [] := by have := HYE.out.1; simpa using this
        have hVd : Below V.heap.size V V.drew := (Below.refl _ _).drew
        have hzV : W8.heap.size ≤ V.heap.size := HV1.out.fx.size
        have HBO := Lib.hid hbo
        have HBD := Lib.hid (hbo.keep hVd)
        have T1 : Hid (BK.Tch (BoE t m sv p sv') V V.drew) := BK.Tch.of_below hVd
        have HFV : Hid (∀ u, BK.Tch (BoE t m sv p sv') V u → (loadVar 58 ⟨w.heap.size, 0, none⟩).run Try.prog u = .ok (.pointer (some ⟨b, o, none⟩)) u ∧ (loadVar 40 ⟨w.heap.size + 1, 5, none⟩).run Try.prog u = .ok (.agg (List.map cellI r).toArray) u ∧ (loadVar 24 ⟨b, o, none⟩).run Try.prog u = .ok (.pointer (some ⟨t, 0, none⟩)) u ∧ (loadVar 25 ⟨b, o + 1, none⟩).run Try.prog u = .ok (.pointer (some ⟨p, 0, none⟩)) u ∧ (loadVar 40 ⟨yb, 0, none⟩).run Try.prog u = .ok (.agg (List.map cellI y).toArray) u) := fun u hu => by
          have hf : Fx (BoE t m sv p sv') kb W8 u := BK.Tch.trans HV1.out.fx (hu.mono (fun q _ hq => .inl hq))
          obtain ⟨f1, f2, _⟩ := HFX.out u hf
          have eb : u.heap[b]? = V.heap[b]? := hu.block b HBO.out.bl hnb
          have ey : u.heap[yb]? = V.heap[yb]? := hu.block yb (RowAt.lt HV2.out.1) (fun e => by have := HE.out yb e; omega)
          exact ⟨run_loadPB f1.cell, f2.loadRow HRX.out.1.len, run_loadRel ((World.cell?_of_block (w := V) eb).trans HBO.out.cT), run_loadRef ((World.cell?_of_block (w := V) eb).trans HBO.out.cR), run_loadRow (ey.trans HV2.out.1) HW.out.2.2.len⟩
        have HADD : Hid (Calls Try.prog 16 #[.pointer (some ⟨t, 0, none⟩), .agg (List.map cellI r).toArray] V.drew fun e u => e = .returned (.tuple #[.bool (addX rows r (n : Int)), .int .i64 (addE r (n : Int))]) ∧ (RTouch V.drew u t m sv ∧ Hl g rows u ∧ BK.Tch (BoE t m sv p sv') V u ∧ ∃ sv3, Rel u 0 t m sv3 (addRows rows r (n : Int)) (n : Int) gn ∧ LocB V sv sv3)) :=
          (add_oneP HBD.out.rel (Nat.zero_le _) (by omega) r HRX.out.1).mono (fun e u hu => by
            obtain ⟨he, r1, hhl, sv3, h1, l1⟩ := hu
            exact ⟨he, r1, hhl g hg0, tch_touch T1.out r1 (.inl rfl) (.inr (.inl rfl)) (fun q hq => .inl (.inr (.inr (.inr (.inl hq))))), sv3, h1, l1⟩)
        clear hbo hVd
        gi_wp2_with fail
        refine wpIn_region_held_round (S := fun u => BK.Tch (BoE t m sv p sv') V u) (by kernel_rfl) (by kernel_rfl) (fun ⟨_, _, h⟩ => h) ?_
        refine areg12 (w5 := V) (S := fun u => BK.Tch (BoE t m sv p sv') V u) (t := b) (oo := o) (B0 := w.heap.size) (B1 := w.heap.size + 1) (fun u => RTouch V.drew u t m sv ∧ Hl g rows u ∧ BK.Tch (BoE t m sv p sv') V u ∧ ∃ sv3, Rel u 0 t m sv3 (addRows rows r (n : Int)) (n : Int) gn ∧ LocB V sv sv3) rfl rfl rfl rfl rfl rfl rfl rfl rfl rfl rfl rfl (by kernel_rfl) (by kernel_rfl) (by kernel_rfl) (by kernel_rfl) (fun _ _ _ _ _ h => h) (by simp) rfl rfl T1.out (fun u hu => hu.2.2.1) (fun u hu => (HFV.out u hu).1) (fun u hu => (HFV.out u hu).2.2.1) (fun u hu => (HFV.out u hu).2.1) HADD.out ?_
        intro w2 hR1
        obtain ⟨r1, hhl, tc2, sv3, h1, l1⟩ := hR1
        have hw2d : Below w2.heap.size w2 w2.drew := (Below.refl _ _).drew
        have HR1 : Hid (RTouch V.drew w2.drew t m sv) := r1.trans (RTouch.of hw2d)
        have HRL := Lib.hid (h1.keep hw2d)
        have HL1 := Lib.hid l1
        have HH2 : Hid (Hl g rows w2.drew) := hhl
        have T2 : Hid (BK.Tch (BoE t m sv p sv') V w2.drew) := tc2.trans (BK.Tch.of_below hw2d)
        have HADD2 : Hid (Calls Try.prog 17 #[.pointer (some ⟨p, 0, none⟩), .agg (List.map cellI r).toArray] w2.drew fun e u => e = .returned (.tuple #[.bool (addX rows r (n : Int)), .int .i64 (addE r (n : Int))]) ∧ Tn2 V b o t m p n g sv sv' rows (addRows rows r (n : Int)) gn u) :=
          (radd_one (HBD.out.rf1 HR1.out) (Nat.zero_le _) (by omega) r HRX.out.1).mono (fun e u hu => by
            obtain ⟨he, r2, sv3', h2, l2⟩ := hu
            refine ⟨he, ⟨sv3, sv3', (HBD.out.both HR1.out HRL.out HL1.out r2 h2 l2).1, HL1.out, fun q hq => (l2 q hq).imp id (fun e => Nat.le_trans T2.out.size e)⟩, tch_touch T2.out r2 (.inr (.inr (.inl rfl))) (.inr (.inr (.inl rfl))) (fun q hq => .inl (.inr (.inr (.inr (.inr hq))))), ?_⟩
            have a1 := HBO.out.ap.2.2.1 g hg0
            exact HH2.out.block (r2.block g (by have := T2.out.size; omega) a1.1 a1.1 a1.2))
        clear HADD r1 hhl tc2 h1 l1 hw2d
        simp (config := { maxSteps := 8000000 }) only [Act.put, List.setIfInBounds_toArray, List.set_cons_succ, List.set_cons_zero, Exit.then]
        go_at_K
        gi_wp2_with fail
        refine wpIn_region_held_round (S := fun u => BK.Tch (BoE t m sv p sv') V u) (by kernel_rfl) (by kernel_rfl) (fun ⟨_, _, h⟩ => h) ?_
        refine areg13 (w5 := w2) (S := fun u => BK.Tch (BoE t m sv p sv') V u) (t := b) (oo := o) (B0 := w.heap.size) (B1 := w.heap.size + 1) (fun u => Tn2 V b o t m p n g sv sv' rows (addRows rows r (n : Int)) gn u) rfl rfl rfl rfl rfl rfl rfl rfl rfl rfl rfl rfl (by kernel_rfl) (by kernel_rfl) (by kernel_rfl) (by kernel_rfl) (fun _ _ _ _ _ h => h) (by simp) rfl rfl T2.out (fun u hu => hu.tc) (fun u hu => (HFV.out u hu).1) (fun u hu => (HFV.out u hu).2.2.2.1) (fun u hu => (HFV.out u hu).2.1) HADD2.out ?_
        intro w3 hR2
        obtain ⟨⟨s3, s3', hb3, l3, l3'⟩, tc3, hl3⟩ := hR2
        have hw3d : Below w3.heap.size w3 w3.drew := (Below.refl _ _).drew
        have HB3 := Lib.hid (hb3.keep hw3d)
        have HL3 := Lib.hid (And.intro l3 l3')
        have T3 : Hid (BK.Tch (BoE t m sv p sv') V w3.drew) := tc3.trans (BK.Tch.of_below hw3d)
        have HH3 : Hid (Hl g rows w3.drew) := hl3
        clear HADD2 hb3 l3 l3' tc3 hl3 hw3d HR1 HRL HL1 HH2 T2
        obtain ⟨rowsB, hrB⟩ : ∃ rowsB, rowsB = addRows rows r (n : Int) := ⟨_, rfl⟩
        have hlB : rowsB.length ≤ 50000001 := by rw [hrB]; have := addRows_len rows r (n : Int); omega
        rw [← hrB] at HB3 HAA
        have HRM : Hid (Calls Try.prog 22 #[.pointer (some ⟨t, 0, none⟩), .agg (List.map cellI y).toArray] w3.drew fun e u => e = .returned (.bool (decide (y ∈ rowsB))) ∧ (RTouch w3.drew u t m (.pointer none) ∧ ∃ sv5, Rel u 0 t m sv5 (remRows rowsB y) (n : Int) (remG rowsB y gn) ∧ LocB w3.drew s3 sv5)) :=
          (remove_oneP HB3.out.rel (Nat.zero_le _) (by omega) y HW.out.2.2 HRX.out.2).mono (fun e u hu => by
            obtain ⟨he, r5, sv5, h5, l5⟩ := hu
            exact ⟨he, r5, sv5, h5, l5⟩)
        have HRM2 : Hid (∀ u, (RTouch w3.drew u t m (.pointer none) ∧ ∃ sv5, Rel u 0 t m sv5 (remRows rowsB y) (n : Int) (remG rowsB y gn) ∧ LocB w3.drew s3 sv5) → Calls Try.prog 23 #[.pointer (some ⟨p, 0, none⟩), .agg (List.map cellI y).toArray] u fun e u' => e = .returned (.bool (decide (y ∈ rowsB))) ∧ Tn2 V b o t m p n g sv sv' rows (remRows rowsB y) (remG rowsB y gn) u') := fun u hu => by
          obtain ⟨r5, sv5, h5, l5⟩ := hu
          have r5' := RTouch.weaken s3 r5
          refine (rremove_one (HB3.out.rf1 r5') (Nat.zero_le _) (by omega) HB3.out.rel.nd y HW.out.2.2 HRX.out.2).mono (fun e u' hu' => ?_)
          obtain ⟨he, r6, sv6, h6, l6⟩ := hu'
          have z3 := T3.out.size
          have tu : BK.Tch (BoE t m sv p sv') V u := tch_touch T3.out r5 (.inl rfl) (.inr (.inl rfl)) (fun q hq => by cases hq)
          refine ⟨he, ⟨sv5, sv6, (HB3.out.both r5' h5 l5 r6 h6 l6).1, HL3.out.1.trans (w' := w3.drew) l5 z3, LocB.trans (w' := u) HL3.out.2 l6 tu.size⟩, tch_touch tu r6 (.inr (.inr (.inl rfl))) (.inr (.inr (.inl rfl))) (fun q hq => (HL3.out.2 q hq).imp (fun e => .inr (.inr (.inr (.inr e)))) id), ?_⟩
          have a1 := HBO.out.ap.2.2.1 g hg0
          have a2 := HBO.out.rel.ne.2 g hg0
          have e5 : u.heap[g]? = w3.drew.heap[g]? := r5.block g (by omega) a2.1 a2.2 (fun e => by cases e)
          have e6 : u'.heap[g]? = u.heap[g]? := r6.block g (by have := tu.size; omega) a1.1 a1.1 (fun e => by
            rcases HL3.out.2 g e with e | e
            · exact a1.2 e
            · omega)
          exact (HH3.out.block e5).block e6
        have hneB : ∀ u : World, (binOp .neq 4 (.bool (addX rows r (n : Int))) (.bool (addX rows r (n : Int)))).run Try.prog u = .ok (.bool false) u := fun u => by cases addX rows r (n : Int) <;> kernel_rfl
        have hneR : ∀ u : World, (binOp .neq 4 (.bool (decide (y ∈ rowsB))) (.bool (decide (y ∈ rowsB)))).run Try.prog u = .ok (.bool false) u := fun u => by cases decide (y ∈ rowsB) <;> kernel_rfl
        have hneE : ∀ u : World, (binOp .neq 31 (.int .i64 (addE r (n : Int))) (.int .i64 (addE r (n : Int)))).run Try.prog u = .ok (.bool false) u := fun u => by go_simp
        simp (config := { maxSteps := 8000000 }) only [Act.put, List.setIfInBounds_toArray, List.set_cons_succ, List.set_cons_zero, Exit.then]
        go_at_K
        gi_wp2_with fail
        refine wpIn_region_held_round (S := fun u => BK.Tch (BoE t m sv p sv') V u) (by kernel_rfl) (by kernel_rfl) (fun ⟨_, _, h⟩ => h) ?_
        refine areg14 (w5 := w3) (S := fun u => BK.Tch (BoE t m sv p sv') V u) (t := b) (oo := o) (B0 := w.heap.size) (yb := yb) (fun u => RTouch w3.drew u t m (.pointer none) ∧ ∃ sv5, Rel u 0 t m sv5 (remRows rowsB y) (n : Int) (remG rowsB y gn) ∧ LocB w3.drew s3 sv5) (fun u => Tn2 V b o t m p n g sv sv' rows (remRows rowsB y) (remG rowsB y gn) u) rfl rfl rfl rfl rfl rfl rfl rfl rfl rfl rfl rfl rfl rfl rfl rfl rfl rfl rfl rfl rfl rfl rfl (by kernel_rfl) (by kernel_rfl) (by kernel_rfl) (by kernel_rfl) (by kernel_rfl) (fun _ _ _ _ _ h => h) (by simp) rfl rfl rfl rfl rfl rfl T3.out (fun u hu => tch_touch T3.out hu.1 (.inl rfl) (.inr (.inl rfl)) (fun q hq => by cases hq)) (fun u hu => hu.tc) (fun u hu => (HFV.out u hu).1) (fun u hu => (HFV.out u hu).2.2.1) (fun u hu => (HFV.out u hu).2.2.2.1) (fun u hu => (HFV.out u hu).2.2.2.2) hneB hneR hneE HRM.out HRM2.out ?_
        intro w4' hR4
        obtain ⟨⟨s4, s4', hb4, l4, l4'⟩, tc4, hl4⟩ := hR4
        have ek : w4'.heap[kb]? = V.heap[kb]? := tc4.block kb (by omega) (fun e => by have := HE.out kb e; omega)
        have bk4 : Boxed w4' kb 3 (.int .i64 ((0 : Nat) : Int)) := ek.trans HV1.out.bk
        have l7' := run_loadInt bk4.cell
        have c7 := bk4.cell
        have f7 := bk4.frozen
        have HFI : Hid (KeepsFrom W8.heap.size W (w4'.setCell ⟨kb, 0, none⟩ (.int .i64 (((0 : Nat) : Int) + 1))) ∧ KeepsP g rows b2 W (w4'.setCell ⟨kb, 0, none⟩ (.int .i64 (((0 : Nat) : Int) + 1))) ∧ Am W8 b o t m p n kb sv sv' rows rowsA gn gnA (0 + 1) (w4'.setCell ⟨kb, 0, none⟩ (.int .i64 (((0 : Nat) : Int) + 1)))) := by
          have hsz := HW.out.1.fx.size
          have h4z := tc4.size
          have e2 : (w4'.setCell ⟨kb, 0, none⟩ (.int .i64 (((0 : Nat) : Int) + 1))).heap[b2]? = W.heap[b2]? := (heap_setCell_other _ _ _ _ (by show b2 ≠ kb; omega)).trans ((tc4.block b2 (by omega) (fun e => by have := HE.out b2 e; omega)).trans (HV2.out.2.block b2 (by omega)))
          refine ⟨(KeepsFrom.below HV2.out.2).trans ((tch_keepsFrom tc4 (fun q hq => by have := HE.out q hq; omega)).trans ((KeepsOthers.setCell _ _ _).from _)), ⟨fun _ => hl4.block (heap_setCell_other _ _ _ _ (by show g ≠ kb; omega)), e2⟩, .inr ⟨by omega, s4, s4', ?_, l4.up hzV, l4'.up hzV⟩, BK.Tch.setCell (BK.Tch.trans HV1.out.fx (tc4.mono (fun q _ hq => .inl hq))) (p := ⟨kb, 0, none⟩) (.inr (.inr rfl)) _, ?_⟩
          · rw [HAA.out.1, HAA.out.2, ← hyz]
            refine hb4.blocks (by simp [World.setCell]) (heap_setCell_other _ _ _ _ (by show b ≠ kb; omega)) (fun q hq => heap_setCell_other _ _ _ _ ?_)
            show q ≠ kb
            rcases hq with e | e | e | e | e
            · have := HE.out t (.inl rfl); omega
            · have := HE.out m (.inr (.inl rfl)); omega
            · have := HE.out p (.inr (.inr (.inl rfl))); omega
            · rcases l4 q e with e | e
              · have := HE.out q (.inr (.inr (.inr (.inl e)))); omega
              · omega
            · rcases l4' q e with e | e
              · have := HE.out q (.inr (.inr (.inr (.inr e)))); omega
              · omega
          · have := bk4.set (.int .i64 (((0 : Nat) : Int) + 1))
            simpa using this
        clear HV1 HV2 HW HFX HRW HW8 HC8 HWW HE H0 HYE hb4 l4 l4' tc4 hl4 ek bk4 HRM HRM2 HB3 T3 T1 HH3 HL3 HBO HBD HFV HAA
        simp (config := { maxSteps := 8000000 }) only [Act.put, List.setIfInBounds_toArray, List.set_cons_succ, List.set_cons_zero, Exit.then]
        go_at_K
        gi_wp2
        exact HFI.out
      · have hke' : ((k : Int) == 0) = false := by simp; omega
        have c7 := HV1.out.bk.cell
        have f7 := HV1.out.bk.frozen
        have HFI : Hid (KeepsFrom W8.heap.size W (V.setCell ⟨kb, 0, none⟩ (.int .i64 ((k : Int) + 1))) ∧ KeepsP g rows b2 W (V.setCell ⟨kb, 0, none⟩ (.int .i64 ((k : Int) + 1))) ∧ Am W8 b o t m p n kb sv sv' rows rowsA gn gnA (k + 1) (V.setCell ⟨kb, 0, none⟩ (.int .i64 ((k : Int) + 1)))) := by
          have hsz := HW.out.1.fx.size
          have e1 : (V.setCell ⟨kb, 0, none⟩ (.int .i64 ((k : Int) + 1))).heap[g]? = W.heap[g]? := (heap_setCell_other _ _ _ _ (by show g ≠ kb; omega)).trans (HV2.out.2.block g (by omega))
          have e2 : (V.setCell ⟨kb, 0, none⟩ (.int .i64 ((k : Int) + 1))).heap[b2]? = W.heap[b2]? := (heap_setCell_other _ _ _ _ (by show b2 ≠ kb; omega)).trans (HV2.out.2.block b2 (by omega))
          refine ⟨(KeepsFrom.below HV2.out.2).trans ((KeepsOthers.setCell _ _ _).from _), KeepsP.of e1 e2, ?_, HV1.out.fx.setCell (p := ⟨kb, 0, none⟩) (.inr (.inr rfl)) _, by rw [Int.natCast_add]; exact HV1.out.bk.set _⟩
          rcases HV1.out.st with ⟨e, _⟩ | ⟨e, s2, s2', h1, h2, h3⟩
          · omega
          · refine .inr ⟨by omega, s2, s2', h1.blocks (by simp [World.setCell]) (heap_setCell_other _ _ _ _ (by show b ≠ kb; omega)) (fun q hq => heap_setCell_other _ _ _ _ (by
              show q ≠ kb
              rcases hq with e | e | e | e | e
              · have := HE.out t (.inl rfl); omega
              · have := HE.out m (.inr (.inl rfl)); omega
              · have := HE.out p (.inr (.inr (.inl rfl))); omega
              · rcases h2 q e with e | e
                · have := HE.out q (.inr (.inr (.inr (.inl e)))); omega
                · omega
              · rcases h3 q e with e | e
                · have := HE.out q (.inr (.inr (.inr (.inr e)))); omega
                · omega)), h2, h3⟩
        clear HV1 HV2 HW hke HFX HRW HW8 HC8 HWW HE H0 HYE
        gi_wp2
        exact HFI.out
    case done =>
      rintro D W hD hi hKD
      obtain ⟨f1, f2, f3, f4, f5, f6, f7⟩ := HFX.out W hi.fx
      have l1 := run_loadNumsP f4.cell
      have l4 := run_loadInt hi.bk.cell
      have c3 := f3.cell
      have q3 := f3.frozen
      obtain ⟨hne, HK, HR⟩ := collectedT f3 hKD (.bool true)
      have HFIN := Lib.hid (hi.done (br := w.heap.size + 1 + 1) (x := .bool true) H0.out HW8.out ⟨by omega, by omega⟩ (by omega) hD hKD (by rw [HAA.out.1]; exact Nat.le_trans (remRows_len _ _) (addRows_len _ _ _)) (by rw [HAA.out.2]; unfold remG; split <;> simp))
      clear hi hKD hD HSQ HAM HFX HRW f1 f2 f3 f4 f5 f6 f7 hne HW8 HC8 HWW HE H0
      gi_wp2
      exact ⟨by simp, .inl ⟨_, _, rfl, run_takeDeferred HK.out, _, rl_results Try.results47 rfl HR.out, rfl, HFIN.out⟩⟩
    case stop =>
      rintro D c k W _ _ h _
      exact h.elim
end Go.Proofs.Ytlnhnpfgmiffpaa
