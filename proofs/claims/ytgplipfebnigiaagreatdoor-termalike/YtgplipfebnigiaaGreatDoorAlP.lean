import Derived.Test.YtgplipfebnigiaaGreatDoorG29
namespace Go.Proofs.YtgplipfebnigiaaGreatDoor
open Go.RowKit Go.Maps
set_option linter.unusedVariables false
set_option linter.unusedSimpArgs false
attribute [local go_sem ↓] Go.wp_at_zero Go.wp_at_succ
attribute [-go_sem] loadVar

theorem apA_wfP {s : List P} (hs : ∀ p ∈ s, p.wf) {x : A5} (h : x.wf) : (apA (putT s) x).wf := ⟨h.gb, putT_wf hs h.t⟩
theorem takeAA {l : List A5} {k : Nat} (h : k < l.length) : l.take (k + 1) = l.take k ++ [atA l k] := by rw [List.take_add_one, List.getElem?_eq_getElem h, atA_eq h]; rfl
theorem load_LitAt {u : World} {g o : Nat} {cs : List Value} (h : u.rangeAt g o cs) (hl : cs.length = 16) : (loadVar 89 ⟨g, o, none⟩).run Tryz.prog u = .ok (.agg cs.toArray) u :=
  run_loadVar_mid u g o _ cs _ h Tryz.underlying89 rfl (by rw [hl]; kernel_rfl)
set_option maxHeartbeats 6400000 in
set_option maxRecDepth 100000 in
theorem replaced_any (ps : List P) (d : Nat) (r : R3) (p : RP) (sv : Value) (w : World) (hR : RIs w d r p) (hs : smallR d r) (hp : Lp w sv ps) :
    Calls Tryz.prog 23 #[sv, r.val p] w fun q w' => ∃ r' p', q = .returned (r'.val p') ∧ Below w.heap.size w w' ∧ LikeR (apR (putT ps) d r) r' ∧ Frr w.heap.size w' d r' p' := by
  obtain ⟨i0, hi0, hz0, hz1, hz2⟩ := info_parts infoCArg
  obtain ⟨j0, hj0, hy0, hy1, hy2⟩ := info_parts infoCLiteral
  obtain ⟨pr, hd, bd⟩ := r
  obtain ⟨pa, pc, ba, bc⟩ := p
  have hhl := hs.hd
  have hbl := hs.bd
  have h1 := hR.hd
  have h2 := hR.bd
  have hpb := hR.pb
  unfold R3.val
  dsimp only at hhl hbl h1 h2 hpb ⊢
  obtain ⟨a1, c1, e1, hc1, hc2, hk1⟩ := h1.form
  cases e1
  obtain ⟨a2, c2, e2, hc3, hc4, hk2⟩ := h2.form
  cases e2
  have HK1 := Lib.hid hk1
  have HK2 := Lib.hid hk2
  have HEA : Hid (∀ i, i < bd.length → LIs w d (atL bd i).x (atL bd i).p) := fun i hi => h2.at_is hi
  have HSM : Hid (∀ y ∈ bd, smallL d y.x) := hs.each
  have HLP : Hid (∀ u, Below w.heap.size w u → Lp u sv ps) := fun u hu => hp.below hu
  have HWA : Hid (∀ i, i < hd.length → (atA hd i).wf) := fun i hi => h1.at_wf hi
  have HPW : Hid (∀ t ∈ hd.map (apA (putT ps)), t.wf) := fun t ht => by
    obtain ⟨x, hx, rfl⟩ := List.mem_map.1 ht
    exact apA_wfP hp.wf (h1.wf x hx)
  have HPB := Lib.hid hpb
  obtain ⟨ap, cp, hv, -, -, -⟩ := hp.form
  subst hv
  have hA1 := belowA (w := w) (.cells #[.string pr, .slice pa hd.length pc, .slice ba bd.length bc] 25)
  have hA2 := belowA (w := w.alloc (.cells #[.string pr, .slice pa hd.length pc, .slice ba bd.length bc] 25)) (.cells #[.string ⟨#[]⟩, .slice none 0 0, .slice none 0 0] 25)
  have hA3 := belowA (w := (w.alloc (.cells #[.string pr, .slice pa hd.length pc, .slice ba bd.length bc] 25)).alloc (.cells #[.string ⟨#[]⟩, .slice none 0 0, .slice none 0 0] 25)) (.cells #[.string pr, .slice none 0 0, .slice none 0 0] 25)
  have hR1 := rl_new (w.alloc (.cells #[.string pr, .slice pa hd.length pc, .slice ba bd.length bc] 25)) #[.string ⟨#[]⟩, .slice none 0 0, .slice none 0 0] 25
  have hR2 := rl_new ((w.alloc (.cells #[.string pr, .slice pa hd.length pc, .slice ba bd.length bc] 25)).alloc (.cells #[.string ⟨#[]⟩, .slice none 0 0, .slice none 0 0] 25)) #[.string pr, .slice none 0 0, .slice none 0 0] 25
  simp only [World.size_alloc] at hR1 hR2
  have HS0 : Hid (ReS w [.string pr, .slice pa hd.length pc, .slice ba bd.length bc] pr [] none 0 (((w.alloc (.cells #[.string pr, .slice pa hd.length pc, .slice ba bd.length bc] 25)).alloc (.cells #[.string ⟨#[]⟩, .slice none 0 0, .slice none 0 0] 25)).alloc (.cells #[.string pr, .slice none 0 0, .slice none 0 0] 25))) :=
    ⟨(hA1.trans (hA2.mono hA1.size)).trans (hA3.mono (hA1.trans (hA2.mono hA1.size)).size), by simp, ((rl_new w #[.string pr, .slice pa hd.length pc, .slice ba bd.length bc] 25).below hA2).below hA3, hR1.below hA3, hR2, World.ownsRow_nil _ _ _ _⟩
  clear hA1 hA2 hA3 hR1 hR2 hk1 hk2 h1 h2 hp hR hs hpb hc2 hc4 hc1 hc3
  have hagg := @loadVar.eq_1
  have HAGG := Lib.hid hagg
  go_enter Tryz.func23, Tryz.ntmps23
  go_upto_region 2 with fail
  generalize ((w.alloc (.cells #[.string pr, .slice pa hd.length pc, .slice ba bd.length bc] 25)).alloc (.cells #[.string ⟨#[]⟩, .slice none 0 0, .slice none 0 0] 25)).alloc (.cells #[.string pr, .slice none 0 0, .slice none 0 0] 25) = W at HS0 ⊢
  go_wp2
  go_loopw [6] (fun i wr => ∃ (k : Nat) (us : List A5) (a' : Option Addr) (c' : Nat), k ≤ hd.length ∧ i = .int .i64 k ∧ Hid (us = (hd.take k).map (apA (putT ps))) ∧ Hid (ReS w [.string pr, .slice pa hd.length pc, .slice ba bd.length bc] pr us a' c' wr)) (fun i _ => hd.length - (intOf i).toNat)
  case atStart => exact ⟨0, [], none, 0, Nat.zero_le _, rfl, rfl, HS0⟩
  case round =>
    clear HS0
    obtain ⟨k, us, a', c', hk, rfl, HU, HS⟩ := hrel
    have hul : us.length = k := by
      rw [HU.out, List.length_map, List.length_take]
      omega
    have y1 := HS.out.r0.at (j := 1) rfl
    by_cases hlt : k < hd.length
    · have hlt' : (k : Int) < (hd.length : Int) := by omega
      have hk0 : (0 : Int) ≤ (k : Int) := by omega
      obtain ⟨g, off, rfl, hg, hT⟩ := HK1.out (by omega)
      have hra := range_below (hT k hlt) HS.out.bel hg
      have HRA : Hid (∀ u, Below wr.heap.size wr u → u.rangeAt g (off + k * 5) (atA hd k).cells) := fun u hu => range_below hra hu (Nat.lt_of_lt_of_le hg HS.out.bel.size)
      have z0 := hra 0 _ rfl
      have z1 := hra 1 _ rfl
      have z2 := hra 2 _ rfl
      have z3 := hra 3 _ rfl
      have z4 := hra 4 _ rfl
      rw [Nat.add_zero] at z0
      have htw := (HWA.out k hlt).t
      have HUN : Hid (us ++ [⟨(atA hd k).g, putT ps (atA hd k).t⟩] = (hd.take (k + 1)).map (apA (putT ps))) := by show _ = _; rw [takeAA hlt, List.map_append, HU.out]; rfl
      have HP : Hid (∀ u, Below w.heap.size w u → Calls Tryz.prog 52 #[.slice ap ps.length cp, .agg #[.string (atA hd k).t.v, .int .i8 (atA hd k).t.a.k, .int .i64 (atA hd k).t.a.n, .string (atA hd k).t.a.s]] u fun q w' => q = .returned (.agg #[.string (putT ps (atA hd k).t).v, .int .i8 (putT ps (atA hd k).t).a.k, .int .i64 (putT ps (atA hd k).t).a.n, .string (putT ps (atA hd k).t).a.s]) ∧ Below u.heap.size u w') := fun u hu => put_any _ ps _ u (HLP.out u hu) htw
      clear hT htw HU hra
      generalize putT ps (atA hd k).t = nt at HUN HP
      generalize atA hd k = t at HP z0 z1 z2 z3 z4 HUN HRA
      have m1 := HS.out.r2.at (j := 1) rfl
      have HBW := Lib.hid HS.out.bel
      subst hul
      go_wp2_with fail
      go_region_law (first
        | (refine step_call rfl 52 Tryz.func52 (by kernel_rfl) (by kernel_rfl) #[.tmp 26, .tmp 32] _ rfl #[.slice ap ps.length cp, .agg #[.string t.t.v, .int .i8 t.t.a.k, .int .i64 t.t.a.n, .string t.t.a.s]] (by simp [Act.eval, Act.put]) (HP.out wr.drew HBW.out.drew) ?_
           rintro ee w2 ⟨rfl, b2⟩
           refine ⟨_, rfl, ?_⟩
           have B2 : Below wr.heap.size wr w2 := (Below.refl wr.heap.size wr).drew.trans b2
           have n1 := (HS.out.r2.below B2).at (j := 1) rfl
           have n0 := (HS.out.r0.below B2).at (j := 1) rfl
           have n3 := HRA.out w2 B2 0 _ rfl
           rw [Nat.add_zero] at n3
           have n2 := ((HS.out.r2.below B2).below (belowA (w := w2) (.cells #[.int .i8 t.g, .string nt.v, .int .i8 nt.a.k, .int .i64 nt.a.n, .string nt.a.s] 94))).at (j := 1) rfl
           have HSU := Lib.hid ((HS.out.keep B2).keep (belowA (w := w2) (.cells #[.int .i8 t.g, .string nt.v, .int .i8 nt.a.k, .int .i64 nt.a.n, .string nt.a.s] 94)))
           have HC := Lib.hid (lit_news w2 #[.int .i8 t.g, .string nt.v, .int .i8 nt.a.k, .int .i64 nt.a.n, .string nt.a.s] 94)
           clear B2 b2)
        | (refine step_append_own rfl (.tmp 19) (.tmp 35) 22 rfl 94 i0 _ 5 56 Tryz.underlying22 hi0 hz0 hz1 hz2 rfl (by decide) (w.heap.size + 3) (.slice a' us.length c') us.length _ (by simp [Act.eval, Act.put]) HSU.out.own ⟨w2.heap.size, 0, none⟩ 1 1 [.int .i8 t.g, .string nt.v, .int .i8 nt.a.k, .int .i64 nt.a.n, .string nt.a.s] (by simp [Act.eval, Act.put]) rfl HC.out (by simp [Value.oneCell']) (by unfold maxLen; omega) (by omega) HSU.out.bz ?_
           intro v' w3 hown' hgrow hloc
           obtain ⟨a5, c5, rfl, hst, m6, f6⟩ := HSU.out.step ⟨t.g, nt⟩ hown' hgrow
           have HST := Lib.hid hst
           clear hown' hgrow hloc hst))
      all_goals
        go_wp2
        go_roundw
        case rel => exact ⟨us.length + 1, us ++ [⟨t.g, nt⟩], a5, c5, by omega, by go_num, HUN, HST⟩
        case measure => simp [intOf]; omega
    · obtain rfl : k = hd.length := by omega
      rw [List.take_length] at HU
      have HF0 := Lib.hid (HS.out.start d)
      have HUL := Lib.hid hul
      clear HS hul HK1 HWA
      obtain ⟨W2, rfl⟩ : ∃ W2, W2 = wr := ⟨_, rfl⟩
      go_wp2
      clear y1
      clear hagg
      go_loopw [7] (fun i wr => ∃ (k : Nat) (xs : List XL) (b' : Option Addr) (e' : Nat), k ≤ bd.length ∧ i = .int .i64 k ∧ Hid (xs.map XL.x = (bd.take k).map (fun y => apL (putT ps) d y.x)) ∧ Hid (RfS w [.string pr, .slice pa hd.length pc, .slice ba bd.length bc] pr us a' c' d xs b' e' wr)) (fun i _ => bd.length - (intOf i).toNat)
      case atStart => exact ⟨0, [], none, 0, Nat.zero_le _, rfl, rfl, HF0⟩
      case round =>
        clear HF0
        obtain ⟨k, xs, b', e', hk, rfl, HX, HS⟩ := hrel
        have hxl : xs.length = k := by
          have := congrArg List.length HX.out
          rw [List.length_map, List.length_map, List.length_take] at this
          omega
        have y2 := HS.out.r0.at (j := 2) rfl
        have hagg1 := fun q => loadVar.eq_1 23 q
        by_cases hlt : k < bd.length
        · have hlt' : (k : Int) < (bd.length : Int) := by omega
          have hk0 : (0 : Int) ≤ (k : Int) := by omega
          obtain ⟨g, off, rfl, hg, hT⟩ := HK2.out (by omega)
          have hld : (loadVar 89 ⟨g, off + k * 16, none⟩).run Tryz.prog wr = .ok ((atL bd k).x.val (atL bd k).p) wr := load_LitAt (range_below (hT k hlt) HS.out.bel hg) rfl
          have hld2 : (loadVar 89 ⟨g, off + k * 16, none⟩).run Tryz.prog wr.drew = .ok ((atL bd k).x.val (atL bd k).p) wr.drew := load_LitAt (range_below (hT k hlt) HS.out.bel.drew hg) rfl
          have HP : Hid (∀ u, Below w.heap.size w u → Calls Tryz.prog 53 #[.slice ap ps.length cp, (atL bd k).x.val (atL bd k).p] u fun q w' => ∃ p', q = .returned ((apL (putT ps) d (atL bd k).x).val p') ∧ Below u.heap.size u w' ∧ Frl u.heap.size w' (fun _ => False) d (apL (putT ps) d (atL bd k).x) p') := fun u hu => rApplyLiteral_any ps d _ _ _ u ((HEA.out k hlt).below hu) (HSM.out _ (by rw [atL_eq hlt]; exact List.getElem_mem hlt)) (HLP.out u hu)
          have HXT : Hid (∀ y : XL, y.x = apL (putT ps) d (atL bd k).x → (xs ++ [y]).map XL.x = (bd.take (k + 1)).map (fun y => apL (putT ps) d y.x)) := fun y hy => by
            rw [takeL hlt, List.map_append, List.map_append, HX.out]
            simp [hy]
          clear hT HX
          generalize apL (putT ps) d (atL bd k).x = ny at HP HXT
          generalize (atL bd k).x.val (atL bd k).p = QV at HP hld hld2
          unfold Lit4.val at HP
          have m2 := HS.out.r2.at (j := 2) rfl
          have HBW := Lib.hid HS.out.bel
          have HBZ := Lib.hid HS.out.bz
          subst hxl
          go_wp2_with fail
          go_region_law (first
            | (refine step_call rfl 53 Tryz.func53 (by kernel_rfl) (by kernel_rfl) #[.tmp 47, .tmp 52] _ rfl #[.slice ap ps.length cp, QV] (by simp [Act.eval, Act.put]) (HP.out wr.drew HBW.out.drew) ?_
               rintro ee w2 ⟨q, rfl, b2, hfr⟩
               refine ⟨_, rfl, ?_⟩
               have B2 : Below wr.heap.size wr w2 := (Below.refl wr.heap.size wr).drew.trans b2
               have n1 := (HS.out.r2.below B2).at (j := 2) rfl
               have n2 := ((HS.out.r2.below B2).below (belowA (w := w2) (.cells #[.int .i8 ny.k, .string ny.pr, .slice q.a ny.ts.length q.c, .int .i8 ny.rel, .int .i8 ny.l.op, .string ny.l.t.v, .int .i8 ny.l.t.a.k, .int .i64 ny.l.t.a.n, .string ny.l.t.a.s, .slice q.la ny.l.kids.length q.lc, .int .i8 ny.r.op, .string ny.r.t.v, .int .i8 ny.r.t.a.k, .int .i64 ny.r.t.a.n, .string ny.r.t.a.s, .slice q.ra ny.r.kids.length q.rc] 89))).at (j := 2) rfl
               have HB2 := Lib.hid B2
               have HFR := Lib.hid hfr
               have HOWN : Hid ((w2.alloc (.cells #[.int .i8 ny.k, .string ny.pr, .slice q.a ny.ts.length q.c, .int .i8 ny.rel, .int .i8 ny.l.op, .string ny.l.t.v, .int .i8 ny.l.t.a.k, .int .i64 ny.l.t.a.n, .string ny.l.t.a.s, .slice q.la ny.l.kids.length q.lc, .int .i8 ny.r.op, .string ny.r.t.v, .int .i8 ny.r.t.a.k, .int .i64 ny.r.t.a.n, .string ny.r.t.a.s, .slice q.ra ny.r.kids.length q.rc] 89)).ownsRow (w.heap.size + 3) 89 16 (.slice b' xs.length e') xs.length (xs.flatMap XL.cells)) := own_below (own_below HS.out.own B2) (belowA _)
               have HC := Lib.hid (lit_news w2 #[.int .i8 ny.k, .string ny.pr, .slice q.a ny.ts.length q.c, .int .i8 ny.rel, .int .i8 ny.l.op, .string ny.l.t.v, .int .i8 ny.l.t.a.k, .int .i64 ny.l.t.a.n, .string ny.l.t.a.s, .slice q.la ny.l.kids.length q.lc, .int .i8 ny.r.op, .string ny.r.t.v, .int .i8 ny.r.t.a.k, .int .i64 ny.r.t.a.n, .string ny.r.t.a.s, .slice q.ra ny.r.kids.length q.rc] 89)
               have HSZ : Hid (w.heap.size + 3 ≤ (w2.alloc (.cells #[.int .i8 ny.k, .string ny.pr, .slice q.a ny.ts.length q.c, .int .i8 ny.rel, .int .i8 ny.l.op, .string ny.l.t.v, .int .i8 ny.l.t.a.k, .int .i64 ny.l.t.a.n, .string ny.l.t.a.s, .slice q.la ny.l.kids.length q.lc, .int .i8 ny.r.op, .string ny.r.t.v, .int .i8 ny.r.t.a.k, .int .i64 ny.r.t.a.n, .string ny.r.t.a.s, .slice q.ra ny.r.kids.length q.rc] 89)).heap.size) := by have := HBZ.out; have := B2.size; show _ ≤ _; simp; omega
               clear B2 b2 hfr)
            | (refine step_append_own rfl (.tmp 46) (.tmp 54) 23 rfl 89 j0 _ 16 216 Tryz.underlying23 hj0 hy0 hy1 hy2 rfl (by decide) (w.heap.size + 3) (.slice b' xs.length e') xs.length _ (by simp [Act.eval, Act.put]) HOWN.out ⟨w2.heap.size, 0, none⟩ 1 1 [.int .i8 ny.k, .string ny.pr, .slice q.a ny.ts.length q.c, .int .i8 ny.rel, .int .i8 ny.l.op, .string ny.l.t.v, .int .i8 ny.l.t.a.k, .int .i64 ny.l.t.a.n, .string ny.l.t.a.s, .slice q.la ny.l.kids.length q.lc, .int .i8 ny.r.op, .string ny.r.t.v, .int .i8 ny.r.t.a.k, .int .i64 ny.r.t.a.n, .string ny.r.t.a.s, .slice q.ra ny.r.kids.length q.rc] (by simp [Act.eval, Act.put]) rfl HC.out (by simp [Value.oneCell']) (by unfold maxLen; omega) (by omega) HSZ.out ?_
               intro v' w3 hown' hgrow hloc
               obtain ⟨a5, c5, rfl, hst, m6, f6⟩ := HS.out.step HB2.out ⟨ny, q⟩ HFR.out hown' hgrow hloc
               have HST := Lib.hid hst
               clear hown' hgrow hloc hst))
          all_goals
            go_wp2
            go_roundw
            case rel => exact ⟨xs.length + 1, xs ++ [⟨ny, q⟩], a5, c5, by omega, by go_num, HXT.out _ rfl, HST⟩
            case measure => simp [intOf]; omega
        · obtain rfl : k = bd.length := by omega
          rw [List.take_length] at HX
          have hagg := HAGG.out
          have g0 := HS.out.r2.at (j := 0) rfl
          have g1 := HS.out.r2.at (j := 1) rfl
          have g2 := HS.out.r2.at (j := 2) rfl
          have o0 := HS.out.r1.at (j := 0) rfl
          have o1 := HS.out.r1.at (j := 1) rfl
          have o2 := HS.out.r1.at (j := 2) rfl
          have f0 := World.rowIs.frozen HS.out.r1 0
          have f1 := World.rowIs.frozen HS.out.r1 1
          have f2 := World.rowIs.frozen HS.out.r1 2
          have HD := Lib.hid (HS.out.done HPB.out (by rw [HUL.out]; exact hhl) (by rw [hxl]; exact hbl) (by rw [HU.out]; exact HPW.out))
          have HXL := Lib.hid hxl
          unfold res3 at HD
          clear HS hxl HK2 HEA
          go_wp2
          refine bodyPost_ret (rl_results Tryz.results23 (v := .agg #[.string pr, .slice a' us.length c', .slice b' xs.length e']) rfl (run_loadVar_mid _ _ 0 25 [.string pr, .slice a' us.length c', .slice b' xs.length e'] _ HD.out.1.range Tryz.underlying25 rfl (by kernel_rfl))) rfl ?_
          refine ⟨⟨pr, us, xs⟩, ⟨a', c', b', e'⟩, rfl, HD.out.2.1, LikeR.of rfl HU.out ?_, HD.out.2.2⟩
          show xs.map XL.x = (bd.map (apX (putT ps) d)).map XL.x
          rw [HX.out, List.map_map]
          rfl
end Go.Proofs.YtgplipfebnigiaaGreatDoor
