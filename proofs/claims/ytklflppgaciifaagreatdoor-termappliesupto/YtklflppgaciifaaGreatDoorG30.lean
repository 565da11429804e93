import Derived.Test.YtklflppgaciifaaGreatDoorAlP
import Derived.Test.YtklflppgaciifaaGreatDoorG26
import Derived.Test.YtklflppgaciifaaGreatDoorG4
section
namespace Go.Proofs.YtklflppgaciifaaGreatDoor
open Go.RowKit Go.Maps
set_option linter.unusedVariables false
set_option linter.unusedSimpArgs false
attribute [local go_sem ↓] Go.wp_at_zero Go.wp_at_succ

set_option maxHeartbeats 3200000 in
set_option maxRecDepth 100000 in
theorem rApplyRule_any (sv : Value) (s : List P) (d : Nat) (r : R3) (p : RP) (w : World) (hR : RIs w d r p) (hs : smallR d r) (hp : Lp w sv s) :
    Calls Tryz.prog 8 #[sv, r.val p] w fun e w' => ∃ r' p', e = .returned (.tuple #[r'.val p', .int .i64 (errB (okR s d r))]) ∧ Below w.heap.size w w' ∧ LikeR (resR s d r) r' ∧ RIs w' d r' p' := by
  obtain ⟨a0, c0, rfl, _, _, _⟩ := hp.form
  have HLP := Lib.hid hp
  have HRI := Lib.hid hR
  have HSM := Lib.hid hs
  obtain ⟨ok, hok⟩ : ∃ ok, ok = okR s d r := ⟨_, rfl⟩
  have HOK := Lib.hid hok
  rw [← hok]
  have hA1 := belowA (w := w) (.cells #[.string r.pr, .slice p.a r.hd.length p.c, .slice p.ba r.bd.length p.bc] 29)
  have hA2 := belowA (w := w.alloc (.cells #[.string r.pr, .slice p.a r.hd.length p.c, .slice p.ba r.bd.length p.bc] 29)) (.cells #[.string ⟨#[]⟩, .slice none 0 0, .slice none 0 0] 29)
  have HB0 := Lib.hid (hA1.trans (hA2.mono hA1.size))
  have HR0 := Lib.hid ((rl_new w #[.string r.pr, .slice p.a r.hd.length p.c, .slice p.ba r.bd.length p.bc] 29).below hA2)
  have hR1 := rl_new (w.alloc (.cells #[.string r.pr, .slice p.a r.hd.length p.c, .slice p.ba r.bd.length p.bc] 29)) #[.string ⟨#[]⟩, .slice none 0 0, .slice none 0 0] 29
  rw [World.size_alloc] at hR1
  have HR1 := Lib.hid hR1
  have HSZ : Hid (((w.alloc (.cells #[.string r.pr, .slice p.a r.hd.length p.c, .slice p.ba r.bd.length p.bc] 29)).alloc (.cells #[.string ⟨#[]⟩, .slice none 0 0, .slice none 0 0] 29)).heap.size = w.heap.size + 2) := by show _ = _; simp
  clear hA1 hA2 hR1 hok hp hR hs
  unfold R3.val
  go_enter Tryz.func8, Tryz.ntmps8
  go_upto_region 1 with fail
  generalize (w.alloc (.cells #[.string r.pr, .slice p.a r.hd.length p.c, .slice p.ba r.bd.length p.bc] 29)).alloc (.cells #[.string ⟨#[]⟩, .slice none 0 0, .slice none 0 0] 29) = W at HB0 HR0 HR1 HSZ ⊢
  have y0 := HR0.out.at (j := 0) rfl
  have y1 := HR0.out.at (j := 1) rfl
  have y2 := HR0.out.at (j := 2) rfl
  have HIR := Lib.hid (rrule_any d r p W (HRI.out.below HB0.out) HSM.out)
  unfold R3.val at HIR
  go_wp2_with fail
  refine HIR.out.mono ?_
  rintro e w1 ⟨rfl, b1⟩
  have HB1 := Lib.hid (HB0.out.trans (b1.mono HB0.out.size))
  have HR0' := Lib.hid (HR0.out.below b1)
  have HR1' := Lib.hid (HR1.out.below b1)
  have HSZ1 : Hid (w.heap.size + 2 ≤ w1.heap.size) := by show _ ≤ _; rw [← HSZ.out]; exact b1.size
  clear HIR HR0 HR1 HB0 HSZ y0 y1 y2 b1
  cases hrb : ruleB d r
  · have HF : Hid (ok = false) := by show _ = _; rw [HOK.out]; unfold okR; rw [hrb]; rfl
    have HRES : Hid (resR s d r = noR) := by show _ = _; unfold resR; rw [← HOK.out, HF.out]; rfl
    have o0 := HR1'.out.at (j := 0) rfl
    have o1 := HR1'.out.at (j := 1) rfl
    have o2 := HR1'.out.at (j := 2) rfl
    have f0 := World.rowIs.frozen HR1'.out 0
    have f1 := World.rowIs.frozen HR1'.out 1
    have f2 := World.rowIs.frozen HR1'.out 2
    have HD1 := Lib.hid (res3_rl HR1'.out ⟨#[]⟩ (.slice none 0 0) (.slice none 0 0))
    have HD2 := Lib.hid (res3_below (g := w.heap.size + 1) HB1.out (by omega) ⟨#[]⟩ (.slice none 0 0) (.slice none 0 0))
    unfold res3 at HD1 HD2
    clear HR0' HR1' HB1 hrb
    go_wp2
    refine bodyPost_ret (rl_resAB Tryz.results8 (v := .agg #[.string ⟨#[]⟩, .slice none 0 0, .slice none 0 0]) (u := .int .i64 40) rfl rfl (run_loadVar_mid _ _ 0 29 [.string ⟨#[]⟩, .slice none 0 0, .slice none 0 0] _ HD1.out.range Tryz.underlying29 rfl (by kernel_rfl))) rfl ?_
    refine ⟨noR, ⟨none, 0, none, 0⟩, by rw [HF.out]; rfl, HD2.out, ?_, noR_is _ _⟩
    rw [HRES.out]
    exact LikeR.refl _
  · have HRB := Lib.hid hrb
    have y0 := HR0'.out.at (j := 0) rfl
    have y1 := HR0'.out.at (j := 1) rfl
    have y2 := HR0'.out.at (j := 2) rfl
    have HCR := Lib.hid (replaced_any s d r p _ w1 (HRI.out.below HB1.out) HSM.out (HLP.out.below HB1.out))
    unfold R3.val at HCR
    clear hrb
    go_wp2_with fail
    refine HCR.out.mono ?_
    rintro e w2 ⟨R, q, rfl, b2, hlike, his⟩
    have hA3 := belowA (w := w2) (.cells #[.string R.pr, .slice q.a R.hd.length q.c, .slice q.ba R.bd.length q.bc] 29)
    have HB2 := Lib.hid (HB1.out.trans (b2.mono HB1.out.size))
    have HB3 := Lib.hid (HB2.out.trans (hA3.mono HB2.out.size))
    have HQ1 := Lib.hid ((HR1'.out.below b2).below hA3)
    have HQ6 := Lib.hid (rl_new w2 #[.string R.pr, .slice q.a R.hd.length q.c, .slice q.ba R.bd.length q.bc] 29)
    have HFR : Hid (Frr (w.heap.size + 2) (w2.alloc (.cells #[.string R.pr, .slice q.a R.hd.length q.c, .slice q.ba R.bd.length q.bc] 29)) d R q) := (his.lower HSZ1.out).keep hA3.size (fun k _ k2 => hA3.block k k2)
    have HLIKE := Lib.hid hlike
    clear hA3 hlike his b2 HCR HR0' HR1' HB1 y0 y1 y2 HSZ1 HB2
    go_upto_region 4 with fail
    generalize w2.alloc (.cells #[.string R.pr, .slice q.a R.hd.length q.c, .slice q.ba R.bd.length q.bc] 29) = W3 at HB3 HQ1 HQ6 HFR ⊢
    have z0 := HQ6.out.at (j := 0) rfl
    have z1 := HQ6.out.at (j := 1) rfl
    have z2 := HQ6.out.at (j := 2) rfl
    have HI2 := Lib.hid (rrule_any d R q W3 HFR.out.is (HLIKE.out.small (apR_small _ HSM.out)))
    unfold R3.val at HI2
    go_wp2_with fail
    refine HI2.out.mono ?_
    rintro e w6 ⟨rfl, b6⟩
    have HB6 := Lib.hid (HB3.out.trans (b6.mono HB3.out.size))
    have HK1 := Lib.hid (HQ1.out.below b6)
    have HK6 := Lib.hid (HQ6.out.below b6)
    have HF6 : Hid (Frr (w.heap.size + 2) w6 d R q) := HFR.out.keep b6.size (fun k _ k2 => b6.block k k2)
    have HOK2 : Hid (ok = ruleB d R) := by show _ = _; rw [HOK.out, HLIKE.out.ruleB d]; unfold okR; rw [HRB.out]; rfl
    have o0 := HK1.out.at (j := 0) rfl
    have o1 := HK1.out.at (j := 1) rfl
    have o2 := HK1.out.at (j := 2) rfl
    have f0 := World.rowIs.frozen HK1.out 0
    have f1 := World.rowIs.frozen HK1.out 1
    have f2 := World.rowIs.frozen HK1.out 2
    have x0 := HK6.out.at (j := 0) rfl
    have x1 := HK6.out.at (j := 1) rfl
    have x2 := HK6.out.at (j := 2) rfl
    clear HI2 HB3 HQ1 HQ6 z0 z1 z2 b6 HFR
    cases hrb2 : ruleB d R
    · rw [hrb2] at HOK2
      have HRES : Hid (resR s d r = noR) := by show _ = _; unfold resR; rw [← HOK.out, HOK2.out]; rfl
      have HD1 := Lib.hid (res3_rl HK1.out ⟨#[]⟩ (.slice none 0 0) (.slice none 0 0))
      have HD2 := Lib.hid (res3_below (g := w.heap.size + 1) HB6.out (by omega) ⟨#[]⟩ (.slice none 0 0) (.slice none 0 0))
      unfold res3 at HD1 HD2
      clear hrb2 HK1 HK6 HB6
      go_wp2
      refine bodyPost_ret (rl_resAB Tryz.results8 (v := .agg #[.string ⟨#[]⟩, .slice none 0 0, .slice none 0 0]) (u := .int .i64 40) rfl rfl (run_loadVar_mid _ _ 0 29 [.string ⟨#[]⟩, .slice none 0 0, .slice none 0 0] _ HD1.out.range Tryz.underlying29 rfl (by kernel_rfl))) rfl ?_
      refine ⟨noR, ⟨none, 0, none, 0⟩, by rw [HOK2.out]; rfl, HD2.out, ?_, noR_is _ _⟩
      rw [HRES.out]
      exact LikeR.refl _
    · rw [hrb2] at HOK2
      have HRES : Hid (resR s d r = apR (putT s) d r) := by show _ = _; unfold resR; rw [← HOK.out, HOK2.out]; rfl
      have HD1 := Lib.hid (res3_rl HK1.out R.pr (.slice q.a R.hd.length q.c) (.slice q.ba R.bd.length q.bc))
      have HD2 := Lib.hid (res3_below (g := w.heap.size + 1) HB6.out (by omega) R.pr (.slice q.a R.hd.length q.c) (.slice q.ba R.bd.length q.bc))
      have HD3 : Hid (RIs (res3 w6 (w.heap.size + 1) R.pr (.slice q.a R.hd.length q.c) (.slice q.ba R.bd.length q.bc)) d R q) := HF6.out _ (by rw [res3_size]; exact Nat.le_refl _) (fun k k1 _ => res3_other _ _ _ _ _ (by omega))
      unfold res3 at HD1 HD2 HD3
      clear hrb2 HK1 HK6 HB6
      go_wp2
      refine bodyPost_ret (rl_resAB Tryz.results8 (v := .agg #[.string R.pr, .slice q.a R.hd.length q.c, .slice q.ba R.bd.length q.bc]) (u := .int .i64 0) rfl rfl (run_loadVar_mid _ _ 0 29 [.string R.pr, .slice q.a R.hd.length q.c, .slice q.ba R.bd.length q.bc] _ HD1.out.range Tryz.underlying29 rfl (by kernel_rfl))) rfl ?_
      refine ⟨R, q, by rw [HOK2.out]; rfl, HD2.out, ?_, HD3.out⟩
      rw [HRES.out]
      exact HLIKE.out
end Go.Proofs.YtklflppgaciifaaGreatDoor
end
section
namespace Go.Proofs.YtklflppgaciifaaGreatDoor
open Go.RowKit Go.Maps
set_option linter.unusedVariables false
set_option linter.unusedSimpArgs false
attribute [local go_sem ↓] Go.wp_at_zero Go.wp_at_succ

theorem oneCells_pair (x : P) : (P.cells x).toArray.all (·.oneCell') = true := by simp [P.cells, Value.oneCell']
/-- a list of pairs, as ranges -/
theorem Lp.ranges {w : World} {v : Value} {l : List P} (h : Lp w v l) : ∃ a c, v = .slice a l.length c ∧ l.length ≤ c ∧ c ≤ maxLen ∧ (0 < l.length → ∃ g off, a = some ⟨g, off, none⟩ ∧ g < w.heap.size ∧ ∀ i, i < l.length → w.rangeAt g (off + i * 5) (atP l i).cells) := ls_range (f := P.cells) (k := 5) (fun _ => rfl) P0 h.lies
section
attribute [-go_sem] loadVar storeVar
set_option maxHeartbeats 1600000 in
theorem markPair_any (w : World) (hp : PWt w) : Calls Tryz.prog 18 #[.int .i64 777777] w fun e w' => e = .returned (.agg #[.string markW, .string ⟨#[]⟩, .int .i8 0, .int .i64 0, .string ⟨#[]⟩]) ∧ Below w.heap.size w w' := by
  have BA := (Below.refl w.heap.size w).alloc (Nat.le_refl _) (.cells #[.string ⟨#[]⟩, .string ⟨#[]⟩, .int .i8 0, .int .i64 0, .string ⟨#[]⟩] 50)
  have HP : Hid _ := tab_below hp BA
  have HR0 : Hid (RL (w.alloc (.cells #[.string ⟨#[]⟩, .string ⟨#[]⟩, .int .i8 0, .int .i64 0, .string ⟨#[]⟩] 50)) w.heap.size 50 [.string ⟨#[]⟩, .string ⟨#[]⟩, .int .i8 0, .int .i64 0, .string ⟨#[]⟩]) := rl_new w #[.string ⟨#[]⟩, .string ⟨#[]⟩, .int .i8 0, .int .i64 0, .string ⟨#[]⟩] 50
  clear hp
  go_enter Tryz.func18, Tryz.ntmps18
  go_wp2_with fail
  refine (word_any _ HP.out).mono ?_
  rintro e w1 ⟨rfl, b1⟩
  have HR : Hid (RL w1 w.heap.size 50 [.string ⟨#[]⟩, .string ⟨#[]⟩, .int .i8 0, .int .i64 0, .string ⟨#[]⟩]) := RL.below HR0.out b1
  have B1 : Hid (Below w.heap.size w w1) := BA.trans (b1.mono BA.size)
  clear b1 BA HR0 HP
  generalize hmw : markW = MW
  have HM : Hid _ := hmw
  clear hmw
  have hst : (storeVar 50 ⟨w.heap.size, 0, none⟩ (.agg #[.string MW, .string ⟨#[]⟩, .int .i8 0, .int .i64 0, .string ⟨#[]⟩])).run Tryz.prog w1 = .ok () (w1.setCells w.heap.size 0 [.string MW, .string ⟨#[]⟩, .int .i8 0, .int .i64 0, .string ⟨#[]⟩]) := run_storeVar_mid w1 _ 0 _ #[.string MW, .string ⟨#[]⟩, .int .i8 0, .int .i64 0, .string ⟨#[]⟩] (by have := rl_there HR.out; exact this) (by kernel_rfl) (by simp [Value.oneCell'])
  go_wp2
  refine bodyPost_ret (rl_results Tryz.results18 (v := .agg #[.string MW, .string ⟨#[]⟩, .int .i8 0, .int .i64 0, .string ⟨#[]⟩]) rfl (run_loadVar_mid _ _ 0 50 [.string MW, .string ⟨#[]⟩, .int .i8 0, .int .i64 0, .string ⟨#[]⟩] _ (RL.range (rl_setAll HR.out [.string MW, .string ⟨#[]⟩, .int .i8 0, .int .i64 0, .string ⟨#[]⟩] rfl)) Tryz.underlying50 rfl (by kernel_rfl))) rfl ⟨by rw [HM.out], ?_⟩
  exact below_setCells (Nat.le_refl _) _ _ _ B1.out
theorem infoPair : (Tryz.prog.info? 50).map (fun i => (i.zero, i.size, i.bytes)) = some (some (.agg #[.string ⟨#[]⟩, .string ⟨#[]⟩, .int .i8 0, .int .i64 0, .string ⟨#[]⟩]), 5, 64) := by kernel_rfl
theorem run_make_Pair (n : Nat) (hn : n ≤ 1048576) (w : World) :
    (Instr.makeSlice 22 (.int .i64 ((n : Int) + 1)) (.int .i64 ((n : Int) + 1))).run Tryz.prog w = .ok (.slice (some ⟨w.heap.size, 0, none⟩) (n + 1) (n + 1)) (w.alloc (.cells (madeCells #[.string ⟨#[]⟩, .string ⟨#[]⟩, .int .i8 0, .int .i64 0, .string ⟨#[]⟩] ((n + 1) * 5)) 50)) := by
  have h := infoPair
  obtain ⟨i, hi, he⟩ := Option.map_eq_some_iff.1 h
  simp only [Prod.mk.injEq] at he
  obtain ⟨h1, h2, h3⟩ := he
  have := run_make (P := Tryz.prog) w 22 50 i _ Tryz.underlying22 hi h1 .i64 .i64 ((n : Int) + 1) ((n : Int) + 1) (by omega) (Int.le_refl _) (by rw [h3]; omega) (by omega)
  rw [this, h2, show ((n : Int) + 1).toNat = n + 1 by omega]
  rfl
theorem load_Pair {u : World} {g o : Nat} {cs : List Value} (h : u.rangeAt g o cs) (hl : cs.length = 5) : (loadVar 50 ⟨g, o, none⟩).run Tryz.prog u = .ok (.agg cs.toArray) u :=
  run_loadVar_mid u g o _ cs _ h Tryz.underlying50 rfl (by rw [hl]; kernel_rfl)
theorem store_Pair {u : World} {b o : Nat} {cs : List Value} (h : u.there b o 5) (hl : cs.length = 5) (h1 : cs.toArray.all (·.oneCell') = true) : (storeVar 50 ⟨b, o, none⟩ (.agg cs.toArray)).run Tryz.prog u = .ok () (u.setCells b o cs) :=
  run_storeVar_mid u b o _ cs.toArray (by rw [List.size_toArray, hl]; exact h) (by rw [List.size_toArray, hl]; kernel_rfl) h1
/-- a copy of a list of arguments, with a mark behind it -/
structure TwP (w : World) (lo : Nat) (l : List P) (a : Option Addr) (c : Nat) : Prop where
  cap : c = l.length + 1
  lies : ∃ g, a = some ⟨g, 0, none⟩ ∧ lo ≤ g ∧ g < w.heap.size ∧ w.rangeAt g (l.length * 5) [.string markW, .string ⟨#[]⟩, .int .i8 0, .int .i64 0, .string ⟨#[]⟩] ∧ ∀ i, i < l.length → w.rangeAt g (i * 5) (atP l i).cells
theorem TwP.below {w w' : World} {lo : Nat} {l : List P} {a : Option Addr} {c : Nat} (h : TwP w lo l a c) (b : Below w.heap.size w w') : TwP w' lo l a c := by
  obtain ⟨h1, g, h2, h3, h4, h5, h6⟩ := h
  exact ⟨h1, g, h2, h3, Nat.lt_of_lt_of_le h4 b.size, range_below h5 b h4, fun i hi => range_below (h6 i hi) b h4⟩
theorem TwP.set {w : World} {lo b j : Nat} {v : Value} (hb : b < lo) {l : List P} {a : Option Addr} {c : Nat} (h : TwP w lo l a c) : TwP (w.setCell ⟨b, j, none⟩ v) lo l a c := by
  obtain ⟨h1, g, h2, h3, h4, h5, h6⟩ := h
  have e : (w.setCell ⟨b, j, none⟩ v).heap[g]? = w.heap[g]? := heap_setCell_other _ _ _ _ (by show g ≠ b; omega)
  exact ⟨h1, g, h2, h3, by simpa using h4, range_block h5 e, fun i hi => range_block (h6 i hi) e⟩
theorem TwP.lower {w : World} {lo lo' : Nat} (hl : lo' ≤ lo) {l : List P} {a : Option Addr} {c : Nat} (h : TwP w lo l a c) : TwP w lo' l a c := by
  obtain ⟨h1, g, h2, h3, h4, h5, h6⟩ := h
  exact ⟨h1, g, h2, Nat.le_trans hl h3, h4, h5, h6⟩
theorem TwP.lp {w w0 : World} {lo : Nat} {l : List P} {a : Option Addr} {c : Nat} {v : Value} (h : TwP w lo l a c) (h0 : Lp w0 v l) (hl : l.length ≤ 1048576) : Lp w (.slice a l.length c) l := by
  obtain ⟨rfl, g, rfl, _, hg, _, hk⟩ := h
  exact ⟨ls_of_range (f := P.cells) (k := 5) (by omega) (fun _ => rfl) P0 (by omega) (by unfold maxLen; omega) hg hk, h0.wf⟩
set_option maxHeartbeats 3200000 in
theorem twinPairs_any (v : Value) (l : List P) (w : World) (hp : PWt w) (hs : l.length ≤ 1048576) (hL : Lp w v l) :
    Calls Tryz.prog 5 #[v] w fun r w' => ∃ a', r = .returned (.slice a' l.length (l.length + 1)) ∧ Below w.heap.size w w' ∧ TwP w' w.heap.size l a' (l.length + 1) := by
  obtain ⟨a, c, rfl, hc1, hc2, hk⟩ := hL.ranges
  have hmk := run_make_Pair l.length hs
  have HK : Hid _ := hk
  have HP : Hid (PWt w) := hp
  clear hk hp hc2 hL
  go_enter Tryz.func5, Tryz.ntmps5
  go_wp2
  go_loopw [4] (fun i wr => ∃ k : Nat, k ≤ l.length ∧ i = .int .i64 k ∧ Below w.heap.size w wr ∧ wr.rowIs w.heap.size 50 ((l.length + 1) * 5) (rowF 5 (upC P.cells [.string ⟨#[]⟩, .string ⟨#[]⟩, .int .i8 0, .int .i64 0, .string ⟨#[]⟩] (atP l) k))) (fun i _ => l.length - (intOf i).toNat)
  case atStart => exact ⟨0, Nat.zero_le _, rfl, (Below.refl _ _).alloc (Nat.le_refl _) _, made_row w #[.string ⟨#[]⟩, .string ⟨#[]⟩, .int .i8 0, .int .i64 0, .string ⟨#[]⟩] 50 (l.length + 1) (by decide)⟩
  case round =>
    obtain ⟨k, hk, rfl, bel, hrow⟩ := hrel
    clear hmk
    have HR : Hid (wr.rowIs w.heap.size 50 ((l.length + 1) * 5) (rowF 5 (upC P.cells [.string ⟨#[]⟩, .string ⟨#[]⟩, .int .i8 0, .int .i64 0, .string ⟨#[]⟩] (atP l) k))) := hrow
    have hwlt : w.heap.size < wr.heap.size := hrow.lt
    clear hrow
    by_cases hlt : k < l.length
    · have hlt' : (k : Int) < (l.length : Int) := by omega
      obtain ⟨g, off, rfl, hg, hKS⟩ := HK.out (by omega)
      have hld := load_Pair (range_below (hKS k hlt) bel hg) rfl
      have hst := store_Pair (rowF_there HR.out rfl (i := k) (by omega)) (cs := (atP l k).cells) rfl (oneCells_pair _)
      have HN : Hid ((wr.setCells w.heap.size (k * 5) (atP l k).cells).rowIs w.heap.size 50 ((l.length + 1) * 5) (rowF 5 (upC P.cells [.string ⟨#[]⟩, .string ⟨#[]⟩, .int .i8 0, .int .i64 0, .string ⟨#[]⟩] (atP l) (k + 1)))) := by
        have := rowF_set (k := k) (by decide) HR.out (atP l k).cells rfl
        rw [upC_step, upd_same (atP l) k _ rfl] at this
        exact this
      have HBn : Hid (Below w.heap.size w (wr.setCells w.heap.size (k * 5) (atP l k).cells)) := below_setCells (Nat.le_refl _) _ _ _ bel
      generalize wr.setCells w.heap.size (k * 5) (atP l k).cells = W2 at hst HN HBn
      generalize Value.agg (atP l k).cells.toArray = QV at hld hst
      have hk1 : (k : Int) < (l.length : Int) + 1 := by omega
      clear hKS HR
      go_wp2
      go_roundw
      case rel => exact ⟨k + 1, by omega, by go_num, HBn.out, HN.out⟩
      case measure => simp [intOf]; omega
    · obtain rfl : k = l.length := by omega
      go_wp2_with fail
      refine (markPair_any _ (tab_below HP.out bel)).mono ?_
      rintro r w1 ⟨rfl, b1⟩
      have HR1 : Hid (w1.rowIs w.heap.size 50 ((l.length + 1) * 5) (rowF 5 (upC P.cells [.string ⟨#[]⟩, .string ⟨#[]⟩, .int .i8 0, .int .i64 0, .string ⟨#[]⟩] (atP l) l.length))) := HR.out.of_block (b1.block _ hwlt)
      have bel1 : Below w.heap.size w w1 := bel.trans (b1.mono bel.size)
      have hst := store_Pair (rowF_there HR1.out rfl (i := l.length) (by omega)) (cs := [.string markW, .string ⟨#[]⟩, .int .i8 0, .int .i64 0, .string ⟨#[]⟩]) rfl (by simp [Value.oneCell'])
      have HN : Hid ((w1.setCells w.heap.size (l.length * 5) [.string markW, .string ⟨#[]⟩, .int .i8 0, .int .i64 0, .string ⟨#[]⟩]).rowIs w.heap.size 50 ((l.length + 1) * 5) (rowF 5 (fun i => if i = l.length then [.string markW, .string ⟨#[]⟩, .int .i8 0, .int .i64 0, .string ⟨#[]⟩] else upC P.cells [.string ⟨#[]⟩, .string ⟨#[]⟩, .int .i8 0, .int .i64 0, .string ⟨#[]⟩] (atP l) l.length i))) := rowF_set (k := l.length) (by decide) HR1.out [.string markW, .string ⟨#[]⟩, .int .i8 0, .int .i64 0, .string ⟨#[]⟩] rfl
      have HBn : Hid (Below w.heap.size w (w1.setCells w.heap.size (l.length * 5) [.string markW, .string ⟨#[]⟩, .int .i8 0, .int .i64 0, .string ⟨#[]⟩])) := below_setCells (Nat.le_refl _) _ _ _ bel1
      have hst2 : (storeVar 50 ⟨w.heap.size, l.length * 5, none⟩ (.agg #[.string markW, .string ⟨#[]⟩, .int .i8 0, .int .i64 0, .string ⟨#[]⟩])).run Tryz.prog w1 = _ := hst
      clear hst
      generalize w1.setCells w.heap.size (l.length * 5) [.string markW, .string ⟨#[]⟩, .int .i8 0, .int .i64 0, .string ⟨#[]⟩] = W2 at hst2 HN HBn
      have hk1 : (l.length : Int) < (l.length : Int) + 1 := by omega
      clear b1 HR bel HR1
      obtain ⟨MW, hmw⟩ : ∃ MW, markW = MW := ⟨_, rfl⟩
      rw [hmw] at hst2 HN ⊢
      have HM : Hid _ := hmw
      clear hmw
      go_wp2
      go_ret
      refine ⟨some ⟨w.heap.size, 0, none⟩, rfl, HBn.out, rfl, w.heap.size, rfl, Nat.le_refl _, World.rowIs.lt HN.out, ?_, fun i hi => ?_⟩
      · have := rowF_range HN.out rfl (i := l.length) (by omega) (by rw [if_pos rfl]; rfl)
        rw [if_pos rfl] at this
        rw [HM.out]
        exact this
      · have := rowF_range HN.out rfl (i := i) (by omega) (by simp only [if_neg (show ¬ i = l.length by omega)]; exact upC_len (f := P.cells) (n := 5) (fun _ => rfl) rfl _ _ _)
        simp only [if_neg (show ¬ i = l.length by omega), upC, if_pos hi] at this
        exact this
end
theorem run_neqP (x : P) (w : World) : (binOp .neq 50 (.agg #[.string x.v, .string x.t.v, .int .i8 x.t.a.k, .int .i64 x.t.a.n, .string x.t.a.s]) (.agg #[.string x.v, .string x.t.v, .int .i8 x.t.a.k, .int .i64 x.t.a.n, .string x.t.a.s])).run Tryz.prog w = .ok (.bool false) w := by go_simp
theorem run_eqP (x : P) (w : World) : (binOp .eql 50 (.agg #[.string x.v, .string x.t.v, .int .i8 x.t.a.k, .int .i64 x.t.a.n, .string x.t.a.s]) (.agg #[.string x.v, .string x.t.v, .int .i8 x.t.a.k, .int .i64 x.t.a.n, .string x.t.a.s])).run Tryz.prog w = .ok (.bool true) w := by go_simp
set_option maxHeartbeats 3200000 in
theorem samePairs_sm (v v' : Value) (l : List P) (w : World) (h1 : Lp w v l) (h2 : Lp w v' l) :
    Calls Tryz.prog 34 #[v, v'] w fun r w' => r = .returned (.bool true) ∧ Below w.heap.size w w' := by
  obtain ⟨a, c, rfl, hc1, hc2, hk⟩ := h1.ranges
  obtain ⟨a', c', rfl, hc1', hc2', hk'⟩ := h2.ranges
  have hmax : l.length ≤ maxLen := Nat.le_trans hc1 hc2
  unfold maxLen at hmax
  have HK : Hid _ := hk
  have HK' : Hid _ := hk'
  clear hk hk' h1 h2 hc2 hc2'
  go_enter Tryz.func34, Tryz.ntmps34
  go_wp2
  go_loopw [5] (fun i wr => ∃ k : Nat, k ≤ l.length ∧ i = .int .i64 k ∧ Below w.heap.size w wr) (fun i _ => l.length - (intOf i).toNat)
  case atStart => exact ⟨0, Nat.zero_le _, rfl, Below.refl _ _⟩
  case round =>
    obtain ⟨k, hk, rfl, bel⟩ := hrel
    by_cases hlt : k < l.length
    · have hlt' : (k : Int) < (l.length : Int) := by omega
      obtain ⟨g, off, rfl, hg, hKS⟩ := HK.out (by omega)
      obtain ⟨g', off', rfl, hg', hKS'⟩ := HK'.out (by omega)
      have ry := range_below (hKS k hlt) bel hg
      have rz := range_below (hKS' k hlt) bel hg'
      generalize atP l k = x at ry rz
      have y0 : wr.cell? ⟨g, off + k * 5, none⟩ = some (.string x.v) := ry 0 _ rfl
      have y1 : wr.cell? ⟨g, off + k * 5 + 1, none⟩ = some (.string x.t.v) := ry 1 _ rfl
      have y2 : wr.cell? ⟨g, off + k * 5 + 2, none⟩ = some (.int .i8 x.t.a.k) := ry 2 _ rfl
      have y3 : wr.cell? ⟨g, off + k * 5 + 3, none⟩ = some (.int .i64 x.t.a.n) := ry 3 _ rfl
      have y4 : wr.cell? ⟨g, off + k * 5 + 4, none⟩ = some (.string x.t.a.s) := ry 4 _ rfl
      have z0 : wr.cell? ⟨g', off' + k * 5, none⟩ = some (.string x.v) := rz 0 _ rfl
      have z1 : wr.cell? ⟨g', off' + k * 5 + 1, none⟩ = some (.string x.t.v) := rz 1 _ rfl
      have z2 : wr.cell? ⟨g', off' + k * 5 + 2, none⟩ = some (.int .i8 x.t.a.k) := rz 2 _ rfl
      have z3 : wr.cell? ⟨g', off' + k * 5 + 3, none⟩ = some (.int .i64 x.t.a.n) := rz 3 _ rfl
      have z4 : wr.cell? ⟨g', off' + k * 5 + 4, none⟩ = some (.string x.t.a.s) := rz 4 _ rfl
      have hQ := run_neqP x
      clear hKS hKS' ry rz
      go_wp2_with fail
      go_quiet (fail)
      go_wp2
      go_roundw
      case rel => exact ⟨k + 1, by omega, by go_num, below_drewN bel _⟩
      case measure => simp [intOf]; omega
    · obtain rfl : k = l.length := by omega
      go_wp2
      go_ret
      exact ⟨rfl, bel⟩
set_option maxHeartbeats 1600000 in
theorem isMarkP_any (w : World) (hp : PWt w) : Calls Tryz.prog 35 #[.agg #[.string markW, .string ⟨#[]⟩, .int .i8 0, .int .i64 0, .string ⟨#[]⟩], .int .i64 777777] w fun e w' => e = .returned (.bool true) ∧ Below w.heap.size w w' := by
  have BA := (Below.refl w.heap.size w).alloc (Nat.le_refl _) (.cells #[.string markW, .string ⟨#[]⟩, .int .i8 0, .int .i64 0, .string ⟨#[]⟩] 50)
  have HX0 : Hid (RL (w.alloc (.cells #[.string markW, .string ⟨#[]⟩, .int .i8 0, .int .i64 0, .string ⟨#[]⟩] 50)) w.heap.size 50 [.string markW, .string ⟨#[]⟩, .int .i8 0, .int .i64 0, .string ⟨#[]⟩]) := rl_new w #[.string markW, .string ⟨#[]⟩, .int .i8 0, .int .i64 0, .string ⟨#[]⟩] 50
  have HS : Hid (∀ u, Below (w.alloc (.cells #[.string markW, .string ⟨#[]⟩, .int .i8 0, .int .i64 0, .string ⟨#[]⟩] 50)).heap.size (w.alloc (.cells #[.string markW, .string ⟨#[]⟩, .int .i8 0, .int .i64 0, .string ⟨#[]⟩] 50)) u → Below w.heap.size w u ∧ u.cell? ⟨w.heap.size, 0, none⟩ = some (.string markW) ∧ u.cell? ⟨w.heap.size, 1, none⟩ = some (.string ⟨#[]⟩) ∧ u.cell? ⟨w.heap.size, 2, none⟩ = some (.int .i8 0) ∧ u.cell? ⟨w.heap.size, 3, none⟩ = some (.int .i64 0) ∧ u.cell? ⟨w.heap.size, 4, none⟩ = some (.string ⟨#[]⟩)) := fun u hu => by
    have hr := RL.below HX0.out hu
    exact ⟨BA.trans (hu.mono BA.size), hr.at (j := 0) rfl, hr.at (j := 1) rfl, hr.at (j := 2) rfl, hr.at (j := 3) rfl, hr.at (j := 4) rfl⟩
  have HP : Hid (∀ u, Below w.heap.size w u → PWt u) := fun u hu => tab_below hp hu
  obtain ⟨MW, hmw⟩ : ∃ MW, markW = MW := ⟨_, rfl⟩
  have HW : Hid (∀ u, PWt u → Calls Tryz.prog 40 #[.int .i64 777777] u fun e w' => e = .returned (.string MW) ∧ Below u.heap.size u w') := fun u hu => by rw [← hmw]; exact word_any u hu
  rw [hmw] at HS ⊢
  clear hp hmw BA HX0
  have hE : ∀ u, (binOp .eql 50 (.agg #[.string MW, .string ⟨#[]⟩, .int .i8 0, .int .i64 0, .string ⟨#[]⟩]) (.agg #[.string MW, .string ⟨#[]⟩, .int .i8 0, .int .i64 0, .string ⟨#[]⟩])).run Tryz.prog u = .ok (.bool true) u := fun u => run_eqP ⟨MW, T0⟩ u
  go_enter Tryz.func35, Tryz.ntmps35
  go_wp2_with fail
  generalize hWW : w.alloc (.cells #[.string MW, .string ⟨#[]⟩, .int .i8 0, .int .i64 0, .string ⟨#[]⟩] 50) = W at HS ⊢
  clear hWW
  have hB0 : Below W.heap.size W W := Below.refl _ _
  go_region_held3 (fun u => (Below W.heap.size W u) ∧ u.cell? ⟨w.heap.size, 0, none⟩ = some (.string MW) ∧ u.cell? ⟨w.heap.size, 1, none⟩ = some (.string ⟨#[]⟩) ∧ u.cell? ⟨w.heap.size, 2, none⟩ = some (.int .i8 0) ∧ u.cell? ⟨w.heap.size, 3, none⟩ = some (.int .i64 0) ∧ u.cell? ⟨w.heap.size, 4, none⟩ = some (.string ⟨#[]⟩))
    (first
      | assumption
      | exact ⟨hB0.drew, (HS.out _ hB0.drew).2⟩
      | exact ⟨(by assumption), (HS.out _ (by assumption)).2⟩)
    (first
      | (go_at_call 40; refine (HW.out _ (HP.out _ (HS.out _ hB0.drew).1)).mono ?_; rintro ee w2 ⟨rfl, b2⟩; have b2' : Below W.heap.size W w2 := hB0.drew.trans b2)
      | fail)
  go_wp2
  go_ret
  exact ⟨rfl, (HS.out _ b2').1⟩
set_option maxHeartbeats 1600000 in
theorem leftPairs_any (l : List P) (a a0 : Option Addr) (c c0 lo : Nat) (w : World) (hs : l.length ≤ 1048576) (hp : PWt w) (hW : TwP w lo l a c) (hL : Lp w (.slice a0 l.length c0) l) :
    Calls Tryz.prog 14 #[.slice a l.length c, .slice a0 l.length c0] w fun r w' => r = .returned (.bool true) ∧ Below w.heap.size w w' := by
  have HS : Hid _ := samePairs_sm _ _ l w (hW.lp hL hs) hL
  obtain ⟨rfl, g, rfl, _, hg, hmk, _⟩ := hW
  have HMK : Hid (w.rangeAt g (l.length * 5) [.string markW, .string ⟨#[]⟩, .int .i8 0, .int .i64 0, .string ⟨#[]⟩]) := hmk
  have HP : Hid (PWt w) := hp
  clear hmk hp hL
  go_enter Tryz.func14, Tryz.ntmps14
  go_wp2_with fail
  refine Calls.mono HS.out ?_
  rintro r w1 ⟨rfl, b1⟩
  have hr := range_below HMK.out b1 hg
  have hMK : Hid _ := isMarkP_any w1 (tab_below HP.out b1)
  have hk1 : (l.length : Int) < (l.length : Int) + 1 := by omega
  have z0 : w1.cell? ⟨g, l.length * 5, none⟩ = some (.string markW) := hr 0 _ rfl
  have z1 : w1.cell? ⟨g, l.length * 5 + 1, none⟩ = some (.string ⟨#[]⟩) := hr 1 _ rfl
  have z2 : w1.cell? ⟨g, l.length * 5 + 2, none⟩ = some (.int .i8 0) := hr 2 _ rfl
  have z3 : w1.cell? ⟨g, l.length * 5 + 3, none⟩ = some (.int .i64 0) := hr 3 _ rfl
  have z4 : w1.cell? ⟨g, l.length * 5 + 4, none⟩ = some (.string ⟨#[]⟩) := hr 4 _ rfl
  obtain ⟨MW, hmw⟩ : ∃ MW, markW = MW := ⟨_, rfl⟩
  rw [hmw] at z0 hMK
  clear hmw HS HMK HP hr
  go_wp2_with (go_at_call 35; refine Calls.mono hMK.out ?_; rintro r w2 ⟨rfl, b2⟩)
  go_ret
  exact ⟨rfl, b1.trans (b2.mono b1.size)⟩
end Go.Proofs.YtklflppgaciifaaGreatDoor
end
