import Derived.Test.YteabclfhmapabaaDoorPlStR
namespace Go.Proofs.YteabclfhmapabaaDoor
open Go.RowKit Go.Maps Go.ChangeMaps
set_option linter.unusedVariables false
set_option linter.unusedSimpArgs false
attribute [local go_sem ↓] Go.wp_at_zero Go.wp_at_succ
attribute [-go_sem] loadVar

/-- the step of a literal at this turn -/
def stM (d : Nat) (ss : List ByteArray) (x : Lit4) (k : Nat) : St :=
  if x.k = 1 then ⟨kindA (colM ss x.ts x.ts.length) x.ts.length, (k : Int), ((colM ss x.ts x.ts.length : Nat) : Int), lackL ss (vsT [] x.ts)⟩
  else if x.k = 2 then ⟨if (lackL ss (vsT [] x.ts)).length = 0 then 4 else 0, (k : Int), ((colM ss x.ts x.ts.length : Nat) : Int), []⟩
  else ⟨(cmpM x (lackL ss (vsT [] (termsD d x.l))) (lackL ss (vsT [] (termsD d x.r)))).1, (k : Int), ((colM ss x.ts x.ts.length : Nat) : Int), (cmpM x (lackL ss (vsT [] (termsD d x.l))) (lackL ss (vsT [] (termsD d x.r)))).2⟩
theorem load_LitP {u : World} {g o : Nat} {cs : List Value} (h : u.rangeAt g o cs) (hl : cs.length = 16) : (loadVar 56 ⟨g, o, none⟩).run Tryd.prog u = .ok (.agg cs.toArray) u :=
  run_loadVar_mid u g o 56 cs _ h Tryd.underlying56 rfl (by rw [hl]; kernel_rfl)
theorem load_AtP {u : World} {g o : Nat} {cs : List Value} (h : u.rangeAt g o cs) (hl : cs.length = 2) : (loadVar 44 ⟨g, o, none⟩).run Tryd.prog u = .ok (.agg cs.toArray) u :=
  run_loadVar_mid u g o 44 cs _ h Tryd.underlying44 rfl (by rw [hl]; kernel_rfl)
theorem load_knP {u : World} {a : Addr} {v : Value} (h : u.cell? a = some v) : (loadVar 74 a).run Tryd.prog u = .ok v u := by rw [loadVar.eq_1]; go_simp
theorem load_tmP {u : World} {a : Addr} {v : Value} (h : u.cell? a = some v) : (loadVar 42 a).run Tryd.prog u = .ok v u := by rw [loadVar.eq_1]; go_simp
theorem load_kdP {u : World} {a : Addr} {v : Value} (h : u.cell? a = some v) : (loadVar 36 a).run Tryd.prog u = .ok v u := by rw [loadVar.eq_1]; go_simp
theorem load_mkP {u : World} {a : Addr} {v : Value} (h : u.cell? a = some v) : (loadVar 38 a).run Tryd.prog u = .ok v u := by rw [loadVar.eq_1]; go_simp
theorem load_StP {u : World} {b : Nat} {t : TypeId} {k i m : Int} {gv : Value} (h : RL u b t [.int .i8 k, .int .i64 i, .int .u32 m, gv]) : (loadVar 40 ⟨b, 0, none⟩).run Tryd.prog u = .ok (.agg #[.int .i8 k, .int .i64 i, .int .u32 m, gv]) u :=
  run_loadVar_mid u b 0 40 [.int .i8 k, .int .i64 i, .int .u32 m, gv] _ (RL.range h) Tryd.underlying40 rfl (by kernel_rfl)
theorem rl_resPQ {fn : Func} {sl s2 : Nat} {ty : TypeId} (hr : fn.results = #[.cell sl ty, .tmp s2]) {W : World} {tmps : Array Value} {b : Nat} {v u : Value} (h2 : tmps.getD sl undef = .pointer (some ⟨b, 0, none⟩)) (h3 : tmps.getD s2 undef = u) (hl : (loadVar ty ⟨b, 0, none⟩).run Tryd.prog W = .ok v W) :
    (results fn tmps).run Tryd.prog W = .ok (.tuple #[v, u]) W := by
  have h2' : tmps[sl]?.getD undef = .pointer (some ⟨b, 0, none⟩) := by simpa using h2
  have h3' : tmps[s2]?.getD undef = u := by simpa using h3
  unfold results
  rw [hr]
  simp [h2', h3', asAddr, hl, Result.andThen]
theorem terms_sz {w : World} {v : Value} {ts : List T} (h : Lt w v ts) : ∀ i, i < (vsT [] ts).length → (atS (vsT [] ts) i).size ≤ maxLen := by
  intro i hi
  have hm : atS (vsT [] ts) i ∈ vsT [] ts := by
    unfold atS
    rw [List.getD, List.getElem?_eq_getElem hi]
    exact List.getElem_mem hi
  rcases vsT_mem _ _ _ hm with h1 | ⟨t, ht, e⟩
  · simp at h1
  · rw [← e]
    exact (h.wf t ht).text
theorem lacksA {w : World} {b : Nat} {ss : List ByteArray} (h : SetIs w b ss) {pr : ByteArray} {v : Value} {ts : List T} (hl : Lt w v ts) (hn : ts.length ≤ 24) {u : World} (hu : Below w.heap.size w u) :
    Calls Tryd.prog 36 #[.agg #[.string pr, v]] u fun r w' => ∃ v1, r = .returned v1 ∧ Below u.heap.size u w' ∧ Calls Tryd.prog 35 #[.map (some b), v1] w' fun r w'' => ∃ a2 c2, r = .returned (.slice a2 (lackL ss (vsT [] ts)).length c2) ∧ w''.ownsRow w'.heap.size 9 1 (.slice a2 (lackL ss (vsT [] ts)).length c2) (lackL ss (vsT [] ts)).length ((lackL ss (vsT [] ts)).flatMap strB) ∧ Below w'.heap.size w' w'' := by
  refine (vatomVars_any pr v ts u (by omega) (hl.below hu)).mono ?_
  rintro r w' ⟨sv, rfl, hown, hb⟩
  have hb' : Below w.heap.size w w' := hu.trans (hb.mono hu.size)
  refine ⟨sv, rfl, hb, ?_⟩
  have hvn : (vsT [] ts).length ≤ 1048576 := by
    have := vsT_len ts []
    simp only [List.length_nil] at this
    omega
  refine (kn_lacks (h.of_block (hb'.block b h.lt)) (ls_own hown) (terms_sz hl) hvn).mono ?_
  rintro r w'' ⟨a2, c2, rfl, hown2, hb2⟩
  exact ⟨a2, c2, rfl, hown2, hb2⟩
theorem st4_other {u : World} {b g : Nat} {t : TypeId} {l : List Value} (h : RL u b t l) (hne : b ≠ g) (k i m : Int) (v : Value) : RL (st4 u g k i m v) b t l := by
  refine World.rowIs.of_block h ?_
  unfold st4
  rw [Below.heap_setCell _ _ _ _ hne, Below.heap_setCell _ _ _ _ hne, Below.heap_setCell _ _ _ _ hne, Below.heap_setCell _ _ _ _ hne]
theorem own_st4 {w : World} {B : Nat} {v : Value} {n : Nat} {xs : List Value} (h : w.ownsRow (B + 1) 9 1 v n xs) (b : Nat) (hb : b ≤ B) (k i m : Int) (u : Value) : (st4 w b k i m u).ownsRow (B + 1) 9 1 v n xs :=
  ownsRow_setCell_below (ownsRow_setCell_below (ownsRow_setCell_below (ownsRow_setCell_below h (a := ⟨b, 0, none⟩) (Nat.lt_succ_of_le hb) _) (a := ⟨b, 1, none⟩) (Nat.lt_succ_of_le hb) _) (a := ⟨b, 2, none⟩) (Nat.lt_succ_of_le hb) _) (a := ⟨b, 3, none⟩) (Nat.lt_succ_of_le hb) _
set_option maxHeartbeats 6400000 in
set_option maxRecDepth 100000 in
theorem step_x {w : World} {tb kb d g off k n c : Nat} {x : Lit4} {q : LP} {ss : List ByteArray} {left : Nat} (hT : TuIs w tb kb (.slice (some ⟨g, off, none⟩) n c) ss left) (hg : g < w.heap.size) (hr : w.rangeAt g (off + k * 16) [.int .i8 x.k, .string x.pr, .slice q.a x.ts.length q.c, .int .i8 x.rel, .int .i8 x.l.op, .string x.l.t.v, .int .i8 x.l.t.a.k, .int .i64 x.l.t.a.n, .string x.l.t.a.s, .slice q.la x.l.kids.length q.lc, .int .i8 x.r.op, .string x.r.t.v, .int .i8 x.r.t.a.k, .int .i64 x.r.t.a.n, .string x.r.t.a.s, .slice q.ra x.r.kids.length q.rc]) (hX : LIs w d x q) (hk : k < n) (hn : n ≤ 16) (hc : x.ts.length ≤ 24) (hs1 : szD d x.l ≤ 1048576) (hs2 : szD d x.r ≤ 1048576) :
    Calls Tryd.prog 18 #[.pointer (some ⟨tb, 0, none⟩), .int .i64 (k : Int)] w fun e w' => Below w.heap.size w w' ∧ ∃ a c, e = .returned (.tuple #[(stM d ss x k).val a c, .bool ((stM d ss x k).k != 0)]) ∧ w'.ownsRow w.heap.size 9 1 (.slice a (stM d ss x k).g.length c) (stM d ss x k).g.length ((stM d ss x k).g.flatMap strB) := by
  have hA0 := belowA (w := w) (.cells #[.int .i8 0, .int .i64 0, .int .u32 0, .slice none 0 0] 40)
  have hA1 : Below w.heap.size w ((w.alloc (.cells #[.int .i8 0, .int .i64 0, .int .u32 0, .slice none 0 0] 40)).alloc (.cells #[.int .i8 x.k, .string x.pr, .slice q.a x.ts.length q.c, .int .i8 x.rel, .int .i8 x.l.op, .string x.l.t.v, .int .i8 x.l.t.a.k, .int .i64 x.l.t.a.n, .string x.l.t.a.s, .slice q.la x.l.kids.length q.lc, .int .i8 x.r.op, .string x.r.t.v, .int .i8 x.r.t.a.k, .int .i64 x.r.t.a.n, .string x.r.t.a.s, .slice q.ra x.r.kids.length q.rc] 56)) := hA0.trans ((belowA _).mono hA0.size)
  have HT := Lib.hid hT
  have HX := Lib.hid hX
  have l0 := load_litsB ((hA0.cell (p := ⟨tb, 0, none⟩) hT.rl.lt).trans (RL.at hT.rl (j := 0) rfl))
  have lx := load_LitP (range_below hr hA0 hg) rfl
  have hk0 : (0 : Int) ≤ (k : Int) := by omega
  have hlt : (k : Int) < (n : Int) := by omega
  have HR0 := Lib.hid (rl_new w #[.int .i8 0, .int .i64 0, .int .u32 0, .slice none 0 0] 40)
  have HR1 := Lib.hid (rl_new (w.alloc (.cells #[.int .i8 0, .int .i64 0, .int .u32 0, .slice none 0 0] 40)) #[.int .i8 x.k, .string x.pr, .slice q.a x.ts.length q.c, .int .i8 x.rel, .int .i8 x.l.op, .string x.l.t.v, .int .i8 x.l.t.a.k, .int .i64 x.l.t.a.n, .string x.l.t.a.s, .slice q.la x.l.kids.length q.lc, .int .i8 x.r.op, .string x.r.t.v, .int .i8 x.r.t.a.k, .int .i64 x.r.t.a.n, .string x.r.t.a.s, .slice q.ra x.r.kids.length q.rc] 56)
  have HB1 := Lib.hid hA1
  have HKD := Lib.hid hX.kb
  have HSH := Lib.hid hc
  have HS1 := Lib.hid hs1
  have HS2 := Lib.hid hs2
  clear hT hX hr hA0 hA1 hc hs1 hs2
  go_enter Tryd.func18, Tryd.ntmps18
  go_upto_region 2 with fail
  obtain ⟨W, hW⟩ : ∃ W, W = ((w.alloc (.cells #[.int .i8 0, .int .i64 0, .int .u32 0, .slice none 0 0] 40)).alloc (.cells #[.int .i8 x.k, .string x.pr, .slice q.a x.ts.length q.c, .int .i8 x.rel, .int .i8 x.l.op, .string x.l.t.v, .int .i8 x.l.t.a.k, .int .i64 x.l.t.a.n, .string x.l.t.a.s, .slice q.la x.l.kids.length q.lc, .int .i8 x.r.op, .string x.r.t.v, .int .i8 x.r.t.a.k, .int .i64 x.r.t.a.n, .string x.r.t.a.s, .slice q.ra x.r.kids.length q.rc] 56)) := ⟨_, rfl⟩
  have hzW : W.heap.size = w.heap.size + 2 := by rw [hW]; simp
  rw [World.size_alloc] at HR1
  have HRZ : Hid (RL W w.heap.size 40 [.int .i8 0, .int .i64 0, .int .u32 0, .slice none 0 0]) := by
    show RL _ _ _ _
    rw [hW]
    exact RL.below HR0.out (belowA _)
  rw [← hW] at HR1 HB1
  rw [← hW]
  clear hW HR0 l0 lx
  have HLK : Hid (∀ u, Below W.heap.size W u → (loadVar 74 ⟨tb, 1, none⟩).run Tryd.prog u = .ok (.map (some kb)) u) := fun u hu => load_knP (((HB1.out.trans (hu.mono HB1.out.size)).cell (p := ⟨tb, 1, none⟩) HT.out.rl.lt).trans (RL.at HT.out.rl (j := 1) rfl))
  have HLA : Hid (∀ u, Below W.heap.size W u → (loadVar 42 ⟨w.heap.size + 1, 2, none⟩).run Tryd.prog u = .ok (.slice q.a x.ts.length q.c) u) := fun u hu => load_tmP (RL.at (RL.below HR1.out hu) (j := 2) rfl)
  have HLT : Hid (∀ u, Below W.heap.size W u → (loadVar 44 ⟨w.heap.size + 1, 1, none⟩).run Tryd.prog u = .ok (.agg #[.string x.pr, .slice q.a x.ts.length q.c]) u) := fun u hu => load_AtP (cs := [.string x.pr, .slice q.a x.ts.length q.c]) (fun j v hv => by
      have hj : j < 2 := (List.getElem?_eq_some_iff.1 hv).1
      have hj6 : j = 0 ∨ j = 1 := by omega
      have hr := RL.below HR1.out hu
      rcases hj6 with rfl | rfl <;> exact RL.at hr hv) rfl
  have HLL : Hid (∀ u, Below W.heap.size W u → (loadVar 56 ⟨w.heap.size + 1, 0, none⟩).run Tryd.prog u = .ok (.agg #[.int .i8 x.k, .string x.pr, .slice q.a x.ts.length q.c, .int .i8 x.rel, .int .i8 x.l.op, .string x.l.t.v, .int .i8 x.l.t.a.k, .int .i64 x.l.t.a.n, .string x.l.t.a.s, .slice q.la x.l.kids.length q.lc, .int .i8 x.r.op, .string x.r.t.v, .int .i8 x.r.t.a.k, .int .i64 x.r.t.a.n, .string x.r.t.a.s, .slice q.ra x.r.kids.length q.rc]) u) := fun u hu => load_LitP (RL.range (RL.below HR1.out hu)) rfl
  have HKS : Hid (∀ u, Below W.heap.size W u → SetIs u kb ss) := fun u hu => HT.out.set.of_block ((HB1.out.trans (hu.mono HB1.out.size)).block kb HT.out.set.lt)
  have HXS : Hid (∀ u, Below W.heap.size W u → LIs u d x q) := fun u hu => HX.out.below (HB1.out.trans (hu.mono HB1.out.size))
  refine wp_region_noPanic ?_
  refine wp_region_held (S := fun u => Below W.heap.size W u) (by kernel_rfl) ?_
  refine pst2 (w5 := W) (tb := tb) (b6 := w.heap.size + 1) (kb := kb) (k := (k : Int)) (m := ((colM ss x.ts x.ts.length : Nat) : Int)) (av := .slice q.a x.ts.length q.c) rfl rfl rfl rfl rfl rfl rfl rfl rfl rfl rfl rfl (by kernel_rfl) (by kernel_rfl) (by kernel_rfl) (by kernel_rfl) (by kernel_rfl) (by kernel_rfl) (by kernel_rfl) (by kernel_rfl) (by kernel_rfl) (by intros; assumption) (by simp) rfl rfl rfl HLK.out HLA.out (fun u hu => (kn_columns (HKS.out u hu) (HXS.out u hu).ts HSH.out)) ?_
  intro af w9 b9 hAg h20 hRL hb9 hBf
  refine NoPanic.normal ?_
  rename_i hK
  refine hK _ _ ?_
  have hf := hAg.form
  unfold js_pst2 at hf
  simp only [List.foldl_cons, List.foldl_nil] at hf
  have h20' : af.tmps.getD 7 undef = .pointer (some ⟨b9, 0, none⟩) := by simpa [Act.eval] using h20
  rw [h20'] at hf
  generalize af.tmps.getD 15 undef = g15 at hf
  generalize af.tmps.getD 16 undef = g16 at hf
  generalize af.tmps.getD 17 undef = g17 at hf
  generalize af.tmps.getD 18 undef = g18 at hf
  generalize af.tmps.getD 19 undef = g19 at hf
  generalize af.tmps.getD 20 undef = g20 at hf
  generalize af.tmps.getD 21 undef = g21 at hf
  generalize af.tmps.getD 22 undef = g22 at hf
  generalize af.tmps.getD 23 undef = g23 at hf
  generalize af.tmps.getD 24 undef = g24 at hf
  clear h20 h20' hAg hK
  subst hf
  simp (config := { maxSteps := 8000000 }) only [List.setIfInBounds_toArray, List.set_cons_succ, List.set_cons_zero]
  have B9 := Lib.hid hBf
  have HR9 := Lib.hid hRL
  have HU9 : Hid (∀ u, Below w9.heap.size w9 u → Below W.heap.size W u) := fun u hu => B9.out.trans (hu.mono B9.out.size)
  have HN9 := Lib.hid hb9
  clear hBf hRL hb9
  have lk := load_kindK (RL.at (RL.below HR1.out B9.out) (j := 0) rfl)
  obtain ⟨cm, hcm⟩ : ∃ cm, cm = colM ss x.ts x.ts.length := ⟨_, rfl⟩
  rw [← hcm] at HR9
  have HCM := Lib.hid hcm
  clear hcm
  by_cases h1 : x.k = 1
  · have dk : (x.k == 1) = true := by rw [h1]; rfl
    have la := HLA.out _ B9.out
    have lm := load_mkP (RL.at HR9.out (j := 2) rfl)
    have c0 := RL.at HR9.out (j := 0) rfl
    have f0 := World.rowIs.frozen HR9.out 0
    have HKA := Lib.hid (kindOfAtom_any cm x.ts.length HSH.out w9)
    have HSM : Hid (stM d ss x k = ⟨kindA cm x.ts.length, (k : Int), (cm : Int), lackL ss (vsT [] x.ts)⟩) := by
      show _ = _
      unfold stM
      rw [if_pos h1, ← HCM.out]
    clear h1
    go_wp2_with fail
    refine HKA.out.mono ?_
    rintro e w10 ⟨rfl, rfl⟩
    clear HKA
    obtain ⟨kk, hkk⟩ : ∃ kk, kk = kindA cm x.ts.length := ⟨_, rfl⟩
    rw [← hkk] at HSM ⊢
    clear hkk
    go_upto_region 7 with fail
    have HBU : Hid (Below W.heap.size W (w10.setCell ⟨b9, 0, none⟩ (.int .i8 kk))) := B9.out.setCell (p := ⟨b9, 0, none⟩) HN9.out _
    have HRU : Hid (RL (w10.setCell ⟨b9, 0, none⟩ (.int .i8 kk)) b9 40 [.int .i8 kk, .int .i64 (k : Int), .int .u32 (cm : Int), .slice none 0 0]) := HR9.out.set 0 _
    generalize w10.setCell ⟨b9, 0, none⟩ (.int .i8 kk) = U at HBU HRU ⊢
    clear la lm c0 f0 lk HR9 B9 HU9
    have HC7 := Lib.hid (lacksA (pr := x.pr) (HKS.out _ (Below.refl _ _)) (HXS.out _ (Below.refl _ _)).ts HSH.out HBU.out.drew)
    obtain ⟨G, hG⟩ : ∃ G, G = lackL ss (vsT [] x.ts) := ⟨_, rfl⟩
    rw [← hG] at HC7 HSM
    clear hG
    refine wp_region_noPanic ?_
    refine wp_region_held (S := fun u => Below W.heap.size W u) (by kernel_rfl) ?_
    refine pst7 (w5 := U) (S := fun u => Below W.heap.size W u) (tb := tb) (kb := kb) (b6 := w.heap.size + 1) (b7 := b9) (nn := G.length) (av := .agg #[.string x.pr, .slice q.a x.ts.length q.c]) (Pf := fun aa cc u => u.ownsRow (w.heap.size + 1) 9 1 (.slice aa G.length cc) G.length (G.flatMap strB) ∧ RL u b9 40 [.int .i8 kk, .int .i64 (k : Int), .int .u32 (cm : Int), .slice aa G.length cc] ∧ Below W.heap.size W u) rfl rfl rfl rfl rfl rfl rfl rfl rfl rfl (by kernel_rfl) (by kernel_rfl) (by kernel_rfl) (by kernel_rfl) (by kernel_rfl) (by kernel_rfl) (by intros; assumption) (by simp) rfl rfl rfl HBU.out.drew (fun _ _ _ h => h) HLK.out HLT.out ?_ ?_
    · refine HC7.out.mono ?_
      rintro e u1 ⟨v1, rfl, b1, hc⟩
      have B1 : Below W.heap.size W u1 := HBU.out.drew.trans (b1.mono (Nat.le_trans HBU.out.size (Nat.le_refl _)))
      refine ⟨v1, rfl, B1, hc.mono ?_⟩
      rintro e u2 ⟨aa, cc, rfl, hown, b2⟩
      have B2 : Below W.heap.size W u2 := B1.trans (b2.mono B1.size)
      have hlt9 : b9 < U.heap.size := HRU.out.lt
      have hR2 : RL u2 b9 40 [.int .i8 kk, .int .i64 (k : Int), .int .u32 (cm : Int), .slice none 0 0] := RL.below (RL.below (RL.below HRU.out (Below.refl _ _).drew) b1) b2
      have hb9 : b9 < u1.heap.size := Nat.lt_of_lt_of_le hlt9 b1.size
      exact ⟨aa, cc, rfl, B2, ⟨_, _, _, _, hR2⟩, B2.setCell (p := ⟨b9, 3, none⟩) HN9.out _, own_base (ownsRow_setCell_below hown (a := ⟨b9, 3, none⟩) hb9 _) (by have := B1.size; omega), hR2.set 3 _, B2.setCell (p := ⟨b9, 3, none⟩) HN9.out _⟩
    rintro wc v1 aa cc ⟨hown, hRB, bc⟩
    refine NoPanic.normal ?_
    rename_i hK
    refine hK _ _ ?_
    simp (config := { maxSteps := 8000000 }) only [Act.put, List.getElem_toArray, List.getElem_cons_zero, List.getElem_cons_succ, List.setIfInBounds_toArray, List.set_cons_succ, List.set_cons_zero]
    have HOW := Lib.hid hown
    have HRB := Lib.hid hRB
    have BC := Lib.hid bc
    clear hK hown hRB bc HC7 HRU HBU
    go_upto_region 11 with fail
    obtain ⟨U, hU⟩ : ∃ U, U = wc := ⟨_, rfl⟩
    rw [← hU] at HOW HRB BC ⊢
    clear hU
    have hDU : Below U.heap.size U U.drew := (Below.refl _ _).drew
    have ld1 := load_StP (RL.below HRB.out hDU)
    have ld2 := load_kdP (RL.at (RL.below HRB.out hDU) (j := 0) rfl)
    have hZ0 := RL.below HRZ.out BC.out
    have z0 := RL.at hZ0 (j := 0) rfl
    have z1 := RL.at hZ0 (j := 1) rfl
    have z2 := RL.at hZ0 (j := 2) rfl
    have z3 := RL.at hZ0 (j := 3) rfl
    have y0 := World.rowIs.frozen hZ0 0
    have y1 := World.rowIs.frozen hZ0 1
    have y2 := World.rowIs.frozen hZ0 2
    have y3 := World.rowIs.frozen hZ0 3
    have HZ9 := Lib.hid (RL.below (st4_rl hZ0 (kk) (k : Int) (cm : Int) (.slice aa (List.length (G : List ByteArray)) cc)) (Below.refl _ _).drew)
    have HOF := Lib.hid (own_below (own_st4 HOW.out w.heap.size (Nat.le_refl _) (kk) (k : Int) (cm : Int) (.slice aa (List.length (G : List ByteArray)) cc)) (Below.refl _ _).drew)
    have HBF := Lib.hid (st4_below (HB1.out.trans (BC.out.mono HB1.out.size)) (Nat.le_refl _) (kk) (k : Int) (cm : Int) (.slice aa (List.length (G : List ByteArray)) cc)).drew
    have ld3 := load_kdP (RL.at (RL.below (st4_other HRB.out (g := w.heap.size) (by have := HN9.out; omega) (kk) (k : Int) (cm : Int) (.slice aa (List.length (G : List ByteArray)) cc)) (Below.refl _ _).drew) (j := 0) rfl)
    unfold st4 at HZ9 HOF HBF ld3
    clear hZ0 hDU
    go_region
    clear ld1 ld2 ld3 z0 z1 z2 z3 y0 y1 y2 y3
    go_wp2
    refine bodyPost_ret (rl_resPQ Tryd.results18 (v := .agg #[.int .i8 (kk), .int .i64 (k : Int), .int .u32 (cm : Int), .slice aa (List.length (G : List ByteArray)) cc]) (u := .bool ((kk : Int) != 0)) rfl rfl (load_StP HZ9.out)) rfl ?_
    rw [HSM.out]
    exact ⟨HBF.out, aa, cc, rfl, own_base HOF.out (by omega)⟩
  · have dk : (x.k == 1) = false := by rw [beq_eq_false_iff_ne]; exact h1
    have H1 := Lib.hid h1
    clear h1
    by_cases h2 : x.k = 2
    · have dk2 : (x.k == 2) = true := by rw [h2]; rfl
      have HSM : Hid (stM d ss x k = ⟨if (lackL ss (vsT [] x.ts)).length = 0 then 4 else 0, (k : Int), (cm : Int), []⟩) := by
        show _ = _
        unfold stM
        rw [if_neg H1.out, if_pos h2, ← HCM.out]
      clear h2
      go_upto_region 9 with fail
      have HC7 := Lib.hid (lacksA (pr := x.pr) (HKS.out _ (Below.refl _ _)) (HXS.out _ (Below.refl _ _)).ts HSH.out B9.out.drew)
      obtain ⟨G, hG⟩ : ∃ G, G = lackL ss (vsT [] x.ts) := ⟨_, rfl⟩
      rw [← hG] at HC7 HSM
      clear hG
      refine wp_region_noPanic ?_
      refine wp_region_held (S := fun u => Below w9.heap.size w9 u) (by kernel_rfl) ?_
      refine pst9 (w5 := w9) (S := fun u => Below w9.heap.size w9 u) (tb := tb) (kb := kb) (b6 := w.heap.size + 1) (nn := G.length) (av := .agg #[.string x.pr, .slice q.a x.ts.length q.c]) rfl rfl rfl rfl rfl rfl rfl rfl rfl rfl (by kernel_rfl) (by kernel_rfl) (by kernel_rfl) (by kernel_rfl) (by kernel_rfl) (by intros; assumption) (by simp) rfl rfl (Below.refl _ _).drew (fun _ _ _ h => h) (fun u => by go_simp) (fun u hu => HLK.out u (HU9.out u hu)) (fun u hu => HLT.out u (HU9.out u hu)) ?_ ?_
      · refine HC7.out.mono ?_
        rintro e u1 ⟨v1, rfl, b1, hc⟩
        have B1 : Below w9.heap.size w9 u1 := (Below.refl _ _).drew.trans b1
        refine ⟨v1, rfl, B1, hc.mono ?_⟩
        rintro e u2 ⟨aa, cc, rfl, hown, b2⟩
        exact ⟨aa, cc, rfl, B1.trans (b2.mono B1.size)⟩
      rintro wc v1 aa cc bc
      refine NoPanic.normal ?_
      rename_i hK
      refine hK _ _ ?_
      simp (config := { maxSteps := 8000000 }) only [Act.put, List.getElem_toArray, List.getElem_cons_zero, List.getElem_cons_succ, List.setIfInBounds_toArray, List.set_cons_succ, List.set_cons_zero]
      have HRC := Lib.hid (RL.below HR9.out bc)
      have BC := Lib.hid (B9.out.trans (bc.mono B9.out.size))
      clear hK bc HC7 HR9 B9 HU9 lk
      by_cases hg0 : G.length = 0
      · have dg : ((G.length : Int) == 0) = true := by rw [beq_iff_eq]; omega
        rw [if_pos hg0] at HSM
        have c0 := RL.at HRC.out (j := 0) rfl
        have f0 := World.rowIs.frozen HRC.out 0
        clear hg0
        go_upto_region 11 with fail
        have HBU : Hid (Below W.heap.size W (wc.setCell ⟨b9, 0, none⟩ (.int .i8 4))) := BC.out.setCell (p := ⟨b9, 0, none⟩) HN9.out _
        have HRB : Hid (RL (wc.setCell ⟨b9, 0, none⟩ (.int .i8 4)) b9 40 [.int .i8 4, .int .i64 (k : Int), .int .u32 (cm : Int), .slice none 0 0]) := HRC.out.set 0 _
        generalize wc.setCell ⟨b9, 0, none⟩ (.int .i8 4) = U at HBU HRB ⊢
        clear c0 f0 BC HRC
        have BC := HBU
        have HOW : Hid (U.ownsRow (w.heap.size + 1) 9 1 (.slice none (List.length ([] : List ByteArray)) 0) (List.length ([] : List ByteArray)) (([] : List ByteArray).flatMap strB)) := World.ownsRow_nil _ _ _ _
        have hDU : Below U.heap.size U U.drew := (Below.refl _ _).drew
        have ld1 := load_StP (RL.below HRB.out hDU)
        have ld2 := load_kdP (RL.at (RL.below HRB.out hDU) (j := 0) rfl)
        have hZ0 := RL.below HRZ.out BC.out
        have z0 := RL.at hZ0 (j := 0) rfl
        have z1 := RL.at hZ0 (j := 1) rfl
        have z2 := RL.at hZ0 (j := 2) rfl
        have z3 := RL.at hZ0 (j := 3) rfl
        have y0 := World.rowIs.frozen hZ0 0
        have y1 := World.rowIs.frozen hZ0 1
        have y2 := World.rowIs.frozen hZ0 2
        have y3 := World.rowIs.frozen hZ0 3
        have HZ9 := Lib.hid (RL.below (st4_rl hZ0 (4) (k : Int) (cm : Int) (.slice none 0 0)) (Below.refl _ _).drew)
        have HOF := Lib.hid (own_below (own_st4 HOW.out w.heap.size (Nat.le_refl _) (4) (k : Int) (cm : Int) (.slice none 0 0)) (Below.refl _ _).drew)
        have HBF := Lib.hid (st4_below (HB1.out.trans (BC.out.mono HB1.out.size)) (Nat.le_refl _) (4) (k : Int) (cm : Int) (.slice none 0 0)).drew
        have ld3 := load_kdP (RL.at (RL.below (st4_other HRB.out (g := w.heap.size) (by have := HN9.out; omega) (4) (k : Int) (cm : Int) (.slice none 0 0)) (Below.refl _ _).drew) (j := 0) rfl)
        unfold st4 at HZ9 HOF HBF ld3
        clear hZ0 hDU
        go_region
        clear ld1 ld2 ld3 z0 z1 z2 z3 y0 y1 y2 y3
        go_wp2
        refine bodyPost_ret (rl_resPQ Tryd.results18 (v := .agg #[.int .i8 (4), .int .i64 (k : Int), .int .u32 (cm : Int), .slice none 0 0]) (u := .bool ((4 : Int) != 0)) rfl rfl (load_StP HZ9.out)) rfl ?_
        rw [HSM.out]
        exact ⟨HBF.out, none, 0, rfl, own_base HOF.out (by omega)⟩
      · have dg : ((G.length : Int) == 0) = false := by rw [beq_eq_false_iff_ne]; omega
        rw [if_neg hg0] at HSM
        clear hg0
        go_upto_region 11 with fail
        have HRB := HRC
        obtain ⟨U, hU⟩ : ∃ U, U = wc := ⟨_, rfl⟩
        rw [← hU] at BC HRB ⊢
        clear hU HRC
        have HOW : Hid (U.ownsRow (w.heap.size + 1) 9 1 (.slice none (List.length ([] : List ByteArray)) 0) (List.length ([] : List ByteArray)) (([] : List ByteArray).flatMap strB)) := World.ownsRow_nil _ _ _ _
        have hDU : Below U.heap.size U U.drew := (Below.refl _ _).drew
        have ld1 := load_StP (RL.below HRB.out hDU)
        have ld2 := load_kdP (RL.at (RL.below HRB.out hDU) (j := 0) rfl)
        have hZ0 := RL.below HRZ.out BC.out
        have z0 := RL.at hZ0 (j := 0) rfl
        have z1 := RL.at hZ0 (j := 1) rfl
        have z2 := RL.at hZ0 (j := 2) rfl
        have z3 := RL.at hZ0 (j := 3) rfl
        have y0 := World.rowIs.frozen hZ0 0
        have y1 := World.rowIs.frozen hZ0 1
        have y2 := World.rowIs.frozen hZ0 2
        have y3 := World.rowIs.frozen hZ0 3
        have HZ9 := Lib.hid (RL.below (st4_rl hZ0 (0) (k : Int) (cm : Int) (.slice none 0 0)) (Below.refl _ _).drew)
        have HOF := Lib.hid (own_below (own_st4 HOW.out w.heap.size (Nat.le_refl _) (0) (k : Int) (cm : Int) (.slice none 0 0)) (Below.refl _ _).drew)
        have HBF := Lib.hid (st4_below (HB1.out.trans (BC.out.mono HB1.out.size)) (Nat.le_refl _) (0) (k : Int) (cm : Int) (.slice none 0 0)).drew
        have ld3 := load_kdP (RL.at (RL.below (st4_other HRB.out (g := w.heap.size) (by have := HN9.out; omega) (0) (k : Int) (cm : Int) (.slice none 0 0)) (Below.refl _ _).drew) (j := 0) rfl)
        unfold st4 at HZ9 HOF HBF ld3
        clear hZ0 hDU
        go_region
        clear ld1 ld2 ld3 z0 z1 z2 z3 y0 y1 y2 y3
        go_wp2
        refine bodyPost_ret (rl_resPQ Tryd.results18 (v := .agg #[.int .i8 (0), .int .i64 (k : Int), .int .u32 (cm : Int), .slice none 0 0]) (u := .bool ((0 : Int) != 0)) rfl rfl (load_StP HZ9.out)) rfl ?_
        rw [HSM.out]
        exact ⟨HBF.out, none, 0, rfl, own_base HOF.out (by omega)⟩
    · have dk2 : (x.k == 2) = false := by rw [beq_eq_false_iff_ne]; exact h2
      have HSM : Hid (stM d ss x k = ⟨(cmpM x (lackL ss (vsT [] (termsD d x.l))) (lackL ss (vsT [] (termsD d x.r)))).1, (k : Int), (cm : Int), (cmpM x (lackL ss (vsT [] (termsD d x.l))) (lackL ss (vsT [] (termsD d x.r)))).2⟩) := by
        show _ = _
        unfold stM
        rw [if_neg H1.out, if_neg h2, ← HCM.out]
      clear h2
      have HCO := Lib.hid (compare_any d x q w9.drew (HKS.out _ B9.out.drew) (HXS.out _ B9.out.drew) HS1.out HS2.out)
      unfold Lit4.val at HCO
      generalize cmpM x (lackL ss (vsT [] (termsD d x.l))) (lackL ss (vsT [] (termsD d x.r))) = cg at HCO HSM
      obtain ⟨kk, G⟩ := cg
      simp only at HCO HSM
      go_upto_region 4 with fail
      refine wp_region_noPanic ?_
      refine wp_region_held (S := fun u => Below W.heap.size W u) (by kernel_rfl) ?_
      refine pst4 (w5 := w9) (S := fun u => Below W.heap.size W u) (tb := tb) (kb := kb) (b6 := w.heap.size + 1) (b7 := b9) (nn := G.length) (kk := kk) (av := .agg #[.int .i8 x.k, .string x.pr, .slice q.a x.ts.length q.c, .int .i8 x.rel, .int .i8 x.l.op, .string x.l.t.v, .int .i8 x.l.t.a.k, .int .i64 x.l.t.a.n, .string x.l.t.a.s, .slice q.la x.l.kids.length q.lc, .int .i8 x.r.op, .string x.r.t.v, .int .i8 x.r.t.a.k, .int .i64 x.r.t.a.n, .string x.r.t.a.s, .slice q.ra x.r.kids.length q.rc]) (Pf := fun aa cc u => u.ownsRow (w.heap.size + 1) 9 1 (.slice aa G.length cc) G.length (G.flatMap strB) ∧ RL u b9 40 [.int .i8 kk, .int .i64 (k : Int), .int .u32 (cm : Int), .slice aa G.length cc] ∧ Below W.heap.size W u) rfl rfl rfl rfl rfl rfl rfl rfl rfl rfl rfl rfl rfl (by kernel_rfl) (by kernel_rfl) (by kernel_rfl) (by kernel_rfl) (by kernel_rfl) (by kernel_rfl) (by intros; assumption) (by simp) rfl rfl rfl B9.out.drew (fun _ _ _ h => h) (fun u j v h => h.setCell (p := ⟨b9, j, none⟩) HN9.out v) HLK.out HLL.out ?_ ?_
      · refine HCO.out.mono ?_
        rintro e u1 ⟨b1, aa, cc, rfl, hown⟩
        have B1 : Below W.heap.size W u1 := B9.out.drew.trans (b1.mono (Nat.le_trans B9.out.size (Nat.le_refl _)))
        have hlt9 : b9 < w9.drew.heap.size := HR9.out.lt
        have hR2 : RL u1 b9 40 [.int .i8 0, .int .i64 (k : Int), .int .u32 (cm : Int), .slice none 0 0] := RL.below (RL.below HR9.out (Below.refl _ _).drew) b1
        exact ⟨aa, cc, rfl, B1, ⟨_, _, _, _, hR2⟩, own_base (ownsRow_setCell_below (ownsRow_setCell_below hown (a := ⟨b9, 0, none⟩) hlt9 _) (a := ⟨b9, 3, none⟩) hlt9 _) (by have h1 := B9.out.size; have h2 : w9.drew.heap.size = w9.heap.size := rfl; omega), (hR2.set 0 _).set 3 _, (B1.setCell (p := ⟨b9, 0, none⟩) HN9.out _).setCell (p := ⟨b9, 3, none⟩) HN9.out _⟩
      rintro wc aa cc ⟨hown, hRB, bc⟩
      refine NoPanic.normal ?_
      rename_i hK
      refine hK _ _ ?_
      simp (config := { maxSteps := 8000000 }) only [Act.put, List.getElem_toArray, List.getElem_cons_zero, List.getElem_cons_succ, List.setIfInBounds_toArray, List.set_cons_succ, List.set_cons_zero]
      have HOW := Lib.hid hown
      have HRB := Lib.hid hRB
      have BC := Lib.hid bc
      clear hK hown hRB bc HCO HR9 B9 HU9 lk
      go_upto_region 11 with fail
      obtain ⟨U, hU⟩ : ∃ U, U = wc := ⟨_, rfl⟩
      rw [← hU] at HOW HRB BC ⊢
      clear hU
      have hDU : Below U.heap.size U U.drew := (Below.refl _ _).drew
      have ld1 := load_StP (RL.below HRB.out hDU)
      have ld2 := load_kdP (RL.at (RL.below HRB.out hDU) (j := 0) rfl)
      have hZ0 := RL.below HRZ.out BC.out
      have z0 := RL.at hZ0 (j := 0) rfl
      have z1 := RL.at hZ0 (j := 1) rfl
      have z2 := RL.at hZ0 (j := 2) rfl
      have z3 := RL.at hZ0 (j := 3) rfl
      have y0 := World.rowIs.frozen hZ0 0
      have y1 := World.rowIs.frozen hZ0 1
      have y2 := World.rowIs.frozen hZ0 2
      have y3 := World.rowIs.frozen hZ0 3
      have HZ9 := Lib.hid (RL.below (st4_rl hZ0 (kk) (k : Int) (cm : Int) (.slice aa (List.length (G : List ByteArray)) cc)) (Below.refl _ _).drew)
      have HOF := Lib.hid (own_below (own_st4 HOW.out w.heap.size (Nat.le_refl _) (kk) (k : Int) (cm : Int) (.slice aa (List.length (G : List ByteArray)) cc)) (Below.refl _ _).drew)
      have HBF := Lib.hid (st4_below (HB1.out.trans (BC.out.mono HB1.out.size)) (Nat.le_refl _) (kk) (k : Int) (cm : Int) (.slice aa (List.length (G : List ByteArray)) cc)).drew
      have ld3 := load_kdP (RL.at (RL.below (st4_other HRB.out (g := w.heap.size) (by have := HN9.out; omega) (kk) (k : Int) (cm : Int) (.slice aa (List.length (G : List ByteArray)) cc)) (Below.refl _ _).drew) (j := 0) rfl)
      unfold st4 at HZ9 HOF HBF ld3
      clear hZ0 hDU
      go_region
      clear ld1 ld2 ld3 z0 z1 z2 z3 y0 y1 y2 y3
      go_wp2
      refine bodyPost_ret (rl_resPQ Tryd.results18 (v := .agg #[.int .i8 (kk), .int .i64 (k : Int), .int .u32 (cm : Int), .slice aa (List.length (G : List ByteArray)) cc]) (u := .bool ((kk : Int) != 0)) rfl rfl (load_StP HZ9.out)) rfl ?_
      rw [HSM.out]
      exact ⟨HBF.out, aa, cc, rfl, own_base HOF.out (by omega)⟩
end Go.Proofs.YteabclfhmapabaaDoor
