import Derived.Test.YtodlkadlpjlenaaDoorEvTwin
namespace Go.Proofs.YtodlkadlpjlenaaDoor
open Go.RowKit Go.Maps
set_option linter.unusedVariables false
set_option linter.unusedSimpArgs false
attribute [local go_sem ↓] Go.wp_at_zero Go.wp_at_succ

theorem term_cell_results {fn : Func} {sl : Nat} (hr : fn.results = #[.cell sl 44]) {W : World} {tmps : Array Value} {b : Nat} {t : T} (h2 : tmps.getD sl undef = .pointer (some ⟨b, 0, none⟩)) (h : TAt W b 0 t) :
    (results fn tmps).run Tryd.prog W = .ok (.agg #[.string t.v, .int .i8 t.a.k, .int .i64 t.a.n, .string t.a.s]) W := by
  obtain ⟨c0, c1, c2, c3⟩ := h
  have hl : (loadVar 44 ⟨b, 0, none⟩).run Tryd.prog W = .ok (.agg #[.string t.v, .int .i8 t.a.k, .int .i64 t.a.n, .string t.a.s]) W := by
    refine run_loadVar_mid W b 0 44 [.string t.v, .int .i8 t.a.k, .int .i64 t.a.n, .string t.a.s] _ (fun j v hj => ?_) Tryd.underlying44 rfl (by kernel_rfl)
    match j, hj with
    | 0, hj => simp at hj; subst hj; exact c0
    | 1, hj => simp at hj; subst hj; exact c1
    | 2, hj => simp at hj; subst hj; exact c2
    | 3, hj => simp at hj; subst hj; exact c3
  have e0 : results fn tmps = (do
      let x ← asAddr (tmps.getD sl undef)
      loadVar 44 x) := by
    simp [results, hr]
  rw [e0, h2]
  simp [asAddr, hl, Result.andThen]
/-- a term's four cells in block b, that may be written -/
def OwnT (w : World) (b : Nat) : Prop := (∃ t, TAt w b 0 t) ∧ (∀ j, w.frozen? ⟨b, j, none⟩ = false) ∧ b < w.heap.size
theorem OwnT.below {w w1 : World} {b : Nat} (h : OwnT w b) (hb : Below w.heap.size w w1) : OwnT w1 b := by
  obtain ⟨⟨t, hx⟩, hf, hl⟩ := h
  exact ⟨⟨t, hx.below hb hl⟩, fun j => by rw [hb.frozen (p := ⟨b, j, none⟩) hl]; exact hf j, Nat.lt_of_lt_of_le hl hb.size⟩
theorem ownT_new (w : World) (t : T) : OwnT (w.alloc (.cells #[.string t.v, .int .i8 t.a.k, .int .i64 t.a.n, .string t.a.s] 44)) w.heap.size :=
  ⟨⟨t, ⟨by go_simp, by go_simp, by go_simp, by go_simp⟩⟩, fun j => Lib.frozen_of_heap (heap_alloc_new w _) j, by simp⟩
theorem setT_at {w : World} {b : Nat} (h : OwnT w b) (t : T) : TAt ((((w.setCell ⟨b, 0, none⟩ (.string t.v)).setCell ⟨b, 1, none⟩ (.int .i8 t.a.k)).setCell ⟨b, 2, none⟩ (.int .i64 t.a.n)).setCell ⟨b, 3, none⟩ (.string t.a.s)) b 0 t := by
  obtain ⟨⟨t', c0, c1, c2, c3⟩, hf, hl⟩ := h
  have f0 := hf 0; have f1 := hf 1; have f2 := hf 2; have f3 := hf 3
  clear hf
  simp only [Nat.zero_add] at c1 c2 c3
  refine ⟨?_, ?_, ?_, ?_⟩ <;> go_simp
set_option maxHeartbeats 800000 in
theorem markTerm_any (w : World) (hp : PWt w) : Calls Tryd.prog 15 #[.int .i64 777777] w fun e w' => e = .returned (.agg #[.string markW, .int .i8 0, .int .i64 0, .string ⟨#[]⟩]) ∧ Below w.heap.size w w' := by
  have BA := (Below.refl w.heap.size w).alloc (Nat.le_refl _) (.cells #[.string ⟨#[]⟩, .int .i8 0, .int .i64 0, .string ⟨#[]⟩] 44)
  have HP : Hid _ := tab_below hp BA
  have HO : Hid (OwnT _ w.heap.size) := ownT_new w T0
  clear hp
  go_enter Tryd.func15, Tryd.ntmps15
  go_wp2_with fail
  refine (word_any _ HP.out).mono ?_
  rintro e w1 ⟨rfl, b1⟩
  have HO1 : Hid (OwnT w1 w.heap.size) := OwnT.below HO.out b1
  have B1 : Hid (Below w.heap.size w w1) := BA.trans (b1.mono BA.size)
  obtain ⟨⟨t', c0, c1, c2, c3⟩, hf, hl⟩ := HO1.out
  have f0 := hf 0; have f1 := hf 1; have f2 := hf 2; have f3 := hf 3
  simp only [Nat.zero_add] at c1 c2 c3
  clear b1 BA hf HO HP
  generalize hmw : markW = MW
  have HM : Hid _ := hmw
  clear hmw
  go_wp2
  refine bodyPost_ret (term_cell_results Tryd.results15 (t := ⟨MW, V0⟩) rfl (setT_at HO1.out ⟨MW, V0⟩)) rfl ⟨by rw [HM.out]; rfl, ?_⟩
  exact (((B1.out.setCell (p := ⟨w.heap.size, 0, none⟩) (Nat.le_refl _) _).setCell (p := ⟨w.heap.size, 1, none⟩) (Nat.le_refl _) _).setCell (p := ⟨w.heap.size, 2, none⟩) (Nat.le_refl _) _).setCell (p := ⟨w.heap.size, 3, none⟩) (Nat.le_refl _) _
set_option maxHeartbeats 3200000 in
theorem twinTerms_any (v : Value) (ts : List T) (w : World) (hp : PWt w) (hs : ts.length ≤ 2932031007402) (hL : Lt w v ts) :
    Calls Tryd.prog 7 #[v] w fun r w' => ∃ a', r = .returned (.slice a' ts.length (ts.length + 1)) ∧ Below w.heap.size w w' ∧ TwT w' w.heap.size ts a' (ts.length + 1) := by
  obtain ⟨a, c, rfl, hc1, hc2, hk⟩ := hL.form
  have hmk := run_make_terms ts.length hs
  have HK : Hid _ := hk
  have HP : Hid (PWt w) := hp
  clear hk hp hc2 hL
  go_enter Tryd.func7, Tryd.ntmps7
  go_wp2
  go_loopw [4] (fun i wr => ∃ k : Nat, k ≤ ts.length ∧ i = .int .i64 k ∧ Below w.heap.size w wr ∧ wr.rowIs w.heap.size 44 ((ts.length + 1) * 4) (rowT (atT ts) k)) (fun i _ => ts.length - (intOf i).toNat)
  case atStart => exact ⟨0, Nat.zero_le _, rfl, (Below.refl _ _).alloc (Nat.le_refl _) _, made_terms w (ts.length + 1) _⟩
  case round =>
    obtain ⟨k, hk, rfl, bel, hrow⟩ := hrel
    clear hmk
    by_cases hlt : k < ts.length
    · have hlt' : (k : Int) < (ts.length : Int) := by omega
      obtain ⟨g, off, rfl, hg, hKS⟩ := HK.out (by omega)
      obtain ⟨y0, y1, y2, y3⟩ := (hKS k hlt).below bel hg
      have HR1 : Hid (wr.rowIs w.heap.size 44 ((ts.length + 1) * 4) (rowT (atT ts) k)) := hrow
      obtain ⟨x, hxx⟩ : ∃ x, atT ts k = x := ⟨_, rfl⟩
      rw [hxx] at y0 y1 y2 y3
      have HXX : Hid _ := hxx
      have z0 := hrow.cell (i := k * 4) (by omega)
      have z1 := hrow.cell (i := k * 4 + 1) (by omega)
      have z2 := hrow.cell (i := k * 4 + 2) (by omega)
      have z3 := hrow.cell (i := k * 4 + 3) (by omega)
      have f := hrow.frozen
      clear hKS hxx hrow
      generalize rowT (atT ts) k (k * 4) = q0 at z0
      generalize rowT (atT ts) k (k * 4 + 1) = q1 at z1
      generalize rowT (atT ts) k (k * 4 + 2) = q2 at z2
      generalize rowT (atT ts) k (k * 4 + 3) = q3 at z3
      have hk1 : (k : Int) < (ts.length : Int) + 1 := by omega
      go_wp2
      go_roundw
      case rel =>
        refine ⟨k + 1, by omega, by go_num, (((bel.setCell (by simp) _).setCell (by simp) _).setCell (by simp) _).setCell (by simp) _, ?_⟩
        have e2 : (fun i => if i = k then x else atT ts i) = atT ts := upd_same (atT ts) k x HXX.out
        have := ((((HR1.out.set (k * 4) (.string x.v)).set (k * 4 + 1) (.int .i8 x.a.k)).set (k * 4 + 2) (.int .i64 x.a.n)).set (k * 4 + 3) (.string x.a.s)).congr fun j _ => rowT_step (atT ts) k j x
        rw [e2] at this
        exact this
      case measure => simp [intOf]; omega
    · obtain rfl : k = ts.length := by omega
      have HR : Hid (wr.rowIs w.heap.size 44 ((ts.length + 1) * 4) (rowT (atT ts) ts.length)) := hrow
      have hwlt : w.heap.size < wr.heap.size := hrow.lt
      clear hrow
      go_wp2_with fail
      refine (markTerm_any _ (tab_below HP.out bel)).mono ?_
      rintro r w1 ⟨rfl, b1⟩
      have hrow1 : w1.rowIs w.heap.size 44 ((ts.length + 1) * 4) (rowT (atT ts) ts.length) := HR.out.of_block (b1.block _ hwlt)
      have HR1 : Hid (w1.rowIs w.heap.size 44 ((ts.length + 1) * 4) (rowT (atT ts) ts.length)) := hrow1
      have bel1 : Below w.heap.size w w1 := bel.trans (b1.mono bel.size)
      have z0 := hrow1.cell (i := ts.length * 4) (by omega)
      have z1 := hrow1.cell (i := ts.length * 4 + 1) (by omega)
      have z2 := hrow1.cell (i := ts.length * 4 + 2) (by omega)
      have z3 := hrow1.cell (i := ts.length * 4 + 3) (by omega)
      have f := hrow1.frozen
      clear hrow1 b1 HR bel
      generalize rowT (atT ts) ts.length (ts.length * 4) = q0 at z0
      generalize rowT (atT ts) ts.length (ts.length * 4 + 1) = q1 at z1
      generalize rowT (atT ts) ts.length (ts.length * 4 + 2) = q2 at z2
      generalize rowT (atT ts) ts.length (ts.length * 4 + 3) = q3 at z3
      have hk1 : (ts.length : Int) < (ts.length : Int) + 1 := by omega
      obtain ⟨MW, hmw⟩ : ∃ MW, markW = MW := ⟨_, rfl⟩
      rw [hmw]
      have HM : Hid _ := hmw
      clear hmw
      go_wp2
      go_ret
      have hrow2 := ((((HR1.out.set (ts.length * 4) (.string MW)).set (ts.length * 4 + 1) (.int .i8 0)).set (ts.length * 4 + 2) (.int .i64 0)).set (ts.length * 4 + 3) (.string ⟨#[]⟩)).congr fun j _ => rowT_step (atT ts) ts.length j ⟨MW, V0⟩
      refine ⟨some ⟨w.heap.size, 0, none⟩, rfl, (((bel1.setCell (by simp) _).setCell (by simp) _).setCell (by simp) _).setCell (by simp) _, rfl, w.heap.size, rfl, Nat.le_refl _, hrow2.lt, ?_, fun i hi => ?_⟩
      · have := rowT_at hrow2 (i := ts.length) (by omega) (by omega)
        simp only [if_true] at this
        rw [HM.out]
        exact this
      · have := rowT_at hrow2 (i := i) (by omega) (by omega)
        rw [if_neg (by omega)] at this
        exact this
set_option maxHeartbeats 3200000 in
theorem sameTerms_same (v v' : Value) (ts : List T) (w : World) (h1 : Lt w v ts) (h2 : Lt w v' ts) :
    Calls Tryd.prog 19 #[v, v'] w fun r w' => r = .returned (.bool true) ∧ Below w.heap.size w w' := by
  obtain ⟨a, c, rfl, hc1, hc2, hk⟩ := h1.form
  obtain ⟨a', c', rfl, hc1', hc2', hk'⟩ := h2.form
  have hmax : ts.length ≤ maxLen := Nat.le_trans hc1 hc2
  unfold maxLen at hmax
  have HK : Hid _ := hk
  have HK' : Hid _ := hk'
  clear hk hk' h1 h2 hc2 hc2'
  go_enter Tryd.func19, Tryd.ntmps19
  go_wp2
  go_loopw [5] (fun i wr => ∃ k : Nat, k ≤ ts.length ∧ i = .int .i64 k ∧ Below w.heap.size w wr) (fun i _ => ts.length - (intOf i).toNat)
  case atStart => exact ⟨0, Nat.zero_le _, rfl, Below.refl _ _⟩
  case round =>
    obtain ⟨k, hk, rfl, bel⟩ := hrel
    by_cases hlt : k < ts.length
    · have hlt' : (k : Int) < (ts.length : Int) := by omega
      obtain ⟨g, off, rfl, hg, hKS⟩ := HK.out (by omega)
      obtain ⟨g', off', rfl, hg', hKS'⟩ := HK'.out (by omega)
      obtain ⟨y0, y1, y2, y3⟩ := (hKS k hlt).below bel hg
      obtain ⟨z0, z1, z2, z3⟩ := (hKS' k hlt).below bel hg'
      generalize atT ts k = x at y0 y1 y2 y3 z0 z1 z2 z3
      have hQ : ∀ u, (binOp .neq 44 (.agg #[.string x.v, .int .i8 x.a.k, .int .i64 x.a.n, .string x.a.s]) (.agg #[.string x.v, .int .i8 x.a.k, .int .i64 x.a.n, .string x.a.s])).run Tryd.prog u = .ok (.bool false) u := fun u => by
        have := run_neqB x x u
        rw [decide_eq_true rfl] at this
        exact this
      clear hKS hKS'
      go_wp2_with fail
      go_quiet (fail)
      go_wp2
      go_roundw
      case rel => exact ⟨k + 1, by omega, by go_num, below_drewN bel _⟩
      case measure => simp [intOf]; omega
    · obtain rfl : k = ts.length := by omega
      go_wp2
      go_ret
      exact ⟨rfl, bel⟩
set_option maxHeartbeats 1600000 in
theorem isMarkT_any (w : World) (hp : PWt w) : Calls Tryd.prog 20 #[.agg #[.string markW, .int .i8 0, .int .i64 0, .string ⟨#[]⟩], .int .i64 777777] w fun e w' => e = .returned (.bool true) ∧ Below w.heap.size w w' := by
  have BA := (Below.refl w.heap.size w).alloc (Nat.le_refl _) (.cells #[.string markW, .int .i8 0, .int .i64 0, .string ⟨#[]⟩] 44)
  have HX0 : Hid (TAt (w.alloc (.cells #[.string markW, .int .i8 0, .int .i64 0, .string ⟨#[]⟩] 44)) w.heap.size 0 ⟨markW, V0⟩) := ⟨by go_simp, by go_simp; rfl, by go_simp; rfl, by go_simp; rfl⟩
  have hE : ∀ u, (binOp .eql 44 (.agg #[.string markW, .int .i8 0, .int .i64 0, .string ⟨#[]⟩]) (.agg #[.string markW, .int .i8 0, .int .i64 0, .string ⟨#[]⟩])).run Tryd.prog u = .ok (.bool true) u := fun u => by
    have := run_eqB ⟨markW, V0⟩ ⟨markW, V0⟩ u
    rw [decide_eq_true rfl] at this
    exact this
  have HS : Hid (∀ u, Below (w.alloc (.cells #[.string markW, .int .i8 0, .int .i64 0, .string ⟨#[]⟩] 44)).heap.size (w.alloc (.cells #[.string markW, .int .i8 0, .int .i64 0, .string ⟨#[]⟩] 44)) u → Below w.heap.size w u ∧ u.cell? ⟨w.heap.size, 0, none⟩ = some (.string markW) ∧ u.cell? ⟨w.heap.size, 1, none⟩ = some (.int .i8 0) ∧ u.cell? ⟨w.heap.size, 2, none⟩ = some (.int .i64 0) ∧ u.cell? ⟨w.heap.size, 3, none⟩ = some (.string ⟨#[]⟩)) := fun u hu => by
    obtain ⟨x0, x1, x2, x3⟩ := HX0.out.below hu (by simp)
    exact ⟨BA.trans (hu.mono BA.size), x0, x1, x2, x3⟩
  have HP : Hid (∀ u, Below w.heap.size w u → PWt u) := fun u hu => tab_below hp hu
  obtain ⟨MW, hmw⟩ : ∃ MW, markW = MW := ⟨_, rfl⟩
  have HW : Hid (∀ u, PWt u → Calls Tryd.prog 26 #[.int .i64 777777] u fun e w' => e = .returned (.string MW) ∧ Below u.heap.size u w') := fun u hu => by rw [← hmw]; exact word_any u hu
  rw [hmw] at hE HS ⊢
  clear hp hmw BA HX0
  go_enter Tryd.func20, Tryd.ntmps20
  go_wp2_with fail
  generalize hWW : w.alloc (.cells #[.string MW, .int .i8 0, .int .i64 0, .string ⟨#[]⟩] 44) = W at HS ⊢
  clear hWW
  have hB0 : Below W.heap.size W W := Below.refl _ _
  go_region_held3 (fun u => (Below W.heap.size W u) ∧ u.cell? ⟨w.heap.size, 0, none⟩ = some (.string MW) ∧ u.cell? ⟨w.heap.size, 1, none⟩ = some (.int .i8 0) ∧ u.cell? ⟨w.heap.size, 2, none⟩ = some (.int .i64 0) ∧ u.cell? ⟨w.heap.size, 3, none⟩ = some (.string ⟨#[]⟩))
    (first
      | assumption
      | exact ⟨hB0.drew, (HS.out _ hB0.drew).2⟩
      | exact ⟨(by assumption), (HS.out _ (by assumption)).2⟩)
    (first
      | (go_at_call 26; refine (HW.out _ (HP.out _ (HS.out _ hB0.drew).1)).mono ?_; rintro ee w2 ⟨rfl, b2⟩; have b2' : Below W.heap.size W w2 := hB0.drew.trans b2)
      | fail)
  go_wp2
  go_ret
  exact ⟨rfl, (HS.out _ b2').1⟩
set_option maxHeartbeats 1600000 in
theorem leftTerms_any (ts : List T) (a a0 : Option Addr) (c c0 lo : Nat) (w : World) (hs : ts.length ≤ 2932031007402) (hp : PWt w) (hW : TwT w lo ts a c) (hL : Lt w (.slice a0 ts.length c0) ts) :
    Calls Tryd.prog 10 #[.slice a ts.length c, .slice a0 ts.length c0] w fun r w' => r = .returned (.bool true) ∧ Below w.heap.size w w' := by
  have HS : Hid _ := sameTerms_same _ _ ts w (hW.lt hL hs) hL
  obtain ⟨rfl, g, rfl, _, hg, hmk, _⟩ := hW
  have HMK : Hid (TAt w g (ts.length * 4) ⟨markW, V0⟩) := hmk
  have HP : Hid (PWt w) := hp
  clear hmk hp hL
  go_enter Tryd.func10, Tryd.ntmps10
  go_wp2_with fail
  refine Calls.mono HS.out ?_
  rintro r w1 ⟨rfl, b1⟩
  obtain ⟨z0, z1, z2, z3⟩ := HMK.out.below b1 hg
  have hMK : Hid _ := isMarkT_any w1 (tab_below HP.out b1)
  have hk1 : (ts.length : Int) < (ts.length : Int) + 1 := by omega
  have z0' : w1.cell? ⟨g, ts.length * 4, none⟩ = some (.string markW) := z0
  have z1' : w1.cell? ⟨g, ts.length * 4 + 1, none⟩ = some (.int .i8 0) := z1
  have z2' : w1.cell? ⟨g, ts.length * 4 + 2, none⟩ = some (.int .i64 0) := z2
  have z3' : w1.cell? ⟨g, ts.length * 4 + 3, none⟩ = some (.string ⟨#[]⟩) := z3
  clear z0 z1 z2 z3
  obtain ⟨MW, hmw⟩ : ∃ MW, markW = MW := ⟨_, rfl⟩
  rw [hmw] at z0' hMK
  clear hmw HS HMK HP
  go_wp2_with (go_at_call 20; refine Calls.mono hMK.out ?_; rintro r w2 ⟨rfl, b2⟩)
  go_ret
  exact ⟨rfl, b1.trans (b2.mono b1.size)⟩
end Go.Proofs.YtodlkadlpjlenaaDoor
