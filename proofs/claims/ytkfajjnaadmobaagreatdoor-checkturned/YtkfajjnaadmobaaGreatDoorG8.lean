import Derived.Test.YtkfajjnaadmobaaGreatDoorG7
import Derived.Test.YtkfajjnaadmobaaGreatDoorG46
import Derived.Deep.RegionHeld3
section
namespace Go.Proofs.YtkfajjnaadmobaaGreatDoor
open Go.RowKit Go.Maps
set_option linter.unusedVariables false
set_option linter.unusedSimpArgs false
attribute [local go_sem ↓] Go.wp_at_zero Go.wp_at_succ

/-- the four cells of a term -/
def comp4 (j : Nat) (t : T) : Value := if j = 0 then .string t.v else if j = 1 then .int .i8 t.a.k else if j = 2 then .int .i64 t.a.n else .string t.a.s
/-- what a row of terms holds whose first k are written -/
def rowT (U : Nat → T) (k : Nat) : Nat → Value := fun j => if j / 4 < k then comp4 (j % 4) (U (j / 4)) else comp4 (j % 4) T0
theorem rowT_step (U : Nat → T) (k j : Nat) (t : T) :
    (if j = k * 4 + 3 then Value.string t.a.s else if j = k * 4 + 2 then .int .i64 t.a.n else if j = k * 4 + 1 then .int .i8 t.a.k else if j = k * 4 then .string t.v else rowT U k j) = rowT (fun i => if i = k then t else U i) (k + 1) j := by
  by_cases e : j / 4 = k
  · have h1 : j / 4 < k + 1 := by omega
    have h3 : j = k * 4 ∨ j = k * 4 + 1 ∨ j = k * 4 + 2 ∨ j = k * 4 + 3 := by omega
    unfold rowT
    rw [if_pos h1, e]
    rcases h3 with rfl | rfl | rfl | rfl
    · simp [comp4]
    · simp [comp4, show (k * 4 + 1) % 4 = 1 by omega]
    · simp [comp4, show (k * 4 + 2) % 4 = 2 by omega]
    · simp [comp4, show (k * 4 + 3) % 4 = 3 by omega]
  · have n0 : ¬ j = k * 4 := by omega
    have n1 : ¬ j = k * 4 + 1 := by omega
    have n2 : ¬ j = k * 4 + 2 := by omega
    have n3 : ¬ j = k * 4 + 3 := by omega
    unfold rowT
    rw [if_neg n3, if_neg n2, if_neg n1, if_neg n0]
    by_cases h : j / 4 < k
    · rw [if_pos h, if_pos (by omega)]
      simp [e]
    · rw [if_neg h, if_neg (by omega)]
theorem rowT_at {w : World} {b : Nat} {ty : TypeId} {m : Nat} {U : Nat → T} {k : Nat} (h : w.rowIs b ty (m * 4) (rowT U k)) {i : Nat} (hi : i < k) (hm : i < m) : TAt w b (i * 4) (U i) := by
  refine ⟨?_, ?_, ?_, ?_⟩
  · rw [h.cell (by omega)]; simp [rowT, comp4, hi]
  · rw [h.cell (by omega)]; simp [rowT, comp4, show (i * 4 + 1) / 4 = i by omega, show (i * 4 + 1) % 4 = 1 by omega, hi]
  · rw [h.cell (by omega)]; simp [rowT, comp4, show (i * 4 + 2) / 4 = i by omega, show (i * 4 + 2) % 4 = 2 by omega, hi]
  · rw [h.cell (by omega)]; simp [rowT, comp4, show (i * 4 + 3) / 4 = i by omega, show (i * 4 + 3) % 4 = 3 by omega, hi]
theorem made_terms (w : World) (n : Nat) (U : Nat → T) : (w.alloc (.cells (madeCells #[.string ⟨#[]⟩, .int .i8 0, .int .i64 0, .string ⟨#[]⟩] (n * 4)) 43)).rowIs w.heap.size 43 (n * 4) (rowT U 0) := by
  have h := World.rowIs_alloc w (madeCells #[.string ⟨#[]⟩, .int .i8 0, .int .i64 0, .string ⟨#[]⟩] (n * 4)) 43 (rowT U 0) (fun i hi => by
    rw [size_madeCells] at hi
    obtain h | h | h | h : i % 4 = 0 ∨ i % 4 = 1 ∨ i % 4 = 2 ∨ i % 4 = 3 := by omega
    all_goals simp [madeCells, hi, rowT, comp4, h, T0, V0, noS])
  rwa [size_madeCells] at h
theorem infoTerm : (Tryz.prog.info? 43).map (fun i => (i.zero, i.size, i.bytes)) = some (some (.agg #[.string ⟨#[]⟩, .int .i8 0, .int .i64 0, .string ⟨#[]⟩]), 4, 48) := by kernel_rfl
theorem run_make_terms (n : Nat) (hn : n ≤ 1048576) (w : World) :
    (Instr.makeSlice 34 (.int .i64 ((n : Int) + 1)) (.int .i64 ((n : Int) + 1))).run Tryz.prog w = .ok (.slice (some ⟨w.heap.size, 0, none⟩) (n + 1) (n + 1)) (w.alloc (.cells (madeCells #[.string ⟨#[]⟩, .int .i8 0, .int .i64 0, .string ⟨#[]⟩] ((n + 1) * 4)) 43)) := by
  have h := infoTerm
  obtain ⟨i, hi, he⟩ := Option.map_eq_some_iff.1 h
  simp only [Prod.mk.injEq] at he
  obtain ⟨h1, h2, h3⟩ := he
  have := run_make (P := Tryz.prog) w 34 43 i _ Tryz.underlying34 hi h1 .i64 .i64 ((n : Int) + 1) ((n : Int) + 1) (by omega) (Int.le_refl _) (by rw [h3]; omega) (by omega)
  rw [this, h2, show ((n : Int) + 1).toNat = n + 1 by omega]
  rfl
/-- a copy of a list of terms: a row of its own, with a mark behind it -/
structure TwT (w : World) (lo : Nat) (ts : List T) (a : Option Addr) (c : Nat) : Prop where
  cap : c = ts.length + 1
  lies : ∃ g, a = some ⟨g, 0, none⟩ ∧ lo ≤ g ∧ g < w.heap.size ∧ TAt w g (ts.length * 4) ⟨markW, V0⟩ ∧ ∀ i, i < ts.length → TAt w g (i * 4) (atT ts i)
theorem TwT.below {w w' : World} {lo : Nat} {ts : List T} {a : Option Addr} {c : Nat} (h : TwT w lo ts a c) (b : Below w.heap.size w w') : TwT w' lo ts a c := by
  obtain ⟨h1, g, h2, h3, h4, h5, h6⟩ := h
  exact ⟨h1, g, h2, h3, Nat.lt_of_lt_of_le h4 b.size, h5.below b h4, fun i hi => (h6 i hi).below b h4⟩
theorem TAt.of {w w' : World} {g o : Nat} {t : T} (h : TAt w g o t) (e : w'.heap[g]? = w.heap[g]?) : TAt w' g o t := by
  have hc : ∀ j, w'.cell? ⟨g, j, none⟩ = w.cell? ⟨g, j, none⟩ := fun j => by unfold World.cell?; rw [e]
  exact ⟨(hc _).trans h.c0, (hc _).trans h.c1, (hc _).trans h.c2, (hc _).trans h.c3⟩
theorem TwT.set {w : World} {lo b j : Nat} {v : Value} (hb : b < lo) {ts : List T} {a : Option Addr} {c : Nat} (h : TwT w lo ts a c) : TwT (w.setCell ⟨b, j, none⟩ v) lo ts a c := by
  obtain ⟨h1, g, h2, h3, h4, h5, h6⟩ := h
  have e : (w.setCell ⟨b, j, none⟩ v).heap[g]? = w.heap[g]? := heap_setCell_other _ _ _ _ (by show g ≠ b; omega)
  exact ⟨h1, g, h2, h3, by simpa using h4, h5.of e, fun i hi => (h6 i hi).of e⟩
theorem TwT.lower {w : World} {lo lo' : Nat} (hl : lo' ≤ lo) {ts : List T} {a : Option Addr} {c : Nat} (h : TwT w lo ts a c) : TwT w lo' ts a c := by
  obtain ⟨h1, g, h2, h3, h4, h5, h6⟩ := h
  exact ⟨h1, g, h2, Nat.le_trans hl h3, h4, h5, h6⟩
/-- from cells to a list in memory -/
theorem lt_of_at {w : World} {g n c : Nat} {ts : List T} (hn : ts.length = n) (hc1 : n ≤ c) (hc2 : c ≤ maxLen) (hg : g < w.heap.size) (h : ∀ i, i < ts.length → TAt w g (i * 4) (atT ts i)) (hwf : ∀ t ∈ ts, t.wf) : Lt w (.slice (some ⟨g, 0, none⟩) n c) ts := by
  subst hn
  refine ⟨⟨Nat.le_trans hc1 hc2, _, c, rfl, hc1, hc2, fun _ => ⟨g, 0, rfl, hg, fun i hi => ?_⟩⟩, hwf⟩
  have hl : (ts.flatMap T.cells).length = ts.length * 4 := flat_len T.cells 4 (fun _ => rfl) ts
  have hi4 : i / 4 < ts.length := by omega
  have hx := flat_at T.cells 4 (fun _ => rfl) T0 ts (i / 4) (i % 4) hi4 (by omega)
  rw [show i / 4 * 4 + i % 4 = i by omega] at hx
  have ht := h (i / 4) hi4
  have key : w.cell? ⟨g, i, none⟩ = (T.cells (atT ts (i / 4)))[i % 4]? := by
    obtain h0 | h0 | h0 | h0 : i % 4 = 0 ∨ i % 4 = 1 ∨ i % 4 = 2 ∨ i % 4 = 3 := by omega
    · rw [show i = i / 4 * 4 by omega]
      have := ht.c0
      simpa [T.cells] using this
    · rw [show i = i / 4 * 4 + 1 by omega]
      have := ht.c1
      simpa [T.cells, show (i / 4 * 4 + 1) / 4 = i / 4 by omega, show (i / 4 * 4 + 1) % 4 = 1 by omega] using this
    · rw [show i = i / 4 * 4 + 2 by omega]
      have := ht.c2
      simpa [T.cells, show (i / 4 * 4 + 2) / 4 = i / 4 by omega, show (i / 4 * 4 + 2) % 4 = 2 by omega] using this
    · rw [show i = i / 4 * 4 + 3 by omega]
      have := ht.c3
      simpa [T.cells, show (i / 4 * 4 + 3) / 4 = i / 4 by omega, show (i / 4 * 4 + 3) % 4 = 3 by omega] using this
  rw [Nat.zero_add, key]
  have e2 : (ts.flatMap T.cells)[i]? = (T.cells (atT ts (i / 4)))[i % 4]? := hx
  rw [← e2, List.getElem?_eq_getElem hi]
theorem TwT.lt {w w0 : World} {lo : Nat} {ts : List T} {a : Option Addr} {c : Nat} {v : Value} (h : TwT w lo ts a c) (h0 : Lt w0 v ts) (hl : ts.length ≤ 1048576) : Lt w (.slice a ts.length c) ts := by
  obtain ⟨rfl, g, rfl, _, hg, _, hk⟩ := h
  exact lt_of_at rfl (by omega) (by unfold maxLen; omega) hg hk h0.wf
end Go.Proofs.YtkfajjnaadmobaaGreatDoor
end
section
namespace Go.Proofs.YtkfajjnaadmobaaGreatDoor
open Go.RowKit Go.Maps
set_option linter.unusedVariables false
set_option linter.unusedSimpArgs false
attribute [local go_sem ↓] Go.wp_at_zero Go.wp_at_succ

theorem term_cell_results {fn : Func} {sl : Nat} (hr : fn.results = #[.cell sl 43]) {W : World} {tmps : Array Value} {b : Nat} {t : T} (h2 : tmps.getD sl undef = .pointer (some ⟨b, 0, none⟩)) (h : TAt W b 0 t) :
    (results fn tmps).run Tryz.prog W = .ok (.agg #[.string t.v, .int .i8 t.a.k, .int .i64 t.a.n, .string t.a.s]) W := by
  obtain ⟨c0, c1, c2, c3⟩ := h
  have hl : (loadVar 43 ⟨b, 0, none⟩).run Tryz.prog W = .ok (.agg #[.string t.v, .int .i8 t.a.k, .int .i64 t.a.n, .string t.a.s]) W := by
    refine run_loadVar_mid W b 0 43 [.string t.v, .int .i8 t.a.k, .int .i64 t.a.n, .string t.a.s] _ (fun j v hj => ?_) Tryz.underlying43 rfl (by kernel_rfl)
    match j, hj with
    | 0, hj => simp at hj; subst hj; exact c0
    | 1, hj => simp at hj; subst hj; exact c1
    | 2, hj => simp at hj; subst hj; exact c2
    | 3, hj => simp at hj; subst hj; exact c3
  have e0 : results fn tmps = (do
      let x ← asAddr (tmps.getD sl undef)
      loadVar 43 x) := by
    simp [results, hr]
  rw [e0, h2]
  simp [asAddr, hl, Result.andThen]
/-- a term's four cells in block b, that may be written -/
def OwnT (w : World) (b : Nat) : Prop := (∃ t, TAt w b 0 t) ∧ (∀ j, w.frozen? ⟨b, j, none⟩ = false) ∧ b < w.heap.size
theorem OwnT.below {w w1 : World} {b : Nat} (h : OwnT w b) (hb : Below w.heap.size w w1) : OwnT w1 b := by
  obtain ⟨⟨t, hx⟩, hf, hl⟩ := h
  exact ⟨⟨t, hx.below hb hl⟩, fun j => by rw [hb.frozen (p := ⟨b, j, none⟩) hl]; exact hf j, Nat.lt_of_lt_of_le hl hb.size⟩
theorem ownT_new (w : World) (t : T) : OwnT (w.alloc (.cells #[.string t.v, .int .i8 t.a.k, .int .i64 t.a.n, .string t.a.s] 43)) w.heap.size :=
  ⟨⟨t, ⟨by go_simp, by go_simp, by go_simp, by go_simp⟩⟩, fun j => Lib.frozen_of_heap (heap_alloc_new w _) j, by simp⟩
theorem setT_at {w : World} {b : Nat} (h : OwnT w b) (t : T) : TAt ((((w.setCell ⟨b, 0, none⟩ (.string t.v)).setCell ⟨b, 1, none⟩ (.int .i8 t.a.k)).setCell ⟨b, 2, none⟩ (.int .i64 t.a.n)).setCell ⟨b, 3, none⟩ (.string t.a.s)) b 0 t := by
  obtain ⟨⟨t', c0, c1, c2, c3⟩, hf, hl⟩ := h
  have f0 := hf 0; have f1 := hf 1; have f2 := hf 2; have f3 := hf 3
  clear hf
  simp only [Nat.zero_add] at c1 c2 c3
  refine ⟨?_, ?_, ?_, ?_⟩ <;> go_simp
set_option maxHeartbeats 800000 in
theorem markTerm_any (w : World) (hp : PWt w) : Calls Tryz.prog 73 #[.int .i64 777777] w fun e w' => e = .returned (.agg #[.string markW, .int .i8 0, .int .i64 0, .string ⟨#[]⟩]) ∧ Below w.heap.size w w' := by
  have BA := (Below.refl w.heap.size w).alloc (Nat.le_refl _) (.cells #[.string ⟨#[]⟩, .int .i8 0, .int .i64 0, .string ⟨#[]⟩] 43)
  have HP : Hid _ := tab_below hp BA
  have HO : Hid (OwnT _ w.heap.size) := ownT_new w T0
  clear hp
  go_enter Tryz.func73, Tryz.ntmps73
  go_wp2_with fail
  refine (word_any _ HP.out).mono ?_
  rintro e w1 ⟨rfl, b1⟩
  have HO1 : Hid (OwnT w1 w.heap.size) := OwnT.below HO.out b1
  have B1 : Hid (Below w.heap.size w w1) := BA.trans (b1.mono BA.size)
  obtain ⟨⟨t', c0, c1, c2, c3⟩, hf, hl⟩ := HO1.out
  have f0 := hf 0; have f1 := hf 1; have f2 := hf 2; have f3 := hf 3
  simp only [Nat.zero_add] at c1 c2 c3
  clear b1 BA hf HO HP
  generalize hmw : markW = MW
  have HM : Hid _ := hmw
  clear hmw
  go_wp2
  refine bodyPost_ret (term_cell_results Tryz.results73 (t := ⟨MW, V0⟩) rfl (setT_at HO1.out ⟨MW, V0⟩)) rfl ⟨by rw [HM.out]; rfl, ?_⟩
  exact (((B1.out.setCell (p := ⟨w.heap.size, 0, none⟩) (Nat.le_refl _) _).setCell (p := ⟨w.heap.size, 1, none⟩) (Nat.le_refl _) _).setCell (p := ⟨w.heap.size, 2, none⟩) (Nat.le_refl _) _).setCell (p := ⟨w.heap.size, 3, none⟩) (Nat.le_refl _) _
set_option maxHeartbeats 3200000 in
theorem twinTerms_any (v : Value) (ts : List T) (w : World) (hp : PWt w) (hs : ts.length ≤ 1048576) (hL : Lt w v ts) :
    Calls Tryz.prog 57 #[v] w fun r w' => ∃ a', r = .returned (.slice a' ts.length (ts.length + 1)) ∧ Below w.heap.size w w' ∧ TwT w' w.heap.size ts a' (ts.length + 1) := by
  obtain ⟨a, c, rfl, hc1, hc2, hk⟩ := hL.form
  have hmk := run_make_terms ts.length hs
  have HK : Hid _ := hk
  have HP : Hid (PWt w) := hp
  clear hk hp hc2 hL
  go_enter Tryz.func57, Tryz.ntmps57
  go_wp2
  go_loopw [4] (fun i wr => ∃ k : Nat, k ≤ ts.length ∧ i = .int .i64 k ∧ Below w.heap.size w wr ∧ wr.rowIs w.heap.size 43 ((ts.length + 1) * 4) (rowT (atT ts) k)) (fun i _ => ts.length - (intOf i).toNat)
  case atStart => exact ⟨0, Nat.zero_le _, rfl, (Below.refl _ _).alloc (Nat.le_refl _) _, made_terms w (ts.length + 1) _⟩
  case round =>
    obtain ⟨k, hk, rfl, bel, hrow⟩ := hrel
    clear hmk
    by_cases hlt : k < ts.length
    · have hlt' : (k : Int) < (ts.length : Int) := by omega
      obtain ⟨g, off, rfl, hg, hKS⟩ := HK.out (by omega)
      obtain ⟨y0, y1, y2, y3⟩ := (hKS k hlt).below bel hg
      have HR1 : Hid (wr.rowIs w.heap.size 43 ((ts.length + 1) * 4) (rowT (atT ts) k)) := hrow
      obtain ⟨x, hxx⟩ : ∃ x, atT ts k = x := ⟨_, rfl⟩
      rw [hxx] at y0 y1 y2 y3
      have HXX : Hid _ := hxx
      have z0 := hrow.cell (i := k * 4) (by omega)
      have z1 := hrow.cell (i := k * 4 + 1) (by omega)
      have z2 := hrow.cell (i := k * 4 + 2) (by omega)
      have z3 := hrow.cell (i := k * 4 + 3) (by omega)
      have f := hrow.frozen
      clear hKS hxx hrow
      generalize rowT (atT ts) k (k * 4) = q0 at z0
      generalize rowT (atT ts) k (k * 4 + 1) = q1 at z1
      generalize rowT (atT ts) k (k * 4 + 2) = q2 at z2
      generalize rowT (atT ts) k (k * 4 + 3) = q3 at z3
      have hk1 : (k : Int) < (ts.length : Int) + 1 := by omega
      go_wp2
      go_roundw
      case rel =>
        refine ⟨k + 1, by omega, by go_num, (((bel.setCell (by simp) _).setCell (by simp) _).setCell (by simp) _).setCell (by simp) _, ?_⟩
        have e2 : (fun i => if i = k then x else atT ts i) = atT ts := upd_same (atT ts) k x HXX.out
        have := ((((HR1.out.set (k * 4) (.string x.v)).set (k * 4 + 1) (.int .i8 x.a.k)).set (k * 4 + 2) (.int .i64 x.a.n)).set (k * 4 + 3) (.string x.a.s)).congr fun j _ => rowT_step (atT ts) k j x
        rw [e2] at this
        exact this
      case measure => simp [intOf]; omega
    · obtain rfl : k = ts.length := by omega
      have HR : Hid (wr.rowIs w.heap.size 43 ((ts.length + 1) * 4) (rowT (atT ts) ts.length)) := hrow
      have hwlt : w.heap.size < wr.heap.size := hrow.lt
      clear hrow
      go_wp2_with fail
      refine (markTerm_any _ (tab_below HP.out bel)).mono ?_
      rintro r w1 ⟨rfl, b1⟩
      have hrow1 : w1.rowIs w.heap.size 43 ((ts.length + 1) * 4) (rowT (atT ts) ts.length) := HR.out.of_block (b1.block _ hwlt)
      have HR1 : Hid (w1.rowIs w.heap.size 43 ((ts.length + 1) * 4) (rowT (atT ts) ts.length)) := hrow1
      have bel1 : Below w.heap.size w w1 := bel.trans (b1.mono bel.size)
      have z0 := hrow1.cell (i := ts.length * 4) (by omega)
      have z1 := hrow1.cell (i := ts.length * 4 + 1) (by omega)
      have z2 := hrow1.cell (i := ts.length * 4 + 2) (by omega)
      have z3 := hrow1.cell (i := ts.length * 4 + 3) (by omega)
      have f := hrow1.frozen
      clear hrow1 b1 HR bel
      generalize rowT (atT ts) ts.length (ts.length * 4) = q0 at z0
      generalize rowT (atT ts) ts.length (ts.length * 4 + 1) = q1 at z1
      generalize rowT (atT ts) ts.length (ts.length * 4 + 2) = q2 at z2
      generalize rowT (atT ts) ts.length (ts.length * 4 + 3) = q3 at z3
      have hk1 : (ts.length : Int) < (ts.length : Int) + 1 := by omega
      obtain ⟨MW, hmw⟩ : ∃ MW, markW = MW := ⟨_, rfl⟩
      rw [hmw]
      have HM : Hid _ := hmw
      clear hmw
      go_wp2
      go_ret
      have hrow2 := ((((HR1.out.set (ts.length * 4) (.string MW)).set (ts.length * 4 + 1) (.int .i8 0)).set (ts.length * 4 + 2) (.int .i64 0)).set (ts.length * 4 + 3) (.string ⟨#[]⟩)).congr fun j _ => rowT_step (atT ts) ts.length j ⟨MW, V0⟩
      refine ⟨some ⟨w.heap.size, 0, none⟩, rfl, (((bel1.setCell (by simp) _).setCell (by simp) _).setCell (by simp) _).setCell (by simp) _, rfl, w.heap.size, rfl, Nat.le_refl _, hrow2.lt, ?_, fun i hi => ?_⟩
      · have := rowT_at hrow2 (i := ts.length) (by omega) (by omega)
        simp only [if_true] at this
        rw [HM.out]
        exact this
      · have := rowT_at hrow2 (i := i) (by omega) (by omega)
        rw [if_neg (by omega)] at this
        exact this
end Go.Proofs.YtkfajjnaadmobaaGreatDoor
end
