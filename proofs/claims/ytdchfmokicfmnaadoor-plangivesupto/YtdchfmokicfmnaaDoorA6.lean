import Derived.Test.YtdchfmokicfmnaaDoorA5
import Derived.Deep.RegionHeld3
import Derived.Test.YtdchfmokicfmnaaDoorA3
import Derived.Test.YtdchfmokicfmnaaDoorA4
section
namespace Go.Proofs.YtdchfmokicfmnaaDoor
open Go.RowKit Go.Maps
set_option linter.unusedVariables false
set_option linter.unusedSimpArgs false
attribute [local go_sem ↓] Go.wp_at_zero Go.wp_at_succ

/-- the four cells of a term -/
def comp4 (j : Nat) (t : T) : Value := if j = 0 then .string t.v else if j = 1 then .int .i8 t.a.k else if j = 2 then .int .i64 t.a.n else .string t.a.s
/-- what a row of terms holds whose first k are written -/
def rowT (U : Nat → T) (k : Nat) : Nat → Value := fun j => if j / 4 < k then comp4 (j % 4) (U (j / 4)) else comp4 (j % 4) T0
theorem rowT_step (U : Nat → T) (k j : Nat) (t : T) :
    (if j = k * 4 + 3 then Value.string t.a.s else if j = k * 4 + 2 then .int .i64 t.a.n else if j = k * 4 + 1 then .int .i8 t.a.k else if j = k * 4 then .string t.v else rowT U k j) = rowT (fun i => if i = k then t else U i) (k + 1) j := by
  by_cases e : j / 4 = k
  · have h1 : j / 4 < k + 1 := by omega
    have h3 : j = k * 4 ∨ j = k * 4 + 1 ∨ j = k * 4 + 2 ∨ j = k * 4 + 3 := by omega
    unfold rowT
    rw [if_pos h1, e]
    rcases h3 with rfl | rfl | rfl | rfl
    · simp [comp4]
    · simp [comp4, show (k * 4 + 1) % 4 = 1 by omega]
    · simp [comp4, show (k * 4 + 2) % 4 = 2 by omega]
    · simp [comp4, show (k * 4 + 3) % 4 = 3 by omega]
  · have n0 : ¬ j = k * 4 := by omega
    have n1 : ¬ j = k * 4 + 1 := by omega
    have n2 : ¬ j = k * 4 + 2 := by omega
    have n3 : ¬ j = k * 4 + 3 := by omega
    unfold rowT
    rw [if_neg n3, if_neg n2, if_neg n1, if_neg n0]
    by_cases h : j / 4 < k
    · rw [if_pos h, if_pos (by omega)]
      simp [e]
    · rw [if_neg h, if_neg (by omega)]
theorem rowT_at {w : World} {b : Nat} {ty : TypeId} {m : Nat} {U : Nat → T} {k : Nat} (h : w.rowIs b ty (m * 4) (rowT U k)) {i : Nat} (hi : i < k) (hm : i < m) : TAt w b (i * 4) (U i) := by
  refine ⟨?_, ?_, ?_, ?_⟩
  · rw [h.cell (by omega)]; simp [rowT, comp4, hi]
  · rw [h.cell (by omega)]; simp [rowT, comp4, show (i * 4 + 1) / 4 = i by omega, show (i * 4 + 1) % 4 = 1 by omega, hi]
  · rw [h.cell (by omega)]; simp [rowT, comp4, show (i * 4 + 2) / 4 = i by omega, show (i * 4 + 2) % 4 = 2 by omega, hi]
  · rw [h.cell (by omega)]; simp [rowT, comp4, show (i * 4 + 3) / 4 = i by omega, show (i * 4 + 3) % 4 = 3 by omega, hi]
theorem made_terms (w : World) (n : Nat) (U : Nat → T) : (w.alloc (.cells (madeCells #[.string ⟨#[]⟩, .int .i8 0, .int .i64 0, .string ⟨#[]⟩] (n * 4)) 49)).rowIs w.heap.size 49 (n * 4) (rowT U 0) := by
  have h := World.rowIs_alloc w (madeCells #[.string ⟨#[]⟩, .int .i8 0, .int .i64 0, .string ⟨#[]⟩] (n * 4)) 49 (rowT U 0) (fun i hi => by
    rw [size_madeCells] at hi
    obtain h | h | h | h : i % 4 = 0 ∨ i % 4 = 1 ∨ i % 4 = 2 ∨ i % 4 = 3 := by omega
    all_goals simp [madeCells, hi, rowT, comp4, h, T0, V0, noS])
  rwa [size_madeCells] at h
theorem infoTerm : (Tryd.prog.info? 49).map (fun i => (i.zero, i.size, i.bytes)) = some (some (.agg #[.string ⟨#[]⟩, .int .i8 0, .int .i64 0, .string ⟨#[]⟩]), 4, 48) := by kernel_rfl
theorem run_make_terms (n : Nat) (hn : n ≤ 1048576) (w : World) :
    (Instr.makeSlice 40 (.int .i64 ((n : Int) + 1)) (.int .i64 ((n : Int) + 1))).run Tryd.prog w = .ok (.slice (some ⟨w.heap.size, 0, none⟩) (n + 1) (n + 1)) (w.alloc (.cells (madeCells #[.string ⟨#[]⟩, .int .i8 0, .int .i64 0, .string ⟨#[]⟩] ((n + 1) * 4)) 49)) := by
  have h := infoTerm
  obtain ⟨i, hi, he⟩ := Option.map_eq_some_iff.1 h
  simp only [Prod.mk.injEq] at he
  obtain ⟨h1, h2, h3⟩ := he
  have := run_make (P := Tryd.prog) w 40 49 i _ Tryd.underlying40 hi h1 .i64 .i64 ((n : Int) + 1) ((n : Int) + 1) (by omega) (Int.le_refl _) (by rw [h3]; omega) (by omega)
  rw [this, h2, show ((n : Int) + 1).toNat = n + 1 by omega]
  rfl
/-- a copy of a list of terms: a row of its own, with a mark behind it -/
structure TwT (w : World) (lo : Nat) (ts : List T) (a : Option Addr) (c : Nat) : Prop where
  cap : c = ts.length + 1
  lies : ∃ g, a = some ⟨g, 0, none⟩ ∧ lo ≤ g ∧ g < w.heap.size ∧ TAt w g (ts.length * 4) ⟨markW, V0⟩ ∧ ∀ i, i < ts.length → TAt w g (i * 4) (atT ts i)
theorem TwT.below {w w' : World} {lo : Nat} {ts : List T} {a : Option Addr} {c : Nat} (h : TwT w lo ts a c) (b : Below w.heap.size w w') : TwT w' lo ts a c := by
  obtain ⟨h1, g, h2, h3, h4, h5, h6⟩ := h
  exact ⟨h1, g, h2, h3, Nat.lt_of_lt_of_le h4 b.size, h5.below b h4, fun i hi => (h6 i hi).below b h4⟩
theorem TAt.of {w w' : World} {g o : Nat} {t : T} (h : TAt w g o t) (e : w'.heap[g]? = w.heap[g]?) : TAt w' g o t := by
  have hc : ∀ j, w'.cell? ⟨g, j, none⟩ = w.cell? ⟨g, j, none⟩ := fun j => by unfold World.cell?; rw [e]
  exact ⟨(hc _).trans h.c0, (hc _).trans h.c1, (hc _).trans h.c2, (hc _).trans h.c3⟩
theorem TwT.set {w : World} {lo b j : Nat} {v : Value} (hb : b < lo) {ts : List T} {a : Option Addr} {c : Nat} (h : TwT w lo ts a c) : TwT (w.setCell ⟨b, j, none⟩ v) lo ts a c := by
  obtain ⟨h1, g, h2, h3, h4, h5, h6⟩ := h
  have e : (w.setCell ⟨b, j, none⟩ v).heap[g]? = w.heap[g]? := heap_setCell_other _ _ _ _ (by show g ≠ b; omega)
  exact ⟨h1, g, h2, h3, by simpa using h4, h5.of e, fun i hi => (h6 i hi).of e⟩
theorem TwT.lower {w : World} {lo lo' : Nat} (hl : lo' ≤ lo) {ts : List T} {a : Option Addr} {c : Nat} (h : TwT w lo ts a c) : TwT w lo' ts a c := by
  obtain ⟨h1, g, h2, h3, h4, h5, h6⟩ := h
  exact ⟨h1, g, h2, Nat.le_trans hl h3, h4, h5, h6⟩
/-- from cells to a list in memory -/
theorem lt_of_at {w : World} {g n c : Nat} {ts : List T} (hn : ts.length = n) (hc1 : n ≤ c) (hc2 : c ≤ maxLen) (hg : g < w.heap.size) (h : ∀ i, i < ts.length → TAt w g (i * 4) (atT ts i)) (hwf : ∀ t ∈ ts, t.wf) : Lt w (.slice (some ⟨g, 0, none⟩) n c) ts := by
  subst hn
  refine ⟨⟨Nat.le_trans hc1 hc2, _, c, rfl, hc1, hc2, fun _ => ⟨g, 0, rfl, hg, fun i hi => ?_⟩⟩, hwf⟩
  have hl : (ts.flatMap T.cells).length = ts.length * 4 := flat_len T.cells 4 (fun _ => rfl) ts
  have hi4 : i / 4 < ts.length := by omega
  have hx := flat_at T.cells 4 (fun _ => rfl) T0 ts (i / 4) (i % 4) hi4 (by omega)
  rw [show i / 4 * 4 + i % 4 = i by omega] at hx
  have ht := h (i / 4) hi4
  have key : w.cell? ⟨g, i, none⟩ = (T.cells (atT ts (i / 4)))[i % 4]? := by
    obtain h0 | h0 | h0 | h0 : i % 4 = 0 ∨ i % 4 = 1 ∨ i % 4 = 2 ∨ i % 4 = 3 := by omega
    · rw [show i = i / 4 * 4 by omega]
      have := ht.c0
      simpa [T.cells] using this
    · rw [show i = i / 4 * 4 + 1 by omega]
      have := ht.c1
      simpa [T.cells, show (i / 4 * 4 + 1) / 4 = i / 4 by omega, show (i / 4 * 4 + 1) % 4 = 1 by omega] using this
    · rw [show i = i / 4 * 4 + 2 by omega]
      have := ht.c2
      simpa [T.cells, show (i / 4 * 4 + 2) / 4 = i / 4 by omega, show (i / 4 * 4 + 2) % 4 = 2 by omega] using this
    · rw [show i = i / 4 * 4 + 3 by omega]
      have := ht.c3
      simpa [T.cells, show (i / 4 * 4 + 3) / 4 = i / 4 by omega, show (i / 4 * 4 + 3) % 4 = 3 by omega] using this
  rw [Nat.zero_add, key]
  have e2 : (ts.flatMap T.cells)[i]? = (T.cells (atT ts (i / 4)))[i % 4]? := hx
  rw [← e2, List.getElem?_eq_getElem hi]
theorem TwT.lt {w w0 : World} {lo : Nat} {ts : List T} {a : Option Addr} {c : Nat} {v : Value} (h : TwT w lo ts a c) (h0 : Lt w0 v ts) (hl : ts.length ≤ 1048576) : Lt w (.slice a ts.length c) ts := by
  obtain ⟨rfl, g, rfl, _, hg, _, hk⟩ := h
  exact lt_of_at rfl (by omega) (by unfold maxLen; omega) hg hk h0.wf
end Go.Proofs.YtdchfmokicfmnaaDoor
end
section
namespace Go.Proofs.YtdchfmokicfmnaaDoor
open Go.RowKit Go.Maps
set_option linter.unusedVariables false
set_option linter.unusedSimpArgs false
attribute [local go_sem ↓] Go.wp_at_zero Go.wp_at_succ

end Go.Proofs.YtdchfmokicfmnaaDoor
end
section
namespace Go.Proofs.YtdchfmokicfmnaaDoor
open Go.RowKit Go.Maps
set_option linter.unusedVariables false
set_option linter.unusedSimpArgs false
attribute [local go_sem ↓] Go.wp_at_zero Go.wp_at_succ

end Go.Proofs.YtdchfmokicfmnaaDoor
end
section
namespace Go.Proofs.YtdchfmokicfmnaaDoor
open Go.RowKit Go.Maps
set_option linter.unusedVariables false
set_option linter.unusedSimpArgs false
attribute [local go_sem ↓] Go.wp_at_zero Go.wp_at_succ

/-- a block that holds these cells -/
def RL (w : World) (b : Nat) (t : TypeId) (l : List Value) : Prop := w.rowIs b t l.length (fun j => l.getD j .nilIface)
theorem RL.set {w : World} {b : Nat} {t : TypeId} {l : List Value} (h : RL w b t l) (i : Nat) (v : Value) : RL (w.setCell ⟨b, i, none⟩ v) b t (l.set i v) := by
  unfold RL
  rw [List.length_set]
  refine (World.rowIs.set h i v).congr fun j hj => ?_
  by_cases e : j = i
  · subst e
    rw [if_pos rfl]
    simp [List.getD, List.getElem?_set_self hj]
  · rw [if_neg e]
    simp [List.getD, List.getElem?_set_ne (Ne.symm e)]
theorem RL.other {w : World} {b g i : Nat} {t : TypeId} {l : List Value} (h : RL w b t l) (e : b ≠ g) (v : Value) : RL (w.setCell ⟨g, i, none⟩ v) b t l := World.rowIs.setOther h e v
theorem RL.at {w : World} {b : Nat} {t : TypeId} {l : List Value} (h : RL w b t l) {j : Nat} {v : Value} (e : l[j]? = some v) : w.cell? ⟨b, j, none⟩ = some v := by
  obtain ⟨hj, hv⟩ := List.getElem?_eq_some_iff.1 e
  rw [World.rowIs.cell h hj]
  simp [List.getD, e]
theorem RL.below {w w' : World} {b : Nat} {t : TypeId} {l : List Value} (h : RL w b t l) (hb : Below w.heap.size w w') : RL w' b t l := World.rowIs.of_block h (hb.block b (World.rowIs.lt h))
theorem rl_new (w : World) (c : Array Value) (t : TypeId) : RL (w.alloc (.cells c t)) w.heap.size t c.toList := by
  have := World.rowIs_alloc w c t (fun j => c.toList.getD j .nilIface) (fun i hi => by simp [List.getD, hi])
  unfold RL
  rw [Array.length_toList]
  exact this
theorem rl_results {fn : Func} {sl : Nat} {ty : TypeId} (hr : fn.results = #[.cell sl ty]) {W : World} {tmps : Array Value} {b : Nat} {v : Value} (h2 : tmps.getD sl undef = .pointer (some ⟨b, 0, none⟩)) (hl : (loadVar ty ⟨b, 0, none⟩).run Tryd.prog W = .ok v W) :
    (results fn tmps).run Tryd.prog W = .ok v W := by
  have e0 : results fn tmps = (do
      let x ← asAddr (tmps.getD sl undef)
      loadVar ty x) := by
    simp [results, hr]
  rw [e0, h2]
  simp [asAddr, hl, Result.andThen]
theorem RL.range {w : World} {b : Nat} {t : TypeId} {l : List Value} (h : RL w b t l) : ∀ j v, l[j]? = some v → w.cell? ⟨b, 0 + j, none⟩ = some v := fun j v e => by
  rw [Nat.zero_add]
  exact h.at e
end Go.Proofs.YtdchfmokicfmnaaDoor
end
section
namespace Go.Proofs.YtdchfmokicfmnaaDoor
open Go.RowKit Go.Maps
set_option linter.unusedVariables false
set_option linter.unusedSimpArgs false
attribute [local go_sem ↓] Go.wp_at_zero Go.wp_at_succ

/-- a literal's copy, its marks behind its lists -/
structure TwL (w : World) (lo d : Nat) (x : Lit4) (p : LP) : Prop where
  ts : TwT w lo x.ts p.a p.c
  l : TwIs w lo d x.l p.la p.lc
  r : TwIs w lo d x.r p.ra p.rc
theorem TwL.below {w w' : World} {lo d : Nat} {x : Lit4} {p : LP} (h : TwL w lo d x p) (b : Below w.heap.size w w') : TwL w' lo d x p := ⟨h.ts.below b, h.l.below b, h.r.below b⟩
end Go.Proofs.YtdchfmokicfmnaaDoor
end
section
namespace Go.Proofs.YtdchfmokicfmnaaDoor
open Go.RowKit Go.Maps
set_option linter.unusedVariables false
set_option linter.unusedSimpArgs false
attribute [local go_sem ↓] Go.wp_at_zero Go.wp_at_succ

end Go.Proofs.YtdchfmokicfmnaaDoor
end
section
namespace Go.Proofs.YtdchfmokicfmnaaDoor
open Go.RowKit Go.Maps
set_option linter.unusedVariables false
set_option linter.unusedSimpArgs false
attribute [local go_sem ↓] Go.wp_at_zero Go.wp_at_succ

/-- the terms of a literal, in their order -/
def termsL (d : Nat) (x : Lit4) : List T := x.ts ++ (termsD d x.l ++ termsD d x.r)
/-- a literal's sixteen cells at a place -/
structure LAt (w : World) (g o : Nat) (x : Lit4) (p : LP) : Prop where
  k : w.cell? ⟨g, o, none⟩ = some (.int .i8 x.k)
  pr : w.cell? ⟨g, o + 1, none⟩ = some (.string x.pr)
  ts : w.cell? ⟨g, o + 2, none⟩ = some (.slice p.a x.ts.length p.c)
  rel : w.cell? ⟨g, o + 3, none⟩ = some (.int .i8 x.rel)
  l : XAt w g (o + 4) x.l.op x.l.t (.slice p.la x.l.kids.length p.lc)
  r : XAt w g (o + 10) x.r.op x.r.t (.slice p.ra x.r.kids.length p.rc)
theorem liRule (v : Value) (w : World) : (Instr.typeAssert (.iface 78 v) 20 79 true).run Tryd.prog w = .ok (.tuple #[.pointer none, .bool false]) w := by kernel_rfl
theorem liLiteral (v : Value) (w : World) : (Instr.typeAssert (.iface 78 v) 20 78 true).run Tryd.prog w = .ok (.tuple #[v, .bool true]) w := by kernel_rfl
set_option maxHeartbeats 3200000 in
set_option maxRecDepth 100000 in
theorem walkLiteral_any {B : Nat} {w0 : World} {bo bs bm : Nat} {ns : List ByteArray} {sv : Value} {w : World} (h : Vst B w0 bo bs bm ns sv w) (hB : B = w0.heap.size) (g o : Nat) (hg : g < B) (d : Nat) (x : Lit4) (p : LP) (hx : LAt w0 g o x p) (hL : LIs w0 d x p) (hn : ns.length + (termsL d x).length ≤ 4398046511104) :
    Calls Tryd.prog 35 #[.iface 78 (.pointer (some ⟨g, o, none⟩)), handV bs bo] w fun e w' => (∃ u, e = .returned u) ∧ ∃ sv', Vst B w0 bo bs bm (vsT ns (termsL d x)) sv' w' := by
  unfold termsL at hn ⊢
  simp only [List.length_append] at hn
  rw [vsT_append, vsT_append]
  have l1 := vsT_len x.ts ns
  have l2 := vsT_len (termsD d x.l) (vsT ns x.ts)
  have HA : Hid _ := walkAtom_any h hB g (o + 1) hg p.a p.c x.ts hx.ts hL.ts (by omega)
  have HL1 : Hid (∀ sv1 w1, Vst B w0 bo bs bm (vsT ns x.ts) sv1 w1 → Calls Tryd.prog 35 #[.iface 118 (.pointer (some ⟨g, o + 4, none⟩)), handE bs bo] w1 fun e' w' => (∃ u, e' = .returned u) ∧ ∃ sv', Vst B w0 bo bs bm (vsT (vsT ns x.ts) (termsD d x.l)) sv' w') := fun sv1 w1 hv => walkExpr_any hB d _ sv1 w1 x.l p.la p.lc g (o + 4) hv hg hx.l hL.l (by omega)
  have HL2 : Hid (∀ sv1 w1, Vst B w0 bo bs bm (vsT (vsT ns x.ts) (termsD d x.l)) sv1 w1 → Calls Tryd.prog 35 #[.iface 118 (.pointer (some ⟨g, o + 10, none⟩)), handE bs bo] w1 fun e' w' => (∃ u, e' = .returned u) ∧ ∃ sv', Vst B w0 bo bs bm (vsT (vsT (vsT ns x.ts) (termsD d x.l)) (termsD d x.r)) sv' w') := fun sv1 w1 hv => walkExpr_any hB d _ sv1 w1 x.r p.ra p.rc g (o + 10) hv hg hx.r hL.r (by omega)
  have h1 := liRule (.pointer (some ⟨g, o, none⟩))
  have h2 := liLiteral (.pointer (some ⟨g, o, none⟩))
  unfold handV at HA ⊢
  unfold handE at HL1 HL2
  generalize vsT (vsT (vsT ns x.ts) (termsD d x.l)) (termsD d x.r) = n3 at HL2 ⊢
  generalize vsT (vsT ns x.ts) (termsD d x.l) = n2 at HL1 HL2
  generalize vsT ns x.ts = n1 at HA HL1
  clear l1 l2 h hx hL hn
  go_enter Tryd.func35, Tryd.ntmps35
  go_wp2_with fail
  refine Calls.mono HA.out ?_
  rintro e w1 ⟨⟨u, rfl⟩, sv1, hv1⟩
  go_wp2_with fail
  refine Calls.mono (HL1.out _ _ hv1) ?_
  rintro e w2 ⟨⟨u2, rfl⟩, sv2, hv2⟩
  go_wp2_with fail
  refine Calls.mono (HL2.out _ _ hv2) ?_
  rintro e w3 ⟨⟨u3, rfl⟩, sv3, hv3⟩
  go_wp2
  go_end0
  exact ⟨⟨_, rfl⟩, _, hv3⟩
theorem variablesLiteral_any (g : Nat) (d : Nat) (x : Lit4) (p : LP) (w : World) (hg : g < w.heap.size) (hx : LAt w g 0 x p) (hL : LIs w d x p) (hn : (termsL d x).length ≤ 4398046511104) :
    Calls Tryd.prog 19 #[.iface 78 (.pointer (some ⟨g, 0, none⟩))] w fun e' w' => ∃ sv, e' = .returned sv ∧ w'.ownsRow w.heap.size 9 1 sv (vsT [] (termsL d x)).length ((vsT [] (termsL d x)).flatMap strB) ∧ Below w.heap.size w w' := by
  have HW : Hid _ := walkLiteral_any (vst_new w) rfl g 0 hg d x p hx hL (by simpa using hn)
  unfold handV at HW
  have hmk := run_makeSet
  clear hx hL
  go_enter Tryd.func19, Tryd.ntmps19
  go_wp2_with fail
  refine Calls.mono HW.out ?_
  rintro ee w2 ⟨⟨u, rfl⟩, sv2, hv2⟩
  have c0 := hv2.co
  obtain ⟨a2, c2, rfl, _⟩ := own_form hv2.own
  go_wp2
  go_ret
  exact ⟨_, rfl, hv2.own, hv2.bel⟩
theorem lat_rl {w : World} {b : Nat} {x : Lit4} {p : LP} (h : RL w b 54 [.int .i8 x.k, .string x.pr, .slice p.a x.ts.length p.c, .int .i8 x.rel, .int .i8 x.l.op, .string x.l.t.v, .int .i8 x.l.t.a.k, .int .i64 x.l.t.a.n, .string x.l.t.a.s, .slice p.la x.l.kids.length p.lc, .int .i8 x.r.op, .string x.r.t.v, .int .i8 x.r.t.a.k, .int .i64 x.r.t.a.n, .string x.r.t.a.s, .slice p.ra x.r.kids.length p.rc]) : LAt w b 0 x p :=
  ⟨h.at (j := 0) rfl, h.at (j := 1) rfl, h.at (j := 2) rfl, h.at (j := 3) rfl, ⟨h.at (j := 4) rfl, h.at (j := 5) rfl, h.at (j := 6) rfl, h.at (j := 7) rfl, h.at (j := 8) rfl, h.at (j := 9) rfl⟩, ⟨h.at (j := 10) rfl, h.at (j := 11) rfl, h.at (j := 12) rfl, h.at (j := 13) rfl, h.at (j := 14) rfl, h.at (j := 15) rfl⟩⟩
theorem vliteralVars_any (d : Nat) (x : Lit4) (p : LP) (w : World) (hL : LIs w d x p) (hn : (termsL d x).length ≤ 4398046511104) : Calls Tryd.prog 7 #[x.val p] w fun r w' => ∃ sv, r = .returned sv ∧ Ls w' sv (vsT [] (termsL d x)).length ((vsT [] (termsL d x)).flatMap strB) ∧ Below w.heap.size w w' := by
  have b0 := (Below.refl w.heap.size w).alloc (Nat.le_refl _) (.cells #[.int .i8 x.k, .string x.pr, .slice p.a x.ts.length p.c, .int .i8 x.rel, .int .i8 x.l.op, .string x.l.t.v, .int .i8 x.l.t.a.k, .int .i64 x.l.t.a.n, .string x.l.t.a.s, .slice p.la x.l.kids.length p.lc, .int .i8 x.r.op, .string x.r.t.v, .int .i8 x.r.t.a.k, .int .i64 x.r.t.a.n, .string x.r.t.a.s, .slice p.ra x.r.kids.length p.rc] 54)
  have HV : Hid _ := variablesLiteral_any w.heap.size d x p _ (by simp) (lat_rl (rl_new w #[.int .i8 x.k, .string x.pr, .slice p.a x.ts.length p.c, .int .i8 x.rel, .int .i8 x.l.op, .string x.l.t.v, .int .i8 x.l.t.a.k, .int .i64 x.l.t.a.n, .string x.l.t.a.s, .slice p.la x.l.kids.length p.lc, .int .i8 x.r.op, .string x.r.t.v, .int .i8 x.r.t.a.k, .int .i64 x.r.t.a.n, .string x.r.t.a.s, .slice p.ra x.r.kids.length p.rc] 54)) (hL.below b0) hn
  have HB : Hid (Below w.heap.size w _) := b0
  clear hL
  unfold Lit4.val
  go_enter Tryd.func7, Tryd.ntmps7
  go_wp2_with fail
  refine Calls.mono HV.out ?_
  rintro ee w1 ⟨sv, rfl, ho, b1⟩
  go_wp2
  go_ret
  exact ⟨_, rfl, ls_own ho, b0.trans (b1.mono b0.size)⟩
end Go.Proofs.YtdchfmokicfmnaaDoor
end
section
namespace Go.Proofs.YtdchfmokicfmnaaDoor
open Go.RowKit Go.Maps
set_option linter.unusedVariables false
set_option linter.unusedSimpArgs false
attribute [local go_sem ↓] Go.wp_at_zero Go.wp_at_succ

theorem next_below {wc u v : World} (h : Below wc.heap.size wc u) (h2 : Below u.heap.size u v) : Below wc.heap.size wc v := h.trans (h2.mono h.size)
theorem wrap_mid {d : Int} (h0 : -1000 ≤ d) (h1 : d ≤ 300000000000000) : IntKind.i64.wrap d = d := by simp [IntKind.wrap, IntKind.bits, IntKind.signed]; omega
set_option maxHeartbeats 3200000 in
theorem literalPartsS_any (d : Nat) (x : Lit4) (p : LP) (w : World) (h : LIs w d x p) (lf : Nat) (hlf : lf ≤ 1048576) :
    Calls Tryd.prog 20 #[x.val p, .int .i64 (lf : Int)] w fun r w' => ∃ n : Int, r = .returned (.int .i64 n) ∧ Below w.heap.size w w' ∧ (0 ≤ n ∧ n ≤ (lf : Int) + 1) ∧ (n ≤ (lf : Int) → x.ts.length ≤ 1048576 ∧ (smallE d x.l ∧ szD d x.l ≤ 1048576) ∧ (smallE d x.r ∧ szD d x.r ≤ 1048576)) := by
  have HE1 : Hid (∀ u, Below w.heap.size w u → Calls Tryd.prog 37 #[x.l.val p.la p.lc, .int .i64 (lf : Int)] u fun r w' => ∃ n : Int, r = .returned (.int .i64 n) ∧ Below u.heap.size u w' ∧ (0 ≤ n ∧ n ≤ (lf : Int) + 1) ∧ (n ≤ (lf : Int) → smallE d x.l ∧ (szD d x.l : Int) ≤ n)) := fun u hu => exprPartsS_any d x.l p.la p.lc u (h.l.below hu) lf hlf
  have HE2 : Hid (∀ u (z : Int), 0 ≤ z → z ≤ 1048576 → Below w.heap.size w u → Calls Tryd.prog 37 #[x.r.val p.ra p.rc, .int .i64 z] u fun r w' => ∃ n : Int, r = .returned (.int .i64 n) ∧ Below u.heap.size u w' ∧ (0 ≤ n ∧ n ≤ z + 1) ∧ (n ≤ z → smallE d x.r ∧ (szD d x.r : Int) ≤ n)) := fun u z h0 h1 hu => by
    obtain ⟨m, rfl⟩ : ∃ m : Nat, z = m := ⟨z.toNat, by omega⟩
    exact exprPartsS_any d x.r p.ra p.rc u (h.r.below hu) m (by omega)
  have BA := (Below.refl w.heap.size w).alloc (Nat.le_refl _) (.cells #[.int .i8 x.k, .string x.pr, .slice p.a x.ts.length p.c, .int .i8 x.rel, .int .i8 x.l.op, .string x.l.t.v, .int .i8 x.l.t.a.k, .int .i64 x.l.t.a.n, .string x.l.t.a.s, .slice p.la x.l.kids.length p.lc, .int .i8 x.r.op, .string x.r.t.v, .int .i8 x.r.t.a.k, .int .i64 x.r.t.a.n, .string x.r.t.a.s, .slice p.ra x.r.kids.length p.rc] 54)
  have HR0 : Hid (RL (w.alloc (.cells #[.int .i8 x.k, .string x.pr, .slice p.a x.ts.length p.c, .int .i8 x.rel, .int .i8 x.l.op, .string x.l.t.v, .int .i8 x.l.t.a.k, .int .i64 x.l.t.a.n, .string x.l.t.a.s, .slice p.la x.l.kids.length p.lc, .int .i8 x.r.op, .string x.r.t.v, .int .i8 x.r.t.a.k, .int .i64 x.r.t.a.n, .string x.r.t.a.s, .slice p.ra x.r.kids.length p.rc] 54)) w.heap.size 54 [.int .i8 x.k, .string x.pr, .slice p.a x.ts.length p.c, .int .i8 x.rel, .int .i8 x.l.op, .string x.l.t.v, .int .i8 x.l.t.a.k, .int .i64 x.l.t.a.n, .string x.l.t.a.s, .slice p.la x.l.kids.length p.lc, .int .i8 x.r.op, .string x.r.t.v, .int .i8 x.r.t.a.k, .int .i64 x.r.t.a.n, .string x.r.t.a.s, .slice p.ra x.r.kids.length p.rc]) := rl_new w #[.int .i8 x.k, .string x.pr, .slice p.a x.ts.length p.c, .int .i8 x.rel, .int .i8 x.l.op, .string x.l.t.v, .int .i8 x.l.t.a.k, .int .i64 x.l.t.a.n, .string x.l.t.a.s, .slice p.la x.l.kids.length p.lc, .int .i8 x.r.op, .string x.r.t.v, .int .i8 x.r.t.a.k, .int .i64 x.r.t.a.n, .string x.r.t.a.s, .slice p.ra x.r.kids.length p.rc] 54
  have HBA : Hid (Below w.heap.size w _) := BA
  have hln := h.ln
  have hlen1 : IntKind.i64.wrap (1 + (x.ts.length : Int)) = 1 + (x.ts.length : Int) := wrap_mid (by omega) (by omega)
  clear h BA
  unfold Lit4.val E.val at *
  go_enter Tryd.func20, Tryd.ntmps20
  go_upto_region 1 with fail
  generalize hWW : w.alloc (.cells #[.int .i8 x.k, .string x.pr, .slice p.a x.ts.length p.c, .int .i8 x.rel, .int .i8 x.l.op, .string x.l.t.v, .int .i8 x.l.t.a.k, .int .i64 x.l.t.a.n, .string x.l.t.a.s, .slice p.la x.l.kids.length p.lc, .int .i8 x.r.op, .string x.r.t.v, .int .i8 x.r.t.a.k, .int .i64 x.r.t.a.n, .string x.r.t.a.s, .slice p.ra x.r.kids.length p.rc] 54) = W at HR0 HBA ⊢
  clear hWW
  have HC : Hid (∀ u, Below W.heap.size W u → Below w.heap.size w u ∧ u.cell? ⟨w.heap.size, 2, none⟩ = some (.slice p.a x.ts.length p.c) ∧ u.cell? ⟨w.heap.size, 4, none⟩ = some (.int .i8 x.l.op) ∧ u.cell? ⟨w.heap.size, 5, none⟩ = some (.string x.l.t.v) ∧ u.cell? ⟨w.heap.size, 6, none⟩ = some (.int .i8 x.l.t.a.k) ∧ u.cell? ⟨w.heap.size, 7, none⟩ = some (.int .i64 x.l.t.a.n) ∧ u.cell? ⟨w.heap.size, 8, none⟩ = some (.string x.l.t.a.s) ∧ u.cell? ⟨w.heap.size, 9, none⟩ = some (.slice p.la x.l.kids.length p.lc)) := fun u hu => by
    have hr := RL.below HR0.out hu
    exact ⟨HBA.out.trans (hu.mono HBA.out.size), (hr.at (j := 2) rfl), (hr.at (j := 4) rfl), (hr.at (j := 5) rfl), (hr.at (j := 6) rfl), (hr.at (j := 7) rfl), (hr.at (j := 8) rfl), (hr.at (j := 9) rfl)⟩
  have hB0 : Below W.heap.size W W.drew := (Below.refl _ _).drew
  have hS0 := HC.out _ (Below.refl _ _)
  go_region_held3 (fun u => (Below W.heap.size W u) ∧ u.cell? ⟨w.heap.size, 2, none⟩ = some (.slice p.a x.ts.length p.c) ∧ u.cell? ⟨w.heap.size, 4, none⟩ = some (.int .i8 x.l.op) ∧ u.cell? ⟨w.heap.size, 5, none⟩ = some (.string x.l.t.v) ∧ u.cell? ⟨w.heap.size, 6, none⟩ = some (.int .i8 x.l.t.a.k) ∧ u.cell? ⟨w.heap.size, 7, none⟩ = some (.int .i64 x.l.t.a.n) ∧ u.cell? ⟨w.heap.size, 8, none⟩ = some (.string x.l.t.a.s) ∧ u.cell? ⟨w.heap.size, 9, none⟩ = some (.slice p.la x.l.kids.length p.lc))
    (first
      | assumption
      | exact ⟨hB0, (HC.out _ hB0).2⟩
      | exact ⟨(by assumption), (HC.out _ (by assumption)).2⟩)
    (first
      | (go_at_call 37; refine Calls.mono (HE1.out _ (HC.out _ (by assumption)).1) ?_; rintro ee wf ⟨n1, rfl, bf, ⟨hn0, hn1⟩, hsm⟩; have HSM : Hid _ := hsm; clear hsm; have bf' := next_below (wc := W) (by assumption) bf; have hw2 : IntKind.i64.wrap (1 + (x.ts.length : Int) + n1) = 1 + (x.ts.length : Int) + n1 := wrap_mid (by omega) (by omega))
      | fail)
  have H1 : Hid (RL wf w.heap.size 54 [.int .i8 x.k, .string x.pr, .slice p.a x.ts.length p.c, .int .i8 x.rel, .int .i8 x.l.op, .string x.l.t.v, .int .i8 x.l.t.a.k, .int .i64 x.l.t.a.n, .string x.l.t.a.s, .slice p.la x.l.kids.length p.lc, .int .i8 x.r.op, .string x.r.t.v, .int .i8 x.r.t.a.k, .int .i64 x.r.t.a.n, .string x.r.t.a.s, .slice p.ra x.r.kids.length p.rc]) := RL.below HR0.out bf'
  have B1 : Hid (Below w.heap.size w wf) := (HC.out _ bf').1
  clear HC hB0 hS0 HR0 HBA bf bf' HE1
  by_cases hbig : (lf : Int) < 1 + (x.ts.length : Int) + n1
  · have hw3 : IntKind.i64.wrap ((lf : Int) + 1) = (lf : Int) + 1 := wrap_mid (by omega) (by omega)
    go_wp2
    go_ret
    exact ⟨_, rfl, B1.out, ⟨by omega, by omega⟩, fun h => absurd h (by omega)⟩
  · have hw3 : IntKind.i64.wrap ((lf : Int) - (1 + (x.ts.length : Int) + n1)) = (lf : Int) - (1 + (x.ts.length : Int) + n1) := wrap_mid (by omega) (by omega)
    have z10 := H1.out.at (j := 10) rfl
    have z11 := H1.out.at (j := 11) rfl
    have z12 := H1.out.at (j := 12) rfl
    have z13 := H1.out.at (j := 13) rfl
    have z14 := H1.out.at (j := 14) rfl
    have z15 := H1.out.at (j := 15) rfl
    go_wp2_with fail
    refine Calls.mono (HE2.out _ _ (by omega) (by omega) B1.out) ?_
    rintro ee w2 ⟨n2, rfl, b2, ⟨hm0, hm1⟩, hsm⟩
    have HS2 : Hid _ := hsm
    have hw4 : IntKind.i64.wrap (1 + (x.ts.length : Int) + n1 + n2) = 1 + (x.ts.length : Int) + n1 + n2 := wrap_mid (by omega) (by omega)
    clear hsm
    go_wp2
    go_ret
    exact ⟨_, rfl, B1.out.trans (b2.mono B1.out.size), ⟨by omega, by omega⟩, fun h => ⟨by omega, ⟨(HSM.out (by omega)).1, by have := (HSM.out (by omega)).2; omega⟩, ⟨(HS2.out (by omega)).1, by have := (HS2.out (by omega)).2; omega⟩⟩⟩
end Go.Proofs.YtdchfmokicfmnaaDoor
end
section
namespace Go.Proofs.YtdchfmokicfmnaaDoor
open Go.RowKit Go.Maps
set_option linter.unusedVariables false
set_option linter.unusedSimpArgs false
attribute [local go_sem ↓] Go.wp_at_zero Go.wp_at_succ

/-- a literal and where its lists lie -/
structure XL where
  x : Lit4
  p : LP
def XL.cells (y : XL) : List Value := [.int .i8 y.x.k, .string y.x.pr, .slice y.p.a y.x.ts.length y.p.c, .int .i8 y.x.rel, .int .i8 y.x.l.op, .string y.x.l.t.v, .int .i8 y.x.l.t.a.k, .int .i64 y.x.l.t.a.n, .string y.x.l.t.a.s, .slice y.p.la y.x.l.kids.length y.p.lc, .int .i8 y.x.r.op, .string y.x.r.t.v, .int .i8 y.x.r.t.a.k, .int .i64 y.x.r.t.a.n, .string y.x.r.t.a.s, .slice y.p.ra y.x.r.kids.length y.p.rc]
def smallL (d : Nat) (x : Lit4) : Prop := x.ts.length ≤ 1048576 ∧ (smallE d x.l ∧ szD d x.l ≤ 1048576) ∧ (smallE d x.r ∧ szD d x.r ≤ 1048576)
set_option maxHeartbeats 3200000 in
theorem ruleParts_any (d : Nat) (l : List XL) (g : Nat) (w : World) (hll : l.length ≤ 1000) (hg : g < w.heap.size) (hat : ∀ i (hi : i < l.length), ∀ j v, (l[i].cells)[j]? = some v → w.cell? ⟨g, i * 16 + j, none⟩ = some v) (hX : ∀ y ∈ l, LIs w d y.x y.p) :
    Calls Tryd.prog 11 #[.agg #[.string ⟨#[]⟩, .slice none 0 0, .slice (some ⟨g, 0, none⟩) l.length l.length], .int .i64 1048576] w fun r w' => ∃ n : Int, r = .returned (.int .i64 n) ∧ Below w.heap.size w w' ∧ (n ≤ 1048576 → ∀ y ∈ l, smallL d y.x) := by
  have BA := (Below.refl w.heap.size w).alloc (Nat.le_refl _) (.cells #[.string ⟨#[]⟩, .slice none 0 0, .slice (some ⟨g, 0, none⟩) l.length l.length] 25)
  have HAT : Hid _ := hat
  have HX : Hid _ := hX
  have HBA : Hid (Below w.heap.size w _) := BA
  have HR0 : Hid (RL (w.alloc (.cells #[.string ⟨#[]⟩, .slice none 0 0, .slice (some ⟨g, 0, none⟩) l.length l.length] 25)) w.heap.size 25 [.string ⟨#[]⟩, .slice none 0 0, .slice (some ⟨g, 0, none⟩) l.length l.length]) := rl_new w #[.string ⟨#[]⟩, .slice none 0 0, .slice (some ⟨g, 0, none⟩) l.length l.length] 25
  clear hat hX BA
  go_enter Tryd.func11, Tryd.ntmps11
  go_wp2
  go_loopw [5, 6] (fun n i wr => ∃ (k : Nat) (m : Int), k ≤ l.length ∧ i = .int .i64 k ∧ n = .int .i64 m ∧ 0 ≤ m ∧ m ≤ 1048577 ∧ Below w.heap.size w wr ∧ Hid (RL wr w.heap.size 25 [.string ⟨#[]⟩, .slice none 0 0, .slice (some ⟨g, 0, none⟩) l.length l.length]) ∧ Hid (m ≤ 1048576 → ∀ y ∈ l.take k, smallL d y.x)) (fun _ i _ => l.length - (intOf i).toNat)
  case atStart => exact ⟨0, 1, Nat.zero_le _, rfl, rfl, by omega, by omega, HBA.out, HR0, fun _ y hy => by simp at hy⟩
  case round =>
    obtain ⟨k, m, hk, rfl, rfl, hm0, hm1, bel, HR, HS⟩ := hrel
    have r2 := HR.out.at (j := 2) rfl
    clear HR0 HBA
    by_cases hlt : k < l.length
    · have hlt' : (k : Int) < (l.length : Int) := by omega
      by_cases hmm : m ≤ 1048576
      · have hz := HAT.out k hlt
        have HTk : Hid (l.take (k + 1) = l.take k ++ [l[k]]) := by show _ = _; rw [List.take_add_one, List.getElem?_eq_getElem hlt]; rfl
        have hXk := HX.out l[k] (List.getElem_mem hlt)
        obtain ⟨y, hy⟩ : ∃ y, l[k] = y := ⟨_, rfl⟩
        rw [hy] at hz hXk HTk
        clear hy
        have z0 : wr.cell? ⟨g, k * 16, none⟩ = some (.int .i8 y.x.k) := by rw [bel.cell (p := ⟨g, k * 16, none⟩) hg]; exact hz 0 _ rfl
        have z1 : wr.cell? ⟨g, k * 16 + 1, none⟩ = some (.string y.x.pr) := by rw [bel.cell (p := ⟨g, k * 16 + 1, none⟩) hg]; exact hz 1 _ rfl
        have z2 : wr.cell? ⟨g, k * 16 + 2, none⟩ = some (.slice y.p.a y.x.ts.length y.p.c) := by rw [bel.cell (p := ⟨g, k * 16 + 2, none⟩) hg]; exact hz 2 _ rfl
        have z3 : wr.cell? ⟨g, k * 16 + 3, none⟩ = some (.int .i8 y.x.rel) := by rw [bel.cell (p := ⟨g, k * 16 + 3, none⟩) hg]; exact hz 3 _ rfl
        have z4 : wr.cell? ⟨g, k * 16 + 4, none⟩ = some (.int .i8 y.x.l.op) := by rw [bel.cell (p := ⟨g, k * 16 + 4, none⟩) hg]; exact hz 4 _ rfl
        have z5 : wr.cell? ⟨g, k * 16 + 5, none⟩ = some (.string y.x.l.t.v) := by rw [bel.cell (p := ⟨g, k * 16 + 5, none⟩) hg]; exact hz 5 _ rfl
        have z6 : wr.cell? ⟨g, k * 16 + 6, none⟩ = some (.int .i8 y.x.l.t.a.k) := by rw [bel.cell (p := ⟨g, k * 16 + 6, none⟩) hg]; exact hz 6 _ rfl
        have z7 : wr.cell? ⟨g, k * 16 + 7, none⟩ = some (.int .i64 y.x.l.t.a.n) := by rw [bel.cell (p := ⟨g, k * 16 + 7, none⟩) hg]; exact hz 7 _ rfl
        have z8 : wr.cell? ⟨g, k * 16 + 8, none⟩ = some (.string y.x.l.t.a.s) := by rw [bel.cell (p := ⟨g, k * 16 + 8, none⟩) hg]; exact hz 8 _ rfl
        have z9 : wr.cell? ⟨g, k * 16 + 9, none⟩ = some (.slice y.p.la y.x.l.kids.length y.p.lc) := by rw [bel.cell (p := ⟨g, k * 16 + 9, none⟩) hg]; exact hz 9 _ rfl
        have z10 : wr.cell? ⟨g, k * 16 + 10, none⟩ = some (.int .i8 y.x.r.op) := by rw [bel.cell (p := ⟨g, k * 16 + 10, none⟩) hg]; exact hz 10 _ rfl
        have z11 : wr.cell? ⟨g, k * 16 + 11, none⟩ = some (.string y.x.r.t.v) := by rw [bel.cell (p := ⟨g, k * 16 + 11, none⟩) hg]; exact hz 11 _ rfl
        have z12 : wr.cell? ⟨g, k * 16 + 12, none⟩ = some (.int .i8 y.x.r.t.a.k) := by rw [bel.cell (p := ⟨g, k * 16 + 12, none⟩) hg]; exact hz 12 _ rfl
        have z13 : wr.cell? ⟨g, k * 16 + 13, none⟩ = some (.int .i64 y.x.r.t.a.n) := by rw [bel.cell (p := ⟨g, k * 16 + 13, none⟩) hg]; exact hz 13 _ rfl
        have z14 : wr.cell? ⟨g, k * 16 + 14, none⟩ = some (.string y.x.r.t.a.s) := by rw [bel.cell (p := ⟨g, k * 16 + 14, none⟩) hg]; exact hz 14 _ rfl
        have z15 : wr.cell? ⟨g, k * 16 + 15, none⟩ = some (.slice y.p.ra y.x.r.kids.length y.p.rc) := by rw [bel.cell (p := ⟨g, k * 16 + 15, none⟩) hg]; exact hz 15 _ rfl
        have hw1 : IntKind.i64.wrap (1048576 - m) = 1048576 - m := wrap_mid (by omega) (by omega)
        have HP : Hid (∀ u, Below w.heap.size w u → ∀ z : Int, 0 ≤ z → z ≤ 1048576 → Calls Tryd.prog 20 #[y.x.val y.p, .int .i64 z] u fun r w' => ∃ n : Int, r = .returned (.int .i64 n) ∧ Below u.heap.size u w' ∧ (0 ≤ n ∧ n ≤ z + 1) ∧ (n ≤ z → smallL d y.x)) := fun u hu z h0 h1 => by
          obtain ⟨q, rfl⟩ : ∃ q : Nat, z = q := ⟨z.toNat, by omega⟩
          exact literalPartsS_any d y.x y.p u (hXk.below hu) q (by omega)
        clear hz hXk
        unfold Lit4.val at HP
        go_wp2_with fail
        refine Calls.mono (HP.out _ bel _ (by omega) (by omega)) ?_
        rintro ee w1 ⟨n1, rfl, b1, ⟨hn0, hn1⟩, hsm⟩
        have HR1 : Hid (RL w1 w.heap.size 25 _) := RL.below HR.out b1
        have bel1 := bel.trans (b1.mono bel.size)
        have HSM : Hid _ := hsm
        have hw2 : IntKind.i64.wrap (m + n1) = m + n1 := wrap_mid (by omega) (by omega)
        clear hsm b1 bel r2 HR HP z0 z1 z2 z3 z4 z5 z6 z7 z8 z9 z10 z11 z12 z13 z14 z15
        go_wp2
        go_roundw
        case rel =>
          refine ⟨k + 1, m + n1, by omega, by go_num, rfl, by omega, by omega, bel1, HR1, fun h => ?_⟩
          rw [HTk.out]
          intro y' hy'
          rcases List.mem_append.1 hy' with h1 | h1
          · exact HS.out (by omega) y' h1
          · rw [List.mem_singleton.1 h1]; exact HSM.out (by omega)
        case measure => simp [intOf]; omega
      · have hmm' : ¬ m ≤ 1048576 := hmm
        go_wp2
        go_ret
        exact ⟨_, rfl, bel, fun h => absurd h (by omega)⟩
    · obtain rfl : k = l.length := by omega
      rw [List.take_length] at HS
      go_wp2
      go_ret
      exact ⟨_, rfl, bel, HS.out⟩
end Go.Proofs.YtdchfmokicfmnaaDoor
end
section
namespace Go.Proofs.YtdchfmokicfmnaaDoor
open Go.RowKit Go.Maps
set_option linter.unusedVariables false
set_option linter.unusedSimpArgs false
attribute [local go_sem ↓] Go.wp_at_zero Go.wp_at_succ

theorem EIs.len {w : World} {d : Nat} {e : E} {a : Option Addr} {c : Nat} (h : EIs w d e a c) : e.kids.length ≤ 281474976710656 := by
  cases d with
  | zero => exact h.elim
  | succ d => exact h.1.2
theorem termsL_wf {w : World} {d : Nat} {x : Lit4} {p : LP} (h : LIs w d x p) : ∀ t ∈ termsL d x, t.wf := by
  intro t ht
  unfold termsL at ht
  rcases List.mem_append.1 ht with h1 | h1
  · exact h.ts.wf t h1
  · rcases List.mem_append.1 h1 with h2 | h2
    · exact termsD_wf d _ _ _ h.l t h2
    · exact termsD_wf d _ _ _ h.r t h2
end Go.Proofs.YtdchfmokicfmnaaDoor
end
