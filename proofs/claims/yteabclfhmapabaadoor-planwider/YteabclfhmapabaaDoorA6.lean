import Derived.Test.YteabclfhmapabaaDoorA5
import Derived.Deep.RegionHeld3
import Derived.Test.YteabclfhmapabaaDoorA3
import Derived.Test.YteabclfhmapabaaDoorA4
section
namespace Go.Proofs.YteabclfhmapabaaDoor
open Go.RowKit Go.Maps
set_option linter.unusedVariables false
set_option linter.unusedSimpArgs false
attribute [local go_sem ↓] Go.wp_at_zero Go.wp_at_succ

/-- a copy of a list of terms: a row of its own, with a mark behind it -/
structure TwT (w : World) (lo : Nat) (ts : List T) (a : Option Addr) (c : Nat) : Prop where
  cap : c = ts.length + 1
  lies : ∃ g, a = some ⟨g, 0, none⟩ ∧ lo ≤ g ∧ g < w.heap.size ∧ TAt w g (ts.length * 4) ⟨markW, V0⟩ ∧ ∀ i, i < ts.length → TAt w g (i * 4) (atT ts i)
theorem TwT.below {w w' : World} {lo : Nat} {ts : List T} {a : Option Addr} {c : Nat} (h : TwT w lo ts a c) (b : Below w.heap.size w w') : TwT w' lo ts a c := by
  obtain ⟨h1, g, h2, h3, h4, h5, h6⟩ := h
  exact ⟨h1, g, h2, h3, Nat.lt_of_lt_of_le h4 b.size, h5.below b h4, fun i hi => (h6 i hi).below b h4⟩
theorem TAt.of {w w' : World} {g o : Nat} {t : T} (h : TAt w g o t) (e : w'.heap[g]? = w.heap[g]?) : TAt w' g o t := by
  have hc : ∀ j, w'.cell? ⟨g, j, none⟩ = w.cell? ⟨g, j, none⟩ := fun j => by unfold World.cell?; rw [e]
  exact ⟨(hc _).trans h.c0, (hc _).trans h.c1, (hc _).trans h.c2, (hc _).trans h.c3⟩
theorem TwT.set {w : World} {lo b j : Nat} {v : Value} (hb : b < lo) {ts : List T} {a : Option Addr} {c : Nat} (h : TwT w lo ts a c) : TwT (w.setCell ⟨b, j, none⟩ v) lo ts a c := by
  obtain ⟨h1, g, h2, h3, h4, h5, h6⟩ := h
  have e : (w.setCell ⟨b, j, none⟩ v).heap[g]? = w.heap[g]? := heap_setCell_other _ _ _ _ (by show g ≠ b; omega)
  exact ⟨h1, g, h2, h3, by simpa using h4, h5.of e, fun i hi => (h6 i hi).of e⟩
theorem TwT.lower {w : World} {lo lo' : Nat} (hl : lo' ≤ lo) {ts : List T} {a : Option Addr} {c : Nat} (h : TwT w lo ts a c) : TwT w lo' ts a c := by
  obtain ⟨h1, g, h2, h3, h4, h5, h6⟩ := h
  exact ⟨h1, g, h2, Nat.le_trans hl h3, h4, h5, h6⟩
/-- from cells to a list in memory -/
theorem lt_of_at {w : World} {g n c : Nat} {ts : List T} (hn : ts.length = n) (hc1 : n ≤ c) (hc2 : c ≤ maxLen) (hg : g < w.heap.size) (h : ∀ i, i < ts.length → TAt w g (i * 4) (atT ts i)) (hwf : ∀ t ∈ ts, t.wf) : Lt w (.slice (some ⟨g, 0, none⟩) n c) ts := by
  subst hn
  refine ⟨⟨Nat.le_trans hc1 hc2, _, c, rfl, hc1, hc2, fun _ => ⟨g, 0, rfl, hg, fun i hi => ?_⟩⟩, hwf⟩
  have hl : (ts.flatMap T.cells).length = ts.length * 4 := flat_len T.cells 4 (fun _ => rfl) ts
  have hi4 : i / 4 < ts.length := by omega
  have hx := flat_at T.cells 4 (fun _ => rfl) T0 ts (i / 4) (i % 4) hi4 (by omega)
  rw [show i / 4 * 4 + i % 4 = i by omega] at hx
  have ht := h (i / 4) hi4
  have key : w.cell? ⟨g, i, none⟩ = (T.cells (atT ts (i / 4)))[i % 4]? := by
    obtain h0 | h0 | h0 | h0 : i % 4 = 0 ∨ i % 4 = 1 ∨ i % 4 = 2 ∨ i % 4 = 3 := by omega
    · rw [show i = i / 4 * 4 by omega]
      have := ht.c0
      simpa [T.cells] using this
    · rw [show i = i / 4 * 4 + 1 by omega]
      have := ht.c1
      simpa [T.cells, show (i / 4 * 4 + 1) / 4 = i / 4 by omega, show (i / 4 * 4 + 1) % 4 = 1 by omega] using this
    · rw [show i = i / 4 * 4 + 2 by omega]
      have := ht.c2
      simpa [T.cells, show (i / 4 * 4 + 2) / 4 = i / 4 by omega, show (i / 4 * 4 + 2) % 4 = 2 by omega] using this
    · rw [show i = i / 4 * 4 + 3 by omega]
      have := ht.c3
      simpa [T.cells, show (i / 4 * 4 + 3) / 4 = i / 4 by omega, show (i / 4 * 4 + 3) % 4 = 3 by omega] using this
  rw [Nat.zero_add, key]
  have e2 : (ts.flatMap T.cells)[i]? = (T.cells (atT ts (i / 4)))[i % 4]? := hx
  rw [← e2, List.getElem?_eq_getElem hi]
theorem TwT.lt {w w0 : World} {lo : Nat} {ts : List T} {a : Option Addr} {c : Nat} {v : Value} (h : TwT w lo ts a c) (h0 : Lt w0 v ts) (hl : ts.length ≤ 1048576) : Lt w (.slice a ts.length c) ts := by
  obtain ⟨rfl, g, rfl, _, hg, _, hk⟩ := h
  exact lt_of_at rfl (by omega) (by unfold maxLen; omega) hg hk h0.wf
end Go.Proofs.YteabclfhmapabaaDoor
end
section
namespace Go.Proofs.YteabclfhmapabaaDoor
open Go.RowKit Go.Maps
set_option linter.unusedVariables false
set_option linter.unusedSimpArgs false
attribute [local go_sem ↓] Go.wp_at_zero Go.wp_at_succ

end Go.Proofs.YteabclfhmapabaaDoor
end
section
namespace Go.Proofs.YteabclfhmapabaaDoor
open Go.RowKit Go.Maps
set_option linter.unusedVariables false
set_option linter.unusedSimpArgs false
attribute [local go_sem ↓] Go.wp_at_zero Go.wp_at_succ

end Go.Proofs.YteabclfhmapabaaDoor
end
section
namespace Go.Proofs.YteabclfhmapabaaDoor
open Go.RowKit Go.Maps
set_option linter.unusedVariables false
set_option linter.unusedSimpArgs false
attribute [local go_sem ↓] Go.wp_at_zero Go.wp_at_succ

/-- a block that holds these cells -/
def RL (w : World) (b : Nat) (t : TypeId) (l : List Value) : Prop := w.rowIs b t l.length (fun j => l.getD j .nilIface)
theorem RL.set {w : World} {b : Nat} {t : TypeId} {l : List Value} (h : RL w b t l) (i : Nat) (v : Value) : RL (w.setCell ⟨b, i, none⟩ v) b t (l.set i v) := by
  unfold RL
  rw [List.length_set]
  refine (World.rowIs.set h i v).congr fun j hj => ?_
  by_cases e : j = i
  · subst e
    rw [if_pos rfl]
    simp [List.getD, List.getElem?_set_self hj]
  · rw [if_neg e]
    simp [List.getD, List.getElem?_set_ne (Ne.symm e)]
theorem RL.other {w : World} {b g i : Nat} {t : TypeId} {l : List Value} (h : RL w b t l) (e : b ≠ g) (v : Value) : RL (w.setCell ⟨g, i, none⟩ v) b t l := World.rowIs.setOther h e v
theorem RL.at {w : World} {b : Nat} {t : TypeId} {l : List Value} (h : RL w b t l) {j : Nat} {v : Value} (e : l[j]? = some v) : w.cell? ⟨b, j, none⟩ = some v := by
  obtain ⟨hj, hv⟩ := List.getElem?_eq_some_iff.1 e
  rw [World.rowIs.cell h hj]
  simp [List.getD, e]
theorem RL.below {w w' : World} {b : Nat} {t : TypeId} {l : List Value} (h : RL w b t l) (hb : Below w.heap.size w w') : RL w' b t l := World.rowIs.of_block h (hb.block b (World.rowIs.lt h))
theorem rl_new (w : World) (c : Array Value) (t : TypeId) : RL (w.alloc (.cells c t)) w.heap.size t c.toList := by
  have := World.rowIs_alloc w c t (fun j => c.toList.getD j .nilIface) (fun i hi => by simp [List.getD, hi])
  unfold RL
  rw [Array.length_toList]
  exact this
theorem rl_results {fn : Func} {sl : Nat} {ty : TypeId} (hr : fn.results = #[.cell sl ty]) {W : World} {tmps : Array Value} {b : Nat} {v : Value} (h2 : tmps.getD sl undef = .pointer (some ⟨b, 0, none⟩)) (hl : (loadVar ty ⟨b, 0, none⟩).run Tryd.prog W = .ok v W) :
    (results fn tmps).run Tryd.prog W = .ok v W := by
  have e0 : results fn tmps = (do
      let x ← asAddr (tmps.getD sl undef)
      loadVar ty x) := by
    simp [results, hr]
  rw [e0, h2]
  simp [asAddr, hl, Result.andThen]
theorem RL.range {w : World} {b : Nat} {t : TypeId} {l : List Value} (h : RL w b t l) : ∀ j v, l[j]? = some v → w.cell? ⟨b, 0 + j, none⟩ = some v := fun j v e => by
  rw [Nat.zero_add]
  exact h.at e
end Go.Proofs.YteabclfhmapabaaDoor
end
section
namespace Go.Proofs.YteabclfhmapabaaDoor
open Go.RowKit Go.Maps
set_option linter.unusedVariables false
set_option linter.unusedSimpArgs false
attribute [local go_sem ↓] Go.wp_at_zero Go.wp_at_succ

/-- a literal's copy, its marks behind its lists -/
structure TwL (w : World) (lo d : Nat) (x : Lit4) (p : LP) : Prop where
  ts : TwT w lo x.ts p.a p.c
  l : TwIs w lo d x.l p.la p.lc
  r : TwIs w lo d x.r p.ra p.rc
theorem TwL.below {w w' : World} {lo d : Nat} {x : Lit4} {p : LP} (h : TwL w lo d x p) (b : Below w.heap.size w w') : TwL w' lo d x p := ⟨h.ts.below b, h.l.below b, h.r.below b⟩
end Go.Proofs.YteabclfhmapabaaDoor
end
section
namespace Go.Proofs.YteabclfhmapabaaDoor
open Go.RowKit Go.Maps
set_option linter.unusedVariables false
set_option linter.unusedSimpArgs false
attribute [local go_sem ↓] Go.wp_at_zero Go.wp_at_succ

end Go.Proofs.YteabclfhmapabaaDoor
end
section
namespace Go.Proofs.YteabclfhmapabaaDoor
open Go.RowKit Go.Maps
set_option linter.unusedVariables false
set_option linter.unusedSimpArgs false
attribute [local go_sem ↓] Go.wp_at_zero Go.wp_at_succ

/-- the terms of a literal, in their order -/
def termsL (d : Nat) (x : Lit4) : List T := x.ts ++ (termsD d x.l ++ termsD d x.r)
/-- a literal's sixteen cells at a place -/
structure LAt (w : World) (g o : Nat) (x : Lit4) (p : LP) : Prop where
  k : w.cell? ⟨g, o, none⟩ = some (.int .i8 x.k)
  pr : w.cell? ⟨g, o + 1, none⟩ = some (.string x.pr)
  ts : w.cell? ⟨g, o + 2, none⟩ = some (.slice p.a x.ts.length p.c)
  rel : w.cell? ⟨g, o + 3, none⟩ = some (.int .i8 x.rel)
  l : XAt w g (o + 4) x.l.op x.l.t (.slice p.la x.l.kids.length p.lc)
  r : XAt w g (o + 10) x.r.op x.r.t (.slice p.ra x.r.kids.length p.rc)
theorem liRule (v : Value) (w : World) : (Instr.typeAssert (.iface 118 v) 20 91 true).run Tryd.prog w = .ok (.tuple #[.pointer none, .bool false]) w := by kernel_rfl
theorem liLiteral (v : Value) (w : World) : (Instr.typeAssert (.iface 118 v) 20 118 true).run Tryd.prog w = .ok (.tuple #[v, .bool true]) w := by kernel_rfl
set_option maxHeartbeats 3200000 in
set_option maxRecDepth 100000 in
theorem walkLiteral_any {B : Nat} {w0 : World} {bo bs bm : Nat} {ns : List ByteArray} {sv : Value} {w : World} (h : Vst B w0 bo bs bm ns sv w) (hB : B = w0.heap.size) (g o : Nat) (hg : g < B) (d : Nat) (x : Lit4) (p : LP) (hx : LAt w0 g o x p) (hL : LIs w0 d x p) (hn : ns.length + (termsL d x).length ≤ 4398046511104) :
    Calls Tryd.prog 29 #[.iface 118 (.pointer (some ⟨g, o, none⟩)), handV bs bo] w fun e w' => (∃ u, e = .returned u) ∧ ∃ sv', Vst B w0 bo bs bm (vsT ns (termsL d x)) sv' w' := by
  unfold termsL at hn ⊢
  simp only [List.length_append] at hn
  rw [vsT_append, vsT_append]
  have l1 := vsT_len x.ts ns
  have l2 := vsT_len (termsD d x.l) (vsT ns x.ts)
  have HA : Hid _ := walkAtom_any h hB g (o + 1) hg p.a p.c x.ts hx.ts hL.ts (by omega)
  have HL1 : Hid (∀ sv1 w1, Vst B w0 bo bs bm (vsT ns x.ts) sv1 w1 → Calls Tryd.prog 29 #[.iface 123 (.pointer (some ⟨g, o + 4, none⟩)), handE bs bo] w1 fun e' w' => (∃ u, e' = .returned u) ∧ ∃ sv', Vst B w0 bo bs bm (vsT (vsT ns x.ts) (termsD d x.l)) sv' w') := fun sv1 w1 hv => walkExpr_any hB d _ sv1 w1 x.l p.la p.lc g (o + 4) hv hg hx.l hL.l (by omega)
  have HL2 : Hid (∀ sv1 w1, Vst B w0 bo bs bm (vsT (vsT ns x.ts) (termsD d x.l)) sv1 w1 → Calls Tryd.prog 29 #[.iface 123 (.pointer (some ⟨g, o + 10, none⟩)), handE bs bo] w1 fun e' w' => (∃ u, e' = .returned u) ∧ ∃ sv', Vst B w0 bo bs bm (vsT (vsT (vsT ns x.ts) (termsD d x.l)) (termsD d x.r)) sv' w') := fun sv1 w1 hv => walkExpr_any hB d _ sv1 w1 x.r p.ra p.rc g (o + 10) hv hg hx.r hL.r (by omega)
  have h1 := liRule (.pointer (some ⟨g, o, none⟩))
  have h2 := liLiteral (.pointer (some ⟨g, o, none⟩))
  unfold handV at HA ⊢
  unfold handE at HL1 HL2
  generalize vsT (vsT (vsT ns x.ts) (termsD d x.l)) (termsD d x.r) = n3 at HL2 ⊢
  generalize vsT (vsT ns x.ts) (termsD d x.l) = n2 at HL1 HL2
  generalize vsT ns x.ts = n1 at HA HL1
  clear l1 l2 h hx hL hn
  go_enter Tryd.func29, Tryd.ntmps29
  go_wp2_with fail
  refine Calls.mono HA.out ?_
  rintro e w1 ⟨⟨u, rfl⟩, sv1, hv1⟩
  go_wp2_with fail
  refine Calls.mono (HL1.out _ _ hv1) ?_
  rintro e w2 ⟨⟨u2, rfl⟩, sv2, hv2⟩
  go_wp2_with fail
  refine Calls.mono (HL2.out _ _ hv2) ?_
  rintro e w3 ⟨⟨u3, rfl⟩, sv3, hv3⟩
  go_wp2
  go_end0
  exact ⟨⟨_, rfl⟩, _, hv3⟩
end Go.Proofs.YteabclfhmapabaaDoor
end
section
namespace Go.Proofs.YteabclfhmapabaaDoor
open Go.RowKit Go.Maps
set_option linter.unusedVariables false
set_option linter.unusedSimpArgs false
attribute [local go_sem ↓] Go.wp_at_zero Go.wp_at_succ

theorem next_below {wc u v : World} (h : Below wc.heap.size wc u) (h2 : Below u.heap.size u v) : Below wc.heap.size wc v := h.trans (h2.mono h.size)
theorem wrap_mid {d : Int} (h0 : -1000 ≤ d) (h1 : d ≤ 300000000000000) : IntKind.i64.wrap d = d := by simp [IntKind.wrap, IntKind.bits, IntKind.signed]; omega
end Go.Proofs.YteabclfhmapabaaDoor
end
section
namespace Go.Proofs.YteabclfhmapabaaDoor
open Go.RowKit Go.Maps
set_option linter.unusedVariables false
set_option linter.unusedSimpArgs false
attribute [local go_sem ↓] Go.wp_at_zero Go.wp_at_succ

/-- a literal and where its lists lie -/
structure XL where
  x : Lit4
  p : LP
def XL.cells (y : XL) : List Value := [.int .i8 y.x.k, .string y.x.pr, .slice y.p.a y.x.ts.length y.p.c, .int .i8 y.x.rel, .int .i8 y.x.l.op, .string y.x.l.t.v, .int .i8 y.x.l.t.a.k, .int .i64 y.x.l.t.a.n, .string y.x.l.t.a.s, .slice y.p.la y.x.l.kids.length y.p.lc, .int .i8 y.x.r.op, .string y.x.r.t.v, .int .i8 y.x.r.t.a.k, .int .i64 y.x.r.t.a.n, .string y.x.r.t.a.s, .slice y.p.ra y.x.r.kids.length y.p.rc]
def smallL (d : Nat) (x : Lit4) : Prop := x.ts.length ≤ 1048576 ∧ (smallE d x.l ∧ szD d x.l ≤ 1048576) ∧ (smallE d x.r ∧ szD d x.r ≤ 1048576)
end Go.Proofs.YteabclfhmapabaaDoor
end
section
namespace Go.Proofs.YteabclfhmapabaaDoor
open Go.RowKit Go.Maps
set_option linter.unusedVariables false
set_option linter.unusedSimpArgs false
attribute [local go_sem ↓] Go.wp_at_zero Go.wp_at_succ

theorem EIs.len {w : World} {d : Nat} {e : E} {a : Option Addr} {c : Nat} (h : EIs w d e a c) : e.kids.length ≤ 281474976710656 := by
  cases d with
  | zero => exact h.elim
  | succ d => exact h.1.2
theorem termsL_wf {w : World} {d : Nat} {x : Lit4} {p : LP} (h : LIs w d x p) : ∀ t ∈ termsL d x, t.wf := by
  intro t ht
  unfold termsL at ht
  rcases List.mem_append.1 ht with h1 | h1
  · exact h.ts.wf t h1
  · rcases List.mem_append.1 h1 with h2 | h2
    · exact termsD_wf d _ _ _ h.l t h2
    · exact termsD_wf d _ _ _ h.r t h2
end Go.Proofs.YteabclfhmapabaaDoor
end
