import Derived.Test.YtikjphfeeljhbaaGreatDoorPrintL
import Derived.Test.YtikjphfeeljhbaaGreatDoorTermLit
import Derived.Laws.EntriesVeiled
namespace Go.Proofs.YtikjphfeeljhbaaGreatDoor
open Go.RowKit Go.Maps
set_option linter.unusedVariables false
set_option linter.unusedSimpArgs false
attribute [local go_sem ↓] Go.wp_at_zero Go.wp_at_succ

def relTab : List (List UInt8) := [[], [61], [33, 61], [60], [60, 61], [62], [62, 61]]
def relT (n : Nat) : List UInt8 := relTab.getD n []
def relS (n : Nat) : ByteArray := ⟨(relT n).toArray⟩
theorem relS_bytes (n : Nat) : (relS n).data.toList = relT n := by simp [relS]
theorem relS_size (n : Nat) : (relS n).size = (relT n).length := by rw [← len_toList, relS_bytes]
/-- the text of a literal that is one -/
def litT (x : Lit4) : List UInt8 := if x.k = 1 then atomT x.pr x.ts else if x.k = 2 then [110, 111, 116, 32] ++ atomT x.pr x.ts else textE 8 x.l ++ (([32] ++ relT x.rel.toNat ++ [32]) ++ textE 8 x.r)
def Lit4.cells (x : Lit4) (p : LP) : Array Value := #[.int .i8 x.k, .string x.pr, .slice p.a x.ts.length p.c, .int .i8 x.rel, .int .i8 x.l.op, .string x.l.t.v, .int .i8 x.l.t.a.k, .int .i64 x.l.t.a.n, .string x.l.t.a.s, .slice p.la x.l.kids.length p.lc, .int .i8 x.r.op, .string x.r.t.v, .int .i8 x.r.t.a.k, .int .i64 x.r.t.a.n, .string x.r.t.a.s, .slice p.ra x.r.kids.length p.rc]

set_option maxHeartbeats 1600000 in
theorem wquery_any {B b : Nat} (pr : ByteArray) (v : Value) (ts : List T) (W0 : World) (hW : W0.heap.size ≤ B) (hL : Lt W0 v ts) (hp : PW W0) (hok : ts.all termB = true) (l : List UInt8) (w : World) (hb : Below W0.heap.size W0 w) (h : BldA B b l w) (hBw : B ≤ w.heap.size)
    (hl : l.length + (atomT pr ts ++ [63]).length ≤ 1099511627776) :
    Calls Tryz.prog 25 #[self b, .agg #[.string pr, v]] w (Wrote B b l (atomT pr ts ++ [63]) w) := by
  have HLt : Hid (Lt W0 v ts) := hL
  obtain ⟨a, c, rfl, hc1, hc2, hat⟩ := hL.form
  have HL : Hid (l.length + ((atomT pr ts).length + 1) ≤ 1099511627776) := by rw [List.length_append] at hl; exact hl
  have BA := (Below.refl w.heap.size w).alloc (Nat.le_refl _) (.cells #[.string pr, .slice a ts.length c] 29)
  have HB : Hid (BldA B b l _) := h.below BA
  clear hL hat hl h
  unfold self
  go_enter Tryz.func25, Tryz.ntmps25
  go_wp2_with fail
  refine (watom_any pr (.slice a ts.length c) ts W0 hW HLt.out hp hok l _ (hb.trans (BA.mono hb.size)) HB.out (Nat.le_trans hBw BA.size) (by have := HL.out; omega)).mono ?_
  rintro ee w2 hw2
  obtain ⟨rfl, k1, k2, k3⟩ := hw2.from (BA.mono hBw) (Spare.below BA)
  go_wp2_with fail
  refine (put_new (g := w2.heap.size) ⟨#[63]⟩ rfl k1 (Nat.le_trans hBw k2.size) (by have := HL.out; rw [List.length_append]; show _ + 1 ≤ _; omega)).mono ?_
  rintro ee w3 hw3
  obtain ⟨rfl, k4, k5, k6⟩ := hw3.from k2 k3
  clear k1 k2 k3
  go_wp2
  go_end0
  exact ⟨rfl, by rw [← List.append_assoc]; exact k4, k5, k6⟩
set_option maxHeartbeats 1600000 in
theorem wclaim_any {B b : Nat} (d : Nat) (x : Lit4) (p : LP) (W0 : World) (hW : W0.heap.size ≤ B) (hX : LIs W0 d x p) (hp : PW W0) (hok : x.ts.all termB = true) (l : List UInt8) (w : World) (hb : Below W0.heap.size W0 w) (h : BldA B b l w) (hBw : B ≤ w.heap.size)
    (hl : l.length + (atomT x.pr x.ts).length ≤ 1099511627776) :
    Calls Tryz.prog 57 #[self b, x.val p] w (Wrote B b l (atomT x.pr x.ts) w) := by
  have BA := (Below.refl w.heap.size w).alloc (Nat.le_refl _) (.cells (x.cells p) 81)
  have HB : Hid (BldA B b l _) := h.below BA
  have HL : Hid _ := hl
  have HT : Hid _ := hX.ts
  clear hl h hX
  unfold self Lit4.val
  unfold Lit4.cells at BA HB
  go_enter Tryz.func57, Tryz.ntmps57
  go_wp2_with fail
  refine (watom_any x.pr (.slice p.a x.ts.length p.c) x.ts W0 hW HT.out hp hok l _ (hb.trans (BA.mono hb.size)) HB.out (Nat.le_trans hBw BA.size) HL.out).mono ?_
  rintro ee w2 hw2
  obtain ⟨rfl, hw3⟩ := hw2.from (BA.mono hBw) (Spare.below BA)
  go_wp2
  go_end0
  exact ⟨rfl, hw3⟩
set_option maxHeartbeats 1600000 in
theorem wdenial_any {B b : Nat} (d : Nat) (x : Lit4) (p : LP) (W0 : World) (hW : W0.heap.size ≤ B) (hX : LIs W0 d x p) (hp : PW W0) (hok : x.ts.all termB = true) (l : List UInt8) (w : World) (hb : Below W0.heap.size W0 w) (h : BldA B b l w) (hBw : B ≤ w.heap.size)
    (hl : l.length + ([110, 111, 116, 32] ++ atomT x.pr x.ts).length ≤ 1099511627776) :
    Calls Tryz.prog 58 #[self b, x.val p] w (Wrote B b l ([110, 111, 116, 32] ++ atomT x.pr x.ts) w) := by
  have BA := (Below.refl w.heap.size w).alloc (Nat.le_refl _) (.cells (x.cells p) 81)
  have HN : Hid _ := heap_alloc_new w (.cells (x.cells p) 81)
  have HB : Hid (BldA B b l _) := h.below BA
  have HL : Hid (l.length + (4 + (atomT x.pr x.ts).length) ≤ 1099511627776) := by rw [List.length_append] at hl; exact hl
  have HT : Hid _ := hX.ts
  have hnb : w.heap.size ≠ b := by have := h.lt; omega
  clear hl h hX
  unfold self Lit4.val
  unfold Lit4.cells at BA HB HN
  go_enter Tryz.func58, Tryz.ntmps58
  go_wp2_with fail
  refine (put_new (g := w.heap.size + 1) ⟨#[110, 111, 116, 32]⟩ (by simp) HB.out (Nat.le_trans hBw BA.size) (by have := HL.out; show _ + 4 ≤ _; omega)).mono ?_
  rintro ee w2 ⟨rfl, k1, k2, k3⟩
  have y1 : w2.cell? ⟨w.heap.size, 1, none⟩ = some (.string x.pr) := by rw [k3.cell HN.out (by decide) hnb]; rfl
  have y2 : w2.cell? ⟨w.heap.size, 2, none⟩ = some (.slice p.a x.ts.length p.c) := by rw [k3.cell HN.out (by decide) hnb]; rfl
  have HW2 : Hid (Below B w w2 ∧ Spare b w w2) := ⟨(BA.mono hBw).trans k2, (Spare.below BA).trans k3⟩
  clear k2 k3 BA HB HN
  go_wp2_with fail
  refine (watom_any x.pr (.slice p.a x.ts.length p.c) x.ts W0 hW HT.out hp hok _ w2 (hb.trans (HW2.out.1.mono hW)) k1 (Nat.le_trans hBw HW2.out.1.size) (by have := HL.out; rw [List.length_append]; show _ + 4 + _ ≤ _; omega)).mono ?_
  rintro ee w3 hw3
  obtain ⟨rfl, k4, k5, k6⟩ := hw3.from HW2.out.1 HW2.out.2
  clear y1 y2 k1
  go_wp2
  go_end0
  exact ⟨rfl, by simpa [List.append_assoc] using k4, k5, k6⟩
structure Gq (w : World) : Prop where
  gp : Gp w
  lre : 3 < w.heap.size
  re : ∀ i : Nat, i < 7 → w.cell? ⟨3, i, none⟩ = some (.string (relS i))
theorem Gq.below {w w' : World} (h : Gq w) (b : Below w.heap.size w w') : Gq w' :=
  ⟨h.gp.below b, Nat.lt_of_lt_of_le h.lre b.size, fun i hi => by rw [b.cell (p := ⟨_, i, none⟩) h.lre]; exact h.re i hi⟩
theorem relT_len (p : Nat) : (relT p).length ≤ 2 := by
  by_cases h : p < 7
  · exact (by decide : ∀ p : Fin 7, (relT p.val).length ≤ 2) ⟨p, h⟩
  · unfold relT
    rw [List.getD, List.getElem?_eq_none (by simp [relTab]; omega)]
    simp
set_option maxHeartbeats 1600000 in
theorem wcomparison_any {B b : Nat} (d : Nat) (x : Lit4) (p : LP) (W0 : World) (hW : W0.heap.size ≤ B) (hX : LIs W0 d x p) (hG : Gq W0) (h1 : 1 ≤ x.rel) (h6 : x.rel ≤ 6) (hel : exprB 8 x.l = true) (her : exprB 8 x.r = true) (l : List UInt8) (w : World) (hb : Below W0.heap.size W0 w) (h : BldA B b l w) (hBw : B ≤ w.heap.size)
    (hl : l.length + (textE 8 x.l ++ (([32] ++ relT x.rel.toNat ++ [32]) ++ textE 8 x.r)).length ≤ 1099511627776) :
    Calls Tryz.prog 59 #[self b, x.val p] w (Wrote B b l (textE 8 x.l ++ (([32] ++ relT x.rel.toNat ++ [32]) ++ textE 8 x.r)) w) := by
  obtain ⟨q, hq, hq7⟩ : ∃ q : Nat, x.rel = (q : Int) ∧ q < 7 := ⟨x.rel.toNat, by omega, by omega⟩
  have hqt : x.rel.toNat = q := by omega
  rw [hqt] at hl ⊢
  have BA := (Below.refl w.heap.size w).alloc (Nat.le_refl _) (.cells (x.cells p) 81)
  have HN : Hid _ := heap_alloc_new w (.cells (x.cells p) 81)
  have HB : Hid (BldA B b l _) := h.below BA
  have HL : Hid (l.length + ((textE 8 x.l).length + (2 + (relS q).size + (textE 8 x.r).length)) ≤ 1099511627776) := by
    simp only [List.length_append, List.length_cons, List.length_nil] at hl
    rw [relS_size]
    show _ ≤ _
    omega
  have hnb : w.heap.size ≠ b := by have := h.lt; omega
  have HXl : Hid (∀ (l : List UInt8) (w : World), Below W0.heap.size W0 w → BldA B b l w → B ≤ w.heap.size → l.length + (textE 8 x.l).length ≤ 1099511627776 → Calls Tryz.prog 48 #[self b, x.l.val p.la p.lc] w (Wrote B b l (textE 8 x.l) w)) := wexpr_any 8 d x.l p.la p.lc W0 B b hG.gp hW hX.l hel
  have HXr : Hid (∀ (l : List UInt8) (w : World), Below W0.heap.size W0 w → BldA B b l w → B ≤ w.heap.size → l.length + (textE 8 x.r).length ≤ 1099511627776 → Calls Tryz.prog 48 #[self b, x.r.val p.ra p.rc] w (Wrote B b l (textE 8 x.r) w)) := wexpr_any 8 d x.r p.ra p.rc W0 B b hG.gp hW hX.r her
  have HRe : Hid (∀ u, Below W0.heap.size W0 u → u.cell? ⟨3, q, none⟩ = some (.string (relS q))) := fun u hu => (hG.below hu).re q hq7
  have HOB : Hid ((relS q).data.toList = relT q) := relS_bytes q
  have hq7' : (q : Int) < 7 := by omega
  clear hl h hX hG hel her h1 h6 hqt
  unfold self Lit4.val
  unfold Lit4.cells at BA HB HN
  rw [hq] at BA HB HN ⊢
  clear hq
  generalize relS q = os at HL HRe HOB
  go_enter Tryz.func59, Tryz.ntmps59
  go_wp2_with fail
  refine (HXl.out l _ (hb.trans (BA.mono hb.size)) HB.out (Nat.le_trans hBw BA.size) (by have := HL.out; omega)).mono ?_
  rintro ee w2 ⟨rfl, k1, k2, k3⟩
  have HW2 : Hid (Below B w w2 ∧ Spare b w w2) := ⟨(BA.mono hBw).trans k2, (Spare.below BA).trans k3⟩
  have HN2 : Hid _ := k3 _ _ _ _ HN.out (by decide) hnb
  have y3 : w2.cell? ⟨w.heap.size, 3, none⟩ = some (.int .i8 (q : Int)) := by rw [k3.cell HN.out (by decide) hnb]; rfl
  have hbW2 : Hid (Below W0.heap.size W0 w2) := hb.trans (HW2.out.1.mono hW)
  have co := HRe.out _ hbW2.out
  clear k2 k3 BA HB HN
  go_wp2_with fail
  refine (put_new3 (g := w2.heap.size) ⟨#[32]⟩ os ⟨#[32]⟩ rfl k1 (Nat.le_trans hBw HW2.out.1.size) (by have := HL.out; rw [List.length_append]; show _ + (1 + os.size + 1) ≤ _; omega)).mono ?_
  rintro ee w3 ⟨rfl, k4, k5, k6⟩
  have HW3 : Hid (Below B w w3 ∧ Spare b w w3) := ⟨HW2.out.1.trans k5, HW2.out.2.trans k6⟩
  have z : ∀ j, w3.cell? ⟨w.heap.size, j, none⟩ = _ := fun j => k6.cell HN2.out (by decide) hnb j
  have z10 := z 10; have z11 := z 11; have z12 := z 12; have z13 := z 13; have z14 := z 14; have z15 := z 15
  rw [HOB.out] at k4
  clear z co y3 k1 k5 k6 HN2
  go_wp2_with fail
  refine (HXr.out _ w3 (hb.trans (HW3.out.1.mono hW)) k4 (Nat.le_trans hBw HW3.out.1.size) (by have := HL.out; simp only [List.length_append, List.length_cons, List.length_nil]; rw [← HOB.out, len_toList]; omega)).mono ?_
  rintro ee w4 hw4
  obtain ⟨rfl, k7, k8, k9⟩ := hw4.from HW3.out.1 HW3.out.2
  clear z10 z11 z12 z13 z14 z15 k4
  go_wp2
  go_end0
  exact ⟨rfl, by simpa [List.append_assoc] using k7, k8, k9⟩
def fnV (n : Nat) : Value := .func (.func n) #[] #[]
/-- what a literal that is one has -/
theorem litB_form {x : Lit4} (h : litB x = true) : (x.k = 1 ∧ atomB x.pr x.ts = true) ∨ (x.k = 2 ∧ atomB x.pr x.ts = true) ∨ (x.k = 3 ∧ 1 ≤ x.rel ∧ x.rel ≤ 6 ∧ exprB 8 x.l = true ∧ exprB 8 x.r = true) := by
  unfold litB at h
  by_cases k12 : x.k = 1 ∨ x.k = 2
  · rw [if_pos k12] at h
    simp only [Bool.and_eq_true] at h
    rcases k12 with e | e
    · exact .inl ⟨e, h.1⟩
    · exact .inr (.inl ⟨e, h.1⟩)
  · rw [if_neg k12] at h
    by_cases k3 : x.k = 3
    · rw [if_pos k3] at h
      simp only [Bool.and_eq_true, decide_eq_true_eq] at h
      exact .inr (.inr ⟨k3, h.2.2.1, h.2.2.2.1, h.2.2.2.2.1, h.2.2.2.2.2⟩)
    · rw [if_neg k3] at h
      cases h
theorem atomB_all {p : ByteArray} {ts : List T} (h : atomB p ts = true) : ts.all termB = true := by
  unfold atomB at h
  simp only [Bool.and_eq_true] at h
  exact h.2
theorem way0 (u : World) : (Instr.index 126 (.agg #[.int .i8 1, .func (.func 57) #[] #[], .int .i8 2, .func (.func 58) #[] #[], .int .i8 3, .func (.func 59) #[] #[]]) (.int .i64 0)).run Tryz.prog u = .ok (.agg #[.int .i8 1, .func (.func 57) #[] #[]]) u := by
  simp [Instr.index, run_underlying Tryz.underlying126, asIntOf, go_sem, Tryz.sizeOf125, Tryz.isAgg125]
theorem way1 (u : World) : (Instr.index 126 (.agg #[.int .i8 1, .func (.func 57) #[] #[], .int .i8 2, .func (.func 58) #[] #[], .int .i8 3, .func (.func 59) #[] #[]]) (.int .i64 1)).run Tryz.prog u = .ok (.agg #[.int .i8 2, .func (.func 58) #[] #[]]) u := by
  simp [Instr.index, run_underlying Tryz.underlying126, asIntOf, go_sem, Tryz.sizeOf125, Tryz.isAgg125]
theorem way2 (u : World) : (Instr.index 126 (.agg #[.int .i8 1, .func (.func 57) #[] #[], .int .i8 2, .func (.func 58) #[] #[], .int .i8 3, .func (.func 59) #[] #[]]) (.int .i64 2)).run Tryz.prog u = .ok (.agg #[.int .i8 3, .func (.func 59) #[] #[]]) u := by
  simp [Instr.index, run_underlying Tryz.underlying126, asIntOf, go_sem, Tryz.sizeOf125, Tryz.isAgg125]
set_option maxHeartbeats 3200000 in
set_option maxRecDepth 20000 in
theorem wliteral_any {B b : Nat} (d : Nat) (x : Lit4) (p : LP) (W0 : World) (hW : W0.heap.size ≤ B) (hX : LIs W0 d x p) (hG : Gq W0) (hok : litB x = true) (l : List UInt8) (w : World) (hb : Below W0.heap.size W0 w) (h : BldA B b l w) (hBw : B ≤ w.heap.size)
    (hl : l.length + (litT x).length ≤ 1099511627776) :
    Calls Tryz.prog 37 #[self b, x.val p] w (Wrote B b l (litT x) w) := by
  obtain ⟨f, hf, HC⟩ : ∃ f : Nat, (x.k = 1 ∧ f = 57 ∨ x.k = 2 ∧ f = 58 ∨ x.k = 3 ∧ f = 59) ∧ Hid (∀ u, Below W0.heap.size W0 u → BldA B b l u → B ≤ u.heap.size → Calls Tryz.prog f #[self b, x.val p] u (Wrote B b l (litT x) u)) := by
    rcases litB_form hok with ⟨e, ha⟩ | ⟨e, ha⟩ | ⟨e, r1, r6, el, er⟩
    · have hT : litT x = atomT x.pr x.ts := by unfold litT; rw [if_pos e]
      rw [hT] at hl ⊢
      exact ⟨_, .inl ⟨e, rfl⟩, fun u h1 h2 h3 => wclaim_any d x p W0 hW hX hG.gp.pw (atomB_all ha) l u h1 h2 h3 hl⟩
    · have hT : litT x = [110, 111, 116, 32] ++ atomT x.pr x.ts := by unfold litT; rw [if_neg (by omega), if_pos e]
      rw [hT] at hl ⊢
      exact ⟨_, .inr (.inl ⟨e, rfl⟩), fun u h1 h2 h3 => wdenial_any d x p W0 hW hX hG.gp.pw (atomB_all ha) l u h1 h2 h3 hl⟩
    · have hT : litT x = textE 8 x.l ++ (([32] ++ relT x.rel.toNat ++ [32]) ++ textE 8 x.r) := by unfold litT; rw [if_neg (by omega), if_neg (by omega)]
      rw [hT] at hl ⊢
      exact ⟨_, .inr (.inr ⟨e, rfl⟩), fun u h1 h2 h3 => wcomparison_any d x p W0 hW hX hG r1 r6 el er l u h1 h2 h3 hl⟩
  have BA : True := trivial
  clear hX hG hok hl
  have HBw : Hid (Below w.heap.size w ((w.alloc (.cells #[.int .i8 x.k, .string x.pr, .slice p.a x.ts.length p.c, .int .i8 x.rel, .int .i8 x.l.op, .string x.l.t.v, .int .i8 x.l.t.a.k, .int .i64 x.l.t.a.n, .string x.l.t.a.s, .slice p.la x.l.kids.length p.lc, .int .i8 x.r.op, .string x.r.t.v, .int .i8 x.r.t.a.k, .int .i64 x.r.t.a.n, .string x.r.t.a.s, .slice p.ra x.r.kids.length p.rc] 81)).alloc (.cells #[.int .i8 1, fnV 57, .int .i8 2, fnV 58, .int .i8 3, fnV 59] 126))) := (((Below.refl w.heap.size w).alloc (Nat.le_refl _) _).alloc (by simp) _)
  have HBld : Hid (BldA B b l ((w.alloc (.cells #[.int .i8 x.k, .string x.pr, .slice p.a x.ts.length p.c, .int .i8 x.rel, .int .i8 x.l.op, .string x.l.t.v, .int .i8 x.l.t.a.k, .int .i64 x.l.t.a.n, .string x.l.t.a.s, .slice p.la x.l.kids.length p.lc, .int .i8 x.r.op, .string x.r.t.v, .int .i8 x.r.t.a.k, .int .i64 x.r.t.a.n, .string x.r.t.a.s, .slice p.ra x.r.kids.length p.rc] 81)).alloc (.cells #[.int .i8 1, fnV 57, .int .i8 2, fnV 58, .int .i8 3, fnV 59] 126))) := h.below HBw.out
  have HN : Hid (((w.alloc (.cells #[.int .i8 x.k, .string x.pr, .slice p.a x.ts.length p.c, .int .i8 x.rel, .int .i8 x.l.op, .string x.l.t.v, .int .i8 x.l.t.a.k, .int .i64 x.l.t.a.n, .string x.l.t.a.s, .slice p.la x.l.kids.length p.lc, .int .i8 x.r.op, .string x.r.t.v, .int .i8 x.r.t.a.k, .int .i64 x.r.t.a.n, .string x.r.t.a.s, .slice p.ra x.r.kids.length p.rc] 81)).alloc (.cells #[.int .i8 1, fnV 57, .int .i8 2, fnV 58, .int .i8 3, fnV 59] 126)).heap[w.heap.size]? = some (.cells #[.int .i8 x.k, .string x.pr, .slice p.a x.ts.length p.c, .int .i8 x.rel, .int .i8 x.l.op, .string x.l.t.v, .int .i8 x.l.t.a.k, .int .i64 x.l.t.a.n, .string x.l.t.a.s, .slice p.la x.l.kids.length p.lc, .int .i8 x.r.op, .string x.r.t.v, .int .i8 x.r.t.a.k, .int .i64 x.r.t.a.n, .string x.r.t.a.s, .slice p.ra x.r.kids.length p.rc] 81)) := by
    show _ = _
    rw [Below.heap_alloc _ _ _ (by simp)]
    exact heap_alloc_new w _
  have hnb : w.heap.size ≠ b := by have := h.lt; omega
  have hbW : Hid (Below W0.heap.size W0 ((w.alloc (.cells #[.int .i8 x.k, .string x.pr, .slice p.a x.ts.length p.c, .int .i8 x.rel, .int .i8 x.l.op, .string x.l.t.v, .int .i8 x.l.t.a.k, .int .i64 x.l.t.a.n, .string x.l.t.a.s, .slice p.la x.l.kids.length p.lc, .int .i8 x.r.op, .string x.r.t.v, .int .i8 x.r.t.a.k, .int .i64 x.r.t.a.n, .string x.r.t.a.s, .slice p.ra x.r.kids.length p.rc] 81)).alloc (.cells #[.int .i8 1, fnV 57, .int .i8 2, fnV 58, .int .i8 3, fnV 59] 126))) := hb.trans (HBw.out.mono hb.size)
  have hBs : B ≤ ((w.alloc (.cells #[.int .i8 x.k, .string x.pr, .slice p.a x.ts.length p.c, .int .i8 x.rel, .int .i8 x.l.op, .string x.l.t.v, .int .i8 x.l.t.a.k, .int .i64 x.l.t.a.n, .string x.l.t.a.s, .slice p.la x.l.kids.length p.lc, .int .i8 x.r.op, .string x.r.t.v, .int .i8 x.r.t.a.k, .int .i64 x.r.t.a.n, .string x.r.t.a.s, .slice p.ra x.r.kids.length p.rc] 81)).alloc (.cells #[.int .i8 1, fnV 57, .int .i8 2, fnV 58, .int .i8 3, fnV 59] 126)).heap.size := Nat.le_trans hBw HBw.out.size
  clear hb h BA
  unfold Lit4.val at HC ⊢
  unfold fnV at *
  unfold self at *
  rcases hf with ⟨hk, rfl⟩ | ⟨hk, rfl⟩ | ⟨hk, rfl⟩
  · rw [hk] at HC HBw HBld HN hbW hBs ⊢
    clear hk
    go_enter Tryz.func37, Tryz.ntmps37
    go_wp2_with fail
    generalize hWW : ((w.alloc (.cells #[.int .i8 1, .string x.pr, .slice p.a x.ts.length p.c, .int .i8 x.rel, .int .i8 x.l.op, .string x.l.t.v, .int .i8 x.l.t.a.k, .int .i64 x.l.t.a.n, .string x.l.t.a.s, .slice p.la x.l.kids.length p.lc, .int .i8 x.r.op, .string x.r.t.v, .int .i8 x.r.t.a.k, .int .i64 x.r.t.a.n, .string x.r.t.a.s, .slice p.ra x.r.kids.length p.rc] 81)).alloc (.cells #[.int .i8 1, .func (.func 57) #[] #[], .int .i8 2, .func (.func 58) #[] #[], .int .i8 3, .func (.func 59) #[] #[]] 126)) = W at HBw HBld HN hbW hBs ⊢
    clear hWW
    go_loopw [12] (fun i wr => ∃ m : Nat, m ≤ 3 ∧ i = .int .i64 m ∧ Hid (BldA B b (l ++ if 1 ≤ m then litT x else []) wr ∧ Below B W wr ∧ Spare b W wr)) (fun i _ => 3 - (intOf i).toNat)
    case atStart => exact ⟨0, by omega, rfl, by show BldA B b (l ++ []) W ∧ _; rw [List.append_nil]; exact ⟨HBld.out, Below.refl _ _, Spare.refl _ _⟩⟩
    case round =>
      obtain ⟨m, hm, rfl, HR⟩ := hrel
      have z : ∀ j, wr.cell? ⟨w.heap.size, j, none⟩ = _ := fun j => HR.out.2.2.cell HN.out (by decide) hnb j
      have z0 := z 0; have z1 := z 1; have z2 := z 2; have z3 := z 3; have z4 := z 4; have z5 := z 5; have z6 := z 6; have z7 := z 7; have z8 := z 8; have z9 := z 9; have z10 := z 10; have z11 := z 11; have z12 := z 12; have z13 := z 13; have z14 := z 14; have z15 := z 15
      have hwl : w.heap.size < wr.heap.size := World.block_lt_of_cell? _ _ z0
      clear z
      rcases (by omega : m = 0 ∨ m = 1 ∨ m = 2 ∨ m = 3) with rfl | rfl | rfl | rfl
      · have hI := way0
        have BN := (Below.refl wr.heap.size wr).alloc (Nat.le_refl _) (.cells #[.int .i8 1, .func (.func 57) #[] #[]] 125)
        have HB2 : Hid (BldA B b l _) := BldA.below (by have := HR.out.1; simpa using this) BN
        have y : ∀ j, (wr.alloc (.cells #[.int .i8 1, .func (.func 57) #[] #[]] 125)).cell? ⟨w.heap.size, j, none⟩ = wr.cell? ⟨w.heap.size, j, none⟩ := fun j => BN.cell (p := ⟨w.heap.size, j, none⟩) hwl
        have HBW : Hid (Below B W _ ∧ Spare b W _) := ⟨HR.out.2.1.trans (BN.mono (Nat.le_trans hBs HR.out.2.1.size)), HR.out.2.2.trans (Spare.below BN)⟩
        go_wp2_with fail
        refine Calls.mono (HC.out _ (hbW.out.trans (HBW.out.1.mono hW)) HB2.out (Nat.le_trans hBs HBW.out.1.size)) ?_
        rintro ee w2 ⟨rfl, k1, k2, k3⟩
        go_wp2
        go_roundw
        case rel => exact ⟨1, by omega, by go_num, k1, HBW.out.1.trans k2, HBW.out.2.trans k3⟩
        case measure => simp [intOf]
      · have hI := way1
        have BN := (Below.refl wr.heap.size wr).alloc (Nat.le_refl _) (.cells #[.int .i8 2, .func (.func 58) #[] #[]] 125)
        go_wp2
        go_roundw
        case rel => exact ⟨2, by omega, by go_num, HR.out.1.below BN, HR.out.2.1.trans (BN.mono (Nat.le_trans hBs HR.out.2.1.size)), HR.out.2.2.trans (Spare.below BN)⟩
        case measure => simp [intOf]
      · have hI := way2
        have BN := (Below.refl wr.heap.size wr).alloc (Nat.le_refl _) (.cells #[.int .i8 3, .func (.func 59) #[] #[]] 125)
        go_wp2
        go_roundw
        case rel => exact ⟨3, by omega, by go_num, HR.out.1.below BN, HR.out.2.1.trans (BN.mono (Nat.le_trans hBs HR.out.2.1.size)), HR.out.2.2.trans (Spare.below BN)⟩
        case measure => simp [intOf]
      · go_wp2
        go_end0
        exact ⟨rfl, HR.out.1, (HBw.out.mono hBw).trans HR.out.2.1, (Spare.below HBw.out).trans HR.out.2.2⟩
  · rw [hk] at HC HBw HBld HN hbW hBs ⊢
    clear hk
    go_enter Tryz.func37, Tryz.ntmps37
    go_wp2_with fail
    generalize hWW : ((w.alloc (.cells #[.int .i8 2, .string x.pr, .slice p.a x.ts.length p.c, .int .i8 x.rel, .int .i8 x.l.op, .string x.l.t.v, .int .i8 x.l.t.a.k, .int .i64 x.l.t.a.n, .string x.l.t.a.s, .slice p.la x.l.kids.length p.lc, .int .i8 x.r.op, .string x.r.t.v, .int .i8 x.r.t.a.k, .int .i64 x.r.t.a.n, .string x.r.t.a.s, .slice p.ra x.r.kids.length p.rc] 81)).alloc (.cells #[.int .i8 1, .func (.func 57) #[] #[], .int .i8 2, .func (.func 58) #[] #[], .int .i8 3, .func (.func 59) #[] #[]] 126)) = W at HBw HBld HN hbW hBs ⊢
    clear hWW
    go_loopw [12] (fun i wr => ∃ m : Nat, m ≤ 3 ∧ i = .int .i64 m ∧ Hid (BldA B b (l ++ if 2 ≤ m then litT x else []) wr ∧ Below B W wr ∧ Spare b W wr)) (fun i _ => 3 - (intOf i).toNat)
    case atStart => exact ⟨0, by omega, rfl, by show BldA B b (l ++ []) W ∧ _; rw [List.append_nil]; exact ⟨HBld.out, Below.refl _ _, Spare.refl _ _⟩⟩
    case round =>
      obtain ⟨m, hm, rfl, HR⟩ := hrel
      have z : ∀ j, wr.cell? ⟨w.heap.size, j, none⟩ = _ := fun j => HR.out.2.2.cell HN.out (by decide) hnb j
      have z0 := z 0; have z1 := z 1; have z2 := z 2; have z3 := z 3; have z4 := z 4; have z5 := z 5; have z6 := z 6; have z7 := z 7; have z8 := z 8; have z9 := z 9; have z10 := z 10; have z11 := z 11; have z12 := z 12; have z13 := z 13; have z14 := z 14; have z15 := z 15
      have hwl : w.heap.size < wr.heap.size := World.block_lt_of_cell? _ _ z0
      clear z
      rcases (by omega : m = 0 ∨ m = 1 ∨ m = 2 ∨ m = 3) with rfl | rfl | rfl | rfl
      · have hI := way0
        have BN := (Below.refl wr.heap.size wr).alloc (Nat.le_refl _) (.cells #[.int .i8 1, .func (.func 57) #[] #[]] 125)
        go_wp2
        go_roundw
        case rel => exact ⟨1, by omega, by go_num, HR.out.1.below BN, HR.out.2.1.trans (BN.mono (Nat.le_trans hBs HR.out.2.1.size)), HR.out.2.2.trans (Spare.below BN)⟩
        case measure => simp [intOf]
      · have hI := way1
        have BN := (Below.refl wr.heap.size wr).alloc (Nat.le_refl _) (.cells #[.int .i8 2, .func (.func 58) #[] #[]] 125)
        have HB2 : Hid (BldA B b l _) := BldA.below (by have := HR.out.1; simpa using this) BN
        have y : ∀ j, (wr.alloc (.cells #[.int .i8 2, .func (.func 58) #[] #[]] 125)).cell? ⟨w.heap.size, j, none⟩ = wr.cell? ⟨w.heap.size, j, none⟩ := fun j => BN.cell (p := ⟨w.heap.size, j, none⟩) hwl
        have HBW : Hid (Below B W _ ∧ Spare b W _) := ⟨HR.out.2.1.trans (BN.mono (Nat.le_trans hBs HR.out.2.1.size)), HR.out.2.2.trans (Spare.below BN)⟩
        go_wp2_with fail
        refine Calls.mono (HC.out _ (hbW.out.trans (HBW.out.1.mono hW)) HB2.out (Nat.le_trans hBs HBW.out.1.size)) ?_
        rintro ee w2 ⟨rfl, k1, k2, k3⟩
        go_wp2
        go_roundw
        case rel => exact ⟨2, by omega, by go_num, k1, HBW.out.1.trans k2, HBW.out.2.trans k3⟩
        case measure => simp [intOf]
      · have hI := way2
        have BN := (Below.refl wr.heap.size wr).alloc (Nat.le_refl _) (.cells #[.int .i8 3, .func (.func 59) #[] #[]] 125)
        go_wp2
        go_roundw
        case rel => exact ⟨3, by omega, by go_num, HR.out.1.below BN, HR.out.2.1.trans (BN.mono (Nat.le_trans hBs HR.out.2.1.size)), HR.out.2.2.trans (Spare.below BN)⟩
        case measure => simp [intOf]
      · go_wp2
        go_end0
        exact ⟨rfl, HR.out.1, (HBw.out.mono hBw).trans HR.out.2.1, (Spare.below HBw.out).trans HR.out.2.2⟩
  · rw [hk] at HC HBw HBld HN hbW hBs ⊢
    clear hk
    go_enter Tryz.func37, Tryz.ntmps37
    go_wp2_with fail
    generalize hWW : ((w.alloc (.cells #[.int .i8 3, .string x.pr, .slice p.a x.ts.length p.c, .int .i8 x.rel, .int .i8 x.l.op, .string x.l.t.v, .int .i8 x.l.t.a.k, .int .i64 x.l.t.a.n, .string x.l.t.a.s, .slice p.la x.l.kids.length p.lc, .int .i8 x.r.op, .string x.r.t.v, .int .i8 x.r.t.a.k, .int .i64 x.r.t.a.n, .string x.r.t.a.s, .slice p.ra x.r.kids.length p.rc] 81)).alloc (.cells #[.int .i8 1, .func (.func 57) #[] #[], .int .i8 2, .func (.func 58) #[] #[], .int .i8 3, .func (.func 59) #[] #[]] 126)) = W at HBw HBld HN hbW hBs ⊢
    clear hWW
    go_loopw [12] (fun i wr => ∃ m : Nat, m ≤ 3 ∧ i = .int .i64 m ∧ Hid (BldA B b (l ++ if 3 ≤ m then litT x else []) wr ∧ Below B W wr ∧ Spare b W wr)) (fun i _ => 3 - (intOf i).toNat)
    case atStart => exact ⟨0, by omega, rfl, by show BldA B b (l ++ []) W ∧ _; rw [List.append_nil]; exact ⟨HBld.out, Below.refl _ _, Spare.refl _ _⟩⟩
    case round =>
      obtain ⟨m, hm, rfl, HR⟩ := hrel
      have z : ∀ j, wr.cell? ⟨w.heap.size, j, none⟩ = _ := fun j => HR.out.2.2.cell HN.out (by decide) hnb j
      have z0 := z 0; have z1 := z 1; have z2 := z 2; have z3 := z 3; have z4 := z 4; have z5 := z 5; have z6 := z 6; have z7 := z 7; have z8 := z 8; have z9 := z 9; have z10 := z 10; have z11 := z 11; have z12 := z 12; have z13 := z 13; have z14 := z 14; have z15 := z 15
      have hwl : w.heap.size < wr.heap.size := World.block_lt_of_cell? _ _ z0
      clear z
      rcases (by omega : m = 0 ∨ m = 1 ∨ m = 2 ∨ m = 3) with rfl | rfl | rfl | rfl
      · have hI := way0
        have BN := (Below.refl wr.heap.size wr).alloc (Nat.le_refl _) (.cells #[.int .i8 1, .func (.func 57) #[] #[]] 125)
        go_wp2
        go_roundw
        case rel => exact ⟨1, by omega, by go_num, HR.out.1.below BN, HR.out.2.1.trans (BN.mono (Nat.le_trans hBs HR.out.2.1.size)), HR.out.2.2.trans (Spare.below BN)⟩
        case measure => simp [intOf]
      · have hI := way1
        have BN := (Below.refl wr.heap.size wr).alloc (Nat.le_refl _) (.cells #[.int .i8 2, .func (.func 58) #[] #[]] 125)
        go_wp2
        go_roundw
        case rel => exact ⟨2, by omega, by go_num, HR.out.1.below BN, HR.out.2.1.trans (BN.mono (Nat.le_trans hBs HR.out.2.1.size)), HR.out.2.2.trans (Spare.below BN)⟩
        case measure => simp [intOf]
      · have hI := way2
        have BN := (Below.refl wr.heap.size wr).alloc (Nat.le_refl _) (.cells #[.int .i8 3, .func (.func 59) #[] #[]] 125)
        have HB2 : Hid (BldA B b l _) := BldA.below (by have := HR.out.1; simpa using this) BN
        have y : ∀ j, (wr.alloc (.cells #[.int .i8 3, .func (.func 59) #[] #[]] 125)).cell? ⟨w.heap.size, j, none⟩ = wr.cell? ⟨w.heap.size, j, none⟩ := fun j => BN.cell (p := ⟨w.heap.size, j, none⟩) hwl
        have HBW : Hid (Below B W _ ∧ Spare b W _) := ⟨HR.out.2.1.trans (BN.mono (Nat.le_trans hBs HR.out.2.1.size)), HR.out.2.2.trans (Spare.below BN)⟩
        go_wp2_with fail
        refine Calls.mono (HC.out _ (hbW.out.trans (HBW.out.1.mono hW)) HB2.out (Nat.le_trans hBs HBW.out.1.size)) ?_
        rintro ee w2 ⟨rfl, k1, k2, k3⟩
        go_wp2
        go_roundw
        case rel => exact ⟨3, by omega, by go_num, k1, HBW.out.1.trans k2, HBW.out.2.trans k3⟩
        case measure => simp [intOf]
      · go_wp2
        go_end0
        exact ⟨rfl, HR.out.1, (HBw.out.mono hBw).trans HR.out.2.1, (Spare.below HBw.out).trans HR.out.2.2⟩
end Go.Proofs.YtikjphfeeljhbaaGreatDoor
