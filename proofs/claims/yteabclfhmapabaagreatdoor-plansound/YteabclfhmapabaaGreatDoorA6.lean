import Derived.Test.YteabclfhmapabaaGreatDoorA3
import Derived.Test.YteabclfhmapabaaGreatDoorA5
import Derived.Test.YteabclfhmapabaaGreatDoorA4
import Derived.Deep.MidRow
import Derived.Deep.WholeRow
section
namespace Go.Proofs.YteabclfhmapabaaGreatDoor
open Go.RowKit Go.Maps
set_option linter.unusedVariables false
set_option linter.unusedSimpArgs false
attribute [local go_sem ↓] Go.wp_at_zero Go.wp_at_succ

/-- the terms of a literal, in their order -/
def termsL (d : Nat) (x : Lit4) : List T := x.ts ++ (termsD d x.l ++ termsD d x.r)
/-- a literal's sixteen cells at a place -/
structure LAt (w : World) (g o : Nat) (x : Lit4) (p : LP) : Prop where
  k : w.cell? ⟨g, o, none⟩ = some (.int .i8 x.k)
  pr : w.cell? ⟨g, o + 1, none⟩ = some (.string x.pr)
  ts : w.cell? ⟨g, o + 2, none⟩ = some (.slice p.a x.ts.length p.c)
  rel : w.cell? ⟨g, o + 3, none⟩ = some (.int .i8 x.rel)
  l : XAt w g (o + 4) x.l.op x.l.t (.slice p.la x.l.kids.length p.lc)
  r : XAt w g (o + 10) x.r.op x.r.t (.slice p.ra x.r.kids.length p.rc)
theorem liRule (v : Value) (w : World) : (Instr.typeAssert (.iface 142 v) 20 95 true).run Tryz.prog w = .ok (.tuple #[.pointer none, .bool false]) w := by kernel_rfl
theorem liLiteral (v : Value) (w : World) : (Instr.typeAssert (.iface 142 v) 20 142 true).run Tryz.prog w = .ok (.tuple #[v, .bool true]) w := by kernel_rfl
set_option maxHeartbeats 3200000 in
set_option maxRecDepth 100000 in
theorem walkLiteral_any {B : Nat} {w0 : World} {bo bs bm : Nat} {ns : List ByteArray} {sv : Value} {w : World} (h : Vst B w0 bo bs bm ns sv w) (hB : B = w0.heap.size) (g o : Nat) (hg : g < B) (d : Nat) (x : Lit4) (p : LP) (hx : LAt w0 g o x p) (hL : LIs w0 d x p) (hn : ns.length + (termsL d x).length ≤ 4398046511104) :
    Calls Tryz.prog 35 #[.iface 142 (.pointer (some ⟨g, o, none⟩)), handV bs bo] w fun e w' => (∃ u, e = .returned u) ∧ ∃ sv', Vst B w0 bo bs bm (vsT ns (termsL d x)) sv' w' := by
  unfold termsL at hn ⊢
  simp only [List.length_append] at hn
  rw [vsT_append, vsT_append]
  have l1 := vsT_len x.ts ns
  have l2 := vsT_len (termsD d x.l) (vsT ns x.ts)
  have HA : Hid _ := walkAtom_any h hB g (o + 1) hg p.a p.c x.ts hx.ts hL.ts (by omega)
  have HL1 : Hid (∀ sv1 w1, Vst B w0 bo bs bm (vsT ns x.ts) sv1 w1 → Calls Tryz.prog 35 #[.iface 147 (.pointer (some ⟨g, o + 4, none⟩)), handE bs bo] w1 fun e' w' => (∃ u, e' = .returned u) ∧ ∃ sv', Vst B w0 bo bs bm (vsT (vsT ns x.ts) (termsD d x.l)) sv' w') := fun sv1 w1 hv => walkExpr_any hB d _ sv1 w1 x.l p.la p.lc g (o + 4) hv hg hx.l hL.l (by omega)
  have HL2 : Hid (∀ sv1 w1, Vst B w0 bo bs bm (vsT (vsT ns x.ts) (termsD d x.l)) sv1 w1 → Calls Tryz.prog 35 #[.iface 147 (.pointer (some ⟨g, o + 10, none⟩)), handE bs bo] w1 fun e' w' => (∃ u, e' = .returned u) ∧ ∃ sv', Vst B w0 bo bs bm (vsT (vsT (vsT ns x.ts) (termsD d x.l)) (termsD d x.r)) sv' w') := fun sv1 w1 hv => walkExpr_any hB d _ sv1 w1 x.r p.ra p.rc g (o + 10) hv hg hx.r hL.r (by omega)
  have h1 := liRule (.pointer (some ⟨g, o, none⟩))
  have h2 := liLiteral (.pointer (some ⟨g, o, none⟩))
  unfold handV at HA ⊢
  unfold handE at HL1 HL2
  generalize vsT (vsT (vsT ns x.ts) (termsD d x.l)) (termsD d x.r) = n3 at HL2 ⊢
  generalize vsT (vsT ns x.ts) (termsD d x.l) = n2 at HL1 HL2
  generalize vsT ns x.ts = n1 at HA HL1
  clear l1 l2 h hx hL hn
  go_enter Tryz.func35, Tryz.ntmps35
  go_wp2_with fail
  refine Calls.mono HA.out ?_
  rintro e w1 ⟨⟨u, rfl⟩, sv1, hv1⟩
  go_wp2_with fail
  refine Calls.mono (HL1.out _ _ hv1) ?_
  rintro e w2 ⟨⟨u2, rfl⟩, sv2, hv2⟩
  go_wp2_with fail
  refine Calls.mono (HL2.out _ _ hv2) ?_
  rintro e w3 ⟨⟨u3, rfl⟩, sv3, hv3⟩
  go_wp2
  go_end0
  exact ⟨⟨_, rfl⟩, _, hv3⟩
end Go.Proofs.YteabclfhmapabaaGreatDoor
end
section
namespace Go.Proofs.YteabclfhmapabaaGreatDoor
open Go.RowKit Go.Maps
set_option linter.unusedVariables false
set_option linter.unusedSimpArgs false
attribute [local go_sem ↓] Go.wp_at_zero Go.wp_at_succ

theorem next_below {wc u v : World} (h : Below wc.heap.size wc u) (h2 : Below u.heap.size u v) : Below wc.heap.size wc v := h.trans (h2.mono h.size)
theorem wrap_mid {d : Int} (h0 : -1000 ≤ d) (h1 : d ≤ 300000000000000) : IntKind.i64.wrap d = d := by simp [IntKind.wrap, IntKind.bits, IntKind.signed]; omega
end Go.Proofs.YteabclfhmapabaaGreatDoor
end
section
namespace Go.Proofs.YteabclfhmapabaaGreatDoor
open Go.RowKit Go.Maps
set_option linter.unusedVariables false
set_option linter.unusedSimpArgs false
attribute [local go_sem ↓] Go.wp_at_zero Go.wp_at_succ

/-- a literal and where its lists lie -/
structure XL where
  x : Lit4
  p : LP
def XL.cells (y : XL) : List Value := [.int .i8 y.x.k, .string y.x.pr, .slice y.p.a y.x.ts.length y.p.c, .int .i8 y.x.rel, .int .i8 y.x.l.op, .string y.x.l.t.v, .int .i8 y.x.l.t.a.k, .int .i64 y.x.l.t.a.n, .string y.x.l.t.a.s, .slice y.p.la y.x.l.kids.length y.p.lc, .int .i8 y.x.r.op, .string y.x.r.t.v, .int .i8 y.x.r.t.a.k, .int .i64 y.x.r.t.a.n, .string y.x.r.t.a.s, .slice y.p.ra y.x.r.kids.length y.p.rc]
def smallL (d : Nat) (x : Lit4) : Prop := x.ts.length ≤ 1048576 ∧ (smallE d x.l ∧ szD d x.l ≤ 1048576) ∧ (smallE d x.r ∧ szD d x.r ≤ 1048576)
end Go.Proofs.YteabclfhmapabaaGreatDoor
end
section
namespace Go.Proofs.YteabclfhmapabaaGreatDoor
open Go.RowKit Go.Maps
set_option linter.unusedVariables false
set_option linter.unusedSimpArgs false
attribute [local go_sem ↓] Go.wp_at_zero Go.wp_at_succ

theorem EIs.len {w : World} {d : Nat} {e : E} {a : Option Addr} {c : Nat} (h : EIs w d e a c) : e.kids.length ≤ 281474976710656 := by
  cases d with
  | zero => exact h.elim
  | succ d => exact h.1.2
theorem termsL_wf {w : World} {d : Nat} {x : Lit4} {p : LP} (h : LIs w d x p) : ∀ t ∈ termsL d x, t.wf := by
  intro t ht
  unfold termsL at ht
  rcases List.mem_append.1 ht with h1 | h1
  · exact h.ts.wf t h1
  · rcases List.mem_append.1 h1 with h2 | h2
    · exact termsD_wf d _ _ _ h.l t h2
    · exact termsD_wf d _ _ _ h.r t h2
end Go.Proofs.YteabclfhmapabaaGreatDoor
end
section
namespace Go.Proofs.YteabclfhmapabaaGreatDoor
open Go.RowKit Go.Maps
set_option linter.unusedVariables false
set_option linter.unusedSimpArgs false

/-- an argument of a head: its aggregate, its term -/
structure A5 where
  g : Int
  t : T
def A5.cells (x : A5) : List Value := [.int .i8 x.g, .string x.t.v, .int .i8 x.t.a.k, .int .i64 x.t.a.n, .string x.t.a.s]
structure A5.wf (x : A5) : Prop where
  gb : -128 ≤ x.g ∧ x.g ≤ 127
  t : x.t.wf
def A50 : A5 := ⟨0, T0⟩
def atA (l : List A5) (i : Nat) : A5 := l.getD i A50
theorem atA_eq {l : List A5} {i : Nat} (h : i < l.length) : atA l i = l[i] := by simp [atA, List.getD, List.getElem?_eq_getElem h]
def XL0 : XL := ⟨⟨0, noS, [], 0, E0, E0⟩, ⟨none, 0, none, 0, none, 0⟩⟩
def atL (l : List XL) (i : Nat) : XL := l.getD i XL0
theorem atL_eq {l : List XL} {i : Nat} (h : i < l.length) : atL l i = l[i] := by simp [atL, List.getD, List.getElem?_eq_getElem h]
theorem range_below {w w' : World} {g o : Nat} {cs : List Value} (h : w.rangeAt g o cs) (b : Below w.heap.size w w') (hg : g < w.heap.size) : w'.rangeAt g o cs := fun j v hv => by
  rw [b.cell (p := ⟨g, o + j, none⟩) hg]
  exact h j v hv
/-- a list in memory: each element's cells -/
theorem ls_range {α : Type} {f : α → List Value} {k : Nat} (hk : ∀ x, (f x).length = k) (z : α) {w : World} {v : Value} {l : List α} (h : Ls w v l.length (l.flatMap f)) :
    ∃ a c, v = .slice a l.length c ∧ l.length ≤ c ∧ c ≤ maxLen ∧ (0 < l.length → ∃ g off, a = some ⟨g, off, none⟩ ∧ g < w.heap.size ∧ ∀ i, i < l.length → w.rangeAt g (off + i * k) (f (l.getD i z))) := by
  obtain ⟨hn, a, c, hv, h1, h2, hc⟩ := h
  refine ⟨a, c, hv, h1, h2, fun h0 => ?_⟩
  obtain ⟨g, off, ha, hg, hf⟩ := hc h0
  refine ⟨g, off, ha, hg, fun i hi j u hu => ?_⟩
  have hj : j < k := by rw [← hk (l.getD i z)]; exact (List.getElem?_eq_some_iff.1 hu).1
  have := hf.elem hk z hi hj hu
  rw [← Nat.add_assoc] at this
  exact this
theorem ls_of_range {α : Type} {f : α → List Value} {k : Nat} (hk0 : 0 < k) (hk : ∀ x, (f x).length = k) (z : α) {w : World} {g c : Nat} {l : List α} (hc1 : l.length ≤ c) (hc2 : c ≤ maxLen) (hg : g < w.heap.size) (h : ∀ i, i < l.length → w.rangeAt g (i * k) (f (l.getD i z))) :
    Ls w (.slice (some ⟨g, 0, none⟩) l.length c) l.length (l.flatMap f) := by
  refine ⟨Nat.le_trans hc1 hc2, _, c, rfl, hc1, hc2, fun _ => ⟨g, 0, rfl, hg, fun i hi => ?_⟩⟩
  have hl := flat_len f k hk l
  have hi2 : i / k < l.length := (Nat.div_lt_iff_lt_mul hk0).2 (by rw [← hl]; exact hi)
  have hm : i % k < k := Nat.mod_lt _ hk0
  have hx := flat_at f k hk z l (i / k) (i % k) hi2 hm
  have he : i / k * k + i % k = i := by rw [Nat.mul_comm]; exact Nat.div_add_mod i k
  rw [he, List.getElem?_eq_getElem hi] at hx
  have := h (i / k) hi2 (i % k) _ hx.symm
  rw [he] at this
  rw [Nat.zero_add]
  exact this
/-- a list of arguments, a list of literals, in memory -/
structure La (w : World) (v : Value) (l : List A5) : Prop where
  lies : Ls w v l.length (l.flatMap A5.cells)
  wf : ∀ t ∈ l, t.wf
structure Lb (w : World) (v : Value) (d : Nat) (l : List XL) : Prop where
  lies : Ls w v l.length (l.flatMap XL.cells)
  each : ∀ y ∈ l, LIs w d y.x y.p
theorem La.below {w w' : World} {v : Value} {l : List A5} (h : La w v l) (b : Below w.heap.size w w') : La w' v l := ⟨h.lies.below b, h.wf⟩
theorem Lb.below {w w' : World} {v : Value} {d : Nat} {l : List XL} (h : Lb w v d l) (b : Below w.heap.size w w') : Lb w' v d l := ⟨h.lies.below b, fun y hy => (h.each y hy).below b⟩
theorem La.form {w : World} {v : Value} {l : List A5} (h : La w v l) : ∃ a c, v = .slice a l.length c ∧ l.length ≤ c ∧ c ≤ maxLen ∧ (0 < l.length → ∃ g off, a = some ⟨g, off, none⟩ ∧ g < w.heap.size ∧ ∀ i, i < l.length → w.rangeAt g (off + i * 5) (atA l i).cells) := ls_range (f := A5.cells) (k := 5) (fun _ => rfl) A50 h.lies
theorem Lb.form {w : World} {v : Value} {d : Nat} {l : List XL} (h : Lb w v d l) : ∃ a c, v = .slice a l.length c ∧ l.length ≤ c ∧ c ≤ maxLen ∧ (0 < l.length → ∃ g off, a = some ⟨g, off, none⟩ ∧ g < w.heap.size ∧ ∀ i, i < l.length → w.rangeAt g (off + i * 16) (atL l i).cells) := ls_range (f := XL.cells) (k := 16) (fun _ => rfl) XL0 h.lies
theorem La.at_wf {w : World} {v : Value} {l : List A5} (h : La w v l) {i : Nat} (hi : i < l.length) : (atA l i).wf := by rw [atA_eq hi]; exact h.wf _ (List.getElem_mem hi)
theorem Lb.at_is {w : World} {v : Value} {d : Nat} {l : List XL} (h : Lb w v d l) {i : Nat} (hi : i < l.length) : LIs w d (atL l i).x (atL l i).p := by rw [atL_eq hi]; exact h.each _ (List.getElem_mem hi)
theorem lat_range {w : World} {g o : Nat} {y : XL} (h : w.rangeAt g o y.cells) : LAt w g o y.x y.p :=
  ⟨h 0 _ rfl, h 1 _ rfl, h 2 _ rfl, h 3 _ rfl, ⟨h 4 _ rfl, h 5 _ rfl, h 6 _ rfl, h 7 _ rfl, h 8 _ rfl, h 9 _ rfl⟩, ⟨h 10 _ rfl, h 11 _ rfl, h 12 _ rfl, h 13 _ rfl, h 14 _ rfl, h 15 _ rfl⟩⟩
theorem XL.val_eq (y : XL) : Value.agg y.cells.toArray = y.x.val y.p := rfl
/-- a rule, and where its lists lie -/
structure R3 where
  pr : ByteArray
  hd : List A5
  bd : List XL
structure RP where
  a : Option Addr
  c : Nat
  ba : Option Addr
  bc : Nat
def R3.cells (r : R3) (p : RP) : List Value := [.string r.pr, .slice p.a r.hd.length p.c, .slice p.ba r.bd.length p.bc]
def R3.val (r : R3) (p : RP) : Value := .agg #[.string r.pr, .slice p.a r.hd.length p.c, .slice p.ba r.bd.length p.bc]
structure RIs (w : World) (d : Nat) (r : R3) (p : RP) : Prop where
  pb : r.pr.size ≤ maxLen
  hl : r.hd.length ≤ 281474976710656
  bl : r.bd.length ≤ 281474976710656
  hd : La w (.slice p.a r.hd.length p.c) r.hd
  bd : Lb w (.slice p.ba r.bd.length p.bc) d r.bd
theorem RIs.below {w w' : World} {d : Nat} {r : R3} {p : RP} (h : RIs w d r p) (b : Below w.heap.size w w') : RIs w' d r p := ⟨h.pb, h.hl, h.bl, h.hd.below b, h.bd.below b⟩
/-- the terms of a rule, in their order -/
def termsR (d : Nat) (r : R3) : List T := r.hd.map A5.t ++ r.bd.flatMap (fun y => termsL d y.x)
/-- is it an argument, a rule as it may be? -/
def argB (x : A5) : Bool := if x.g = 0 then namedB x.t else if x.g = 1 then decide (x.t = T0) else if x.g = 2 ∨ x.g = 3 ∨ x.g = 4 then namedB x.t && !decide (x.t.v = noS) else false
def ruleB (d : Nat) (r : R3) : Bool := nameB r.pr && (decide (r.hd.length ≤ 24) && (decide (r.bd.length ≤ 16) && (r.hd.all argB && (r.bd.all (fun y => litB y.x) && decide ((vsT [] (termsR d r)).length ≤ 24)))))
theorem allA_not {f : A5 → Bool} {l : List A5} {k : Nat} (h : k < l.length) (hn : f (atA l k) = false) : l.all f = false := by
  rw [← Bool.not_eq_true]
  intro ha
  rw [List.all_eq_true] at ha
  rw [atA_eq h] at hn
  rw [ha _ (List.getElem_mem h)] at hn
  cases hn
theorem allA_take {f : A5 → Bool} {l : List A5} {k : Nat} (h : k < l.length) : (l.take (k + 1)).all f = ((l.take k).all f && f (atA l k)) := by
  have e : l.take (k + 1) = l.take k ++ [l[k]] := by rw [List.take_add_one, List.getElem?_eq_getElem h]; rfl
  rw [e, List.all_append, atA_eq h]
  simp
theorem allL_not {f : XL → Bool} {l : List XL} {k : Nat} (h : k < l.length) (hn : f (atL l k) = false) : l.all f = false := by
  rw [← Bool.not_eq_true]
  intro ha
  rw [List.all_eq_true] at ha
  rw [atL_eq h] at hn
  rw [ha _ (List.getElem_mem h)] at hn
  cases hn
theorem allL_take {f : XL → Bool} {l : List XL} {k : Nat} (h : k < l.length) : (l.take (k + 1)).all f = ((l.take k).all f && f (atL l k)) := by
  have e : l.take (k + 1) = l.take k ++ [l[k]] := by rw [List.take_add_one, List.getElem?_eq_getElem h]; rfl
  rw [e, List.all_append, atL_eq h]
  simp
/-- stores of several cells, one behind the other -/
theorem rowIs_setCells {b : Nat} {t : TypeId} {n : Nat} : ∀ (vs : List Value) (o : Nat) (w : World) (f : Nat → Value), w.rowIs b t n f → (w.setCells b o vs).rowIs b t n (fun j => if o ≤ j ∧ j < o + vs.length then vs.getD (j - o) .nilIface else f j)
  | [], o, w, f, h => by
    rw [World.setCells]
    refine World.rowIs.congr h fun j _ => ?_
    rw [if_neg (fun hh => Nat.not_lt.2 hh.1 (by simpa using hh.2))]
  | v :: r, o, w, f, h => by
    rw [World.setCells]
    refine (rowIs_setCells r (o + 1) _ _ (World.rowIs.set h o v)).congr fun j _ => ?_
    by_cases e : j = o
    · subst e
      rw [if_neg (by omega), if_pos rfl, if_pos ⟨Nat.le_refl _, by simp⟩]
      simp [List.getD]
    · by_cases h1 : o + 1 ≤ j ∧ j < o + 1 + r.length
      · rw [if_pos h1, if_pos ⟨by omega, by simp; omega⟩]
        obtain ⟨i, rfl⟩ : ∃ i, j = o + (i + 1) := ⟨j - o - 1, by omega⟩
        rw [show o + (i + 1) - (o + 1) = i by omega, show o + (i + 1) - o = i + 1 by omega]
        simp [List.getD]
      · rw [if_neg h1, if_neg e, if_neg (by simp; omega)]
theorem below_setCells {B : Nat} {w0 : World} {b : Nat} (hb : B ≤ b) : ∀ (vs : List Value) (o : Nat) (w : World), Below B w0 w → Below B w0 (w.setCells b o vs)
  | [], _, _, h => h
  | v :: r, o, w, h => by rw [World.setCells]; exact below_setCells hb r (o + 1) _ (h.setCell (p := ⟨b, o, none⟩) hb _)
theorem heap_setCells_other {b k : Nat} (hk : k ≠ b) : ∀ (vs : List Value) (o : Nat) (w : World), (w.setCells b o vs).heap[k]? = w.heap[k]?
  | [], _, _ => rfl
  | v :: r, o, w => by rw [World.setCells, heap_setCells_other hk r]; exact heap_setCell_other _ _ _ _ hk
theorem TwL.lower {w : World} {lo lo' d : Nat} (hl : lo' ≤ lo) {x : Lit4} {p : LP} (h : TwL w lo d x p) : TwL w lo' d x p := ⟨h.ts.lower hl, h.l.lower hl, h.r.lower hl⟩
theorem oneCells_arg (x : A5) : (A5.cells x).toArray.all (·.oneCell') = true := by simp [A5.cells, Value.oneCell']
theorem oneCells_lit (y : XL) : (XL.cells y).toArray.all (·.oneCell') = true := by simp [XL.cells, Value.oneCell']
end Go.Proofs.YteabclfhmapabaaGreatDoor
end
section
namespace Go.Proofs.YteabclfhmapabaaGreatDoor
open Go.RowKit Go.Maps
set_option linter.unusedVariables false
set_option linter.unusedSimpArgs false
attribute [local go_sem ↓] Go.wp_at_zero Go.wp_at_succ
attribute [-go_sem] loadVar storeVar

theorem rl_setAll {w : World} {b : Nat} {t : TypeId} {l : List Value} (h : RL w b t l) (vs : List Value) (hv : vs.length = l.length) : RL (w.setCells b 0 vs) b t vs := by
  unfold RL
  rw [hv]
  refine (rowIs_setCells vs 0 w _ h).congr fun j hj => ?_
  rw [if_pos ⟨Nat.zero_le _, by omega⟩, Nat.sub_zero]
theorem load_Arg {u : World} {g o : Nat} {cs : List Value} (h : u.rangeAt g o cs) (hl : cs.length = 5) : (loadVar 125 ⟨g, o, none⟩).run Tryz.prog u = .ok (.agg cs.toArray) u :=
  run_loadVar_mid u g o _ cs _ h Tryz.underlying125 rfl (by rw [hl]; kernel_rfl)
theorem load_Lit {u : World} {g o : Nat} {cs : List Value} (h : u.rangeAt g o cs) (hl : cs.length = 16) : (loadVar 53 ⟨g, o, none⟩).run Tryz.prog u = .ok (.agg cs.toArray) u :=
  run_loadVar_mid u g o _ cs _ h Tryz.underlying53 rfl (by rw [hl]; kernel_rfl)
end Go.Proofs.YteabclfhmapabaaGreatDoor
end
