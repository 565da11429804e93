import Derived.Test.YteabclfhmapabaaDoorA6
import Derived.Deep.MidRow
import Derived.Deep.WholeRow
section
namespace Go.Proofs.YteabclfhmapabaaDoor
open Go.RowKit Go.Maps
set_option linter.unusedVariables false
set_option linter.unusedSimpArgs false

/-- an argument of a head: its aggregate, its term -/
structure A5 where
  g : Int
  t : T
def A5.cells (x : A5) : List Value := [.int .i8 x.g, .string x.t.v, .int .i8 x.t.a.k, .int .i64 x.t.a.n, .string x.t.a.s]
structure A5.wf (x : A5) : Prop where
  gb : -128 ≤ x.g ∧ x.g ≤ 127
  t : x.t.wf
def A50 : A5 := ⟨0, T0⟩
def atA (l : List A5) (i : Nat) : A5 := l.getD i A50
theorem atA_eq {l : List A5} {i : Nat} (h : i < l.length) : atA l i = l[i] := by simp [atA, List.getD, List.getElem?_eq_getElem h]
def XL0 : XL := ⟨⟨0, noS, [], 0, E0, E0⟩, ⟨none, 0, none, 0, none, 0⟩⟩
def atL (l : List XL) (i : Nat) : XL := l.getD i XL0
theorem atL_eq {l : List XL} {i : Nat} (h : i < l.length) : atL l i = l[i] := by simp [atL, List.getD, List.getElem?_eq_getElem h]
theorem range_below {w w' : World} {g o : Nat} {cs : List Value} (h : w.rangeAt g o cs) (b : Below w.heap.size w w') (hg : g < w.heap.size) : w'.rangeAt g o cs := fun j v hv => by
  rw [b.cell (p := ⟨g, o + j, none⟩) hg]
  exact h j v hv
/-- a list in memory: each element's cells -/
theorem ls_range {α : Type} {f : α → List Value} {k : Nat} (hk : ∀ x, (f x).length = k) (z : α) {w : World} {v : Value} {l : List α} (h : Ls w v l.length (l.flatMap f)) :
    ∃ a c, v = .slice a l.length c ∧ l.length ≤ c ∧ c ≤ maxLen ∧ (0 < l.length → ∃ g off, a = some ⟨g, off, none⟩ ∧ g < w.heap.size ∧ ∀ i, i < l.length → w.rangeAt g (off + i * k) (f (l.getD i z))) := by
  obtain ⟨hn, a, c, hv, h1, h2, hc⟩ := h
  refine ⟨a, c, hv, h1, h2, fun h0 => ?_⟩
  obtain ⟨g, off, ha, hg, hf⟩ := hc h0
  refine ⟨g, off, ha, hg, fun i hi j u hu => ?_⟩
  have hj : j < k := by rw [← hk (l.getD i z)]; exact (List.getElem?_eq_some_iff.1 hu).1
  have := hf.elem hk z hi hj hu
  rw [← Nat.add_assoc] at this
  exact this
theorem ls_of_range {α : Type} {f : α → List Value} {k : Nat} (hk0 : 0 < k) (hk : ∀ x, (f x).length = k) (z : α) {w : World} {g c : Nat} {l : List α} (hc1 : l.length ≤ c) (hc2 : c ≤ maxLen) (hg : g < w.heap.size) (h : ∀ i, i < l.length → w.rangeAt g (i * k) (f (l.getD i z))) :
    Ls w (.slice (some ⟨g, 0, none⟩) l.length c) l.length (l.flatMap f) := by
  refine ⟨Nat.le_trans hc1 hc2, _, c, rfl, hc1, hc2, fun _ => ⟨g, 0, rfl, hg, fun i hi => ?_⟩⟩
  have hl := flat_len f k hk l
  have hi2 : i / k < l.length := (Nat.div_lt_iff_lt_mul hk0).2 (by rw [← hl]; exact hi)
  have hm : i % k < k := Nat.mod_lt _ hk0
  have hx := flat_at f k hk z l (i / k) (i % k) hi2 hm
  have he : i / k * k + i % k = i := by rw [Nat.mul_comm]; exact Nat.div_add_mod i k
  rw [he, List.getElem?_eq_getElem hi] at hx
  have := h (i / k) hi2 (i % k) _ hx.symm
  rw [he] at this
  rw [Nat.zero_add]
  exact this
/-- a list of arguments, a list of literals, in memory -/
structure La (w : World) (v : Value) (l : List A5) : Prop where
  lies : Ls w v l.length (l.flatMap A5.cells)
  wf : ∀ t ∈ l, t.wf
structure Lb (w : World) (v : Value) (d : Nat) (l : List XL) : Prop where
  lies : Ls w v l.length (l.flatMap XL.cells)
  each : ∀ y ∈ l, LIs w d y.x y.p
theorem La.below {w w' : World} {v : Value} {l : List A5} (h : La w v l) (b : Below w.heap.size w w') : La w' v l := ⟨h.lies.below b, h.wf⟩
theorem Lb.below {w w' : World} {v : Value} {d : Nat} {l : List XL} (h : Lb w v d l) (b : Below w.heap.size w w') : Lb w' v d l := ⟨h.lies.below b, fun y hy => (h.each y hy).below b⟩
theorem La.form {w : World} {v : Value} {l : List A5} (h : La w v l) : ∃ a c, v = .slice a l.length c ∧ l.length ≤ c ∧ c ≤ maxLen ∧ (0 < l.length → ∃ g off, a = some ⟨g, off, none⟩ ∧ g < w.heap.size ∧ ∀ i, i < l.length → w.rangeAt g (off + i * 5) (atA l i).cells) := ls_range (f := A5.cells) (k := 5) (fun _ => rfl) A50 h.lies
theorem Lb.form {w : World} {v : Value} {d : Nat} {l : List XL} (h : Lb w v d l) : ∃ a c, v = .slice a l.length c ∧ l.length ≤ c ∧ c ≤ maxLen ∧ (0 < l.length → ∃ g off, a = some ⟨g, off, none⟩ ∧ g < w.heap.size ∧ ∀ i, i < l.length → w.rangeAt g (off + i * 16) (atL l i).cells) := ls_range (f := XL.cells) (k := 16) (fun _ => rfl) XL0 h.lies
theorem La.at_wf {w : World} {v : Value} {l : List A5} (h : La w v l) {i : Nat} (hi : i < l.length) : (atA l i).wf := by rw [atA_eq hi]; exact h.wf _ (List.getElem_mem hi)
theorem Lb.at_is {w : World} {v : Value} {d : Nat} {l : List XL} (h : Lb w v d l) {i : Nat} (hi : i < l.length) : LIs w d (atL l i).x (atL l i).p := by rw [atL_eq hi]; exact h.each _ (List.getElem_mem hi)
theorem lat_range {w : World} {g o : Nat} {y : XL} (h : w.rangeAt g o y.cells) : LAt w g o y.x y.p :=
  ⟨h 0 _ rfl, h 1 _ rfl, h 2 _ rfl, h 3 _ rfl, ⟨h 4 _ rfl, h 5 _ rfl, h 6 _ rfl, h 7 _ rfl, h 8 _ rfl, h 9 _ rfl⟩, ⟨h 10 _ rfl, h 11 _ rfl, h 12 _ rfl, h 13 _ rfl, h 14 _ rfl, h 15 _ rfl⟩⟩
theorem XL.val_eq (y : XL) : Value.agg y.cells.toArray = y.x.val y.p := rfl
/-- a rule, and where its lists lie -/
structure R3 where
  pr : ByteArray
  hd : List A5
  bd : List XL
structure RP where
  a : Option Addr
  c : Nat
  ba : Option Addr
  bc : Nat
def R3.cells (r : R3) (p : RP) : List Value := [.string r.pr, .slice p.a r.hd.length p.c, .slice p.ba r.bd.length p.bc]
def R3.val (r : R3) (p : RP) : Value := .agg #[.string r.pr, .slice p.a r.hd.length p.c, .slice p.ba r.bd.length p.bc]
structure RIs (w : World) (d : Nat) (r : R3) (p : RP) : Prop where
  pb : r.pr.size ≤ maxLen
  hl : r.hd.length ≤ 281474976710656
  bl : r.bd.length ≤ 281474976710656
  hd : La w (.slice p.a r.hd.length p.c) r.hd
  bd : Lb w (.slice p.ba r.bd.length p.bc) d r.bd
theorem RIs.below {w w' : World} {d : Nat} {r : R3} {p : RP} (h : RIs w d r p) (b : Below w.heap.size w w') : RIs w' d r p := ⟨h.pb, h.hl, h.bl, h.hd.below b, h.bd.below b⟩
/-- the terms of a rule, in their order -/
def termsR (d : Nat) (r : R3) : List T := r.hd.map A5.t ++ r.bd.flatMap (fun y => termsL d y.x)
/-- is it an argument, a rule as it may be? -/
def argB (x : A5) : Bool := if x.g = 0 then namedB x.t else if x.g = 1 then decide (x.t = T0) else if x.g = 2 ∨ x.g = 3 ∨ x.g = 4 then namedB x.t && !decide (x.t.v = noS) else false
def ruleB (d : Nat) (r : R3) : Bool := nameB r.pr && (decide (r.hd.length ≤ 24) && (decide (r.bd.length ≤ 16) && (r.hd.all argB && (r.bd.all (fun y => litB y.x) && decide ((vsT [] (termsR d r)).length ≤ 24)))))
theorem allA_not {f : A5 → Bool} {l : List A5} {k : Nat} (h : k < l.length) (hn : f (atA l k) = false) : l.all f = false := by
  rw [← Bool.not_eq_true]
  intro ha
  rw [List.all_eq_true] at ha
  rw [atA_eq h] at hn
  rw [ha _ (List.getElem_mem h)] at hn
  cases hn
theorem allA_take {f : A5 → Bool} {l : List A5} {k : Nat} (h : k < l.length) : (l.take (k + 1)).all f = ((l.take k).all f && f (atA l k)) := by
  have e : l.take (k + 1) = l.take k ++ [l[k]] := by rw [List.take_add_one, List.getElem?_eq_getElem h]; rfl
  rw [e, List.all_append, atA_eq h]
  simp
theorem allL_not {f : XL → Bool} {l : List XL} {k : Nat} (h : k < l.length) (hn : f (atL l k) = false) : l.all f = false := by
  rw [← Bool.not_eq_true]
  intro ha
  rw [List.all_eq_true] at ha
  rw [atL_eq h] at hn
  rw [ha _ (List.getElem_mem h)] at hn
  cases hn
theorem allL_take {f : XL → Bool} {l : List XL} {k : Nat} (h : k < l.length) : (l.take (k + 1)).all f = ((l.take k).all f && f (atL l k)) := by
  have e : l.take (k + 1) = l.take k ++ [l[k]] := by rw [List.take_add_one, List.getElem?_eq_getElem h]; rfl
  rw [e, List.all_append, atL_eq h]
  simp
/-- stores of several cells, one behind the other -/
theorem rowIs_setCells {b : Nat} {t : TypeId} {n : Nat} : ∀ (vs : List Value) (o : Nat) (w : World) (f : Nat → Value), w.rowIs b t n f → (w.setCells b o vs).rowIs b t n (fun j => if o ≤ j ∧ j < o + vs.length then vs.getD (j - o) .nilIface else f j)
  | [], o, w, f, h => by
    rw [World.setCells]
    refine World.rowIs.congr h fun j _ => ?_
    rw [if_neg (fun hh => Nat.not_lt.2 hh.1 (by simpa using hh.2))]
  | v :: r, o, w, f, h => by
    rw [World.setCells]
    refine (rowIs_setCells r (o + 1) _ _ (World.rowIs.set h o v)).congr fun j _ => ?_
    by_cases e : j = o
    · subst e
      rw [if_neg (by omega), if_pos rfl, if_pos ⟨Nat.le_refl _, by simp⟩]
      simp [List.getD]
    · by_cases h1 : o + 1 ≤ j ∧ j < o + 1 + r.length
      · rw [if_pos h1, if_pos ⟨by omega, by simp; omega⟩]
        obtain ⟨i, rfl⟩ : ∃ i, j = o + (i + 1) := ⟨j - o - 1, by omega⟩
        rw [show o + (i + 1) - (o + 1) = i by omega, show o + (i + 1) - o = i + 1 by omega]
        simp [List.getD]
      · rw [if_neg h1, if_neg e, if_neg (by simp; omega)]
theorem below_setCells {B : Nat} {w0 : World} {b : Nat} (hb : B ≤ b) : ∀ (vs : List Value) (o : Nat) (w : World), Below B w0 w → Below B w0 (w.setCells b o vs)
  | [], _, _, h => h
  | v :: r, o, w, h => by rw [World.setCells]; exact below_setCells hb r (o + 1) _ (h.setCell (p := ⟨b, o, none⟩) hb _)
theorem heap_setCells_other {b k : Nat} (hk : k ≠ b) : ∀ (vs : List Value) (o : Nat) (w : World), (w.setCells b o vs).heap[k]? = w.heap[k]?
  | [], _, _ => rfl
  | v :: r, o, w => by rw [World.setCells, heap_setCells_other hk r]; exact heap_setCell_other _ _ _ _ hk
theorem TwL.lower {w : World} {lo lo' d : Nat} (hl : lo' ≤ lo) {x : Lit4} {p : LP} (h : TwL w lo d x p) : TwL w lo' d x p := ⟨h.ts.lower hl, h.l.lower hl, h.r.lower hl⟩
theorem oneCells_arg (x : A5) : (A5.cells x).toArray.all (·.oneCell') = true := by simp [A5.cells, Value.oneCell']
theorem oneCells_lit (y : XL) : (XL.cells y).toArray.all (·.oneCell') = true := by simp [XL.cells, Value.oneCell']
end Go.Proofs.YteabclfhmapabaaDoor
end
section
namespace Go.Proofs.YteabclfhmapabaaDoor
open Go.RowKit Go.Maps
set_option linter.unusedVariables false
set_option linter.unusedSimpArgs false
attribute [local go_sem ↓] Go.wp_at_zero Go.wp_at_succ
attribute [-go_sem] loadVar storeVar

theorem rl_setAll {w : World} {b : Nat} {t : TypeId} {l : List Value} (h : RL w b t l) (vs : List Value) (hv : vs.length = l.length) : RL (w.setCells b 0 vs) b t vs := by
  unfold RL
  rw [hv]
  refine (rowIs_setCells vs 0 w _ h).congr fun j hj => ?_
  rw [if_pos ⟨Nat.zero_le _, by omega⟩, Nat.sub_zero]
theorem load_Arg {u : World} {g o : Nat} {cs : List Value} (h : u.rangeAt g o cs) (hl : cs.length = 5) : (loadVar 99 ⟨g, o, none⟩).run Tryd.prog u = .ok (.agg cs.toArray) u :=
  run_loadVar_mid u g o _ cs _ h Tryd.underlying99 rfl (by rw [hl]; kernel_rfl)
theorem load_Lit {u : World} {g o : Nat} {cs : List Value} (h : u.rangeAt g o cs) (hl : cs.length = 16) : (loadVar 56 ⟨g, o, none⟩).run Tryd.prog u = .ok (.agg cs.toArray) u :=
  run_loadVar_mid u g o _ cs _ h Tryd.underlying56 rfl (by rw [hl]; kernel_rfl)
end Go.Proofs.YteabclfhmapabaaDoor
end
section
namespace Go.Proofs.YteabclfhmapabaaDoor
open Go.RowKit Go.Maps
set_option linter.unusedVariables false
set_option linter.unusedSimpArgs false
attribute [local go_sem ↓] Go.wp_at_zero Go.wp_at_succ

set_option maxHeartbeats 3200000 in
theorem literalPartsT_any (d : Nat) (x : Lit4) (p : LP) (w : World) (h : LIs w d x p) (lf : Nat) (hlf : lf ≤ 1048576) :
    Calls Tryd.prog 22 #[x.val p, .int .i64 (lf : Int)] w fun r w' => ∃ n : Int, r = .returned (.int .i64 n) ∧ Below w.heap.size w w' ∧ (0 ≤ n ∧ n ≤ (lf : Int) + 1) ∧ (n ≤ (lf : Int) → smallL d x ∧ 1 + ((termsL d x).length : Int) ≤ n) := by
  have HE1 : Hid (∀ u, Below w.heap.size w u → Calls Tryd.prog 40 #[x.l.val p.la p.lc, .int .i64 (lf : Int)] u fun r w' => ∃ n : Int, r = .returned (.int .i64 n) ∧ Below u.heap.size u w' ∧ (0 ≤ n ∧ n ≤ (lf : Int) + 1) ∧ (n ≤ (lf : Int) → smallE d x.l ∧ (szD d x.l : Int) ≤ n)) := fun u hu => exprPartsS_any d x.l p.la p.lc u (h.l.below hu) lf hlf
  have HE2 : Hid (∀ u (z : Int), 0 ≤ z → z ≤ 1048576 → Below w.heap.size w u → Calls Tryd.prog 40 #[x.r.val p.ra p.rc, .int .i64 z] u fun r w' => ∃ n : Int, r = .returned (.int .i64 n) ∧ Below u.heap.size u w' ∧ (0 ≤ n ∧ n ≤ z + 1) ∧ (n ≤ z → smallE d x.r ∧ (szD d x.r : Int) ≤ n)) := fun u z h0 h1 hu => by
    obtain ⟨m, rfl⟩ : ∃ m : Nat, z = m := ⟨z.toNat, by omega⟩
    exact exprPartsS_any d x.r p.ra p.rc u (h.r.below hu) m (by omega)
  have BA := (Below.refl w.heap.size w).alloc (Nat.le_refl _) (.cells #[.int .i8 x.k, .string x.pr, .slice p.a x.ts.length p.c, .int .i8 x.rel, .int .i8 x.l.op, .string x.l.t.v, .int .i8 x.l.t.a.k, .int .i64 x.l.t.a.n, .string x.l.t.a.s, .slice p.la x.l.kids.length p.lc, .int .i8 x.r.op, .string x.r.t.v, .int .i8 x.r.t.a.k, .int .i64 x.r.t.a.n, .string x.r.t.a.s, .slice p.ra x.r.kids.length p.rc] 56)
  have HR0 : Hid (RL (w.alloc (.cells #[.int .i8 x.k, .string x.pr, .slice p.a x.ts.length p.c, .int .i8 x.rel, .int .i8 x.l.op, .string x.l.t.v, .int .i8 x.l.t.a.k, .int .i64 x.l.t.a.n, .string x.l.t.a.s, .slice p.la x.l.kids.length p.lc, .int .i8 x.r.op, .string x.r.t.v, .int .i8 x.r.t.a.k, .int .i64 x.r.t.a.n, .string x.r.t.a.s, .slice p.ra x.r.kids.length p.rc] 56)) w.heap.size 56 [.int .i8 x.k, .string x.pr, .slice p.a x.ts.length p.c, .int .i8 x.rel, .int .i8 x.l.op, .string x.l.t.v, .int .i8 x.l.t.a.k, .int .i64 x.l.t.a.n, .string x.l.t.a.s, .slice p.la x.l.kids.length p.lc, .int .i8 x.r.op, .string x.r.t.v, .int .i8 x.r.t.a.k, .int .i64 x.r.t.a.n, .string x.r.t.a.s, .slice p.ra x.r.kids.length p.rc]) := rl_new w #[.int .i8 x.k, .string x.pr, .slice p.a x.ts.length p.c, .int .i8 x.rel, .int .i8 x.l.op, .string x.l.t.v, .int .i8 x.l.t.a.k, .int .i64 x.l.t.a.n, .string x.l.t.a.s, .slice p.la x.l.kids.length p.lc, .int .i8 x.r.op, .string x.r.t.v, .int .i8 x.r.t.a.k, .int .i64 x.r.t.a.n, .string x.r.t.a.s, .slice p.ra x.r.kids.length p.rc] 56
  have HBA : Hid (Below w.heap.size w _) := BA
  have hln := h.ln
  have hlen1 : IntKind.i64.wrap (1 + (x.ts.length : Int)) = 1 + (x.ts.length : Int) := wrap_mid (by omega) (by omega)
  clear h BA
  unfold Lit4.val E.val at *
  go_enter Tryd.func22, Tryd.ntmps22
  go_upto_region 1 with fail
  generalize hWW : w.alloc (.cells #[.int .i8 x.k, .string x.pr, .slice p.a x.ts.length p.c, .int .i8 x.rel, .int .i8 x.l.op, .string x.l.t.v, .int .i8 x.l.t.a.k, .int .i64 x.l.t.a.n, .string x.l.t.a.s, .slice p.la x.l.kids.length p.lc, .int .i8 x.r.op, .string x.r.t.v, .int .i8 x.r.t.a.k, .int .i64 x.r.t.a.n, .string x.r.t.a.s, .slice p.ra x.r.kids.length p.rc] 56) = W at HR0 HBA ⊢
  clear hWW
  have HC : Hid (∀ u, Below W.heap.size W u → Below w.heap.size w u ∧ u.cell? ⟨w.heap.size, 2, none⟩ = some (.slice p.a x.ts.length p.c) ∧ u.cell? ⟨w.heap.size, 4, none⟩ = some (.int .i8 x.l.op) ∧ u.cell? ⟨w.heap.size, 5, none⟩ = some (.string x.l.t.v) ∧ u.cell? ⟨w.heap.size, 6, none⟩ = some (.int .i8 x.l.t.a.k) ∧ u.cell? ⟨w.heap.size, 7, none⟩ = some (.int .i64 x.l.t.a.n) ∧ u.cell? ⟨w.heap.size, 8, none⟩ = some (.string x.l.t.a.s) ∧ u.cell? ⟨w.heap.size, 9, none⟩ = some (.slice p.la x.l.kids.length p.lc)) := fun u hu => by
    have hr := RL.below HR0.out hu
    exact ⟨HBA.out.trans (hu.mono HBA.out.size), (hr.at (j := 2) rfl), (hr.at (j := 4) rfl), (hr.at (j := 5) rfl), (hr.at (j := 6) rfl), (hr.at (j := 7) rfl), (hr.at (j := 8) rfl), (hr.at (j := 9) rfl)⟩
  have hB0 : Below W.heap.size W W.drew := (Below.refl _ _).drew
  have hS0 := HC.out _ (Below.refl _ _)
  go_region_held3 (fun u => (Below W.heap.size W u) ∧ u.cell? ⟨w.heap.size, 2, none⟩ = some (.slice p.a x.ts.length p.c) ∧ u.cell? ⟨w.heap.size, 4, none⟩ = some (.int .i8 x.l.op) ∧ u.cell? ⟨w.heap.size, 5, none⟩ = some (.string x.l.t.v) ∧ u.cell? ⟨w.heap.size, 6, none⟩ = some (.int .i8 x.l.t.a.k) ∧ u.cell? ⟨w.heap.size, 7, none⟩ = some (.int .i64 x.l.t.a.n) ∧ u.cell? ⟨w.heap.size, 8, none⟩ = some (.string x.l.t.a.s) ∧ u.cell? ⟨w.heap.size, 9, none⟩ = some (.slice p.la x.l.kids.length p.lc))
    (first
      | assumption
      | exact ⟨hB0, (HC.out _ hB0).2⟩
      | exact ⟨(by assumption), (HC.out _ (by assumption)).2⟩)
    (first
      | (go_at_call 40; refine Calls.mono (HE1.out _ (HC.out _ (by assumption)).1) ?_; rintro ee wf ⟨n1, rfl, bf, ⟨hn0, hn1⟩, hsm⟩; have HSM : Hid _ := hsm; clear hsm; have bf' := next_below (wc := W) (by assumption) bf; have hw2 : IntKind.i64.wrap (1 + (x.ts.length : Int) + n1) = 1 + (x.ts.length : Int) + n1 := wrap_mid (by omega) (by omega))
      | fail)
  have H1 : Hid (RL wf w.heap.size 56 [.int .i8 x.k, .string x.pr, .slice p.a x.ts.length p.c, .int .i8 x.rel, .int .i8 x.l.op, .string x.l.t.v, .int .i8 x.l.t.a.k, .int .i64 x.l.t.a.n, .string x.l.t.a.s, .slice p.la x.l.kids.length p.lc, .int .i8 x.r.op, .string x.r.t.v, .int .i8 x.r.t.a.k, .int .i64 x.r.t.a.n, .string x.r.t.a.s, .slice p.ra x.r.kids.length p.rc]) := RL.below HR0.out bf'
  have B1 : Hid (Below w.heap.size w wf) := (HC.out _ bf').1
  clear HC hB0 hS0 HR0 HBA bf bf' HE1
  by_cases hbig : (lf : Int) < 1 + (x.ts.length : Int) + n1
  · have hw3 : IntKind.i64.wrap ((lf : Int) + 1) = (lf : Int) + 1 := wrap_mid (by omega) (by omega)
    go_wp2
    go_ret
    exact ⟨_, rfl, B1.out, ⟨by omega, by omega⟩, fun h => absurd h (by omega)⟩
  · have hw3 : IntKind.i64.wrap ((lf : Int) - (1 + (x.ts.length : Int) + n1)) = (lf : Int) - (1 + (x.ts.length : Int) + n1) := wrap_mid (by omega) (by omega)
    have z10 := H1.out.at (j := 10) rfl
    have z11 := H1.out.at (j := 11) rfl
    have z12 := H1.out.at (j := 12) rfl
    have z13 := H1.out.at (j := 13) rfl
    have z14 := H1.out.at (j := 14) rfl
    have z15 := H1.out.at (j := 15) rfl
    go_wp2_with fail
    refine Calls.mono (HE2.out _ _ (by omega) (by omega) B1.out) ?_
    rintro ee w2 ⟨n2, rfl, b2, ⟨hm0, hm1⟩, hsm⟩
    have HS2 : Hid _ := hsm
    have hw4 : IntKind.i64.wrap (1 + (x.ts.length : Int) + n1 + n2) = 1 + (x.ts.length : Int) + n1 + n2 := wrap_mid (by omega) (by omega)
    clear hsm
    go_wp2
    go_ret
    exact ⟨_, rfl, B1.out.trans (b2.mono B1.out.size), ⟨by omega, by omega⟩, fun h => ⟨⟨by omega, ⟨(HSM.out (by omega)).1, by have := (HSM.out (by omega)).2; omega⟩, ⟨(HS2.out (by omega)).1, by have := (HS2.out (by omega)).2; omega⟩⟩, by have e1 := (HSM.out (by omega)).2; have e2 := (HS2.out (by omega)).2; unfold szD at e1 e2; unfold termsL; simp only [List.length_append]; omega⟩⟩
end Go.Proofs.YteabclfhmapabaaDoor
end
section
namespace Go.Proofs.YteabclfhmapabaaDoor
open Go.RowKit Go.Maps
set_option linter.unusedVariables false
set_option linter.unusedSimpArgs false
attribute [local go_sem ↓] Go.wp_at_zero Go.wp_at_succ
attribute [-go_sem] loadVar storeVar

/-- a rule that is not beyond the bound -/
structure smallR (d : Nat) (r : R3) : Prop where
  hd : r.hd.length ≤ 1048576
  bd : r.bd.length ≤ 1048576
  each : ∀ y ∈ r.bd, smallL d y.x
  terms : (termsR d r).length ≤ 1048576
theorem takeL {l : List XL} {k : Nat} (h : k < l.length) : l.take (k + 1) = l.take k ++ [atL l k] := by rw [List.take_add_one, List.getElem?_eq_getElem h, atL_eq h]; rfl
set_option maxHeartbeats 3200000 in
theorem rulePartsR_any (d : Nat) (r : R3) (p : RP) (w : World) (hR : RIs w d r p) :
    Calls Tryd.prog 11 #[r.val p, .int .i64 1048576] w fun e w' => ∃ n : Int, e = .returned (.int .i64 n) ∧ Below w.heap.size w w' ∧ (n ≤ 1048576 → smallR d r) := by
  obtain ⟨pr, hd, bd⟩ := r
  obtain ⟨pa, pc, ba, bc⟩ := p
  have hhl := hR.hl
  have hbl := hR.bl
  have h2 := hR.bd
  unfold R3.val
  dsimp only at hhl hbl h2 ⊢
  have HEa : Hid (∀ i, i < bd.length → LIs w d (atL bd i).x (atL bd i).p) := fun i hi => h2.at_is hi
  obtain ⟨a1, c1, e1, hc1, hc2, hk⟩ := h2.form
  cases e1
  have HK : Hid _ := hk
  have HBA : Hid (Below w.heap.size w (w.alloc (.cells #[.string pr, .slice pa hd.length pc, .slice ba bd.length bc] 25))) := (Below.refl w.heap.size w).alloc (Nat.le_refl _) _
  have HR0 : Hid (RL (w.alloc (.cells #[.string pr, .slice pa hd.length pc, .slice ba bd.length bc] 25)) w.heap.size 25 [.string pr, .slice pa hd.length pc, .slice ba bd.length bc]) := rl_new w #[.string pr, .slice pa hd.length pc, .slice ba bd.length bc] 25
  have hagg1 := fun q => loadVar.eq_1 23 q
  have hagg2 := fun q => loadVar.eq_1 22 q
  have hw0 : IntKind.i64.wrap (1 + (hd.length : Int)) = 1 + (hd.length : Int) := wrap_mid (by omega) (by omega)
  clear hk h2 hR hc2
  go_enter Tryd.func11, Tryd.ntmps11
  go_wp2
  clear hw0
  go_loopw [5, 6] (fun n i wr => ∃ (k : Nat) (m : Int), k ≤ bd.length ∧ i = .int .i64 k ∧ n = .int .i64 m ∧ 0 ≤ m ∧ m ≤ 281474976710657 ∧ Below w.heap.size w wr ∧ Hid (RL wr w.heap.size 25 [.string pr, .slice pa hd.length pc, .slice ba bd.length bc]) ∧ Hid (m ≤ 1048576 → 1 + (hd.length : Int) + (k : Int) + (((bd.take k).flatMap (fun y => termsL d y.x)).length : Int) ≤ m ∧ ∀ y ∈ bd.take k, smallL d y.x)) (fun _ i _ => bd.length - (intOf i).toNat)
  case atStart => exact ⟨0, 1 + (hd.length : Int), Nat.zero_le _, rfl, rfl, by omega, by omega, HBA.out, HR0, fun _ => ⟨by simp, fun y hy => by simp at hy⟩⟩
  case round =>
    obtain ⟨k, m, hk, rfl, rfl, hm0, hm1, bel, HR, HS⟩ := hrel
    have r2 := HR.out.at (j := 2) rfl
    clear HR0 HBA
    by_cases hlt : k < bd.length
    · have hlt' : (k : Int) < (bd.length : Int) := by omega
      by_cases hmm : m ≤ 1048576
      · obtain ⟨g, off, rfl, hg, hKS⟩ := HK.out (by omega)
        have hld := load_Lit (range_below (hKS k hlt) bel hg) rfl
        rw [XL.val_eq] at hld
        have hXk := (HEa.out k hlt).below bel
        have hw1 : IntKind.i64.wrap (1048576 - m) = 1048576 - m := wrap_mid (by omega) (by omega)
        have HP : Hid (∀ z : Int, 0 ≤ z → z ≤ 1048576 → Calls Tryd.prog 22 #[(atL bd k).x.val (atL bd k).p, .int .i64 z] wr fun r w' => ∃ n : Int, r = .returned (.int .i64 n) ∧ Below wr.heap.size wr w' ∧ (0 ≤ n ∧ n ≤ z + 1) ∧ (n ≤ z → smallL d (atL bd k).x ∧ 1 + ((termsL d (atL bd k).x).length : Int) ≤ n)) := fun z h0 h1 => by
          obtain ⟨q, rfl⟩ : ∃ q : Nat, z = q := ⟨z.toNat, by omega⟩
          exact literalPartsT_any d _ _ wr hXk q (by omega)
        have HTk : Hid _ := takeL hlt
        generalize (atL bd k).x.val (atL bd k).p = QV at hld HP
        clear hKS hXk
        go_wp2_with fail
        refine Calls.mono (HP.out _ (by omega) (by omega)) ?_
        rintro ee w1 ⟨n1, rfl, b1, ⟨hn0, hn1⟩, hsm⟩
        have HR1 : Hid (RL w1 w.heap.size 25 _) := RL.below HR.out b1
        have bel1 := bel.trans (b1.mono bel.size)
        have HSM : Hid _ := hsm
        have hw2 : IntKind.i64.wrap (m + n1) = m + n1 := wrap_mid (by omega) (by omega)
        clear hsm b1 bel r2 HR HP hld
        go_wp2
        go_roundw
        case rel =>
          refine ⟨k + 1, m + n1, by omega, by go_num, rfl, by omega, by omega, bel1, HR1, fun h => ?_⟩
          obtain ⟨h1, h2⟩ := HS.out (by omega)
          obtain ⟨h3, h4⟩ := HSM.out (by omega)
          rw [HTk.out, List.flatMap_append, List.length_append]
          refine ⟨by simp only [List.flatMap_cons, List.flatMap_nil, List.append_nil]; omega, fun y hy => ?_⟩
          rcases List.mem_append.1 hy with h5 | h5
          · exact h2 y h5
          · rw [List.mem_singleton.1 h5]; exact h3
        case measure => simp [intOf]; omega
      · have hmm' : ¬ m ≤ 1048576 := hmm
        go_wp2
        go_ret
        exact ⟨_, rfl, bel, fun h => absurd h (by omega)⟩
    · obtain rfl : k = bd.length := by omega
      rw [List.take_length] at HS
      go_wp2
      go_ret
      refine ⟨_, rfl, bel, fun h => ?_⟩
      obtain ⟨h1, h2⟩ := HS.out h
      exact ⟨by show hd.length ≤ _; omega, by show bd.length ≤ _; omega, h2, by unfold termsR; rw [List.length_append, List.length_map]; show hd.length + (bd.flatMap _).length ≤ _; omega⟩
theorem beyondRule_any (d : Nat) (r : R3) (p : RP) (w : World) (hR : RIs w d r p) :
    Calls Tryd.prog 5 #[r.val p] w fun e w' => ∃ b : Bool, e = .returned (.bool b) ∧ Below w.heap.size w w' ∧ (b = false → smallR d r) := by
  have BA := (Below.refl w.heap.size w).alloc (Nat.le_refl _) (.cells #[.string r.pr, .slice p.a r.hd.length p.c, .slice p.ba r.bd.length p.bc] 25)
  have HP : Hid _ := rulePartsR_any d r p _ (hR.below BA)
  have HR0 : RL (w.alloc (.cells #[.string r.pr, .slice p.a r.hd.length p.c, .slice p.ba r.bd.length p.bc] 25)) w.heap.size 25 [.string r.pr, .slice p.a r.hd.length p.c, .slice p.ba r.bd.length p.bc] := rl_new w #[.string r.pr, .slice p.a r.hd.length p.c, .slice p.ba r.bd.length p.bc] 25
  have hld : (loadVar 25 ⟨w.heap.size, 0, none⟩).run Tryd.prog (w.alloc (.cells #[.string r.pr, .slice p.a r.hd.length p.c, .slice p.ba r.bd.length p.bc] 25)) = .ok (.agg #[.string r.pr, .slice p.a r.hd.length p.c, .slice p.ba r.bd.length p.bc]) _ := run_loadVar_mid _ _ 0 25 [.string r.pr, .slice p.a r.hd.length p.c, .slice p.ba r.bd.length p.bc] _ (RL.range HR0) Tryd.underlying25 rfl (by kernel_rfl)
  clear hR HR0
  unfold R3.val at *
  go_enter Tryd.func5, Tryd.ntmps5
  go_wp2_with fail
  refine Calls.mono HP.out ?_
  rintro e w1 ⟨n, rfl, b1, hs⟩
  have HS : Hid _ := hs
  clear hs HP hld
  go_wp2
  go_ret
  exact ⟨_, rfl, BA.trans (b1.mono BA.size), fun h => HS.out (by simpa using h)⟩
end Go.Proofs.YteabclfhmapabaaDoor
end
