import Derived.Test.YtkgoceomkkohmaaDoorTermTerm
import Derived.ProofKit
import Derived.OpenShut
import Derived.ShutString
import Derived.Lib.SmallJoins
import Derived.Deep.CondSized
import Derived.Test.YtkgoceomkkohmaaDoorTermTree
import Derived.SizedLaws
import Derived.Deep.Slices
import Derived.Test.YtkgoceomkkohmaaDoorTermMM
import Derived.Test.YtkgoceomkkohmaaDoorRows
namespace Go.Proofs.YtkgoceomkkohmaaDoor
open Go.ChangeShapes Go.WideShapes Go.ChangeAt Go.RowKit Go.Joins
set_option linter.unusedVariables false
set_option linter.unusedSimpArgs false
set_option maxRecDepth 100000

theorem own : ownKnob Tryd.prog.godebug = none := by kernel_rfl
theorem laidOut : laidOutB Tryd.prog = true := by kernel_rfl
theorem cellsKV : Tryd.prog.cellsOf 26 = 3 := by kernel_rfl
theorem cellsKT : Tryd.prog.cellsOf 28 = 4 := by kernel_rfl
theorem cellsKK : Tryd.prog.cellsOf 24 = 1 := by kernel_rfl
theorem cellsKN : Tryd.prog.cellsOf 2 = 1 := by kernel_rfl
theorem cellsKS : Tryd.prog.cellsOf 9 = 1 := by kernel_rfl
section
variable {H : Type} {enc : TypeId × Value → H} {w : World}

/-- one value's three cells -/
theorem value_cells {base : Nat} {spare : Nat → Bool} {held : Bool} {n : Nat} {cs : List Value} {y : DataW H × List MemPlace} (hl : cs.length = 3) (h : DataW.trod enc Tryd.prog w base spare held n 26 cs = some y) :
    ∃ u : V, cs = [.int .i8 u.k, .int .i64 u.n, .string u.s] ∧ u.wf := by
  obtain ⟨xs, k, hk, hxy, _, hxl, hf⟩ := DataW.trod_struct Tryd.underlying26 h
  match xs, hxl, cs, hl with
  | [y0, y1, y2], _, [v0, v1, v2], _ =>
    have g0 := hf 0 _ rfl
    have g1 := hf 1 _ rfl
    have g2 := hf 2 _ rfl
    simp [cellsKK, cellsKN, cellsKS] at g0 g1 g2
    obtain ⟨a, e0, _, w0⟩ := DataW.trod_int Tryd.underlying24 g0
    obtain ⟨b, e1, _, w1⟩ := DataW.trod_int Tryd.underlying2 g1
    obtain ⟨s, e2, _, hs⟩ := DataW.trod_string Tryd.underlying9 g2
    simp at e0 e1 e2
    subst e0 e1 e2
    exact ⟨⟨a, b, s⟩, rfl, ⟨w0, w1, hs⟩⟩

/-- one term's four cells -/
theorem term_cells {base : Nat} {spare : Nat → Bool} {held : Bool} {n : Nat} {cs : List Value} {y : DataW H × List MemPlace} (hl : cs.length = 4) (h : DataW.trod enc Tryd.prog w base spare held n 28 cs = some y) :
    ∃ t : T, cs = [.string t.v, .int .i8 t.a.k, .int .i64 t.a.n, .string t.a.s] ∧ t.wf := by
  obtain ⟨xs, k, hk, hxy, _, hxl, hf⟩ := DataW.trod_struct Tryd.underlying28 h
  match xs, hxl, cs, hl with
  | [y0, y1], _, [v0, v1, v2, v3], _ =>
    have g0 := hf 0 _ rfl
    have g1 := hf 1 _ rfl
    simp [cellsKV, cellsKS] at g0 g1
    obtain ⟨s, e0, _, hs⟩ := DataW.trod_string Tryd.underlying9 g0
    obtain ⟨u, e1, hu⟩ := value_cells rfl g1
    simp at e0 e1
    obtain ⟨rfl, rfl, rfl⟩ := e1
    subst e0
    exact ⟨⟨s, u⟩, rfl, ⟨hs, hu⟩⟩

theorem open_term {base : Nat} {spare : Nat → Bool} {held : Bool} {r : Reach} {b0 : Nat} {v : Value} {d : DataW H} {p : List MemPlace}
    (hv : Value.okWide Tryd.prog w r b0 28 v) (h : DataW.Trod enc Tryd.prog w base spare held 28 v d p) :
    ∃ t : T, v = t.val ∧ t.wf := by
  obtain ⟨cs, rfl, hcs⟩ := okWide_struct Tryd.underlying28 hv
  obtain ⟨m, hm⟩ := h
  rw [cellsKT] at hcs
  obtain ⟨t, e, ht⟩ := term_cells (by simpa [Value.cells] using hcs) hm
  refine ⟨t, ?_, ht⟩
  have : cs.toList = [.string t.v, .int .i8 t.a.k, .int .i64 t.a.n, .string t.a.s] := e
  unfold T.val
  congr 1
  exact Array.toList_inj.1 this
end
open Go.ChangeShapes Go.WideShapes Go.ChangeAt Go.RowKit Go.Joins Go.Deep
set_option linter.unusedVariables false
set_option linter.unusedSimpArgs false
set_option maxRecDepth 100000

theorem cellsE : Tryd.prog.cellsOf 31 = 6 := by kernel_rfl
theorem cellsEO : Tryd.prog.cellsOf 23 = 1 := by kernel_rfl
theorem cellsEK : Tryd.prog.cellsOf 29 = 1 := by kernel_rfl
theorem cellsET : Tryd.prog.cellsOf 28 = 4 := by kernel_rfl
theorem bytesE : Tryd.prog.bytesOf 31 = 80 := by kernel_rfl
theorem weights_all {H : Type} {P : Program} {e : TypeId} : ∀ {ds : List (DataW H)} {i : Nat} {d : DataW H}, ds[i]? = some d → ∀ n ∈ d.weights P e, n ∈ DataW.weightsAll P e ds
  | d0 :: ds, 0, d, hd, n, hn => by
    simp only [List.getElem?_cons_zero, Option.some.injEq] at hd
    subst hd
    simp only [DataW.weightsAll, List.mem_append]
    exact .inl hn
  | d0 :: ds, i + 1, d, hd, n, hn => by
    simp only [List.getElem?_cons_succ] at hd
    simp only [DataW.weightsAll, List.mem_append]
    exact .inr (weights_all hd n hn)
section
variable {H : Type} {enc : TypeId × Value → H} {w : World}
theorem expr_cells {held : Bool} : ∀ (m : Nat) (cs : List Value) (x : DataW H × List MemPlace), cs.length = 6 → DataW.trod enc Tryd.prog w 0 (fun _ => true) held m 31 cs = some x → (∀ n ∈ x.1.weights Tryd.prog 31, n ≤ reachBytes) →
    ∃ (e : E) (a : Option Addr) (c : Nat), cs = [.int .i8 e.op, .string e.t.v, .int .i8 e.t.a.k, .int .i64 e.t.a.n, .string e.t.a.s, .slice a e.kids.length c] ∧ EIs w m e a c := by
  intro m
  induction m using Nat.strongRecOn with
  | _ m ih =>
  intro cs x hl h hw
  obtain ⟨xs, k, rfl, rfl, _, hxl, hf⟩ := DataW.trod_struct Tryd.underlying31 h
  match xs, hxl, cs, hl with
  | [y0, y1, y2], _, [v0, v1, v2, v3, v4, v5], _ =>
    have g0 := hf 0 _ rfl
    have g1 := hf 1 _ rfl
    have g2 := hf 2 _ rfl
    simp [cellsEO, cellsET, cellsEK] at g0 g1 g2
    obtain ⟨o, e0, _, wo⟩ := DataW.trod_int Tryd.underlying23 g0
    obtain ⟨t, e1, ht⟩ := term_cells rfl g1
    simp at e0 e1
    obtain ⟨rfl, rfl, rfl, rfl⟩ := e1
    subst e0
    have hop : -128 ≤ o ∧ o ≤ 127 := by
      simp only [Lit.wf, Bool.and_eq_true, decide_eq_true_eq] at wo
      exact wo
    have hw2 : ∀ n ∈ y2.1.weights Tryd.prog 29, n ≤ reachBytes := fun n hn => hw n (by
      simp only [DataW.weights, Tryd.underlying31]
      exact DataW.weights_mem_each (j := 2) (d := y2.1) rfl rfl n hn)
    rcases DataW.trod_slice Tryd.underlying29 g2 with ⟨hcs, hx⟩ | ⟨a, len, cap, elems, rest, n, hk, hcs, hx, hb, hlc, hcm, hel, hea, hsp, _⟩
    · simp at hcs
      subst hcs
      exact ⟨.mk o t [], none, 0, rfl, ⟨hop, by show 0 ≤ _; omega⟩, ht, Nat.le_refl _, by decide, fun h => absurd (show (0 : Nat) < 0 from h) (by omega)⟩
    · simp at hcs
      subst hcs hk
      have hbound : len ≤ 281474976710656 := by
        have := hw2 ((elems.length + rest.length) * 80) (by
          rw [hx]
          simp [DataW.weights, Tryd.underlying29, bytesE])
        have h3 : reachBytes ≤ 140737488355328 := by decide
        omega
      have each : ∀ i, i < len → ∃ q : E × Option Addr × Nat, w.cell? (a.add (i * 6)) = some (.int .i8 q.1.op) ∧ w.cell? (a.add (i * 6 + 1)) = some (.string q.1.t.v) ∧ w.cell? (a.add (i * 6 + 2)) = some (.int .i8 q.1.t.a.k) ∧ w.cell? (a.add (i * 6 + 3)) = some (.int .i64 q.1.t.a.n) ∧ w.cell? (a.add (i * 6 + 4)) = some (.string q.1.t.a.s) ∧ w.cell? (a.add (i * 6 + 5)) = some (.slice q.2.1 q.1.kids.length q.2.2) ∧ EIs w n q.1 q.2.1 q.2.2 := by
        intro i hi
        have h1 := hea i hi
        obtain ⟨y, hy⟩ : ∃ y, elems[i]? = some y := ⟨_, List.getElem?_eq_getElem (by omega)⟩
        rw [hy] at h1
        obtain ⟨cs', hc1, hc2⟩ := Option.bind_eq_some_iff.1 h1
        rw [cellsE] at hc1
        obtain ⟨_, hlen, hcell⟩ := World.cells?_some hc1
        obtain ⟨e, a', c', rfl, he⟩ := ih n (by omega) cs' y hlen hc2 (fun z hz => hw2 z (by
          rw [hx]
          simp only [DataW.weights, Tryd.underlying29, List.mem_cons, List.mem_append]
          exact .inr (.inl (weights_all (i := i) (d := y.1) (by rw [List.getElem?_map, hy]; rfl) z hz))))
        have e0 := hcell 0 (by simp)
        have e1 := hcell 1 (by simp)
        have e2 := hcell 2 (by simp)
        have e3 := hcell 3 (by simp)
        have e4 := hcell 4 (by simp)
        have e5 := hcell 5 (by simp)
        rw [add_add] at e0 e1 e2 e3 e4 e5
        exact ⟨(e, a', c'), by simpa using e0, by simpa using e1, by simpa using e2, by simpa using e3, by simpa using e4, by simpa using e5, he⟩
      haveI : Inhabited E := ⟨E0⟩
      obtain ⟨q, hq⟩ := choose_lt each
      have hul : ((List.range len).map fun i => (q i).1).length = len := by simp
      refine ⟨.mk o t ((List.range len).map fun i => (q i).1), some a, cap, ?_, ⟨hop, ?_⟩, ht, ?_, hcm, ?_⟩
      · simp only [op_mk, t_mk, kids_mk, hul]
      · simp only [kids_mk, hul]; exact hbound
      · simp only [kids_mk, hul]; exact hlc
      · intro h0
        simp only [kids_mk, hul] at h0 ⊢
        obtain ⟨b, off, spot⟩ := a
        have hspot : spot = none := by simpa [Addr.add] using World.cell?_spot (hq 0 (by omega)).1
        subst hspot
        have plain : ∀ k, (⟨b, off, none⟩ : Addr).add k = ⟨b, off + k, none⟩ := fun k => add_plain b off k
        refine ⟨b, off, rfl, ?_, fun i hi => ?_⟩
        · have := (hq 0 (by omega)).1
          rw [plain] at this
          exact World.block_lt_of_cell? _ _ this
        · have hat : atE ((List.range len).map fun i => (q i).1) i = (q i).1 := by rw [atE_eq (by rw [hul]; exact hi)]; simp
          rw [hat]
          obtain ⟨z0, z1, z2, z3, z4, z5, z6⟩ := hq i hi
          rw [plain] at z0 z1 z2 z3 z4 z5
          exact ⟨(q i).2.1, (q i).2.2, ⟨z0, z1, z2, z3, z4, z5⟩, z6.more⟩
theorem open_expr {r : Reach} {b0 : Nat} {v : Value} {d : DataW H} {p : List MemPlace} {ts : List TypeId} {ds : List (DataW H)} {j : Nat}
    (hv : Value.okWide Tryd.prog w r b0 31 v) (h : DataW.Trod enc Tryd.prog w 0 (fun _ => true) true 31 v d p)
    (hsz : (DataW.weightsEach Tryd.prog ts ds).all (· ≤ reachBytes) = true) (ht : ts[j]? = some 31) (hd : ds[j]? = some d) :
    ∃ (n : Nat) (e : E) (a : Option Addr) (c : Nat), v = e.val a c ∧ EIs w n e a c := by
  obtain ⟨cs, rfl, hcs⟩ := okWide_struct Tryd.underlying31 hv
  obtain ⟨m, hm⟩ := h
  rw [cellsE] at hcs
  obtain ⟨e, a, c, he, hE⟩ := expr_cells m _ _ (by simpa [Value.cells] using hcs) hm (fun n hn => by
    have := List.all_eq_true.1 hsz n (DataW.weights_mem_each ht hd n hn)
    exact of_decide_eq_true this)
  refine ⟨m, e, a, c, ?_, hE⟩
  have : cs.toList = [.int .i8 e.op, .string e.t.v, .int .i8 e.t.a.k, .int .i64 e.t.a.n, .string e.t.a.s, .slice a e.kids.length c] := he
  unfold E.val
  congr 1
  exact Array.toList_inj.1 this
end
open Go.ChangeShapes Go.WideShapes Go.ChangeAt Go.RowKit Go.Joins Go.Deep
set_option linter.unusedVariables false
set_option linter.unusedSimpArgs false
set_option maxRecDepth 100000

theorem lt_of_at_off {w : World} {g off n c : Nat} {ts : List T} (hn : ts.length = n) (hc1 : n ≤ c) (hc2 : c ≤ maxLen) (hg : g < w.heap.size) (h : ∀ i, i < ts.length → TAt w g (off + i * 4) (atT ts i)) (hwf : ∀ t ∈ ts, t.wf) : Lt w (.slice (some ⟨g, off, none⟩) n c) ts := by
  subst hn
  refine ⟨⟨Nat.le_trans hc1 hc2, _, c, rfl, hc1, hc2, fun _ => ⟨g, off, rfl, hg, fun i hi => ?_⟩⟩, hwf⟩
  have hl : (ts.flatMap T.cells).length = ts.length * 4 := flat_len T.cells 4 (fun _ => rfl) ts
  have hi4 : i / 4 < ts.length := by omega
  have hx := flat_at T.cells 4 (fun _ => rfl) T0 ts (i / 4) (i % 4) hi4 (by omega)
  rw [show i / 4 * 4 + i % 4 = i by omega] at hx
  have ht := h (i / 4) hi4
  have key : w.cell? ⟨g, off + i, none⟩ = (T.cells (atT ts (i / 4)))[i % 4]? := by
    obtain h0 | h0 | h0 | h0 : i % 4 = 0 ∨ i % 4 = 1 ∨ i % 4 = 2 ∨ i % 4 = 3 := by omega
    · have e := ht.c0
      rw [show off + i / 4 * 4 = off + i by omega] at e
      rw [e, h0]; rfl
    · have e := ht.c1
      rw [show off + i / 4 * 4 + 1 = off + i by omega] at e
      rw [e, h0]; rfl
    · have e := ht.c2
      rw [show off + i / 4 * 4 + 2 = off + i by omega] at e
      rw [e, h0]; rfl
    · have e := ht.c3
      rw [show off + i / 4 * 4 + 3 = off + i by omega] at e
      rw [e, h0]; rfl
  rw [key]
  have e2 : (ts.flatMap T.cells)[i]? = (T.cells (atT ts (i / 4)))[i % 4]? := hx
  rw [← e2, List.getElem?_eq_getElem hi]
theorem cellsBd : Tryd.prog.cellsOf 41 = 4 := by kernel_rfl
theorem bytesBd : Tryd.prog.bytesOf 41 = 48 := by kernel_rfl
section
variable {H : Type} {enc : TypeId × Value → H} {w : World}
/-- a bind's four cells -/
theorem bind_cells {held : Bool} {m : Nat} {cs : List Value} {x : DataW H × List MemPlace} (hl : cs.length = 4) (h : DataW.trod enc Tryd.prog w 0 (fun _ => true) held m 41 cs = some x) :
    ∃ t : T, cs = [.string t.v, .int .i8 t.a.k, .int .i64 t.a.n, .string t.a.s] ∧ t.wf := by
  obtain ⟨xs, k, rfl, rfl, _, hxl, hf⟩ := DataW.trod_struct Tryd.underlying41 h
  match xs, hxl, cs, hl with
  | [y0, y1], _, [v0, v1, v2, v3], _ =>
    have g0 := hf 0 _ rfl
    have g1 := hf 1 _ rfl
    simp [cellsKS, cellsKV] at g0 g1
    obtain ⟨s, e0, _, hs⟩ := DataW.trod_string Tryd.underlying9 g0
    obtain ⟨a, e1, ha⟩ := value_cells rfl g1
    simp at e0
    simp at e1
    obtain ⟨rfl, rfl, rfl⟩ := e1
    subst e0
    exact ⟨⟨s, a⟩, rfl, ⟨hs, ha⟩⟩
/-- a list of binds that came in -/
theorem binds_cell {held : Bool} {m : Nat} {v : Value} {x : DataW H × List MemPlace} (h : DataW.trod enc Tryd.prog w 0 (fun _ => true) held m 32 [v] = some x) (hw : ∀ n ∈ x.1.weights Tryd.prog 32, n ≤ reachBytes) :
    ∃ (ts : List T) (a : Option Addr) (c : Nat), v = .slice a ts.length c ∧ ts.length ≤ 2932031007402 ∧ Lt w (.slice a ts.length c) ts := by
  rcases DataW.trod_slice Tryd.underlying32 h with ⟨hcs, hx⟩ | ⟨a, len, cap, elems, rest, n, hk, hcs, hx, hb, hlc, hcm, hel, hea, hsp, _⟩
  · simp at hcs
    subst hcs
    exact ⟨[], none, 0, rfl, by decide, ⟨⟨by show 0 ≤ _; omega, none, 0, rfl, Nat.le_refl _, by decide, fun h => absurd (show (0 : Nat) < 0 from h) (by omega)⟩, fun t ht => by cases ht⟩⟩
  · simp at hcs
    subst hcs hk
    have hbound : len ≤ 2932031007402 := by
      have := hw ((elems.length + rest.length) * 48) (by
        rw [hx]
        simp [DataW.weights, Tryd.underlying32, bytesBd])
      have h3 : reachBytes ≤ 140737488355328 := by decide
      omega
    have each : ∀ i, i < len → ∃ t : T, w.cell? (a.add (i * 4)) = some (.string t.v) ∧ w.cell? (a.add (i * 4 + 1)) = some (.int .i8 t.a.k) ∧ w.cell? (a.add (i * 4 + 2)) = some (.int .i64 t.a.n) ∧ w.cell? (a.add (i * 4 + 3)) = some (.string t.a.s) ∧ t.wf := by
      intro i hi
      have h1 := hea i hi
      obtain ⟨y, hy⟩ : ∃ y, elems[i]? = some y := ⟨_, List.getElem?_eq_getElem (by omega)⟩
      rw [hy] at h1
      obtain ⟨cs', hc1, hc2⟩ := Option.bind_eq_some_iff.1 h1
      rw [cellsBd] at hc1
      obtain ⟨_, hlen, hcell⟩ := World.cells?_some hc1
      obtain ⟨t, rfl, ht⟩ := bind_cells hlen hc2
      have e0 := hcell 0 (by simp)
      have e1 := hcell 1 (by simp)
      have e2 := hcell 2 (by simp)
      have e3 := hcell 3 (by simp)
      rw [add_add] at e0 e1 e2 e3
      exact ⟨t, by simpa using e0, by simpa using e1, by simpa using e2, by simpa using e3, ht⟩
    haveI : Inhabited T := ⟨T0⟩
    obtain ⟨q, hq⟩ := choose_lt each
    have hul : ((List.range len).map q).length = len := by simp
    refine ⟨(List.range len).map q, some a, cap, by rw [hul], by rw [hul]; exact hbound, ?_⟩
    by_cases h0 : len = 0
    · subst h0
      exact ⟨⟨by show 0 ≤ _; omega, some a, cap, rfl, by simp, hcm, fun h => absurd (show (0 : Nat) < 0 from h) (by omega)⟩, fun t ht => by simp at ht⟩
    · obtain ⟨b, off, spot⟩ := a
      have hspot : spot = none := by simpa [Addr.add] using World.cell?_spot (hq 0 (by omega)).1
      subst hspot
      have plain : ∀ k, (⟨b, off, none⟩ : Addr).add k = ⟨b, off + k, none⟩ := fun k => add_plain b off k
      refine lt_of_at_off rfl (by rw [hul]; exact hlc) hcm ?_ (fun i hi => ?_) (fun t ht => ?_)
      · have := (hq 0 (by omega)).1
        rw [plain] at this
        exact World.block_lt_of_cell? _ _ this
      · rw [hul] at hi
        have hat : atT ((List.range len).map q) i = q i := by
          unfold atT
          simp [List.getD, hi]
        rw [hat]
        obtain ⟨z0, z1, z2, z3, z4⟩ := hq i hi
        rw [plain] at z0 z1 z2 z3
        exact ⟨z0, z1, z2, z3⟩
      · obtain ⟨i, hi, rfl⟩ := List.mem_map.1 ht
        exact (hq i (List.mem_range.1 hi)).2.2.2.2
def toB (t : T) : B := ⟨t.v, t.a⟩
theorem open_binds {r : Reach} {b0 : Nat} {v : Value} {d : DataW H} {p : List MemPlace} {tys : List TypeId} {ds : List (DataW H)} {j : Nat}
    (hv : Value.okWide Tryd.prog w r b0 32 v) (h : DataW.Trod enc Tryd.prog w 0 (fun _ => true) true 32 v d p)
    (hsz : (DataW.weightsEach Tryd.prog tys ds).all (· ≤ reachBytes) = true) (ht : tys[j]? = some 32) (hd : ds[j]? = some d) :
    ∃ (l : List B) (a : Option Addr) (c : Nat), v = .slice a l.length c ∧ l.length ≤ 2932031007402 ∧ Lb w (.slice a l.length c) l := by
  obtain ⟨m, hm⟩ := h
  have hw : ∀ n ∈ d.weights Tryd.prog 32, n ≤ reachBytes := fun n hn => by
    have := List.all_eq_true.1 hsz n (DataW.weights_mem_each ht hd n hn)
    exact of_decide_eq_true this
  have hv2 : v.cells.toList = [v] := by
    obtain ⟨a, n, c, rfl⟩ : ∃ a n c, v = .slice a n c := Go.WideShapes.okWide_slice Tryd.underlying32 hv
    rfl
  rw [hv2] at hm
  obtain ⟨ts, a, c, rfl, h1, h2⟩ := binds_cell hm hw
  have e : ts.length = (ts.map toB).length := by simp
  refine ⟨ts.map toB, a, c, by rw [← e], by rw [← e]; exact h1, ?_, fun b hb => ?_⟩
  · rw [← e]
    have e2 : (ts.map toB).flatMap B.cells = ts.flatMap T.cells := by
      rw [List.flatMap_map]
      rfl
    rw [e2]
    exact h2.lies
  · obtain ⟨t, hh, rfl⟩ := List.mem_map.1 hb
    exact ⟨(h2.wf t hh).text, (h2.wf t hh).val⟩
end
open Go.ChangeShapes Go.WideShapes Go.ChangeAt Go.RowKit Go.Joins Go.Deep
set_option linter.unusedVariables false
set_option linter.unusedSimpArgs false
set_option maxRecDepth 100000

theorem bulk_one {H : Type} (d : DataW H) : 1 ≤ Rows.uptoBulk d := by
  cases d with
  | lit l => cases l <;> simp [Rows.uptoBulk]
  | nil => simp [Rows.uptoBulk]
  | ptr d => simp [Rows.uptoBulk]
  | slice elems spare => simp [Rows.uptoBulk]
  | agg parts => simp [Rows.uptoBulk]
  | iface t d => simp [Rows.uptoBulk]
  | map entries => simp [Rows.uptoBulk]
  | held h => simp [Rows.uptoBulk]
theorem bulk_len {H : Type} : ∀ l : List (DataW H), l.length ≤ Rows.uptoBulkAll l
  | [] => by simp [Rows.uptoBulkAll]
  | x :: r => by
    have h1 := bulk_one x
    have h2 := bulk_len r
    simp only [Rows.uptoBulkAll, List.length_cons]
    omega
/-- a list of binds that came in is no longer than what it is reckoned as -/
theorem binds_bulk {H : Type} {enc : TypeId × Value → H} {w : World} {n : Nat} {a : Option Addr} {c : Nat} {d : DataW H} {p : List MemPlace} (h : DataW.Trod enc Tryd.prog w 0 (fun _ => true) true 32 (.slice a n c) d p) : n ≤ Rows.uptoBulk d := by
  obtain ⟨m, hm⟩ := h
  have hm : DataW.trod enc Tryd.prog w 0 (fun _ => true) true m 32 [.slice a n c] = some (d, p) := hm
  rcases DataW.trod_slice Tryd.underlying32 hm with ⟨hcs, hx⟩ | ⟨a', len, cap, elems, rest, k, hk, hcs, hx, hb, hlc, hcm, hel, hea, hsp, _⟩
  · simp at hcs
    obtain ⟨_, h0, _⟩ := hcs
    have : n = 0 := by first | exact h0 | (rw [h0]; rfl)
    omega
  · simp at hcs
    have h1 : n = len := hcs.2.1
    have h2 := bulk_len (elems.map (fun y => y.1))
    rw [List.length_map] at h2
    obtain ⟨hx, -⟩ := Prod.mk.inj hx
    rw [hx]
    simp only [Rows.uptoBulk]
    omega
end Go.Proofs.YtkgoceomkkohmaaDoor
