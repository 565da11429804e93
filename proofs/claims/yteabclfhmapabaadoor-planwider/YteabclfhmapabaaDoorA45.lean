import Derived.Test.YteabclfhmapabaaDoorRows
import Derived.Test.YteabclfhmapabaaDoorA5
import Derived.OpenShut
import Derived.Lib.LaidTab
import Derived.Stop.LaidErr
import Derived.Test.YteabclfhmapabaaDoorA25
import Derived.Test.YteabclfhmapabaaDoorA1
import Derived.ProofKit
import Derived.ShutString
import Derived.Lib.SmallJoins
import Derived.Deep.CondSized
import Derived.Test.YteabclfhmapabaaDoorA3
import Derived.SizedLaws
import Derived.Deep.Slices
section
namespace Go.Proofs.YteabclfhmapabaaDoor
open Go.RowKit
set_option linter.unusedVariables false
set_option linter.unusedSimpArgs false

/-- the table of powers and the numbers of kids, off a card's list of four tables -/
abbrev laidX : List (String × DataW Unit) := [("math/bits.deBruijn32tab", Rows.laid_math_bits_deBruijn32tab), ("math/bits.deBruijn64tab", Rows.laid_math_bits_deBruijn64tab), ("internal/strconv.uint64pow10", Rows.laid_internal_strconv_uint64pow10), ("pedigree/term.kidCounts", Rows.laid_pedigree_term_kidCounts)]
def kidTabX : List Int := [0, 1, 2, 2, 2, 2, 2, 2, 1, 1, 1]
theorem ktx_of_laid {W : World} (h : laidMetH Tryd.prog laidX W) : KT W := by
  have h0 : laidMet Tryd.prog laidX W := h
  have t : Lib.TabIs Tryd.prog W "pedigree/term.kidCounts" .i64 kidTabX :=
    Lib.tabIs_of_head (g := 0) (by kernel_rfl) (by kernel_rfl) Tryd.underlying174 Tryd.underlying3 (by kernel_rfl) (by kernel_rfl) h0.tail.tail.tail
  have hg : Tryd.prog.globalNamed "pedigree/term.kidCounts" = some 0 := by kernel_rfl
  refine ⟨World.block_lt_of_cell? _ _ (t.cell hg 0 (by decide)), fun i hi => ?_⟩
  rw [t.cell hg i (by show i < 11; exact hi)]
  match i, hi with
  | 0, _ => rfl
  | 1, _ => rfl
  | 2, _ => rfl
  | 3, _ => rfl
  | 4, _ => rfl
  | 5, _ => rfl
  | 6, _ => rfl
  | 7, _ => rfl
  | 8, _ => rfl
  | 9, _ => rfl
  | 10, _ => rfl
end Go.Proofs.YteabclfhmapabaaDoor
end
section
namespace Go.Proofs.YteabclfhmapabaaDoor
open Go.RowKit
set_option linter.unusedVariables false
set_option linter.unusedSimpArgs false

/-- the table of the bits' places, off a card's list of four tables -/
theorem dt_of_laid {W : World} (h : laidMetH Tryd.prog laidX W) : DT W := by
  have h0 : laidMet Tryd.prog laidX W := h
  have t : Lib.TabIs Tryd.prog W "math/bits.deBruijn32tab" .u8 (Lib.deBruijn32tab.map Int.ofNat) :=
    Lib.tabIs_of_head (g := 1) (by kernel_rfl) (by kernel_rfl) Tryd.underlying175 Tryd.underlying5 (by kernel_rfl) (by kernel_rfl) h0
  have hg : Tryd.prog.globalNamed "math/bits.deBruijn32tab" = some 1 := by kernel_rfl
  have e : ∀ i, i < 32 → (Lib.deBruijn32tab.map Int.ofNat).getD i 0 = ((Lib.deBruijn32tab.getD i 0 : Nat) : Int) := by decide
  exact ⟨World.block_lt_of_cell? _ _ (t.cell hg 0 (by decide)), fun i hi => by rw [t.cell hg i (by show i < 32; exact hi), e i hi]⟩
theorem gp_of_laid {W : World} (h : laidMetH Tryd.prog laidX W) : KT W ∧ DT W := ⟨ktx_of_laid h, dt_of_laid h⟩
end Go.Proofs.YteabclfhmapabaaDoor
end
section
namespace Go.Proofs.YteabclfhmapabaaDoor
open Go.ChangeShapes Go.WideShapes Go.ChangeAt Go.RowKit Go.Joins
set_option linter.unusedVariables false
set_option linter.unusedSimpArgs false
set_option maxRecDepth 100000

theorem own : ownKnob Tryd.prog.godebug = none := by kernel_rfl
theorem laidOut : laidOutB Tryd.prog = true := by kernel_rfl
theorem cellsKV : Tryd.prog.cellsOf 49 = 3 := by kernel_rfl
theorem cellsKK : Tryd.prog.cellsOf 47 = 1 := by kernel_rfl
theorem cellsKN : Tryd.prog.cellsOf 2 = 1 := by kernel_rfl
theorem cellsKS : Tryd.prog.cellsOf 9 = 1 := by kernel_rfl
section
variable {H : Type} {enc : TypeId × Value → H} {w : World}

/-- one value's three cells -/
theorem value_cells {base : Nat} {spare : Nat → Bool} {held : Bool} {n : Nat} {cs : List Value} {y : DataW H × List MemPlace} (hl : cs.length = 3) (h : DataW.trod enc Tryd.prog w base spare held n 49 cs = some y) :
    ∃ u : V, cs = [.int .i8 u.k, .int .i64 u.n, .string u.s] ∧ u.wf := by
  obtain ⟨xs, k, hk, hxy, _, hxl, hf⟩ := DataW.trod_struct Tryd.underlying49 h
  match xs, hxl, cs, hl with
  | [y0, y1, y2], _, [v0, v1, v2], _ =>
    have g0 := hf 0 _ rfl
    have g1 := hf 1 _ rfl
    have g2 := hf 2 _ rfl
    simp [cellsKK, cellsKN, cellsKS] at g0 g1 g2
    obtain ⟨a, e0, _, w0⟩ := DataW.trod_int Tryd.underlying47 g0
    obtain ⟨b, e1, _, w1⟩ := DataW.trod_int Tryd.underlying2 g1
    obtain ⟨s, e2, _, hs⟩ := DataW.trod_string Tryd.underlying9 g2
    simp at e0 e1 e2
    subst e0 e1 e2
    exact ⟨⟨a, b, s⟩, rfl, ⟨w0, w1, hs⟩⟩

/-- one term's four cells -/
theorem term_cells {base : Nat} {spare : Nat → Bool} {held : Bool} {n : Nat} {cs : List Value} {y : DataW H × List MemPlace} (hl : cs.length = 4) (h : DataW.trod enc Tryd.prog w base spare held n 51 cs = some y) :
    ∃ t : T, cs = [.string t.v, .int .i8 t.a.k, .int .i64 t.a.n, .string t.a.s] ∧ t.wf := by
  obtain ⟨xs, k, hk, hxy, _, hxl, hf⟩ := DataW.trod_struct Tryd.underlying51 h
  match xs, hxl, cs, hl with
  | [y0, y1], _, [v0, v1, v2, v3], _ =>
    have g0 := hf 0 _ rfl
    have g1 := hf 1 _ rfl
    simp [cellsKV, cellsKS] at g0 g1
    obtain ⟨s, e0, _, hs⟩ := DataW.trod_string Tryd.underlying9 g0
    obtain ⟨u, e1, hu⟩ := value_cells rfl g1
    simp at e0 e1
    obtain ⟨rfl, rfl, rfl⟩ := e1
    subst e0
    exact ⟨⟨s, u⟩, rfl, ⟨hs, hu⟩⟩

end
end Go.Proofs.YteabclfhmapabaaDoor
end
section
namespace Go.Proofs.YteabclfhmapabaaDoor
open Go.ChangeShapes Go.WideShapes Go.ChangeAt Go.RowKit Go.Joins Go.Deep
set_option linter.unusedVariables false
set_option linter.unusedSimpArgs false
set_option maxRecDepth 100000

theorem cellsE : Tryd.prog.cellsOf 54 = 6 := by kernel_rfl
theorem cellsEO : Tryd.prog.cellsOf 46 = 1 := by kernel_rfl
theorem cellsEK : Tryd.prog.cellsOf 52 = 1 := by kernel_rfl
theorem cellsET : Tryd.prog.cellsOf 51 = 4 := by kernel_rfl
theorem bytesE : Tryd.prog.bytesOf 54 = 80 := by kernel_rfl
theorem weights_all {H : Type} {P : Program} {e : TypeId} : ∀ {ds : List (DataW H)} {i : Nat} {d : DataW H}, ds[i]? = some d → ∀ n ∈ d.weights P e, n ∈ DataW.weightsAll P e ds
  | d0 :: ds, 0, d, hd, n, hn => by
    simp only [List.getElem?_cons_zero, Option.some.injEq] at hd
    subst hd
    simp only [DataW.weightsAll, List.mem_append]
    exact .inl hn
  | d0 :: ds, i + 1, d, hd, n, hn => by
    simp only [List.getElem?_cons_succ] at hd
    simp only [DataW.weightsAll, List.mem_append]
    exact .inr (weights_all hd n hn)
section
variable {H : Type} {enc : TypeId × Value → H} {w : World}
theorem expr_cells {held : Bool} : ∀ (m : Nat) (cs : List Value) (x : DataW H × List MemPlace), cs.length = 6 → DataW.trod enc Tryd.prog w 0 (fun _ => true) held m 54 cs = some x → (∀ n ∈ x.1.weights Tryd.prog 54, n ≤ reachBytes) →
    ∃ (e : E) (a : Option Addr) (c : Nat), cs = [.int .i8 e.op, .string e.t.v, .int .i8 e.t.a.k, .int .i64 e.t.a.n, .string e.t.a.s, .slice a e.kids.length c] ∧ EIs w m e a c := by
  intro m
  induction m using Nat.strongRecOn with
  | _ m ih =>
  intro cs x hl h hw
  obtain ⟨xs, k, rfl, rfl, _, hxl, hf⟩ := DataW.trod_struct Tryd.underlying54 h
  match xs, hxl, cs, hl with
  | [y0, y1, y2], _, [v0, v1, v2, v3, v4, v5], _ =>
    have g0 := hf 0 _ rfl
    have g1 := hf 1 _ rfl
    have g2 := hf 2 _ rfl
    simp [cellsEO, cellsET, cellsEK] at g0 g1 g2
    obtain ⟨o, e0, _, wo⟩ := DataW.trod_int Tryd.underlying46 g0
    obtain ⟨t, e1, ht⟩ := term_cells rfl g1
    simp at e0 e1
    obtain ⟨rfl, rfl, rfl, rfl⟩ := e1
    subst e0
    have hop : -128 ≤ o ∧ o ≤ 127 := by
      simp only [Lit.wf, Bool.and_eq_true, decide_eq_true_eq] at wo
      exact wo
    have hw2 : ∀ n ∈ y2.1.weights Tryd.prog 52, n ≤ reachBytes := fun n hn => hw n (by
      simp only [DataW.weights, Tryd.underlying54]
      exact DataW.weights_mem_each (j := 2) (d := y2.1) rfl rfl n hn)
    rcases DataW.trod_slice Tryd.underlying52 g2 with ⟨hcs, hx⟩ | ⟨a, len, cap, elems, rest, n, hk, hcs, hx, hb, hlc, hcm, hel, hea, hsp, _⟩
    · simp at hcs
      subst hcs
      exact ⟨.mk o t [], none, 0, rfl, ⟨hop, by show 0 ≤ _; omega⟩, ht, Nat.le_refl _, by decide, fun h => absurd (show (0 : Nat) < 0 from h) (by omega)⟩
    · simp at hcs
      subst hcs hk
      have hbound : len ≤ 281474976710656 := by
        have := hw2 ((elems.length + rest.length) * 80) (by
          rw [hx]
          simp [DataW.weights, Tryd.underlying52, bytesE])
        have h3 : reachBytes ≤ 140737488355328 := by decide
        omega
      have each : ∀ i, i < len → ∃ q : E × Option Addr × Nat, w.cell? (a.add (i * 6)) = some (.int .i8 q.1.op) ∧ w.cell? (a.add (i * 6 + 1)) = some (.string q.1.t.v) ∧ w.cell? (a.add (i * 6 + 2)) = some (.int .i8 q.1.t.a.k) ∧ w.cell? (a.add (i * 6 + 3)) = some (.int .i64 q.1.t.a.n) ∧ w.cell? (a.add (i * 6 + 4)) = some (.string q.1.t.a.s) ∧ w.cell? (a.add (i * 6 + 5)) = some (.slice q.2.1 q.1.kids.length q.2.2) ∧ EIs w n q.1 q.2.1 q.2.2 := by
        intro i hi
        have h1 := hea i hi
        obtain ⟨y, hy⟩ : ∃ y, elems[i]? = some y := ⟨_, List.getElem?_eq_getElem (by omega)⟩
        rw [hy] at h1
        obtain ⟨cs', hc1, hc2⟩ := Option.bind_eq_some_iff.1 h1
        rw [cellsE] at hc1
        obtain ⟨_, hlen, hcell⟩ := World.cells?_some hc1
        obtain ⟨e, a', c', rfl, he⟩ := ih n (by omega) cs' y hlen hc2 (fun z hz => hw2 z (by
          rw [hx]
          simp only [DataW.weights, Tryd.underlying52, List.mem_cons, List.mem_append]
          exact .inr (.inl (weights_all (i := i) (d := y.1) (by rw [List.getElem?_map, hy]; rfl) z hz))))
        have e0 := hcell 0 (by simp)
        have e1 := hcell 1 (by simp)
        have e2 := hcell 2 (by simp)
        have e3 := hcell 3 (by simp)
        have e4 := hcell 4 (by simp)
        have e5 := hcell 5 (by simp)
        rw [add_add] at e0 e1 e2 e3 e4 e5
        exact ⟨(e, a', c'), by simpa using e0, by simpa using e1, by simpa using e2, by simpa using e3, by simpa using e4, by simpa using e5, he⟩
      haveI : Inhabited E := ⟨E0⟩
      obtain ⟨q, hq⟩ := choose_lt each
      have hul : ((List.range len).map fun i => (q i).1).length = len := by simp
      refine ⟨.mk o t ((List.range len).map fun i => (q i).1), some a, cap, ?_, ⟨hop, ?_⟩, ht, ?_, hcm, ?_⟩
      · simp only [op_mk, t_mk, kids_mk, hul]
      · simp only [kids_mk, hul]; exact hbound
      · simp only [kids_mk, hul]; exact hlc
      · intro h0
        simp only [kids_mk, hul] at h0 ⊢
        obtain ⟨b, off, spot⟩ := a
        have hspot : spot = none := by simpa [Addr.add] using World.cell?_spot (hq 0 (by omega)).1
        subst hspot
        have plain : ∀ k, (⟨b, off, none⟩ : Addr).add k = ⟨b, off + k, none⟩ := fun k => add_plain b off k
        refine ⟨b, off, rfl, ?_, fun i hi => ?_⟩
        · have := (hq 0 (by omega)).1
          rw [plain] at this
          exact World.block_lt_of_cell? _ _ this
        · have hat : atE ((List.range len).map fun i => (q i).1) i = (q i).1 := by rw [atE_eq (by rw [hul]; exact hi)]; simp
          rw [hat]
          obtain ⟨z0, z1, z2, z3, z4, z5, z6⟩ := hq i hi
          rw [plain] at z0 z1 z2 z3 z4 z5
          exact ⟨(q i).2.1, (q i).2.2, ⟨z0, z1, z2, z3, z4, z5⟩, z6.more⟩
end
end Go.Proofs.YteabclfhmapabaaDoor
end
section
namespace Go.Proofs.YteabclfhmapabaaDoor
open Go.ChangeShapes Go.WideShapes Go.ChangeAt Go.RowKit Go.Joins Go.Deep
set_option linter.unusedVariables false
set_option linter.unusedSimpArgs false
set_option maxRecDepth 100000

theorem cellsA : Tryd.prog.cellsOf 44 = 2 := by kernel_rfl
theorem cellsAT : Tryd.prog.cellsOf 42 = 1 := by kernel_rfl
theorem cellsLK : Tryd.prog.cellsOf 41 = 1 := by kernel_rfl
theorem cellsLR : Tryd.prog.cellsOf 45 = 1 := by kernel_rfl
theorem bytesT : Tryd.prog.bytesOf 51 = 48 := by kernel_rfl
theorem lt_of_at_off {w : World} {g off n c : Nat} {ts : List T} (hn : ts.length = n) (hc1 : n ≤ c) (hc2 : c ≤ maxLen) (hg : g < w.heap.size) (h : ∀ i, i < ts.length → TAt w g (off + i * 4) (atT ts i)) (hwf : ∀ t ∈ ts, t.wf) : Lt w (.slice (some ⟨g, off, none⟩) n c) ts := by
  subst hn
  refine ⟨⟨Nat.le_trans hc1 hc2, _, c, rfl, hc1, hc2, fun _ => ⟨g, off, rfl, hg, fun i hi => ?_⟩⟩, hwf⟩
  have hl : (ts.flatMap T.cells).length = ts.length * 4 := flat_len T.cells 4 (fun _ => rfl) ts
  have hi4 : i / 4 < ts.length := by omega
  have hx := flat_at T.cells 4 (fun _ => rfl) T0 ts (i / 4) (i % 4) hi4 (by omega)
  rw [show i / 4 * 4 + i % 4 = i by omega] at hx
  have ht := h (i / 4) hi4
  have key : w.cell? ⟨g, off + i, none⟩ = (T.cells (atT ts (i / 4)))[i % 4]? := by
    obtain h0 | h0 | h0 | h0 : i % 4 = 0 ∨ i % 4 = 1 ∨ i % 4 = 2 ∨ i % 4 = 3 := by omega
    · have e := ht.c0
      rw [show off + i / 4 * 4 = off + i by omega] at e
      rw [e, h0]; rfl
    · have e := ht.c1
      rw [show off + i / 4 * 4 + 1 = off + i by omega] at e
      rw [e, h0]; rfl
    · have e := ht.c2
      rw [show off + i / 4 * 4 + 2 = off + i by omega] at e
      rw [e, h0]; rfl
    · have e := ht.c3
      rw [show off + i / 4 * 4 + 3 = off + i by omega] at e
      rw [e, h0]; rfl
  rw [key]
  have e2 : (ts.flatMap T.cells)[i]? = (T.cells (atT ts (i / 4)))[i % 4]? := hx
  rw [← e2, List.getElem?_eq_getElem hi]
section
variable {H : Type} {enc : TypeId × Value → H} {w : World}
/-- a list of terms that came in -/
theorem terms_cell {held : Bool} {m : Nat} {v : Value} {x : DataW H × List MemPlace} (h : DataW.trod enc Tryd.prog w 0 (fun _ => true) held m 42 [v] = some x) (hw : ∀ n ∈ x.1.weights Tryd.prog 42, n ≤ reachBytes) :
    ∃ (ts : List T) (a : Option Addr) (c : Nat), v = .slice a ts.length c ∧ ts.length ≤ 281474976710656 ∧ Lt w (.slice a ts.length c) ts := by
  rcases DataW.trod_slice Tryd.underlying42 h with ⟨hcs, hx⟩ | ⟨a, len, cap, elems, rest, n, hk, hcs, hx, hb, hlc, hcm, hel, hea, hsp, _⟩
  · simp at hcs
    subst hcs
    exact ⟨[], none, 0, rfl, by decide, ⟨⟨by show 0 ≤ _; omega, none, 0, rfl, Nat.le_refl _, by decide, fun h => absurd (show (0 : Nat) < 0 from h) (by omega)⟩, fun t ht => by cases ht⟩⟩
  · simp at hcs
    subst hcs hk
    have hbound : len ≤ 281474976710656 := by
      have := hw ((elems.length + rest.length) * 48) (by
        rw [hx]
        simp [DataW.weights, Tryd.underlying42, bytesT])
      have h3 : reachBytes ≤ 140737488355328 := by decide
      omega
    have each : ∀ i, i < len → ∃ t : T, w.cell? (a.add (i * 4)) = some (.string t.v) ∧ w.cell? (a.add (i * 4 + 1)) = some (.int .i8 t.a.k) ∧ w.cell? (a.add (i * 4 + 2)) = some (.int .i64 t.a.n) ∧ w.cell? (a.add (i * 4 + 3)) = some (.string t.a.s) ∧ t.wf := by
      intro i hi
      have h1 := hea i hi
      obtain ⟨y, hy⟩ : ∃ y, elems[i]? = some y := ⟨_, List.getElem?_eq_getElem (by omega)⟩
      rw [hy] at h1
      obtain ⟨cs', hc1, hc2⟩ := Option.bind_eq_some_iff.1 h1
      rw [cellsET] at hc1
      obtain ⟨_, hlen, hcell⟩ := World.cells?_some hc1
      obtain ⟨t, rfl, ht⟩ := term_cells hlen hc2
      have e0 := hcell 0 (by simp)
      have e1 := hcell 1 (by simp)
      have e2 := hcell 2 (by simp)
      have e3 := hcell 3 (by simp)
      rw [add_add] at e0 e1 e2 e3
      exact ⟨t, by simpa using e0, by simpa using e1, by simpa using e2, by simpa using e3, ht⟩
    haveI : Inhabited T := ⟨T0⟩
    obtain ⟨q, hq⟩ := choose_lt each
    have hul : ((List.range len).map q).length = len := by simp
    refine ⟨(List.range len).map q, some a, cap, by rw [hul], by rw [hul]; exact hbound, ?_⟩
    by_cases h0 : len = 0
    · subst h0
      exact ⟨⟨by show 0 ≤ _; omega, some a, cap, rfl, by simp, hcm, fun h => absurd (show (0 : Nat) < 0 from h) (by omega)⟩, fun t ht => by simp at ht⟩
    · obtain ⟨b, off, spot⟩ := a
      have hspot : spot = none := by simpa [Addr.add] using World.cell?_spot (hq 0 (by omega)).1
      subst hspot
      have plain : ∀ k, (⟨b, off, none⟩ : Addr).add k = ⟨b, off + k, none⟩ := fun k => add_plain b off k
      refine lt_of_at_off rfl (by rw [hul]; exact hlc) hcm ?_ (fun i hi => ?_) (fun t ht => ?_)
      · have := (hq 0 (by omega)).1
        rw [plain] at this
        exact World.block_lt_of_cell? _ _ this
      · rw [hul] at hi
        have hat : atT ((List.range len).map q) i = q i := by
          unfold atT
          simp [List.getD, hi]
        rw [hat]
        obtain ⟨z0, z1, z2, z3, z4⟩ := hq i hi
        rw [plain] at z0 z1 z2 z3
        exact ⟨z0, z1, z2, z3⟩
      · obtain ⟨i, hi, rfl⟩ := List.mem_map.1 ht
        exact (hq i (List.mem_range.1 hi)).2.2.2.2
/-- an atom's two cells -/
theorem atom_cells {held : Bool} {m : Nat} {cs : List Value} {x : DataW H × List MemPlace} (hl : cs.length = 2) (h : DataW.trod enc Tryd.prog w 0 (fun _ => true) held m 44 cs = some x) (hw : ∀ n ∈ x.1.weights Tryd.prog 44, n ≤ reachBytes) :
    ∃ (pr : ByteArray) (ts : List T) (a : Option Addr) (c : Nat), cs = [.string pr, .slice a ts.length c] ∧ pr.size ≤ maxLen ∧ ts.length ≤ 281474976710656 ∧ Lt w (.slice a ts.length c) ts := by
  obtain ⟨xs, k, rfl, rfl, _, hxl, hf⟩ := DataW.trod_struct Tryd.underlying44 h
  match xs, hxl, cs, hl with
  | [y0, y1], _, [v0, v1], _ =>
    have g0 := hf 0 _ rfl
    have g1 := hf 1 _ rfl
    simp [cellsKS, cellsAT] at g0 g1
    obtain ⟨s, e0, _, hs⟩ := DataW.trod_string Tryd.underlying9 g0
    simp at e0
    subst e0
    obtain ⟨ts, a, c, rfl, h1, h2⟩ := terms_cell g1 (fun n hn => hw n (by
      simp only [DataW.weights, Tryd.underlying44]
      exact DataW.weights_mem_each (j := 1) (d := y1.1) rfl rfl n hn))
    exact ⟨s, ts, a, c, rfl, hs, h1, h2⟩
end
end Go.Proofs.YteabclfhmapabaaDoor
end
