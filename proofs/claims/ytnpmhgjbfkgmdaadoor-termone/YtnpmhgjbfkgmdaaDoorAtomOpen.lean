import Derived.Test.YtnpmhgjbfkgmdaaDoorTermOpen
import Derived.SizedLaws
import Derived.Deep.Slices
namespace Go.Proofs.YtnpmhgjbfkgmdaaDoor
open Go.ChangeShapes Go.WideShapes Go.ChangeAt Go.RowKit Go.Joins Go.Deep
set_option linter.unusedVariables false
set_option linter.unusedSimpArgs false
set_option maxRecDepth 100000

/-- an atom that came in, in a seat without literals (LitOpen's sister; the lists' bound is 2^42) -/
theorem cellsA : Tryd.prog.cellsOf 24 = 2 := by kernel_rfl
theorem cellsAT : Tryd.prog.cellsOf 22 = 1 := by kernel_rfl
theorem bytesT : Tryd.prog.bytesOf 38 = 48 := by kernel_rfl
theorem lt_of_at_off {w : World} {g off n c : Nat} {ts : List T} (hn : ts.length = n) (hc1 : n ≤ c) (hc2 : c ≤ maxLen) (hg : g < w.heap.size) (h : ∀ i, i < ts.length → TAt w g (off + i * 4) (atT ts i)) (hwf : ∀ t ∈ ts, t.wf) : Lt w (.slice (some ⟨g, off, none⟩) n c) ts := by
  subst hn
  refine ⟨⟨Nat.le_trans hc1 hc2, _, c, rfl, hc1, hc2, fun _ => ⟨g, off, rfl, hg, fun i hi => ?_⟩⟩, hwf⟩
  have hl : (ts.flatMap T.cells).length = ts.length * 4 := flat_len T.cells 4 (fun _ => rfl) ts
  have hi4 : i / 4 < ts.length := by omega
  have hx := flat_at T.cells 4 (fun _ => rfl) T0 ts (i / 4) (i % 4) hi4 (by omega)
  rw [show i / 4 * 4 + i % 4 = i by omega] at hx
  have ht := h (i / 4) hi4
  have key : w.cell? ⟨g, off + i, none⟩ = (T.cells (atT ts (i / 4)))[i % 4]? := by
    obtain h0 | h0 | h0 | h0 : i % 4 = 0 ∨ i % 4 = 1 ∨ i % 4 = 2 ∨ i % 4 = 3 := by omega
    · have e := ht.c0
      rw [show off + i / 4 * 4 = off + i by omega] at e
      rw [e, h0]; rfl
    · have e := ht.c1
      rw [show off + i / 4 * 4 + 1 = off + i by omega] at e
      rw [e, h0]; rfl
    · have e := ht.c2
      rw [show off + i / 4 * 4 + 2 = off + i by omega] at e
      rw [e, h0]; rfl
    · have e := ht.c3
      rw [show off + i / 4 * 4 + 3 = off + i by omega] at e
      rw [e, h0]; rfl
  rw [key]
  have e2 : (ts.flatMap T.cells)[i]? = (T.cells (atT ts (i / 4)))[i % 4]? := hx
  rw [← e2, List.getElem?_eq_getElem hi]
section
variable {H : Type} {enc : TypeId × Value → H} {w : World}
/-- a list of terms that came in -/
theorem terms_cell {held : Bool} {m : Nat} {v : Value} {x : DataW H × List MemPlace} (h : DataW.trod enc Tryd.prog w 0 (fun _ => true) held m 22 [v] = some x) (hw : ∀ n ∈ x.1.weights Tryd.prog 22, n ≤ reachBytes) :
    ∃ (ts : List T) (a : Option Addr) (c : Nat), v = .slice a ts.length c ∧ ts.length ≤ 4398046511104 ∧ Lt w (.slice a ts.length c) ts := by
  rcases DataW.trod_slice Tryd.underlying22 h with ⟨hcs, hx⟩ | ⟨a, len, cap, elems, rest, n, hk, hcs, hx, hb, hlc, hcm, hel, hea, hsp, _⟩
  · simp at hcs
    subst hcs
    exact ⟨[], none, 0, rfl, by decide, ⟨⟨by show 0 ≤ _; omega, none, 0, rfl, Nat.le_refl _, by decide, fun h => absurd (show (0 : Nat) < 0 from h) (by omega)⟩, fun t ht => by cases ht⟩⟩
  · simp at hcs
    subst hcs hk
    have hbound : len ≤ 4398046511104 := by
      have := hw ((elems.length + rest.length) * 48) (by
        rw [hx]
        simp [DataW.weights, Tryd.underlying22, bytesT])
      have h3 : reachBytes ≤ 140737488355328 := by decide
      omega
    have each : ∀ i, i < len → ∃ t : T, w.cell? (a.add (i * 4)) = some (.string t.v) ∧ w.cell? (a.add (i * 4 + 1)) = some (.int .i8 t.a.k) ∧ w.cell? (a.add (i * 4 + 2)) = some (.int .i64 t.a.n) ∧ w.cell? (a.add (i * 4 + 3)) = some (.string t.a.s) ∧ t.wf := by
      intro i hi
      have h1 := hea i hi
      obtain ⟨y, hy⟩ : ∃ y, elems[i]? = some y := ⟨_, List.getElem?_eq_getElem (by omega)⟩
      rw [hy] at h1
      obtain ⟨cs', hc1, hc2⟩ := Option.bind_eq_some_iff.1 h1
      rw [cellsKT] at hc1
      obtain ⟨_, hlen, hcell⟩ := World.cells?_some hc1
      obtain ⟨t, rfl, ht⟩ := term_cells hlen hc2
      have e0 := hcell 0 (by simp)
      have e1 := hcell 1 (by simp)
      have e2 := hcell 2 (by simp)
      have e3 := hcell 3 (by simp)
      rw [add_add] at e0 e1 e2 e3
      exact ⟨t, by simpa using e0, by simpa using e1, by simpa using e2, by simpa using e3, ht⟩
    haveI : Inhabited T := ⟨T0⟩
    obtain ⟨q, hq⟩ := choose_lt each
    have hul : ((List.range len).map q).length = len := by simp
    refine ⟨(List.range len).map q, some a, cap, by rw [hul], by rw [hul]; exact hbound, ?_⟩
    by_cases h0 : len = 0
    · subst h0
      exact ⟨⟨by show 0 ≤ _; omega, some a, cap, rfl, by simp, hcm, fun h => absurd (show (0 : Nat) < 0 from h) (by omega)⟩, fun t ht => by simp at ht⟩
    · obtain ⟨b, off, spot⟩ := a
      have hspot : spot = none := by simpa [Addr.add] using World.cell?_spot (hq 0 (by omega)).1
      subst hspot
      have plain : ∀ k, (⟨b, off, none⟩ : Addr).add k = ⟨b, off + k, none⟩ := fun k => add_plain b off k
      refine lt_of_at_off rfl (by rw [hul]; exact hlc) hcm ?_ (fun i hi => ?_) (fun t ht => ?_)
      · have := (hq 0 (by omega)).1
        rw [plain] at this
        exact World.block_lt_of_cell? _ _ this
      · rw [hul] at hi
        have hat : atT ((List.range len).map q) i = q i := by
          unfold atT
          simp [List.getD, hi]
        rw [hat]
        obtain ⟨z0, z1, z2, z3, z4⟩ := hq i hi
        rw [plain] at z0 z1 z2 z3
        exact ⟨z0, z1, z2, z3⟩
      · obtain ⟨i, hi, rfl⟩ := List.mem_map.1 ht
        exact (hq i (List.mem_range.1 hi)).2.2.2.2
/-- an atom's two cells -/
theorem atom_cells {held : Bool} {m : Nat} {cs : List Value} {x : DataW H × List MemPlace} (hl : cs.length = 2) (h : DataW.trod enc Tryd.prog w 0 (fun _ => true) held m 24 cs = some x) (hw : ∀ n ∈ x.1.weights Tryd.prog 24, n ≤ reachBytes) :
    ∃ (pr : ByteArray) (ts : List T) (a : Option Addr) (c : Nat), cs = [.string pr, .slice a ts.length c] ∧ pr.size ≤ maxLen ∧ ts.length ≤ 4398046511104 ∧ Lt w (.slice a ts.length c) ts := by
  obtain ⟨xs, k, rfl, rfl, _, hxl, hf⟩ := DataW.trod_struct Tryd.underlying24 h
  match xs, hxl, cs, hl with
  | [y0, y1], _, [v0, v1], _ =>
    have g0 := hf 0 _ rfl
    have g1 := hf 1 _ rfl
    simp [cellsKS, cellsAT] at g0 g1
    obtain ⟨s, e0, _, hs⟩ := DataW.trod_string Tryd.underlying9 g0
    simp at e0
    subst e0
    obtain ⟨ts, a, c, rfl, h1, h2⟩ := terms_cell g1 (fun n hn => hw n (by
      simp only [DataW.weights, Tryd.underlying24]
      exact DataW.weights_mem_each (j := 1) (d := y1.1) rfl rfl n hn))
    exact ⟨s, ts, a, c, rfl, hs, h1, h2⟩
theorem open_atom {r : Reach} {b0 : Nat} {v : Value} {d : DataW H} {p : List MemPlace} {tys : List TypeId} {ds : List (DataW H)} {j : Nat}
    (hv : Value.okWide Tryd.prog w r b0 24 v) (h : DataW.Trod enc Tryd.prog w 0 (fun _ => true) true 24 v d p)
    (hsz : (DataW.weightsEach Tryd.prog tys ds).all (· ≤ reachBytes) = true) (ht : tys[j]? = some 24) (hd : ds[j]? = some d) :
    ∃ (pr : ByteArray) (ts : List T) (a : Option Addr) (c : Nat), v = .agg #[.string pr, .slice a ts.length c] ∧ pr.size ≤ maxLen ∧ ts.length ≤ 4398046511104 ∧ Lt w (.slice a ts.length c) ts := by
  obtain ⟨cs, rfl, hcs⟩ := okWide_struct Tryd.underlying24 hv
  obtain ⟨m, hm⟩ := h
  rw [cellsA] at hcs
  obtain ⟨pr, ts, a, c, he, hE⟩ := atom_cells (by simpa [Value.cells] using hcs) hm (fun n hn => by
    have := List.all_eq_true.1 hsz n (DataW.weights_mem_each ht hd n hn)
    exact of_decide_eq_true this)
  refine ⟨pr, ts, a, c, ?_, hE⟩
  have : cs.toList = [.string pr, .slice a ts.length c] := he
  congr 1
  exact Array.toList_inj.1 this
end
end Go.Proofs.YtnpmhgjbfkgmdaaDoor
