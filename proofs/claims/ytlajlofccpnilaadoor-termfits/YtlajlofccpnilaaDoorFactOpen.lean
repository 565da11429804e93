import Derived.Test.YtlajlofccpnilaaDoorAtomOpen
import Derived.Test.YtlajlofccpnilaaDoorTermMM
namespace Go.Proofs.YtlajlofccpnilaaDoor
open Go.ChangeShapes Go.WideShapes Go.ChangeAt Go.RowKit Go.Joins Go.Deep
set_option linter.unusedVariables false
set_option linter.unusedSimpArgs false
set_option maxRecDepth 100000

theorem lv_of_at {w : World} {g off n c : Nat} {l : List V} (hn : l.length = n) (hc1 : n ≤ c) (hc2 : c ≤ maxLen) (hg : g < w.heap.size) (h : ∀ i, i < l.length → VAt w g (off + i * 3) (atV l i)) (hwf : ∀ t ∈ l, t.wf) : Lv w (.slice (some ⟨g, off, none⟩) n c) l := by
  subst hn
  refine ⟨⟨Nat.le_trans hc1 hc2, _, c, rfl, hc1, hc2, fun _ => ⟨g, off, rfl, hg, fun i hi => ?_⟩⟩, hwf⟩
  have hl : (l.flatMap V.cells).length = l.length * 3 := flat_len V.cells 3 (fun _ => rfl) l
  have hi3 : i / 3 < l.length := by omega
  have hx := flat_at V.cells 3 (fun _ => rfl) V0 l (i / 3) (i % 3) hi3 (by omega)
  rw [show i / 3 * 3 + i % 3 = i by omega] at hx
  have ht := h (i / 3) hi3
  have key : w.cell? ⟨g, off + i, none⟩ = (V.cells (atV l (i / 3)))[i % 3]? := by
    obtain h0 | h0 | h0 : i % 3 = 0 ∨ i % 3 = 1 ∨ i % 3 = 2 := by omega
    · have e := ht.c0
      rw [show off + i / 3 * 3 = off + i by omega] at e
      rw [e, h0]; rfl
    · have e := ht.c1
      rw [show off + i / 3 * 3 + 1 = off + i by omega] at e
      rw [e, h0]; rfl
    · have e := ht.c2
      rw [show off + i / 3 * 3 + 2 = off + i by omega] at e
      rw [e, h0]; rfl
  rw [key]
  have e2 : (l.flatMap V.cells)[i]? = (V.cells (atV l (i / 3)))[i % 3]? := hx
  rw [← e2, List.getElem?_eq_getElem hi]
section
variable {H : Type} {enc : TypeId × Value → H} {w : World}
theorem cellsF : Tryd.prog.cellsOf 28 = 2 := by kernel_rfl
theorem cellsFV : Tryd.prog.cellsOf 26 = 1 := by kernel_rfl
theorem bytesV : Tryd.prog.bytesOf 39 = 32 := by kernel_rfl
/-- a list of values that came in -/
theorem vals_cell {held : Bool} {m : Nat} {v : Value} {x : DataW H × List MemPlace} (h : DataW.trod enc Tryd.prog w 0 (fun _ => true) held m 26 [v] = some x) (hw : ∀ n ∈ x.1.weights Tryd.prog 26, n ≤ reachBytes) :
    ∃ (ts : List V) (a : Option Addr) (c : Nat), v = .slice a ts.length c ∧ ts.length ≤ 4398046511104 ∧ Lv w (.slice a ts.length c) ts := by
  rcases DataW.trod_slice Tryd.underlying26 h with ⟨hcs, hx⟩ | ⟨a, len, cap, elems, rest, n, hk, hcs, hx, hb, hlc, hcm, hel, hea, hsp, _⟩
  · simp at hcs
    subst hcs
    exact ⟨[], none, 0, rfl, by decide, ⟨⟨by show 0 ≤ _; omega, none, 0, rfl, Nat.le_refl _, by decide, fun h => absurd (show (0 : Nat) < 0 from h) (by omega)⟩, fun t ht => by cases ht⟩⟩
  · simp at hcs
    subst hcs hk
    have hbound : len ≤ 4398046511104 := by
      have := hw ((elems.length + rest.length) * 32) (by
        rw [hx]
        simp [DataW.weights, Tryd.underlying26, bytesV])
      have h3 : reachBytes ≤ 140737488355328 := by decide
      omega
    have each : ∀ i, i < len → ∃ t : V, w.cell? (a.add (i * 3)) = some (.int .i8 t.k) ∧ w.cell? (a.add (i * 3 + 1)) = some (.int .i64 t.n) ∧ w.cell? (a.add (i * 3 + 2)) = some (.string t.s) ∧ t.wf := by
      intro i hi
      have h1 := hea i hi
      obtain ⟨y, hy⟩ : ∃ y, elems[i]? = some y := ⟨_, List.getElem?_eq_getElem (by omega)⟩
      rw [hy] at h1
      obtain ⟨cs', hc1, hc2⟩ := Option.bind_eq_some_iff.1 h1
      rw [cellsKV] at hc1
      obtain ⟨_, hlen, hcell⟩ := World.cells?_some hc1
      obtain ⟨t, rfl, ht⟩ := value_cells hlen hc2
      have e0 := hcell 0 (by simp)
      have e1 := hcell 1 (by simp)
      have e2 := hcell 2 (by simp)
      rw [add_add] at e0 e1 e2
      exact ⟨t, by simpa using e0, by simpa using e1, by simpa using e2, ht⟩
    haveI : Inhabited V := ⟨V0⟩
    obtain ⟨q, hq⟩ := choose_lt each
    have hul : ((List.range len).map q).length = len := by simp
    refine ⟨(List.range len).map q, some a, cap, by rw [hul], by rw [hul]; exact hbound, ?_⟩
    by_cases h0 : len = 0
    · subst h0
      exact ⟨⟨by show 0 ≤ _; omega, some a, cap, rfl, by simp, hcm, fun h => absurd (show (0 : Nat) < 0 from h) (by omega)⟩, fun t ht => by simp at ht⟩
    · obtain ⟨b, off, spot⟩ := a
      have hspot : spot = none := by simpa [Addr.add] using World.cell?_spot (hq 0 (by omega)).1
      subst hspot
      have plain : ∀ k, (⟨b, off, none⟩ : Addr).add k = ⟨b, off + k, none⟩ := fun k => add_plain b off k
      refine lv_of_at rfl (by rw [hul]; exact hlc) hcm ?_ (fun i hi => ?_) (fun t ht => ?_)
      · have := (hq 0 (by omega)).1
        rw [plain] at this
        exact World.block_lt_of_cell? _ _ this
      · rw [hul] at hi
        have hat : atV ((List.range len).map q) i = q i := by
          unfold atV
          simp [List.getD, hi]
        rw [hat]
        obtain ⟨z0, z1, z2, z3⟩ := hq i hi
        rw [plain] at z0 z1 z2
        exact ⟨z0, z1, z2⟩
      · obtain ⟨i, hi, rfl⟩ := List.mem_map.1 ht
        exact (hq i (List.mem_range.1 hi)).2.2.2
theorem open_fact {r : Reach} {b0 : Nat} {v : Value} {d : DataW H} {p : List MemPlace} {tys : List TypeId} {ds : List (DataW H)} {j : Nat}
    (hv : Value.okWide Tryd.prog w r b0 28 v) (h : DataW.Trod enc Tryd.prog w 0 (fun _ => true) true 28 v d p)
    (hsz : (DataW.weightsEach Tryd.prog tys ds).all (· ≤ reachBytes) = true) (ht : tys[j]? = some 28) (hd : ds[j]? = some d) :
    ∃ (pr : ByteArray) (ts : List V) (a : Option Addr) (c : Nat), v = .agg #[.string pr, .slice a ts.length c] ∧ pr.size ≤ maxLen ∧ ts.length ≤ 4398046511104 ∧ Lv w (.slice a ts.length c) ts := by
  obtain ⟨cs, rfl, hcs⟩ := okWide_struct Tryd.underlying28 hv
  obtain ⟨m, hm⟩ := h
  rw [cellsF] at hcs
  have hw : ∀ n ∈ d.weights Tryd.prog 28, n ≤ reachBytes := fun n hn => by
    have := List.all_eq_true.1 hsz n (DataW.weights_mem_each ht hd n hn)
    exact of_decide_eq_true this
  have hl : cs.toList.length = 2 := by simpa [Value.cells] using hcs
  have hm' : DataW.trod enc Tryd.prog w 0 (fun _ => true) true m 28 cs.toList = some (d, p) := hm
  obtain ⟨l, hcl⟩ : ∃ l, cs.toList = l := ⟨_, rfl⟩
  rw [hcl] at hl hm'
  obtain ⟨xs, k, rfl, e, _, hxl, hf⟩ := DataW.trod_struct Tryd.underlying28 hm'
  match xs, hxl, l, hl with
  | [y0, y1], _, [v0, v1], _ =>
    have g0 := hf 0 _ rfl
    have g1 := hf 1 _ rfl
    simp [cellsKS, cellsFV] at g0 g1
    obtain ⟨s, e0, _, hs⟩ := DataW.trod_string Tryd.underlying9 g0
    simp at e0
    subst e0
    obtain ⟨ts, a, c, rfl, h1, h2⟩ := vals_cell g1 (fun n hn => hw n (by
      cases e
      simp only [DataW.weights, Tryd.underlying28]
      exact DataW.weights_mem_each (j := 1) (d := y1.1) rfl rfl n hn))
    refine ⟨s, ts, a, c, ?_, hs, h1, h2⟩
    congr 1
    exact Array.toList_inj.1 hcl
end
end Go.Proofs.YtlajlofccpnilaaDoor
