import Derived.Test.YtlajlofccpnilaaDoorAtomOpen
import Derived.Test.YtlajlofccpnilaaDoorTermMM
namespace Go.Proofs.YtlajlofccpnilaaDoor
open Go.ChangeShapes Go.WideShapes Go.ChangeAt Go.RowKit Go.Joins Go.Deep
set_option linter.unusedVariables false
set_option linter.unusedSimpArgs false
set_option maxRecDepth 100000

theorem cellsBd : Tryd.prog.cellsOf 64 = 4 := by kernel_rfl
theorem bytesBd : Tryd.prog.bytesOf 64 = 48 := by kernel_rfl
section
variable {H : Type} {enc : TypeId × Value → H} {w : World}
/-- a bind's four cells -/
theorem bind_cells {held : Bool} {m : Nat} {cs : List Value} {x : DataW H × List MemPlace} (hl : cs.length = 4) (h : DataW.trod enc Tryd.prog w 0 (fun _ => true) held m 64 cs = some x) :
    ∃ t : T, cs = [.string t.v, .int .i8 t.a.k, .int .i64 t.a.n, .string t.a.s] ∧ t.wf := by
  obtain ⟨xs, k, rfl, rfl, _, hxl, hf⟩ := DataW.trod_struct Tryd.underlying64 h
  match xs, hxl, cs, hl with
  | [y0, y1], _, [v0, v1, v2, v3], _ =>
    have g0 := hf 0 _ rfl
    have g1 := hf 1 _ rfl
    simp [cellsKS, cellsKV] at g0 g1
    obtain ⟨s, e0, _, hs⟩ := DataW.trod_string Tryd.underlying9 g0
    obtain ⟨a, e1, ha⟩ := value_cells rfl g1
    simp at e0
    simp at e1
    obtain ⟨rfl, rfl, rfl⟩ := e1
    subst e0
    exact ⟨⟨s, a⟩, rfl, ⟨hs, ha⟩⟩
/-- a list of binds that came in -/
theorem binds_cell {held : Bool} {m : Nat} {v : Value} {x : DataW H × List MemPlace} (h : DataW.trod enc Tryd.prog w 0 (fun _ => true) held m 25 [v] = some x) (hw : ∀ n ∈ x.1.weights Tryd.prog 25, n ≤ reachBytes) :
    ∃ (ts : List T) (a : Option Addr) (c : Nat), v = .slice a ts.length c ∧ ts.length ≤ 4398046511104 ∧ Lt w (.slice a ts.length c) ts := by
  rcases DataW.trod_slice Tryd.underlying25 h with ⟨hcs, hx⟩ | ⟨a, len, cap, elems, rest, n, hk, hcs, hx, hb, hlc, hcm, hel, hea, hsp, _⟩
  · simp at hcs
    subst hcs
    exact ⟨[], none, 0, rfl, by decide, ⟨⟨by show 0 ≤ _; omega, none, 0, rfl, Nat.le_refl _, by decide, fun h => absurd (show (0 : Nat) < 0 from h) (by omega)⟩, fun t ht => by cases ht⟩⟩
  · simp at hcs
    subst hcs hk
    have hbound : len ≤ 4398046511104 := by
      have := hw ((elems.length + rest.length) * 48) (by
        rw [hx]
        simp [DataW.weights, Tryd.underlying25, bytesBd])
      have h3 : reachBytes ≤ 140737488355328 := by decide
      omega
    have each : ∀ i, i < len → ∃ t : T, w.cell? (a.add (i * 4)) = some (.string t.v) ∧ w.cell? (a.add (i * 4 + 1)) = some (.int .i8 t.a.k) ∧ w.cell? (a.add (i * 4 + 2)) = some (.int .i64 t.a.n) ∧ w.cell? (a.add (i * 4 + 3)) = some (.string t.a.s) ∧ t.wf := by
      intro i hi
      have h1 := hea i hi
      obtain ⟨y, hy⟩ : ∃ y, elems[i]? = some y := ⟨_, List.getElem?_eq_getElem (by omega)⟩
      rw [hy] at h1
      obtain ⟨cs', hc1, hc2⟩ := Option.bind_eq_some_iff.1 h1
      rw [cellsBd] at hc1
      obtain ⟨_, hlen, hcell⟩ := World.cells?_some hc1
      obtain ⟨t, rfl, ht⟩ := bind_cells hlen hc2
      have e0 := hcell 0 (by simp)
      have e1 := hcell 1 (by simp)
      have e2 := hcell 2 (by simp)
      have e3 := hcell 3 (by simp)
      rw [add_add] at e0 e1 e2 e3
      exact ⟨t, by simpa using e0, by simpa using e1, by simpa using e2, by simpa using e3, ht⟩
    haveI : Inhabited T := ⟨T0⟩
    obtain ⟨q, hq⟩ := choose_lt each
    have hul : ((List.range len).map q).length = len := by simp
    refine ⟨(List.range len).map q, some a, cap, by rw [hul], by rw [hul]; exact hbound, ?_⟩
    by_cases h0 : len = 0
    · subst h0
      exact ⟨⟨by show 0 ≤ _; omega, some a, cap, rfl, by simp, hcm, fun h => absurd (show (0 : Nat) < 0 from h) (by omega)⟩, fun t ht => by simp at ht⟩
    · obtain ⟨b, off, spot⟩ := a
      have hspot : spot = none := by simpa [Addr.add] using World.cell?_spot (hq 0 (by omega)).1
      subst hspot
      have plain : ∀ k, (⟨b, off, none⟩ : Addr).add k = ⟨b, off + k, none⟩ := fun k => add_plain b off k
      refine lt_of_at_off rfl (by rw [hul]; exact hlc) hcm ?_ (fun i hi => ?_) (fun t ht => ?_)
      · have := (hq 0 (by omega)).1
        rw [plain] at this
        exact World.block_lt_of_cell? _ _ this
      · rw [hul] at hi
        have hat : atT ((List.range len).map q) i = q i := by
          unfold atT
          simp [List.getD, hi]
        rw [hat]
        obtain ⟨z0, z1, z2, z3, z4⟩ := hq i hi
        rw [plain] at z0 z1 z2 z3
        exact ⟨z0, z1, z2, z3⟩
      · obtain ⟨i, hi, rfl⟩ := List.mem_map.1 ht
        exact (hq i (List.mem_range.1 hi)).2.2.2.2
def toB (t : T) : B := ⟨t.v, t.a⟩
theorem open_binds {r : Reach} {b0 : Nat} {v : Value} {d : DataW H} {p : List MemPlace} {tys : List TypeId} {ds : List (DataW H)} {j : Nat}
    (hv : Value.okWide Tryd.prog w r b0 25 v) (h : DataW.Trod enc Tryd.prog w 0 (fun _ => true) true 25 v d p)
    (hsz : (DataW.weightsEach Tryd.prog tys ds).all (· ≤ reachBytes) = true) (ht : tys[j]? = some 25) (hd : ds[j]? = some d) :
    ∃ (l : List B) (a : Option Addr) (c : Nat), v = .slice a l.length c ∧ l.length ≤ 4398046511104 ∧ Lb w (.slice a l.length c) l := by
  obtain ⟨m, hm⟩ := h
  have hw : ∀ n ∈ d.weights Tryd.prog 25, n ≤ reachBytes := fun n hn => by
    have := List.all_eq_true.1 hsz n (DataW.weights_mem_each ht hd n hn)
    exact of_decide_eq_true this
  have hv2 : v.cells.toList = [v] := by
    obtain ⟨a, n, c, rfl⟩ : ∃ a n c, v = .slice a n c := Go.WideShapes.okWide_slice Tryd.underlying25 hv
    rfl
  rw [hv2] at hm
  obtain ⟨ts, a, c, rfl, h1, h2⟩ := binds_cell hm hw
  have e : ts.length = (ts.map toB).length := by simp
  refine ⟨ts.map toB, a, c, by rw [← e], by rw [← e]; exact h1, ?_, fun b hb => ?_⟩
  · rw [← e]
    have e2 : (ts.map toB).flatMap B.cells = ts.flatMap T.cells := by
      rw [List.flatMap_map]
      rfl
    rw [e2]
    exact h2.lies
  · obtain ⟨t, hh, rfl⟩ := List.mem_map.1 hb
    exact ⟨(h2.wf t hh).text, (h2.wf t hh).val⟩
end
end Go.Proofs.YtlajlofccpnilaaDoor
