import Derived.Test.YtoppgalbmijhdaaGreatDoorTermOpen
import Derived.Test.YtoppgalbmijhdaaGreatDoorFaList
namespace Go.Proofs.YtoppgalbmijhdaaGreatDoor
open Go.ChangeShapes Go.WideShapes Go.ChangeAt Go.RowKit Go.Joins Go.Deep
set_option linter.unusedVariables false
set_option linter.unusedSimpArgs false
set_option maxRecDepth 100000

theorem lv_of_at {w : World} {g off n c : Nat} {l : List V} (hn : l.length = n) (hc1 : n ≤ c) (hc2 : c ≤ maxLen) (hg : g < w.heap.size) (h : ∀ i, i < l.length → VAt w g (off + i * 3) (atV l i)) (hwf : ∀ t ∈ l, t.wf) : Lv w (.slice (some ⟨g, off, none⟩) n c) l := by
  subst hn
  refine ⟨⟨Nat.le_trans hc1 hc2, _, c, rfl, hc1, hc2, fun _ => ⟨g, off, rfl, hg, fun i hi => ?_⟩⟩, hwf⟩
  have hl : (l.flatMap V.cells).length = l.length * 3 := flat_len V.cells 3 (fun _ => rfl) l
  have hi3 : i / 3 < l.length := by omega
  have hx := flat_at V.cells 3 (fun _ => rfl) V0 l (i / 3) (i % 3) hi3 (by omega)
  rw [show i / 3 * 3 + i % 3 = i by omega] at hx
  have ht := h (i / 3) hi3
  have key : w.cell? ⟨g, off + i, none⟩ = (V.cells (atV l (i / 3)))[i % 3]? := by
    obtain h0 | h0 | h0 : i % 3 = 0 ∨ i % 3 = 1 ∨ i % 3 = 2 := by omega
    · have e := ht.c0
      rw [show off + i / 3 * 3 = off + i by omega] at e
      rw [e, h0]; rfl
    · have e := ht.c1
      rw [show off + i / 3 * 3 + 1 = off + i by omega] at e
      rw [e, h0]; rfl
    · have e := ht.c2
      rw [show off + i / 3 * 3 + 2 = off + i by omega] at e
      rw [e, h0]; rfl
  rw [key]
  have e2 : (l.flatMap V.cells)[i]? = (V.cells (atV l (i / 3)))[i % 3]? := hx
  rw [← e2, List.getElem?_eq_getElem hi]
theorem weights_all {H : Type} {P : Program} {e : TypeId} : ∀ {ds : List (DataW H)} {i : Nat} {d : DataW H}, ds[i]? = some d → ∀ n ∈ d.weights P e, n ∈ DataW.weightsAll P e ds
  | d0 :: ds, 0, d, hd, n, hn => by
    simp only [List.getElem?_cons_zero, Option.some.injEq] at hd
    subst hd
    simp only [DataW.weightsAll, List.mem_append]
    exact .inl hn
  | d0 :: ds, i + 1, d, hd, n, hn => by
    simp only [List.getElem?_cons_succ] at hd
    simp only [DataW.weightsAll, List.mem_append]
    exact .inr (weights_all hd n hn)
theorem ls_of_range_off {α : Type} {f : α → List Value} {k : Nat} (hk0 : 0 < k) (hk : ∀ x, (f x).length = k) (z : α) {w : World} {g off c : Nat} {l : List α} (hc1 : l.length ≤ c) (hc2 : c ≤ maxLen) (hg : g < w.heap.size) (h : ∀ i, i < l.length → w.rangeAt g (off + i * k) (f (l.getD i z))) :
    Ls w (.slice (some ⟨g, off, none⟩) l.length c) l.length (l.flatMap f) := by
  refine ⟨Nat.le_trans hc1 hc2, _, c, rfl, hc1, hc2, fun _ => ⟨g, off, rfl, hg, fun i hi => ?_⟩⟩
  have hl := flat_len f k hk l
  have hi2 : i / k < l.length := (Nat.div_lt_iff_lt_mul hk0).2 (by rw [← hl]; exact hi)
  have hm : i % k < k := Nat.mod_lt _ hk0
  have hx := flat_at f k hk z l (i / k) (i % k) hi2 hm
  have he : i / k * k + i % k = i := by rw [Nat.mul_comm]; exact Nat.div_add_mod i k
  rw [he, List.getElem?_eq_getElem hi] at hx
  have := h (i / k) hi2 (i % k) _ hx.symm
  rw [Nat.add_assoc, he] at this
  exact this
section
variable {H : Type} {enc : TypeId × Value → H} {w : World}
theorem cellsF : Tryz.prog.cellsOf 31 = 2 := by kernel_rfl
theorem cellsFV : Tryz.prog.cellsOf 29 = 1 := by kernel_rfl
theorem bytesV : Tryz.prog.bytesOf 55 = 32 := by kernel_rfl
/-- a list of values that came in -/
theorem vals_cell {held : Bool} {m : Nat} {v : Value} {x : DataW H × List MemPlace} (h : DataW.trod enc Tryz.prog w 0 (fun _ => true) held m 29 [v] = some x) (hw : ∀ n ∈ x.1.weights Tryz.prog 29, n ≤ reachBytes) :
    ∃ (ts : List V) (a : Option Addr) (c : Nat), v = .slice a ts.length c ∧ ts.length ≤ 281474976710656 ∧ Lv w (.slice a ts.length c) ts := by
  rcases DataW.trod_slice Tryz.underlying29 h with ⟨hcs, hx⟩ | ⟨a, len, cap, elems, rest, n, hk, hcs, hx, hb, hlc, hcm, hel, hea, hsp, _⟩
  · simp at hcs
    subst hcs
    exact ⟨[], none, 0, rfl, by decide, ⟨⟨by show 0 ≤ _; omega, none, 0, rfl, Nat.le_refl _, by decide, fun h => absurd (show (0 : Nat) < 0 from h) (by omega)⟩, fun t ht => by cases ht⟩⟩
  · simp at hcs
    subst hcs hk
    have hbound : len ≤ 281474976710656 := by
      have := hw ((elems.length + rest.length) * 32) (by
        rw [hx]
        simp [DataW.weights, Tryz.underlying29, bytesV])
      have h3 : reachBytes ≤ 140737488355328 := by decide
      omega
    have each : ∀ i, i < len → ∃ t : V, w.cell? (a.add (i * 3)) = some (.int .i8 t.k) ∧ w.cell? (a.add (i * 3 + 1)) = some (.int .i64 t.n) ∧ w.cell? (a.add (i * 3 + 2)) = some (.string t.s) ∧ t.wf := by
      intro i hi
      have h1 := hea i hi
      obtain ⟨y, hy⟩ : ∃ y, elems[i]? = some y := ⟨_, List.getElem?_eq_getElem (by omega)⟩
      rw [hy] at h1
      obtain ⟨cs', hc1, hc2⟩ := Option.bind_eq_some_iff.1 h1
      rw [cellsKV] at hc1
      obtain ⟨_, hlen, hcell⟩ := World.cells?_some hc1
      obtain ⟨t, rfl, ht⟩ := value_cells hlen hc2
      have e0 := hcell 0 (by simp)
      have e1 := hcell 1 (by simp)
      have e2 := hcell 2 (by simp)
      rw [add_add] at e0 e1 e2
      exact ⟨t, by simpa using e0, by simpa using e1, by simpa using e2, ht⟩
    haveI : Inhabited V := ⟨V0⟩
    obtain ⟨q, hq⟩ := choose_lt each
    have hul : ((List.range len).map q).length = len := by simp
    refine ⟨(List.range len).map q, some a, cap, by rw [hul], by rw [hul]; exact hbound, ?_⟩
    by_cases h0 : len = 0
    · subst h0
      exact ⟨⟨by show 0 ≤ _; omega, some a, cap, rfl, by simp, hcm, fun h => absurd (show (0 : Nat) < 0 from h) (by omega)⟩, fun t ht => by simp at ht⟩
    · obtain ⟨b, off, spot⟩ := a
      have hspot : spot = none := by simpa [Addr.add] using World.cell?_spot (hq 0 (by omega)).1
      subst hspot
      have plain : ∀ k, (⟨b, off, none⟩ : Addr).add k = ⟨b, off + k, none⟩ := fun k => add_plain b off k
      refine lv_of_at rfl (by rw [hul]; exact hlc) hcm ?_ (fun i hi => ?_) (fun t ht => ?_)
      · have := (hq 0 (by omega)).1
        rw [plain] at this
        exact World.block_lt_of_cell? _ _ this
      · rw [hul] at hi
        have hat : atV ((List.range len).map q) i = q i := by
          unfold atV
          simp [List.getD, hi]
        rw [hat]
        obtain ⟨z0, z1, z2, z3⟩ := hq i hi
        rw [plain] at z0 z1 z2
        exact ⟨z0, z1, z2⟩
      · obtain ⟨i, hi, rfl⟩ := List.mem_map.1 ht
        exact (hq i (List.mem_range.1 hi)).2.2.2
theorem bytesFf : Tryz.prog.bytesOf 31 = 40 := by kernel_rfl
theorem fact_cellsM {held : Bool} {m : Nat} {cs : List Value} {x : DataW H × List MemPlace} (hl : cs.length = 2) (h : DataW.trod enc Tryz.prog w 0 (fun _ => true) held m 31 cs = some x) (hw : ∀ n ∈ x.1.weights Tryz.prog 31, n ≤ reachBytes) :
    ∃ y : XF, cs = XF.cells y ∧ FIs w y := by
  obtain ⟨xs, k, rfl, rfl, _, hxl, hf⟩ := DataW.trod_struct Tryz.underlying31 h
  match xs, hxl, cs, hl with
  | [y0, y1], _, [v0, v1], _ =>
    have g0 := hf 0 _ rfl
    have g1 := hf 1 _ rfl
    simp [cellsKS, cellsFV] at g0 g1
    obtain ⟨s, e0, _, hs⟩ := DataW.trod_string Tryz.underlying9 g0
    simp at e0
    subst e0
    obtain ⟨ts, a, c, rfl, h1, h2⟩ := vals_cell g1 (fun n hn => hw n (by
      simp only [DataW.weights, Tryz.underlying31]
      exact DataW.weights_mem_each (j := 1) (d := y1.1) rfl rfl n hn))
    exact ⟨⟨s, ts, a, c⟩, rfl, ⟨hs, h1, h2⟩⟩
theorem Ff_cell {held : Bool} {m : Nat} {v : Value} {x : DataW H × List MemPlace} (h : DataW.trod enc Tryz.prog w 0 (fun _ => true) held m 22 [v] = some x) (hw : ∀ n ∈ x.1.weights Tryz.prog 22, n ≤ reachBytes) :
    ∃ (l : List XF) (a : Option Addr) (c : Nat), v = .slice a l.length c ∧ l.length ≤ 281474976710656 ∧ Ls w (.slice a l.length c) l.length (l.flatMap XF.cells) ∧ ∀ y ∈ l, FIs w y := by
  rcases DataW.trod_slice Tryz.underlying22 h with ⟨hcs, hx⟩ | ⟨a, len, cap, elems, rest, n, hk, hcs, hx, hb, hlc, hcm, hel, hea, hsp, _⟩
  · simp at hcs
    subst hcs
    exact ⟨[], none, 0, rfl, by decide, ⟨by show 0 ≤ _; omega, none, 0, rfl, Nat.le_refl _, by decide, fun h => absurd (show (0 : Nat) < 0 from h) (by omega)⟩, fun t ht => by cases ht⟩
  · simp at hcs
    subst hcs hk
    have hw2 : ∀ (i : Nat) (y : DataW H × List MemPlace), elems[i]? = some y → ∀ z ∈ y.1.weights Tryz.prog 31, z ≤ reachBytes := fun i y hy z hz => hw z (by
      rw [hx]
      simp only [DataW.weights, Tryz.underlying22, List.mem_cons, List.mem_append]
      exact .inr (.inl (weights_all (i := i) (d := y.1) (by rw [List.getElem?_map, hy]; rfl) z hz)))
    have hbound : len ≤ 281474976710656 := by
      have := hw ((elems.length + rest.length) * 40) (by
        rw [hx]
        simp [DataW.weights, Tryz.underlying22, bytesFf])
      have h3 : reachBytes ≤ 140737488355328 := by decide
      omega
    have each : ∀ i, i < len → ∃ y : XF, (∀ (j : Nat) (u : Value), y.cells[j]? = some u → w.cell? (a.add (i * 2 + j)) = some u) ∧ FIs w y := by
      intro i hi
      have h1 := hea i hi
      obtain ⟨y, hy⟩ : ∃ y, elems[i]? = some y := ⟨_, List.getElem?_eq_getElem (by omega)⟩
      rw [hy] at h1
      obtain ⟨cs', hc1, hc2⟩ := Option.bind_eq_some_iff.1 h1
      rw [cellsF] at hc1
      obtain ⟨_, hlen, hcell⟩ := World.cells?_some hc1
      obtain ⟨z, hv, hz⟩ := fact_cellsM hlen hc2 (hw2 i y hy)
      have hcs : cs' = XF.cells z := hv
      subst hcs
      refine ⟨z, fun j u hu => ?_, hz⟩
      have hj : j < z.cells.length := (List.getElem?_eq_some_iff.1 hu).1
      have e := hcell j hj
      rw [add_add] at e
      rw [e]
      exact hu
    haveI : Inhabited XF := ⟨XF0⟩
    obtain ⟨q, hq⟩ := choose_lt each
    have hul : ((List.range len).map q).length = len := by simp
    refine ⟨(List.range len).map q, some a, cap, by rw [hul], by rw [hul]; exact hbound, ?_, fun y hy => ?_⟩
    · by_cases h0 : len = 0
      · subst h0
        exact ⟨by show 0 ≤ _; omega, some a, cap, rfl, by simp, hcm, fun h => absurd (show (0 : Nat) < 0 from h) (by omega)⟩
      · obtain ⟨b, off, spot⟩ := a
        have hspot : spot = none := by simpa [Addr.add] using World.cell?_spot ((hq 0 (by omega)).1 0 _ rfl)
        subst hspot
        have plain : ∀ k, (⟨b, off, none⟩ : Addr).add k = ⟨b, off + k, none⟩ := fun k => add_plain b off k
        refine ls_of_range_off (f := XF.cells) (k := 2) (by omega) (fun _ => rfl) XF0 (by rw [hul]; exact hlc) hcm ?_ (fun i hi => ?_)
        · have := (hq 0 (by omega)).1 0 _ rfl
          rw [plain] at this
          exact World.block_lt_of_cell? _ _ this
        · rw [hul] at hi
          have hat : ((List.range len).map q).getD i XF0 = q i := by simp [List.getD, hi]
          rw [hat]
          intro j u hu
          have := (hq i hi).1 j u hu
          rw [plain, ← Nat.add_assoc] at this
          exact this
    · obtain ⟨i, hi, rfl⟩ := List.mem_map.1 hy
      exact (hq i (List.mem_range.1 hi)).2
theorem open_facts {r : Reach} {b0 : Nat} {v : Value} {d : DataW H} {p : List MemPlace} {tys : List TypeId} {ds : List (DataW H)} {j : Nat}
    (hv : Value.okWide Tryz.prog w r b0 22 v) (h : DataW.Trod enc Tryz.prog w 0 (fun _ => true) true 22 v d p)
    (hsz : (DataW.weightsEach Tryz.prog tys ds).all (· ≤ reachBytes) = true) (ht : tys[j]? = some 22) (hd : ds[j]? = some d) :
    ∃ (l : List XF) (a : Option Addr) (c : Nat), v = .slice a l.length c ∧ l.length ≤ 281474976710656 ∧ Lf w (.slice a l.length c) l := by
  obtain ⟨m, hm⟩ := h
  have hw : ∀ n ∈ d.weights Tryz.prog 22, n ≤ reachBytes := fun n hn => by
    have := List.all_eq_true.1 hsz n (DataW.weights_mem_each ht hd n hn)
    exact of_decide_eq_true this
  have hv2 : v.cells.toList = [v] := by
    obtain ⟨a, n, c, rfl⟩ : ∃ a n c, v = .slice a n c := Go.WideShapes.okWide_slice Tryz.underlying22 hv
    rfl
  rw [hv2] at hm
  obtain ⟨l, a, c, rfl, h1, h2, h3⟩ := Ff_cell hm hw
  exact ⟨l, a, c, rfl, h1, ⟨h2, fun i hi => by rw [atF_eq hi]; exact h3 _ (List.getElem_mem hi)⟩⟩
end
end Go.Proofs.YtoppgalbmijhdaaGreatDoor
