import Derived.Test.YtkcipmbgapdkjaaDoorFaOpen
import Derived.Test.YtkcipmbgapdkjaaDoorSoW
namespace Go.Proofs.YtkcipmbgapdkjaaDoor
open Go.ChangeShapes Go.WideShapes Go.ChangeAt Go.RowKit Go.Joins Go.Deep
set_option linter.unusedVariables false
set_option linter.unusedSimpArgs false
set_option maxRecDepth 100000
section
variable {H : Type} {enc : TypeId × Value → H} {w : World}
theorem bytesTt : Tryd.prog.bytesOf 31 = 24 := by kernel_rfl
theorem Tt_cell {held : Bool} {m : Nat} {v : Value} {x : DataW H × List MemPlace} (h : DataW.trod enc Tryd.prog w 0 (fun _ => true) held m 22 [v] = some x) (hw : ∀ n ∈ x.1.weights Tryd.prog 22, n ≤ reachBytes) :
    ∃ (l : List XF) (a : Option Addr) (c : Nat), v = .slice a l.length c ∧ l.length ≤ 281474976710656 ∧ Ls w (.slice a l.length c) l.length (l.flatMap XF.tcells) ∧ ∀ y ∈ l, FIs w y ∧ y.pr = noS := by
  rcases DataW.trod_slice Tryd.underlying22 h with ⟨hcs, hx⟩ | ⟨a, len, cap, elems, rest, n, hk, hcs, hx, hb, hlc, hcm, hel, hea, hsp, _⟩
  · simp at hcs
    subst hcs
    exact ⟨[], none, 0, rfl, by decide, ⟨by show 0 ≤ _; omega, none, 0, rfl, Nat.le_refl _, by decide, fun h => absurd (show (0 : Nat) < 0 from h) (by omega)⟩, fun t ht => by cases ht⟩
  · simp at hcs
    subst hcs hk
    have hw2 : ∀ (i : Nat) (y : DataW H × List MemPlace), elems[i]? = some y → ∀ z ∈ y.1.weights Tryd.prog 31, z ≤ reachBytes := fun i y hy z hz => hw z (by
      rw [hx]
      simp only [DataW.weights, Tryd.underlying22, List.mem_cons, List.mem_append]
      exact .inr (.inl (weights_all (i := i) (d := y.1) (by rw [List.getElem?_map, hy]; rfl) z hz)))
    have hbound : len ≤ 281474976710656 := by
      have := hw ((elems.length + rest.length) * 24) (by
        rw [hx]
        simp [DataW.weights, Tryd.underlying22, bytesTt])
      have h3 : reachBytes ≤ 140737488355328 := by decide
      omega
    have each : ∀ i, i < len → ∃ y : XF, (∀ (j : Nat) (u : Value), y.tcells[j]? = some u → w.cell? (a.add (i * 1 + j)) = some u) ∧ FIs w y ∧ y.pr = noS := by
      intro i hi
      have h1 := hea i hi
      obtain ⟨y, hy⟩ : ∃ y, elems[i]? = some y := ⟨_, List.getElem?_eq_getElem (by omega)⟩
      rw [hy] at h1
      obtain ⟨cs', hc1, hc2⟩ := Option.bind_eq_some_iff.1 h1
      rw [cellsFV] at hc1
      obtain ⟨_, hlen, hcell⟩ := World.cells?_some hc1
      obtain ⟨v1, hv1⟩ : ∃ v1, cs' = [v1] := by
        match cs', hlen with
        | [v1], _ => exact ⟨v1, rfl⟩
      subst hv1
      obtain ⟨ts, ta, tc, hv, ht1, ht2⟩ := vals_cell hc2 (hw2 i y hy)
      obtain ⟨z, hzd⟩ : ∃ z : XF, z = ⟨noS, ts, ta, tc⟩ := ⟨_, rfl⟩
      have hz : FIs w z ∧ z.pr = noS := by subst hzd; exact ⟨⟨by show (0 : Nat) ≤ _; exact Nat.zero_le _, ht1, ht2⟩, rfl⟩
      have hcs : [v1] = XF.tcells z := by subst hzd; rw [hv]; rfl
      rw [hcs] at hcell
      refine ⟨z, fun j u hu => ?_, hz⟩
      have hj : j < z.tcells.length := (List.getElem?_eq_some_iff.1 hu).1
      have e := hcell j hj
      rw [add_add] at e
      rw [e]
      exact hu
    haveI : Inhabited XF := ⟨XF0⟩
    obtain ⟨q, hq⟩ := choose_lt each
    have hul : ((List.range len).map q).length = len := by simp
    refine ⟨(List.range len).map q, some a, cap, by rw [hul], by rw [hul]; exact hbound, ?_, fun y hy => ?_⟩
    · by_cases h0 : len = 0
      · subst h0
        exact ⟨by show 0 ≤ _; omega, some a, cap, rfl, by simp, hcm, fun h => absurd (show (0 : Nat) < 0 from h) (by omega)⟩
      · obtain ⟨b, off, spot⟩ := a
        have hspot : spot = none := by simpa [Addr.add] using World.cell?_spot ((hq 0 (by omega)).1 0 _ rfl)
        subst hspot
        have plain : ∀ k, (⟨b, off, none⟩ : Addr).add k = ⟨b, off + k, none⟩ := fun k => add_plain b off k
        refine ls_of_range_off (f := XF.tcells) (k := 1) (by omega) (fun _ => rfl) XF0 (by rw [hul]; exact hlc) hcm ?_ (fun i hi => ?_)
        · have := (hq 0 (by omega)).1 0 _ rfl
          rw [plain] at this
          exact World.block_lt_of_cell? _ _ this
        · rw [hul] at hi
          have hat : ((List.range len).map q).getD i XF0 = q i := by simp [List.getD, hi]
          rw [hat]
          intro j u hu
          have := (hq i hi).1 j u hu
          rw [plain, ← Nat.add_assoc] at this
          exact this
    · obtain ⟨i, hi, rfl⟩ := List.mem_map.1 hy
      exact (hq i (List.mem_range.1 hi)).2
theorem open_tuples {r : Reach} {b0 : Nat} {v : Value} {d : DataW H} {p : List MemPlace} {tys : List TypeId} {ds : List (DataW H)} {j : Nat}
    (hv : Value.okWide Tryd.prog w r b0 22 v) (h : DataW.Trod enc Tryd.prog w 0 (fun _ => true) true 22 v d p)
    (hsz : (DataW.weightsEach Tryd.prog tys ds).all (· ≤ reachBytes) = true) (ht : tys[j]? = some 22) (hd : ds[j]? = some d) :
    ∃ (l : List XF) (a : Option Addr) (c : Nat), v = .slice a l.length c ∧ l.length ≤ 281474976710656 ∧ Lu w (.slice a l.length c) l := by
  obtain ⟨m, hm⟩ := h
  have hw : ∀ n ∈ d.weights Tryd.prog 22, n ≤ reachBytes := fun n hn => by
    have := List.all_eq_true.1 hsz n (DataW.weights_mem_each ht hd n hn)
    exact of_decide_eq_true this
  have hv2 : v.cells.toList = [v] := by
    obtain ⟨a, n, c, rfl⟩ : ∃ a n c, v = .slice a n c := Go.WideShapes.okWide_slice Tryd.underlying22 hv
    rfl
  rw [hv2] at hm
  obtain ⟨l, a, c, rfl, h1, h2, h3⟩ := Tt_cell hm hw
  exact ⟨l, a, c, rfl, h1, ⟨h2, h3⟩⟩
end
end Go.Proofs.YtkcipmbgapdkjaaDoor
