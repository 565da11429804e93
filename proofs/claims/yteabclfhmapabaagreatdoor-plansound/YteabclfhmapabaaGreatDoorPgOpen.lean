import Derived.Test.YteabclfhmapabaaGreatDoorA43
import Derived.Test.YteabclfhmapabaaGreatDoorRows
import Derived.Test.YteabclfhmapabaaGreatDoorA21
namespace Go.Proofs.YteabclfhmapabaaGreatDoor
open Go.ChangeShapes Go.WideShapes Go.ChangeAt Go.RowKit Go.Joins Go.Deep
set_option linter.unusedVariables false
set_option linter.unusedSimpArgs false
set_option maxRecDepth 100000

theorem bulk_one {H : Type} (d : DataW H) : 1 ≤ Rows.uptoBulk d := by
  cases d with
  | lit l => cases l <;> simp [Rows.uptoBulk]
  | _ => simp [Rows.uptoBulk]
theorem bulk_len {H : Type} : ∀ l : List (DataW H), l.length ≤ Rows.uptoBulkAll l
  | [] => by simp [Rows.uptoBulkAll]
  | x :: r => by
    have h1 := bulk_one x
    have h2 := bulk_len r
    simp only [Rows.uptoBulkAll, List.length_cons]
    omega
section
variable {H : Type} {enc : TypeId × Value → H} {w : World}
/-- a list that came in is no longer than what it is reckoned as -/
theorem slice_bulk {ty e : TypeId} (hu : Tryz.prog.underlying ty = some (.slice e)) {m n : Nat} {a : Option Addr} {c : Nat} {x : DataW H × List MemPlace} (hm : DataW.trod enc Tryz.prog w 0 (fun _ => true) true m ty [.slice a n c] = some x) : n ≤ Rows.uptoBulk x.1 := by
  rcases DataW.trod_slice hu hm with ⟨hcs, hx⟩ | ⟨a', len, cap, elems, rest, k, hk, hcs, hx, hb, hlc, hcm, hel, hea, hsp, _⟩
  · simp at hcs
    obtain ⟨_, h0, _⟩ := hcs
    have : n = 0 := by first | exact h0 | (rw [h0]; rfl)
    omega
  · simp at hcs
    have h1 : n = len := hcs.2.1
    have h2 := bulk_len (elems.map (fun y => y.1))
    rw [List.length_map] at h2
    rw [hx]
    simp only [Rows.uptoBulk]
    omega
/-- a list of any elements that came in -/
theorem list_cell {α : Type} {ty e : TypeId} (hu : Tryz.prog.underlying ty = some (.slice e)) {f : α → List Value} {k : Nat} (hk0 : 0 < k) (hk : ∀ x, (f x).length = k) (z : α) (hce : Tryz.prog.cellsOf e = k) (Pr : α → Prop)
    (one : ∀ (held : Bool) (m : Nat) (cs : List Value) (x : DataW H × List MemPlace), cs.length = k → DataW.trod enc Tryz.prog w 0 (fun _ => true) held m e cs = some x → ∃ y : α, cs = f y ∧ Pr y)
    {held : Bool} {m : Nat} {v : Value} {x : DataW H × List MemPlace} (h : DataW.trod enc Tryz.prog w 0 (fun _ => true) held m ty [v] = some x) :
    ∃ (l : List α) (a : Option Addr) (c : Nat), v = .slice a l.length c ∧ Ls w (.slice a l.length c) l.length (l.flatMap f) ∧ ∀ y ∈ l, Pr y := by
  rcases DataW.trod_slice hu h with ⟨hcs, hx⟩ | ⟨a, len, cap, elems, rest, n, hk', hcs, hx, hb, hlc, hcm, hel, hea, hsp, _⟩
  · simp at hcs
    subst hcs
    exact ⟨[], none, 0, rfl, ⟨by show 0 ≤ _; omega, none, 0, rfl, Nat.le_refl _, by decide, fun h => absurd (show (0 : Nat) < 0 from h) (by omega)⟩, fun t ht => by cases ht⟩
  · simp at hcs
    subst hcs hk'
    have each : ∀ i, i < len → ∃ y : α, (∀ (j : Nat) (u : Value), (f y)[j]? = some u → w.cell? (a.add (i * k + j)) = some u) ∧ Pr y := by
      intro i hi
      have h1 := hea i hi
      obtain ⟨y, hy⟩ : ∃ y, elems[i]? = some y := ⟨_, List.getElem?_eq_getElem (by omega)⟩
      rw [hy] at h1
      obtain ⟨cs', hc1, hc2⟩ := Option.bind_eq_some_iff.1 h1
      rw [hce] at hc1
      obtain ⟨_, hlen, hcell⟩ := World.cells?_some hc1
      obtain ⟨z, rfl, hz⟩ := one _ _ _ _ hlen hc2
      refine ⟨z, fun j u hu => ?_, hz⟩
      have hj : j < k := by
        have := (List.getElem?_eq_some_iff.1 hu).1
        rw [hk] at this
        exact this
      have e := hcell j hj
      rw [add_add] at e
      rw [e]
      exact hu
    haveI : Inhabited α := ⟨z⟩
    obtain ⟨q, hq⟩ := choose_lt each
    have hul : ((List.range len).map q).length = len := by simp
    refine ⟨(List.range len).map q, some a, cap, by rw [hul], ?_, fun y hy => ?_⟩
    · by_cases h0 : len = 0
      · subst h0
        exact ⟨by show 0 ≤ _; omega, some a, cap, rfl, by simp, hcm, fun h => absurd (show (0 : Nat) < 0 from h) (by omega)⟩
      · obtain ⟨b, off, spot⟩ := a
        have hz0 : ∃ u, (f (q 0))[0]? = some u := ⟨_, List.getElem?_eq_getElem (by rw [hk]; exact hk0)⟩
        obtain ⟨u0, hu0⟩ := hz0
        have hspot : spot = none := by simpa [Addr.add] using World.cell?_spot ((hq 0 (by omega)).1 0 _ hu0)
        subst hspot
        have plain : ∀ k, (⟨b, off, none⟩ : Addr).add k = ⟨b, off + k, none⟩ := fun k => add_plain b off k
        refine ls_of_range_off (f := f) (k := k) hk0 hk z (by rw [hul]; exact hlc) hcm ?_ (fun i hi => ?_)
        · have := (hq 0 (by omega)).1 0 _ hu0
          rw [plain] at this
          exact World.block_lt_of_cell? _ _ this
        · rw [hul] at hi
          have hat : ((List.range len).map q).getD i z = q i := by simp [List.getD, hi]
          rw [hat]
          intro j u hu
          have := (hq i hi).1 j u hu
          rw [plain, ← Nat.add_assoc] at this
          exact this
    · obtain ⟨i, hi, rfl⟩ := List.mem_map.1 hy
      exact (hq i (List.mem_range.1 hi)).2
theorem str_one (held : Bool) (m : Nat) (cs : List Value) (x : DataW H × List MemPlace) (hl : cs.length = 1) (h : DataW.trod enc Tryz.prog w 0 (fun _ => true) held m 9 cs = some x) : ∃ y : ByteArray, cs = strB y ∧ y.size ≤ maxLen := by
  match cs, hl with
  | [v0], _ =>
    obtain ⟨s, e0, _, hs⟩ := DataW.trod_string Tryz.underlying9 h
    simp at e0
    subst e0
    exact ⟨s, rfl, hs⟩
theorem strs_cell {held : Bool} {m : Nat} {v : Value} {x : DataW H × List MemPlace} (h : DataW.trod enc Tryz.prog w 0 (fun _ => true) held m 26 [v] = some x) :
    ∃ (l : List ByteArray) (a : Option Addr) (c : Nat), v = .slice a l.length c ∧ Ls w (.slice a l.length c) l.length (l.flatMap strB) ∧ ∀ y ∈ l, y.size ≤ maxLen :=
  list_cell Tryz.underlying26 (f := strB) (k := 1) (by decide) (fun _ => rfl) ⟨#[]⟩ cellsKS (fun y => y.size ≤ maxLen) (fun held m cs x hl h => str_one held m cs x hl h) h
theorem open_names {r : Reach} {b0 : Nat} {v : Value} {d : DataW H} {p : List MemPlace}
    (hv : Value.okWide Tryz.prog w r b0 26 v) (h : DataW.Trod enc Tryz.prog w 0 (fun _ => true) true 26 v d p) :
    ∃ (l : List ByteArray) (a : Option Addr) (c : Nat), v = .slice a l.length c ∧ Ls w (.slice a l.length c) l.length (l.flatMap strB) ∧ (∀ y ∈ l, y.size ≤ maxLen) ∧ l.length ≤ Rows.uptoBulk d := by
  obtain ⟨m, hm⟩ := h
  have hv2 : v.cells.toList = [v] := by
    obtain ⟨a, n, c, rfl⟩ : ∃ a n c, v = .slice a n c := Go.WideShapes.okWide_slice Tryz.underlying26 hv
    rfl
  rw [hv2] at hm
  obtain ⟨l, a, c, rfl, h1, h2⟩ := strs_cell hm
  exact ⟨l, a, c, rfl, h1, h2, slice_bulk Tryz.underlying26 (x := (d, p)) hm⟩
end
end Go.Proofs.YteabclfhmapabaaGreatDoor
