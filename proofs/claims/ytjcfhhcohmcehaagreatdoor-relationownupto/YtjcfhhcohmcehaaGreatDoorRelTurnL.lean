import Derived.Test.YtjcfhhcohmcehaaGreatDoorRelTurned
import Derived.Test.YtjcfhhcohmcehaaGreatDoorRelCloneR
namespace Go.Proofs.YtjcfhhcohmcehaaGreatDoor
open Go.RowKit Go.Maps
set_option linter.unusedVariables false
set_option linter.unusedSimpArgs false

/-! lists of turns, cell by cell -/
def Tn.cells (x : Tn) : List Value := .bool x.1 :: x.2.map cellI
def flatT (ts : List Tn) : List Value := ts.flatMap Tn.cells
theorem Tn.cells_len {x : Tn} (h : x.2.length = 24) : x.cells.length = 25 := by simp [Tn.cells, h]
theorem flatT_len : ∀ (ts : List Tn), (∀ x ∈ ts, x.2.length = 24) → (flatT ts).length = ts.length * 25
  | [], _ => rfl
  | x :: r, h => by
    have h1 := Tn.cells_len (h x (List.mem_cons_self))
    have h2 := flatT_len r (fun y hy => h y (List.mem_cons_of_mem _ hy))
    simp only [flatT] at h2 ⊢
    rw [List.flatMap_cons, List.length_append, h1, h2, List.length_cons]
    omega
theorem flatT_one (ts : List Tn) : ∀ u ∈ flatT ts, u.oneCell' = true := fun u hu => by
  obtain ⟨x, _, hx⟩ := List.mem_flatMap.1 hu
  rcases List.mem_cons.1 hx with rfl | hx
  · rfl
  · obtain ⟨y, _, rfl⟩ := List.mem_map.1 hx
    rfl
theorem flatT_at : ∀ (ts : List Tn), (∀ x ∈ ts, x.2.length = 24) → ∀ (i j : Nat) (x : Tn), ts[i]? = some x → j < 25 → (flatT ts)[i * 25 + j]? = x.cells[j]?
  | [], _, i, j, x, h, _ => by simp at h
  | y :: r, hl, 0, j, x, h, hj => by
    have hx : y = x := by simpa using h
    subst hx
    have h1 := Tn.cells_len (hl y (List.mem_cons_self))
    simp only [flatT, List.flatMap_cons]
    rw [List.getElem?_append_left (by omega)]
    simp
  | y :: r, hl, i + 1, j, x, h, hj => by
    have h1 := Tn.cells_len (hl y (List.mem_cons_self))
    have ih := flatT_at r (fun z hz => hl z (List.mem_cons_of_mem _ hz)) i j x (by simpa using h) hj
    simp only [flatT, List.flatMap_cons] at ih ⊢
    rw [List.getElem?_append_right (by omega), h1, ← ih]
    congr 1
    omega
/-- a list of turns by its cells -/
def LtC (w : World) (v : Value) (ts : List Tn) : Prop := (∀ x ∈ ts, RowOk x.2) ∧ ∃ a c, v = .slice a ts.length c ∧ (0 < ts.length → ∃ g off, a = some ⟨g, off, none⟩ ∧ g < w.heap.size ∧ ∀ j u, (flatT ts)[j]? = some u → w.cell? ⟨g, off + j, none⟩ = some u)
theorem LtC.lt {w : World} {v : Value} {ts : List Tn} (h : LtC w v ts) : Lt w v ts := by
  obtain ⟨ok, a, c, rfl, hc⟩ := h
  refine ⟨ok, a, c, rfl, fun i x hx => ?_⟩
  have hi : i < ts.length := (List.getElem?_eq_some_iff.1 hx).1
  obtain ⟨g, off, rfl, hg, hcell⟩ := hc (by omega)
  have hat := flatT_at ts (fun y hy => (ok y hy).len) i
  refine ⟨g, off, rfl, hg, ?_, fun j u hu => ?_⟩
  · have := hcell (i * 25) (.bool x.1) (by have := hat 0 x hx (by omega); simpa [Tn.cells] using this)
    exact this
  · have hj : j < 24 := by
      have h1 := (List.getElem?_eq_some_iff.1 hu).1
      have h2 := (ok x (List.mem_of_getElem? hx)).len
      rw [List.length_map] at h1
      omega
    have := hcell (i * 25 + (j + 1)) u (by rw [hat (j + 1) x hx (by omega)]; simpa [Tn.cells] using hu)
    rw [show off + i * 25 + 1 + j = off + (i * 25 + (j + 1)) by omega]
    exact this
theorem LtC.below {w w' : World} {v : Value} {ts : List Tn} (h : LtC w v ts) (hb : Below w.heap.size w w') : LtC w' v ts := by
  obtain ⟨ok, a, c, rfl, hc⟩ := h
  refine ⟨ok, a, c, rfl, fun hp => ?_⟩
  obtain ⟨g, off, rfl, hg, hcell⟩ := hc hp
  exact ⟨g, off, rfl, Nat.lt_of_lt_of_le hg hb.size, fun j u hu => (hb.cell (p := ⟨g, off + j, none⟩) hg).trans (hcell j u hu)⟩
theorem infoTurn : (Tryz.prog.info? 85).map (fun i => (i.zero, i.size, i.bytes)) = some (some (.agg (#[.bool false] ++ rowC zeroL)), 25, 100) := by kernel_rfl
/-- append of turns onto a list of one's own -/
theorem app_turns {w0 w : World} {B : Nat} {o : Value} {ts1 ts2 : List Tn} {n : Nat} (hn : n = ts1.length) (hown : w.ownsRow B 85 25 o n (flatT ts1)) (hB : Below B w0 w) (hw : B ≤ w.heap.size) {a : Option Addr} {c : Nat} (hx : LtC w (.slice a ts2.length c) ts2) (hl : n + ts2.length ≤ 1000000000) (ty : TypeId) :
    ∃ o' w', (Builtin.append_ #[22, 22] ty #[o, .slice a ts2.length c]).run Tryz.prog w = .ok o' w' ∧ w'.ownsRow B 85 25 o' (n + ts2.length) (flatT (ts1 ++ ts2)) ∧ Below B w0 w' ∧ B ≤ w'.heap.size := by
  obtain ⟨i0, hi0, hz0, hz1, hz2⟩ := info_parts infoTurn
  by_cases h0 : ts2.length = 0
  · have hu : ts2 = [] := List.eq_nil_of_length_eq_zero h0
    subst hu
    obtain ⟨a1, c1, rfl, _⟩ := own_form hown
    have hsc : n ≤ c1 := by
      obtain ⟨_, ⟨e, hz⟩ | ⟨g, cap, cur, e, _, _, hnc, _⟩⟩ := hown
      · cases e; omega
      · cases e; exact hnc
    refine ⟨.slice a1 n c1, w, ?_, by simpa using hown, hB, hw⟩
    exact run_append_nothing w _ _ ty _ i0 Tryz.underlying22 hi0 a1 n c1 hsc _ ⟨.inl ⟨_, Tryz.underlying22⟩, by intro w'; cases a <;> simp [Builtin.lenOf], by cases a <;> simp [Builtin.firstCells, loadCells, loadCellsFrom], by cases a <;> simp [Builtin.firstCells, loadCells, loadCellsFrom], by simp, by simp⟩
  · obtain ⟨ok, a', c', e, hc⟩ := hx
    cases e
    obtain ⟨g, off, rfl, hg, hcell⟩ := hc (by omega)
    obtain ⟨o', w', h1, h2, h3, _, _⟩ := run_append_own_at (P := Tryz.prog) w B 22 ty 85 i0 _ 25 100 Tryz.underlying22 hi0 hz0 hz1 hz2 rfl (by decide) o n (flatT ts1) hown ⟨g, off, none⟩ ts2.length c (flatT ts2) (flatT_len ts2 (fun x hx => (ok x hx).len)) (fun j u hu => by
      rw [show (⟨g, off, none⟩ : Addr).add j = ⟨g, off + j, none⟩ from by simp [Addr.add]]
      exact hcell j u hu) (flatT_one ts2) (by unfold maxLen; omega) (by omega) hw
    refine ⟨o', w', h1, by simpa [flatT] using h2, hB.grown h3 hw (fun j hj => (hown.lt j hj).1), Nat.le_trans hw h3.size⟩
/-- a list of turns of one's own -/
theorem own_LtC {w : World} {B : Nat} {a : Option Addr} {c : Nat} {ts : List Tn} (own : w.ownsRow B 85 25 (.slice a ts.length c) ts.length (flatT ts)) (ok : ∀ x ∈ ts, RowOk x.2) : LtC w (.slice a ts.length c) ts := by
  have hfl := flatT_len ts (fun x hx => (ok x hx).len)
  have own' := own
  have hlt := own.lt
  obtain ⟨_, ⟨e, h0⟩ | ⟨g, cap, cur, e, _, _, hnc, _⟩⟩ := own
  · exact ⟨ok, _, _, rfl, fun h => by omega⟩
  · obtain ⟨rfl, _, rfl⟩ := Value.slice.inj e
    refine ⟨ok, _, _, rfl, fun _ => ⟨g, 0, rfl, (hlt g rfl).2, fun j u hu => ?_⟩⟩
    have hj : j < (flatT ts).length := (List.getElem?_eq_some_iff.1 hu).1
    rw [Nat.zero_add, own'.cellAt j (by omega)]
    exact hu
end Go.Proofs.YtjcfhhcohmcehaaGreatDoor
