import Derived.Test.YtanffdllapnghaaRelRight
import Derived.Test.YtanffdllapnghaaRelAddT
namespace Go.Proofs.Ytanffdllapnghaa
open Go.RowKit Go.Maps
set_option linter.unusedVariables false
set_option linter.unusedSimpArgs false

/-- the same, and where the list lies then -/
theorem app_rowsL {w0 w : World} {B : Nat} {o : Value} {rows1 rows2 : List (List Int)} {n : Nat} (hn : n = rows1.length) (hown : w.ownsRow B 25 24 o n (flatR rows1)) (hB : Below B w0 w) (hw : B ≤ w.heap.size) {a : Option Addr} {c : Nat} (hx : LrC w (.slice a rows2.length c) rows2) (hl : n + rows2.length ≤ 1000000000) (ty : TypeId) :
    ∃ o' w', (Builtin.append_ #[28, 28] ty #[o, .slice a rows2.length c]).run Try.prog w = .ok o' w' ∧ w'.ownsRow B 25 24 o' (n + rows2.length) (flatR (rows1 ++ rows2)) ∧ Below B w0 w' ∧ B ≤ w'.heap.size ∧ w.grownBy w' o.ownBlock ∧ (o'.ownBlock = o.ownBlock ∨ o'.ownBlock = some w.heap.size) := by
  obtain ⟨i0, hi0, hz0, hz1, hz2⟩ := info_parts infoRowQ
  by_cases h0 : rows2.length = 0
  · have hu : rows2 = [] := List.eq_nil_of_length_eq_zero h0
    subst hu
    obtain ⟨a1, c1, rfl, _⟩ := own_form hown
    have hsc : n ≤ c1 := by
      obtain ⟨_, ⟨e, hz⟩ | ⟨g, cap, cur, e, _, _, hnc, _⟩⟩ := hown
      · cases e; omega
      · cases e; exact hnc
    refine ⟨.slice a1 n c1, w, ?_, by simpa using hown, hB, hw, ⟨rfl, rfl, rfl, Nat.le_refl _, fun _ _ _ => rfl⟩, .inl rfl⟩
    exact run_append_nothing w _ _ ty _ i0 Try.underlying28 hi0 a1 n c1 hsc _ ⟨.inl ⟨_, Try.underlying28⟩, by intro w'; cases a <;> simp [Builtin.lenOf], by cases a <;> simp [Builtin.firstCells, loadCells, loadCellsFrom], by cases a <;> simp [Builtin.firstCells, loadCells, loadCellsFrom], by simp, by simp⟩
  · obtain ⟨h24, a', c', e, hc⟩ := hx
    cases e
    obtain ⟨g, off, rfl, hg, hcell⟩ := hc (by omega)
    obtain ⟨o', w', h1, h2, h3, _, h5⟩ := run_append_own_at (P := Try.prog) w B 28 ty 25 i0 _ 24 96 Try.underlying28 hi0 hz0 hz1 hz2 rfl (by decide) o n (flatR rows1) hown ⟨g, off, none⟩ rows2.length c (flatR rows2) (flatR_len rows2 h24) (fun j u hu => by
      rw [show (⟨g, off, none⟩ : Addr).add j = ⟨g, off + j, none⟩ from by simp [Addr.add]]
      exact hcell j u hu) (flatR_one rows2) (by unfold maxLen; omega) (by omega) hw
    refine ⟨o', w', h1, by simpa [flatR] using h2, hB.grown h3 hw (fun j hj => (hown.lt j hj).1), Nat.le_trans hw h3.size, h3, h5⟩
end Go.Proofs.Ytanffdllapnghaa
