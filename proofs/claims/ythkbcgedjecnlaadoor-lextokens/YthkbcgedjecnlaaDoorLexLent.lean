import Derived.Test.YthkbcgedjecnlaaDoorLexAlike
import Derived.Deep.Upon
import Derived.Maps.AppendAt
import Derived.OwnWalk
namespace Go.Proofs.YthkbcgedjecnlaaDoor
open Go.RowKit Go.Maps
set_option linter.unusedVariables false
set_option linter.unusedSimpArgs false
attribute [local go_sem ↓] Go.wp_at_zero Go.wp_at_succ

theorem infoTk : (Tryd.prog.info? 37).map (fun i => (i.zero, i.size, i.bytes)) = some (some (.agg #[.int .i8 0, .string ⟨#[]⟩, .int .i64 0, .int .i64 0]), 4, 40) := by kernel_rfl
theorem info_tok : ∃ i, Tryd.prog.info? 37 = some i ∧ i.zero = some (.agg #[.int .i8 0, .string ⟨#[]⟩, .int .i64 0, .int .i64 0]) ∧ i.size = 4 ∧ i.bytes = 40 := by
  have h := infoTk
  cases hi : Tryd.prog.info? 37 with
  | none => rw [hi] at h; simp at h
  | some i =>
    rw [hi] at h
    simp at h
    exact ⟨i, rfl, h.1, h.2.1, h.2.2⟩
theorem cells_len4 (ts : List Tk) : (ts.flatMap Tk.cells).length = ts.length * 4 := by
  induction ts with
  | nil => rfl
  | cons t r ih => rw [List.flatMap_cons, List.length_append, ih, List.length_cons]; simp [Tk.cells]; omega
theorem cells_one (ts : List Tk) : ∀ u ∈ ts.flatMap Tk.cells, u.oneCell' = true := by
  intro u hu
  rw [List.mem_flatMap] at hu
  obtain ⟨t, _, ht⟩ := hu
  simp [Tk.cells] at ht
  rcases ht with rfl | rfl | rfl | rfl <;> rfl
theorem TL.at {w : World} {g off : Nat} {ts : List Tk} (h : TL w (some ⟨g, off, none⟩) ts) (j : Nat) (u : Value) (hu : (ts.flatMap Tk.cells)[j]? = some u) : w.cell? ((⟨g, off, none⟩ : Addr).add j) = some u := by
  have hj : j < ts.length * 4 := by rw [← cells_len4]; exact (List.getElem?_eq_some_iff.1 hu).1
  obtain ⟨t, ht⟩ : ∃ t, ts[j / 4]? = some t := ⟨_, List.getElem?_eq_getElem (by omega)⟩
  obtain ⟨g', off', e, c0, c1, c2, c3⟩ := h (j / 4) t ht
  simp at e
  obtain ⟨rfl, rfl⟩ := e
  have hv : ∀ (i : Nat) (v : Value), t.cells[i]? = some v → i < 4 → j % 4 = i → u = v := fun i v h1 h2 h3 => by
    have := cells_get ts (j / 4) i t v ht h1 h2
    rw [show 4 * (j / 4) + i = j by omega, hu] at this
    exact Option.some.inj this
  rw [show (⟨g, off, none⟩ : Addr).add j = ⟨g, off + j, none⟩ from by simp [Addr.add]]
  obtain e | e | e | e : j % 4 = 0 ∨ j % 4 = 1 ∨ j % 4 = 2 ∨ j % 4 = 3 := by omega
  · rw [hv 0 _ rfl (by omega) e, ← c0]; congr 2; omega
  · rw [hv 1 _ rfl (by omega) e, ← c1]; congr 2; omega
  · rw [hv 2 _ rfl (by omega) e, ← c2]; congr 2; omega
  · rw [hv 3 _ rfl (by omega) e, ← c3]; congr 2; omega

/-- append(x, y...) of tokens, x a row of the call's own, y any list -/
theorem run_appT {w : World} {b : Nat} {v : Value} {n : Nat} {xs : List Value} (ty : TypeId) (hown : w.ownsRow b 37 4 v n xs) {a : Option Addr} {c : Nat} {ts : List Tk} (hl : TL w a ts) (h1 : n + ts.length ≤ 8589934592) (hb : b ≤ w.heap.size) :
    ∃ v' w', (Builtin.append_ #[22, 22] ty #[v, .slice a ts.length c]).run Tryd.prog w = .ok v' w' ∧ w'.ownsRow b 37 4 v' (n + ts.length) (xs ++ ts.flatMap Tk.cells) ∧ w.grownBy w' v.ownBlock ∧ (v'.ownBlock = v.ownBlock ∨ v'.ownBlock = some w.heap.size) := by
  obtain ⟨i0, hi0, hz0, hz1, hz2⟩ := info_tok
  cases ts with
  | nil =>
    have hv : ∃ ba sc, v = .slice ba n sc ∧ n ≤ sc := by
      rcases hown.2 with ⟨rfl, rfl⟩ | ⟨g, cap, cur, rfl, _, _, hnc, _, _, _⟩
      · exact ⟨none, 0, rfl, Nat.le_refl _⟩
      · exact ⟨_, _, rfl, hnc⟩
    obtain ⟨ba, sc, rfl, hsc⟩ := hv
    refine ⟨_, _, run_append_nothing w _ _ ty _ i0 Tryd.underlying22 hi0 ba n sc hsc _ ⟨.inl ⟨_, Tryd.underlying22⟩, by intro w'; cases a <;> simp [Builtin.lenOf], by cases a <;> simp [Builtin.firstCells, loadCells, loadCellsFrom], by cases a <;> simp [Builtin.firstCells, loadCells, loadCellsFrom], by simp, by simp⟩, ?_, ⟨rfl, rfl, rfl, Nat.le_refl _, fun _ _ _ => rfl⟩, .inl rfl⟩
    simpa using hown
  | cons t r =>
    obtain ⟨g, off, rfl, _⟩ := hl 0 t rfl
    obtain ⟨v', w', e1, e2, e3, _, e5⟩ := run_append_own_at (P := Tryd.prog) w b 22 ty 37 i0 _ 4 40 Tryd.underlying22 hi0 hz0 hz1 hz2 rfl (by decide) v n xs hown ⟨g, off, none⟩ (t :: r).length c ((t :: r).flatMap Tk.cells) (cells_len4 _) (fun j u hu => hl.at j u hu) (cells_one _) (by unfold maxLen; omega) (by omega) hb
    exact ⟨v', w', e1, e2, e3, e5⟩
theorem wpList_appT {ops : Array Oper} {rest : List Oper} {o : Oper} {a : Act} {w : World} {Q : Exit → Act → World → Prop} (hgd : o.guard = none) (s x : Operand)
    (hop : o.op = Op.call { callee := Callee.builtin Builtin.append, args := #[s, x], argTypes := #[22, 22] })
    {b : Nat} {v : Value} {n : Nat} {xs : List Value} (hs : a.eval s = v) (hown : w.ownsRow b 37 4 v n xs)
    {ad : Option Addr} {c : Nat} {ts : List Tk} (hx : a.eval x = .slice ad ts.length c) (hl : TL w ad ts) (h1 : n + ts.length ≤ 8589934592) (hb : b ≤ w.heap.size)
    (h : ∀ v' w', w'.ownsRow b 37 4 v' (n + ts.length) (xs ++ ts.flatMap Tk.cells) → w.grownBy w' v.ownBlock → (v'.ownBlock = v.ownBlock ∨ v'.ownBlock = some w.heap.size) → wpList Tryd.prog ops Q rest (a.put o.dst v') w') :
    wpList Tryd.prog ops Q (o :: rest) a w := by
  refine wpList_plain hgd fun KK hK => ?_
  obtain ⟨v', w', hr, r1, r2, r3⟩ := run_appT (c := c) o.type hown hl h1 hb
  unfold Oper.wp execOp
  simp only [hop, resolve, invoke, builtin, Sem.run_bind, Sem.run_pure, Result.andThen_ok, List.map_toArray, List.map_cons, List.map_nil, hs, hx, hr]
  exact hK _ _ (h v' w' r1 r2 r3)
end Go.Proofs.YthkbcgedjecnlaaDoor
