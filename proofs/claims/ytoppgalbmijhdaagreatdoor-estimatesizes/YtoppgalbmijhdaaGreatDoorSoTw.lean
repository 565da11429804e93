import Derived.Test.YtoppgalbmijhdaaGreatDoorSoOnceT
namespace Go.Proofs.YtoppgalbmijhdaaGreatDoor
open Go.RowKit Go.Maps
set_option linter.unusedVariables false
set_option linter.unusedSimpArgs false
attribute [local go_sem ↓] Go.wp_at_zero Go.wp_at_succ

theorem infoTS : (Tryz.prog.info? 29).map (·.size) = some 1 := by kernel_rfl
theorem load_Tup {u : World} {g o : Nat} {a : Option Addr} {n c : Nat} (h : u.cell? ⟨g, o, none⟩ = some (.slice a n c)) : (loadVar 29 ⟨g, o, none⟩).run Tryz.prog u = .ok (.slice a n c) u := by go_simp
theorem store_Tup {u : World} {b o : Nat} {a : Option Addr} {n c : Nat} (h : u.there b o 1) : (storeVar 29 ⟨b, o, none⟩ (.slice a n c)).run Tryz.prog u = .ok () (u.setCells b o [.slice a n c]) := by
  have := run_storeCells_cells (P := Tryz.prog) b o [.slice a n c] 0 u (fun j hj => by simpa using (h j (by simpa using hj)).1) (fun j hj => by simpa using (h j (by simpa using hj)).2) (fun v hv => by simp at hv; subst hv; rfl)
  have hi := infoTS
  cases hq : Tryz.prog.info? 29 with
  | none => simp [hq] at hi
  | some i =>
    have hs : i.size = 1 := by simpa [hq] using hi
    simp only [Nat.add_zero] at this
    simp [storeVar, sizeOf, typeInfo, hq, Value.cells, hs, this]
theorem run_make_Tup (n : Nat) (hn : n ≤ 1048576) (w : World) :
    (Instr.makeSlice 41 (.int .i64 ((n : Int) + 1)) (.int .i64 ((n : Int) + 1))).run Tryz.prog w = .ok (.slice (some ⟨w.heap.size, 0, none⟩) (n + 1) (n + 1)) (w.alloc (.cells (madeCells #[.slice none 0 0] ((n + 1) * 1)) 29)) := by
  obtain ⟨i, hi, h1, h2, h3⟩ := info_partsS infoTs
  have := run_make (P := Tryz.prog) w 41 29 i _ Tryz.underlying41 hi h1 .i64 .i64 ((n : Int) + 1) ((n : Int) + 1) (by omega) (Int.le_refl _) (by rw [h3]; omega) (by omega)
  rw [this, h2, show ((n : Int) + 1).toNat = n + 1 by omega]
  rfl
def mkV : List Value := [.int .i8 99, .int .i64 777777, .string ⟨#[]⟩]
/-- a copy of a list of tuples, with a mark behind it -/
structure TwU (w : World) (lo : Nat) (l : List XF) (a : Option Addr) (c : Nat) : Prop where
  cap : c = l.length + 1
  lies : ∃ g m, a = some ⟨g, 0, none⟩ ∧ g < w.heap.size ∧ m < w.heap.size ∧ w.rangeAt m 0 mkV ∧ w.cell? ⟨g, l.length, none⟩ = some (.slice (some ⟨m, 0, none⟩) 1 1) ∧ ∀ i, i < l.length → w.cell? ⟨g, i, none⟩ = some (atF l i).tcell
  each : ∀ i, i < l.length → TwF w lo (atF l i)
theorem TwU.below {w w' : World} {lo : Nat} {l : List XF} {a : Option Addr} {c : Nat} (h : TwU w lo l a c) (b : Below w.heap.size w w') : TwU w' lo l a c := by
  obtain ⟨h1, ⟨g, m, h2, h3, h4, h5, h6, h7⟩, h8⟩ := h
  exact ⟨h1, ⟨g, m, h2, Nat.lt_of_lt_of_le h3 b.size, Nat.lt_of_lt_of_le h4 b.size, range_below h5 b h4, by rw [b.cell (p := ⟨g, l.length, none⟩) h3]; exact h6, fun i hi => by rw [b.cell (p := ⟨g, i, none⟩) h3]; exact h7 i hi⟩, fun i hi => (h8 i hi).below b⟩
theorem keys_at {l m : List XF} (hk : l.map XF.key = m.map XF.key) : m.length = l.length ∧ ∀ i, i < l.length → (atF l i).key = (atF m i).key := by
  have e : m.length = l.length := by have := congrArg List.length hk; simpa using this.symm
  refine ⟨e, fun i hi => ?_⟩
  have := congrArg (fun z => z[i]?) hk
  simp only [List.getElem?_map, List.getElem?_eq_getElem hi, List.getElem?_eq_getElem (show i < m.length by omega), Option.map_some, Option.some.injEq] at this
  rw [atF_eq hi, atF_eq (by omega)]
  exact this
theorem Lu.form {w : World} {v : Value} {l : List XF} (h : Lu w v l) : ∃ a c, v = .slice a l.length c ∧ l.length ≤ c ∧ c ≤ maxLen ∧ (0 < l.length → ∃ g off, a = some ⟨g, off, none⟩ ∧ g < w.heap.size ∧ ∀ i, i < l.length → w.cell? ⟨g, off + i, none⟩ = some (atF l i).tcell) := by
  obtain ⟨a, c, h1, h2, h3, h4⟩ := ls_range (f := XF.tcells) (k := 1) (fun _ => rfl) XF0 h.lies
  refine ⟨a, c, h1, h2, h3, fun h0 => ?_⟩
  obtain ⟨g, off, h5, h6, h7⟩ := h4 h0
  refine ⟨g, off, h5, h6, fun i hi => ?_⟩
  have := h7 i hi 0 _ rfl
  rw [Nat.mul_one] at this
  exact this
theorem Lu.at {w : World} {v : Value} {l : List XF} (h : Lu w v l) {i : Nat} (hi : i < l.length) : FIs w (atF l i) ∧ (atF l i).pr = noS := by
  rw [atF_eq hi]
  exact h.each _ (List.getElem_mem hi)
attribute [-go_sem] loadVar storeVar
end Go.Proofs.YtoppgalbmijhdaaGreatDoor
