import Derived.Test.YtgfnijhhhgjabaaGreatDoorG7
import Derived.Test.YtgfnijhhhgjabaaGreatDoorG46
import Derived.Deep.RegionHeld3
section
namespace Go.Proofs.YtgfnijhhhgjabaaGreatDoor
open Go.RowKit Go.Maps
set_option linter.unusedVariables false
set_option linter.unusedSimpArgs false
attribute [local go_sem ↓] Go.wp_at_zero Go.wp_at_succ

/-- the four cells of a term -/
def comp4 (j : Nat) (t : T) : Value := if j = 0 then .string t.v else if j = 1 then .int .i8 t.a.k else if j = 2 then .int .i64 t.a.n else .string t.a.s
/-- what a row of terms holds whose first k are written -/
def rowT (U : Nat → T) (k : Nat) : Nat → Value := fun j => if j / 4 < k then comp4 (j % 4) (U (j / 4)) else comp4 (j % 4) T0
theorem rowT_step (U : Nat → T) (k j : Nat) (t : T) :
    (if j = k * 4 + 3 then Value.string t.a.s else if j = k * 4 + 2 then .int .i64 t.a.n else if j = k * 4 + 1 then .int .i8 t.a.k else if j = k * 4 then .string t.v else rowT U k j) = rowT (fun i => if i = k then t else U i) (k + 1) j := by
  by_cases e : j / 4 = k
  · have h1 : j / 4 < k + 1 := by omega
    have h3 : j = k * 4 ∨ j = k * 4 + 1 ∨ j = k * 4 + 2 ∨ j = k * 4 + 3 := by omega
    unfold rowT
    rw [if_pos h1, e]
    rcases h3 with rfl | rfl | rfl | rfl
    · simp [comp4]
    · simp [comp4, show (k * 4 + 1) % 4 = 1 by omega]
    · simp [comp4, show (k * 4 + 2) % 4 = 2 by omega]
    · simp [comp4, show (k * 4 + 3) % 4 = 3 by omega]
  · have n0 : ¬ j = k * 4 := by omega
    have n1 : ¬ j = k * 4 + 1 := by omega
    have n2 : ¬ j = k * 4 + 2 := by omega
    have n3 : ¬ j = k * 4 + 3 := by omega
    unfold rowT
    rw [if_neg n3, if_neg n2, if_neg n1, if_neg n0]
    by_cases h : j / 4 < k
    · rw [if_pos h, if_pos (by omega)]
      simp [e]
    · rw [if_neg h, if_neg (by omega)]
theorem rowT_at {w : World} {b : Nat} {ty : TypeId} {m : Nat} {U : Nat → T} {k : Nat} (h : w.rowIs b ty (m * 4) (rowT U k)) {i : Nat} (hi : i < k) (hm : i < m) : TAt w b (i * 4) (U i) := by
  refine ⟨?_, ?_, ?_, ?_⟩
  · rw [h.cell (by omega)]; simp [rowT, comp4, hi]
  · rw [h.cell (by omega)]; simp [rowT, comp4, show (i * 4 + 1) / 4 = i by omega, show (i * 4 + 1) % 4 = 1 by omega, hi]
  · rw [h.cell (by omega)]; simp [rowT, comp4, show (i * 4 + 2) / 4 = i by omega, show (i * 4 + 2) % 4 = 2 by omega, hi]
  · rw [h.cell (by omega)]; simp [rowT, comp4, show (i * 4 + 3) / 4 = i by omega, show (i * 4 + 3) % 4 = 3 by omega, hi]
theorem made_terms (w : World) (n : Nat) (U : Nat → T) : (w.alloc (.cells (madeCells #[.string ⟨#[]⟩, .int .i8 0, .int .i64 0, .string ⟨#[]⟩] (n * 4)) 44)).rowIs w.heap.size 44 (n * 4) (rowT U 0) := by
  have h := World.rowIs_alloc w (madeCells #[.string ⟨#[]⟩, .int .i8 0, .int .i64 0, .string ⟨#[]⟩] (n * 4)) 44 (rowT U 0) (fun i hi => by
    rw [size_madeCells] at hi
    obtain h | h | h | h : i % 4 = 0 ∨ i % 4 = 1 ∨ i % 4 = 2 ∨ i % 4 = 3 := by omega
    all_goals simp [madeCells, hi, rowT, comp4, h, T0, V0, noS])
  rwa [size_madeCells] at h
theorem infoTerm : (Tryz.prog.info? 44).map (fun i => (i.zero, i.size, i.bytes)) = some (some (.agg #[.string ⟨#[]⟩, .int .i8 0, .int .i64 0, .string ⟨#[]⟩]), 4, 48) := by kernel_rfl
theorem run_make_terms (n : Nat) (hn : n ≤ 1048576) (w : World) :
    (Instr.makeSlice 46 (.int .i64 ((n : Int) + 1)) (.int .i64 ((n : Int) + 1))).run Tryz.prog w = .ok (.slice (some ⟨w.heap.size, 0, none⟩) (n + 1) (n + 1)) (w.alloc (.cells (madeCells #[.string ⟨#[]⟩, .int .i8 0, .int .i64 0, .string ⟨#[]⟩] ((n + 1) * 4)) 44)) := by
  have h := infoTerm
  obtain ⟨i, hi, he⟩ := Option.map_eq_some_iff.1 h
  simp only [Prod.mk.injEq] at he
  obtain ⟨h1, h2, h3⟩ := he
  have := run_make (P := Tryz.prog) w 46 44 i _ Tryz.underlying46 hi h1 .i64 .i64 ((n : Int) + 1) ((n : Int) + 1) (by omega) (Int.le_refl _) (by rw [h3]; omega) (by omega)
  rw [this, h2, show ((n : Int) + 1).toNat = n + 1 by omega]
  rfl
/-- a copy of a list of terms: a row of its own, with a mark behind it -/
structure TwT (w : World) (lo : Nat) (ts : List T) (a : Option Addr) (c : Nat) : Prop where
  cap : c = ts.length + 1
  lies : ∃ g, a = some ⟨g, 0, none⟩ ∧ lo ≤ g ∧ g < w.heap.size ∧ TAt w g (ts.length * 4) ⟨markW, V0⟩ ∧ ∀ i, i < ts.length → TAt w g (i * 4) (atT ts i)
theorem TwT.below {w w' : World} {lo : Nat} {ts : List T} {a : Option Addr} {c : Nat} (h : TwT w lo ts a c) (b : Below w.heap.size w w') : TwT w' lo ts a c := by
  obtain ⟨h1, g, h2, h3, h4, h5, h6⟩ := h
  exact ⟨h1, g, h2, h3, Nat.lt_of_lt_of_le h4 b.size, h5.below b h4, fun i hi => (h6 i hi).below b h4⟩
theorem TAt.of {w w' : World} {g o : Nat} {t : T} (h : TAt w g o t) (e : w'.heap[g]? = w.heap[g]?) : TAt w' g o t := by
  have hc : ∀ j, w'.cell? ⟨g, j, none⟩ = w.cell? ⟨g, j, none⟩ := fun j => by unfold World.cell?; rw [e]
  exact ⟨(hc _).trans h.c0, (hc _).trans h.c1, (hc _).trans h.c2, (hc _).trans h.c3⟩
theorem TwT.set {w : World} {lo b j : Nat} {v : Value} (hb : b < lo) {ts : List T} {a : Option Addr} {c : Nat} (h : TwT w lo ts a c) : TwT (w.setCell ⟨b, j, none⟩ v) lo ts a c := by
  obtain ⟨h1, g, h2, h3, h4, h5, h6⟩ := h
  have e : (w.setCell ⟨b, j, none⟩ v).heap[g]? = w.heap[g]? := heap_setCell_other _ _ _ _ (by show g ≠ b; omega)
  exact ⟨h1, g, h2, h3, by simpa using h4, h5.of e, fun i hi => (h6 i hi).of e⟩
theorem TwT.lower {w : World} {lo lo' : Nat} (hl : lo' ≤ lo) {ts : List T} {a : Option Addr} {c : Nat} (h : TwT w lo ts a c) : TwT w lo' ts a c := by
  obtain ⟨h1, g, h2, h3, h4, h5, h6⟩ := h
  exact ⟨h1, g, h2, Nat.le_trans hl h3, h4, h5, h6⟩
/-- from cells to a list in memory -/
theorem lt_of_at {w : World} {g n c : Nat} {ts : List T} (hn : ts.length = n) (hc1 : n ≤ c) (hc2 : c ≤ maxLen) (hg : g < w.heap.size) (h : ∀ i, i < ts.length → TAt w g (i * 4) (atT ts i)) (hwf : ∀ t ∈ ts, t.wf) : Lt w (.slice (some ⟨g, 0, none⟩) n c) ts := by
  subst hn
  refine ⟨⟨Nat.le_trans hc1 hc2, _, c, rfl, hc1, hc2, fun _ => ⟨g, 0, rfl, hg, fun i hi => ?_⟩⟩, hwf⟩
  have hl : (ts.flatMap T.cells).length = ts.length * 4 := flat_len T.cells 4 (fun _ => rfl) ts
  have hi4 : i / 4 < ts.length := by omega
  have hx := flat_at T.cells 4 (fun _ => rfl) T0 ts (i / 4) (i % 4) hi4 (by omega)
  rw [show i / 4 * 4 + i % 4 = i by omega] at hx
  have ht := h (i / 4) hi4
  have key : w.cell? ⟨g, i, none⟩ = (T.cells (atT ts (i / 4)))[i % 4]? := by
    obtain h0 | h0 | h0 | h0 : i % 4 = 0 ∨ i % 4 = 1 ∨ i % 4 = 2 ∨ i % 4 = 3 := by omega
    · rw [show i = i / 4 * 4 by omega]
      have := ht.c0
      simpa [T.cells] using this
    · rw [show i = i / 4 * 4 + 1 by omega]
      have := ht.c1
      simpa [T.cells, show (i / 4 * 4 + 1) / 4 = i / 4 by omega, show (i / 4 * 4 + 1) % 4 = 1 by omega] using this
    · rw [show i = i / 4 * 4 + 2 by omega]
      have := ht.c2
      simpa [T.cells, show (i / 4 * 4 + 2) / 4 = i / 4 by omega, show (i / 4 * 4 + 2) % 4 = 2 by omega] using this
    · rw [show i = i / 4 * 4 + 3 by omega]
      have := ht.c3
      simpa [T.cells, show (i / 4 * 4 + 3) / 4 = i / 4 by omega, show (i / 4 * 4 + 3) % 4 = 3 by omega] using this
  rw [Nat.zero_add, key]
  have e2 : (ts.flatMap T.cells)[i]? = (T.cells (atT ts (i / 4)))[i % 4]? := hx
  rw [← e2, List.getElem?_eq_getElem hi]
theorem TwT.lt {w w0 : World} {lo : Nat} {ts : List T} {a : Option Addr} {c : Nat} {v : Value} (h : TwT w lo ts a c) (h0 : Lt w0 v ts) (hl : ts.length ≤ 1048576) : Lt w (.slice a ts.length c) ts := by
  obtain ⟨rfl, g, rfl, _, hg, _, hk⟩ := h
  exact lt_of_at rfl (by omega) (by unfold maxLen; omega) hg hk h0.wf
end Go.Proofs.YtgfnijhhhgjabaaGreatDoor
end
section
namespace Go.Proofs.YtgfnijhhhgjabaaGreatDoor
open Go.RowKit Go.Maps
set_option linter.unusedVariables false
set_option linter.unusedSimpArgs false
attribute [local go_sem ↓] Go.wp_at_zero Go.wp_at_succ

end Go.Proofs.YtgfnijhhhgjabaaGreatDoor
end
