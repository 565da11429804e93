import Derived.Test.YtknoffjfhnljcaaDoorTreeRow
namespace Go.Proofs.YtknoffjfhnljcaaDoor
open Go.RowKit Go.Maps
set_option linter.unusedVariables false
set_option linter.unusedSimpArgs false
attribute [local go_sem ↓] Go.wp_at_zero Go.wp_at_succ

/-- an expression, and where its kids lie -/
structure X where
  e : E
  a : Option Addr
  c : Nat
def X.cells (x : X) : List Value := [.int .i8 x.e.op, .string x.e.t.v, .int .i8 x.e.t.a.k, .int .i64 x.e.t.a.n, .string x.e.t.a.s, .slice x.a x.e.kids.length x.c]
def X0 : X := ⟨E0, none, 0⟩
def atX (l : List X) (i : Nat) : X := l.getD i X0
theorem atX_eq {l : List X} {i : Nat} (h : i < l.length) : atX l i = l[i] := by simp [atX, List.getD, List.getElem?_eq_getElem h]
/-- a list of expressions in memory -/
structure Lx (w : World) (v : Value) (d : Nat) (l : List X) : Prop where
  lies : Ls w v l.length (l.flatMap X.cells)
  each : ∀ x ∈ l, EIs w d x.e x.a x.c
theorem Lx.below {w w' : World} {v : Value} {d : Nat} {l : List X} (h : Lx w v d l) (b : Below w.heap.size w w') : Lx w' v d l := ⟨h.lies.below b, fun x hx => (h.each x hx).below b⟩
theorem Lx.form {w : World} {v : Value} {d : Nat} {l : List X} (h : Lx w v d l) : ∃ a c, v = .slice a l.length c ∧ l.length ≤ c ∧ c ≤ maxLen ∧ (0 < l.length → ∃ g off, a = some ⟨g, off, none⟩ ∧ g < w.heap.size ∧ ∀ i, i < l.length → XAt w g (off + i * 6) (atX l i).e.op (atX l i).e.t (.slice (atX l i).a (atX l i).e.kids.length (atX l i).c)) := by
  obtain ⟨hn, a, c, hv, h1, h2, hc⟩ := h.lies
  refine ⟨a, c, hv, h1, h2, fun h0 => ?_⟩
  obtain ⟨g, off, ha, hg, hf⟩ := hc h0
  refine ⟨g, off, ha, hg, fun i hi => ⟨?_, ?_, ?_, ?_, ?_, ?_⟩⟩
  · have := hf.elem (k := 6) (fun _ => rfl) X0 hi (j := 0) (by omega) rfl; rw [← Nat.add_assoc] at this; exact this
  · have := hf.elem (k := 6) (fun _ => rfl) X0 hi (j := 1) (by omega) rfl; rw [← Nat.add_assoc] at this; exact this
  · have := hf.elem (k := 6) (fun _ => rfl) X0 hi (j := 2) (by omega) rfl; rw [← Nat.add_assoc] at this; exact this
  · have := hf.elem (k := 6) (fun _ => rfl) X0 hi (j := 3) (by omega) rfl; rw [← Nat.add_assoc] at this; exact this
  · have := hf.elem (k := 6) (fun _ => rfl) X0 hi (j := 4) (by omega) rfl; rw [← Nat.add_assoc] at this; exact this
  · have := hf.elem (k := 6) (fun _ => rfl) X0 hi (j := 5) (by omega) rfl; rw [← Nat.add_assoc] at this; exact this
theorem flatX_len (l : List X) : (l.flatMap X.cells).length = l.length * 6 := flat_len X.cells 6 (fun _ => rfl) l
theorem lx_one {g : Nat} (w : World) (hg : g = w.heap.size) (x : X) (d : Nat) (h : EIs w d x.e x.a x.c) : Lx (w.alloc (.cells #[.int .i8 x.e.op, .string x.e.t.v, .int .i8 x.e.t.a.k, .int .i64 x.e.t.a.n, .string x.e.t.a.s, .slice x.a x.e.kids.length x.c] 53)) (.slice (some ⟨g, 0, none⟩) 1 1) d [x] := by
  subst hg
  refine ⟨?_, fun y hy => ?_⟩
  · have := ls_own (World.ownsRow_lit (base := 0) (e := 53) (size := 6) w #[.int .i8 x.e.op, .string x.e.t.v, .int .i8 x.e.t.a.k, .int .i64 x.e.t.a.n, .string x.e.t.a.s, .slice x.a x.e.kids.length x.c] 1 (Nat.zero_le _) (by decide) rfl)
    simpa [X.cells] using this
  · obtain rfl := List.mem_singleton.1 hy
    exact h.below ((Below.refl _ _).alloc (Nat.le_refl _) _)
theorem small_step {d : Nat} {x : X} {K : List X} (h1 : x.e.kids.length ≤ 1048576) (hK : K.map X.e = x.e.kids) (hs : ∀ y ∈ K, smallE d y.e) : smallE (d + 1) x.e := by
  refine ⟨h1, fun i hi => ?_⟩
  rw [atE_eq hi]
  have : x.e.kids[i] ∈ K.map X.e := by rw [hK]; exact List.getElem_mem hi
  obtain ⟨y, hy, he⟩ := List.mem_map.1 this
  rw [← he]
  exact hs y hy
end Go.Proofs.YtknoffjfhnljcaaDoor
