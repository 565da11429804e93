import Derived.Test.YtoppgalbmijhdaaDoorTermM
import Derived.Deep.OwnRows
import Derived.Deep.QuietTactic
import Derived.BigQuiet
import Derived.Maps.AppendAt
import Derived.OwnWalk
namespace Go.Proofs.YtoppgalbmijhdaaDoor
open Go.RowKit
set_option linter.unusedVariables false
set_option linter.unusedSimpArgs false

/-- cells in memory, from a place on -/
def Flat (w : World) (g off : Nat) (xs : List Value) : Prop := ∀ i (h : i < xs.length), w.cell? ⟨g, off + i, none⟩ = some xs[i]
/-- a list of n elements whose cells are xs -/
def Ls (w : World) (v : Value) (n : Nat) (xs : List Value) : Prop :=
  n ≤ maxLen ∧ ∃ a c, v = .slice a n c ∧ n ≤ c ∧ c ≤ maxLen ∧ (0 < n → ∃ g off, a = some ⟨g, off, none⟩ ∧ g < w.heap.size ∧ Flat w g off xs)
theorem Ls.below {w w' : World} {v : Value} {n : Nat} {xs : List Value} (l : Ls w v n xs) (h : Below w.heap.size w w') : Ls w' v n xs := by
  obtain ⟨hn, a, c, hv, h1, h2, hc⟩ := l
  refine ⟨hn, a, c, hv, h1, h2, fun h0 => ?_⟩
  obtain ⟨g, off, ha, hg, hf⟩ := hc h0
  exact ⟨g, off, ha, Nat.lt_of_lt_of_le hg h.size, fun i hi => by rw [h.cell (p := ⟨g, off + i, none⟩) hg]; exact hf i hi⟩

theorem flat_len {α : Type} (f : α → List Value) (k : Nat) (hk : ∀ x, (f x).length = k) : ∀ l : List α, (l.flatMap f).length = l.length * k
  | [] => by simp
  | x :: r => by rw [List.flatMap_cons, List.length_append, hk, flat_len f k hk r, List.length_cons, Nat.succ_mul]; omega
theorem flat_at {α : Type} (f : α → List Value) (k : Nat) (hk : ∀ x, (f x).length = k) (d : α) : ∀ (l : List α) (i j : Nat), i < l.length → j < k → (l.flatMap f)[i * k + j]? = (f (l.getD i d))[j]?
  | [], i, j, h, _ => absurd h (by simp)
  | x :: r, 0, j, _, hj => by
    rw [List.flatMap_cons, Nat.zero_mul, Nat.zero_add, List.getElem?_append_left (by rw [hk]; exact hj)]
    rfl
  | x :: r, i + 1, j, h, hj => by
    have := flat_at f k hk d r i j (by simpa using h) hj
    rw [List.flatMap_cons, List.getElem?_append_right (by rw [hk, Nat.succ_mul]; omega), hk, show (i + 1) * k + j - k = i * k + j by rw [Nat.succ_mul]; omega, this]
    simp [List.getD]
theorem Flat.elem {w : World} {g off : Nat} {α : Type} {f : α → List Value} {k : Nat} (hk : ∀ x, (f x).length = k) {l : List α} (h : Flat w g off (l.flatMap f)) (d : α) {i j : Nat} (hi : i < l.length) (hj : j < k) {u : Value} (hu : (f (l.getD i d))[j]? = some u) : w.cell? ⟨g, off + (i * k + j), none⟩ = some u := by
  have h1 := flat_at f k hk d l i j hi hj
  rw [hu] at h1
  obtain ⟨h2, h3⟩ := List.getElem?_eq_some_iff.1 h1
  rw [h _ h2, h3]

structure V.wf (v : V) : Prop where
  kind : (Lit.int .i8 v.k).wf = true
  num : (Lit.int .i64 v.n).wf = true
  text : v.s.size ≤ maxLen
structure T.wf (t : T) : Prop where
  text : t.v.size ≤ maxLen
  val : t.a.wf
structure P.wf (p : P) : Prop where
  text : p.v.size ≤ maxLen
  term : p.t.wf
theorem V0.ok : V0.wf := ⟨by decide, by decide, by decide⟩
theorem T0.ok : T0.wf := ⟨by decide, V0.ok⟩
def atT (l : List T) (i : Nat) : T := l.getD i T0
def P0 : P := ⟨noS, T0⟩
def atP (l : List P) (i : Nat) : P := l.getD i P0
def atV (l : List V) (i : Nat) : V := l.getD i V0
theorem atT_eq {l : List T} {i : Nat} (h : i < l.length) : atT l i = l[i] := by simp [atT, List.getD, List.getElem?_eq_getElem h]
theorem atP_eq {l : List P} {i : Nat} (h : i < l.length) : atP l i = l[i] := by simp [atP, List.getD, List.getElem?_eq_getElem h]
theorem atV_eq {l : List V} {i : Nat} (h : i < l.length) : atV l i = l[i] := by simp [atV, List.getD, List.getElem?_eq_getElem h]

/-- a list of terms in memory -/
structure Lt (w : World) (v : Value) (l : List T) : Prop where
  lies : Ls w v l.length (l.flatMap T.cells)
  wf : ∀ t ∈ l, t.wf
structure Lp (w : World) (v : Value) (l : List P) : Prop where
  lies : Ls w v l.length (l.flatMap P.cells)
  wf : ∀ t ∈ l, t.wf
structure Lv (w : World) (v : Value) (l : List V) : Prop where
  lies : Ls w v l.length (l.flatMap V.cells)
  wf : ∀ t ∈ l, t.wf
theorem Lt.below {w w' : World} {v : Value} {l : List T} (h : Lt w v l) (b : Below w.heap.size w w') : Lt w' v l := ⟨h.lies.below b, h.wf⟩
theorem Lp.below {w w' : World} {v : Value} {l : List P} (h : Lp w v l) (b : Below w.heap.size w w') : Lp w' v l := ⟨h.lies.below b, h.wf⟩
theorem Lv.below {w w' : World} {v : Value} {l : List V} (h : Lv w v l) (b : Below w.heap.size w w') : Lv w' v l := ⟨h.lies.below b, h.wf⟩

/-- a term's four cells, at a place -/
structure TAt (w : World) (g o : Nat) (t : T) : Prop where
  c0 : w.cell? ⟨g, o, none⟩ = some (.string t.v)
  c1 : w.cell? ⟨g, o + 1, none⟩ = some (.int .i8 t.a.k)
  c2 : w.cell? ⟨g, o + 2, none⟩ = some (.int .i64 t.a.n)
  c3 : w.cell? ⟨g, o + 3, none⟩ = some (.string t.a.s)
structure PAt (w : World) (g o : Nat) (p : P) : Prop where
  c0 : w.cell? ⟨g, o, none⟩ = some (.string p.v)
  c1 : w.cell? ⟨g, o + 1, none⟩ = some (.string p.t.v)
  c2 : w.cell? ⟨g, o + 2, none⟩ = some (.int .i8 p.t.a.k)
  c3 : w.cell? ⟨g, o + 3, none⟩ = some (.int .i64 p.t.a.n)
  c4 : w.cell? ⟨g, o + 4, none⟩ = some (.string p.t.a.s)
structure VAt (w : World) (g o : Nat) (v : V) : Prop where
  c0 : w.cell? ⟨g, o, none⟩ = some (.int .i8 v.k)
  c1 : w.cell? ⟨g, o + 1, none⟩ = some (.int .i64 v.n)
  c2 : w.cell? ⟨g, o + 2, none⟩ = some (.string v.s)
theorem Lt.form {w : World} {v : Value} {l : List T} (h : Lt w v l) : ∃ a c, v = .slice a l.length c ∧ l.length ≤ c ∧ c ≤ maxLen ∧ (0 < l.length → ∃ g off, a = some ⟨g, off, none⟩ ∧ g < w.heap.size ∧ ∀ i, i < l.length → TAt w g (off + i * 4) (atT l i)) := by
  obtain ⟨hn, a, c, hv, h1, h2, hc⟩ := h.lies
  refine ⟨a, c, hv, h1, h2, fun h0 => ?_⟩
  obtain ⟨g, off, ha, hg, hf⟩ := hc h0
  refine ⟨g, off, ha, hg, fun i hi => ⟨?_, ?_, ?_, ?_⟩⟩
  · have := hf.elem (k := 4) (fun _ => rfl) T0 hi (j := 0) (by omega) rfl; rw [← Nat.add_assoc] at this; exact this
  · have := hf.elem (k := 4) (fun _ => rfl) T0 hi (j := 1) (by omega) rfl; rw [← Nat.add_assoc] at this; exact this
  · have := hf.elem (k := 4) (fun _ => rfl) T0 hi (j := 2) (by omega) rfl; rw [← Nat.add_assoc] at this; exact this
  · have := hf.elem (k := 4) (fun _ => rfl) T0 hi (j := 3) (by omega) rfl; rw [← Nat.add_assoc] at this; exact this
theorem Lp.form {w : World} {v : Value} {l : List P} (h : Lp w v l) : ∃ a c, v = .slice a l.length c ∧ l.length ≤ c ∧ c ≤ maxLen ∧ (0 < l.length → ∃ g off, a = some ⟨g, off, none⟩ ∧ g < w.heap.size ∧ ∀ i, i < l.length → PAt w g (off + i * 5) (atP l i)) := by
  obtain ⟨hn, a, c, hv, h1, h2, hc⟩ := h.lies
  refine ⟨a, c, hv, h1, h2, fun h0 => ?_⟩
  obtain ⟨g, off, ha, hg, hf⟩ := hc h0
  refine ⟨g, off, ha, hg, fun i hi => ⟨?_, ?_, ?_, ?_, ?_⟩⟩
  · have := hf.elem (k := 5) (fun _ => rfl) P0 hi (j := 0) (by omega) rfl; rw [← Nat.add_assoc] at this; exact this
  · have := hf.elem (k := 5) (fun _ => rfl) P0 hi (j := 1) (by omega) rfl; rw [← Nat.add_assoc] at this; exact this
  · have := hf.elem (k := 5) (fun _ => rfl) P0 hi (j := 2) (by omega) rfl; rw [← Nat.add_assoc] at this; exact this
  · have := hf.elem (k := 5) (fun _ => rfl) P0 hi (j := 3) (by omega) rfl; rw [← Nat.add_assoc] at this; exact this
  · have := hf.elem (k := 5) (fun _ => rfl) P0 hi (j := 4) (by omega) rfl; rw [← Nat.add_assoc] at this; exact this
theorem Lv.form {w : World} {v : Value} {l : List V} (h : Lv w v l) : ∃ a c, v = .slice a l.length c ∧ l.length ≤ c ∧ c ≤ maxLen ∧ (0 < l.length → ∃ g off, a = some ⟨g, off, none⟩ ∧ g < w.heap.size ∧ ∀ i, i < l.length → VAt w g (off + i * 3) (atV l i)) := by
  obtain ⟨hn, a, c, hv, h1, h2, hc⟩ := h.lies
  refine ⟨a, c, hv, h1, h2, fun h0 => ?_⟩
  obtain ⟨g, off, ha, hg, hf⟩ := hc h0
  refine ⟨g, off, ha, hg, fun i hi => ⟨?_, ?_, ?_⟩⟩
  · have := hf.elem (k := 3) (fun _ => rfl) V0 hi (j := 0) (by omega) rfl; rw [← Nat.add_assoc] at this; exact this
  · have := hf.elem (k := 3) (fun _ => rfl) V0 hi (j := 1) (by omega) rfl; rw [← Nat.add_assoc] at this; exact this
  · have := hf.elem (k := 3) (fun _ => rfl) V0 hi (j := 2) (by omega) rfl; rw [← Nat.add_assoc] at this; exact this

/-- a row of the call's own, read as a list -/
theorem ls_own {w : World} {base : Nat} {e : TypeId} {k : Nat} {sv : Value} {n : Nat} {xs : List Value} (h : w.ownsRow base e k sv n xs) : Ls w sv n xs := by
  obtain ⟨hl, ⟨rfl, rfl⟩ | ⟨g, cap, cur, rfl, _, hb, hn, hc, hs, ht⟩⟩ := h
  · exact ⟨Nat.zero_le _, none, 0, rfl, Nat.le_refl _, Nat.zero_le _, fun h => absurd h (by omega)⟩
  · refine ⟨Nat.le_trans hn hc, _, cap, rfl, hn, hc, fun _ => ⟨g, 0, rfl, ?_, fun i hi => ?_⟩⟩
    · exact Array.getElem?_eq_some_iff.1 hb |>.1
    have h2 : i < n * k := by rw [← hl]; exact hi
    have h3 : cur[i]? = some xs[i] := by
      obtain ⟨u, h1⟩ : ∃ u, xs[i]? = some u := ⟨_, List.getElem?_eq_getElem hi⟩
      have h4 : xs[i] = u := Option.some.inj ((List.getElem?_eq_getElem hi).symm.trans h1)
      rw [h4]
      rw [← ht, List.getElem?_take, if_pos h2] at h1
      simpa using h1
    unfold World.cell?
    simp only [hb, Nat.zero_add]
    exact h3
theorem own_of_block {w w' : World} {base : Nat} {e : TypeId} {k : Nat} {sv : Value} {n : Nat} {xs : List Value} (h : w.ownsRow base e k sv n xs) (hg : ∀ g, sv.ownBlock = some g → w'.heap[g]? = w.heap[g]?) : w'.ownsRow base e k sv n xs := by
  obtain ⟨hl, h1 | ⟨g, cap, cur, rfl, h0, hb, r⟩⟩ := h
  · exact ⟨hl, .inl h1⟩
  · exact ⟨hl, .inr ⟨g, cap, cur, rfl, h0, (hg g rfl).trans hb, r⟩⟩
theorem own_below {w w' : World} {base : Nat} {e : TypeId} {k : Nat} {sv : Value} {n : Nat} {xs : List Value} (h : w.ownsRow base e k sv n xs) (hb : Below w.heap.size w w') : w'.ownsRow base e k sv n xs :=
  own_of_block h (fun g hg => hb.block g (h.lt g hg).2)
end Go.Proofs.YtoppgalbmijhdaaDoor
