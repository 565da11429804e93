import Derived.Test.YtoppgalbmijhdaaGreatDoorName
import Derived.Deep.OwnRows
import Derived.Deep.QuietTactic
import Derived.BigQuiet
import Derived.Maps.AppendAt
import Derived.OwnWalk
import Derived.Deep.RegionLaw
import Derived.Laws.OwnMore
import Derived.Laws.BytesString
import Derived.Laws.Cells
import Derived.Lib.UnsafeStr
section
namespace Go.Proofs.YtoppgalbmijhdaaGreatDoor
open Go.RowKit
set_option linter.unusedVariables false
attribute [local go_sem ↓] Go.wp_at_zero Go.wp_at_succ

/-- a word: its first byte from lo to hi, letters, digits and _ behind it, at most 120 bytes -/
def wordB (lo hi : Int) (s : ByteArray) : Bool := decide (s.size ≠ 0) && decide (s.size ≤ 120) && decide (lo ≤ byteAt s 0 ∧ byteAt s 0 ≤ hi) && lettersB s s.size
def varB (s : ByteArray) : Bool := wordB 65 90 s
theorem nameB_word (s : ByteArray) : nameB s = (wordB 97 122 s && !kwB s) := by
  unfold nameB wordB smallB
  cases decide (s.size ≠ 0) <;> cases decide (s.size ≤ 120) <;> cases decide (97 ≤ byteAt s 0 ∧ byteAt s 0 ≤ 122) <;> cases kwB s <;> cases lettersB s s.size <;> rfl

end Go.Proofs.YtoppgalbmijhdaaGreatDoor
end
section
namespace Go.Proofs.YtoppgalbmijhdaaGreatDoor
open Go.RowKit
set_option linter.unusedVariables false

/-- a value: its kind, its number, its text -/
structure V where
  k : Int
  n : Int
  s : ByteArray
deriving DecidableEq
/-- a term: its variable, its value -/
structure T where
  v : ByteArray
  a : V
deriving DecidableEq
/-- a pair: a variable, and the term that takes its place -/
structure P where
  v : ByteArray
  t : T
deriving DecidableEq

def noS : ByteArray := ⟨#[]⟩
def blankS : ByteArray := ⟨#[95]⟩
def V0 : V := ⟨0, 0, noS⟩
def T0 : T := ⟨noS, V0⟩
def V.val (v : V) : Value := .agg #[.int .i8 v.k, .int .i64 v.n, .string v.s]
def T.val (t : T) : Value := .agg #[.string t.v, .int .i8 t.a.k, .int .i64 t.a.n, .string t.a.s]
def P.val (p : P) : Value := .agg #[.string p.v, .string p.t.v, .int .i8 p.t.a.k, .int .i64 p.t.a.n, .string p.t.a.s]
def V.cells (v : V) : List Value := [.int .i8 v.k, .int .i64 v.n, .string v.s]
def T.cells (t : T) : List Value := [.string t.v, .int .i8 t.a.k, .int .i64 t.a.n, .string t.a.s]
def P.cells (p : P) : List Value := [.string p.v, .string p.t.v, .int .i8 p.t.a.k, .int .i64 p.t.a.n, .string p.t.a.s]

theorem toList_inj {a b : ByteArray} (h : a.toList = b.toList) : a = b := by
  rw [ByteArray.toList_eq, ByteArray.toList_eq] at h
  cases a; cases b
  simpa using congrArg List.toArray h
theorem noS_iff (s : ByteArray) : s.toList = [] ↔ s = noS := by
  constructor
  · intro h; apply toList_inj; rw [h, ByteArray.toList_eq]; rfl
  · rintro rfl; rw [ByteArray.toList_eq]; rfl

def chkV (v : V) : Int := chk v.k v.n v.s
def okV (v : V) : Bool := chkV v == 0
/-- is it a term as it may be? -/
def termB (t : T) : Bool := if t.v = noS then okV t.a else decide (t.a = V0) && (decide (t.v = blankS) || varB t.v)
def atomB (pred : ByteArray) (l : List T) : Bool := nameB pred && decide (l.length ≤ 24) && l.all termB

/-- what stands for a term under pairs -/
def res (s : List P) (t : T) : T := match s.find? (fun p => decide (p.v = t.v)) with | some p => p.t | none => t
def bindP (s : List P) (n : ByteArray) (t : T) : List P := s.map (fun p => if p.t.v = n then ⟨p.v, t⟩ else p) ++ [⟨n, t⟩]
def uni : List P → List T → List T → Option (List P)
  | s, x :: xs, y :: ys =>
    if x.v = blankS ∨ y.v = blankS then uni s xs ys
    else if res s x = res s y then uni s xs ys
    else if (res s x).v ≠ noS then uni (bindP s (res s x).v (res s y)) xs ys
    else if (res s y).v ≠ noS then uni (bindP s (res s y).v (res s x)) xs ys
    else none
  | s, _, _ => some s

/-- the value of a term under an assignment -/
def ev (σ : ByteArray → V) (t : T) : V := if t.v = noS then t.a else σ t.v
def Inv (σ : ByteArray → V) (s : List P) : Prop := ∀ p ∈ s, p.v ≠ noS ∧ σ p.v = ev σ p.t
theorem ev_res {σ : ByteArray → V} {s : List P} (h : Inv σ s) (t : T) : ev σ (res s t) = ev σ t := by
  unfold res
  cases hf : s.find? (fun p => decide (p.v = t.v)) with
  | none => rfl
  | some p =>
    have hm := List.mem_of_find?_eq_some hf
    have hp : p.v = t.v := by simpa using List.find?_some hf
    obtain ⟨h1, h2⟩ := h p hm
    show ev σ p.t = ev σ t
    rw [← h2, hp]
    unfold ev
    rw [if_neg (by rw [← hp]; exact h1)]
theorem inv_bind {σ : ByteArray → V} {s : List P} (h : Inv σ s) {n : ByteArray} {t : T} (hn : n ≠ noS) (he : σ n = ev σ t) : Inv σ (bindP s n t) := by
  intro p hp
  unfold bindP at hp
  rw [List.mem_append] at hp
  rcases hp with hp | hp
  · obtain ⟨q, hq, rfl⟩ := List.mem_map.1 hp
    obtain ⟨h1, h2⟩ := h q hq
    by_cases e : q.t.v = n
    · rw [if_pos e]
      refine ⟨h1, ?_⟩
      show σ q.v = ev σ t
      rw [h2, ← he]
      unfold ev
      rw [if_neg (by rw [e]; exact hn), e]
    · rw [if_neg e]; exact ⟨h1, h2⟩
  · obtain rfl := List.mem_singleton.1 hp
    exact ⟨hn, he⟩
/-- a most general one -/
theorem uni_most {σ : ByteArray → V} : ∀ (xs ys : List T) (s : List P), Inv σ s → (∀ p ∈ xs.zip ys, p.1.v = blankS ∨ p.2.v = blankS ∨ ev σ p.1 = ev σ p.2) → ∃ s', uni s xs ys = some s' ∧ Inv σ s'
  | [], _, s, h, _ => ⟨s, by simp [uni], h⟩
  | _ :: _, [], s, h, _ => ⟨s, by simp [uni], h⟩
  | x :: xs, y :: ys, s, h, hc => by
    have hr : ∀ p ∈ xs.zip ys, p.1.v = blankS ∨ p.2.v = blankS ∨ ev σ p.1 = ev σ p.2 := fun p hp => hc p (by simp [hp])
    have h0 := hc (x, y) (by simp)
    unfold uni
    by_cases hb : x.v = blankS ∨ y.v = blankS
    · rw [if_pos hb]; exact uni_most xs ys s h hr
    · rw [if_neg hb]
      have he : ev σ (res s x) = ev σ (res s y) := by
        rw [ev_res h, ev_res h]
        rcases h0 with h0 | h0 | h0
        · exact absurd (.inl h0) hb
        · exact absurd (.inr h0) hb
        · exact h0
      by_cases e : res s x = res s y
      · rw [if_pos e]; exact uni_most xs ys s h hr
      · rw [if_neg e]
        by_cases hx : (res s x).v ≠ noS
        · rw [if_pos hx]
          refine uni_most xs ys _ (inv_bind h hx ?_) hr
          rw [← he]; unfold ev; rw [if_neg hx]
        · rw [if_neg hx]
          by_cases hy : (res s y).v ≠ noS
          · rw [if_pos hy]
            refine uni_most xs ys _ (inv_bind h hy ?_) hr
            rw [he]; unfold ev; rw [if_neg hy]
          · exfalso
            have hx' : (res s x).v = noS := Decidable.not_not.1 hx
            have hy' : (res s y).v = noS := Decidable.not_not.1 hy
            apply e
            unfold ev at he
            rw [if_pos hx', if_pos hy'] at he
            generalize res s x = a at he hx'
            generalize res s y = b at he hy'
            cases a; cases b
            simp_all

/-- pairs of Unify: no variable is no variable, no term is a blank -/
def G (s : List P) : Prop := ∀ p ∈ s, p.v ≠ noS ∧ p.v ≠ blankS ∧ p.t.v ≠ blankS
def putT (s : List P) (t : T) : T := if t.v = noS ∨ t.v = blankS then t else res s t
theorem put_res {s : List P} (h : G s) (t : T) : putT s t = res s t := by
  unfold putT
  by_cases e : t.v = noS ∨ t.v = blankS
  · rw [if_pos e]
    unfold res
    cases hf : s.find? (fun p => decide (p.v = t.v)) with
    | none => rfl
    | some p =>
      exfalso
      have hm := List.mem_of_find?_eq_some hf
      have hp : p.v = t.v := by simpa using List.find?_some hf
      obtain ⟨h1, h2, _⟩ := h p hm
      rcases e with e | e
      · exact h1 (hp.trans e)
      · exact h2 (hp.trans e)
  · rw [if_neg e]
theorem res_blank {s : List P} (h : G s) (t : T) : (res s t).v = blankS ↔ t.v = blankS := by
  unfold res
  cases hf : s.find? (fun p => decide (p.v = t.v)) with
  | none => exact Iff.rfl
  | some p =>
    have hm := List.mem_of_find?_eq_some hf
    have hp : p.v = t.v := by simpa using List.find?_some hf
    obtain ⟨h1, h2, h3⟩ := h p hm
    constructor
    · intro e; exact absurd e h3
    · intro e; exact absurd (hp.trans e) h2
theorem G_bind {s : List P} (h : G s) {n : ByteArray} {t : T} (hn : n ≠ noS) (hb : n ≠ blankS) (ht : t.v ≠ blankS) : G (bindP s n t) := by
  intro p hp
  unfold bindP at hp
  rw [List.mem_append] at hp
  rcases hp with hp | hp
  · obtain ⟨q, hq, rfl⟩ := List.mem_map.1 hp
    obtain ⟨h1, h2, h3⟩ := h q hq
    by_cases e : q.t.v = n
    · rw [if_pos e]; exact ⟨h1, h2, ht⟩
    · rw [if_neg e]; exact ⟨h1, h2, h3⟩
  · obtain rfl := List.mem_singleton.1 hp
    exact ⟨hn, hb, ht⟩
theorem bind_length (s : List P) (n : ByteArray) (t : T) : (bindP s n t).length = s.length + 1 := by simp [bindP]
theorem uni_blank {s : List P} {x y : T} {xs ys : List T} (h : x.v = blankS ∨ y.v = blankS) : uni s (x :: xs) (y :: ys) = uni s xs ys := by rw [uni, if_pos h]
theorem uni_same {s : List P} {x y : T} {xs ys : List T} (h : res s x = res s y) : uni s (x :: xs) (y :: ys) = uni s xs ys := by
  rw [uni, if_pos h]; split <;> rfl
theorem uni_left {s : List P} {x y : T} {xs ys : List T} (h : ¬ (x.v = blankS ∨ y.v = blankS)) (h1 : ¬ res s x = res s y) (h2 : (res s x).v ≠ noS) : uni s (x :: xs) (y :: ys) = uni (bindP s (res s x).v (res s y)) xs ys := by
  rw [uni, if_neg h, if_neg h1, if_pos h2]
theorem uni_right {s : List P} {x y : T} {xs ys : List T} (h : ¬ (x.v = blankS ∨ y.v = blankS)) (h1 : ¬ res s x = res s y) (h2 : (res s x).v = noS) (h3 : (res s y).v ≠ noS) : uni s (x :: xs) (y :: ys) = uni (bindP s (res s y).v (res s x)) xs ys := by
  rw [uni, if_neg h, if_neg h1, if_neg (fun c => c h2), if_pos h3]
theorem uni_none {s : List P} {x y : T} {xs ys : List T} (h : ¬ (x.v = blankS ∨ y.v = blankS)) (h1 : ¬ res s x = res s y) (h2 : (res s x).v = noS) (h3 : (res s y).v = noS) : uni s (x :: xs) (y :: ys) = none := by
  rw [uni, if_neg h, if_neg h1, if_neg (fun c => c h2), if_neg (fun c => c h3)]
end Go.Proofs.YtoppgalbmijhdaaGreatDoor
end
section
namespace Go.Proofs.YtoppgalbmijhdaaGreatDoor
open Go.RowKit
set_option linter.unusedVariables false
set_option linter.unusedSimpArgs false

/-- cells in memory, from a place on -/
def Flat (w : World) (g off : Nat) (xs : List Value) : Prop := ∀ i (h : i < xs.length), w.cell? ⟨g, off + i, none⟩ = some xs[i]
/-- a list of n elements whose cells are xs -/
def Ls (w : World) (v : Value) (n : Nat) (xs : List Value) : Prop :=
  n ≤ maxLen ∧ ∃ a c, v = .slice a n c ∧ n ≤ c ∧ c ≤ maxLen ∧ (0 < n → ∃ g off, a = some ⟨g, off, none⟩ ∧ g < w.heap.size ∧ Flat w g off xs)
theorem Ls.below {w w' : World} {v : Value} {n : Nat} {xs : List Value} (l : Ls w v n xs) (h : Below w.heap.size w w') : Ls w' v n xs := by
  obtain ⟨hn, a, c, hv, h1, h2, hc⟩ := l
  refine ⟨hn, a, c, hv, h1, h2, fun h0 => ?_⟩
  obtain ⟨g, off, ha, hg, hf⟩ := hc h0
  exact ⟨g, off, ha, Nat.lt_of_lt_of_le hg h.size, fun i hi => by rw [h.cell (p := ⟨g, off + i, none⟩) hg]; exact hf i hi⟩

theorem flat_len {α : Type} (f : α → List Value) (k : Nat) (hk : ∀ x, (f x).length = k) : ∀ l : List α, (l.flatMap f).length = l.length * k
  | [] => by simp
  | x :: r => by rw [List.flatMap_cons, List.length_append, hk, flat_len f k hk r, List.length_cons, Nat.succ_mul]; omega
theorem flat_at {α : Type} (f : α → List Value) (k : Nat) (hk : ∀ x, (f x).length = k) (d : α) : ∀ (l : List α) (i j : Nat), i < l.length → j < k → (l.flatMap f)[i * k + j]? = (f (l.getD i d))[j]?
  | [], i, j, h, _ => absurd h (by simp)
  | x :: r, 0, j, _, hj => by
    rw [List.flatMap_cons, Nat.zero_mul, Nat.zero_add, List.getElem?_append_left (by rw [hk]; exact hj)]
    rfl
  | x :: r, i + 1, j, h, hj => by
    have := flat_at f k hk d r i j (by simpa using h) hj
    rw [List.flatMap_cons, List.getElem?_append_right (by rw [hk, Nat.succ_mul]; omega), hk, show (i + 1) * k + j - k = i * k + j by rw [Nat.succ_mul]; omega, this]
    simp [List.getD]
theorem Flat.elem {w : World} {g off : Nat} {α : Type} {f : α → List Value} {k : Nat} (hk : ∀ x, (f x).length = k) {l : List α} (h : Flat w g off (l.flatMap f)) (d : α) {i j : Nat} (hi : i < l.length) (hj : j < k) {u : Value} (hu : (f (l.getD i d))[j]? = some u) : w.cell? ⟨g, off + (i * k + j), none⟩ = some u := by
  have h1 := flat_at f k hk d l i j hi hj
  rw [hu] at h1
  obtain ⟨h2, h3⟩ := List.getElem?_eq_some_iff.1 h1
  rw [h _ h2, h3]

structure V.wf (v : V) : Prop where
  kind : (Lit.int .i8 v.k).wf = true
  num : (Lit.int .i64 v.n).wf = true
  text : v.s.size ≤ maxLen
structure T.wf (t : T) : Prop where
  text : t.v.size ≤ maxLen
  val : t.a.wf
structure P.wf (p : P) : Prop where
  text : p.v.size ≤ maxLen
  term : p.t.wf
theorem V0.ok : V0.wf := ⟨by decide, by decide, by decide⟩
theorem T0.ok : T0.wf := ⟨by decide, V0.ok⟩
def atT (l : List T) (i : Nat) : T := l.getD i T0
def P0 : P := ⟨noS, T0⟩
def atP (l : List P) (i : Nat) : P := l.getD i P0
def atV (l : List V) (i : Nat) : V := l.getD i V0
theorem atT_eq {l : List T} {i : Nat} (h : i < l.length) : atT l i = l[i] := by simp [atT, List.getD, List.getElem?_eq_getElem h]
theorem atP_eq {l : List P} {i : Nat} (h : i < l.length) : atP l i = l[i] := by simp [atP, List.getD, List.getElem?_eq_getElem h]
theorem atV_eq {l : List V} {i : Nat} (h : i < l.length) : atV l i = l[i] := by simp [atV, List.getD, List.getElem?_eq_getElem h]

/-- a list of terms in memory -/
structure Lt (w : World) (v : Value) (l : List T) : Prop where
  lies : Ls w v l.length (l.flatMap T.cells)
  wf : ∀ t ∈ l, t.wf
structure Lp (w : World) (v : Value) (l : List P) : Prop where
  lies : Ls w v l.length (l.flatMap P.cells)
  wf : ∀ t ∈ l, t.wf
structure Lv (w : World) (v : Value) (l : List V) : Prop where
  lies : Ls w v l.length (l.flatMap V.cells)
  wf : ∀ t ∈ l, t.wf
theorem Lt.below {w w' : World} {v : Value} {l : List T} (h : Lt w v l) (b : Below w.heap.size w w') : Lt w' v l := ⟨h.lies.below b, h.wf⟩
theorem Lp.below {w w' : World} {v : Value} {l : List P} (h : Lp w v l) (b : Below w.heap.size w w') : Lp w' v l := ⟨h.lies.below b, h.wf⟩
theorem Lv.below {w w' : World} {v : Value} {l : List V} (h : Lv w v l) (b : Below w.heap.size w w') : Lv w' v l := ⟨h.lies.below b, h.wf⟩

/-- a term's four cells, at a place -/
structure TAt (w : World) (g o : Nat) (t : T) : Prop where
  c0 : w.cell? ⟨g, o, none⟩ = some (.string t.v)
  c1 : w.cell? ⟨g, o + 1, none⟩ = some (.int .i8 t.a.k)
  c2 : w.cell? ⟨g, o + 2, none⟩ = some (.int .i64 t.a.n)
  c3 : w.cell? ⟨g, o + 3, none⟩ = some (.string t.a.s)
structure PAt (w : World) (g o : Nat) (p : P) : Prop where
  c0 : w.cell? ⟨g, o, none⟩ = some (.string p.v)
  c1 : w.cell? ⟨g, o + 1, none⟩ = some (.string p.t.v)
  c2 : w.cell? ⟨g, o + 2, none⟩ = some (.int .i8 p.t.a.k)
  c3 : w.cell? ⟨g, o + 3, none⟩ = some (.int .i64 p.t.a.n)
  c4 : w.cell? ⟨g, o + 4, none⟩ = some (.string p.t.a.s)
structure VAt (w : World) (g o : Nat) (v : V) : Prop where
  c0 : w.cell? ⟨g, o, none⟩ = some (.int .i8 v.k)
  c1 : w.cell? ⟨g, o + 1, none⟩ = some (.int .i64 v.n)
  c2 : w.cell? ⟨g, o + 2, none⟩ = some (.string v.s)
theorem Lt.form {w : World} {v : Value} {l : List T} (h : Lt w v l) : ∃ a c, v = .slice a l.length c ∧ l.length ≤ c ∧ c ≤ maxLen ∧ (0 < l.length → ∃ g off, a = some ⟨g, off, none⟩ ∧ g < w.heap.size ∧ ∀ i, i < l.length → TAt w g (off + i * 4) (atT l i)) := by
  obtain ⟨hn, a, c, hv, h1, h2, hc⟩ := h.lies
  refine ⟨a, c, hv, h1, h2, fun h0 => ?_⟩
  obtain ⟨g, off, ha, hg, hf⟩ := hc h0
  refine ⟨g, off, ha, hg, fun i hi => ⟨?_, ?_, ?_, ?_⟩⟩
  · have := hf.elem (k := 4) (fun _ => rfl) T0 hi (j := 0) (by omega) rfl; rw [← Nat.add_assoc] at this; exact this
  · have := hf.elem (k := 4) (fun _ => rfl) T0 hi (j := 1) (by omega) rfl; rw [← Nat.add_assoc] at this; exact this
  · have := hf.elem (k := 4) (fun _ => rfl) T0 hi (j := 2) (by omega) rfl; rw [← Nat.add_assoc] at this; exact this
  · have := hf.elem (k := 4) (fun _ => rfl) T0 hi (j := 3) (by omega) rfl; rw [← Nat.add_assoc] at this; exact this
theorem Lp.form {w : World} {v : Value} {l : List P} (h : Lp w v l) : ∃ a c, v = .slice a l.length c ∧ l.length ≤ c ∧ c ≤ maxLen ∧ (0 < l.length → ∃ g off, a = some ⟨g, off, none⟩ ∧ g < w.heap.size ∧ ∀ i, i < l.length → PAt w g (off + i * 5) (atP l i)) := by
  obtain ⟨hn, a, c, hv, h1, h2, hc⟩ := h.lies
  refine ⟨a, c, hv, h1, h2, fun h0 => ?_⟩
  obtain ⟨g, off, ha, hg, hf⟩ := hc h0
  refine ⟨g, off, ha, hg, fun i hi => ⟨?_, ?_, ?_, ?_, ?_⟩⟩
  · have := hf.elem (k := 5) (fun _ => rfl) P0 hi (j := 0) (by omega) rfl; rw [← Nat.add_assoc] at this; exact this
  · have := hf.elem (k := 5) (fun _ => rfl) P0 hi (j := 1) (by omega) rfl; rw [← Nat.add_assoc] at this; exact this
  · have := hf.elem (k := 5) (fun _ => rfl) P0 hi (j := 2) (by omega) rfl; rw [← Nat.add_assoc] at this; exact this
  · have := hf.elem (k := 5) (fun _ => rfl) P0 hi (j := 3) (by omega) rfl; rw [← Nat.add_assoc] at this; exact this
  · have := hf.elem (k := 5) (fun _ => rfl) P0 hi (j := 4) (by omega) rfl; rw [← Nat.add_assoc] at this; exact this
theorem Lv.form {w : World} {v : Value} {l : List V} (h : Lv w v l) : ∃ a c, v = .slice a l.length c ∧ l.length ≤ c ∧ c ≤ maxLen ∧ (0 < l.length → ∃ g off, a = some ⟨g, off, none⟩ ∧ g < w.heap.size ∧ ∀ i, i < l.length → VAt w g (off + i * 3) (atV l i)) := by
  obtain ⟨hn, a, c, hv, h1, h2, hc⟩ := h.lies
  refine ⟨a, c, hv, h1, h2, fun h0 => ?_⟩
  obtain ⟨g, off, ha, hg, hf⟩ := hc h0
  refine ⟨g, off, ha, hg, fun i hi => ⟨?_, ?_, ?_⟩⟩
  · have := hf.elem (k := 3) (fun _ => rfl) V0 hi (j := 0) (by omega) rfl; rw [← Nat.add_assoc] at this; exact this
  · have := hf.elem (k := 3) (fun _ => rfl) V0 hi (j := 1) (by omega) rfl; rw [← Nat.add_assoc] at this; exact this
  · have := hf.elem (k := 3) (fun _ => rfl) V0 hi (j := 2) (by omega) rfl; rw [← Nat.add_assoc] at this; exact this

/-- a row of the call's own, read as a list -/
theorem ls_own {w : World} {base : Nat} {e : TypeId} {k : Nat} {sv : Value} {n : Nat} {xs : List Value} (h : w.ownsRow base e k sv n xs) : Ls w sv n xs := by
  obtain ⟨hl, ⟨rfl, rfl⟩ | ⟨g, cap, cur, rfl, _, hb, hn, hc, hs, ht⟩⟩ := h
  · exact ⟨Nat.zero_le _, none, 0, rfl, Nat.le_refl _, Nat.zero_le _, fun h => absurd h (by omega)⟩
  · refine ⟨Nat.le_trans hn hc, _, cap, rfl, hn, hc, fun _ => ⟨g, 0, rfl, ?_, fun i hi => ?_⟩⟩
    · exact Array.getElem?_eq_some_iff.1 hb |>.1
    have h2 : i < n * k := by rw [← hl]; exact hi
    have h3 : cur[i]? = some xs[i] := by
      obtain ⟨u, h1⟩ : ∃ u, xs[i]? = some u := ⟨_, List.getElem?_eq_getElem hi⟩
      have h4 : xs[i] = u := Option.some.inj ((List.getElem?_eq_getElem hi).symm.trans h1)
      rw [h4]
      rw [← ht, List.getElem?_take, if_pos h2] at h1
      simpa using h1
    unfold World.cell?
    simp only [hb, Nat.zero_add]
    exact h3
theorem own_of_block {w w' : World} {base : Nat} {e : TypeId} {k : Nat} {sv : Value} {n : Nat} {xs : List Value} (h : w.ownsRow base e k sv n xs) (hg : ∀ g, sv.ownBlock = some g → w'.heap[g]? = w.heap[g]?) : w'.ownsRow base e k sv n xs := by
  obtain ⟨hl, h1 | ⟨g, cap, cur, rfl, h0, hb, r⟩⟩ := h
  · exact ⟨hl, .inl h1⟩
  · exact ⟨hl, .inr ⟨g, cap, cur, rfl, h0, (hg g rfl).trans hb, r⟩⟩
theorem own_below {w w' : World} {base : Nat} {e : TypeId} {k : Nat} {sv : Value} {n : Nat} {xs : List Value} (h : w.ownsRow base e k sv n xs) (hb : Below w.heap.size w w') : w'.ownsRow base e k sv n xs :=
  own_of_block h (fun g hg => hb.block g (h.lt g hg).2)
end Go.Proofs.YtoppgalbmijhdaaGreatDoor
end
section
namespace Go.Proofs.YtoppgalbmijhdaaGreatDoor
open Go.RowKit
set_option linter.unusedVariables false
set_option linter.unusedSimpArgs false
attribute [local go_sem ↓] Go.wp_at_zero Go.wp_at_succ

theorem run_eqV (k1 n1 : Int) (s1 : ByteArray) (k2 n2 : Int) (s2 : ByteArray) (w : World) :
    (binOp .eql 55 (.agg #[.int .i8 k1, .int .i64 n1, .string s1]) (.agg #[.int .i8 k2, .int .i64 n2, .string s2])).run Tryz.prog w = .ok (.bool (decide ((⟨k1, n1, s1⟩ : V) = ⟨k2, n2, s2⟩))) w := by
  by_cases hk : k1 = k2
  · by_cases hn : n1 = n2
    · by_cases hs : s1.toList = s2.toList
      · have := toList_inj hs
        subst hk hn this
        go_simp
      · have e : decide ((⟨k1, n1, s1⟩ : V) = ⟨k2, n2, s2⟩) = false := decide_eq_false (fun h => hs (by cases h; rfl))
        rw [e]
        go_simp
    · have e : decide ((⟨k1, n1, s1⟩ : V) = ⟨k2, n2, s2⟩) = false := decide_eq_false (fun h => hn (by cases h; rfl))
      rw [e]
      go_simp
  · have e : decide ((⟨k1, n1, s1⟩ : V) = ⟨k2, n2, s2⟩) = false := decide_eq_false (fun h => hk (by cases h; rfl))
    rw [e]
    go_simp

theorem some_iff (s : ByteArray) (h : s ≠ noS) : s.toList.isEmpty = false := by
  cases e : s.toList with
  | nil => exact absurd ((noS_iff s).1 e) h
  | cons _ _ => rfl
theorem blank_iff {s : ByteArray} (h : s ≠ blankS) : (s.toList == [95]) = false := by
  rw [beq_eq_false_iff_ne]
  intro e
  exact h (toList_inj (by rw [e, ByteArray.toList_eq]; rfl))

def errB (b : Bool) : Int := if b then 0 else 40
end Go.Proofs.YtoppgalbmijhdaaGreatDoor
end
section
namespace Go.Proofs.YtoppgalbmijhdaaGreatDoor
open Go.RowKit Go.Maps
set_option linter.unusedVariables false
set_option linter.unusedSimpArgs false
attribute [local go_sem ↓] Go.wp_at_zero Go.wp_at_succ

theorem lit_news (w : World) (cs : Array Value) (e : TypeId) : ∀ (j : Nat) (u : Value), cs.toList[j]? = some u → (w.alloc (.cells cs e)).cell? ((⟨w.heap.size, 0, none⟩ : Addr).add j) = some u := by
  intro j u h
  have e' : (⟨w.heap.size, 0, none⟩ : Addr).add j = ⟨w.heap.size, j, none⟩ := by rw [WideShapes.add_plain]; simp
  rw [e']
  unfold World.cell?
  simp only [heap_alloc_new]
  simpa using h
theorem step_append_own {P : Program} {ops : Array Oper} {o : Oper} {a : Act} {w : World} {K : Act → World → Prop} {Q : Exit → Act → World → Prop} {E : Prop}
    (hg : o.guard = none) (s x : Operand) (t : TypeId) (hop : o.op = Op.call { callee := Callee.builtin Builtin.append, args := #[s, x], argTypes := #[t, t] })
    (e : TypeId) (i : TypeInfo) (z : Value) (size bytes : Nat) (h1 : P.underlying t = some (.slice e)) (h2 : P.info? e = some i) (h3 : i.zero = some z) (h4 : i.size = size) (h5 : i.bytes = bytes) (h6 : z.cells.size = size) (h7 : 0 < size)
    (base : Nat) (v : Value) (n : Nat) (xs : List Value) (hs : a.eval s = v) (hown : w.ownsRow base e size v n xs)
    (ad : Addr) (m c : Nat) (news : List Value) (hx : a.eval x = .slice (some ad) m c) (hn : news.length = m * size) (hc : ∀ j u, news[j]? = some u → w.cell? (ad.add j) = some u) (h1c : ∀ u ∈ news, u.oneCell' = true)
    (b1 : n + m ≤ maxLen) (b2 : (n + m) * bytes ≤ 140737488355328) (hbase : base ≤ w.heap.size)
    (hK : ∀ v' w', w'.ownsRow base e size v' (n + m) (xs ++ news) → w.grownBy w' v.ownBlock → (v'.ownBlock = v.ownBlock ∨ v'.ownBlock = some w.heap.size) → K (a.put o.dst v') w') :
    if Region.wanted o (yielded ops a.tmps) = true then Oper.wp P o a w K Q else E := by
  have hw : Region.wanted o (yielded ops a.tmps) = true := by simp [Region.wanted, hg]
  rw [if_pos hw]
  obtain ⟨v', w', hrun, r1, r2, _, r3⟩ := run_append_own_at (P := P) w base t o.type e i z size bytes h1 h2 h3 h4 h5 h6 h7 v n xs hown ad m c news hn hc h1c b1 b2 hbase
  unfold Oper.wp
  simp [execOp, hop, resolve, invoke, builtin, hs, hx, hrun, Result.andThen]
  exact hK v' w' r1 r2 r3
theorem own_form {w : World} {base : Nat} {e : TypeId} {k : Nat} {sv : Value} {n : Nat} {xs : List Value} (h : w.ownsRow base e k sv n xs) : ∃ a c, sv = .slice a n c ∧ n ≤ maxLen := by
  obtain ⟨hl, ⟨rfl, rfl⟩ | ⟨g, cap, cur, rfl, _, hb, hn, hc, hs, ht⟩⟩ := h
  · exact ⟨none, 0, rfl, Nat.zero_le _⟩
  · exact ⟨_, cap, rfl, Nat.le_trans hn hc⟩
theorem len_toList (s : ByteArray) : s.data.toList.length = s.size := by rw [Array.length_toList]; rfl

end Go.Proofs.YtoppgalbmijhdaaGreatDoor
end
section
namespace Go.Proofs.YtoppgalbmijhdaaGreatDoor
open Go.RowKit Go.Maps
set_option linter.unusedVariables false
set_option linter.unusedSimpArgs false
attribute [local go_sem ↓] Go.wp_at_zero Go.wp_at_succ

theorem TAt.below {w w' : World} {g o : Nat} {t : T} (h : TAt w g o t) (b : Below w.heap.size w w') (hg : g < w.heap.size) : TAt w' g o t :=
  ⟨by rw [b.cell (p := ⟨g, o, none⟩) hg]; exact h.c0, by rw [b.cell (p := ⟨g, o + 1, none⟩) hg]; exact h.c1, by rw [b.cell (p := ⟨g, o + 2, none⟩) hg]; exact h.c2, by rw [b.cell (p := ⟨g, o + 3, none⟩) hg]; exact h.c3⟩
theorem PAt.below {w w' : World} {g o : Nat} {t : P} (h : PAt w g o t) (b : Below w.heap.size w w') (hg : g < w.heap.size) : PAt w' g o t :=
  ⟨by rw [b.cell (p := ⟨g, o, none⟩) hg]; exact h.c0, by rw [b.cell (p := ⟨g, o + 1, none⟩) hg]; exact h.c1, by rw [b.cell (p := ⟨g, o + 2, none⟩) hg]; exact h.c2, by rw [b.cell (p := ⟨g, o + 3, none⟩) hg]; exact h.c3, by rw [b.cell (p := ⟨g, o + 4, none⟩) hg]; exact h.c4⟩
theorem VAt.below {w w' : World} {g o : Nat} {t : V} (h : VAt w g o t) (b : Below w.heap.size w w') (hg : g < w.heap.size) : VAt w' g o t :=
  ⟨by rw [b.cell (p := ⟨g, o, none⟩) hg]; exact h.c0, by rw [b.cell (p := ⟨g, o + 1, none⟩) hg]; exact h.c1, by rw [b.cell (p := ⟨g, o + 2, none⟩) hg]; exact h.c2⟩
theorem all_take {l : List T} {k : Nat} (h : k < l.length) : (l.take (k + 1)).all termB = ((l.take k).all termB && termB (atT l k)) := by
  have e : l.take (k + 1) = l.take k ++ [l[k]] := by rw [List.take_add_one, List.getElem?_eq_getElem h]; rfl
  rw [e, List.all_append, atT_eq h]
  simp
theorem all_not {l : List T} {k : Nat} (h : k < l.length) (hn : termB (atT l k) = false) : l.all termB = false := by
  rw [← Bool.not_eq_true]
  intro ha
  rw [List.all_eq_true] at ha
  rw [atT_eq h] at hn
  rw [ha _ (List.getElem_mem h)] at hn
  cases hn
theorem atT_wf {l : List T} (h : ∀ t ∈ l, t.wf) (i : Nat) : (atT l i).wf := by
  by_cases hi : i < l.length
  · rw [atT_eq hi]; exact h _ (List.getElem_mem hi)
  · unfold atT
    rw [List.getD, List.getElem?_eq_none (by omega)]
    exact T0.ok

end Go.Proofs.YtoppgalbmijhdaaGreatDoor
end
