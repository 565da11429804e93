import Derived.Test.YtoppgalbmijhdaaDoorTermVar
namespace Go.Proofs.YtoppgalbmijhdaaDoor
open Go.RowKit
set_option linter.unusedVariables false

/-- a value: its kind, its number, its text -/
structure V where
  k : Int
  n : Int
  s : ByteArray
deriving DecidableEq
/-- a term: its variable, its value -/
structure T where
  v : ByteArray
  a : V
deriving DecidableEq
/-- a pair: a variable, and the term that takes its place -/
structure P where
  v : ByteArray
  t : T
deriving DecidableEq

def noS : ByteArray := ⟨#[]⟩
def blankS : ByteArray := ⟨#[95]⟩
def V0 : V := ⟨0, 0, noS⟩
def T0 : T := ⟨noS, V0⟩
def V.val (v : V) : Value := .agg #[.int .i8 v.k, .int .i64 v.n, .string v.s]
def T.val (t : T) : Value := .agg #[.string t.v, .int .i8 t.a.k, .int .i64 t.a.n, .string t.a.s]
def P.val (p : P) : Value := .agg #[.string p.v, .string p.t.v, .int .i8 p.t.a.k, .int .i64 p.t.a.n, .string p.t.a.s]
def V.cells (v : V) : List Value := [.int .i8 v.k, .int .i64 v.n, .string v.s]
def T.cells (t : T) : List Value := [.string t.v, .int .i8 t.a.k, .int .i64 t.a.n, .string t.a.s]
def P.cells (p : P) : List Value := [.string p.v, .string p.t.v, .int .i8 p.t.a.k, .int .i64 p.t.a.n, .string p.t.a.s]

theorem toList_inj {a b : ByteArray} (h : a.toList = b.toList) : a = b := by
  rw [ByteArray.toList_eq, ByteArray.toList_eq] at h
  cases a; cases b
  simpa using congrArg List.toArray h
theorem noS_iff (s : ByteArray) : s.toList = [] ↔ s = noS := by
  constructor
  · intro h; apply toList_inj; rw [h, ByteArray.toList_eq]; rfl
  · rintro rfl; rw [ByteArray.toList_eq]; rfl

def chkV (v : V) : Int := chk v.k v.n v.s
def okV (v : V) : Bool := chkV v == 0
/-- is it a term as it may be? -/
def termB (t : T) : Bool := if t.v = noS then okV t.a else decide (t.a = V0) && (decide (t.v = blankS) || varB t.v)
def atomB (pred : ByteArray) (l : List T) : Bool := nameB pred && decide (l.length ≤ 24) && l.all termB

/-- what stands for a term under pairs -/
def res (s : List P) (t : T) : T := match s.find? (fun p => decide (p.v = t.v)) with | some p => p.t | none => t
def bindP (s : List P) (n : ByteArray) (t : T) : List P := s.map (fun p => if p.t.v = n then ⟨p.v, t⟩ else p) ++ [⟨n, t⟩]
def uni : List P → List T → List T → Option (List P)
  | s, x :: xs, y :: ys =>
    if x.v = blankS ∨ y.v = blankS then uni s xs ys
    else if res s x = res s y then uni s xs ys
    else if (res s x).v ≠ noS then uni (bindP s (res s x).v (res s y)) xs ys
    else if (res s y).v ≠ noS then uni (bindP s (res s y).v (res s x)) xs ys
    else none
  | s, _, _ => some s

/-- the value of a term under an assignment -/
def ev (σ : ByteArray → V) (t : T) : V := if t.v = noS then t.a else σ t.v
def Inv (σ : ByteArray → V) (s : List P) : Prop := ∀ p ∈ s, p.v ≠ noS ∧ σ p.v = ev σ p.t
theorem ev_res {σ : ByteArray → V} {s : List P} (h : Inv σ s) (t : T) : ev σ (res s t) = ev σ t := by
  unfold res
  cases hf : s.find? (fun p => decide (p.v = t.v)) with
  | none => rfl
  | some p =>
    have hm := List.mem_of_find?_eq_some hf
    have hp : p.v = t.v := by simpa using List.find?_some hf
    obtain ⟨h1, h2⟩ := h p hm
    show ev σ p.t = ev σ t
    rw [← h2, hp]
    unfold ev
    rw [if_neg (by rw [← hp]; exact h1)]
theorem inv_bind {σ : ByteArray → V} {s : List P} (h : Inv σ s) {n : ByteArray} {t : T} (hn : n ≠ noS) (he : σ n = ev σ t) : Inv σ (bindP s n t) := by
  intro p hp
  unfold bindP at hp
  rw [List.mem_append] at hp
  rcases hp with hp | hp
  · obtain ⟨q, hq, rfl⟩ := List.mem_map.1 hp
    obtain ⟨h1, h2⟩ := h q hq
    by_cases e : q.t.v = n
    · rw [if_pos e]
      refine ⟨h1, ?_⟩
      show σ q.v = ev σ t
      rw [h2, ← he]
      unfold ev
      rw [if_neg (by rw [e]; exact hn), e]
    · rw [if_neg e]; exact ⟨h1, h2⟩
  · obtain rfl := List.mem_singleton.1 hp
    exact ⟨hn, he⟩
/-- a most general one -/
theorem uni_most {σ : ByteArray → V} : ∀ (xs ys : List T) (s : List P), Inv σ s → (∀ p ∈ xs.zip ys, p.1.v = blankS ∨ p.2.v = blankS ∨ ev σ p.1 = ev σ p.2) → ∃ s', uni s xs ys = some s' ∧ Inv σ s'
  | [], _, s, h, _ => ⟨s, by simp [uni], h⟩
  | _ :: _, [], s, h, _ => ⟨s, by simp [uni], h⟩
  | x :: xs, y :: ys, s, h, hc => by
    have hr : ∀ p ∈ xs.zip ys, p.1.v = blankS ∨ p.2.v = blankS ∨ ev σ p.1 = ev σ p.2 := fun p hp => hc p (by simp [hp])
    have h0 := hc (x, y) (by simp)
    unfold uni
    by_cases hb : x.v = blankS ∨ y.v = blankS
    · rw [if_pos hb]; exact uni_most xs ys s h hr
    · rw [if_neg hb]
      have he : ev σ (res s x) = ev σ (res s y) := by
        rw [ev_res h, ev_res h]
        rcases h0 with h0 | h0 | h0
        · exact absurd (.inl h0) hb
        · exact absurd (.inr h0) hb
        · exact h0
      by_cases e : res s x = res s y
      · rw [if_pos e]; exact uni_most xs ys s h hr
      · rw [if_neg e]
        by_cases hx : (res s x).v ≠ noS
        · rw [if_pos hx]
          refine uni_most xs ys _ (inv_bind h hx ?_) hr
          rw [← he]; unfold ev; rw [if_neg hx]
        · rw [if_neg hx]
          by_cases hy : (res s y).v ≠ noS
          · rw [if_pos hy]
            refine uni_most xs ys _ (inv_bind h hy ?_) hr
            rw [he]; unfold ev; rw [if_neg hy]
          · exfalso
            have hx' : (res s x).v = noS := Decidable.not_not.1 hx
            have hy' : (res s y).v = noS := Decidable.not_not.1 hy
            apply e
            unfold ev at he
            rw [if_pos hx', if_pos hy'] at he
            generalize res s x = a at he hx'
            generalize res s y = b at he hy'
            cases a; cases b
            simp_all

/-- pairs of Unify: no variable is no variable, no term is a blank -/
def G (s : List P) : Prop := ∀ p ∈ s, p.v ≠ noS ∧ p.v ≠ blankS ∧ p.t.v ≠ blankS
def putT (s : List P) (t : T) : T := if t.v = noS ∨ t.v = blankS then t else res s t
theorem put_res {s : List P} (h : G s) (t : T) : putT s t = res s t := by
  unfold putT
  by_cases e : t.v = noS ∨ t.v = blankS
  · rw [if_pos e]
    unfold res
    cases hf : s.find? (fun p => decide (p.v = t.v)) with
    | none => rfl
    | some p =>
      exfalso
      have hm := List.mem_of_find?_eq_some hf
      have hp : p.v = t.v := by simpa using List.find?_some hf
      obtain ⟨h1, h2, _⟩ := h p hm
      rcases e with e | e
      · exact h1 (hp.trans e)
      · exact h2 (hp.trans e)
  · rw [if_neg e]
theorem res_blank {s : List P} (h : G s) (t : T) : (res s t).v = blankS ↔ t.v = blankS := by
  unfold res
  cases hf : s.find? (fun p => decide (p.v = t.v)) with
  | none => exact Iff.rfl
  | some p =>
    have hm := List.mem_of_find?_eq_some hf
    have hp : p.v = t.v := by simpa using List.find?_some hf
    obtain ⟨h1, h2, h3⟩ := h p hm
    constructor
    · intro e; exact absurd e h3
    · intro e; exact absurd (hp.trans e) h2
theorem G_bind {s : List P} (h : G s) {n : ByteArray} {t : T} (hn : n ≠ noS) (hb : n ≠ blankS) (ht : t.v ≠ blankS) : G (bindP s n t) := by
  intro p hp
  unfold bindP at hp
  rw [List.mem_append] at hp
  rcases hp with hp | hp
  · obtain ⟨q, hq, rfl⟩ := List.mem_map.1 hp
    obtain ⟨h1, h2, h3⟩ := h q hq
    by_cases e : q.t.v = n
    · rw [if_pos e]; exact ⟨h1, h2, ht⟩
    · rw [if_neg e]; exact ⟨h1, h2, h3⟩
  · obtain rfl := List.mem_singleton.1 hp
    exact ⟨hn, hb, ht⟩
theorem bind_length (s : List P) (n : ByteArray) (t : T) : (bindP s n t).length = s.length + 1 := by simp [bindP]
theorem uni_blank {s : List P} {x y : T} {xs ys : List T} (h : x.v = blankS ∨ y.v = blankS) : uni s (x :: xs) (y :: ys) = uni s xs ys := by rw [uni, if_pos h]
theorem uni_same {s : List P} {x y : T} {xs ys : List T} (h : res s x = res s y) : uni s (x :: xs) (y :: ys) = uni s xs ys := by
  rw [uni, if_pos h]; split <;> rfl
theorem uni_left {s : List P} {x y : T} {xs ys : List T} (h : ¬ (x.v = blankS ∨ y.v = blankS)) (h1 : ¬ res s x = res s y) (h2 : (res s x).v ≠ noS) : uni s (x :: xs) (y :: ys) = uni (bindP s (res s x).v (res s y)) xs ys := by
  rw [uni, if_neg h, if_neg h1, if_pos h2]
theorem uni_right {s : List P} {x y : T} {xs ys : List T} (h : ¬ (x.v = blankS ∨ y.v = blankS)) (h1 : ¬ res s x = res s y) (h2 : (res s x).v = noS) (h3 : (res s y).v ≠ noS) : uni s (x :: xs) (y :: ys) = uni (bindP s (res s y).v (res s x)) xs ys := by
  rw [uni, if_neg h, if_neg h1, if_neg (fun c => c h2), if_pos h3]
theorem uni_none {s : List P} {x y : T} {xs ys : List T} (h : ¬ (x.v = blankS ∨ y.v = blankS)) (h1 : ¬ res s x = res s y) (h2 : (res s x).v = noS) (h3 : (res s y).v = noS) : uni s (x :: xs) (y :: ys) = none := by
  rw [uni, if_neg h, if_neg h1, if_neg (fun c => c h2), if_neg (fun c => c h3)]
end Go.Proofs.YtoppgalbmijhdaaDoor
