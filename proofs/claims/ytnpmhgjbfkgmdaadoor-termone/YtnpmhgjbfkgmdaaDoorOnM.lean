import Derived.Test.YtnpmhgjbfkgmdaaDoorTermIn
namespace Go.Proofs.YtnpmhgjbfkgmdaaDoor
open Go.RowKit
set_option linter.unusedVariables false
set_option linter.unusedSimpArgs false

/-! what Unify finds is solved, and makes the columns one -/
def Tn (t : T) : Prop := t.v ≠ noS → t.a = V0
structure Sv (s : List P) : Prop where
  nk : ∀ p ∈ s, p.v ≠ noS ∧ p.v ≠ blankS
  nt : ∀ p ∈ s, p.t.v ≠ blankS ∧ Tn p.t
  ap : ∀ p ∈ s, ∀ q ∈ s, q.t.v ≠ p.v
  nd : (s.map P.v).Nodup
theorem sv_nil : Sv [] := ⟨by simp, by simp, by simp, by simp⟩
def sub (n : ByteArray) (t u : T) : T := if u.v = n then t else u
theorem res_cases (s : List P) (t : T) : (res s t = t ∧ ∀ p ∈ s, p.v ≠ t.v) ∨ ∃ p ∈ s, p.v = t.v ∧ res s t = p.t := by
  unfold res
  cases hf : s.find? (fun p => decide (p.v = t.v)) with
  | none =>
    refine .inl ⟨rfl, fun p hp => ?_⟩
    have := List.find?_eq_none.1 hf p hp
    simpa using this
  | some p => exact .inr ⟨p, List.mem_of_find?_eq_some hf, by simpa using List.find?_some hf, rfl⟩
theorem res_free {s : List P} (h : Sv s) (t : T) : ∀ p ∈ s, (res s t).v ≠ p.v := fun p hp => by
  rcases res_cases s t with ⟨e, hn⟩ | ⟨q, hq, _, e⟩
  · rw [e]; exact fun x => hn p hp x.symm
  · rw [e]; exact h.ap p hp q hq
theorem res_tn {s : List P} (h : Sv s) {t : T} (ht : Tn t) : Tn (res s t) := by
  rcases res_cases s t with ⟨e, _⟩ | ⟨q, hq, _, e⟩
  · rw [e]; exact ht
  · rw [e]; exact (h.nt q hq).2
theorem res_nb {s : List P} (h : Sv s) {t : T} (ht : t.v ≠ blankS) : (res s t).v ≠ blankS := by
  rcases res_cases s t with ⟨e, _⟩ | ⟨q, hq, _, e⟩
  · rw [e]; exact ht
  · rw [e]; exact (h.nt q hq).1
theorem res_twice {s : List P} (h : Sv s) (t : T) : res s (res s t) = res s t := by
  rcases res_cases s (res s t) with ⟨e, _⟩ | ⟨q, hq, hv, _⟩
  · exact e
  · exact absurd hv.symm (res_free h t q hq)
theorem find_f (n : ByteArray) (t z : T) (s : List P) : (s.map (fun p => if p.t.v = n then (⟨p.v, t⟩ : P) else p)).find? (fun p => decide (p.v = z.v)) = (s.find? (fun p => decide (p.v = z.v))).map (fun p => if p.t.v = n then (⟨p.v, t⟩ : P) else p) := by
  induction s with
  | nil => rfl
  | cons p s ih =>
    have e : (if p.t.v = n then (⟨p.v, t⟩ : P) else p).v = p.v := by split <;> rfl
    rw [List.map_cons, List.find?_cons, List.find?_cons, e, ih]
    by_cases h : p.v = z.v
    · simp [h]
    · simp [h]
theorem res_bind {s : List P} {n : ByteArray} {t z : T} (hn : ∀ p ∈ s, p.v ≠ n) : res (bindP s n t) z = sub n t (res s z) := by
  unfold res bindP
  rw [List.find?_append, find_f]
  cases hf : s.find? (fun p => decide (p.v = z.v)) with
  | none =>
    simp only [Option.map_none, Option.none_or, List.find?_cons, List.find?_nil]
    unfold sub
    by_cases h : n = z.v
    · simp [h]
    · rw [decide_eq_false h, if_neg (fun e => h e.symm)]
  | some p =>
    simp only [Option.map_some, Option.some_or]
    unfold sub
    split <;> rfl
theorem sv_bind {s : List P} (h : Sv s) {n : ByteArray} {t : T} (h0 : n ≠ noS) (h1 : n ≠ blankS) (hn : ∀ p ∈ s, p.v ≠ n) (ht : ∀ p ∈ s, t.v ≠ p.v) (hnt : t.v ≠ n) (hb : t.v ≠ blankS) (htn : Tn t) : Sv (bindP s n t) := by
  have hm : ∀ q ∈ bindP s n t, (q = ⟨n, t⟩) ∨ ∃ p ∈ s, q.v = p.v ∧ ((p.t.v = n ∧ q.t = t) ∨ (p.t.v ≠ n ∧ q.t = p.t)) := fun q hq => by
    unfold bindP at hq
    rcases List.mem_append.1 hq with hq | hq
    · obtain ⟨p, hp, e⟩ := List.mem_map.1 hq
      refine .inr ⟨p, hp, ?_⟩
      by_cases hh : p.t.v = n
      · rw [if_pos hh] at e; subst e; exact ⟨rfl, .inl ⟨hh, rfl⟩⟩
      · rw [if_neg hh] at e; subst e; exact ⟨rfl, .inr ⟨hh, rfl⟩⟩
    · exact .inl (List.mem_singleton.1 hq)
  refine ⟨fun q hq => ?_, fun q hq => ?_, fun q hq r hr => ?_, ?_⟩
  · rcases hm q hq with rfl | ⟨p, hp, e, _⟩
    · exact ⟨h0, h1⟩
    · rw [e]; exact h.nk p hp
  · rcases hm q hq with rfl | ⟨p, hp, e, ⟨_, e2⟩ | ⟨_, e2⟩⟩
    · exact ⟨hb, htn⟩
    · rw [e2]; exact ⟨hb, htn⟩
    · rw [e2]; exact h.nt p hp
  · rcases hm r hr with rfl | ⟨p, hp, e, ⟨_, e2⟩ | ⟨hh, e2⟩⟩
    · rcases hm q hq with rfl | ⟨p', hp', e', _⟩
      · exact hnt
      · rw [e']; exact ht p' hp'
    · rw [e2]
      rcases hm q hq with rfl | ⟨p', hp', e', _⟩
      · exact hnt
      · rw [e']; exact ht p' hp'
    · rw [e2]
      rcases hm q hq with rfl | ⟨p', hp', e', _⟩
      · exact hh
      · rw [e']; exact h.ap p' hp' p hp
  · have e : (bindP s n t).map P.v = s.map P.v ++ [n] := by
      unfold bindP
      rw [List.map_append, List.map_map]
      congr 1
      apply List.map_congr_left
      intro p _
      simp only [Function.comp_apply]
      split <;> rfl
    rw [e, List.nodup_append]
    refine ⟨h.nd, by simp, fun a ha b hb => ?_⟩
    obtain ⟨p, hp, rfl⟩ := List.mem_map.1 ha
    rw [List.mem_singleton.1 hb]
    exact hn p hp
theorem tn_eq {a b : T} (ha : Tn a) (hb : Tn b) (h0 : a.v ≠ noS) (h : b.v = a.v) : a = b := by
  have e1 := ha h0
  have e2 := hb (by rw [h]; exact h0)
  cases a; cases b
  simp_all
theorem uni_sol : ∀ (xs ys : List T) (s s' : List P), Sv s → (∀ t ∈ xs, Tn t) → (∀ t ∈ ys, Tn t) → uni s xs ys = some s' →
    Sv s' ∧ (∀ z u, res s z = res s u → res s' z = res s' u) ∧ ∀ p ∈ xs.zip ys, p.1.v = blankS ∨ p.2.v = blankS ∨ res s' p.1 = res s' p.2
  | [], ys, s, s', h, _, _, e => by
    rw [uni] at e
    · cases e
      exact ⟨h, fun _ _ x => x, by simp⟩
    · intro a b c d e1 e2; cases e1
  | x :: xs, [], s, s', h, _, _, e => by
    rw [uni] at e
    · cases e
      exact ⟨h, fun _ _ x => x, by simp⟩
    · intro a b c d e1 e2; cases e2
  | x :: xs, y :: ys, s, s', h, hx, hy, e => by
    have hx' : ∀ t ∈ xs, Tn t := fun t ht => hx t (by simp [ht])
    have hy' : ∀ t ∈ ys, Tn t := fun t ht => hy t (by simp [ht])
    have hx0 := hx x (by simp)
    have hy0 := hy y (by simp)
    by_cases hb : x.v = blankS ∨ y.v = blankS
    · rw [uni_blank hb] at e
      obtain ⟨a, b, c⟩ := uni_sol xs ys s s' h hx' hy' e
      refine ⟨a, b, fun p hp => ?_⟩
      rw [List.zip_cons_cons] at hp
      rcases List.mem_cons.1 hp with rfl | hp
      · rcases hb with hb | hb
        · exact .inl hb
        · exact .inr (.inl hb)
      · exact c p hp
    · by_cases hs : res s x = res s y
      · rw [uni_same hs] at e
        obtain ⟨a, b, c⟩ := uni_sol xs ys s s' h hx' hy' e
        refine ⟨a, b, fun p hp => ?_⟩
        rw [List.zip_cons_cons] at hp
        rcases List.mem_cons.1 hp with rfl | hp
        · exact .inr (.inr (b _ _ hs))
        · exact c p hp
      · have nbx : (res s x).v ≠ blankS := res_nb h (fun e => hb (.inl e))
        have nby : (res s y).v ≠ blankS := res_nb h (fun e => hb (.inr e))
        have key : ∀ (n : ByteArray) (t : T), (n = (res s x).v ∧ t = res s y ∧ n ≠ noS) ∨ (n = (res s y).v ∧ t = res s x ∧ n ≠ noS) → uni (bindP s n t) xs ys = some s' →
            Sv s' ∧ (∀ z u, res s z = res s u → res s' z = res s' u) ∧ ∀ p ∈ (x :: xs).zip (y :: ys), p.1.v = blankS ∨ p.2.v = blankS ∨ res s' p.1 = res s' p.2 := by
          intro n t hnt e
          have hn : ∀ p ∈ s, p.v ≠ n := fun p hp e => by
            rcases hnt with ⟨en, _⟩ | ⟨en, _⟩
            · exact res_free h x p hp (by rw [← en, ← e])
            · exact res_free h y p hp (by rw [← en, ← e])
          have ht : ∀ p ∈ s, t.v ≠ p.v := fun p hp => by
            rcases hnt with ⟨_, et, _⟩ | ⟨_, et, _⟩
            · rw [et]; exact res_free h y p hp
            · rw [et]; exact res_free h x p hp
          have hne : t.v ≠ n := fun e => by
            rcases hnt with ⟨en, et, h0⟩ | ⟨en, et, h0⟩
            · exact hs (tn_eq (res_tn h hx0) (res_tn h hy0) (by rw [← en]; exact h0) (by rw [← et, ← en]; exact e))
            · exact hs (tn_eq (res_tn h hy0) (res_tn h hx0) (by rw [← en]; exact h0) (by rw [← et, ← en]; exact e)).symm
          have h0 : n ≠ noS := by rcases hnt with ⟨_, _, h0⟩ | ⟨_, _, h0⟩ <;> exact h0
          have h1 : n ≠ blankS := by
            rcases hnt with ⟨en, _⟩ | ⟨en, _⟩
            · rw [en]; exact nbx
            · rw [en]; exact nby
          have hb' : t.v ≠ blankS := by
            rcases hnt with ⟨_, et, _⟩ | ⟨_, et, _⟩
            · rw [et]; exact nby
            · rw [et]; exact nbx
          have htn : Tn t := by
            rcases hnt with ⟨_, et, _⟩ | ⟨_, et, _⟩
            · rw [et]; exact res_tn h hy0
            · rw [et]; exact res_tn h hx0
          obtain ⟨a, b, c⟩ := uni_sol xs ys _ s' (sv_bind h h0 h1 hn ht hne hb' htn) hx' hy' e
          refine ⟨a, fun z u hz => b z u (by rw [res_bind hn, res_bind hn, hz]), fun p hp => ?_⟩
          rw [List.zip_cons_cons] at hp
          rcases List.mem_cons.1 hp with rfl | hp
          · refine .inr (.inr (b _ _ ?_))
            rw [res_bind hn, res_bind hn]
            show sub n t (res s x) = sub n t (res s y)
            unfold sub
            rcases hnt with ⟨en, et, _⟩ | ⟨en, et, _⟩
            · rw [if_pos en.symm, if_neg (by rw [← et]; exact hne), et]
            · rw [if_pos en.symm, if_neg (by rw [← et]; exact hne), et]
          · exact c p hp
        by_cases h2 : (res s x).v ≠ noS
        · rw [uni_left hb hs h2] at e
          exact key _ _ (.inl ⟨rfl, rfl, h2⟩) e
        · have h2' := Decidable.not_not.1 h2
          by_cases h3 : (res s y).v ≠ noS
          · rw [uni_right hb hs h2' h3] at e
            exact key _ _ (.inr ⟨rfl, rfl, h3⟩) e
          · rw [uni_none hb hs h2' (Decidable.not_not.1 h3)] at e
            cases e

/-! two lists can be made one just if an assignment makes them one -/
def evc (t : T) : V := if t.v = noS then t.a else V0
def asg (s : List P) (v : ByteArray) : V := evc (res s ⟨v, V0⟩)
theorem ev_asg {s : List P} (h : Sv s) {x : T} (hx : Tn x) : ev (asg s) x = evc (res s x) := by
  unfold ev
  by_cases h0 : x.v = noS
  · rw [if_pos h0]
    rcases res_cases s x with ⟨e, _⟩ | ⟨q, hq, hv, _⟩
    · rw [e]; unfold evc; rw [if_pos h0]
    · exact absurd (hv.trans h0) (h.nk q hq).1
  · rw [if_neg h0]
    unfold asg
    have : (⟨x.v, V0⟩ : T) = x := by
      have := hx h0
      cases x
      simp_all
    rw [this]
def Ones (σ : ByteArray → V) (xs ys : List T) : Prop := ∀ p ∈ xs.zip ys, p.1.v = blankS ∨ p.2.v = blankS ∨ ev σ p.1 = ev σ p.2
theorem uni_iff {xs ys : List T} (hx : ∀ t ∈ xs, Tn t) (hy : ∀ t ∈ ys, Tn t) : (uni [] xs ys).isSome = true ↔ ∃ σ, Ones σ xs ys := by
  constructor
  · intro h
    obtain ⟨s, hs⟩ := Option.isSome_iff_exists.1 h
    obtain ⟨a, _, c⟩ := uni_sol xs ys [] s sv_nil hx hy hs
    refine ⟨asg s, fun p hp => ?_⟩
    rcases c p hp with e | e | e
    · exact .inl e
    · exact .inr (.inl e)
    · have hm := List.of_mem_zip hp
      exact .inr (.inr (by rw [ev_asg a (hx _ hm.1), ev_asg a (hy _ hm.2), e]))
  · rintro ⟨σ, h⟩
    obtain ⟨s, hs, _⟩ := uni_most xs ys [] (fun p hp => by cases hp) h
    rw [hs]; rfl
theorem zip_mem_swap : ∀ {xs ys : List T} {p : T × T}, p ∈ ys.zip xs → (p.2, p.1) ∈ xs.zip ys
  | [], ys, p, h => by simp at h
  | x :: xs, [], p, h => by simp at h
  | x :: xs, y :: ys, p, h => by
    rw [List.zip_cons_cons] at h ⊢
    rcases List.mem_cons.1 h with rfl | h
    · simp
    · exact List.mem_cons_of_mem _ (zip_mem_swap h)
theorem ones_swap {σ : ByteArray → V} {xs ys : List T} (h : Ones σ xs ys) : Ones σ ys xs := fun p hp => by
  rcases h _ (zip_mem_swap hp) with e | e | e
  · exact .inr (.inl e)
  · exact .inl e
  · exact .inr (.inr e.symm)
theorem uni_swap {xs ys : List T} (hx : ∀ t ∈ xs, Tn t) (hy : ∀ t ∈ ys, Tn t) : (uni [] ys xs).isSome = (uni [] xs ys).isSome := by
  have : (uni [] ys xs).isSome = true ↔ (uni [] xs ys).isSome = true := by
    rw [uni_iff hy hx, uni_iff hx hy]
    exact ⟨fun ⟨σ, h⟩ => ⟨σ, ones_swap h⟩, fun ⟨σ, h⟩ => ⟨σ, ones_swap h⟩⟩
  cases h1 : (uni [] ys xs).isSome <;> cases h2 : (uni [] xs ys).isSome <;> simp_all
theorem tn_of {t : T} (h : termB t = true) : Tn t := fun h0 => by
  unfold termB at h
  rw [if_neg h0] at h
  simp only [Bool.and_eq_true, decide_eq_true_eq] at h
  exact h.1
theorem tn_all {p : ByteArray} {l : List T} (h : atomB p l = true) : ∀ t ∈ l, Tn t := fun t ht => by
  unfold atomB at h
  simp only [Bool.and_eq_true, List.all_eq_true] at h
  exact tn_of (h.2 t ht)
end Go.Proofs.YtnpmhgjbfkgmdaaDoor
