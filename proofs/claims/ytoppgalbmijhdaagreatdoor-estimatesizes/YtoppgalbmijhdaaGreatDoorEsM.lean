import Derived.Test.YtoppgalbmijhdaaGreatDoorEsFl
namespace Go.Proofs.YtoppgalbmijhdaaGreatDoor
open Go.RowKit Go.Maps
set_option linter.unusedVariables false
set_option linter.unusedSimpArgs false

/-! how many unlike things there are; what rises has one order -/
def Cnt {α : Type} (xs : List α) (n : Nat) : Prop := ∃ ys : List α, ys.Nodup ∧ (∀ x, x ∈ ys ↔ x ∈ xs) ∧ ys.length = n
theorem nodup_len {α : Type} {ys ys' : List α} (h : ys.Nodup) (h' : ys'.Nodup) (e : ∀ x, x ∈ ys ↔ x ∈ ys') : ys.length = ys'.length :=
  ((List.perm_ext_iff_of_nodup h h').2 e).length_eq
theorem Cnt.eq {α : Type} {xs xs' : List α} {n n' : Nat} (h : Cnt xs n) (h' : Cnt xs' n') (e : ∀ x, x ∈ xs ↔ x ∈ xs') : n = n' := by
  obtain ⟨ys, h1, h2, rfl⟩ := h
  obtain ⟨ys', h1', h2', rfl⟩ := h'
  exact nodup_len h1 h1' (fun x => (h2 x).trans ((e x).trans (h2' x).symm))
theorem Cnt.of {α : Type} {xs xs' : List α} {n : Nat} (h : Cnt xs n) (e : ∀ x, x ∈ xs ↔ x ∈ xs') : Cnt xs' n := by
  obtain ⟨ys, h1, h2, rfl⟩ := h
  exact ⟨ys, h1, fun x => (h2 x).trans (e x), rfl⟩
theorem up_unique {α : Type} {lt : α → α → Prop} (ir : ∀ a, ¬ lt a a) (tr : ∀ a b c, lt a b → lt b c → lt a c) : ∀ l m : List α, l.Pairwise lt → m.Pairwise lt → (∀ x, x ∈ l ↔ x ∈ m) → l = m
  | [], [], _, _, _ => rfl
  | [], y :: m, _, _, h => absurd ((h y).2 List.mem_cons_self) (by simp)
  | x :: l, [], _, _, h => absurd ((h x).1 List.mem_cons_self) (by simp)
  | x :: l, y :: m, hl, hm, h => by
    obtain ⟨hx, hl'⟩ := List.pairwise_cons.1 hl
    obtain ⟨hy, hm'⟩ := List.pairwise_cons.1 hm
    have hxy : x = y := by
      rcases List.mem_cons.1 ((h x).1 List.mem_cons_self) with e | h1
      · exact e
      · rcases List.mem_cons.1 ((h y).2 List.mem_cons_self) with e | h2
        · exact e.symm
        · exact absurd (tr _ _ _ (hy x h1) (hx y h2)) (ir y)
    subst hxy
    rw [up_unique ir tr l m hl' hm' (fun z => ⟨fun hz => ?_, fun hz => ?_⟩)]
    · rcases List.mem_cons.1 ((h z).1 (List.mem_cons_of_mem _ hz)) with e | h1
      · subst e; exact absurd (hx z hz) (ir z)
      · exact h1
    · rcases List.mem_cons.1 ((h z).2 (List.mem_cons_of_mem _ hz)) with e | h1
      · subst e; exact absurd (hy z hz) (ir z)
      · exact h1
/-! tuples by their beginnings: entry j is (a beginning's number, the next value); its own number is j + 1 -/
section
variable {β : Type}
structure Tri (es : List (Nat × β)) (ps : List (List β)) : Prop where
  len : ps.length = es.length + 1
  zero : ps[0]? = some []
  nd : ps.Nodup
  step : ∀ j i v, es[j]? = some (i, v) → ∃ p, ps[i]? = some p ∧ ps[j + 1]? = some (p ++ [v])
theorem Tri.start : Tri ([] : List (Nat × β)) [[]] := ⟨rfl, rfl, by simp, fun j i v h => by simp at h⟩
theorem nodup_at {α : Type} {l : List α} (h : l.Nodup) {i j : Nat} {x : α} (hi : l[i]? = some x) (hj : l[j]? = some x) : i = j := by
  obtain ⟨i1, i2⟩ := List.getElem?_eq_some_iff.1 hi
  obtain ⟨j1, j2⟩ := List.getElem?_eq_some_iff.1 hj
  have nd' := List.pairwise_iff_getElem.1 h
  rcases Nat.lt_trichotomy i j with h | h | h
  · exact absurd (i2.trans j2.symm) (nd' i j i1 j1 h)
  · exact h
  · exact absurd (j2.trans i2.symm) (nd' j i j1 i1 h)
theorem Tri.push {es : List (Nat × β)} {ps : List (List β)} (h : Tri es ps) {i : Nat} {p : List β} {v : β} (hi : ps[i]? = some p) (hn : (i, v) ∉ es) : Tri (es ++ [(i, v)]) (ps ++ [p ++ [v]]) := by
  have hnew : p ++ [v] ∉ ps := by
    intro hm
    obtain ⟨k, hk⟩ := List.getElem?_of_mem hm
    cases k with
    | zero => rw [h.zero] at hk; simp at hk
    | succ k =>
      have hkl : k < es.length := by
        have := (List.getElem?_eq_some_iff.1 hk).1
        have := h.len
        omega
      obtain ⟨q, hq1, hq2⟩ := h.step k es[k].1 es[k].2 (by rw [List.getElem?_eq_getElem hkl])
      rw [hk] at hq2
      obtain ⟨e1, e2⟩ := List.append_inj' (Option.some.inj hq2) rfl
      subst e1
      have e3 := nodup_at h.nd hi hq1
      have e4 : v = es[k].2 := by simpa using e2
      exact hn (by rw [e3, e4]; exact List.getElem_mem hkl)
  refine ⟨by simp [h.len], ?_, ?_, ?_⟩
  · rw [List.getElem?_append_left (by rw [h.len]; omega), h.zero]
  · rw [List.nodup_append]
    exact ⟨h.nd, by simp, fun a ha b hb e => by simp at hb; exact hnew (hb ▸ e ▸ ha)⟩
  · intro j k u hj
    by_cases hjl : j < es.length
    · rw [List.getElem?_append_left hjl] at hj
      obtain ⟨q, hq1, hq2⟩ := h.step j k u hj
      have := (List.getElem?_eq_some_iff.1 hq1).1
      have := (List.getElem?_eq_some_iff.1 hq2).1
      exact ⟨q, by rw [List.getElem?_append_left (by omega), hq1], by rw [List.getElem?_append_left (by omega), hq2]⟩
    · have hje : j = es.length := by
        have := (List.getElem?_eq_some_iff.1 hj).1
        simp at this
        omega
      subst hje
      rw [List.getElem?_append_right (Nat.le_refl _)] at hj
      simp at hj
      obtain ⟨rfl, rfl⟩ := hj
      have := (List.getElem?_eq_some_iff.1 hi).1
      refine ⟨p, by rw [List.getElem?_append_left (by omega), hi], ?_⟩
      rw [← h.len, List.getElem?_append_right (Nat.le_refl _)]
      simp
theorem Tri.old {es : List (Nat × β)} {ps : List (List β)} (h : Tri es ps) {i j : Nat} {p : List β} {v : β} (hi : ps[i]? = some p) (hj : es[j]? = some (i, v)) : ps[j + 1]? = some (p ++ [v]) := by
  obtain ⟨q, h1, h2⟩ := h.step j i v hj
  rw [hi] at h1
  rw [Option.some.inj h1]
  exact h2
/-- the numbers of the tuples that were met -/
structure Who (ps ts : List (List β)) (S : List Nat) : Prop where
  nd : S.Nodup
  is : ∀ x ∈ S, ∃ t ∈ ts, ps[x]? = some t
  all : ∀ t ∈ ts, ∃ x ∈ S, ps[x]? = some t
theorem Who.start (ps : List (List β)) : Who ps [] [] := ⟨by simp, by simp, by simp⟩
theorem Who.more {ps ts : List (List β)} {S : List Nat} (h : Who ps ts S) (q : List (List β)) : Who (ps ++ q) ts S := by
  have key : ∀ {x : Nat} {t : List β}, ps[x]? = some t → (ps ++ q)[x]? = some t := by
    intro x t hx
    rw [List.getElem?_append_left (List.getElem?_eq_some_iff.1 hx).1, hx]
  exact ⟨h.nd, fun x hx => by obtain ⟨t, h1, h2⟩ := h.is x hx; exact ⟨t, h1, key h2⟩, fun t ht => by obtain ⟨x, h1, h2⟩ := h.all t ht; exact ⟨x, h1, key h2⟩⟩
theorem Who.again {ps ts : List (List β)} {S : List Nat} (h : Who ps ts S) {x : Nat} {t : List β} (hx : ps[x]? = some t) (hm : x ∈ S) : Who ps (ts ++ [t]) S := by
  refine ⟨h.nd, fun y hy => ?_, fun u hu => ?_⟩
  · obtain ⟨u, h1, h2⟩ := h.is y hy
    exact ⟨u, List.mem_append_left _ h1, h2⟩
  · rcases List.mem_append.1 hu with hu | hu
    · exact h.all u hu
    · rw [List.mem_singleton.1 hu]
      exact ⟨x, hm, hx⟩
theorem Who.push {ps ts : List (List β)} {S : List Nat} (h : Who ps ts S) {x : Nat} {t : List β} (hx : ps[x]? = some t) (hm : x ∉ S) : Who ps (ts ++ [t]) (S ++ [x]) := by
  refine ⟨?_, fun y hy => ?_, fun u hu => ?_⟩
  · rw [List.nodup_append]
    exact ⟨h.nd, by simp, fun a ha b hb e => by simp at hb; exact hm (hb ▸ e ▸ ha)⟩
  · rcases List.mem_append.1 hy with hy | hy
    · obtain ⟨u, h1, h2⟩ := h.is y hy
      exact ⟨u, List.mem_append_left _ h1, h2⟩
    · rw [List.mem_singleton.1 hy]
      exact ⟨t, by simp, hx⟩
  · rcases List.mem_append.1 hu with hu | hu
    · obtain ⟨y, h1, h2⟩ := h.all u hu
      exact ⟨y, List.mem_append_left _ h1, h2⟩
    · rw [List.mem_singleton.1 hu]
      exact ⟨x, by simp, hx⟩
theorem Who.cnt {ps ts : List (List β)} {S : List Nat} (h : Who ps ts S) (nd : ps.Nodup) : Cnt ts S.length := by
  refine ⟨S.map (fun x => (ps[x]?).getD []), ?_, fun t => ?_, by simp⟩
  · rw [List.Nodup, List.pairwise_map]
    refine h.nd.imp_of_mem ?_
    intro a b ha hb hne e
    obtain ⟨t, _, h1⟩ := h.is a ha
    obtain ⟨u, _, h2⟩ := h.is b hb
    rw [h1, h2] at e
    simp at e
    subst e
    exact hne (nodup_at nd h1 h2)
  · rw [List.mem_map]
    constructor
    · rintro ⟨x, hx, rfl⟩
      obtain ⟨t, h1, h2⟩ := h.is x hx
      rw [h2]
      exact h1
    · intro ht
      obtain ⟨x, h1, h2⟩ := h.all t ht
      exact ⟨x, h1, by rw [h2]; rfl⟩
/-! columns -/
def colAt (c : Nat) (ts : List (List β)) : List β := ts.filterMap (fun t => t[c]?)
theorem mem_col {c : Nat} {ts : List (List β)} {v : β} : v ∈ colAt c ts ↔ ∃ t ∈ ts, t[c]? = some v := by simp [colAt, List.mem_filterMap]
structure Cols (ts : List (List β)) (s : List (Nat × β)) (out : List Nat) : Prop where
  nd : s.Nodup
  mem : ∀ c v, (c, v) ∈ s ↔ ∃ t ∈ ts, t[c]? = some v
  wide : ∀ c, c < out.length ↔ ∃ t ∈ ts, c < t.length
  cnt : ∀ c d, out[c]? = some d → d = (s.filter (fun x => decide (x.1 = c))).length
theorem Cols.start : Cols ([] : List (List β)) [] [] := ⟨by simp, by simp, by simp, by simp⟩
theorem Cols.tuple {ts : List (List β)} {s : List (Nat × β)} {out : List Nat} (h : Cols ts s out) : Cols (ts ++ [[]]) s out :=
  ⟨h.nd, fun c v => by rw [h.mem]; simp, fun c => by rw [h.wide]; simp, h.cnt⟩
theorem take_one {t : List β} {i : Nat} {v : β} (h : t[i]? = some v) : t.take (i + 1) = t.take i ++ [v] := by rw [List.take_add_one, h]; rfl
theorem Cols.le {ts : List (List β)} {s : List (Nat × β)} {out : List Nat} {p : List β} (h : Cols (ts ++ [p]) s out) : p.length ≤ out.length := by
  by_cases h0 : p.length = 0
  · omega
  · have := (h.wide (p.length - 1)).2 ⟨p, by simp, by omega⟩
    omega
theorem mem_step {ts : List (List β)} {p : List β} {v : β} {c : Nat} {u : β} : (∃ t ∈ ts ++ [p ++ [v]], t[c]? = some u) ↔ (∃ t ∈ ts ++ [p], t[c]? = some u) ∨ (c = p.length ∧ u = v) := by
  constructor
  · rintro ⟨t, ht, hc⟩
    rcases List.mem_append.1 ht with ht | ht
    · exact .inl ⟨t, List.mem_append_left _ ht, hc⟩
    · rw [List.mem_singleton.1 ht] at hc
      by_cases hl : c < p.length
      · rw [List.getElem?_append_left hl] at hc
        exact .inl ⟨p, by simp, hc⟩
      · have : c < p.length + 1 := by
          have := (List.getElem?_eq_some_iff.1 hc).1
          simpa using this
        have e : c = p.length := by omega
        subst e
        simp at hc
        exact .inr ⟨rfl, hc.symm⟩
  · rintro (⟨t, ht, hc⟩ | ⟨rfl, rfl⟩)
    · rcases List.mem_append.1 ht with ht | ht
      · exact ⟨t, List.mem_append_left _ ht, hc⟩
      · rw [List.mem_singleton.1 ht] at hc
        exact ⟨p ++ [v], by simp, by rw [List.getElem?_append_left (List.getElem?_eq_some_iff.1 hc).1]; exact hc⟩
    · exact ⟨p ++ [u], by simp, by simp⟩
theorem wide_step {ts : List (List β)} {s : List (Nat × β)} {out : List Nat} {p : List β} {v : β} (h : Cols (ts ++ [p]) s out) (c : Nat) : (∃ t ∈ ts ++ [p ++ [v]], c < t.length) ↔ c < out.length ∨ c = p.length := by
  rw [h.wide]
  constructor
  · rintro ⟨t, ht, hc⟩
    rcases List.mem_append.1 ht with ht | ht
    · exact .inl ⟨t, List.mem_append_left _ ht, hc⟩
    · rw [List.mem_singleton.1 ht] at hc
      simp at hc
      by_cases e : c = p.length
      · exact .inr e
      · exact .inl ⟨p, by simp, by omega⟩
  · rintro (⟨t, ht, hc⟩ | rfl)
    · rcases List.mem_append.1 ht with ht | ht
      · exact ⟨t, List.mem_append_left _ ht, hc⟩
      · rw [List.mem_singleton.1 ht] at hc
        exact ⟨p ++ [v], by simp, by simp; omega⟩
    · exact ⟨p ++ [v], by simp, by simp⟩
/-- a value of the next column: out has a place for it -/
theorem Cols.old {ts : List (List β)} {s : List (Nat × β)} {out : List Nat} {p : List β} {v : β} (h : Cols (ts ++ [p]) s out) (hl : p.length < out.length) (hm : (p.length, v) ∈ s) : Cols (ts ++ [p ++ [v]]) s out := by
  refine ⟨h.nd, fun c u => ?_, fun c => ?_, h.cnt⟩
  · rw [mem_step, h.mem]
    constructor
    · exact .inl
    · rintro (h1 | ⟨rfl, rfl⟩)
      · exact h1
      · exact (h.mem _ _).1 hm
  · rw [wide_step h]
    constructor
    · exact .inl
    · rintro (h1 | rfl)
      · exact h1
      · exact hl
theorem Cols.new {ts : List (List β)} {s : List (Nat × β)} {out : List Nat} {p : List β} {v : β} {d : Nat} (h : Cols (ts ++ [p]) s out) (hd : out[p.length]? = some d) (hm : (p.length, v) ∉ s) : Cols (ts ++ [p ++ [v]]) (s ++ [(p.length, v)]) (out.set p.length (d + 1)) := by
  have hl := (List.getElem?_eq_some_iff.1 hd).1
  refine ⟨?_, fun c u => ?_, fun c => ?_, fun c e hc => ?_⟩
  · rw [List.nodup_append]
    exact ⟨h.nd, by simp, fun a ha b hb e => by simp at hb; exact hm (hb ▸ e ▸ ha)⟩
  · rw [mem_step, List.mem_append, h.mem]
    simp
  · rw [wide_step h, List.length_set]
    constructor
    · exact .inl
    · rintro (h1 | rfl)
      · exact h1
      · exact hl
  · rw [List.getElem?_set] at hc
    rw [List.filter_append, List.length_append]
    by_cases e1 : p.length = c
    · subst e1
      rw [if_pos rfl, if_pos hl] at hc
      have e2 := Option.some.inj hc
      rw [← h.cnt _ _ hd, ← e2]
      simp
    · rw [if_neg e1] at hc
      rw [← h.cnt _ _ hc]
      simp [e1]
theorem Cols.room {ts : List (List β)} {s : List (Nat × β)} {out : List Nat} {p : List β} {v : β} (h : Cols (ts ++ [p]) s out) (hl : p.length = out.length) : (p.length, v) ∉ s ∧ Cols (ts ++ [p ++ [v]]) (s ++ [(p.length, v)]) (out ++ [1]) := by
  have hnone : ∀ u, (p.length, u) ∉ s := by
    intro u hm
    obtain ⟨t, ht, hc⟩ := (h.mem _ _).1 hm
    have := (h.wide p.length).2 ⟨t, ht, (List.getElem?_eq_some_iff.1 hc).1⟩
    omega
  have hm := hnone v
  refine ⟨hm, ?_, fun c u => ?_, fun c => ?_, fun c e hc => ?_⟩
  · rw [List.nodup_append]
    exact ⟨h.nd, by simp, fun a ha b hb e => by simp at hb; exact hm (hb ▸ e ▸ ha)⟩
  · rw [mem_step, List.mem_append, h.mem]
    simp
  · rw [wide_step h, List.length_append]
    simp only [List.length_cons, List.length_nil]
    omega
  · rw [List.filter_append, List.length_append]
    by_cases e1 : c < out.length
    · rw [List.getElem?_append_left e1] at hc
      rw [← h.cnt _ _ hc]
      have : p.length ≠ c := by omega
      simp [this]
    · rw [List.getElem?_append_right (by omega)] at hc
      have e2 : c = out.length := by
        have := (List.getElem?_eq_some_iff.1 hc).1
        simp at this
        omega
      subst e2
      simp at hc
      have : (s.filter (fun x => decide (x.1 = out.length))) = [] := by
        rw [List.filter_eq_nil_iff]
        intro a ha
        simp only [decide_eq_true_eq]
        intro e
        exact hnone a.2 (by rw [hl, ← e]; exact ha)
      rw [this]
      simp [hl, ← hc]
theorem nodup_sub {α : Type} : ∀ (xs ys : List α), xs.Nodup → (∀ x ∈ xs, x ∈ ys) → xs.length ≤ ys.length
  | [], ys, _, _ => Nat.zero_le _
  | x :: xs, ys, h, hs => by
    obtain ⟨h1, h2⟩ := List.nodup_cons.1 h
    obtain ⟨a, b, rfl⟩ := List.append_of_mem (hs x List.mem_cons_self)
    have := nodup_sub xs (a ++ b) h2 (fun y hy => by
      have h3 := hs y (List.mem_cons_of_mem _ hy)
      rw [List.mem_append, List.mem_cons] at h3
      rcases h3 with h3 | rfl | h3
      · exact List.mem_append_left _ h3
      · exact absurd hy h1
      · exact List.mem_append_right _ h3)
    simp at this ⊢
    omega
theorem Cols.bound {ts : List (List β)} {s : List (Nat × β)} {out : List Nat} (h : Cols ts s out) {c d : Nat} (hd : out[c]? = some d) : d ≤ ts.length := by
  rw [h.cnt c d hd]
  have h1 : ((s.filter (fun x => decide (x.1 = c))).map Prod.snd).length ≤ (colAt c ts).length := nodup_sub _ _ (by
    rw [List.Nodup, List.pairwise_map]
    refine (h.nd.filter _).imp_of_mem ?_
    intro a b ha hb hne e
    have h1 := (List.mem_filter.1 ha).2
    have h2 := (List.mem_filter.1 hb).2
    simp at h1 h2
    exact hne (Prod.ext (h1.trans h2.symm) e)) (fun v hv => by
    obtain ⟨x, hx, rfl⟩ := List.mem_map.1 hv
    have h1 := (List.mem_filter.1 hx)
    simp at h1
    rw [mem_col, ← h.mem, ← h1.2]
    exact h1.1)
  rw [List.length_map] at h1
  exact Nat.le_trans h1 (List.length_filterMap_le _ _)
/-- what a size tells of tuples -/
structure SzOk (ts : List (List β)) (n : Nat) (ds : List Nat) : Prop where
  n : Cnt ts n
  wide : ∀ c, c < ds.length ↔ ∃ t ∈ ts, c < t.length
  ds : ∀ c d, ds[c]? = some d → Cnt (colAt c ts) d
theorem Cols.ok {ts : List (List β)} {s : List (Nat × β)} {out : List Nat} (h : Cols ts s out) {n : Nat} (hn : Cnt ts n) : SzOk ts n out := by
  refine ⟨hn, h.wide, fun c d hd => ?_⟩
  refine ⟨(s.filter (fun x => decide (x.1 = c))).map Prod.snd, ?_, fun v => ?_, by rw [List.length_map, h.cnt c d hd]⟩
  · rw [List.Nodup, List.pairwise_map]
    refine (h.nd.filter _).imp_of_mem ?_
    intro a b ha hb hne e
    have h1 := (List.mem_filter.1 ha).2
    have h2 := (List.mem_filter.1 hb).2
    simp at h1 h2
    exact hne (Prod.ext (h1.trans h2.symm) e)
  · rw [mem_col, ← h.mem, List.mem_map]
    constructor
    · rintro ⟨x, hx, rfl⟩
      have h1 := (List.mem_filter.1 hx)
      simp at h1
      rw [← h1.2]
      exact h1.1
    · intro hm
      exact ⟨(c, v), List.mem_filter.2 ⟨hm, by simp⟩, rfl⟩
theorem SzOk.eq {ts ts' : List (List β)} {n n' : Nat} {ds ds' : List Nat} (h : SzOk ts n ds) (h' : SzOk ts' n' ds') (e : ∀ t, t ∈ ts ↔ t ∈ ts') : n = n' ∧ ds = ds' := by
  refine ⟨h.n.eq h'.n e, ?_⟩
  have hw : ∀ c, c < ds.length ↔ c < ds'.length := fun c => by
    rw [h.wide, h'.wide]
    exact ⟨fun ⟨t, h1, h2⟩ => ⟨t, (e t).1 h1, h2⟩, fun ⟨t, h1, h2⟩ => ⟨t, (e t).2 h1, h2⟩⟩
  have hl : ds.length = ds'.length := by
    have h1 := hw ds.length
    have h2 := hw ds'.length
    omega
  apply List.ext_getElem hl
  intro c h1 h2
  refine (h.ds c _ (List.getElem?_eq_getElem h1)).eq (h'.ds c _ (List.getElem?_eq_getElem h2)) (fun v => ?_)
  rw [mem_col, mem_col]
  exact ⟨fun ⟨t, h1, h2⟩ => ⟨t, (e t).1 h1, h2⟩, fun ⟨t, h1, h2⟩ => ⟨t, (e t).2 h1, h2⟩⟩
end
/-! names in order; what Sizes tells -/
theorem cb_lt : ∀ (a b : List UInt8), Lib.compareBytes a b < 0 ↔ a < b
  | [], [] => by simp [Lib.compareBytes]
  | [], b :: q => by simp [Lib.compareBytes]
  | a :: r, [] => by simp [Lib.compareBytes]
  | a :: r, b :: q => by
    have ih := cb_lt r q
    rw [List.cons_lt_cons_iff]
    unfold Lib.compareBytes
    by_cases h1 : a < b
    · simp [h1]
    · by_cases h2 : b < a
      · have h3 : a ≠ b := fun e => by subst e; exact h1 h2
        simp [h1, h2, h3]
      · have h3 : a = b := UInt8.le_antisymm (UInt8.not_lt.1 h2) (UInt8.not_lt.1 h1)
        subst h3
        simp [h1, ih]
def bl (a b : ByteArray) : Prop := a.data.toList < b.data.toList
theorem bl_irrefl (a : ByteArray) : ¬ bl a a := List.lt_irrefl _
theorem bl_trans (a b c : ByteArray) (h1 : bl a b) (h2 : bl b c) : bl a c := List.lt_trans h1 h2
theorem sorted_lt (ss : List (List UInt8)) (nd : ss.Nodup) : (ss.mergeSort (fun x y => decide (x ≤ y))).Pairwise (· < ·) := by
  have h1 := List.pairwise_mergeSort (le := fun x y : List UInt8 => decide (x ≤ y)) (fun a b c h1 h2 => by simp at *; exact List.le_trans h1 h2) (fun a b => by simp; exact List.le_total a b) ss
  have h2 : (ss.mergeSort (fun x y => decide (x ≤ y))).Nodup := (List.mergeSort_perm ss _).nodup_iff.2 nd
  refine (List.Pairwise.and h1 h2).imp ?_
  rintro a b ⟨h1, h2⟩
  simp at h1
  exact List.not_le.1 (fun h3 => h2 (List.le_antisymm h1 h3))
theorem cb_zero {a b : List UInt8} (h : Lib.compareBytes a b = 0) : a = b := by
  have h1 := AR.compareBytes_anti a b
  have h2 : ¬ a < b := fun e => by have := (cb_lt a b).2 e; omega
  have h3 : ¬ b < a := fun e => by have := (cb_lt b a).2 e; omega
  exact List.le_antisymm (List.not_lt.1 h3) (List.not_lt.1 h2)
theorem kl_bl {k m : Key} (h : kl k m) : k.1 = m.1 ∨ bl k.1 m.1 := by
  by_cases e : Lib.compareBytes k.1.data.toList m.1.data.toList = 0
  · exact .inl (ByteArray.ext (Array.toList_inj.1 (cb_zero e)))
  · right
    unfold kl ko AR.fc orL at h
    have e' : ¬ Lib.compareBytes (fcK k).p.data.toList (fcK m).p.data.toList = 0 := e
    rw [if_neg e'] at h
    exact (cb_lt _ _).1 h
theorem Told.filter {ks out : List Key} (h : Told ks out) (p : Key → Bool) : Told (ks.filter p) (out.filter p) := ⟨h.rises.filter _, fun k => by rw [List.mem_filter, List.mem_filter, h.same]⟩
theorem Told.nodup {ks out : List Key} (h : Told ks out) : out.Nodup := h.rises.imp (fun {a b} hab e => by subst e; exact kl_irrefl _ hab)
structure Sz where
  pr : ByteArray
  n : Nat
  ds : List Nat
def ownT (p : ByteArray) (ks : List Key) : List (List V) := (ks.filter (fun k => decide (k.1 = p))).map Prod.snd
theorem mem_own {p : ByteArray} {t : List V} {ks : List Key} : t ∈ ownT p ks ↔ (p, t) ∈ ks := by
  unfold ownT
  rw [List.mem_map]
  constructor
  · rintro ⟨k, hk, rfl⟩
    obtain ⟨h1, h2⟩ := List.mem_filter.1 hk
    simp at h2
    rw [← h2]
    exact h1
  · intro h
    exact ⟨(p, t), List.mem_filter.2 ⟨h, by simp⟩, rfl⟩
structure Szs (ks : List Key) (zs : List Sz) : Prop where
  up : (zs.map Sz.pr).Pairwise bl
  mem : ∀ p, p ∈ zs.map Sz.pr ↔ ∃ t, (p, t) ∈ ks
  ok : ∀ z ∈ zs, SzOk (ownT z.pr ks) z.n z.ds
theorem Sz.ext' {a b : Sz} (h1 : a.pr = b.pr) (h2 : a.n = b.n) (h3 : a.ds = b.ds) : a = b := by
  cases a; cases b
  simp only at h1 h2 h3
  subst h1 h2 h3
  rfl
theorem Szs.eq {ks ks' : List Key} {zs zs' : List Sz} (h : Szs ks zs) (h' : Szs ks' zs') (e : ∀ k, k ∈ ks ↔ k ∈ ks') : zs = zs' := by
  have hp : zs.map Sz.pr = zs'.map Sz.pr := up_unique bl_irrefl bl_trans _ _ h.up h'.up (fun p => by rw [h.mem, h'.mem]; simp only [e])
  apply List.ext_getElem (by simpa using congrArg List.length hp)
  intro i h1 h2
  have e1 : zs[i].pr = zs'[i].pr := by
    have := congrArg (fun l => l[i]?) hp
    simpa [h1, h2] using this
  have h3 := h.ok zs[i] (List.getElem_mem h1)
  have h4 := h'.ok zs'[i] (List.getElem_mem h2)
  rw [e1] at h3
  obtain ⟨e2, e3⟩ := h3.eq h4 (fun t => by rw [mem_own, mem_own, e])
  exact Sz.ext' e1 e2 e3
end Go.Proofs.YtoppgalbmijhdaaGreatDoor
