import Derived.Test.YtgfnijhhhgjabaaGreatDoorG43
import Derived.Test.YtgfnijhhhgjabaaGreatDoorE3
section
namespace Go.Proofs.YtgfnijhhhgjabaaGreatDoor
open Go.RowKit Go.Maps
set_option linter.unusedVariables false
set_option linter.unusedSimpArgs false

/-- an equation gives this variable, these being found -/
def hitQ (fs : List ByteArray) (v : ByteArray) (q : Qn) : Bool := (decide (q.1.lone = some v) && q.2.vars.all (inB fs)) || (decide (q.2.lone = some v) && q.1.vars.all (inB fs))
def eqdB (qs : List Qn) (v : ByteArray) (fs : List ByteArray) : Bool := qs.any (hitQ fs v)
theorem gave_hit {fs : List ByteArray} {q : Qn} {v : ByteArray} (h : gaveO fs q = some v) : hitQ fs v q = true := by
  unfold gaveO at h
  unfold hitQ
  cases h1 : givesO q.1.lone q.2.vars fs with
  | some x =>
    rw [h1] at h
    injection h with h
    subst h
    obtain ⟨e1, _, e3⟩ := givesO_some h1
    rw [decide_eq_true e1, List.all_eq_true.2 (fun y hy => inB_iff.2 (e3 y hy))]
    rfl
  | none =>
    rw [h1] at h
    obtain ⟨e1, _, e3⟩ := givesO_some h
    rw [decide_eq_true e1, List.all_eq_true.2 (fun y hy => inB_iff.2 (e3 y hy)), Bool.or_eq_true]
    exact .inr rfl
theorem hit_gave {fs : List ByteArray} {q : Qn} {v : ByteArray} (hv : ¬ v ∈ fs) (h : hitQ fs v q = true) : gaveO fs q ≠ none := by
  unfold hitQ at h
  have hb : inB fs v = false := by rw [← Bool.not_eq_true]; exact fun e => hv (inB_iff.1 e)
  rw [Bool.or_eq_true, Bool.and_eq_true, Bool.and_eq_true, decide_eq_true_eq, decide_eq_true_eq] at h
  unfold gaveO
  rcases h with ⟨h1, h2⟩ | ⟨h1, h2⟩
  · have : givesO q.1.lone q.2.vars fs = some v := by unfold givesO; rw [h1]; simp only; rw [hb, h2]; rfl
    rw [this]
    simp
  · have : givesO q.2.lone q.1.vars fs = some v := by unfold givesO; rw [h1]; simp only; rw [hb, h2]; rfl
    cases givesO q.1.lone q.2.vars fs with
    | some x => simp
    | none => simp only; rw [this]; simp
theorem still_none : ∀ (qs : List Qn) (fs : List ByteArray), rndQ qs fs = fs → ∀ q ∈ qs, gaveO fs q = none
  | [], fs, _, q, hq => by cases hq
  | p :: qs, fs, h, q, hq => by
    have h' : rndQ qs (stepQ fs p) = fs := h
    have hp : gaveO fs p = none := by
      cases hg : gaveO fs p with
      | none => rfl
      | some v =>
        obtain ⟨m, hm⟩ := rndQ_grow qs (stepQ fs p)
        have e : stepQ fs p = fs ++ [v] := by unfold stepQ; rw [hg]
        rw [h', e] at hm
        have := congrArg List.length hm
        simp only [List.length_append, List.length_cons, List.length_nil] at this
        omega
    have e : stepQ fs p = fs := by unfold stepQ; rw [hp]
    rw [e] at h'
    rcases List.mem_cons.1 hq with rfl | hq
    · exact hp
    · exact still_none qs fs h' q hq
/-- no equation gives one more -/
theorem Lim.no {qs : List Qn} {f0 fs : List ByteArray} (h : Lim qs f0 fs) {v : ByteArray} (hv : ¬ v ∈ fs) : eqdB qs v fs = false := by
  unfold eqdB
  rw [← Bool.not_eq_true]
  intro ha
  obtain ⟨q, hq, hh⟩ := List.any_eq_true.1 ha
  exact hit_gave hv hh (still_none qs fs h.st q hq)
theorem itQ_grow (qs : List Qn) : ∀ (k : Nat) (fs : List ByteArray), ∃ more, itQ qs k fs = fs ++ more
  | 0, fs => ⟨[], by simp [itQ]⟩
  | k + 1, fs => by
    obtain ⟨m, hm⟩ := rndQ_grow qs fs
    obtain ⟨m2, hm2⟩ := itQ_grow qs k (rndQ qs fs)
    exact ⟨m ++ m2, by rw [itQ, hm2, hm, List.append_assoc]⟩
theorem itQ_nodup (qs : List Qn) : ∀ (k : Nat) (fs : List ByteArray), fs.Nodup → (itQ qs k fs).Nodup
  | 0, fs, h => h
  | k + 1, fs, h => itQ_nodup qs k _ (rndQ_nodup qs fs h)
theorem Lim.grow {qs : List Qn} {f0 fs : List ByteArray} (h : Lim qs f0 fs) : ∃ more, fs = f0 ++ more := by
  obtain ⟨⟨k, e⟩, _⟩ := h
  rw [e]
  exact itQ_grow qs k f0
theorem Lim.nodup {qs : List Qn} {f0 fs : List ByteArray} (h : Lim qs f0 fs) (hn : f0.Nodup) : fs.Nodup := by
  obtain ⟨⟨k, e⟩, _⟩ := h
  rw [e]
  exact itQ_nodup qs k f0 hn
theorem Lim.sub {qs : List Qn} {f0 fs : List ByteArray} (h : Lim qs f0 fs) : ∀ x ∈ f0, x ∈ fs := fun x hx => by
  obtain ⟨m, e⟩ := h.grow
  rw [e]
  exact List.mem_append.2 (.inl hx)
/-- each has its reason ahead -/
def Rea (qs : List Qn) (n : Nat) (fs : List ByteArray) : Prop := ∀ i, n ≤ i → i < fs.length → eqdB qs (atS fs i) (fs.take i) = true
theorem Rea.step {qs : List Qn} {n : Nat} {fs : List ByteArray} {q : Qn} (hq : q ∈ qs) (h : Rea qs n fs) : Rea qs n (stepQ fs q) := by
  unfold stepQ
  cases hg : gaveO fs q with
  | none => exact h
  | some v =>
    intro i hi hl
    simp only [List.length_append, List.length_cons, List.length_nil] at hl
    by_cases hlt : i < fs.length
    · have e1 : atS (fs ++ [v]) i = atS fs i := by rw [atS_eq hlt, atS_eq (by simp; omega), List.getElem_append_left hlt]
      have e2 : (fs ++ [v]).take i = fs.take i := by rw [List.take_append_of_le_length (by omega)]
      rw [e1, e2]
      exact h i hi hlt
    · obtain rfl : i = fs.length := by omega
      have e1 : atS (fs ++ [v]) fs.length = v := by rw [atS_eq (by simp)]; simp
      have e2 : (fs ++ [v]).take fs.length = fs := by simp
      rw [e1, e2]
      exact List.any_eq_true.2 ⟨q, hq, gave_hit hg⟩
theorem Rea.round {qs : List Qn} {n : Nat} : ∀ (ps : List Qn) (fs : List ByteArray), (∀ q ∈ ps, q ∈ qs) → Rea qs n fs → Rea qs n (rndQ ps fs)
  | [], fs, _, h => h
  | p :: ps, fs, hs, h => Rea.round ps (stepQ fs p) (fun q hq => hs q (List.mem_cons_of_mem _ hq)) (h.step (hs p List.mem_cons_self))
theorem Rea.it {qs : List Qn} {n : Nat} : ∀ (k : Nat) (fs : List ByteArray), Rea qs n fs → Rea qs n (itQ qs k fs)
  | 0, fs, h => h
  | k + 1, fs, h => Rea.it k _ (Rea.round qs fs (fun _ hq => hq) h)
theorem Lim.rea {qs : List Qn} {f0 fs : List ByteArray} (h : Lim qs f0 fs) : Rea qs f0.length fs := by
  obtain ⟨⟨k, e⟩, _⟩ := h
  rw [e]
  exact Rea.it k f0 (fun i h1 h2 => by omega)
theorem Lim.first {qs : List Qn} {f0 fs : List ByteArray} (h : Lim qs f0 fs) {i : Nat} (hi : i < fs.length) : atS fs i ∈ f0 ∨ eqdB qs (atS fs i) (fs.take i) = true := by
  by_cases hl : i < f0.length
  · left
    obtain ⟨m, e⟩ := h.grow
    rw [atS_eq hi]
    have : fs[i] = f0[i] := by simp only [e]; rw [List.getElem_append_left hl]
    rw [this]
    exact List.getElem_mem hl
  · exact .inr (h.rea i (by omega) hi)
theorem Lim.ahead {qs : List Qn} {f0 fs : List ByteArray} (h : Lim qs f0 fs) (hn : f0.Nodup) {i : Nat} (hi : i < fs.length) : inB (fs.take i) (atS fs i) = false := by
  rw [← Bool.not_eq_true]
  intro hb
  have hm := inB_iff.1 hb
  have hnd := h.nodup hn
  obtain ⟨j, hj, e⟩ := List.getElem_of_mem hm
  rw [List.length_take] at hj
  rw [List.getElem_take, atS_eq hi] at e
  exact List.pairwise_iff_getElem.1 hnd j i (by omega) hi (by omega) e
theorem hit_mono {fs fs' : List ByteArray} {v : ByteArray} {q : Qn} (hs : ∀ x ∈ fs, x ∈ fs') (h : hitQ fs v q = true) : hitQ fs' v q = true := by
  unfold hitQ at h ⊢
  have ha : ∀ l : List ByteArray, l.all (inB fs) = true → l.all (inB fs') = true := fun l hl => List.all_eq_true.2 (fun x hx => inB_iff.2 (hs x (inB_iff.1 (List.all_eq_true.1 hl x hx))))
  rw [Bool.or_eq_true, Bool.and_eq_true, Bool.and_eq_true] at h ⊢
  rcases h with ⟨h1, h2⟩ | ⟨h1, h2⟩
  · exact .inl ⟨h1, ha _ h2⟩
  · exact .inr ⟨h1, ha _ h2⟩
/-- more atoms and more equations limit no less -/
theorem Lim.mono {qs qs' : List Qn} {f0 f0' fs fs' : List ByteArray} (h : Lim qs f0 fs) (h' : Lim qs' f0' fs') (hq : ∀ q ∈ qs, q ∈ qs') (hf : ∀ x ∈ f0, x ∈ f0') : ∀ x ∈ fs, x ∈ fs' := by
  have key : ∀ i, i ≤ fs.length → ∀ x ∈ fs.take i, x ∈ fs' := by
    intro i
    induction i with
    | zero => intro _ x hx; simp at hx
    | succ i ih =>
      intro hi x hx
      have hlt : i < fs.length := by omega
      rw [takeS hlt] at hx
      rcases List.mem_append.1 hx with hx | hx
      · exact ih (by omega) x hx
      · rw [List.mem_singleton.1 hx]
        rcases h.first hlt with k | k
        · exact h'.sub _ (hf _ k)
        · cases hno' : inB fs' (atS fs i) with
          | true => exact inB_iff.1 hno'
          | false =>
          have hno : ¬ atS fs i ∈ fs' := fun e => by rw [inB_iff.2 e] at hno'; cases hno'
          obtain ⟨q, hqm, hh⟩ := List.any_eq_true.1 k
          have h2 := h'.no hno
          have : eqdB qs' (atS fs i) fs' = true := List.any_eq_true.2 ⟨q, hq q hqm, hit_mono (ih (by omega)) hh⟩
          rw [h2] at this
          cases this
  intro x hx
  exact key fs.length (Nat.le_refl _) x (by rw [List.take_length]; exact hx)
theorem atN_nodup (l : List XL) : (atN l).Nodup := foldN_nodup _ _ List.nodup_nil
theorem foldN_mem : ∀ (l out : List ByteArray) (x : ByteArray), x ∈ l.foldl addN out ↔ x ∈ out ∨ x ∈ l
  | [], out, x => by simp
  | n :: l, out, x => by
    rw [List.foldl_cons, foldN_mem l]
    unfold addN
    split
    · rename_i hc
      constructor
      · rintro (h | h)
        · exact .inl h
        · exact .inr (List.mem_cons_of_mem _ h)
      · rintro (h | h)
        · exact .inl h
        · rcases List.mem_cons.1 h with rfl | h
          · exact .inl (inB_iff.1 hc)
          · exact .inr h
    · rw [List.mem_append, List.mem_singleton, List.mem_cons]
      constructor
      · rintro ((h | h) | h)
        · exact .inl h
        · exact .inr (.inl h)
        · exact .inr (.inr h)
      · rintro (h | h | h)
        · exact .inl (.inl h)
        · exact .inl (.inr h)
        · exact .inr h
theorem atN_mem {l : List XL} {x : ByteArray} : x ∈ atN l ↔ ∃ y ∈ l, x ∈ avX y := by
  unfold atN avL
  rw [foldN_mem]
  simp [List.mem_flatMap]
theorem eqL_mem {d : Nat} {l : List XL} {q : Qn} : q ∈ eqL d l ↔ ∃ y ∈ l, q ∈ eqX d y := by
  unfold eqL
  simp [List.mem_flatMap]
end Go.Proofs.YtgfnijhhhgjabaaGreatDoor
end
section
namespace Go.Proofs.YtgfnijhhhgjabaaGreatDoor.EV
open Go.RowKit Go.Maps
set_option linter.unusedVariables false
set_option linter.unusedSimpArgs false

/-- what a name is under binds -/
def valN (l : List B) (n : ByteArray) : Option V := (seek l n).filter okV
theorem valOf_n {t : T} (h : ¬ t.v = noS) (l : List B) : valOf t l = valN l t.v := by unfold valOf valN; rw [if_neg h]
theorem valOf_c {t : T} (h : t.v = noS) (l : List B) : valOf t l = some t.a := by unfold valOf; rw [if_pos h]
theorem valN_ok {l : List B} {n : ByteArray} {x : V} (h : valN l n = some x) : seek l n = some x ∧ okV x = true := by
  unfold valN at h
  exact Option.filter_eq_some_iff.1 h
theorem valN_of {l : List B} {n : ByteArray} {x : V} (h : seek l n = some x) (hx : okV x = true) : valN l n = some x := by
  unfold valN
  exact Option.filter_eq_some_iff.2 ⟨h, hx⟩
theorem mapM_same {α β : Type} {f g : α → Option β} : ∀ (ks : List α), (∀ k ∈ ks, f k = g k) → ks.mapM f = ks.mapM g
  | [], _ => rfl
  | k :: ks, h => by
    rw [List.mapM_cons, List.mapM_cons, h k List.mem_cons_self, mapM_same ks (fun x hx => h x (List.mem_cons_of_mem _ hx))]
theorem mapM_some {α β : Type} {f : α → Option β} : ∀ (ks : List α) (vs : List β), ks.mapM f = some vs → ∀ k ∈ ks, ∃ y, f k = some y
  | [], _, _, k, hk => by cases hk
  | k :: ks, vs, h, x, hx => by
    rw [List.mapM_cons] at h
    cases hk : f k with
    | none => rw [hk] at h; cases h
    | some y =>
      rw [hk] at h
      cases hr : ks.mapM f with
      | none => rw [hr] at h; cases h
      | some ys =>
        rcases List.mem_cons.1 hx with rfl | hx
        · exact ⟨y, hk⟩
        · exact mapM_some ks ys hr x hx
theorem work_same {l l' : List B} : ∀ (d : Nat) (e : E), (∀ t ∈ termsD d e, valOf t l = valOf t l') → workV l d e = workV l' d e
  | 0, e, h => rfl
  | d + 1, e, h => by
    rw [workV, workV]
    rw [termsD_succ] at h
    split
    · exact h e.t List.mem_cons_self
    · rw [mapM_same e.kids (fun k hk => work_same d k (fun t ht => h t (List.mem_cons_of_mem _ (List.mem_flatMap.2 ⟨k, hk, ht⟩))))]
/-- an expression as it may be: no blank in it, and at an operation no term -/
theorem expr_leaf {r : Nat} {e : E} (h : exprB r e = true) (h0 : e.op = 0) : e.kids = [] ∧ ¬ e.t.v = blankS ∧ termB e.t = true := by
  cases r with
  | zero => cases h
  | succ r =>
    unfold exprB at h
    rw [if_pos h0] at h
    simp only [Bool.and_eq_true, decide_eq_true_eq] at h
    obtain ⟨⟨_, hk⟩, hn⟩ := h
    rw [h0] at hk
    unfold namedB at hn
    simp only [Bool.and_eq_true, Bool.not_eq_true', decide_eq_false_iff_not] at hn
    exact ⟨List.length_eq_zero_iff.1 hk, hn.1, hn.2⟩
theorem expr_op {r : Nat} {e : E} (h : exprB (r + 1) e = true) (h0 : ¬ e.op = 0) : e.t = T0 ∧ ∀ k ∈ e.kids, exprB r k = true := by
  unfold exprB at h
  rw [if_neg h0] at h
  simp only [Bool.and_eq_true, decide_eq_true_eq] at h
  exact ⟨h.2.2, List.all_eq_true.1 h.2.1⟩
theorem expr_named : ∀ (r d : Nat) (e : E), exprB r e = true → ∀ t ∈ termsD d e, ¬ t.v = blankS
  | 0, d, e, h, t, ht => by cases h
  | r + 1, 0, e, h, t, ht => by cases ht
  | r + 1, d + 1, e, h, t, ht => by
    rw [termsD_succ] at ht
    by_cases h0 : e.op = 0
    · obtain ⟨hk, hb, _⟩ := expr_leaf h h0
      rw [hk] at ht
      have ht' : t = e.t := by simpa using ht
      rw [ht']
      exact hb
    · obtain ⟨hT, hk⟩ := expr_op h h0
      rcases List.mem_cons.1 ht with rfl | ht
      · rw [hT]
        decide
      · obtain ⟨k, hk1, hk2⟩ := List.mem_flatMap.1 ht
        exact expr_named r d k (hk k hk1) t hk2
theorem work_some {l : List B} : ∀ (r d : Nat) (e : E) (x : V), exprB r e = true → workV l d e = some x → ∀ t ∈ termsD d e, ∃ y, valOf t l = some y
  | 0, d, e, x, h, _, t, ht => by cases h
  | r + 1, 0, e, x, h, hw, t, ht => by cases ht
  | r + 1, d + 1, e, x, h, hw, t, ht => by
    rw [termsD_succ] at ht
    rw [workV] at hw
    by_cases h0 : e.op = 0
    · obtain ⟨hk, hb, _⟩ := expr_leaf h h0
      rw [if_pos h0] at hw
      rw [hk] at ht
      have ht' : t = e.t := by simpa using ht
      rw [ht']
      exact ⟨x, hw⟩
    · obtain ⟨hT, hk⟩ := expr_op h h0
      rw [if_neg h0] at hw
      cases hm : e.kids.mapM (workV l d) with
      | none => rw [hm] at hw; cases hw
      | some vs =>
        rcases List.mem_cons.1 ht with rfl | ht
        · rw [hT]
          exact ⟨_, valOf_c rfl l⟩
        · obtain ⟨k, hk1, hk2⟩ := List.mem_flatMap.1 ht
          obtain ⟨y, hy⟩ := mapM_some e.kids vs hm k hk1
          exact work_some r d k y (hk k hk1) hy t hk2
theorem vsT_ne : ∀ (ts : List T) (out : List ByteArray), (∀ n ∈ out, ¬ n = noS ∧ ¬ n = blankS) → ∀ n ∈ vsT out ts, ¬ n = noS ∧ ¬ n = blankS
  | [], out, h, n, hn => h n hn
  | t :: ts, out, h, n, hn => by
    unfold vsT at hn
    split at hn
    · exact vsT_ne ts out h n hn
    · rename_i hc
      refine vsT_ne ts _ (fun x hx => ?_) n hn
      rcases List.mem_append.1 hx with hx | hx
      · exact h x hx
      · rw [List.mem_singleton.1 hx]
        exact ⟨fun e => hc (.inl e), fun e => hc (.inr (.inl e))⟩
/-- an expression's value hangs on its variables alone -/
theorem eval_same {l l' : List B} {d : Nat} {e : E} (h : ∀ n ∈ (sdE d e).vars, valN l n = valN l' n) : evalV l d e = evalV l' d e := by
  unfold evalV
  by_cases hb : exprB 8 e = true
  · rw [if_pos hb, if_pos hb]
    refine work_same d e (fun t ht => ?_)
    by_cases hv : t.v = noS
    · rw [valOf_c hv, valOf_c hv]
    · rw [valOf_n hv, valOf_n hv]
      exact h _ (vsT_has (termsD d e) [] t ht hv (expr_named 8 d e hb t ht))
  · rw [if_neg hb, if_neg hb]
theorem eval_vars {l : List B} {d : Nat} {e : E} {x : V} (h : evalV l d e = some x) : ∀ n ∈ (sdE d e).vars, ∃ y, valN l n = some y := by
  intro n hn
  unfold evalV at h
  by_cases hb : exprB 8 e = true
  · rw [if_pos hb] at h
    rcases vsT_mem (termsD d e) [] n hn with k | ⟨t, ht, rfl⟩
    · cases k
    · obtain ⟨y, hy⟩ := work_some 8 d e x hb h t ht
      have hne := vsT_ne (termsD d e) [] (fun _ k => by cases k) _ hn
      rw [valOf_n hne.1] at hy
      exact ⟨y, hy⟩
  · rw [if_neg hb] at h
    cases h
theorem eval_lone {l : List B} {d : Nat} {e : E} {v : ByteArray} {x : V} (hl : (sdE (d + 1) e).lone = some v) (h : evalV l (d + 1) e = some x) : valN l v = some x := by
  unfold sdE at hl
  simp only at hl
  split at hl
  · rename_i hc
    rw [vsT_leaf hc.2] at hl
    split at hl
    · cases hl
    · rename_i hn
      injection hl with hl
      subst hl
      unfold evalV at h
      split at h
      · rw [workV, if_pos hc.1, valOf_n (fun e => hn (.inl e))] at h
        exact h
      · cases h
  · cases hl
/-- the number nought -/
def n0 : V := ⟨1, 0, noS⟩
theorem n0_ok : okV n0 = true := by decide +kernel
/-- what an equation gives of a variable, these being bound -/
def giveL (d : Nat) (out : List B) (v : ByteArray) (y : XL) : Option V := if y.x.k = 3 ∧ y.x.rel = 1 then (if (sdE d y.x.l).lone = some v then evalV out d y.x.r else none).or (if (sdE d y.x.r).lone = some v then evalV out d y.x.l else none) else none
def findL (d : Nat) (bd : List XL) (out : List B) (v : ByteArray) : Option V := bd.findSome? (giveL d out v)
def stepL (d : Nat) (bd : List XL) (l out : List B) (v : ByteArray) : List B := if inB (atN bd) v = true then out ++ [⟨v, (valN l v).getD n0⟩] else match findL d bd out v with
  | some x => out ++ [⟨v, x⟩]
  | none => out
def solL (d : Nat) (bd : List XL) (l : List B) (vs : List ByteArray) : List B := vs.foldl (stepL d bd l) []
theorem sol_snoc (d : Nat) (bd : List XL) (l : List B) (vs : List ByteArray) (v : ByteArray) : solL d bd l (vs ++ [v]) = stepL d bd l (solL d bd l vs) v := by
  unfold solL
  rw [List.foldl_append]
  rfl
/-- all equations hold -/
def EqA (d : Nat) (bd : List XL) (l : List B) : Prop := ∀ y ∈ bd, y.x.k = 3 ∧ y.x.rel = 1 → ∃ x, evalV l d y.x.l = some x ∧ evalV l d y.x.r = some x
/-- what is bound is what was, and all is bound -/
structure Inv (l out : List B) (vs : List ByteArray) : Prop where
  sub : ∀ n x, seek out n = some x → n ∈ vs
  all : ∀ n ∈ vs, ∃ x, seek out n = some x ∧ okV x = true ∧ ∀ y, valN l n = some y → y = x
theorem Inv.agree {l out : List B} {vs : List ByteArray} (h : Inv l out vs) {n : ByteArray} (hn : n ∈ vs) {y : V} (hy : valN l n = some y) : valN out n = valN l n := by
  obtain ⟨x, h1, h2, h3⟩ := h.all n hn
  rw [hy, h3 y hy]
  exact valN_of h1 h2
theorem Inv.more {l out : List B} {vs : List ByteArray} (h : Inv l out vs) {v : ByteArray} {x : V} (hv : ¬ v ∈ vs) (hx : okV x = true) (hy : ∀ y, valN l v = some y → y = x) : Inv l (out ++ [⟨v, x⟩]) (vs ++ [v]) := by
  have hs : seek [(⟨v, x⟩ : B)] v = some x := by simp [seek]
  refine ⟨fun n z hz => ?_, fun n hn => ?_⟩
  · rw [seek_append] at hz
    cases ho : seek out n with
    | some z' => exact List.mem_append.2 (.inl (h.sub n z' ho))
    | none =>
      rw [ho, Option.none_or] at hz
      have := seek_mem hz
      rw [List.mem_singleton] at this
      injection this with e _
      exact List.mem_append.2 (.inr (by rw [e]; exact List.mem_singleton_self _))
  · rcases List.mem_append.1 hn with hn | hn
    · obtain ⟨z, h1, h2, h3⟩ := h.all n hn
      exact ⟨z, by rw [seek_append, h1]; rfl, h2, h3⟩
    · rw [List.mem_singleton.1 hn]
      have ho : seek out v = none := by
        cases ho : seek out v with
        | none => rfl
        | some z => exact absurd (h.sub v z ho) hv
      exact ⟨x, by rw [seek_append, ho]; exact hs, hx, hy⟩
/-- an expression whose equation holds has the same value under both, if all its variables are bound -/
theorem Inv.eval {l out : List B} {vs : List ByteArray} (h : Inv l out vs) {d : Nat} {e : E} {x : V} (he : evalV l d e = some x) (hv : ∀ n ∈ (sdE d e).vars, n ∈ vs) : evalV out d e = some x := by
  rw [← he]
  refine eval_same (fun n hn => ?_)
  obtain ⟨y, hy⟩ := eval_vars he n hn
  exact h.agree (hv n hn) hy
theorem give_ok {l out : List B} {vs : List ByteArray} (h : Inv l out vs) {d : Nat} {y : XL} {v : ByteArray} {x z : V} (hz : evalV l (d + 1) y.x.l = some z ∧ evalV l (d + 1) y.x.r = some z) (hg : giveL (d + 1) out v y = some x) : valN l v = some x := by
  have key : ∀ e e' : E, evalV l (d + 1) e = some z → evalV l (d + 1) e' = some z → (sdE (d + 1) e).lone = some v → evalV out (d + 1) e' = some x → valN l v = some x := fun e e' h1 h2 h3 h4 => by
    have : evalV out (d + 1) e' = some z := h.eval h2 (fun n hn => by
      obtain ⟨y, hy⟩ := eval_vars h4 n hn
      exact h.sub n y (valN_ok hy).1)
    rw [h4] at this
    injection this with this
    rw [this]
    exact eval_lone h3 h1
  unfold giveL at hg
  split at hg
  · rcases Option.or_eq_some_iff.1 hg with hg | ⟨_, hg⟩
    · split at hg
      · exact key y.x.l y.x.r hz.1 hz.2 (by assumption) hg
      · cases hg
    · split at hg
      · exact key y.x.r y.x.l hz.2 hz.1 (by assumption) hg
      · cases hg
  · cases hg
theorem give_is {l out : List B} {vs : List ByteArray} (h : Inv l out vs) {d : Nat} {y : XL} {v : ByteArray} {z : V} (hy : y.x.k = 3 ∧ y.x.rel = 1) (hz : evalV l (d + 1) y.x.l = some z ∧ evalV l (d + 1) y.x.r = some z) (hh : hitQ vs v (sdE (d + 1) y.x.l, sdE (d + 1) y.x.r) = true) : ∃ x, giveL (d + 1) out v y = some x := by
  unfold hitQ at hh
  simp only [Bool.or_eq_true, Bool.and_eq_true, decide_eq_true_eq] at hh
  unfold giveL
  rw [if_pos hy]
  rcases hh with ⟨h1, h2⟩ | ⟨h1, h2⟩
  · rw [if_pos h1, h.eval hz.2 (fun n hn => inB_iff.1 (List.all_eq_true.1 h2 n hn))]
    exact ⟨z, rfl⟩
  · rw [if_pos h1, h.eval hz.1 (fun n hn => inB_iff.1 (List.all_eq_true.1 h2 n hn))]
    cases (if (sdE (d + 1) y.x.l).lone = some v then evalV out (d + 1) y.x.r else none) with
    | none => exact ⟨z, rfl⟩
    | some u => exact ⟨u, rfl⟩
theorem inv_nil (l : List B) : Inv l [] [] := ⟨fun n x h => by simp [seek] at h, fun n hn => by cases hn⟩
/-- the assignment that is made out of one under which all equations hold -/
theorem sol_inv {d : Nat} {bd : List XL} {l : List B} {vs : List ByteArray} (hL : Lim (eqL (d + 1) bd) (atN bd) vs) (hn : (atN bd).Nodup) (hE : EqA (d + 1) bd l) : ∀ i, i ≤ vs.length → Inv l (solL (d + 1) bd l (vs.take i)) (vs.take i)
  | 0, _ => by rw [List.take_zero]; exact inv_nil l
  | i + 1, hi => by
    have ih := sol_inv hL hn hE i (by omega)
    have hlt : i < vs.length := by omega
    rw [takeS hlt, sol_snoc]
    have hnew : ¬ atS vs i ∈ vs.take i := fun k => by
      have := hL.ahead hn hlt
      rw [inB_iff.2 k] at this
      cases this
    have hf := hL.first hlt
    generalize solL (d + 1) bd l (vs.take i) = out at ih ⊢
    generalize atS vs i = v at hnew hf ⊢
    unfold stepL
    by_cases hA : inB (atN bd) v = true
    · rw [if_pos hA]
      refine ih.more hnew ?_ (fun y hy => by rw [hy]; rfl)
      cases hv : valN l v with
      | none => exact n0_ok
      | some x => exact (valN_ok hv).2
    · rw [if_neg hA]
      rcases hf with hf | hf
      · exact absurd (inB_iff.2 hf) hA
      · obtain ⟨q, hq, hh⟩ := List.any_eq_true.1 hf
        obtain ⟨y, hy, hqy⟩ := eqL_mem.1 hq
        have hey : y.x.k = 3 ∧ y.x.rel = 1 := by
          unfold eqX at hqy
          split at hqy
          · assumption
          · cases hqy
        have hqe : q = (sdE (d + 1) y.x.l, sdE (d + 1) y.x.r) := by
          unfold eqX at hqy
          rw [if_pos hey] at hqy
          exact List.mem_singleton.1 hqy
        rw [hqe] at hh
        obtain ⟨z, hz⟩ := hE y hy hey
        obtain ⟨x, hx⟩ := give_is ih hey hz hh
        cases hfd : findL (d + 1) bd out v with
        | none =>
          unfold findL at hfd
          rw [List.findSome?_eq_none_iff] at hfd
          rw [hfd y hy] at hx
          cases hx
        | some u =>
          unfold findL at hfd
          obtain ⟨y', hy', hg⟩ := List.exists_of_findSome?_eq_some hfd
          have hey' : y'.x.k = 3 ∧ y'.x.rel = 1 := by
            unfold giveL at hg
            split at hg
            · assumption
            · cases hg
          obtain ⟨z', hz'⟩ := hE y' hy' hey'
          have hu := give_ok ih hz' hg
          exact ih.more hnew (valN_ok hu).2 (fun y hy => by rw [hu] at hy; injection hy with hy; exact hy.symm)
theorem sol_all {d : Nat} {bd : List XL} {l : List B} {vs : List ByteArray} (hL : Lim (eqL (d + 1) bd) (atN bd) vs) (hn : (atN bd).Nodup) (hE : EqA (d + 1) bd l) {n : ByteArray} (hv : n ∈ vs) : ∃ x, valN (solL (d + 1) bd l vs) n = some x ∧ ∀ y, valN l n = some y → y = x := by
  have h := sol_inv hL hn hE vs.length (Nat.le_refl _)
  rw [List.take_length] at h
  obtain ⟨x, h1, h2, h3⟩ := h.all n hv
  exact ⟨x, valN_of h1 h2, h3⟩
end Go.Proofs.YtgfnijhhhgjabaaGreatDoor.EV
end
