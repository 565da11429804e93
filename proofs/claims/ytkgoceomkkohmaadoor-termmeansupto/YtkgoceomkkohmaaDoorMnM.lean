import Derived.Test.YtkgoceomkkohmaaDoorEvEval
import Derived.Test.YtkgoceomkkohmaaDoorTreeVA
namespace Go.Proofs.YtkgoceomkkohmaaDoor
open Go.RowKit Go.Maps
set_option linter.unusedVariables false
set_option linter.unusedSimpArgs false

/-! the mathematics of TermMeans -/
def firstB (l : List B) (v : ByteArray) : Option B := l.find? (fun b => decide (b.v = v))
/-- what a list says of names, the first of each -/
def ownOf (l : List B) (vs : List ByteArray) : List B := vs.flatMap (fun v => (firstB l v).toList)
def thereB (l : List B) (v : ByteArray) : Bool := match firstB l v with | some b => okV b.a | none => false
def allOf (l : List B) (vs : List ByteArray) : Bool := vs.all (thereB l)
theorem seek_first (l : List B) (v : ByteArray) : seek l v = (firstB l v).map B.a := rfl
theorem firstB_v {l : List B} {v : ByteArray} {b : B} (h : firstB l v = some b) : b.v = v := by
  have := List.find?_some h
  simpa using this
theorem firstB_mem {l : List B} {v : ByteArray} {b : B} (h : firstB l v = some b) : b ∈ l := List.mem_of_find?_eq_some h
theorem ownOf_cons (l : List B) (u : ByteArray) (vs : List ByteArray) : ownOf l (u :: vs) = (firstB l u).toList ++ ownOf l vs := rfl
theorem seek_cons (b : B) (l : List B) (v : ByteArray) : seek (b :: l) v = if b.v = v then some b.a else seek l v := by
  unfold seek
  rw [List.find?_cons]
  by_cases h : b.v = v
  · simp [h]
  · simp [h]
theorem seek_own {l : List B} : ∀ {vs : List ByteArray} {v : ByteArray}, v ∈ vs → seek (ownOf l vs) v = seek l v
  | [], v, h => absurd h (by simp)
  | u :: vs, v, h => by
    rw [ownOf_cons]
    cases hf : firstB l u with
    | none =>
      simp only [Option.toList_none, List.nil_append]
      rcases List.mem_cons.1 h with e | hm
      · subst e
        by_cases hm : v ∈ vs
        · exact seek_own hm
        · rw [seek_first l v, hf, Option.map_none]
          rw [seek_none]
          intro b hb
          obtain ⟨x, hx, hbx⟩ := List.mem_flatMap.1 hb
          rw [Option.mem_toList] at hbx
          rw [firstB_v hbx]
          rintro rfl
          exact hm hx
      · exact seek_own hm
    | some b =>
      simp only [Option.toList_some, List.cons_append, List.nil_append]
      rw [seek_cons, firstB_v hf]
      by_cases e : u = v
      · subst e
        rw [if_pos rfl, seek_first, hf]
        rfl
      · rw [if_neg e]
        rcases List.mem_cons.1 h with e2 | hm
        · exact absurd e2.symm e
        · exact seek_own hm
theorem ownOf_len (l : List B) : ∀ vs : List ByteArray, (ownOf l vs).length ≤ vs.length
  | [] => Nat.le_refl _
  | u :: vs => by
    rw [ownOf_cons, List.length_append, List.length_cons]
    have := ownOf_len l vs
    cases firstB l u <;> simp <;> omega
theorem ownOf_wf {l : List B} (h : ∀ b ∈ l, b.wf) (vs : List ByteArray) : ∀ b ∈ ownOf l vs, b.wf := by
  intro b hb
  obtain ⟨x, _, hbx⟩ := List.mem_flatMap.1 hb
  rw [Option.mem_toList] at hbx
  exact h b (firstB_mem hbx)
theorem ownOf_snoc (l : List B) (vs : List ByteArray) (v : ByteArray) : ownOf l (vs ++ [v]) = ownOf l vs ++ (firstB l v).toList := by
  unfold ownOf
  rw [List.flatMap_append]
  simp
theorem allOf_snoc (l : List B) (vs : List ByteArray) (v : ByteArray) : allOf l (vs ++ [v]) = (allOf l vs && thereB l v) := by
  unfold allOf
  rw [List.all_append]
  simp
theorem takeS {l : List ByteArray} {k : Nat} (h : k < l.length) : l.take (k + 1) = l.take k ++ [atS l k] := by
  rw [List.take_add_one, List.getElem?_eq_getElem h, atS_eq h]; rfl
theorem first_here {l : List B} {n : ByteArray} {k : Nat} (h : k < l.length) (hb : ∀ j, j < k → (atB l j).v ≠ n) (e : (atB l k).v = n) : firstB l n = some (atB l k) := by
  unfold firstB
  rw [List.find?_eq_some_iff_getElem]
  refine ⟨by simp [e], k, h, (atB_eq h).symm, fun j hj => ?_⟩
  have := hb j hj
  rw [atB_eq (by omega)] at this
  simpa using this
theorem first_no {l : List B} {n : ByteArray} (hb : ∀ j, j < l.length → (atB l j).v ≠ n) : firstB l n = none := by
  unfold firstB
  rw [List.find?_eq_none]
  intro x hx
  obtain ⟨j, hj, rfl⟩ := List.getElem_of_mem hx
  have := hb j hj
  rw [atB_eq hj] at this
  simpa using this
theorem there_some {l : List B} {v : ByteArray} (h : thereB l v = true) : ∃ b, firstB l v = some b ∧ okV b.a = true := by
  unfold thereB at h
  cases hf : firstB l v with
  | none => rw [hf] at h; cases h
  | some b => rw [hf] at h; exact ⟨b, rfl, h⟩
theorem there_filter (l : List B) (v : ByteArray) : thereB l v = ((seek l v).filter okV).isSome := by
  unfold thereB
  rw [seek_first]
  cases firstB l v with
  | none => rfl
  | some b => simp only [Option.map_some, Option.filter]; cases okV b.a <;> rfl
theorem mapM_congrE {f g : E → Option V} : ∀ {ks : List E}, (∀ x ∈ ks, f x = g x) → ks.mapM f = ks.mapM g
  | [], _ => rfl
  | x :: ks, h => by
    rw [List.mapM_cons, List.mapM_cons, h x List.mem_cons_self, mapM_congrE (fun y hy => h y (List.mem_cons_of_mem _ hy))]
theorem mapM_mapE {f : E → Option V} {g : E → E} : ∀ {ks : List E}, (ks.map g).mapM f = ks.mapM (fun x => f (g x))
  | [] => rfl
  | x :: ks => by rw [List.map_cons, List.mapM_cons, List.mapM_cons, mapM_mapE]
theorem workV_congr {l l' : List B} : ∀ (d : Nat) (e : E), (∀ t ∈ termsD d e, t.v ≠ noS → seek l t.v = seek l' t.v) → workV l d e = workV l' d e
  | 0, _, _ => rfl
  | d + 1, e, h => by
    unfold workV
    split
    · unfold valOf
      by_cases ht : e.t.v = noS
      · rw [if_pos ht, if_pos ht]
      · rw [if_neg ht, if_neg ht, h e.t (by rw [termsD_succ]; exact List.mem_cons_self) ht]
    · rw [mapM_congrE (fun x hx => workV_congr d x (fun t ht => h t (by rw [termsD_succ]; exact List.mem_cons_of_mem _ (List.mem_flatMap.2 ⟨x, hx, ht⟩))))]
theorem exprB_parts {r : Nat} {e : E} (h : exprB (r + 1) e = true) : (e.op = 0 ∧ e.kids = [] ∧ namedB e.t = true) ∨ (e.op ≠ 0 ∧ (∀ x ∈ e.kids, exprB r x = true) ∧ e.t = T0) := by
  unfold exprB at h
  simp only [Bool.and_eq_true, decide_eq_true_eq] at h
  obtain ⟨⟨⟨h1, h2⟩, h3⟩, h4⟩ := h
  by_cases h0 : e.op = 0
  · rw [if_pos h0] at h4
    rw [h0] at h3
    exact .inl ⟨h0, List.eq_nil_of_length_eq_zero h3, h4⟩
  · rw [if_neg h0, Bool.and_eq_true, decide_eq_true_eq] at h4
    exact .inr ⟨h0, List.all_eq_true.1 h4.1, h4.2⟩
theorem exprB_noblank : ∀ (d r : Nat) (e : E), exprB r e = true → ∀ t ∈ termsD d e, t.v ≠ blankS
  | 0, _, _, _, t, ht => absurd ht (by simp [termsD])
  | d + 1, 0, _, h, _, _ => by cases h
  | d + 1, r + 1, e, h, t, ht => by
    rw [termsD_succ] at ht
    rcases exprB_parts h with ⟨_, hk, hn⟩ | ⟨_, hk, ht0⟩
    · rw [hk] at ht
      simp only [List.flatMap_nil, List.mem_singleton] at ht
      subst ht
      unfold namedB at hn
      simp only [Bool.and_eq_true, Bool.not_eq_true', decide_eq_false_iff_not] at hn
      exact hn.1
    · rcases List.mem_cons.1 ht with rfl | ht
      · rw [ht0]
        exact fun e => blank_some e.symm
      · obtain ⟨x, hx, htx⟩ := List.mem_flatMap.1 ht
        exact exprB_noblank d r x (hk x hx) t htx
theorem mapM_none_mem {f : E → Option V} : ∀ {ks : List E} {x : E}, x ∈ ks → f x = none → ks.mapM f = none
  | [], x, h, _ => absurd h (by simp)
  | y :: ks, x, h, hn => by
    rw [List.mapM_cons]
    rcases List.mem_cons.1 h with rfl | hm
    · rw [hn]; rfl
    · rw [mapM_none_mem hm hn]
      cases f y <;> rfl
theorem workV_none {l : List B} : ∀ (d r : Nat) (e : E), exprB r e = true → (∃ t ∈ termsD d e, t.v ≠ noS ∧ (seek l t.v).filter okV = none) → workV l d e = none
  | 0, _, _, _, _ => rfl
  | d + 1, 0, _, h, _ => by cases h
  | d + 1, r + 1, e, h, ⟨t, ht, hv, hs⟩ => by
    rw [termsD_succ] at ht
    unfold workV
    rcases exprB_parts h with ⟨h0, hk, hn⟩ | ⟨h0, hk, ht0⟩
    · rw [if_pos h0]
      rw [hk] at ht
      simp only [List.flatMap_nil, List.mem_singleton] at ht
      subst ht
      unfold valOf
      rw [if_neg hv, hs]
    · rw [if_neg h0]
      rcases List.mem_cons.1 ht with rfl | ht
      · exact absurd (by rw [ht0]; rfl) hv
      · obtain ⟨x, hx, htx⟩ := List.mem_flatMap.1 ht
        rw [mapM_none_mem hx (workV_none d r x (hk x hx) ⟨t, htx, hv, hs⟩)]
        rfl
theorem exprB_more : ∀ (r : Nat) (e : E), exprB r e = true → exprB (r + 1) e = true
  | 0, _, h => by cases h
  | r + 1, e, h => by
    unfold exprB at h ⊢
    simp only [Bool.and_eq_true, decide_eq_true_eq] at h ⊢
    refine ⟨h.1, ?_⟩
    have h4 := h.2
    by_cases h0 : e.op = 0
    · rw [if_pos h0] at h4 ⊢; exact h4
    · rw [if_neg h0, Bool.and_eq_true, List.all_eq_true] at h4 ⊢
      exact ⟨fun x hx => exprB_more r x (h4.1 x hx), h4.2⟩
/-- the names in an expression -/
abbrev namesE (d : Nat) (e : E) : List ByteArray := vsT [] (termsD d e)
theorem names_has {d r : Nat} {e : E} (h : exprB r e = true) {t : T} (ht : t ∈ termsD d e) (hv : t.v ≠ noS) : t.v ∈ namesE d e := vsT_has _ _ t ht hv (exprB_noblank d r e h t ht)
theorem names_of {d : Nat} {e : E} {v : ByteArray} (h : v ∈ namesE d e) : ∃ t ∈ termsD d e, t.v = v := by
  rcases vsT_mem _ _ _ h with h | h
  · exact absurd h (by simp)
  · exact h
theorem names_some : ∀ (ts : List T) (out : List ByteArray), (∀ n ∈ out, n ≠ noS) → ∀ n ∈ vsT out ts, n ≠ noS
  | [], out, h, n, hn => h n hn
  | t :: ts, out, h, n, hn => by
    by_cases hs : t.v = noS ∨ t.v = blankS ∨ inB out t.v = true
    · rw [vsT_skip hs] at hn
      exact names_some ts out h n hn
    · have h1 : ¬ t.v = noS := fun e => hs (.inl e)
      rw [vsT_take h1 (fun e => hs (.inr (.inl e))) (fun e => hs (.inr (.inr e)))] at hn
      refine names_some ts _ (fun m hm => ?_) n hn
      rcases List.mem_append.1 hm with hm | hm
      · exact h m hm
      · rw [List.mem_singleton.1 hm]; exact h1
theorem evalV_same {l l' : List B} {d : Nat} {e : E} (h : ∀ v ∈ namesE d e, seek l' v = seek l v) : evalV l' d e = evalV l d e := by
  unfold evalV
  by_cases hx : exprB 8 e = true
  · rw [if_pos hx, if_pos hx]
    exact workV_congr d e (fun t ht hv => h _ (names_has hx ht hv))
  · rw [if_neg hx, if_neg hx]
theorem eval_lost {l : List B} {d : Nat} {e : E} (hx : exprB 8 e = true) (h : allOf l (namesE d e) = false) : evalV l d e = none := by
  unfold evalV
  rw [if_pos hx]
  have : ∃ v ∈ namesE d e, thereB l v = false := by
    by_cases hh : ∃ v ∈ namesE d e, thereB l v = false
    · exact hh
    · have : allOf l (namesE d e) = true := List.all_eq_true.2 (fun v hv => by
        cases hb : thereB l v with
        | true => rfl
        | false => exact absurd ⟨v, hv, hb⟩ hh)
      rw [this] at h
      cases h
  obtain ⟨v, hv, hb⟩ := this
  obtain ⟨t, ht, rfl⟩ := names_of hv
  refine workV_none d 8 e hx ⟨t, ht, names_some _ [] (by simp) _ hv, ?_⟩
  rw [there_filter] at hb
  cases hh : (seek l t.v).filter okV with
  | none => rfl
  | some x => rw [hh] at hb; cases hb
/-- one more bind, ahead or behind, as the statement puts it -/
theorem seek_more {l own : List B} {vs : List ByteArray} {all : Bool} (hs : ∀ v ∈ vs, seek own v = seek l v) (ha : all = true → ∀ v ∈ vs, thereB l v = true) (m : B) :
    (inB vs m.v = true → all = true → ∀ v ∈ vs, seek (own ++ [m]) v = seek l v) ∧ (inB vs m.v = false → ∀ v ∈ vs, seek (m :: own) v = seek l v) := by
  refine ⟨fun _ h2 v hv => ?_, fun h1 v hv => ?_⟩
  · rw [seek_append, hs v hv]
    obtain ⟨b, hb, _⟩ := there_some (ha h2 v hv)
    rw [seek_first l v, hb]
    rfl
  · rw [seek_cons, if_neg, hs v hv]
    rintro rfl
    rw [inB_iff.2 hv] at h1
    cases h1
theorem all_there {l : List B} {vs : List ByteArray} (h : allOf l vs = true) : ∀ v ∈ vs, thereB l v = true := List.all_eq_true.1 h
/-- pairs of binds -/
def pairB (b : B) : P := ⟨b.v, ⟨noS, b.a⟩⟩
theorem pairB_wf {b : B} (h : b.wf) : (pairB b).wf := ⟨h.text, ⟨by show noS.size ≤ _; decide, h.val⟩⟩
/-- an expression with its variables replaced -/
def applyD (ps : List P) : Nat → E → E
  | 0, e => e
  | d + 1, e => .mk e.op (putT ps e.t) (e.kids.map (applyD ps d))
theorem res_pairs (own : List B) (t : T) : res (own.map pairB) t = match seek own t.v with | some a => ⟨noS, a⟩ | none => t := by
  unfold res seek
  rw [List.find?_map]
  have : (own.find? ((fun p : P => decide (p.v = t.v)) ∘ pairB)) = own.find? (fun b => decide (b.v = t.v)) := rfl
  rw [this]
  cases own.find? (fun b => decide (b.v = t.v)) <;> rfl
theorem put_there {own l : List B} {t : T} (hv : t.v ≠ noS) (hb : t.v ≠ blankS) (hs : seek own t.v = seek l t.v) (ht : thereB l t.v = true) : ∃ a, putT (own.map pairB) t = ⟨noS, a⟩ ∧ seek l t.v = some a ∧ okV a = true := by
  obtain ⟨b, hf, ho⟩ := there_some ht
  have hl : seek l t.v = some b.a := by rw [seek_first, hf]; rfl
  refine ⟨b.a, ?_, hl, ho⟩
  unfold putT
  rw [if_neg (fun h => h.elim hv hb), res_pairs, hs, hl]
theorem put_plain (ps : List P) {t : T} (hv : t.v = noS) : putT ps t = t := by unfold putT; rw [if_pos (.inl hv)]
theorem apply_ok {own l : List B} : ∀ (d r : Nat) (e : E), exprB r e = true → (∀ t ∈ termsD d e, t.v ≠ noS → seek own t.v = seek l t.v ∧ thereB l t.v = true) → exprB r (applyD (own.map pairB) d e) = true ∧ workV [] d (applyD (own.map pairB) d e) = workV l d e
  | 0, _, _, h, _ => ⟨h, rfl⟩
  | d + 1, 0, _, h, _ => by cases h
  | d + 1, r + 1, e, h, hs => by
    have hnb := exprB_noblank (d + 1) (r + 1) e h
    have hhead : e.t ∈ termsD (d + 1) e := by rw [termsD_succ]; exact List.mem_cons_self
    have hkid : ∀ x ∈ e.kids, ∀ t ∈ termsD d x, t ∈ termsD (d + 1) e := fun x hx t ht => by rw [termsD_succ]; exact List.mem_cons_of_mem _ (List.mem_flatMap.2 ⟨x, hx, ht⟩)
    have hh := h
    rcases exprB_parts h with ⟨h0, hk, hn⟩ | ⟨h0, hk, ht0⟩
    · have k1 : exprB (r + 1) (applyD (own.map pairB) (d + 1) e) = (decide (0 ≤ e.op) && decide (e.op < 11) && decide ((e.kids.map (applyD (own.map pairB) d)).length = kidsOf e.op.toNat) && (if e.op = 0 then namedB (putT (own.map pairB) e.t) else (e.kids.map (applyD (own.map pairB) d)).all (exprB r) && decide (putT (own.map pairB) e.t = T0))) := rfl
      have k2 : workV [] (d + 1) (applyD (own.map pairB) (d + 1) e) = if e.op = 0 then valOf (putT (own.map pairB) e.t) [] else ((e.kids.map (applyD (own.map pairB) d)).mapM (workV [] d)).bind (arO e.op) := rfl
      have k3 : workV l (d + 1) e = if e.op = 0 then valOf e.t l else (e.kids.mapM (workV l d)).bind (arO e.op) := rfl
      rw [k1, k2, k3, if_pos h0, if_pos h0, if_pos h0, List.length_map]
      unfold exprB at hh
      simp only [Bool.and_eq_true] at hh ⊢
      by_cases hv : e.t.v = noS
      · rw [put_plain _ hv]
        refine ⟨⟨hh.1, hn⟩, ?_⟩
        unfold valOf
        rw [if_pos hv, if_pos hv]
      · obtain ⟨a, e1, e2, e3⟩ := put_there hv (hnb _ hhead) (hs _ hhead hv).1 (hs _ hhead hv).2
        rw [e1]
        refine ⟨⟨hh.1, ?_⟩, ?_⟩
        · show (!decide (noS = blankS) && (if noS = noS then okV a else _)) = true
          rw [if_pos rfl, e3]
          decide
        · unfold valOf
          rw [if_pos rfl, if_neg hv, e2]
          simp [Option.filter, e3]
    · have k1 : exprB (r + 1) (applyD (own.map pairB) (d + 1) e) = (decide (0 ≤ e.op) && decide (e.op < 11) && decide ((e.kids.map (applyD (own.map pairB) d)).length = kidsOf e.op.toNat) && (if e.op = 0 then namedB (putT (own.map pairB) e.t) else (e.kids.map (applyD (own.map pairB) d)).all (exprB r) && decide (putT (own.map pairB) e.t = T0))) := rfl
      have k2 : workV [] (d + 1) (applyD (own.map pairB) (d + 1) e) = if e.op = 0 then valOf (putT (own.map pairB) e.t) [] else ((e.kids.map (applyD (own.map pairB) d)).mapM (workV [] d)).bind (arO e.op) := rfl
      have k3 : workV l (d + 1) e = if e.op = 0 then valOf e.t l else (e.kids.mapM (workV l d)).bind (arO e.op) := rfl
      rw [k1, k2, k3, if_neg h0, if_neg h0, if_neg h0, List.length_map]
      unfold exprB at hh
      simp only [Bool.and_eq_true, List.all_eq_true, decide_eq_true_eq] at hh ⊢
      refine ⟨⟨hh.1, ⟨fun y hy => ?_, ?_⟩⟩, ?_⟩
      · obtain ⟨x, hx, rfl⟩ := List.mem_map.1 hy
        exact (apply_ok d r x (hk x hx) (fun t ht => hs t (hkid x hx t ht))).1
      · rw [put_plain _ (by rw [ht0]; rfl), ht0]
      · rw [mapM_mapE, mapM_congrE (fun x hx => (apply_ok d r x (hk x hx) (fun t ht => hs t (hkid x hx t ht))).2)]
theorem eval_apply {own l : List B} {d : Nat} {e : E} (hx : exprB 8 e = true) (hs : ∀ v ∈ namesE d e, seek own v = seek l v) (ha : allOf l (namesE d e) = true) : evalV [] d (applyD (own.map pairB) d e) = evalV l d e := by
  have := apply_ok (own := own) (l := l) d 8 e hx (fun t ht hv => ⟨hs _ (names_has hx ht hv), all_there ha _ (names_has hx ht hv)⟩)
  unfold evalV
  rw [if_pos this.1, if_pos hx, this.2]
end Go.Proofs.YtkgoceomkkohmaaDoor
