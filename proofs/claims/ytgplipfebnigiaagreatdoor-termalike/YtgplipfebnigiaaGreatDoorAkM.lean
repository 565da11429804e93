import Derived.Test.YtgplipfebnigiaaGreatDoorG36
namespace Go.Proofs.YtgplipfebnigiaaGreatDoor
open Go.RowKit Go.Maps
set_option linter.unusedVariables false
set_option linter.unusedSimpArgs false

/-! the mathematics of TermAlike: variables changed one for one, and two made one -/
theorem vsT_nodup : ∀ (ts : List T) (out : List ByteArray), out.Nodup → (vsT out ts).Nodup
  | [], out, h => by simpa [vsT] using h
  | t :: ts, out, h => by
    unfold vsT
    split
    · exact vsT_nodup ts out h
    · rename_i hc
      refine vsT_nodup ts _ ?_
      rw [List.nodup_append]
      refine ⟨h, by simp, fun a ha b hb => ?_⟩
      rw [List.mem_singleton.1 hb]
      rintro rfl
      exact hc (.inr (.inr (inB_iff.2 ha)))
theorem nodup_le : ∀ (l m : List ByteArray), l.Nodup → (∀ x ∈ l, x ∈ m) → l.length ≤ m.length
  | [], m, _, _ => Nat.zero_le _
  | x :: l, m, h, hm => by
    rw [List.nodup_cons] at h
    have hx : x ∈ m := hm x List.mem_cons_self
    have hlt : (m.filter (fun y => decide (y ≠ x))).length < m.length := by
      rw [List.length_filter_lt_length_iff_exists]
      exact ⟨x, hx, by simp⟩
    have := nodup_le l (m.filter (fun y => decide (y ≠ x))) h.2 (fun y hy => by
      rw [List.mem_filter]
      exact ⟨hm y (List.mem_cons_of_mem _ hy), decide_eq_true (fun e => h.1 (e ▸ hy))⟩)
    rw [List.length_cons]
    omega
theorem Kp.vsT_map {f : T → T} {g : ByteArray → ByteArray} (h : Kp f g) : ∀ (l : List T) (out : List ByteArray), (∀ x ∈ vsT out l, ∀ y ∈ vsT out l, g x = g y → x = y) → vsT (out.map g) (l.map f) = (vsT out l).map g
  | [], out, _ => by simp [vsT]
  | t :: l, out, hi => by
    rw [List.map_cons, vsT, vsT]
    by_cases e : t.v = noS ∨ t.v = blankS
    · have e1 : t.v = noS ∨ t.v = blankS ∨ inB out t.v = true := by rcases e with e | e; exact .inl e; exact .inr (.inl e)
      have e2 : t.v = noS ∨ t.v = blankS ∨ inB (out.map g) t.v = true := by rcases e with e | e; exact .inl e; exact .inr (.inl e)
      rw [h.same t e, if_pos e1, if_pos e2]
      refine h.vsT_map l out ?_
      rw [vsT, if_pos e1] at hi
      exact hi
    · obtain ⟨e1, e2⟩ := h.name t e
      have hn : ¬ t.v = noS := fun k => e (.inl k)
      have hb : ¬ t.v = blankS := fun k => e (.inr k)
      have ht : t.v ∈ vsT out (t :: l) := vsT_has (t :: l) out t List.mem_cons_self hn hb
      rw [e1]
      by_cases hin : inB out t.v = true
      · have c1 : g t.v = noS ∨ g t.v = blankS ∨ inB (out.map g) (g t.v) = true := .inr (.inr (inB_iff.2 (List.mem_map.2 ⟨_, inB_iff.1 hin, rfl⟩)))
        rw [if_pos c1, if_pos (.inr (.inr hin))]
        refine h.vsT_map l out ?_
        rw [vsT, if_pos (.inr (.inr hin))] at hi
        exact hi
      · have c1 : ¬ (g t.v = noS ∨ g t.v = blankS ∨ inB (out.map g) (g t.v) = true) := by
          rintro (k | k | k)
          · exact e2 (.inl k)
          · exact e2 (.inr k)
          · obtain ⟨x, hx, hg⟩ := List.mem_map.1 (inB_iff.1 k)
            have := hi x (vsT_keeps _ _ _ hx) _ ht hg
            rw [this] at hx
            exact hin (inB_iff.2 hx)
        have c2 : ¬ (t.v = noS ∨ t.v = blankS ∨ inB out t.v = true) := by
          rintro (k | k | k)
          · exact hn k
          · exact hb k
          · exact hin k
        rw [if_neg c1, if_neg c2]
        rw [vsT, if_neg c2] at hi
        have := h.vsT_map l (out ++ [t.v]) hi
        rw [List.map_append] at this
        exact this
theorem apD_comp (f h : T → T) : ∀ (d : Nat) (e : E), apD h d (apD f d e) = apD (fun t => h (f t)) d e
  | 0, e => rfl
  | d + 1, e => by
    rw [apD_succ, apD_succ, apD_succ]
    simp only [op_mk, t_mk, kids_mk, List.map_map]
    congr 1
    refine List.map_congr_left fun x _ => ?_
    exact apD_comp f h d x
theorem apD_congr {f h : T → T} : ∀ (d : Nat) (e : E), (∀ t ∈ termsD d e, f t = h t) → apD f d e = apD h d e
  | 0, e, _ => rfl
  | d + 1, e, hh => by
    rw [termsD_succ] at hh
    rw [apD_succ, apD_succ, hh e.t List.mem_cons_self]
    congr 1
    refine List.map_congr_left fun x hx => ?_
    exact apD_congr d x (fun t ht => hh t (List.mem_cons_of_mem _ (List.mem_flatMap.2 ⟨x, hx, ht⟩)))
theorem apL_comp (f h : T → T) (d : Nat) (x : Lit4) : apL h d (apL f d x) = apL (fun t => h (f t)) d x := by
  unfold apL
  simp only [List.map_map, apD_comp]
  rfl
theorem apL_congr {f h : T → T} (d : Nat) (x : Lit4) (hh : ∀ t ∈ termsL d x, f t = h t) : apL f d x = apL h d x := by
  unfold termsL at hh
  unfold apL
  rw [apD_congr d x.l (fun t ht => hh t (by simp [ht])), apD_congr d x.r (fun t ht => hh t (by simp [ht])), List.map_congr_left (fun t ht => hh t (by simp [ht]))]
theorem apR_comp (f h : T → T) (d : Nat) (r : R3) : apR h d (apR f d r) = apR (fun t => h (f t)) d r := by
  unfold apR
  simp only [List.map_map]
  congr 1
  refine List.map_congr_left fun y _ => ?_
  simp only [Function.comp, apX, apL_comp]
theorem apR_congr {f h : T → T} (d : Nat) (r : R3) (hh : ∀ t ∈ termsR d r, f t = h t) : apR f d r = apR h d r := by
  unfold termsR at hh
  unfold apR
  have e1 : r.hd.map (apA f) = r.hd.map (apA h) := List.map_congr_left fun y hy => by
    unfold apA
    rw [hh y.t (List.mem_append.2 (.inl (List.mem_map.2 ⟨y, hy, rfl⟩)))]
  have e2 : r.bd.map (apX f d) = r.bd.map (apX h d) := List.map_congr_left fun y hy => by
    unfold apX
    rw [apL_congr d y.x (fun t ht => hh t (List.mem_append.2 (.inr (List.mem_flatMap.2 ⟨y, hy, ht⟩))))]
  rw [e1, e2]
/-- where a name first stands among pairs of numbered names -/
theorem find_cn (vs : List ByteArray) (x : ByteArray) : ∀ k, k ≤ vs.length → (∃ i, i < k ∧ vs[i]? = some x) → ∃ i, i < k ∧ vs[i]? = some x ∧ (∀ j, j < i → vs[j]? ≠ some x) := by
  intro k hk ⟨i, hi, hx⟩
  induction i using Nat.strongRecOn with
  | _ i ih =>
    by_cases h : ∃ j, j < i ∧ vs[j]? = some x
    · obtain ⟨j, hj, hx'⟩ := h
      exact ih j hj (by omega) hx'
    · exact ⟨i, hi, hx, fun j hj e => h ⟨j, hj, e⟩⟩
theorem res_cn {vs : List ByteArray} {t : T} {i : Nat} (hi : vs[i]? = some t.v) (hf : ∀ j, j < i → vs[j]? ≠ some t.v) {k : Nat} (hk : k ≤ vs.length) (hik : i < k) : (cnP vs k).find? (fun p => decide (p.v = t.v)) = some ⟨atS vs i, ⟨cnS i, V0⟩⟩ := by
  rw [List.find?_eq_some_iff_getElem]
  have hlt : i < vs.length := by omega
  have e0 : atS vs i = t.v := by rw [atS_eq hlt]; rw [List.getElem?_eq_getElem hlt] at hi; exact Option.some.inj hi
  refine ⟨decide_eq_true e0, i, by rw [cnP_len]; exact hik, by simp [cnP], fun j hj => ?_⟩
  have hjl : j < vs.length := by omega
  simp only [cnP, List.getElem_map, List.getElem_range, Bool.not_eq_true', decide_eq_false_iff_not]
  intro e
  refine hf j hj ?_
  rw [List.getElem?_eq_getElem hjl, ← atS_eq hjl, e]
theorem cn_arr1 : ∀ i j : Fin 10, (⟨#[86, UInt8.ofNat (48 + i.val)]⟩ : ByteArray) = ⟨#[86, UInt8.ofNat (48 + j.val)]⟩ → i = j := by decide
theorem cn_arr2 : ∀ i j : Fin 24, (⟨#[86, UInt8.ofNat (48 + i.val / 10), UInt8.ofNat (48 + i.val % 10)]⟩ : ByteArray) = ⟨#[86, UInt8.ofNat (48 + j.val / 10), UInt8.ofNat (48 + j.val % 10)]⟩ → i = j := by decide
theorem cnS_inj {i j : Nat} (hi : i < 24) (hj : j < 24) (h : cnS i = cnS j) : i = j := by
  by_cases h1 : i < 10
  · by_cases h2 : j < 10
    · rw [cnS_one h1, cnS_one h2] at h
      exact congrArg Fin.val (cn_arr1 ⟨i, h1⟩ ⟨j, h2⟩ h)
    · rw [cnS_one h1, cnS_two h2 (by omega)] at h
      have := congrArg ByteArray.size h
      exact absurd (show (2 : Nat) = 3 from this) (by decide)
  · by_cases h2 : j < 10
    · rw [cnS_two h1 (by omega), cnS_one h2] at h
      have := congrArg ByteArray.size h
      exact absurd (show (3 : Nat) = 2 from this) (by decide)
    · rw [cnS_two h1 (by omega), cnS_two h2 (by omega)] at h
      exact congrArg Fin.val (cn_arr2 ⟨i, hi⟩ ⟨j, hj⟩ h)
theorem mem_first {vs : List ByteArray} {x : ByteArray} (h : x ∈ vs) : ∃ i, i < vs.length ∧ vs[i]? = some x ∧ (∀ j, j < i → vs[j]? ≠ some x) := by
  obtain ⟨i, hi, e⟩ := List.getElem_of_mem h
  exact find_cn vs x vs.length (Nat.le_refl _) ⟨i, hi, by rw [List.getElem?_eq_getElem hi, e]⟩
theorem nm_cn {vs : List ByteArray} {x : ByteArray} {i : Nat} (hi : vs[i]? = some x) (hf : ∀ j, j < i → vs[j]? ≠ some x) (hil : i < vs.length) : nmP (cnP vs vs.length) x = cnS i := by
  unfold nmP
  rw [res_cn (t := ⟨x, V0⟩) hi hf (Nat.le_refl _) hil]
theorem cn_inj {vs : List ByteArray} (h24 : vs.length ≤ 24) : ∀ x ∈ vs, ∀ y ∈ vs, nmP (cnP vs vs.length) x = nmP (cnP vs vs.length) y → x = y := by
  intro x hx y hy h
  obtain ⟨i, hi, ei, fi⟩ := mem_first hx
  obtain ⟨j, hj, ej, fj⟩ := mem_first hy
  rw [nm_cn ei fi hi, nm_cn ej fj hj] at h
  have := cnS_inj (by omega) (by omega) h
  subst this
  rw [ei] at ej
  exact Option.some.inj ej
/-- a rule whose variables are changed one for one has the same canonical form -/
theorem canR_kp {f : T → T} {g : ByteArray → ByteArray} (h : Kp f g) {d : Nat} {r : R3} (hb : ruleB d r = true) (hi : ∀ x ∈ vsT [] (termsR d r), ∀ y ∈ vsT [] (termsR d r), g x = g y → x = y) : canR d (apR f d r) = canR d r := by
  have hv : vsT [] (termsR d (apR f d r)) = (vsT [] (termsR d r)).map g := by
    rw [termsR_apR]
    exact h.vsT_map (termsR d r) [] hi
  unfold canR
  rw [h.rule hb, hb]
  show apR (putT (cnR d (apR f d r))) d (apR f d r) = apR (putT (cnR d r)) d r
  rw [apR_comp]
  refine apR_congr d r fun t ht => ?_
  unfold cnR
  rw [hv, List.length_map]
  by_cases e : t.v = noS ∨ t.v = blankS
  · rw [h.same t e]
    unfold putT
    rw [if_pos e, if_pos e]
  · obtain ⟨e1, e2⟩ := h.name t e
    have htv : t.v ∈ vsT [] (termsR d r) := vsT_has _ _ t ht (fun k => e (.inl k)) (fun k => e (.inr k))
    generalize vsT [] (termsR d r) = vs at hi htv
    unfold putT
    rw [if_neg e, if_neg (by rw [e1]; exact e2)]
    obtain ⟨i, hil, ei, fi⟩ := mem_first htv
    unfold res
    rw [res_cn ei fi (Nat.le_refl _) hil]
    rw [res_cn (vs := vs.map g) (t := f t) (i := i) (k := vs.length) (by rw [List.getElem?_map, ei, e1]; rfl) (fun j hj => ?_) (by rw [List.length_map]; exact Nat.le_refl _) hil]
    rw [List.getElem?_map, e1]
    intro k
    have hjl : j < vs.length := by omega
    rw [List.getElem?_eq_getElem hjl] at k
    have := hi _ (List.getElem_mem hjl) _ htv (Option.some.inj k)
    exact fi j hj (by rw [List.getElem?_eq_getElem hjl, this])
theorem canR_is {d : Nat} {r : R3} (hb : ruleB d r = true) : canR d r = apR (putT (cnR d r)) d r := by unfold canR; rw [hb]; rfl
theorem kp_cn {d : Nat} {r : R3} (hb : ruleB d r = true) : Kp (putT (cnR d r)) (nmP (cnR d r)) := kp_put (varP_cn _ (ruleB_vars hb))
theorem ruleB_can {d : Nat} {r : R3} (hb : ruleB d r = true) : ruleB d (canR d r) = true := by rw [canR_is hb]; exact (kp_cn hb).rule hb
theorem canR_can {d : Nat} {r : R3} (hb : ruleB d r = true) : canR d (canR d r) = canR d r := by
  rw [canR_is hb]
  exact (canR_kp (kp_cn hb) hb (cn_inj (ruleB_vars hb))).trans (canR_is hb)
/-- how many variables a rule has, by its canonical form -/
theorem vars_can {d : Nat} {r : R3} (hb : ruleB d r = true) : (vsT [] (termsR d (canR d r))).length = (vsT [] (termsR d r)).length := by
  rw [canR_is hb, termsR_apR]
  have := (kp_cn hb).vsT_map (termsR d r) [] (cn_inj (ruleB_vars hb))
  rw [List.map_nil] at this
  rw [this, List.length_map]
variable {dec : Dec}
theorem alikeB_t {d : Nat} {r s : R3} (h1 : ruleB d r = true) (h2 : ruleB d s = true) (h : canR d r = canR d s) : alikeB dec d r s = true := by
  unfold alikeB
  rw [h1, h2, h, sameR_t ⟨rfl, rfl, rfl⟩]
  rfl
theorem alikeB_no {d : Nat} {r s : R3} (h : ruleB d r = false) : alikeB dec d r s = false := by
  unfold alikeB
  rw [h]
  rfl
theorem termsR_same {d : Nat} {r s : R3} (h : PU.RSame r s) : termsR d r = termsR d s := by
  unfold termsR
  rw [h.hd, flatX, flatX, h.bd]
theorem alikeB_f {d : Nat} {r s : R3} (h : (vsT [] (termsR d r)).length ≠ (vsT [] (termsR d s)).length) : alikeB dec d r s = false := by
  unfold alikeB
  cases h1 : ruleB d r
  · rfl
  · cases h2 : ruleB d s
    · rfl
    · rw [sameR_f (fun e => h ?_)]
      · rfl
      · rw [← vars_can h1, ← vars_can h2, termsR_same e]
/-- a term, or none -/
def TmB (t : T) : Prop := termB t = true ∨ t = T0
/-- the terms of a rule are terms -/
theorem exprB_terms : ∀ (d r : Nat) (e : E), exprB r e = true → ∀ t ∈ termsD d e, TmB t
  | 0, r, e, _, t, ht => by cases ht
  | d + 1, 0, e, hb, t, ht => by cases hb
  | d + 1, r + 1, e, hb, t, ht => by
    rw [termsD_succ] at ht
    unfold exprB at hb
    rw [Bool.and_eq_true] at hb
    have h2 := hb.2
    by_cases e0 : e.op = 0
    · rw [if_pos e0] at h2
      have hl := hb.1
      simp only [Bool.and_eq_true, decide_eq_true_eq] at hl
      have hk : e.kids = [] := by
        have := hl.2
        rw [e0] at this
        exact List.length_eq_zero_iff.1 this
      rw [hk] at ht
      rcases List.mem_cons.1 ht with rfl | ht
      · unfold namedB at h2
        rw [Bool.and_eq_true] at h2
        exact .inl h2.2
      · cases ht
    · rw [if_neg e0, Bool.and_eq_true] at h2
      rcases List.mem_cons.1 ht with rfl | ht
      · exact .inr (of_decide_eq_true h2.2)
      · obtain ⟨x, hx, ht⟩ := List.mem_flatMap.1 ht
        exact exprB_terms d r x (List.all_eq_true.1 h2.1 x hx) t ht
theorem noE_terms {d : Nat} {e : E} (h : noE e = true) : ∀ t ∈ termsD d e, TmB t := by
  cases d with
  | zero => intro t ht; cases ht
  | succ d =>
    unfold noE at h
    simp only [Bool.and_eq_true, decide_eq_true_eq] at h
    intro t ht
    rw [termsD_succ, List.length_eq_zero_iff.1 h.2.2] at ht
    rcases List.mem_cons.1 ht with rfl | ht
    · exact .inr h.2.1
    · cases ht
theorem litB_terms {d : Nat} {x : Lit4} (h : litB x = true) : ∀ t ∈ termsL d x, TmB t := by
  intro t ht
  unfold termsL at ht
  unfold litB at h
  split at h
  · simp only [Bool.and_eq_true] at h
    rcases List.mem_append.1 ht with ht | ht
    · have := h.1
      unfold atomB at this
      rw [Bool.and_eq_true] at this
      exact .inl (List.all_eq_true.1 this.2 t ht)
    · rcases List.mem_append.1 ht with ht | ht
      · exact noE_terms h.2.2.1 t ht
      · exact noE_terms h.2.2.2 t ht
  · split at h
    · simp only [Bool.and_eq_true, decide_eq_true_eq] at h
      rcases List.mem_append.1 ht with ht | ht
      · rw [List.length_eq_zero_iff.1 h.2.1] at ht
        cases ht
      · rcases List.mem_append.1 ht with ht | ht
        · exact exprB_terms d 8 _ h.2.2.2.2.1 t ht
        · exact exprB_terms d 8 _ h.2.2.2.2.2 t ht
    · cases h
theorem argB_term {x : A5} (h : argB x = true) : TmB x.t := by
  unfold argB namedB at h
  split at h
  · rw [Bool.and_eq_true] at h; exact .inl h.2
  · split at h
    · exact .inr (of_decide_eq_true h)
    · split at h
      · simp only [Bool.and_eq_true] at h; exact .inl h.1.2
      · cases h
theorem ruleB_terms {d : Nat} {r : R3} (h : ruleB d r = true) : ∀ t ∈ termsR d r, TmB t := by
  unfold ruleB at h
  simp only [Bool.and_eq_true] at h
  intro t ht
  unfold termsR at ht
  rcases List.mem_append.1 ht with ht | ht
  · obtain ⟨x, hx, rfl⟩ := List.mem_map.1 ht
    exact argB_term (List.all_eq_true.1 h.2.2.2.1 x hx)
  · obtain ⟨y, hy, ht⟩ := List.mem_flatMap.1 ht
    exact litB_terms (List.all_eq_true.1 h.2.2.2.2.1 y hy) t ht
theorem vsT_var : ∀ (ts : List T) (out : List ByteArray), (∀ t ∈ ts, TmB t) → (∀ n ∈ out, varB n = true) → ∀ n ∈ vsT out ts, varB n = true
  | [], out, _, h2, n, hn => h2 n (by simpa [vsT] using hn)
  | t :: ts, out, h1, h2, n, hn => by
    unfold vsT at hn
    split at hn
    · exact vsT_var ts out (fun t ht => h1 t (List.mem_cons_of_mem _ ht)) h2 n hn
    · rename_i hc
      refine vsT_var ts _ (fun t ht => h1 t (List.mem_cons_of_mem _ ht)) (fun m hm => ?_) n hn
      rcases List.mem_append.1 hm with hm | hm
      · exact h2 m hm
      · rw [List.mem_singleton.1 hm]
        have := (h1 t List.mem_cons_self).resolve_right (fun k => hc (.inl (by rw [k]; rfl)))
        unfold termB at this
        rw [if_neg (fun k => hc (.inl k))] at this
        simp only [Bool.and_eq_true, Bool.or_eq_true, decide_eq_true_eq] at this
        rcases this.2 with k | k
        · exact absurd (.inr (.inl k)) hc
        · exact k
theorem ruleB_var {d : Nat} {r : R3} (h : ruleB d r = true) : ∀ n ∈ vsT [] (termsR d r), varB n = true := vsT_var _ _ (ruleB_terms h) (fun n hn => by cases hn)
/-- the pairs of renamed, the first k of them: a name's place turned by c -/
def rnP (vs : List ByteArray) (c k : Nat) : List P := (List.range k).map fun i => ⟨atS vs i, ⟨atS vs ((i + c) % vs.length), V0⟩⟩
theorem rnP_succ (vs : List ByteArray) (c k : Nat) : rnP vs c (k + 1) = rnP vs c k ++ [⟨atS vs k, ⟨atS vs ((k + c) % vs.length), V0⟩⟩] := by unfold rnP; rw [List.range_succ, List.map_append]; rfl
theorem rnP_len (vs : List ByteArray) (c k : Nat) : (rnP vs c k).length = k := by simp [rnP]
theorem varP_rn {vs : List ByteArray} (c : Nat) (hv : ∀ n ∈ vs, varB n = true) : VarP (rnP vs c vs.length) := by
  intro p hp
  unfold rnP at hp
  obtain ⟨i, hi, rfl⟩ := List.mem_map.1 hp
  have hil := List.mem_range.1 hi
  have hm : (i + c) % vs.length < vs.length := Nat.mod_lt _ (by omega)
  exact ⟨by show varB (atS vs _) = true; rw [atS_eq hm]; exact hv _ (List.getElem_mem _), rfl⟩
theorem turn_inj {n c i j : Nat} (hi : i < n) (hj : j < n) (h : (i + c) % n = (j + c) % n) : i = j := by
  rcases Nat.le_total j i with hle | hle
  · have h1 := Nat.sub_mod_eq_zero_of_mod_eq h
    rw [show i + c - (j + c) = i - j by omega, Nat.mod_eq_of_lt (by omega)] at h1
    omega
  · have h1 := Nat.sub_mod_eq_zero_of_mod_eq h.symm
    rw [show j + c - (i + c) = j - i by omega, Nat.mod_eq_of_lt (by omega)] at h1
    omega
theorem nodup_at {vs : List ByteArray} (h : vs.Nodup) {i j : Nat} (hi : i < vs.length) (hj : j < vs.length) (e : vs[i] = vs[j]) : i = j := by
  rw [List.Nodup, List.pairwise_iff_getElem] at h
  rcases Nat.lt_trichotomy i j with k | k | k
  · exact absurd e (h i j hi hj k)
  · exact k
  · exact absurd e.symm (h j i hj hi k)
theorem nm_rn {vs : List ByteArray} (hn : vs.Nodup) (c : Nat) {i : Nat} (hi : i < vs.length) : nmP (rnP vs c vs.length) vs[i] = atS vs ((i + c) % vs.length) := by
  unfold nmP
  have : (rnP vs c vs.length).find? (fun p => decide (p.v = vs[i])) = some ⟨atS vs i, ⟨atS vs ((i + c) % vs.length), V0⟩⟩ := by
    rw [List.find?_eq_some_iff_getElem]
    refine ⟨decide_eq_true (by rw [atS_eq hi]), i, by rw [rnP_len]; exact hi, by simp [rnP], fun j hj => ?_⟩
    have hjl : j < vs.length := by omega
    simp only [rnP, List.getElem_map, List.getElem_range, Bool.not_eq_true', decide_eq_false_iff_not]
    rw [atS_eq hjl]
    intro e
    have := nodup_at hn hjl hi e
    omega
  rw [this]
theorem rn_inj {vs : List ByteArray} (hn : vs.Nodup) (c : Nat) : ∀ x ∈ vs, ∀ y ∈ vs, nmP (rnP vs c vs.length) x = nmP (rnP vs c vs.length) y → x = y := by
  intro x hx y hy h
  obtain ⟨i, hi, rfl⟩ := List.getElem_of_mem hx
  obtain ⟨j, hj, rfl⟩ := List.getElem_of_mem hy
  rw [nm_rn hn c hi, nm_rn hn c hj] at h
  have h1 : (i + c) % vs.length < vs.length := Nat.mod_lt _ (by omega)
  have h2 : (j + c) % vs.length < vs.length := Nat.mod_lt _ (by omega)
  rw [atS_eq h1, atS_eq h2] at h
  have := nodup_at hn h1 h2 h
  have := turn_inj hi hj this
  subst this
  rfl
/-- the moved rule -/
theorem moved_ok {d : Nat} {r : R3} (hb : ruleB d r = true) (c : Nat) : ruleB d (apR (putT (rnP (vsT [] (termsR d r)) c (vsT [] (termsR d r)).length)) d r) = true ∧ canR d (apR (putT (rnP (vsT [] (termsR d r)) c (vsT [] (termsR d r)).length)) d r) = canR d r := by
  have hk := kp_put (varP_rn c (ruleB_var hb))
  exact ⟨hk.rule hb, canR_kp hk hb (rn_inj (vsT_nodup _ _ (by simp)) c)⟩
/-- two variables made one: there is one less -/
theorem one_ok {d : Nat} {r : R3} (hb : ruleB d r = true) {n0 nl : ByteArray} {vs : List ByteArray} (hvs : vsT [] (termsR d r) = vs) (h2 : 2 ≤ vs.length) (e0 : n0 = atS vs 0) (el : nl = atS vs (vs.length - 1)) :
    ruleB d (apR (putT [⟨nl, ⟨n0, V0⟩⟩]) d r) = true ∧ (vsT [] (termsR d (apR (putT [⟨nl, ⟨n0, V0⟩⟩]) d r))).length ≠ vs.length := by
  have hvar := ruleB_var hb
  have hnd : vs.Nodup := by rw [← hvs]; exact vsT_nodup _ _ (by simp)
  rw [hvs] at hvar
  have hl0 : 0 < vs.length := by omega
  have hll : vs.length - 1 < vs.length := by omega
  rw [atS_eq hl0] at e0
  rw [atS_eq hll] at el
  have hk := kp_put (s := [⟨nl, ⟨n0, V0⟩⟩]) (fun p hp => by
    rw [List.mem_singleton.1 hp]
    exact ⟨by show varB n0 = true; rw [e0]; exact hvar _ (List.getElem_mem _), rfl⟩)
  refine ⟨hk.rule hb, ?_⟩
  rw [termsR_apR]
  have hne : n0 ≠ nl := fun e => by
    rw [e0, el] at e
    have := nodup_at hnd hl0 hll e
    omega
  have hsub : ∀ x ∈ vsT [] ((termsR d r).map (putT [⟨nl, ⟨n0, V0⟩⟩])), x ∈ vs.filter (fun y => decide (y ≠ nl)) := by
    intro x hx
    rcases vsT_mem _ _ _ hx with h | ⟨t, ht, rfl⟩
    · cases h
    · obtain ⟨u, hu, rfl⟩ := List.mem_map.1 ht
      have hnn := var_not (vsT_var _ _ (fun t ht => by
        obtain ⟨z, hz, rfl⟩ := List.mem_map.1 ht
        rcases ruleB_terms hb z hz with k | k
        · exact .inl (hk.tm z k)
        · exact .inr (by rw [k]; exact hk.zero)) (fun n hn => by cases hn) _ hx)
      have hun : ¬ (u.v = noS ∨ u.v = blankS) := fun k => by rw [hk.same u k] at hnn; exact hnn k
      have huv : u.v ∈ vs := by rw [← hvs]; exact vsT_has _ _ u hu (fun k => hun (.inl k)) (fun k => hun (.inr k))
      rw [(hk.name u hun).1]
      unfold nmP
      by_cases e : nl = u.v
      · rw [List.find?_cons_of_pos (by simpa using e)]
        rw [List.mem_filter]
        exact ⟨by show n0 ∈ vs; rw [e0]; exact List.getElem_mem _, decide_eq_true hne⟩
      · rw [List.find?_cons_of_neg (by simpa using e)]
        rw [List.mem_filter]
        exact ⟨huv, decide_eq_true (fun k => e k.symm)⟩
  have hle := nodup_le _ _ (vsT_nodup _ [] (by simp)) hsub
  have hlt : (vs.filter (fun y => decide (y ≠ nl))).length < vs.length := by
    rw [List.length_filter_lt_length_iff_exists]
    exact ⟨nl, by rw [el]; exact List.getElem_mem _, by simp⟩
  omega
end Go.Proofs.YtgplipfebnigiaaGreatDoor
