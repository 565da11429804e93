import Derived.Test.YtlnioaokpmeioaaGreatDoorG51
import Derived.Test.YtlnioaokpmeioaaGreatDoorG37
import Derived.Deep.Onto
import Derived.Maps.AppendAt
import Derived.OwnWalk
section
namespace Go.Proofs.YtlnioaokpmeioaaGreatDoor
open Go.RowKit Go.Maps
set_option linter.unusedVariables false
set_option linter.unusedSimpArgs false

/-- no name with two numbers of columns -/
def Cns (l : List Pd) : Prop := ∀ p ∈ l, ∀ q ∈ l, p.n = q.n → p.a = q.a
theorem Cns.sub {l m : List Pd} (h : Cns m) (hs : ∀ x ∈ l, x ∈ m) : Cns l := fun p hp q hq e => h p (hs p hp) q (hs q hq) e
theorem letL_cns : ∀ (l s : List Pd), (s.map Pd.n).Nodup → ((letL s l).isSome = true ↔ Cns (s ++ l))
  | [], s, hs => by
    rw [letL, List.append_nil]
    refine ⟨fun _ p hp q hq e => by rw [nodup_inj hs hp hq e], fun _ => rfl⟩
  | p :: l, s, hs => by
    rw [letL]
    cases hq : seekP s p.n with
    | none =>
      simp only
      rw [letL_cns l (s ++ [p]) (nodup_more hs hq), List.append_assoc]
      rfl
    | some q =>
      obtain ⟨hqs, hqn⟩ := seekP_some hq
      simp only
      by_cases e : q.a = p.a
      · rw [if_pos e, letL_cns l s hs]
        constructor
        · intro h
          have key : ∀ r ∈ s ++ p :: l, ∃ r' ∈ s ++ l, r'.n = r.n ∧ r'.a = r.a := fun r hr => by
            rcases List.mem_append.1 hr with hr | hr
            · exact ⟨r, List.mem_append.2 (.inl hr), rfl, rfl⟩
            · rcases List.mem_cons.1 hr with rfl | hr
              · exact ⟨q, List.mem_append.2 (.inl hqs), hqn, e⟩
              · exact ⟨r, List.mem_append.2 (.inr hr), rfl, rfl⟩
          intro x hx y hy hxy
          obtain ⟨x', hx', e1, e2⟩ := key x hx
          obtain ⟨y', hy', e3, e4⟩ := key y hy
          rw [← e2, ← e4]
          exact h x' hx' y' hy' (by rw [e1, e3, hxy])
        · intro h
          exact h.sub (fun r hr => by
            rcases List.mem_append.1 hr with hr | hr
            · exact List.mem_append.2 (.inl hr)
            · exact List.mem_append.2 (.inr (List.mem_cons_of_mem _ hr)))
      · rw [if_neg e]
        refine ⟨fun h => (by cases h), fun h => absurd (h q (List.mem_append.2 (.inl hqs)) p (List.mem_append.2 (.inr List.mem_cons_self)) hqn) e⟩
theorem jr_zero (d : Nat) (F : R3 → List ByteArray) : ∀ l : List XR, jrE d F l = 0 ↔ ∀ y ∈ l, ruE d y.r (F y.r) = 0
  | [] => by simp [jrE]
  | y :: l => by
    rw [jrE]
    by_cases h : ruE d y.r (F y.r) = 0
    · rw [if_pos h, jr_zero d F l]
      simp [h]
    · rw [if_neg h]
      refine ⟨fun k => absurd k h, fun k => absurd (k y List.mem_cons_self) h⟩
theorem job_zero (d : Nat) (F : R3 → List ByteArray) (rs : List XR) (fs : List XF) : jobE d F rs fs = 0 ↔ (∀ y ∈ rs, ruE d y.r (F y.r) = 0) ∧ (∀ f ∈ fs, factB f = true) ∧ Cns (psS rs fs) := by
  have hc := letL_cns (psS rs fs) [] (by simp)
  rw [List.nil_append] at hc
  unfold jobE
  by_cases h1 : jrE d F rs = 0
  · rw [if_pos h1]
    have h1' := (jr_zero d F rs).1 h1
    unfold tlE
    by_cases h2 : fs.all factB = true
    · rw [if_pos h2]
      have h2' := List.all_eq_true.1 h2
      by_cases h3 : (letL [] (psS rs fs)).isSome = true
      · rw [if_pos h3]
        exact ⟨fun _ => ⟨h1', h2', hc.1 h3⟩, fun _ => rfl⟩
      · rw [if_neg h3]
        exact ⟨fun h => (by cases h), fun h => absurd (hc.2 h.2.2) h3⟩
    · rw [if_neg h2]
      exact ⟨fun h => (by cases h), fun h => absurd (List.all_eq_true.2 h.2.1) h2⟩
  · rw [if_neg h1]
    exact ⟨fun h => absurd h h1, fun h => absurd ((jr_zero d F rs).2 h.1) h1⟩
theorem rc_zero (d : Nat) (F : R3 → List ByteArray) : ∀ (l : List XR) (i : Nat), (rcR d F l i).2 = 0 ↔ ∀ y ∈ l, riE d F y.r = 0
  | [], i => by simp [rcR]
  | y :: l, i => by
    rw [rcR]
    by_cases h : riE d F y.r = 0
    · rw [if_pos h, rc_zero d F l]
      simp [h]
    · rw [if_neg h]
      exact ⟨fun k => absurd k h, fun k => absurd (k y List.mem_cons_self) h⟩
theorem rt_zero : ∀ (l : List XR) (s : List Pd) (i : Nat), ((rtR s l i).2.1 = 0 ↔ (letL s (l.flatMap (fun y => stR y.r))).isSome = true) ∧ ((rtR s l i).2.1 = 0 → letL s (l.flatMap (fun y => stR y.r)) = some (rtR s l i).2.2)
  | [], s, i => ⟨⟨fun _ => rfl, fun _ => rfl⟩, fun _ => rfl⟩
  | y :: l, s, i => by
    rw [rtR, List.flatMap_cons, letL_append]
    cases h : letL s (stR y.r) with
    | none => exact ⟨⟨fun k => (by cases k), fun k => (by cases k)⟩, fun k => (by cases k)⟩
    | some t => exact rt_zero l t (i + 1)
theorem fi_zero (s : List Pd) (y : XF) : fiE s y = 0 ↔ factB y = true ∧ inpE [pdF y] [] = 0 ∧ (takeP s (pdF y)).2 = true := by
  unfold fiE ipE
  cases factB y
  · exact ⟨fun h => (by cases h), fun h => (by cases h.1)⟩
  · rw [if_pos rfl]
    by_cases h1 : inpE [pdF y] [] = 0
    · rw [if_pos h1]
      cases (takeP s (pdF y)).2
      · exact ⟨fun h => (by cases h), fun h => (by cases h.2.2)⟩
      · exact ⟨fun _ => ⟨rfl, h1, rfl⟩, fun _ => rfl⟩
    · rw [if_neg h1]
      exact ⟨fun h => absurd h h1, fun h => absurd h.2.1 h1⟩
theorem fs_zero : ∀ (l : List XF) (s : List Pd) (i : Nat), ((fsR s l i).2.1 = 0 ↔ (∀ f ∈ l, factB f = true ∧ inpE [pdF f] [] = 0) ∧ (letL s (l.map pdF)).isSome = true) ∧ ((fsR s l i).2.1 = 0 → letL s (l.map pdF) = some (fsR s l i).2.2)
  | [], s, i => ⟨⟨fun _ => ⟨fun f hf => (by cases hf), rfl⟩, fun _ => rfl⟩, fun _ => rfl⟩
  | y :: l, s, i => by
    rw [fsR, List.map_cons, letL_cons]
    by_cases h : fiE s y = 0
    · rw [if_pos h]
      obtain ⟨h1, h2, h3⟩ := (fi_zero s y).1 h
      rw [h3, if_pos rfl]
      obtain ⟨k1, k2⟩ := fs_zero l (takeP s (pdF y)).1 (i + 1)
      refine ⟨k1.trans ⟨fun k => ⟨fun f hf => ?_, k.2⟩, fun k => ⟨fun f hf => k.1 f (List.mem_cons_of_mem _ hf), k.2⟩⟩, k2⟩
      rcases List.mem_cons.1 hf with rfl | hf
      · exact ⟨h1, h2⟩
      · exact k.1 f hf
    · rw [if_neg h]
      refine ⟨⟨fun k => absurd k h, fun k => ?_⟩, fun k => absurd k h⟩
      obtain ⟨k1, k2⟩ := k.1 y List.mem_cons_self
      refine absurd ((fi_zero s y).2 ⟨k1, k2, ?_⟩) h
      cases hb : (takeP s (pdF y)).2
      · rw [hb] at k
        exact absurd k.2 (by simp)
      · rfl
/-- nothing is wrong with what a user hands in -/
structure Okn (d : Nat) (F : R3 → List ByteArray) (rs : List XR) (fs : List XF) (pr : ByteArray) (ts : List T) : Prop where
  nr : rs.length ≤ 500
  ru : ∀ y ∈ rs, riE d F y.r = 0
  nf : fs.length ≤ 65536
  fa : ∀ f ∈ fs, factB f = true ∧ inpE [pdF f] [] = 0
  at_ : atomB pr ts = true
  ip : inpE [⟨pr, ts.length⟩] (vsT [] ts) = 0
  cs : Cns (psS rs fs ++ [⟨pr, ts.length⟩])
theorem take_let (s : List Pd) (p : Pd) : (takeP s p).2 = true ↔ (letL s [p]).isSome = true := by
  rw [letL_cons]
  cases (takeP s p).2
  · exact ⟨fun h => (by cases h), fun h => (by cases h)⟩
  · exact ⟨fun _ => rfl, fun _ => rfl⟩
theorem qy_zero (s : List Pd) (pr : ByteArray) (ts : List T) : qyE s pr ts = 0 ↔ atomB pr ts = true ∧ inpE [⟨pr, ts.length⟩] (vsT [] ts) = 0 ∧ (letL s [⟨pr, ts.length⟩]).isSome = true := by
  unfold qyE ipE
  rw [← take_let]
  cases atomB pr ts
  · exact ⟨fun h => (by cases h), fun h => (by cases h.1)⟩
  · rw [if_pos rfl]
    by_cases h1 : inpE [⟨pr, ts.length⟩] (vsT [] ts) = 0
    · rw [if_pos h1]
      cases (takeP s ⟨pr, ts.length⟩).2
      · exact ⟨fun h => (by cases h), fun h => (by cases h.2.2)⟩
      · exact ⟨fun _ => ⟨rfl, h1, rfl⟩, fun _ => rfl⟩
    · rw [if_neg h1]
      exact ⟨fun h => absurd h h1, fun h => absurd h.2.1 h1⟩
theorem in_zero (d : Nat) (F : R3 → List ByteArray) (rs : List XR) (fs : List XF) (pr : ByteArray) (ts : List T) : inR d F rs fs pr ts = (0, 0, 0) ↔ Okn d F rs fs pr ts := by
  have hc := letL_cns (psS rs fs ++ [⟨pr, ts.length⟩]) [] (by simp)
  rw [List.nil_append] at hc
  have hps : psS rs fs = rs.flatMap (fun y => stR y.r) ++ fs.map pdF := rfl
  unfold inR
  by_cases h1 : (raR d F [] rs).2.1 = 0
  · rw [if_pos h1]
    have g1 : rs.length ≤ 500 ∧ (rcR d F rs 0).2 = 0 ∧ raR d F [] rs = rtR [] rs 0 ∧ (rtR [] rs 0).2.1 = 0 := by
      unfold raR at h1 ⊢
      by_cases k1 : 500 < rs.length
      · rw [if_pos k1] at h1
        cases h1
      · rw [if_neg k1] at h1 ⊢
        by_cases k2 : (rcR d F rs 0).2 = 0
        · rw [if_pos k2] at h1 ⊢
          exact ⟨by omega, k2, rfl, h1⟩
        · rw [if_neg k2] at h1
          exact absurd h1 k2
    obtain ⟨g1, g2, g3, g4⟩ := g1
    rw [g3]
    have e1 := (rt_zero rs [] 0).2 g4
    generalize (rtR [] rs 0).2.2 = t at e1
    by_cases h2 : (faR t fs).2.1 = 0
    · rw [if_pos h2]
      have g5 : fs.length ≤ 65536 ∧ faR t fs = fsR t fs 0 ∧ (fsR t fs 0).2.1 = 0 := by
        unfold faR at h2 ⊢
        by_cases k1 : 65536 < fs.length
        · rw [if_pos k1] at h2
          cases h2
        · rw [if_neg k1] at h2 ⊢
          exact ⟨by omega, rfl, h2⟩
      obtain ⟨g5, g6, g7⟩ := g5
      rw [g6]
      have e2 := (fs_zero fs t 0).2 g7
      have e3 := ((fs_zero fs t 0).1.1 g7).1
      generalize (fsR t fs 0).2.2 = t2 at e2
      have e4 : letL [] (psS rs fs ++ [⟨pr, ts.length⟩]) = letL t2 [⟨pr, ts.length⟩] := by
        rw [letL_append, hps, letL_append, e1]
        show ((letL t (fs.map pdF)).bind _) = _
        rw [e2]
        rfl
      by_cases h3 : qyE t2 pr ts = 0
      · rw [if_pos h3]
        obtain ⟨q1, q2, q3⟩ := (qy_zero t2 pr ts).1 h3
        refine ⟨fun _ => ⟨g1, (rc_zero d F rs 0).1 g2, g5, e3, q1, q2, hc.1 (by rw [e4]; exact q3)⟩, fun _ => rfl⟩
      · rw [if_neg h3]
        refine ⟨fun h => ?_, fun h => absurd ((qy_zero t2 pr ts).2 ⟨h.at_, h.ip, by rw [← e4]; exact hc.2 h.cs⟩) h3⟩
        injection h with h _
        cases h
    · rw [if_neg h2]
      refine ⟨fun h => ?_, fun h => absurd ?_ h2⟩
      · injection h with h _
        cases h
      · unfold faR
        rw [if_neg (by have := h.nf; omega)]
        refine (fs_zero fs t 0).1.2 ⟨h.fa, ?_⟩
        have k := hc.2 h.cs
        rw [letL_append, hps, letL_append, e1] at k
        have k' : ((letL t (fs.map pdF)).bind (fun t => letL t [⟨pr, ts.length⟩])).isSome = true := k
        cases hq : letL t (fs.map pdF) with
        | none => rw [hq] at k'; cases k'
        | some u => rfl
  · rw [if_neg h1]
    refine ⟨fun h => ?_, fun h => absurd ?_ h1⟩
    · injection h with h _
      cases h
    · unfold raR
      rw [if_neg (by have := h.nr; omega), if_pos ((rc_zero d F rs 0).2 h.ru)]
      refine (rt_zero rs [] 0).1.2 ?_
      have k := hc.2 h.cs
      rw [letL_append, hps, letL_append] at k
      cases hq : letL [] (rs.flatMap (fun y => stR y.r)) with
      | none => rw [hq] at k; cases k
      | some u => rfl
theorem ri_ru {d : Nat} {F : R3 → List ByteArray} {r : R3} (h : riE d F r = 0) : ruE d r (F r) = 0 := by
  unfold riE at h
  cases hb : ruleB d r
  · rw [hb] at h
    cases h
  · rw [hb, if_pos rfl] at h
    by_cases h1 : 12 < r.bd.length
    · rw [if_pos h1] at h
      cases h
    · rw [if_neg h1] at h
      by_cases h2 : inpE (stR r) (vsT [] (termsR d r)) = 0
      · rw [if_pos h2] at h
        exact h
      · rw [if_neg h2] at h
        exact absurd h h2
theorem ps_sub {rs rs' : List XR} {fs fs' : List XF} (hr : ∀ y ∈ rs', y ∈ rs) (hf : ∀ f ∈ fs', f ∈ fs) : ∀ p ∈ psS rs' fs', p ∈ psS rs fs := fun p hp => by
  unfold psS at hp ⊢
  rcases List.mem_append.1 hp with h | h
  · obtain ⟨y, hy, h⟩ := List.mem_flatMap.1 h
    exact List.mem_append.2 (.inl (List.mem_flatMap.2 ⟨y, hr y hy, h⟩))
  · obtain ⟨f, hf', h⟩ := List.mem_map.1 h
    exact List.mem_append.2 (.inr (List.mem_map.2 ⟨f, hf f hf', h⟩))
theorem job_sub {d : Nat} {F : R3 → List ByteArray} {rs rs' : List XR} {fs fs' : List XF} (hr : ∀ y ∈ rs', y ∈ rs) (hf : ∀ f ∈ fs', f ∈ fs) (h : jobE d F rs fs = 0) : jobE d F rs' fs' = 0 := by
  obtain ⟨h1, h2, h3⟩ := (job_zero d F rs fs).1 h
  exact (job_zero d F rs' fs').2 ⟨fun y hy => h1 y (hr y hy), fun f hf' => h2 f (hf f hf'), h3.sub (ps_sub hr hf)⟩
theorem Okn.sub {d : Nat} {F : R3 → List ByteArray} {rs rs' : List XR} {fs fs' : List XF} {pr : ByteArray} {ts : List T} (h : Okn d F rs fs pr ts) (hr : ∀ y ∈ rs', y ∈ rs) (hf : ∀ f ∈ fs', f ∈ fs) (n1 : rs'.length ≤ rs.length) (n2 : fs'.length ≤ fs.length) : Okn d F rs' fs' pr ts :=
  ⟨Nat.le_trans n1 h.nr, fun y hy => h.ru y (hr y hy), Nat.le_trans n2 h.nf, fun f hf' => h.fa f (hf f hf'), h.at_, h.ip, h.cs.sub (fun p hp => by
    rcases List.mem_append.1 hp with k | k
    · exact List.mem_append.2 (.inl (ps_sub hr hf p k))
    · exact List.mem_append.2 (.inr k))⟩
theorem Okn.job {d : Nat} {F : R3 → List ByteArray} {rs : List XR} {fs : List XF} {pr : ByteArray} {ts : List T} (h : Okn d F rs fs pr ts) : jobE d F rs fs = 0 :=
  (job_zero d F rs fs).2 ⟨fun y hy => ri_ru (h.ru y hy), fun f hf => (h.fa f hf).1, h.cs.sub (fun p hp => List.mem_append.2 (.inl hp))⟩
/-- without every k-th, and turned round: what stands behind the first j steps -/
def fwL {α : Type} (z : α) (l : List α) (k : Int) (j : Nat) : List α := (List.range j).flatMap (fun t => if k ≤ 0 ∨ (((l.length - 1 - t : Nat) : Int).tmod k ≠ 0) then [l.getD (l.length - 1 - t) z] else [])
theorem fwL_succ {α : Type} (z : α) (l : List α) (k : Int) (j : Nat) : fwL z l k (j + 1) = fwL z l k j ++ (if k ≤ 0 ∨ (((l.length - 1 - j : Nat) : Int).tmod k ≠ 0) then [l.getD (l.length - 1 - j) z] else []) := by
  unfold fwL
  rw [List.range_succ, List.flatMap_append]
  simp
theorem fwL_len {α : Type} (z : α) (l : List α) (k : Int) : ∀ j, (fwL z l k j).length ≤ j
  | 0 => Nat.le_refl _
  | j + 1 => by
    rw [fwL_succ, List.length_append]
    have := fwL_len z l k j
    have h2 : (if k ≤ 0 ∨ (((l.length - 1 - j : Nat) : Int).tmod k ≠ 0) then [l.getD (l.length - 1 - j) z] else []).length ≤ 1 := by split <;> simp
    omega
theorem fwL_sub {α : Type} (z : α) (l : List α) (k : Int) : ∀ x ∈ fwL z l k l.length, x ∈ l := fun x hx => by
  obtain ⟨t, ht, hx⟩ := List.mem_flatMap.1 hx
  have ht := List.mem_range.1 ht
  split at hx
  · rw [List.mem_singleton.1 hx, List.getD_eq_getElem?_getD, List.getElem?_eq_getElem (by omega)]
    exact List.getElem_mem _
  · cases hx
theorem fwL_all {α : Type} (z : α) (l : List α) {k : Int} (hk : k ≤ 0) : ∀ x ∈ l, x ∈ fwL z l k l.length := fun x hx => by
  obtain ⟨i, hi, e⟩ := List.getElem_of_mem hx
  refine List.mem_flatMap.2 ⟨l.length - 1 - i, List.mem_range.2 (by omega), ?_⟩
  rw [if_pos (.inl hk), List.mem_singleton, show l.length - 1 - (l.length - 1 - i) = i by omega, List.getD_eq_getElem?_getD, List.getElem?_eq_getElem hi, ← e]
  rfl
end Go.Proofs.YtlnioaokpmeioaaGreatDoor
end
section
namespace Go.Proofs.YtlnioaokpmeioaaGreatDoor
open Go.RowKit Go.Maps
set_option linter.unusedVariables false
set_option linter.unusedSimpArgs false

/-- where the rules' codes tell a place: what stands ahead is fine, and with what stands ahead it is told again -/
theorem rc_at (d : Nat) (F : R3 → List ByteArray) : ∀ (l : List XR) (i : Nat), ¬ (rcR d F l i).2 = 0 → ∃ (j : Nat) (y : XR), l[j]? = some y ∧ rcR d F l i = (((i + j : Nat) : Int), riE d F y.r) ∧ ¬ riE d F y.r = 0 ∧ (∀ x ∈ l.take j, riE d F x.r = 0) ∧ rcR d F (l.take (j + 1)) i = rcR d F l i
  | [], i, h => absurd rfl h
  | y :: l, i, h => by
    rw [rcR] at h
    by_cases k : riE d F y.r = 0
    · rw [if_pos k] at h
      obtain ⟨j, x, h1, h2, h3, h4, h5⟩ := rc_at d F l (i + 1) h
      refine ⟨j + 1, x, h1, ?_, h3, ?_, ?_⟩
      · rw [rcR, if_pos k, h2]
        congr 1
        omega
      · intro z hz
        rw [List.take_succ_cons] at hz
        rcases List.mem_cons.1 hz with rfl | hz
        · exact k
        · exact h4 z hz
      · rw [List.take_succ_cons, rcR, if_pos k, h5, rcR, if_pos k]
    · refine ⟨0, y, rfl, ?_, k, fun x hx => (by simp at hx), ?_⟩
      · rw [rcR, if_neg k]
        rfl
      · rw [List.take_succ_cons, rcR, if_neg k, rcR, if_neg k]
/-- the same for the rules' columns -/
theorem rt_at : ∀ (l : List XR) (s : List Pd) (i : Nat), ¬ (rtR s l i).2.1 = 0 → ∃ (j : Nat) (y : XR), l[j]? = some y ∧ (rtR s l i).1 = ((i + j : Nat) : Int) ∧ (rtR s l i).2.1 = 72 ∧ (rtR s (l.take j) i).2.1 = 0 ∧ rtR s (l.take (j + 1)) i = rtR s l i
  | [], s, i, h => absurd rfl h
  | y :: l, s, i, h => by
    rw [rtR] at h
    cases k : letL s (stR y.r) with
    | none =>
      refine ⟨0, y, rfl, ?_, ?_, rfl, ?_⟩
      · rw [rtR, k]; rfl
      · rw [rtR, k]
      · rw [List.take_succ_cons, rtR, k, rtR, k]
    | some t =>
      rw [k] at h
      obtain ⟨j, x, h1, h2, h3, h4, h5⟩ := rt_at l t (i + 1) h
      refine ⟨j + 1, x, h1, ?_, ?_, ?_, ?_⟩
      · rw [rtR, k]
        show (rtR t l (i + 1)).1 = _
        rw [h2]
        congr 1
        omega
      · rw [rtR, k]; exact h3
      · rw [List.take_succ_cons, rtR, k]; exact h4
      · rw [List.take_succ_cons, rtR, k, rtR, k]; exact h5
/-- and for the facts -/
theorem fs_at : ∀ (l : List XF) (s : List Pd) (i : Nat), ¬ (fsR s l i).2.1 = 0 → ∃ (j : Nat) (y : XF), l[j]? = some y ∧ (fsR s l i).1 = ((i + j : Nat) : Int) ∧ (fsR s (l.take j) i).2.1 = 0 ∧ fsR s (l.take (j + 1)) i = fsR s l i
  | [], s, i, h => absurd rfl h
  | y :: l, s, i, h => by
    rw [fsR] at h
    by_cases k : fiE s y = 0
    · rw [if_pos k] at h
      obtain ⟨j, x, h1, h2, h4, h5⟩ := fs_at l (takeP s (pdF y)).1 (i + 1) h
      refine ⟨j + 1, x, h1, ?_, ?_, ?_⟩
      · rw [fsR, if_pos k, h2]
        congr 1
        omega
      · rw [List.take_succ_cons, fsR, if_pos k]; exact h4
      · rw [List.take_succ_cons, fsR, if_pos k, h5, fsR, if_pos k]
    · refine ⟨0, y, rfl, ?_, rfl, ?_⟩
      · rw [fsR, if_neg k]; rfl
      · rw [List.take_succ_cons, fsR, if_neg k, fsR, if_neg k]
theorem inp_codes (l : List Pd) (vs : List ByteArray) : inpE l vs = 0 ∨ inpE l vs = 70 ∨ inpE l vs = 71 := by
  unfold inpE
  split
  · exact .inr (.inl rfl)
  · split
    · exact .inr (.inr rfl)
    · exact .inl rfl
/-- a rule's own code is never that of the columns -/
theorem ri_not (d : Nat) (F : R3 → List ByteArray) (r : R3) : ¬ riE d F r = 72 := by
  unfold riE
  split
  · split
    · decide
    · split
      · unfold ruE
        repeat' split
        all_goals decide
      · rcases inp_codes (stR r) (vsT [] (termsR d r)) with h | h | h <;> rw [h] <;> decide
  · decide
theorem inp_sub {l m : List Pd} {vs us : List ByteArray} (h : inpE m us = 0) (hl : ∀ p ∈ l, p ∈ m) (hv : ∀ x ∈ vs, x ∈ us ∨ lgN x = false) : inpE l vs = 0 := by
  unfold inpE at h ⊢
  split at h
  · cases h
  · rename_i h1
    split at h
    · cases h
    · rename_i h2
      have e1 : (l.any lgP || vs.any lgN) = false := by
        cases q : (l.any lgP || vs.any lgN)
        · rfl
        · rcases Bool.or_eq_true_iff.1 q with q | q
          · obtain ⟨p, hp, hq⟩ := List.any_eq_true.1 q
            exact absurd (Bool.or_eq_true_iff.2 (.inl (List.any_eq_true.2 ⟨p, hl p hp, hq⟩))) h1
          · obtain ⟨x, hx, hq⟩ := List.any_eq_true.1 q
            rcases hv x hx with k | k
            · exact absurd (Bool.or_eq_true_iff.2 (.inr (List.any_eq_true.2 ⟨x, k, hq⟩))) h1
            · rw [k] at hq
              cases hq
      have e2 : l.any rsP = false := by
        cases q : l.any rsP
        · rfl
        · obtain ⟨p, hp, hq⟩ := List.any_eq_true.1 q
          exact absurd (List.any_eq_true.2 ⟨p, hl p hp, hq⟩) h2
      rw [e1, e2]
      rfl
end Go.Proofs.YtlnioaokpmeioaaGreatDoor
end
section
namespace Go.Proofs.YtlnioaokpmeioaaGreatDoor
open Go.RowKit Go.Maps
set_option linter.unusedVariables false
set_option linter.unusedSimpArgs false

theorem in_ra_rc {d : Nat} {F : R3 → List ByteArray} {rs : List XR} (hl : rs.length ≤ 500) (h : ¬ (rcR d F rs 0).2 = 0) (fs : List XF) (pr : ByteArray) (ts : List T) : inR d F rs fs pr ts = (1, (rcR d F rs 0).2, (rcR d F rs 0).1) := by
  have e : raR d F [] rs = ((rcR d F rs 0).1, (rcR d F rs 0).2, []) := by
    unfold raR
    rw [if_neg (by omega), if_neg h]
  unfold inR
  rw [e, if_neg h]
theorem in_ra_rt {d : Nat} {F : R3 → List ByteArray} {rs : List XR} (hl : rs.length ≤ 500) (h0 : (rcR d F rs 0).2 = 0) (h : ¬ (rtR [] rs 0).2.1 = 0) (fs : List XF) (pr : ByteArray) (ts : List T) : inR d F rs fs pr ts = (1, (rtR [] rs 0).2.1, (rtR [] rs 0).1) := by
  have e : raR d F [] rs = rtR [] rs 0 := by
    unfold raR
    rw [if_neg (by omega), if_pos h0]
  unfold inR
  rw [e, if_neg h]
theorem get_lt {α : Type} {l : List α} {j : Nat} {y : α} (h : l[j]? = some y) : j < l.length := (List.getElem?_eq_some_iff.1 h).1
/-- a rule's own fault -/
theorem in_rc {d : Nat} {F : R3 → List ByteArray} {l : List XR} (hl : l.length ≤ 500) (h : ¬ (rcR d F l 0).2 = 0) : ∃ (j : Nat) (y : XR), l[j]? = some y ∧ ¬ riE d F y.r = 0 ∧ (∀ x ∈ l.take j, riE d F x.r = 0) ∧ ∀ (fs : List XF) (pr : ByteArray) (ts : List T), inR d F l fs pr ts = (1, riE d F y.r, (j : Int)) ∧ inR d F (l.take (j + 1)) fs pr ts = (1, riE d F y.r, (j : Int)) ∧ inR d F [y] fs pr ts = (1, riE d F y.r, 0) := by
  obtain ⟨j, y, h1, h2, h3, h4, h5⟩ := rc_at d F l 0 h
  rw [Nat.zero_add] at h2
  refine ⟨j, y, h1, h3, h4, fun fs pr ts => ⟨?_, ?_, ?_⟩⟩
  · rw [in_ra_rc hl h, h2]
  · have h' : ¬ (rcR d F (l.take (j + 1)) 0).2 = 0 := by rw [h5]; exact h
    rw [in_ra_rc (by rw [List.length_take]; omega) h', h5, h2]
  · have e : rcR d F [y] 0 = (0, riE d F y.r) := by rw [rcR, if_neg h3]; rfl
    have h' : ¬ (rcR d F [y] 0).2 = 0 := by rw [e]; exact h3
    rw [in_ra_rc (by show 1 ≤ 500; omega) h', e]
/-- columns that do not agree -/
theorem in_rt {d : Nat} {F : R3 → List ByteArray} {l : List XR} (hl : l.length ≤ 500) (h0 : (rcR d F l 0).2 = 0) (h : ¬ (rtR [] l 0).2.1 = 0) : ∃ (j : Nat) (y : XR), l[j]? = some y ∧ (rtR [] (l.take j) 0).2.1 = 0 ∧ (∀ x ∈ l.take j, riE d F x.r = 0) ∧ ∀ (fs : List XF) (pr : ByteArray) (ts : List T), inR d F l fs pr ts = (1, 72, (j : Int)) ∧ inR d F (l.take (j + 1)) fs pr ts = (1, 72, (j : Int)) := by
  obtain ⟨j, y, h1, h2, h3, h4, h5⟩ := rt_at l [] 0 h
  rw [Nat.zero_add] at h2
  have hz := (rc_zero d F l 0).1 h0
  refine ⟨j, y, h1, h4, fun x hx => hz x (List.mem_of_mem_take hx), fun fs pr ts => ⟨?_, ?_⟩⟩
  · rw [in_ra_rt hl h0 h, h2, h3]
  · have h' : ¬ (rtR [] (l.take (j + 1)) 0).2.1 = 0 := by rw [h5]; exact h
    rw [in_ra_rt (by rw [List.length_take]; omega) ((rc_zero d F _ 0).2 (fun x hx => hz x (List.mem_of_mem_take hx))) h', h5, h2, h3]
/-- what stands ahead of a rule's own fault: fine but for the columns, if the query is -/
theorem in_ahead {d : Nat} {F : R3 → List ByteArray} {l : List XR} (hl : l.length ≤ 500) (h : ∀ x ∈ l, riE d F x.r = 0) (pr : ByteArray) (ts : List T) (hq : (rtR [] l 0).2.1 = 0 → qyE (rtR [] l 0).2.2 pr ts = 0) : inR d F l [] pr ts = (0, 0, 0) ∨ (inR d F l [] pr ts).1 = 1 ∧ (inR d F l [] pr ts).2.1 = 72 := by
  have h0 := (rc_zero d F l 0).2 h
  by_cases k : (rtR [] l 0).2.1 = 0
  · left
    have e : raR d F [] l = rtR [] l 0 := by
      unfold raR
      rw [if_neg (by omega), if_pos h0]
    unfold inR
    rw [e, if_pos k]
    have e2 : faR (rtR [] l 0).2.2 [] = (0, 0, (rtR [] l 0).2.2) := rfl
    rw [e2, if_pos rfl, if_pos (hq k)]
  · right
    obtain ⟨_, _, _, _, h3, _⟩ := rt_at l [] 0 k
    rw [in_ra_rt hl h0 k]
    exact ⟨rfl, h3⟩
end Go.Proofs.YtlnioaokpmeioaaGreatDoor
end
section
namespace Go.Proofs.YtlnioaokpmeioaaGreatDoor
open Go.RowKit Go.Maps
set_option linter.unusedVariables false
set_option linter.unusedSimpArgs false

/-- a fact's fault -/
theorem in_fs {d : Nat} {F : R3 → List ByteArray} {l : List XR} {m : List XF} (hR : (raR d F [] l).2.1 = 0) (hm : m.length ≤ 65536) (h : ¬ (fsR (raR d F [] l).2.2 m 0).2.1 = 0) : ∃ (j : Nat) (y : XF), m[j]? = some y ∧ (fsR (raR d F [] l).2.2 (m.take j) 0).2.1 = 0 ∧ ∀ (pr : ByteArray) (ts : List T), inR d F l m pr ts = (2, (fsR (raR d F [] l).2.2 m 0).2.1, (j : Int)) ∧ inR d F l (m.take (j + 1)) pr ts = (2, (fsR (raR d F [] l).2.2 m 0).2.1, (j : Int)) := by
  obtain ⟨j, y, h1, h2, h4, h5⟩ := fs_at m (raR d F [] l).2.2 0 h
  rw [Nat.zero_add] at h2
  have e1 : faR (raR d F [] l).2.2 m = fsR (raR d F [] l).2.2 m 0 := by unfold faR; rw [if_neg (by omega)]
  have e2 : faR (raR d F [] l).2.2 (m.take (j + 1)) = fsR (raR d F [] l).2.2 m 0 := by
    unfold faR
    rw [if_neg (by rw [List.length_take]; omega), h5]
  refine ⟨j, y, h1, h4, fun pr ts => ⟨?_, ?_⟩⟩
  · unfold inR
    rw [if_pos hR, e1, if_neg h, h2]
  · unfold inR
    rw [if_pos hR, e2, if_neg h, h2]
/-- rules and facts that are fine, and a query that is -/
theorem in_fine {d : Nat} {F : R3 → List ByteArray} {l : List XR} {m : List XF} (hR : (raR d F [] l).2.1 = 0) (hm : m.length ≤ 65536) (h : (fsR (raR d F [] l).2.2 m 0).2.1 = 0) {pr : ByteArray} {ts : List T} (hq : qyE (fsR (raR d F [] l).2.2 m 0).2.2 pr ts = 0) : inR d F l m pr ts = (0, 0, 0) := by
  have e1 : faR (raR d F [] l).2.2 m = fsR (raR d F [] l).2.2 m 0 := by unfold faR; rw [if_neg (by omega)]
  unfold inR
  rw [if_pos hR, e1, if_pos h, if_pos hq]
/-- the term of a blank -/
def bkT : T := ⟨blankS, V0⟩
theorem bk_ok : termB bkT = true := by
  unfold termB bkT
  rw [if_neg (by decide)]
  rfl
theorem bk_atom {pr : ByteArray} {n : Nat} (h : nameB pr = true) (hn : n ≤ 24) : atomB pr (List.replicate n bkT) = true := by
  unfold atomB
  rw [h, List.length_replicate, decide_eq_true hn]
  simp only [Bool.true_and]
  exact List.all_eq_true.2 (fun x hx => by rw [List.eq_of_mem_replicate hx]; exact bk_ok)
theorem bk_vars : ∀ (n : Nat) (out : List ByteArray), vsT out (List.replicate n bkT) = out
  | 0, out => rfl
  | n + 1, out => by
    rw [List.replicate_succ, vsT, if_pos (.inr (.inl rfl))]
    exact bk_vars n out
/-- the predicate of a query of blanks -/
def bkP : List XR → List XF → Pd
  | y :: _, _ => ⟨y.r.pr, y.r.hd.length⟩
  | [], f :: _ => pdF f
  | [], [] => ⟨⟨#[112]⟩, 0⟩
theorem ri_parts {d : Nat} {F : R3 → List ByteArray} {r : R3} (h : riE d F r = 0) : nameB r.pr = true ∧ r.hd.length ≤ 24 ∧ inpE (stR r) (vsT [] (termsR d r)) = 0 := by
  unfold riE at h
  cases hb : ruleB d r
  · rw [hb] at h
    cases h
  · rw [hb, if_pos rfl] at h
    by_cases h1 : 12 < r.bd.length
    · rw [if_pos h1] at h
      cases h
    · rw [if_neg h1] at h
      by_cases h2 : inpE (stR r) (vsT [] (termsR d r)) = 0
      · unfold ruleB at hb
        simp only [Bool.and_eq_true, decide_eq_true_eq] at hb
        exact ⟨hb.1, hb.2.1, h2⟩
      · rw [if_neg h2] at h
        exact absurd h h2
theorem bk_pred {d : Nat} {F : R3 → List ByteArray} {l : List XR} {m : List XF} (h1 : ∀ y ∈ l, riE d F y.r = 0) (h2 : ∀ f ∈ m, factB f = true ∧ inpE [pdF f] [] = 0) : nameB (bkP l m).n = true ∧ (bkP l m).a ≤ 24 ∧ inpE [bkP l m] [] = 0 ∧ (bkP l m ∈ psS l m ∨ psS l m = []) := by
  cases l with
  | cons y l =>
    obtain ⟨k1, k2, k3⟩ := ri_parts (h1 y List.mem_cons_self)
    refine ⟨k1, k2, inp_sub k3 (fun p hp => ?_) (fun x hx => (by cases hx)), .inl ?_⟩
    · rw [List.mem_singleton.1 hp]
      exact List.mem_cons_self
    · unfold psS
      rw [List.flatMap_cons]
      exact List.mem_append.2 (.inl (List.mem_append.2 (.inl List.mem_cons_self)))
  | nil =>
    cases m with
    | cons f m =>
      obtain ⟨k1, k2⟩ := h2 f List.mem_cons_self
      have k3 := k1
      unfold factB at k3
      simp only [Bool.and_eq_true, decide_eq_true_eq] at k3
      exact ⟨k3.1, k3.2.1, k2, .inl (by
        unfold psS
        exact List.mem_append.2 (.inr (List.mem_map.2 ⟨f, List.mem_cons_self, rfl⟩)))⟩
    | nil => exact ⟨by decide +kernel, by decide, by decide +kernel, .inr rfl⟩
theorem bk_fine {d : Nat} {F : R3 → List ByteArray} {l : List XR} {m : List XF} (h1 : ∀ y ∈ l, riE d F y.r = 0) (h2 : ∀ f ∈ m, factB f = true ∧ inpE [pdF f] [] = 0) {s : List Pd} (hs : letL [] (psS l m) = some s) : qyE s (bkP l m).n (List.replicate (bkP l m).a bkT) = 0 := by
  obtain ⟨k1, k2, k3, k4⟩ := bk_pred h1 h2
  refine (qy_zero _ _ _).2 ⟨bk_atom k1 k2, ?_, ?_⟩
  · rw [bk_vars, List.length_replicate]
    exact k3
  · rw [List.length_replicate]
    have hc := letL_cns (psS l m) [] (by simp)
    have hd := letL_cns (psS l m ++ [bkP l m]) [] (by simp)
    rw [List.nil_append] at hc hd
    rw [letL_append, hs] at hd
    refine hd.2 ?_
    rcases k4 with k4 | k4
    · exact (hc.1 (by rw [hs]; rfl)).sub (fun x hx => by
        rcases List.mem_append.1 hx with hx | hx
        · exact hx
        · rw [List.mem_singleton.1 hx]; exact k4)
    · rw [k4]
      intro p hp q hq _
      rw [List.nil_append] at hp hq
      rw [List.mem_singleton.1 hp, List.mem_singleton.1 hq]
end Go.Proofs.YtlnioaokpmeioaaGreatDoor
end
section
namespace Go.Proofs.YtlnioaokpmeioaaGreatDoor
open Go.RowKit Go.Maps
set_option linter.unusedVariables false
set_option linter.unusedSimpArgs false

/-- a query of blanks over what is fine -/
theorem bk_in {d : Nat} {F : R3 → List ByteArray} {l : List XR} {m : List XF} (h0 : l.length ≤ 500) (h1 : ∀ y ∈ l, riE d F y.r = 0) (n : m.length ≤ 65536) (h2 : ∀ f ∈ m, factB f = true ∧ inpE [pdF f] [] = 0) (hc : Cns (psS l m)) : inR d F l m (bkP l m).n (List.replicate (bkP l m).a bkT) = (0, 0, 0) := by
  obtain ⟨k1, k2, k3, k4⟩ := bk_pred h1 h2
  refine (in_zero d F l m _ _).2 ⟨h0, h1, n, h2, bk_atom k1 k2, ?_, ?_⟩
  · rw [bk_vars, List.length_replicate]
    exact k3
  · rw [List.length_replicate]
    rcases k4 with k4 | k4
    · exact hc.sub (fun x hx => by
        rcases List.mem_append.1 hx with hx | hx
        · exact hx
        · rw [List.mem_singleton.1 hx]; exact k4)
    · rw [k4]
      intro p hp q hq _
      rw [List.nil_append] at hp hq
      rw [List.mem_singleton.1 hp, List.mem_singleton.1 hq]
theorem cns_of_let {l : List Pd} (h : (letL [] l).isSome = true) : Cns l := by
  have := (letL_cns l [] (by simp)).1 h
  rwa [List.nil_append] at this
theorem ps_nil (l : List XR) : psS l [] = l.flatMap (fun y => stR y.r) := by
  unfold psS
  rw [List.map_nil, List.append_nil]
/-- what Input tells, and what it then tells of the parts -/
inductive Fst (d : Nat) (F : R3 → List ByteArray) (l : List XR) (m : List XF) (pr : ByteArray) (ts : List T) : Prop
  | fine (h : inR d F l m pr ts = (0, 0, 0))
  | many (hl : 500 < l.length) (h : inR d F l m pr ts = (1, 70, 0))
  | cols (hl : l.length ≤ 500) (j : Nat) (y : XR) (hj : l[j]? = some y) (h : inR d F l m pr ts = (1, 72, (j : Int))) (hw : ∀ fs pr ts, inR d F (l.take (j + 1)) fs pr ts = (1, 72, (j : Int))) (ha : inR d F (l.take j) [] (bkP (l.take j) []).n (List.replicate (bkP (l.take j) []).a bkT) = (0, 0, 0))
  | rule (hl : l.length ≤ 500) (j : Nat) (y : XR) (c : Int) (hj : l[j]? = some y) (hc : ¬ c = 72) (h : inR d F l m pr ts = (1, c, (j : Int))) (hw : ∀ fs pr ts, inR d F (l.take (j + 1)) fs pr ts = (1, c, (j : Int))) (ho : ∀ fs pr ts, inR d F [y] fs pr ts = (1, c, 0)) (ha : inR d F (l.take j) [] (bkP (l.take j) []).n (List.replicate (bkP (l.take j) []).a bkT) = (0, 0, 0) ∨ ∃ i, inR d F (l.take j) [] (bkP (l.take j) []).n (List.replicate (bkP (l.take j) []).a bkT) = (1, 72, i))
  | manyF (hm : 65536 < m.length) (h : inR d F l m pr ts = (2, 70, 0))
  | fact (hm : m.length ≤ 65536) (j : Nat) (c : Int) (hj : j < m.length) (h : inR d F l m pr ts = (2, c, (j : Int))) (h1 : inR d F l [] (bkP l []).n (List.replicate (bkP l []).a bkT) = (0, 0, 0)) (h2 : inR d F l (m.take j) (bkP l (m.take j)).n (List.replicate (bkP l (m.take j)).a bkT) = (0, 0, 0)) (hw : ∀ pr ts, inR d F l (m.take (j + 1)) pr ts = (2, c, (j : Int)))
  | qcol (h : inR d F l m pr ts = (3, 72, 0)) (s : List Pd) (hs : letL [] (psS l m) = some s) (q : Pd) (hq : seekP s pr = some q) (hn : ¬ q.a = ts.length) (nd : (s.map Pd.n).Nodup)
  | query (c : Int) (h0 : ¬ c = 0) (hc : ¬ c = 72) (h : inR d F l m pr ts = (3, c, 0)) (s : List Pd) (hs : letL [] (psS l m) = some s) (h1 : inR d F [] [] pr ts = (3, c, 0)) (h2 : inR d F l m (bkP l m).n (List.replicate (bkP l m).a bkT) = (0, 0, 0))
theorem letL_nodup : ∀ (l s t : List Pd), (s.map Pd.n).Nodup → letL s l = some t → (t.map Pd.n).Nodup
  | [], s, t, h, e => by
    injection e with e
    rw [← e]
    exact h
  | p :: l, s, t, h, e => by
    rw [letL_cons] at e
    split at e
    · exact letL_nodup l _ t (takeP_nodup h p) e
    · cases e
theorem first_cases (d : Nat) (F : R3 → List ByteArray) (l : List XR) (m : List XF) (pr : ByteArray) (ts : List T) : Fst d F l m pr ts := by
  by_cases hl : 500 < l.length
  · have e : raR d F [] l = (0, 70, []) := by unfold raR; rw [if_pos hl]
    refine .many hl ?_
    unfold inR
    rw [e, if_neg (by decide)]
  have hl' : l.length ≤ 500 := by omega
  have htl : ∀ j, (l.take j).length ≤ 500 := fun j => by rw [List.length_take]; omega
  by_cases hr : (rcR d F l 0).2 = 0
  · have hz := (rc_zero d F l 0).1 hr
    by_cases ht : (rtR [] l 0).2.1 = 0
    · have eR : raR d F [] l = rtR [] l 0 := by unfold raR; rw [if_neg hl, if_pos hr]
      have hR : (raR d F [] l).2.1 = 0 := by rw [eR]; exact ht
      have hlt := (rt_zero l [] 0).2 ht
      have hcl : Cns (psS l []) := cns_of_let (by rw [ps_nil, hlt]; rfl)
      by_cases hm : 65536 < m.length
      · refine .manyF hm ?_
        have e : faR (raR d F [] l).2.2 m = (0, 70, (raR d F [] l).2.2) := by unfold faR; rw [if_pos hm]
        unfold inR
        rw [if_pos hR, e, if_neg (by show ¬ (70 : Int) = 0; decide)]
      have hm' : m.length ≤ 65536 := by omega
      have eF : faR (raR d F [] l).2.2 m = fsR (raR d F [] l).2.2 m 0 := by unfold faR; rw [if_neg hm]
      have hps : ∀ x : List XF, letL [] (psS l x) = letL (raR d F [] l).2.2 (x.map pdF) := fun x => by
        unfold psS
        rw [letL_append, hlt, eR]
        rfl
      by_cases hf : (fsR (raR d F [] l).2.2 m 0).2.1 = 0
      · obtain ⟨hfa, hfs⟩ := (fs_zero m (raR d F [] l).2.2 0).1.1 hf
        have hs := (fs_zero m (raR d F [] l).2.2 0).2 hf
        rw [← hps] at hs hfs
        have hcm : Cns (psS l m) := cns_of_let hfs
        have hI : inR d F l m pr ts = if qyE (fsR (raR d F [] l).2.2 m 0).2.2 pr ts = 0 then (0, 0, 0) else (3, qyE (fsR (raR d F [] l).2.2 m 0).2.2 pr ts, 0) := by
          unfold inR
          rw [if_pos hR, eF, if_pos hf]
        generalize (fsR (raR d F [] l).2.2 m 0).2.2 = s at hs hI
        by_cases q0 : qyE s pr ts = 0
        · rw [if_pos q0] at hI
          exact .fine hI
        rw [if_neg q0] at hI
        by_cases q1 : qyE s pr ts = 72
        · rw [q1] at hI
          have hq : ∃ q, seekP s pr = some q ∧ ¬ q.a = ts.length := by
            unfold qyE ipE at q1
            cases hb : atomB pr ts
            · rw [hb] at q1
              cases q1
            · rw [hb, if_pos rfl] at q1
              by_cases hi : inpE [⟨pr, ts.length⟩] (vsT [] ts) = 0
              · rw [if_pos hi] at q1
                unfold takeP at q1
                cases hk : seekP s pr with
                | none =>
                  simp only [hk] at q1
                  cases q1
                | some q =>
                  refine ⟨q, rfl, fun he => ?_⟩
                  simp only [hk] at q1
                  rw [decide_eq_true he] at q1
                  cases q1
              · rw [if_neg hi] at q1
                rcases inp_codes [⟨pr, ts.length⟩] (vsT [] ts) with k | k | k <;> rw [k] at q1 <;> cases q1
          obtain ⟨q, hq1, hq2⟩ := hq
          exact .qcol hI s hs q hq1 hq2 (letL_nodup _ [] s (by simp) hs)
        · refine .query _ q0 q1 hI s hs ?_ (bk_in hl' hz hm' hfa hcm)
          have e1 : inR d F [] [] pr ts = if qyE [] pr ts = 0 then (0, 0, 0) else (3, qyE [] pr ts, 0) := rfl
          have e2 : qyE [] pr ts = qyE s pr ts := by
            unfold qyE ipE at q0 q1 ⊢
            cases hb : atomB pr ts
            · rfl
            · rw [hb, if_pos rfl] at q0 q1
              rw [if_pos rfl, if_pos rfl]
              by_cases hi : inpE [⟨pr, ts.length⟩] (vsT [] ts) = 0
              · rw [if_pos hi] at q0 q1
                exfalso
                cases hk : (takeP s ⟨pr, ts.length⟩).2
                · rw [hk] at q1
                  exact q1 rfl
                · rw [hk] at q0
                  exact q0 rfl
              · rw [if_neg hi, if_neg hi]
          rw [e1, e2, if_neg q0]
      · obtain ⟨j, y, h1, h2, h3⟩ := in_fs hR hm' hf
        have hj := get_lt h1
        have hk := (fs_zero (m.take j) (raR d F [] l).2.2 0).1.1 h2
        refine .fact hm' j _ hj (h3 pr ts).1 (bk_in hl' hz (Nat.zero_le _) (fun f hf => by cases hf) hcl) (bk_in hl' hz (by rw [List.length_take]; omega) hk.1 (cns_of_let (by rw [hps]; exact hk.2))) (fun pr ts => (h3 pr ts).2)
    · obtain ⟨j, y, h1, h2, h3, h4⟩ := in_rt hl' hr ht
      refine .cols hl' j y h1 (h4 m pr ts).1 (fun fs pr ts => (h4 fs pr ts).2) (bk_in (htl j) h3 (Nat.zero_le _) (fun f hf => by cases hf) (cns_of_let ?_))
      rw [ps_nil, (rt_zero (l.take j) [] 0).2 h2]
      rfl
  · obtain ⟨j, y, h1, h2, h3, h4⟩ := in_rc hl' hr
    refine .rule hl' j y _ h1 (ri_not d F y.r) (h4 m pr ts).1 (fun fs pr ts => (h4 fs pr ts).2.1) (fun fs pr ts => (h4 fs pr ts).2.2) ?_
    by_cases hc : (rtR [] (l.take j) 0).2.1 = 0
    · refine .inl (bk_in (htl j) h3 (Nat.zero_le _) (fun f hf => by cases hf) (cns_of_let ?_))
      rw [ps_nil, (rt_zero (l.take j) [] 0).2 hc]
      rfl
    · obtain ⟨_, _, _, _, _, h5⟩ := in_rt (htl j) ((rc_zero d F _ 0).2 h3) hc
      exact .inr ⟨_, (h5 [] _ _).1⟩
end Go.Proofs.YtlnioaokpmeioaaGreatDoor
end
section
namespace Go.Proofs.YtlnioaokpmeioaaGreatDoor
open Go.RowKit Go.Maps
set_option linter.unusedVariables false
set_option linter.unusedSimpArgs false
attribute [local go_sem ↓] Go.wp_at_zero Go.wp_at_succ
attribute [-go_sem] loadVar storeVar Builtin.append_ Instr.buildSlice

theorem infoRule : (Tryz.prog.info? 72).map (fun i => (i.zero, i.size, i.bytes)) = some (some (.agg #[.string ⟨#[]⟩, .slice none 0 0, .slice none 0 0]), 3, 64) := by kernel_rfl
theorem oneRule (y : XR) : ∀ u ∈ y.cells, u.oneCell' = true := fun u hu => by
  simp [XR.cells] at hu
  rcases hu with h | h | h <;> rw [h] <;> rfl
theorem sliceRule (y : XR) (u : World) : (Instr.buildSlice 22 1 #[(0, .agg y.cells.toArray)]).run Tryz.prog u = .ok (.slice (some ⟨u.heap.size, 0, none⟩) 1 1) (u.alloc (.cells y.cells.toArray 72)) := by
  simp [Instr.buildSlice, Instr.fill, go_sem, XR.cells]
theorem pushRule {w0 u : World} {B : Nat} {a : Option Addr} {c : Nat} {out : List XR} (x : XR) (own : u.ownsRow B 72 3 (.slice a out.length c) out.length (out.flatMap XR.cells)) (hb : Below B w0 u) (hB : B ≤ w0.heap.size) (hl : out.length ≤ 1000000000) :
    ∃ a6 c6 w5, (Builtin.append_ #[22, 22] 22 #[.slice a out.length c, .slice (some ⟨u.heap.size, 0, none⟩) 1 1]).run Tryz.prog (u.alloc (.cells x.cells.toArray 72)) = .ok (.slice a6 (out.length + 1) c6) w5 ∧ w5.ownsRow B 72 3 (.slice a6 (out ++ [x]).length c6) (out ++ [x]).length ((out ++ [x]).flatMap XR.cells) ∧ Below B w0 w5 := by
  obtain ⟨i0, hi0, hz0, hz1, hz2⟩ := info_parts infoRule
  have hA := belowA (w := u) (.cells x.cells.toArray 72)
  have hzu : B ≤ u.heap.size := Nat.le_trans hB hb.size
  have hb5 : Below B w0 (u.alloc (.cells x.cells.toArray 72)) := hb.trans (hA.mono hzu)
  have hz5 : B ≤ (u.alloc (.cells x.cells.toArray 72)).heap.size := Nat.le_trans hzu hA.size
  have ho := own_below own hA
  obtain ⟨v', w5, hrun, hown', hgrow, hnil, hloc⟩ := run_append_own_at (P := Tryz.prog) (u.alloc (.cells x.cells.toArray 72)) B 22 22 72 i0 _ 3 64 Tryz.underlying22 hi0 hz0 hz1 hz2 rfl (by decide) _ _ _ ho ⟨_, 0, none⟩ 1 1 x.cells rfl (lit_news _ x.cells.toArray _) (oneRule x) (by unfold maxLen; omega) (by omega) hz5
  obtain ⟨a6, c6, rfl, _⟩ := own_form hown'
  refine ⟨a6, c6, w5, hrun, ?_, hb5.grown hgrow hz5 (fun j hj => (ho.lt j hj).1)⟩
  rw [List.length_append, List.flatMap_append]
  simpa using hown'
theorem infoFact : (Tryz.prog.info? 78).map (fun i => (i.zero, i.size, i.bytes)) = some (some (.agg #[.string ⟨#[]⟩, .slice none 0 0]), 2, 40) := by kernel_rfl
theorem oneFact (y : XF) : ∀ u ∈ y.cells, u.oneCell' = true := fun u hu => by
  simp [XF.cells] at hu
  rcases hu with h | h <;> rw [h] <;> rfl
theorem sliceFact (y : XF) (u : World) : (Instr.buildSlice 23 1 #[(0, .agg y.cells.toArray)]).run Tryz.prog u = .ok (.slice (some ⟨u.heap.size, 0, none⟩) 1 1) (u.alloc (.cells y.cells.toArray 78)) := by
  simp [Instr.buildSlice, Instr.fill, go_sem, XF.cells]
theorem pushFact {w0 u : World} {B : Nat} {a : Option Addr} {c : Nat} {out : List XF} (x : XF) (own : u.ownsRow B 78 2 (.slice a out.length c) out.length (out.flatMap XF.cells)) (hb : Below B w0 u) (hB : B ≤ w0.heap.size) (hl : out.length ≤ 1000000000) :
    ∃ a6 c6 w5, (Builtin.append_ #[23, 23] 23 #[.slice a out.length c, .slice (some ⟨u.heap.size, 0, none⟩) 1 1]).run Tryz.prog (u.alloc (.cells x.cells.toArray 78)) = .ok (.slice a6 (out.length + 1) c6) w5 ∧ w5.ownsRow B 78 2 (.slice a6 (out ++ [x]).length c6) (out ++ [x]).length ((out ++ [x]).flatMap XF.cells) ∧ Below B w0 w5 := by
  obtain ⟨i0, hi0, hz0, hz1, hz2⟩ := info_parts infoFact
  have hA := belowA (w := u) (.cells x.cells.toArray 78)
  have hzu : B ≤ u.heap.size := Nat.le_trans hB hb.size
  have hb5 : Below B w0 (u.alloc (.cells x.cells.toArray 78)) := hb.trans (hA.mono hzu)
  have hz5 : B ≤ (u.alloc (.cells x.cells.toArray 78)).heap.size := Nat.le_trans hzu hA.size
  have ho := own_below own hA
  obtain ⟨v', w5, hrun, hown', hgrow, hnil, hloc⟩ := run_append_own_at (P := Tryz.prog) (u.alloc (.cells x.cells.toArray 78)) B 23 23 78 i0 _ 2 40 Tryz.underlying23 hi0 hz0 hz1 hz2 rfl (by decide) _ _ _ ho ⟨_, 0, none⟩ 1 1 x.cells rfl (lit_news _ x.cells.toArray _) (oneFact x) (by unfold maxLen; omega) (by omega) hz5
  obtain ⟨a6, c6, rfl, _⟩ := own_form hown'
  refine ⟨a6, c6, w5, hrun, ?_, hb5.grown hgrow hz5 (fun j hj => (ho.lt j hj).1)⟩
  rw [List.length_append, List.flatMap_append]
  simpa using hown'
/-- what fewer answers -/
def FwP (w : World) (rs : List XR) (fs : List XF) (k : Int) (e : Ending) (w' : World) : Prop := ∃ (t : List XR) (b : List XF) (a1 : Option Addr) (c1 : Nat) (a2 : Option Addr) (c2 : Nat), t = fwL XR0 rs k rs.length ∧ b = fwL XF0 fs k fs.length ∧ e = .returned (.tuple #[.slice a1 t.length c1, .slice a2 b.length c2]) ∧ w'.ownsRow w.heap.size 72 3 (.slice a1 t.length c1) t.length (t.flatMap XR.cells) ∧ w'.ownsRow w.heap.size 78 2 (.slice a2 b.length c2) b.length (b.flatMap XF.cells) ∧ (∀ g, (Value.slice a1 t.length c1).ownBlock = some g → (Value.slice a2 b.length c2).ownBlock ≠ some g) ∧ Below w.heap.size w w'
set_option maxHeartbeats 6400000 in
set_option maxRecDepth 100000 in
theorem fewer_any (rs : List XR) (fs : List XF) (k : Int) (ra : Option Addr) (rc : Nat) (fa : Option Addr) (fc : Nat) (w : World) (hR : Ls w (.slice ra rs.length rc) rs.length (rs.flatMap XR.cells)) (hF : Ls w (.slice fa fs.length fc) fs.length (fs.flatMap XF.cells)) (hrl : rs.length ≤ 1048576) (hfl : fs.length ≤ 1048576) :
    Calls Tryz.prog 8 #[.slice ra rs.length rc, .slice fa fs.length fc, .int .i64 k] w fun e w' => FwP w rs fs k e w' := by
  obtain ⟨ra', rc', hv, _, _, hrat⟩ := ls_range (f := XR.cells) (k := 3) (fun _ => rfl) XR0 hR
  injection hv with hv1 _ hv2
  subst hv1 hv2
  obtain ⟨fa', fc', hv, _, _, hfat⟩ := ls_range (f := XF.cells) (k := 2) (fun _ => rfl) XF0 hF
  injection hv with hv1 _ hv2
  subst hv1 hv2
  have HRA : Hid (0 < rs.length → ∃ g off, ra = some ⟨g, off, none⟩ ∧ g < w.heap.size ∧ ∀ i, i < rs.length → w.rangeAt g (off + i * 3) (atR rs i).cells) := hrat
  have HFA : Hid (0 < fs.length → ∃ g off, fa = some ⟨g, off, none⟩ ∧ g < w.heap.size ∧ ∀ i, i < fs.length → w.rangeAt g (off + i * 2) (atF fs i).cells) := hfat
  have wr0 : IntKind.i64.wrap ((rs.length : Int) - 1) = (rs.length : Int) - 1 := by rw [IntKind.wrap_i64]; omega
  have wf0 : IntKind.i64.wrap ((fs.length : Int) - 1) = (fs.length : Int) - 1 := by rw [IntKind.wrap_i64]; omega
  have HWF := Lib.hid wf0
  clear hR hF hrat hfat wf0
  go_enter Tryz.func8, Tryz.ntmps8
  go_wp2
  go_loopw [8, 10] (fun v i wr => ∃ (j : Nat) (z : Int) (a1 : Option Addr) (c1 : Nat) (t : List XR), j ≤ rs.length ∧ i = .int .i64 z ∧ v = .slice a1 t.length c1 ∧ Hid (z = (rs.length : Int) - 1 - (j : Int)) ∧ Hid (t = fwL XR0 rs k j) ∧ Hid (wr.ownsRow w.heap.size 72 3 (.slice a1 t.length c1) t.length (t.flatMap XR.cells)) ∧ Hid (Below w.heap.size w wr)) (fun _ i _ => (intOf i + 1).toNat)
  case atStart => exact ⟨0, (rs.length : Int) - 1, none, 0, [], Nat.zero_le _, rfl, rfl, (by show _ = _; omega), rfl, World.ownsRow_nil _ _ _ _, Below.refl _ _⟩
  case round =>
    obtain ⟨j, z, a1, c1, t, hj, rfl, rfl, HZ, HT, HO, HB⟩ := hrel
    obtain ⟨U, rfl⟩ : ∃ U, U = wr := ⟨_, rfl⟩
    by_cases hlt : j < rs.length
    · obtain ⟨kk, hkk⟩ : ∃ kk, kk = rs.length - 1 - j := ⟨_, rfl⟩
      obtain rfl : z = (kk : Int) := by have := HZ.out; omega
      have hkl : kk < rs.length := by omega
      have hkl' : (kk : Int) < (rs.length : Int) := by omega
      have hk0 : (0 : Int) ≤ (kk : Int) := by omega
      have ww : IntKind.i64.wrap ((kk : Int) - 1) = (kk : Int) - 1 := by rw [IntKind.wrap_i64]; omega
      have HZN : Hid ((kk : Int) - 1 = (rs.length : Int) - 1 - ((j + 1 : Nat) : Int)) := by show _ = _; omega
      have HFS := Lib.hid (fwL_succ XR0 rs k j)
      rw [← HT.out, ← hkk] at HFS
      have htl : t.length ≤ 1000000000 := by have := fwL_len XR0 rs k j; rw [← HT.out] at this; omega
      obtain ⟨g, off, rfl, hg, hr⟩ := HRA.out (by omega)
      have r1 : U.rangeAt g (off + kk * 3) (atR rs kk).cells := range_below (hr kk hkl) (HB.out) hg
      have hld := load_Rul r1 rfl
      obtain ⟨a6, c6, w5, hrun, ho6, hb6⟩ := pushRule (atR rs kk) HO.out HB.out (Nat.le_refl _) htl
      have hbs := sliceRule (atR rs kk) U
      have HO6 := Lib.hid ho6
      have HB6 := Lib.hid hb6
      have hgd : rs.getD kk XR0 = atR rs kk := rfl
      rw [hgd] at HFS
      generalize atR rs kk = y at hld hrun hbs HO6 HFS
      generalize Value.agg y.cells.toArray = QV at hld hbs
      clear r1 hr ho6 hb6 hgd hkk HT
      by_cases hk : k ≤ 0
      · have HK := Lib.hid hk
        have HT2 : Hid (t ++ [y] = fwL XR0 rs k (j + 1)) := by show _ = _; rw [HFS.out, if_pos (.inl HK.out)]
        clear HFS
        go_wp2
        go_roundw
        case rel => exact ⟨j + 1, (kk : Int) - 1, a6, c6, t ++ [y], by omega, rfl, by simp, HZN, HT2, HO6, HB6⟩
        case measure => simp [intOf] <;> omega
      · have hk1 : ¬ k = 0 := by omega
        have hk2 : 0 < k := by omega
        by_cases hrr : ((kk : Int).tmod k) = 0
        · have HT2 : Hid (t = fwL XR0 rs k (j + 1)) := by
            show _ = _
            rw [HFS.out, if_neg (by rintro (h | h); exact hk h; exact h hrr)]
            simp
          clear HFS
          go_wp2
          go_roundw
          case rel => exact ⟨j + 1, (kk : Int) - 1, a1, c1, t, by omega, rfl, rfl, HZN, HT2, HO, HB⟩
          case measure => simp [intOf] <;> omega
        · have HRR := Lib.hid hrr
          have hrn : (((kk : Int) % k) != 0) = true := by rw [bne_iff_ne, ← Int.tmod_eq_emod_of_nonneg hk0]; exact hrr
          clear hrr
          have HT2 : Hid (t ++ [y] = fwL XR0 rs k (j + 1)) := by show _ = _; rw [HFS.out, if_pos (.inr HRR.out)]
          clear HFS
          go_wp2
          go_roundw
          case rel => exact ⟨j + 1, (kk : Int) - 1, a6, c6, t ++ [y], by omega, rfl, by simp, HZN, HT2, HO6, HB6⟩
          case measure => simp [intOf] <;> omega
    · obtain rfl : j = rs.length := by omega
      obtain rfl : z = -1 := by have := HZ.out; omega
      have HT0 := Lib.hid HT.out
      have HO1 := Lib.hid HO.out
      have HB1 := Lib.hid HB.out
      have wf0 := HWF.out
      obtain ⟨W1, rfl⟩ : ∃ W1, W1 = U := ⟨_, rfl⟩
      obtain ⟨t0, rfl⟩ : ∃ t0, t0 = t := ⟨_, rfl⟩
      obtain ⟨a0, rfl⟩ : ∃ a0, a0 = a1 := ⟨_, rfl⟩
      obtain ⟨c0, rfl⟩ : ∃ c0, c0 = c1 := ⟨_, rfl⟩
      clear HZ HT HO HB HRA hlt hj wr0
      go_wp2
      clear wf0
      go_loopw [9, 11] (fun v i wr => ∃ (j : Nat) (z : Int) (a1 : Option Addr) (c1 : Nat) (t : List XF), j ≤ fs.length ∧ i = .int .i64 z ∧ v = .slice a1 t.length c1 ∧ Hid (z = (fs.length : Int) - 1 - (j : Int)) ∧ Hid (t = fwL XF0 fs k j) ∧ Hid (wr.ownsRow W1.heap.size 78 2 (.slice a1 t.length c1) t.length (t.flatMap XF.cells)) ∧ Hid (Below W1.heap.size W1 wr)) (fun _ i _ => (intOf i + 1).toNat)
      case atStart => exact ⟨0, (fs.length : Int) - 1, none, 0, [], Nat.zero_le _, rfl, rfl, (by show _ = _; omega), rfl, World.ownsRow_nil _ _ _ _, Below.refl _ _⟩
      case round =>
        obtain ⟨j, z, a1, c1, t, hj, rfl, rfl, HZ, HT, HO, HB⟩ := hrel
        obtain ⟨U, rfl⟩ : ∃ U, U = wr := ⟨_, rfl⟩
        by_cases hlt : j < fs.length
        · obtain ⟨kk, hkk⟩ : ∃ kk, kk = fs.length - 1 - j := ⟨_, rfl⟩
          obtain rfl : z = (kk : Int) := by have := HZ.out; omega
          have hkl : kk < fs.length := by omega
          have hkl' : (kk : Int) < (fs.length : Int) := by omega
          have hk0 : (0 : Int) ≤ (kk : Int) := by omega
          have ww : IntKind.i64.wrap ((kk : Int) - 1) = (kk : Int) - 1 := by rw [IntKind.wrap_i64]; omega
          have HZN : Hid ((kk : Int) - 1 = (fs.length : Int) - 1 - ((j + 1 : Nat) : Int)) := by show _ = _; omega
          have HFS := Lib.hid (fwL_succ XF0 fs k j)
          rw [← HT.out, ← hkk] at HFS
          have htl : t.length ≤ 1000000000 := by have := fwL_len XF0 fs k j; rw [← HT.out] at this; omega
          obtain ⟨g, off, rfl, hg, hr⟩ := HFA.out (by omega)
          have r1 : U.rangeAt g (off + kk * 2) (atF fs kk).cells := range_below (hr kk hkl) (HB1.out.trans (HB.out.mono HB1.out.size)) hg
          have hld := load_Fac r1 rfl
          obtain ⟨a6, c6, w5, hrun, ho6, hb6⟩ := pushFact (atF fs kk) HO.out HB.out (Nat.le_refl _) htl
          have hbs := sliceFact (atF fs kk) U
          have HO6 := Lib.hid ho6
          have HB6 := Lib.hid hb6
          have hgd : fs.getD kk XF0 = atF fs kk := rfl
          rw [hgd] at HFS
          generalize atF fs kk = y at hld hrun hbs HO6 HFS
          generalize Value.agg y.cells.toArray = QV at hld hbs
          clear r1 hr ho6 hb6 hgd hkk HT
          by_cases hk : k ≤ 0
          · have HK := Lib.hid hk
            have HT2 : Hid (t ++ [y] = fwL XF0 fs k (j + 1)) := by show _ = _; rw [HFS.out, if_pos (.inl HK.out)]
            clear HFS
            go_wp2
            go_roundw
            case rel => exact ⟨j + 1, (kk : Int) - 1, a6, c6, t ++ [y], by omega, rfl, by simp, HZN, HT2, HO6, HB6⟩
            case measure => simp [intOf] <;> omega
          · have hk1 : ¬ k = 0 := by omega
            have hk2 : 0 < k := by omega
            by_cases hrr : ((kk : Int).tmod k) = 0
            · have HT2 : Hid (t = fwL XF0 fs k (j + 1)) := by
                show _ = _
                rw [HFS.out, if_neg (by rintro (h | h); exact hk h; exact h hrr)]
                simp
              clear HFS
              go_wp2
              go_roundw
              case rel => exact ⟨j + 1, (kk : Int) - 1, a1, c1, t, by omega, rfl, rfl, HZN, HT2, HO, HB⟩
              case measure => simp [intOf] <;> omega
            · have HRR := Lib.hid hrr
              have hrn : (((kk : Int) % k) != 0) = true := by rw [bne_iff_ne, ← Int.tmod_eq_emod_of_nonneg hk0]; exact hrr
              clear hrr
              have HT2 : Hid (t ++ [y] = fwL XF0 fs k (j + 1)) := by show _ = _; rw [HFS.out, if_pos (.inr HRR.out)]
              clear HFS
              go_wp2
              go_roundw
              case rel => exact ⟨j + 1, (kk : Int) - 1, a6, c6, t ++ [y], by omega, rfl, by simp, HZN, HT2, HO6, HB6⟩
              case measure => simp [intOf] <;> omega
        · obtain rfl : j = fs.length := by omega
          obtain rfl : z = -1 := by have := HZ.out; omega
          have HEN : Hid (Below w.heap.size w U) := HB1.out.trans (HB.out.mono HB1.out.size)
          have HO2 := Lib.hid (own_below HO1.out (HB.out.mono (Nat.le_refl _)))
          have HOF := Lib.hid (own_lower HO.out HB1.out.size)
          have HDJ : Hid (∀ g, (Value.slice a0 t0.length c0).ownBlock = some g → (Value.slice a1 t.length c1).ownBlock ≠ some g) := fun g h1 h2 => by
            have k1 := (HO1.out.lt g h1).2
            have k2 := (HO.out.lt g h2).1
            omega
          go_wp2
          go_ret2
          exact ⟨t0, t, a0, c0, a1, c1, HT0.out, HT.out, rfl, HO2.out, HOF.out, HDJ.out, HEN.out⟩
end Go.Proofs.YtlnioaokpmeioaaGreatDoor
end
section
namespace Go.Proofs.YtlnioaokpmeioaaGreatDoor
open Go.RowKit Go.Maps
set_option linter.unusedVariables false
set_option linter.unusedSimpArgs false

/-- append onto a row of one's own: in place, or into a new block, and then the others stay as they were -/
theorem run_append_own2 {P : Program} (w : World) (base : Nat) (t ty e : TypeId) (i : TypeInfo) (z : Value) (size bytes : Nat) (ht : P.underlying t = some (.slice e)) (hi : P.info? e = some i) (hz : i.zero = some z)
    (hsize : i.size = size) (hby : i.bytes = bytes) (hzs : z.cells.size = size) (hsz : 0 < size)
    (v : Value) (n : Nat) (xs : List Value) (hown : w.ownsRow base e size v n xs)
    (a : Addr) (m c : Nat) (news : List Value) (hl : news.length = m * size) (hnews : ∀ j u, news[j]? = some u → w.cell? (a.add j) = some u) (h1 : ∀ u ∈ news, u.oneCell' = true)
    (h63 : n + m ≤ maxLen) (hbytes : (n + m) * bytes ≤ 140737488355328) (hbase : base ≤ w.heap.size) (hm : 0 < m) :
    ∃ v' w', (Builtin.append_ #[t, t] ty #[v, .slice (some a) m c]).run P w = .ok v' w' ∧ w'.ownsRow base e size v' (n + m) (xs ++ news) ∧ w.grownBy w' v.ownBlock ∧
      ((∃ b cap, v = .slice b n cap ∧ v' = .slice b (n + m) cap) ∨ (v'.ownBlock = some w.heap.size ∧ ∀ k, k < w.heap.size → w'.heap[k]? = w.heap[k]?)) := by
  obtain ⟨v', w', hr, ho, hg, _, hloc⟩ := run_append_own_at (P := P) w base t ty e i z size bytes ht hi hz hsize hby hzs hsz v n xs hown a m c news hl hnews h1 h63 hbytes hbase
  refine ⟨v', w', hr, ho, hg, ?_⟩
  rcases hown.2 with ⟨rfl, rfl⟩ | ⟨g, cap, cur, rfl, hbg, hgg, hnc, hcm, hcs, htake⟩
  · right
    rcases hloc with hloc | hloc
    · exfalso
      rcases ho.2 with ⟨_, e⟩ | ⟨g, cap, cur, rfl, _⟩
      · omega
      · cases hloc
    · exact ⟨hloc, fun k hk => hg.block k hk (fun e => by cases e)⟩
  · by_cases hroom : n + m ≤ cap
    · obtain ⟨w2, hr2, _, _⟩ := run_append_fits (P := P) w base t ty e i size ht hi hsize g n cap xs hown a m c news hl hnews h1 hroom
      rw [hr] at hr2
      injection hr2 with e1 e2
      exact .inl ⟨_, cap, rfl, e1⟩
    · right
      subst hsize hby
      have holds : ∀ j u, xs[j]? = some u → w.cell? ((⟨g, 0, none⟩ : Addr).add j) = some u := hown.cells (g := g) rfl
      have hr2 := run_append_grow (P := P) w t ty e i z ht hi hz ⟨g, 0, none⟩ n cap xs hown.1 holds a m c news hl hnews (by omega) (by simp only [maxLen] at h63; omega) (growslice_fits (by simp only [maxLen] at h63; omega) hbytes)
      rw [hr] at hr2
      injection hr2 with e1 e2
      rw [e1, e2]
      exact ⟨rfl, fun k hk => Below.heap_alloc w.drew _ k hk⟩
/-- the first part of a row of one's own -/
theorem own_front {w : World} {B : Nat} {e : TypeId} {k n m cap : Nat} {b : Option Addr} {xs ys : List Value} (h : w.ownsRow B e k (.slice b (n + m) cap) (n + m) (xs ++ ys)) (hx : xs.length = n * k) (hm : 0 < m) : w.ownsRow B e k (.slice b n cap) n xs := by
  refine ⟨hx, ?_⟩
  rcases h.2 with ⟨_, h0⟩ | ⟨g, cap', cur, hv, hB, hb, hn, hc, hs, ht⟩
  · omega
  · injection hv with hv1 _ hv2
    subst hv1 hv2
    refine .inr ⟨g, cap, cur, rfl, hB, hb, by omega, hc, hs, ?_⟩
    have := congrArg (List.take (n * k)) ht
    rw [List.take_take, Nat.min_eq_left (Nat.mul_le_mul_right k (by omega)), List.take_append_of_le_length (by omega), List.take_of_length_le (l := xs) (by omega)] at this
    exact this
/-- append of a list onto a row of one's own: the old row stays besides -/
theorem appKeep {w : World} {b : Nat} {v : Value} {n : Nat} {xs : List Value} (ty t e : TypeId) {i0 : TypeInfo} {z : Value} {k bytes : Nat} (hu : Tryz.prog.underlying t = some (.slice e)) (hi0 : Tryz.prog.info? e = some i0) (hz0 : i0.zero = some z) (hz1 : i0.size = k) (hz2 : i0.bytes = bytes) (hzs : z.cells.size = k) (hk : 0 < k)
    (hown : w.ownsRow b e k v n xs) {a : Option Addr} {m c : Nat} {ys : List Value} (hl : Ls w (.slice a m c) m ys) (hly : ys.length = m * k) (h1 : ∀ u ∈ ys, u.oneCell' = true) (h63 : n + m ≤ maxLen) (hby : (n + m) * bytes ≤ 140737488355328) (hb : b ≤ w.heap.size) :
    ∃ v' w', (Builtin.append_ #[t, t] ty #[v, .slice a m c]).run Tryz.prog w = .ok v' w' ∧ w'.ownsRow b e k v' (n + m) (xs ++ ys) ∧ w'.ownsRow b e k v n xs ∧ w.grownBy w' v.ownBlock ∧ (v'.ownBlock = v.ownBlock ∨ v'.ownBlock = some w.heap.size) := by
  obtain ⟨hl0, a', c', e', hc1, hc2, hat⟩ := hl
  by_cases h0 : m = 0
  · subst h0
    obtain rfl : ys = [] := List.length_eq_zero_iff.1 (by rw [hly]; simp)
    have hv : ∃ ba sc, v = .slice ba n sc ∧ n ≤ sc := by
      rcases hown.2 with ⟨rfl, rfl⟩ | ⟨g, cap, cur, rfl, _, _, hnc, _, _, _⟩
      · exact ⟨none, 0, rfl, Nat.le_refl _⟩
      · exact ⟨_, _, rfl, hnc⟩
    obtain ⟨ba, sc, rfl, hsc⟩ := hv
    refine ⟨_, _, run_append_nothing w _ _ ty _ i0 hu hi0 ba n sc hsc _ ⟨.inl ⟨_, hu⟩, by intro w'; cases a <;> simp [Builtin.lenOf], by cases a <;> simp [Builtin.firstCells, loadCells, loadCellsFrom], by cases a <;> simp [Builtin.firstCells, loadCells, loadCellsFrom], by simp, by simp⟩, ?_, hown, ⟨rfl, rfl, rfl, Nat.le_refl _, fun _ _ _ => rfl⟩, .inl rfl⟩
    simpa using hown
  · obtain ⟨g, off, ha, _, hf⟩ := hat (by omega)
    cases e'
    subst ha
    obtain ⟨v', w', hr, ho, hg, hc⟩ := run_append_own2 (P := Tryz.prog) w b t ty e i0 z k bytes hu hi0 hz0 hz1 hz2 hzs hk v n xs hown ⟨g, off, none⟩ m c ys hly (fun j u hj => by
      obtain ⟨hj1, hj2⟩ := List.getElem?_eq_some_iff.1 hj
      have := hf j hj1
      rw [hj2] at this
      rw [show (⟨g, off, none⟩ : Addr).add j = ⟨g, off + j, none⟩ by cases j <;> simp [Addr.add]]
      exact this) h1 h63 hby hb (by omega)
    refine ⟨v', w', hr, ho, ?_, hg, ?_⟩
    · rcases hc with ⟨b', cap, rfl, rfl⟩ | ⟨_, hk'⟩
      · exact own_front ho hown.1 (by omega)
      · exact own_of_block hown (fun g hg => hk' g (hown.lt g hg).2)
    · rcases hc with ⟨b', cap, rfl, rfl⟩ | ⟨hk', _⟩
      · left
        cases b' <;> rfl
      · exact .inr hk'
theorem onesR : ∀ (l : List XR), ∀ u ∈ l.flatMap XR.cells, u.oneCell' = true := fun l u hu => by
  obtain ⟨y, _, hy⟩ := List.mem_flatMap.1 hu
  exact oneRule y u hy
theorem onesF : ∀ (l : List XF), ∀ u ∈ l.flatMap XF.cells, u.oneCell' = true := fun l u hu => by
  obtain ⟨y, _, hy⟩ := List.mem_flatMap.1 hu
  exact oneFact y u hy
theorem lenR (l : List XR) : (l.flatMap XR.cells).length = l.length * 3 := by induction l with
  | nil => rfl
  | cons y l ih => rw [List.flatMap_cons, List.length_append, ih, List.length_cons]; show 3 + _ = _; omega
theorem lenF (l : List XF) : (l.flatMap XF.cells).length = l.length * 2 := by induction l with
  | nil => rfl
  | cons y l ih => rw [List.flatMap_cons, List.length_append, ih, List.length_cons]; show 2 + _ = _; omega
theorem atR_mem {l : List XR} {i : Nat} (h : i < l.length) : atR l i ∈ l := by
  show l.getD i XR0 ∈ l
  rw [List.getD_eq_getElem?_getD, List.getElem?_eq_getElem h]
  exact List.getElem_mem _
theorem atF_mem {l : List XF} {i : Nat} (h : i < l.length) : atF l i ∈ l := by
  show l.getD i XF0 ∈ l
  rw [List.getD_eq_getElem?_getD, List.getElem?_eq_getElem h]
  exact List.getElem_mem _
theorem memR {l : List XR} {y : XR} (h : y ∈ l) : ∃ i, i < l.length ∧ atR l i = y := by
  obtain ⟨i, hi, e⟩ := List.getElem_of_mem h
  refine ⟨i, hi, ?_⟩
  show l.getD i XR0 = y
  rw [List.getD_eq_getElem?_getD, List.getElem?_eq_getElem hi, e]
  rfl
theorem memF {l : List XF} {y : XF} (h : y ∈ l) : ∃ i, i < l.length ∧ atF l i = y := by
  obtain ⟨i, hi, e⟩ := List.getElem_of_mem h
  refine ⟨i, hi, ?_⟩
  show l.getD i XF0 = y
  rw [List.getD_eq_getElem?_getD, List.getElem?_eq_getElem hi, e]
  rfl
/-- rules of l, in whatever order, in a list of their own -/
theorem lr_sub {w u : World} {d : Nat} {v v' : Value} {l t : List XR} (h : Lr w v d l) (hb : Below w.heap.size w u) (hs : ∀ y ∈ t, y ∈ l) (hl : Ls u v' t.length (t.flatMap XR.cells)) : Lr u v' d t := ⟨hl, fun i hi => by
  obtain ⟨j, hj, e⟩ := memR (hs _ (atR_mem hi))
  rw [← e]
  exact (h.each j hj).below hb⟩
theorem lf_sub {w u : World} {v v' : Value} {l t : List XF} (h : Lf w v l) (hb : Below w.heap.size w u) (hs : ∀ y ∈ t, y ∈ l) (hl : Ls u v' t.length (t.flatMap XF.cells)) : Lf u v' t := ⟨hl, fun i hi => by
  obtain ⟨j, hj, e⟩ := memF (hs _ (atF_mem hi))
  rw [← e]
  exact (h.each j hj).below hb⟩
theorem allR {p : XR → Prop} {l t : List XR} (h : ∀ i, i < l.length → p (atR l i)) (hs : ∀ y ∈ t, y ∈ l) : ∀ i, i < t.length → p (atR t i) := fun i hi => by
  obtain ⟨j, hj, e⟩ := memR (hs _ (atR_mem hi))
  rw [← e]
  exact h j hj
theorem infoRu : (Tryz.prog.info? 72).map (fun i => (i.zero, i.size, i.bytes)) = some (some (.agg #[.string ⟨#[]⟩, .slice none 0 0, .slice none 0 0]), 3, 64) := infoRule
/-- two lists of their own from B on, behind w0 -/
structure Ab (w0 : World) (B : Nat) (u : World) (a : List XR) (b : List XF) (v1 v2 : Value) : Prop where
  below : Below w0.heap.size w0 u
  o1 : u.ownsRow B 72 3 v1 a.length (a.flatMap XR.cells)
  o2 : u.ownsRow B 78 2 v2 b.length (b.flatMap XF.cells)
  ne : ∀ g, v1.ownBlock = some g → v2.ownBlock ≠ some g
theorem Ab.more {w0 u u' : World} {B : Nat} {a : List XR} {b : List XF} {v1 v2 : Value} (h : Ab w0 B u a b v1 v2) (hb : Below u.heap.size u u') : Ab w0 B u' a b v1 v2 := ⟨h.below.trans (hb.mono h.below.size), own_below h.o1 hb, own_below h.o2 hb, h.ne⟩
/-- both lists behind, and the four lists stay -/
theorem app_both {w0 u : World} {B : Nat} {a c l : List XR} {b d m : List XF} {v1 v2 v3 v4 : Value} {ra : Option Addr} {rc : Nat} {fa : Option Addr} {fc : Nat} (h : Ab w0 w0.heap.size u a b v1 v2) (h' : Ab w0 B u c d v3 v4) (h1 : ∀ g, v1.ownBlock = some g → g < B) (h2 : ∀ g, v2.ownBlock = some g → g < B)
    (hR : Ls w0 (.slice ra l.length rc) l.length (l.flatMap XR.cells)) (hF : Ls w0 (.slice fa m.length fc) m.length (m.flatMap XF.cells)) (ha : a.length ≤ 1048576) (hb : b.length ≤ 1048576) (hl : l.length ≤ 1048576) (hm : m.length ≤ 1048576) :
    ∃ x1 y1 u1 x2 y2 u2, (Builtin.append_ #[22, 22] 22 #[v1, .slice ra l.length rc]).run Tryz.prog u = .ok (.slice x1 (a ++ l).length y1) u1 ∧ (Builtin.append_ #[23, 23] 23 #[v2, .slice fa m.length fc]).run Tryz.prog u1 = .ok (.slice x2 (b ++ m).length y2) u2 ∧
      Ls u2 (.slice x1 (a ++ l).length y1) (a ++ l).length ((a ++ l).flatMap XR.cells) ∧ Ls u2 (.slice x2 (b ++ m).length y2) (b ++ m).length ((b ++ m).flatMap XF.cells) ∧ Ab w0 w0.heap.size u2 a b v1 v2 ∧ Ab w0 B u2 c d v3 v4 := by
  obtain ⟨i0, hi0, hz0, hz1, hz2⟩ := info_parts infoRule
  obtain ⟨j0, hj0, hy0, hy1, hy2⟩ := info_parts infoFact
  obtain ⟨x, u1, hr1, o1, k1, g1, p1⟩ := appKeep (w := u) 22 22 72 Tryz.underlying22 hi0 hz0 hz1 hz2 rfl (by decide) h.o1 (hR.below h.below) (lenR l) (onesR l) (by unfold maxLen; omega) (by omega) h.below.size
  have e1 : u.heap.size ≤ u1.heap.size := g1.size
  have b1 : Below w0.heap.size w0 u1 := h.below.grown g1 h.below.size (fun j hj => (h.o1.lt j hj).1)
  have o2 : u1.ownsRow w0.heap.size 78 2 v2 b.length (b.flatMap XF.cells) := h.o2.kept g1 (by
    cases q : v2.ownBlock with
    | none => exact .inl rfl
    | some g => exact .inr (fun e => h.ne g e.symm q))
  have q1 : u1.ownsRow B 72 3 v3 c.length (c.flatMap XR.cells) := h'.o1.kept g1 (by
    cases q : v3.ownBlock with
    | none => exact .inl rfl
    | some g => exact .inr (fun e => by have := h1 g e.symm; have := (h'.o1.lt g q).1; omega))
  have q2 : u1.ownsRow B 78 2 v4 d.length (d.flatMap XF.cells) := h'.o2.kept g1 (by
    cases q : v4.ownBlock with
    | none => exact .inl rfl
    | some g => exact .inr (fun e => by have := h1 g e.symm; have := (h'.o2.lt g q).1; omega))
  obtain ⟨y, u2, hr2, o3, k2, g2, p2⟩ := appKeep (w := u1) 23 23 78 Tryz.underlying23 hj0 hy0 hy1 hy2 rfl (by decide) o2 (hF.below b1) (lenF m) (onesF m) (by unfold maxLen; omega) (by omega) b1.size
  have b2 : Below w0.heap.size w0 u2 := b1.grown g2 b1.size (fun j hj => (o2.lt j hj).1)
  have e2 : u1.heap.size ≤ u2.heap.size := g2.size
  have d1 : u2.ownsRow w0.heap.size 72 3 x (a.length + l.length) (a.flatMap XR.cells ++ l.flatMap XR.cells) := o1.kept g2 (by
    cases q : x.ownBlock with
    | none => exact .inl rfl
    | some g =>
      refine .inr (fun e => ?_)
      rw [q] at p1
      rcases p1 with p1 | p1
      · exact h.ne g p1.symm e.symm
      · injection p1 with p1
        have := (h.o2.lt g e.symm).2
        omega)
  have d2 : u2.ownsRow w0.heap.size 72 3 v1 a.length (a.flatMap XR.cells) := k1.kept g2 (by
    cases q : v1.ownBlock with
    | none => exact .inl rfl
    | some g => exact .inr (fun e => h.ne g q e.symm))
  have d3 : u2.ownsRow B 72 3 v3 c.length (c.flatMap XR.cells) := q1.kept g2 (by
    cases q : v3.ownBlock with
    | none => exact .inl rfl
    | some g => exact .inr (fun e => by have := h2 g e.symm; have := (h'.o1.lt g q).1; omega))
  have d4 : u2.ownsRow B 78 2 v4 d.length (d.flatMap XF.cells) := q2.kept g2 (by
    cases q : v4.ownBlock with
    | none => exact .inl rfl
    | some g => exact .inr (fun e => by have := h2 g e.symm; have := (h'.o2.lt g q).1; omega))
  obtain ⟨x1, y1, rfl, _⟩ := own_form o1
  obtain ⟨x2, y2, rfl, _⟩ := own_form o3
  have L1 := ls_own d1
  have L2 := ls_own o3
  rw [← List.flatMap_append, ← List.length_append] at L1 L2
  rw [← List.length_append] at hr1 hr2
  exact ⟨x1, y1, u1, x2, y2, u2, hr1, hr2, L1, L2, ⟨b2, d2, k2, h.ne⟩, ⟨b2, d3, d4, h'.ne⟩⟩
end Go.Proofs.YtlnioaokpmeioaaGreatDoor
end
section
namespace Go.Proofs.YtlnioaokpmeioaaGreatDoor
open Go.RowKit Go.Maps
set_option linter.unusedVariables false
set_option linter.unusedSimpArgs false

theorem fwL_sublist {α : Type} (z : α) (l : List α) (k : Int) : ∀ j, j ≤ l.length → (fwL z l k j).Sublist (l.reverse.take j)
  | 0, _ => by simp [fwL]
  | j + 1, h => by
    have ih := fwL_sublist z l k j (by omega)
    rw [fwL_succ, List.take_add_one, List.getElem?_eq_getElem (by simp; omega)]
    refine List.Sublist.append ih ?_
    split
    · rw [List.getD_eq_getElem?_getD, List.getElem?_eq_getElem (by omega)]
      simp
    · exact List.nil_sublist _
theorem sub_flat {α β : Type} (f : α → List β) : ∀ {s t : List α}, s.Sublist t → (s.flatMap f).length ≤ (t.flatMap f).length := fun h => by
  induction h with
  | slnil => exact Nat.le_refl _
  | cons a _ ih => rw [List.flatMap_cons, List.length_append]; omega
  | cons_cons a _ ih => rw [List.flatMap_cons, List.flatMap_cons, List.length_append, List.length_append]; omega
theorem fw_flat {α β : Type} (z : α) (l : List α) (k : Int) (f : α → List β) : ((fwL z l k l.length).flatMap f).length ≤ (l.flatMap f).length := by
  have h1 := sub_flat f (fwL_sublist z l k l.length (Nat.le_refl _))
  rw [List.take_of_length_le (by simp)] at h1
  have h2 := ((List.reverse_perm l).flatMap_right f).length_eq
  omega
/-- rules and facts of l and m, in lists of their own -/
structure Sb (d : Nat) (l t : List XR) (m s : List XF) : Prop where
  r : ∀ y ∈ t, y ∈ l
  f : ∀ y ∈ s, y ∈ m
  n : (psS t s).length ≤ 100000000
theorem Sb.fw {d : Nat} {l : List XR} {m : List XF} (h1 : smallS (d + 1) l) (h2 : smallF m) (k : Int) : Sb d l (fwL XR0 l k l.length) m (fwL XF0 m k m.length) := ⟨fwL_sub _ _ _, fwL_sub _ _ _, by
  have := ps_len d (fwL XR0 l k l.length) (fwL XF0 m k m.length)
  have a1 := fwL_len XR0 l k l.length
  have a2 := fwL_len XF0 m k m.length
  have a3 := fw_flat XR0 l k (fun y => termsR (d + 1) y.r)
  have b1 := h1.len
  have b2 := h2.len
  have b3 := h1.terms
  omega⟩
theorem Sb.own {d : Nat} {l : List XR} {m : List XF} (h1 : smallS (d + 1) l) (h2 : smallF m) : Sb d l l m m := ⟨fun _ h => h, fun _ h => h, by
  have := ps_len d l m
  have b1 := h1.len
  have b2 := h2.len
  have b3 := h1.terms
  omega⟩
theorem Sb.both {d : Nat} {l : List XR} {m : List XF} (h1 : smallS (d + 1) l) (h2 : smallF m) (k : Int) : Sb d l (fwL XR0 l k l.length ++ l) m (fwL XF0 m k m.length ++ m) := ⟨fun y h => by
    rcases List.mem_append.1 h with h | h
    · exact fwL_sub _ _ _ y h
    · exact h, fun y h => by
    rcases List.mem_append.1 h with h | h
    · exact fwL_sub _ _ _ y h
    · exact h, by
  have := ps_len d (fwL XR0 l k l.length ++ l) (fwL XF0 m k m.length ++ m)
  rw [List.flatMap_append, List.length_append, List.length_append, List.length_append] at this
  have a1 := fwL_len XR0 l k l.length
  have a2 := fwL_len XF0 m k m.length
  have a3 := fw_flat XR0 l k (fun y => termsR (d + 1) y.r)
  have b1 := h1.len
  have b2 := h2.len
  have b3 := h1.terms
  omega⟩
/-- Job of such lists -/
theorem jobT {d : Nat} {F : R3 → List ByteArray} (hF0 : ∀ r, Lim (eqL (d + 1) r.bd) (atN r.bd) (F r)) {l t : List XR} {m s : List XF} (h : Sb d l t m s) {w u : World} {v v' : Value} (hR : Lr w v (d + 1) l) (hF : Lf w v' m) (hsm : smallS (d + 1) l) (hG : KT w ∧ LX.Gl w) (hb : Below w.heap.size w u) {ra : Option Addr} {rc : Nat} {vf : Value} (hr : Ls u (.slice ra t.length rc) t.length (t.flatMap XR.cells)) (hf : Ls u vf s.length (s.flatMap XF.cells)) :
    Calls Tryz.prog 7 #[.slice ra t.length rc, vf] u fun e w' => e = .returned (.int .i64 (jobE (d + 1) F t s)) ∧ Below u.heap.size u w' :=
  ckJob_any d F hF0 t s ra rc vf u ⟨hG.1.below hb, hG.2.below hb⟩ (lr_sub hR hb h.r hr) (lf_sub hF hb h.f hf) (allR (p := fun y => smallR (d + 1) y.r) hsm.each h.r) h.n
/-- Input of such lists -/
theorem inputT {d : Nat} {F : R3 → List ByteArray} (hF0 : ∀ r, Lim (eqL (d + 1) r.bd) (atN r.bd) (F r)) {l t : List XR} {m s : List XF} (h : Sb d l t m s) {w u : World} {v v' : Value} (hR : Lr w v (d + 1) l) (hF : Lf w v' m) (hsm : smallS (d + 1) l) (hG : KT w ∧ LX.Gl w) (hb : Below w.heap.size w u) {ra : Option Addr} {rc : Nat} {fa : Option Addr} {fc : Nat} (hr : Ls u (.slice ra t.length rc) t.length (t.flatMap XR.cells)) (hf : Ls u (.slice fa s.length fc) s.length (s.flatMap XF.cells)) {pr : ByteArray} {ts : List T} {qa : Option Addr} {qc : Nat} (hpr : pr.size ≤ maxLen) (hlen : ts.length ≤ 4398046511104) (hL : Lt w (.slice qa ts.length qc) ts) :
    Calls Tryz.prog 9 #[.agg #[.slice ra t.length rc], .slice fa s.length fc, .agg #[.string pr, .slice qa ts.length qc]] u fun e w' => e = .returned (refV (inR (d + 1) F t s pr ts)) ∧ Below u.heap.size u w' :=
  input_any d F hF0 t s pr ts ra rc fa fc qa qc u ⟨hG.1.below hb, hG.2.below hb⟩ (lr_sub hR hb h.r hr) (allR (p := fun y => smallR (d + 1) y.r) hsm.each h.r) (lf_sub hF hb h.f hf) hpr hlen (hL.below hb)
theorem eqRf0 (u : World) : (binOp .eql 38 (.agg #[.int .i8 0, .int .i64 0, .int .i64 0]) (.agg #[.int .i8 0, .int .i64 0, .int .i64 0])).run Tryz.prog u = .ok (.bool true) u := by go_simp
theorem neRf0 (u : World) : (binOp .neq 38 (.agg #[.int .i8 0, .int .i64 0, .int .i64 0]) (.agg #[.int .i8 0, .int .i64 0, .int .i64 0])).run Tryz.prog u = .ok (.bool false) u := by go_simp
theorem neRf1 {p1 p2 p3 : Int} (h : ¬ (p1, p2, p3) = ((0, 0, 0) : Int × Int × Int)) (u : World) : (binOp .neq 38 (.agg #[.int .i8 p1, .int .i64 p2, .int .i64 p3]) (.agg #[.int .i8 0, .int .i64 0, .int .i64 0])).run Tryz.prog u = .ok (.bool true) u := by
  by_cases h1 : p1 = 0
  · by_cases h2 : p2 = 0
    · by_cases h3 : p3 = 0
      · exact absurd (by rw [h1, h2, h3]) h
      · subst h1 h2
        go_simp
    · subst h1
      go_simp
  · go_simp
end Go.Proofs.YtlnioaokpmeioaaGreatDoor
end
