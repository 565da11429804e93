import Derived.Test.YtkfajjnaadmobaaGreatDoorG43
import Derived.Test.YtkfajjnaadmobaaGreatDoorG13
section
namespace Go.Proofs.YtkfajjnaadmobaaGreatDoor
open Go.RowKit Go.Maps
set_option linter.unusedVariables false
set_option linter.unusedSimpArgs false

/-- an equation gives this variable, these being found -/
def hitQ (fs : List ByteArray) (v : ByteArray) (q : Qn) : Bool := (decide (q.1.lone = some v) && q.2.vars.all (inB fs)) || (decide (q.2.lone = some v) && q.1.vars.all (inB fs))
def eqdB (qs : List Qn) (v : ByteArray) (fs : List ByteArray) : Bool := qs.any (hitQ fs v)
theorem gave_hit {fs : List ByteArray} {q : Qn} {v : ByteArray} (h : gaveO fs q = some v) : hitQ fs v q = true := by
  unfold gaveO at h
  unfold hitQ
  cases h1 : givesO q.1.lone q.2.vars fs with
  | some x =>
    rw [h1] at h
    injection h with h
    subst h
    obtain ⟨e1, _, e3⟩ := givesO_some h1
    rw [decide_eq_true e1, List.all_eq_true.2 (fun y hy => inB_iff.2 (e3 y hy))]
    rfl
  | none =>
    rw [h1] at h
    obtain ⟨e1, _, e3⟩ := givesO_some h
    rw [decide_eq_true e1, List.all_eq_true.2 (fun y hy => inB_iff.2 (e3 y hy)), Bool.or_eq_true]
    exact .inr rfl
theorem hit_gave {fs : List ByteArray} {q : Qn} {v : ByteArray} (hv : ¬ v ∈ fs) (h : hitQ fs v q = true) : gaveO fs q ≠ none := by
  unfold hitQ at h
  have hb : inB fs v = false := by rw [← Bool.not_eq_true]; exact fun e => hv (inB_iff.1 e)
  rw [Bool.or_eq_true, Bool.and_eq_true, Bool.and_eq_true, decide_eq_true_eq, decide_eq_true_eq] at h
  unfold gaveO
  rcases h with ⟨h1, h2⟩ | ⟨h1, h2⟩
  · have : givesO q.1.lone q.2.vars fs = some v := by unfold givesO; rw [h1]; simp only; rw [hb, h2]; rfl
    rw [this]
    simp
  · have : givesO q.2.lone q.1.vars fs = some v := by unfold givesO; rw [h1]; simp only; rw [hb, h2]; rfl
    cases givesO q.1.lone q.2.vars fs with
    | some x => simp
    | none => simp only; rw [this]; simp
theorem still_none : ∀ (qs : List Qn) (fs : List ByteArray), rndQ qs fs = fs → ∀ q ∈ qs, gaveO fs q = none
  | [], fs, _, q, hq => by cases hq
  | p :: qs, fs, h, q, hq => by
    have h' : rndQ qs (stepQ fs p) = fs := h
    have hp : gaveO fs p = none := by
      cases hg : gaveO fs p with
      | none => rfl
      | some v =>
        obtain ⟨m, hm⟩ := rndQ_grow qs (stepQ fs p)
        have e : stepQ fs p = fs ++ [v] := by unfold stepQ; rw [hg]
        rw [h', e] at hm
        have := congrArg List.length hm
        simp only [List.length_append, List.length_cons, List.length_nil] at this
        omega
    have e : stepQ fs p = fs := by unfold stepQ; rw [hp]
    rw [e] at h'
    rcases List.mem_cons.1 hq with rfl | hq
    · exact hp
    · exact still_none qs fs h' q hq
/-- no equation gives one more -/
theorem Lim.no {qs : List Qn} {f0 fs : List ByteArray} (h : Lim qs f0 fs) {v : ByteArray} (hv : ¬ v ∈ fs) : eqdB qs v fs = false := by
  unfold eqdB
  rw [← Bool.not_eq_true]
  intro ha
  obtain ⟨q, hq, hh⟩ := List.any_eq_true.1 ha
  exact hit_gave hv hh (still_none qs fs h.st q hq)
theorem itQ_grow (qs : List Qn) : ∀ (k : Nat) (fs : List ByteArray), ∃ more, itQ qs k fs = fs ++ more
  | 0, fs => ⟨[], by simp [itQ]⟩
  | k + 1, fs => by
    obtain ⟨m, hm⟩ := rndQ_grow qs fs
    obtain ⟨m2, hm2⟩ := itQ_grow qs k (rndQ qs fs)
    exact ⟨m ++ m2, by rw [itQ, hm2, hm, List.append_assoc]⟩
theorem itQ_nodup (qs : List Qn) : ∀ (k : Nat) (fs : List ByteArray), fs.Nodup → (itQ qs k fs).Nodup
  | 0, fs, h => h
  | k + 1, fs, h => itQ_nodup qs k _ (rndQ_nodup qs fs h)
theorem Lim.grow {qs : List Qn} {f0 fs : List ByteArray} (h : Lim qs f0 fs) : ∃ more, fs = f0 ++ more := by
  obtain ⟨⟨k, e⟩, _⟩ := h
  rw [e]
  exact itQ_grow qs k f0
theorem Lim.nodup {qs : List Qn} {f0 fs : List ByteArray} (h : Lim qs f0 fs) (hn : f0.Nodup) : fs.Nodup := by
  obtain ⟨⟨k, e⟩, _⟩ := h
  rw [e]
  exact itQ_nodup qs k f0 hn
theorem Lim.sub {qs : List Qn} {f0 fs : List ByteArray} (h : Lim qs f0 fs) : ∀ x ∈ f0, x ∈ fs := fun x hx => by
  obtain ⟨m, e⟩ := h.grow
  rw [e]
  exact List.mem_append.2 (.inl hx)
/-- each has its reason ahead -/
def Rea (qs : List Qn) (n : Nat) (fs : List ByteArray) : Prop := ∀ i, n ≤ i → i < fs.length → eqdB qs (atS fs i) (fs.take i) = true
theorem Rea.step {qs : List Qn} {n : Nat} {fs : List ByteArray} {q : Qn} (hq : q ∈ qs) (h : Rea qs n fs) : Rea qs n (stepQ fs q) := by
  unfold stepQ
  cases hg : gaveO fs q with
  | none => exact h
  | some v =>
    intro i hi hl
    simp only [List.length_append, List.length_cons, List.length_nil] at hl
    by_cases hlt : i < fs.length
    · have e1 : atS (fs ++ [v]) i = atS fs i := by rw [atS_eq hlt, atS_eq (by simp; omega), List.getElem_append_left hlt]
      have e2 : (fs ++ [v]).take i = fs.take i := by rw [List.take_append_of_le_length (by omega)]
      rw [e1, e2]
      exact h i hi hlt
    · obtain rfl : i = fs.length := by omega
      have e1 : atS (fs ++ [v]) fs.length = v := by rw [atS_eq (by simp)]; simp
      have e2 : (fs ++ [v]).take fs.length = fs := by simp
      rw [e1, e2]
      exact List.any_eq_true.2 ⟨q, hq, gave_hit hg⟩
theorem Rea.round {qs : List Qn} {n : Nat} : ∀ (ps : List Qn) (fs : List ByteArray), (∀ q ∈ ps, q ∈ qs) → Rea qs n fs → Rea qs n (rndQ ps fs)
  | [], fs, _, h => h
  | p :: ps, fs, hs, h => Rea.round ps (stepQ fs p) (fun q hq => hs q (List.mem_cons_of_mem _ hq)) (h.step (hs p List.mem_cons_self))
theorem Rea.it {qs : List Qn} {n : Nat} : ∀ (k : Nat) (fs : List ByteArray), Rea qs n fs → Rea qs n (itQ qs k fs)
  | 0, fs, h => h
  | k + 1, fs, h => Rea.it k _ (Rea.round qs fs (fun _ hq => hq) h)
theorem Lim.rea {qs : List Qn} {f0 fs : List ByteArray} (h : Lim qs f0 fs) : Rea qs f0.length fs := by
  obtain ⟨⟨k, e⟩, _⟩ := h
  rw [e]
  exact Rea.it k f0 (fun i h1 h2 => by omega)
theorem Lim.first {qs : List Qn} {f0 fs : List ByteArray} (h : Lim qs f0 fs) {i : Nat} (hi : i < fs.length) : atS fs i ∈ f0 ∨ eqdB qs (atS fs i) (fs.take i) = true := by
  by_cases hl : i < f0.length
  · left
    obtain ⟨m, e⟩ := h.grow
    rw [atS_eq hi]
    have : fs[i] = f0[i] := by simp only [e]; rw [List.getElem_append_left hl]
    rw [this]
    exact List.getElem_mem hl
  · exact .inr (h.rea i (by omega) hi)
theorem Lim.ahead {qs : List Qn} {f0 fs : List ByteArray} (h : Lim qs f0 fs) (hn : f0.Nodup) {i : Nat} (hi : i < fs.length) : inB (fs.take i) (atS fs i) = false := by
  rw [← Bool.not_eq_true]
  intro hb
  have hm := inB_iff.1 hb
  have hnd := h.nodup hn
  obtain ⟨j, hj, e⟩ := List.getElem_of_mem hm
  rw [List.length_take] at hj
  rw [List.getElem_take, atS_eq hi] at e
  exact List.pairwise_iff_getElem.1 hnd j i (by omega) hi (by omega) e
theorem hit_mono {fs fs' : List ByteArray} {v : ByteArray} {q : Qn} (hs : ∀ x ∈ fs, x ∈ fs') (h : hitQ fs v q = true) : hitQ fs' v q = true := by
  unfold hitQ at h ⊢
  have ha : ∀ l : List ByteArray, l.all (inB fs) = true → l.all (inB fs') = true := fun l hl => List.all_eq_true.2 (fun x hx => inB_iff.2 (hs x (inB_iff.1 (List.all_eq_true.1 hl x hx))))
  rw [Bool.or_eq_true, Bool.and_eq_true, Bool.and_eq_true] at h ⊢
  rcases h with ⟨h1, h2⟩ | ⟨h1, h2⟩
  · exact .inl ⟨h1, ha _ h2⟩
  · exact .inr ⟨h1, ha _ h2⟩
/-- more atoms and more equations limit no less -/
theorem Lim.mono {qs qs' : List Qn} {f0 f0' fs fs' : List ByteArray} (h : Lim qs f0 fs) (h' : Lim qs' f0' fs') (hq : ∀ q ∈ qs, q ∈ qs') (hf : ∀ x ∈ f0, x ∈ f0') : ∀ x ∈ fs, x ∈ fs' := by
  have key : ∀ i, i ≤ fs.length → ∀ x ∈ fs.take i, x ∈ fs' := by
    intro i
    induction i with
    | zero => intro _ x hx; simp at hx
    | succ i ih =>
      intro hi x hx
      have hlt : i < fs.length := by omega
      rw [takeS hlt] at hx
      rcases List.mem_append.1 hx with hx | hx
      · exact ih (by omega) x hx
      · rw [List.mem_singleton.1 hx]
        rcases h.first hlt with k | k
        · exact h'.sub _ (hf _ k)
        · cases hno' : inB fs' (atS fs i) with
          | true => exact inB_iff.1 hno'
          | false =>
          have hno : ¬ atS fs i ∈ fs' := fun e => by rw [inB_iff.2 e] at hno'; cases hno'
          obtain ⟨q, hqm, hh⟩ := List.any_eq_true.1 k
          have h2 := h'.no hno
          have : eqdB qs' (atS fs i) fs' = true := List.any_eq_true.2 ⟨q, hq q hqm, hit_mono (ih (by omega)) hh⟩
          rw [h2] at this
          cases this
  intro x hx
  exact key fs.length (Nat.le_refl _) x (by rw [List.take_length]; exact hx)
theorem atN_nodup (l : List XL) : (atN l).Nodup := foldN_nodup _ _ List.nodup_nil
theorem foldN_mem : ∀ (l out : List ByteArray) (x : ByteArray), x ∈ l.foldl addN out ↔ x ∈ out ∨ x ∈ l
  | [], out, x => by simp
  | n :: l, out, x => by
    rw [List.foldl_cons, foldN_mem l]
    unfold addN
    split
    · rename_i hc
      constructor
      · rintro (h | h)
        · exact .inl h
        · exact .inr (List.mem_cons_of_mem _ h)
      · rintro (h | h)
        · exact .inl h
        · rcases List.mem_cons.1 h with rfl | h
          · exact .inl (inB_iff.1 hc)
          · exact .inr h
    · rw [List.mem_append, List.mem_singleton, List.mem_cons]
      constructor
      · rintro ((h | h) | h)
        · exact .inl h
        · exact .inr (.inl h)
        · exact .inr (.inr h)
      · rintro (h | h | h)
        · exact .inl (.inl h)
        · exact .inl (.inr h)
        · exact .inr h
theorem atN_mem {l : List XL} {x : ByteArray} : x ∈ atN l ↔ ∃ y ∈ l, x ∈ avX y := by
  unfold atN avL
  rw [foldN_mem]
  simp [List.mem_flatMap]
theorem eqL_mem {d : Nat} {l : List XL} {q : Qn} : q ∈ eqL d l ↔ ∃ y ∈ l, q ∈ eqX d y := by
  unfold eqL
  simp [List.mem_flatMap]
end Go.Proofs.YtkfajjnaadmobaaGreatDoor
end
section
namespace Go.Proofs.YtkfajjnaadmobaaGreatDoor
open Go.RowKit Go.Maps
set_option linter.unusedVariables false
set_option linter.unusedSimpArgs false
attribute [local go_sem ↓] Go.wp_at_zero Go.wp_at_succ
attribute [-go_sem] loadVar storeVar

theorem load_kindF {u : World} {a : Addr} {k : Int} (h : u.cell? a = some (.int .i8 k)) : (loadVar 33 a).run Tryz.prog u = .ok (.int .i8 k) u := by rw [loadVar.eq_1]; go_simp
theorem load_relF {u : World} {a : Addr} {k : Int} (h : u.cell? a = some (.int .i8 k)) : (loadVar 37 a).run Tryz.prog u = .ok (.int .i8 k) u := by rw [loadVar.eq_1]; go_simp
theorem load_ExpF {u : World} {g o : Nat} {cs : List Value} (h : u.rangeAt g o cs) (hl : cs.length = 6) : (loadVar 46 ⟨g, o, none⟩).run Tryz.prog u = .ok (.agg cs.toArray) u :=
  run_loadVar_mid u g o _ cs _ h Tryz.underlying46 rfl (by rw [hl]; kernel_rfl)
/-- the fields of a literal that lies in a row -/
theorem lit_at {u : World} {g o : Nat} {y : XL} (h : u.rangeAt g o y.cells) :
    (loadVar 33 ⟨g, o, none⟩).run Tryz.prog u = .ok (.int .i8 y.x.k) u ∧ (loadVar 37 ⟨g, o + 3, none⟩).run Tryz.prog u = .ok (.int .i8 y.x.rel) u ∧ (loadVar 46 ⟨g, o + 4, none⟩).run Tryz.prog u = .ok (y.x.l.val y.p.la y.p.lc) u ∧ (loadVar 46 ⟨g, o + 10, none⟩).run Tryz.prog u = .ok (y.x.r.val y.p.ra y.p.rc) u := by
  refine ⟨load_kindF (h 0 _ rfl), load_relF (h 3 _ rfl), ?_, ?_⟩
  · refine load_ExpF (cs := [.int .i8 y.x.l.op, .string y.x.l.t.v, .int .i8 y.x.l.t.a.k, .int .i64 y.x.l.t.a.n, .string y.x.l.t.a.s, .slice y.p.la y.x.l.kids.length y.p.lc]) (fun j v hj => ?_) rfl
    match j, hj with
    | 0, hj => cases hj; exact h 4 _ rfl
    | 1, hj => cases hj; exact h 5 _ rfl
    | 2, hj => cases hj; exact h 6 _ rfl
    | 3, hj => cases hj; exact h 7 _ rfl
    | 4, hj => cases hj; exact h 8 _ rfl
    | 5, hj => cases hj; exact h 9 _ rfl
  · refine load_ExpF (cs := [.int .i8 y.x.r.op, .string y.x.r.t.v, .int .i8 y.x.r.t.a.k, .int .i64 y.x.r.t.a.n, .string y.x.r.t.a.s, .slice y.p.ra y.x.r.kids.length y.p.rc]) (fun j v hj => ?_) rfl
    match j, hj with
    | 0, hj => cases hj; exact h 10 _ rfl
    | 1, hj => cases hj; exact h 11 _ rfl
    | 2, hj => cases hj; exact h 12 _ rfl
    | 3, hj => cases hj; exact h 13 _ rfl
    | 4, hj => cases hj; exact h 14 _ rfl
    | 5, hj => cases hj; exact h 15 _ rfl
theorem hit_take {d : Nat} {l : List XL} {k : Nat} (h : k < l.length) (fs : List ByteArray) (v : ByteArray) : eqdB (eqL d (l.take (k + 1))) v fs = (eqdB (eqL d (l.take k)) v fs || eqdB (eqX d (atL l k)) v fs) := by
  unfold eqdB
  rw [eqL_take h, List.any_append]
theorem hit_yes {d : Nat} {l : List XL} {k : Nat} (h : k < l.length) {fs : List ByteArray} {v : ByteArray} (he : eqdB (eqX d (atL l k)) v fs = true) : eqdB (eqL d l) v fs = true := by
  obtain ⟨q, hq, hh⟩ := List.any_eq_true.1 he
  exact List.any_eq_true.2 ⟨q, eqL_mem.2 ⟨atL l k, by rw [atL_eq h]; exact List.getElem_mem h, hq⟩, hh⟩
theorem opt_case (o : Option ByteArray) (v : ByteArray) : o = none ∨ (∃ a, o = some a ∧ a ≠ v) ∨ o = some v := by
  cases o with
  | none => exact .inl rfl
  | some a =>
    by_cases h : a = v
    · exact .inr (.inr (by rw [h]))
    · exact .inr (.inl ⟨a, rfl, h⟩)
/-- one side's part -/
def hitS (fs : List ByteArray) (v : ByteArray) (o : Option ByteArray) (vs : List ByteArray) : Bool := decide (o = some v) && vs.all (inB fs)
theorem hit_eqX {d : Nat} {y : XL} (h : y.x.k = 3 ∧ y.x.rel = 1) (fs : List ByteArray) (v : ByteArray) : eqdB (eqX d y) v fs = (hitS fs v (sdE d y.x.l).lone (sdE d y.x.r).vars || hitS fs v (sdE d y.x.r).lone (sdE d y.x.l).vars) := by
  unfold eqdB eqX
  rw [if_pos h]
  simp [hitQ, hitS]
theorem hit_noX {d : Nat} {y : XL} (h : ¬ (y.x.k = 3 ∧ y.x.rel = 1)) (fs : List ByteArray) (v : ByteArray) : eqdB (eqX d y) v fs = false := by
  unfold eqdB eqX
  rw [if_neg h]
  rfl
set_option maxHeartbeats 6400000 in
set_option maxRecDepth 100000 in
theorem equated_any (d : Nat) (l : List XL) (la : Option Addr) (lc : Nat) (v : ByteArray) (fv : Value) (fs : List ByteArray) (w : World) (hL : Lb w (.slice la l.length lc) (d + 1) l) (hsz : ∀ i, i < l.length → szD (d + 1) (atL l i).x.l ≤ 1048576 ∧ szD (d + 1) (atL l i).x.r ≤ 1048576) (hF : Ls w fv fs.length (fs.flatMap strB)) :
    Calls Tryz.prog 12 #[.slice la l.length lc, .string v, fv] w fun e w' => e = .returned (.bool (eqdB (eqL (d + 1) l) v fs)) ∧ Below w.heap.size w w' := by
  obtain ⟨la', lc', hv, hc1, hc2, hat⟩ := hL.form
  injection hv with hv1 _ hv2
  subst hv1 hv2
  have hmax : l.length ≤ maxLen := Nat.le_trans hc1 hc2
  unfold maxLen at hmax
  have HAT := Lib.hid hat
  have HLI : Hid (∀ i, i < l.length → ∀ u, Below w.heap.size w u → LIs u (d + 1) (atL l i).x (atL l i).p) := fun i hi u hu => (hL.at_is hi).below hu
  have HSZ := Lib.hid hsz
  have HFS : Hid (∀ u, Below w.heap.size w u → Ls u fv fs.length (fs.flatMap strB)) := fun u hu => hF.below hu
  obtain ⟨fa, fc, rfl, _, _, _⟩ := ls_str hF
  obtain ⟨R, hR⟩ : ∃ R, eqdB (eqL (d + 1) l) v fs = R := ⟨_, rfl⟩
  rw [hR]
  have HR := Lib.hid hR
  clear hL hat hsz hF hR
  go_enter Tryz.func12, Tryz.ntmps12
  go_wp2
  go_loopw [7] (fun i wr => ∃ k : Nat, k ≤ l.length ∧ i = .int .i64 k ∧ Hid (eqdB (eqL (d + 1) (l.take k)) v fs = false) ∧ Hid (Below w.heap.size w wr)) (fun i _ => l.length - (intOf i).toNat)
  case atStart => exact ⟨0, Nat.zero_le _, rfl, rfl, Below.refl _ _⟩
  case round =>
    obtain ⟨k, hk, rfl, HA, HB⟩ := hrel
    obtain ⟨U, rfl⟩ : ∃ U, U = wr := ⟨_, rfl⟩
    by_cases hlt : k < l.length
    · have hlt' : (k : Int) < (l.length : Int) := by omega
      have hk0 : (0 : Int) ≤ (k : Int) := by omega
      obtain ⟨g, off, rfl, hg, hT⟩ := HAT.out (by omega)
      have HRG : Hid (∀ u, Below w.heap.size w u → u.rangeAt g (off + k * 16) (atL l k).cells) := fun u hu => range_below (hT k hlt) hu hg
      have HNX := Lib.hid (hit_take (d := d + 1) hlt fs v)
      rw [HA.out, Bool.false_or] at HNX
      have HYS : Hid (eqdB (eqX (d + 1) (atL l k)) v fs = true → R = true) := fun h => by rw [← HR.out]; exact hit_yes hlt h
      have HLK := Lib.hid (HLI.out k hlt)
      have hszk := HSZ.out k hlt
      have HSK := Lib.hid hszk
      obtain ⟨y, hy⟩ : ∃ y, atL l k = y := ⟨_, rfl⟩
      rw [hy] at HRG HNX HYS HLK HSK
      obtain ⟨l0, l1, l2, l3⟩ := lit_at (HRG.out U HB.out)
      clear hT hy hszk HA
      by_cases hq : y.x.k = 3 ∧ y.x.rel = 1
      · have HXD := Lib.hid (hit_eqX (d := d + 1) hq fs v)
        rw [hq.1] at l0
        rw [hq.2] at l1
        clear hq
        have HC1 := Lib.hid (rlone_any d y.x.l y.p.la y.p.lc U (HLK.out U HB.out).l)
        obtain ⟨o1, ho1⟩ : ∃ o, (sdE (d + 1) y.x.l).lone = o := ⟨_, rfl⟩
        rw [ho1] at HC1 HXD
        clear ho1
        rcases opt_case o1 v with rfl | ⟨a, rfl, hne⟩ | rfl
        case' inl =>
          have HXE : Hid (eqdB (eqX (d + 1) y) v fs = hitS fs v (sdE (d + 1) y.x.r).lone (sdE (d + 1) y.x.l).vars) := by show _ = _; rw [HXD.out]; rfl
          simp only [loneV] at HC1
          go_wp2_with fail
          refine HC1.out.mono ?_
          rintro e X ⟨rfl, b1⟩
          have HBX : Hid (Below w.heap.size w X) := HB.out.trans (b1.mono HB.out.size)
          clear b1 HC1 l0 l1 l2 l3 HB HXD
          go_upto_region 8 with fail
        case' inr.inl =>
          have HXE : Hid (eqdB (eqX (d + 1) y) v fs = hitS fs v (sdE (d + 1) y.x.r).lone (sdE (d + 1) y.x.l).vars) := by
            show _ = _
            rw [HXD.out]
            unfold hitS
            rw [decide_eq_false (fun e => hne (Option.some.inj e))]
            simp
          have hb1 : (a.toList == v.toList) = false := by rw [beq_eq_false_iff_ne]; exact fun e => hne (toList_inj e)
          simp only [loneV] at HC1
          clear hne
          go_wp2_with fail
          refine HC1.out.mono ?_
          rintro e X ⟨rfl, b1⟩
          have HBX : Hid (Below w.heap.size w X) := HB.out.trans (b1.mono HB.out.size)
          clear b1 HC1 l0 l1 l2 l3 HB HXD
          go_upto_region 8 with fail
          clear hb1
        case' inr.inr =>
          have HV1 : Hid (hitS fs v (some v) (sdE (d + 1) y.x.r).vars = (sdE (d + 1) y.x.r).vars.all (inB fs)) := by show _ = _; unfold hitS; simp
          simp only [loneV] at HC1
          go_wp2_with fail
          refine HC1.out.mono ?_
          rintro e w1 ⟨rfl, b1⟩
          have HB1 : Hid (Below w.heap.size w w1) := HB.out.trans (b1.mono HB.out.size)
          obtain ⟨m0, m1, m2, m3⟩ := lit_at (HRG.out w1 HB1.out)
          have HEV := Lib.hid (rexprVars_any (d + 1) y.x.r y.p.ra y.p.rc w1 (HLK.out w1 HB1.out).r HSK.out.2)
          clear b1 HC1 l0 l1 l2 l3 HB m0 m1 m2
          go_wp2_with fail
          clear m3
          refine HEV.out.mono ?_
          rintro e X ⟨sv2, rfl, hs2, b2⟩
          have HBX : Hid (Below w.heap.size w X) := HB1.out.trans (b2.mono HB1.out.size)
          have HAL := Lib.hid (rall_any sv2 _ (sdE (d + 1) y.x.r).vars fs X hs2 (HFS.out X HBX.out))
          obtain ⟨sa2, sc2, rfl, _, _, _⟩ := ls_str hs2
          rw [← HV1.out] at HAL
          clear hs2 b2 HEV HB1 HV1
          cases hbb : hitS fs v (some v) (sdE (d + 1) y.x.r).vars
          rotate_left
          · have HT : Hid (R = true) := HYS.out (by rw [HXD.out, hbb]; rfl)
            rw [hbb] at HAL
            clear hbb
            go_wp2_with fail
            refine HAL.out.mono ?_
            rintro e w3 ⟨rfl, rfl⟩
            clear HAL
            go_wp2
            go_ret
            exact ⟨by rw [HT.out]; rfl, HBX.out⟩
          have HXE : Hid (eqdB (eqX (d + 1) y) v fs = hitS fs v (sdE (d + 1) y.x.r).lone (sdE (d + 1) y.x.l).vars) := by show _ = _; rw [HXD.out, hbb]; rfl
          rw [hbb] at HAL
          clear hbb HXD
          go_wp2_with fail
          refine HAL.out.mono ?_
          rintro e w3 ⟨rfl, rfl⟩
          clear HAL
          go_upto_region 8 with fail
        all_goals
          obtain ⟨m0, m1, m2, m3⟩ := lit_at (HRG.out _ HBX.out)
          have HC2 := Lib.hid (rlone_any d y.x.r y.p.ra y.p.rc _ (HLK.out _ HBX.out).r)
          obtain ⟨o2, ho2⟩ : ∃ o, (sdE (d + 1) y.x.r).lone = o := ⟨_, rfl⟩
          rw [ho2] at HC2 HXE
          clear ho2 m0 m1 m2
          rcases opt_case o2 v with rfl | ⟨a, rfl, hne⟩ | rfl
          · have HN2 : Hid (eqdB (eqL (d + 1) (l.take (k + 1))) v fs = false) := by show _ = _; rw [HNX.out, HXE.out]; rfl
            simp only [loneV] at HC2
            go_wp2_with fail
            refine HC2.out.mono ?_
            rintro e w5 ⟨rfl, b5⟩
            have HB5 : Hid (Below w.heap.size w w5) := HBX.out.trans (b5.mono HBX.out.size)
            clear b5 HC2 m3 HBX
            go_wp2
            go_roundw
            case rel => exact ⟨k + 1, by omega, by go_num, HN2, HB5⟩
            case measure => simp [intOf]; omega
          · have HN2 : Hid (eqdB (eqL (d + 1) (l.take (k + 1))) v fs = false) := by
              show _ = _
              rw [HNX.out, HXE.out]
              unfold hitS
              rw [decide_eq_false (fun e => hne (Option.some.inj e))]
              simp
            have hb1 : (a.toList == v.toList) = false := by rw [beq_eq_false_iff_ne]; exact fun e => hne (toList_inj e)
            simp only [loneV] at HC2
            clear hne
            go_wp2_with fail
            refine HC2.out.mono ?_
            rintro e w5 ⟨rfl, b5⟩
            have HB5 : Hid (Below w.heap.size w w5) := HBX.out.trans (b5.mono HBX.out.size)
            clear b5 HC2 m3 HBX
            go_wp2
            go_roundw
            case rel => exact ⟨k + 1, by omega, by go_num, HN2, HB5⟩
            case measure => simp [intOf]; omega
          · have HV1 : Hid (hitS fs v (some v) (sdE (d + 1) y.x.l).vars = (sdE (d + 1) y.x.l).vars.all (inB fs)) := by show _ = _; unfold hitS; simp
            simp only [loneV] at HC2
            go_wp2_with fail
            refine HC2.out.mono ?_
            rintro e w5 ⟨rfl, b5⟩
            have HB5 : Hid (Below w.heap.size w w5) := HBX.out.trans (b5.mono HBX.out.size)
            obtain ⟨n0, n1, n2, n3⟩ := lit_at (HRG.out w5 HB5.out)
            have HEV := Lib.hid (rexprVars_any (d + 1) y.x.l y.p.la y.p.lc w5 (HLK.out w5 HB5.out).l HSK.out.1)
            clear b5 HC2 m3 HBX n0 n1 n3
            go_wp2_with fail
            clear n2
            refine HEV.out.mono ?_
            rintro e w6 ⟨sv6, rfl, hs6, b6⟩
            have HB6 : Hid (Below w.heap.size w w6) := HB5.out.trans (b6.mono HB5.out.size)
            have HAL := Lib.hid (rall_any sv6 _ (sdE (d + 1) y.x.l).vars fs w6 hs6 (HFS.out w6 HB6.out))
            obtain ⟨sa6, sc6, rfl, _, _, _⟩ := ls_str hs6
            rw [← HV1.out] at HAL
            clear hs6 b6 HEV HB5 HV1
            cases hbb : hitS fs v (some v) (sdE (d + 1) y.x.l).vars
            · have HN2 : Hid (eqdB (eqL (d + 1) (l.take (k + 1))) v fs = false) := by show _ = _; rw [HNX.out, HXE.out, hbb]
              rw [hbb] at HAL
              clear hbb HXE
              go_wp2_with fail
              refine HAL.out.mono ?_
              rintro e w7 ⟨rfl, rfl⟩
              clear HAL
              go_wp2
              go_roundw
              case rel => exact ⟨k + 1, by omega, by go_num, HN2, HB6⟩
              case measure => simp [intOf]; omega
            · have HT : Hid (R = true) := HYS.out (by rw [HXE.out, hbb])
              rw [hbb] at HAL
              clear hbb HXE
              go_wp2_with fail
              refine HAL.out.mono ?_
              rintro e w7 ⟨rfl, rfl⟩
              clear HAL
              go_wp2
              go_ret
              exact ⟨by rw [HT.out]; rfl, HB6.out⟩
      · have HN2 : Hid (eqdB (eqL (d + 1) (l.take (k + 1))) v fs = false) := by show _ = _; rw [HNX.out, hit_noX hq]
        by_cases h3 : y.x.k = 3
        · have h1 : y.x.rel ≠ 1 := fun e => hq ⟨h3, e⟩
          have e1 : (y.x.rel != 1) = true := by rw [bne_iff_ne]; exact h1
          rw [h3] at l0
          clear hq h3 h1
          go_wp2
          go_roundw
          case rel => exact ⟨k + 1, by omega, by go_num, HN2, HB⟩
          case measure => simp [intOf]; omega
        · have e1 : (y.x.k != 3) = true := by rw [bne_iff_ne]; exact h3
          clear hq h3
          go_wp2
          go_roundw
          case rel => exact ⟨k + 1, by omega, by go_num, HN2, HB⟩
          case measure => simp [intOf]; omega
    · obtain rfl : k = l.length := by omega
      rw [List.take_length] at HA
      have HF2 : Hid (R = false) := by show R = _; rw [← HR.out]; exact HA.out
      clear HA
      go_wp2
      go_ret
      exact ⟨by rw [HF2.out]; rfl, HB.out⟩
end Go.Proofs.YtkfajjnaadmobaaGreatDoor
end
