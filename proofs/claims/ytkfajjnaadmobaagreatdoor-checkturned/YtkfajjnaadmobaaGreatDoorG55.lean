import Derived.Test.YtkfajjnaadmobaaGreatDoorG43
import Derived.Test.YtkfajjnaadmobaaGreatDoorCfLQ
section
namespace Go.Proofs.YtkfajjnaadmobaaGreatDoor
open Go.RowKit Go.Maps
set_option linter.unusedVariables false
set_option linter.unusedSimpArgs false

/-- an equation gives this variable, these being found -/
def hitQ (fs : List ByteArray) (v : ByteArray) (q : Qn) : Bool := (decide (q.1.lone = some v) && q.2.vars.all (inB fs)) || (decide (q.2.lone = some v) && q.1.vars.all (inB fs))
def eqdB (qs : List Qn) (v : ByteArray) (fs : List ByteArray) : Bool := qs.any (hitQ fs v)
theorem gave_hit {fs : List ByteArray} {q : Qn} {v : ByteArray} (h : gaveO fs q = some v) : hitQ fs v q = true := by
  unfold gaveO at h
  unfold hitQ
  cases h1 : givesO q.1.lone q.2.vars fs with
  | some x =>
    rw [h1] at h
    injection h with h
    subst h
    obtain ⟨e1, _, e3⟩ := givesO_some h1
    rw [decide_eq_true e1, List.all_eq_true.2 (fun y hy => inB_iff.2 (e3 y hy))]
    rfl
  | none =>
    rw [h1] at h
    obtain ⟨e1, _, e3⟩ := givesO_some h
    rw [decide_eq_true e1, List.all_eq_true.2 (fun y hy => inB_iff.2 (e3 y hy)), Bool.or_eq_true]
    exact .inr rfl
theorem hit_gave {fs : List ByteArray} {q : Qn} {v : ByteArray} (hv : ¬ v ∈ fs) (h : hitQ fs v q = true) : gaveO fs q ≠ none := by
  unfold hitQ at h
  have hb : inB fs v = false := by rw [← Bool.not_eq_true]; exact fun e => hv (inB_iff.1 e)
  rw [Bool.or_eq_true, Bool.and_eq_true, Bool.and_eq_true, decide_eq_true_eq, decide_eq_true_eq] at h
  unfold gaveO
  rcases h with ⟨h1, h2⟩ | ⟨h1, h2⟩
  · have : givesO q.1.lone q.2.vars fs = some v := by unfold givesO; rw [h1]; simp only; rw [hb, h2]; rfl
    rw [this]
    simp
  · have : givesO q.2.lone q.1.vars fs = some v := by unfold givesO; rw [h1]; simp only; rw [hb, h2]; rfl
    cases givesO q.1.lone q.2.vars fs with
    | some x => simp
    | none => simp only; rw [this]; simp
theorem still_none : ∀ (qs : List Qn) (fs : List ByteArray), rndQ qs fs = fs → ∀ q ∈ qs, gaveO fs q = none
  | [], fs, _, q, hq => by cases hq
  | p :: qs, fs, h, q, hq => by
    have h' : rndQ qs (stepQ fs p) = fs := h
    have hp : gaveO fs p = none := by
      cases hg : gaveO fs p with
      | none => rfl
      | some v =>
        obtain ⟨m, hm⟩ := rndQ_grow qs (stepQ fs p)
        have e : stepQ fs p = fs ++ [v] := by unfold stepQ; rw [hg]
        rw [h', e] at hm
        have := congrArg List.length hm
        simp only [List.length_append, List.length_cons, List.length_nil] at this
        omega
    have e : stepQ fs p = fs := by unfold stepQ; rw [hp]
    rw [e] at h'
    rcases List.mem_cons.1 hq with rfl | hq
    · exact hp
    · exact still_none qs fs h' q hq
/-- no equation gives one more -/
theorem Lim.no {qs : List Qn} {f0 fs : List ByteArray} (h : Lim qs f0 fs) {v : ByteArray} (hv : ¬ v ∈ fs) : eqdB qs v fs = false := by
  unfold eqdB
  rw [← Bool.not_eq_true]
  intro ha
  obtain ⟨q, hq, hh⟩ := List.any_eq_true.1 ha
  exact hit_gave hv hh (still_none qs fs h.st q hq)
theorem itQ_grow (qs : List Qn) : ∀ (k : Nat) (fs : List ByteArray), ∃ more, itQ qs k fs = fs ++ more
  | 0, fs => ⟨[], by simp [itQ]⟩
  | k + 1, fs => by
    obtain ⟨m, hm⟩ := rndQ_grow qs fs
    obtain ⟨m2, hm2⟩ := itQ_grow qs k (rndQ qs fs)
    exact ⟨m ++ m2, by rw [itQ, hm2, hm, List.append_assoc]⟩
theorem itQ_nodup (qs : List Qn) : ∀ (k : Nat) (fs : List ByteArray), fs.Nodup → (itQ qs k fs).Nodup
  | 0, fs, h => h
  | k + 1, fs, h => itQ_nodup qs k _ (rndQ_nodup qs fs h)
theorem Lim.grow {qs : List Qn} {f0 fs : List ByteArray} (h : Lim qs f0 fs) : ∃ more, fs = f0 ++ more := by
  obtain ⟨⟨k, e⟩, _⟩ := h
  rw [e]
  exact itQ_grow qs k f0
theorem Lim.nodup {qs : List Qn} {f0 fs : List ByteArray} (h : Lim qs f0 fs) (hn : f0.Nodup) : fs.Nodup := by
  obtain ⟨⟨k, e⟩, _⟩ := h
  rw [e]
  exact itQ_nodup qs k f0 hn
theorem Lim.sub {qs : List Qn} {f0 fs : List ByteArray} (h : Lim qs f0 fs) : ∀ x ∈ f0, x ∈ fs := fun x hx => by
  obtain ⟨m, e⟩ := h.grow
  rw [e]
  exact List.mem_append.2 (.inl hx)
/-- each has its reason ahead -/
def Rea (qs : List Qn) (n : Nat) (fs : List ByteArray) : Prop := ∀ i, n ≤ i → i < fs.length → eqdB qs (atS fs i) (fs.take i) = true
theorem Rea.step {qs : List Qn} {n : Nat} {fs : List ByteArray} {q : Qn} (hq : q ∈ qs) (h : Rea qs n fs) : Rea qs n (stepQ fs q) := by
  unfold stepQ
  cases hg : gaveO fs q with
  | none => exact h
  | some v =>
    intro i hi hl
    simp only [List.length_append, List.length_cons, List.length_nil] at hl
    by_cases hlt : i < fs.length
    · have e1 : atS (fs ++ [v]) i = atS fs i := by rw [atS_eq hlt, atS_eq (by simp; omega), List.getElem_append_left hlt]
      have e2 : (fs ++ [v]).take i = fs.take i := by rw [List.take_append_of_le_length (by omega)]
      rw [e1, e2]
      exact h i hi hlt
    · obtain rfl : i = fs.length := by omega
      have e1 : atS (fs ++ [v]) fs.length = v := by rw [atS_eq (by simp)]; simp
      have e2 : (fs ++ [v]).take fs.length = fs := by simp
      rw [e1, e2]
      exact List.any_eq_true.2 ⟨q, hq, gave_hit hg⟩
theorem Rea.round {qs : List Qn} {n : Nat} : ∀ (ps : List Qn) (fs : List ByteArray), (∀ q ∈ ps, q ∈ qs) → Rea qs n fs → Rea qs n (rndQ ps fs)
  | [], fs, _, h => h
  | p :: ps, fs, hs, h => Rea.round ps (stepQ fs p) (fun q hq => hs q (List.mem_cons_of_mem _ hq)) (h.step (hs p List.mem_cons_self))
theorem Rea.it {qs : List Qn} {n : Nat} : ∀ (k : Nat) (fs : List ByteArray), Rea qs n fs → Rea qs n (itQ qs k fs)
  | 0, fs, h => h
  | k + 1, fs, h => Rea.it k _ (Rea.round qs fs (fun _ hq => hq) h)
theorem Lim.rea {qs : List Qn} {f0 fs : List ByteArray} (h : Lim qs f0 fs) : Rea qs f0.length fs := by
  obtain ⟨⟨k, e⟩, _⟩ := h
  rw [e]
  exact Rea.it k f0 (fun i h1 h2 => by omega)
theorem Lim.first {qs : List Qn} {f0 fs : List ByteArray} (h : Lim qs f0 fs) {i : Nat} (hi : i < fs.length) : atS fs i ∈ f0 ∨ eqdB qs (atS fs i) (fs.take i) = true := by
  by_cases hl : i < f0.length
  · left
    obtain ⟨m, e⟩ := h.grow
    rw [atS_eq hi]
    have : fs[i] = f0[i] := by simp only [e]; rw [List.getElem_append_left hl]
    rw [this]
    exact List.getElem_mem hl
  · exact .inr (h.rea i (by omega) hi)
theorem Lim.ahead {qs : List Qn} {f0 fs : List ByteArray} (h : Lim qs f0 fs) (hn : f0.Nodup) {i : Nat} (hi : i < fs.length) : inB (fs.take i) (atS fs i) = false := by
  rw [← Bool.not_eq_true]
  intro hb
  have hm := inB_iff.1 hb
  have hnd := h.nodup hn
  obtain ⟨j, hj, e⟩ := List.getElem_of_mem hm
  rw [List.length_take] at hj
  rw [List.getElem_take, atS_eq hi] at e
  exact List.pairwise_iff_getElem.1 hnd j i (by omega) hi (by omega) e
theorem hit_mono {fs fs' : List ByteArray} {v : ByteArray} {q : Qn} (hs : ∀ x ∈ fs, x ∈ fs') (h : hitQ fs v q = true) : hitQ fs' v q = true := by
  unfold hitQ at h ⊢
  have ha : ∀ l : List ByteArray, l.all (inB fs) = true → l.all (inB fs') = true := fun l hl => List.all_eq_true.2 (fun x hx => inB_iff.2 (hs x (inB_iff.1 (List.all_eq_true.1 hl x hx))))
  rw [Bool.or_eq_true, Bool.and_eq_true, Bool.and_eq_true] at h ⊢
  rcases h with ⟨h1, h2⟩ | ⟨h1, h2⟩
  · exact .inl ⟨h1, ha _ h2⟩
  · exact .inr ⟨h1, ha _ h2⟩
/-- more atoms and more equations limit no less -/
theorem Lim.mono {qs qs' : List Qn} {f0 f0' fs fs' : List ByteArray} (h : Lim qs f0 fs) (h' : Lim qs' f0' fs') (hq : ∀ q ∈ qs, q ∈ qs') (hf : ∀ x ∈ f0, x ∈ f0') : ∀ x ∈ fs, x ∈ fs' := by
  have key : ∀ i, i ≤ fs.length → ∀ x ∈ fs.take i, x ∈ fs' := by
    intro i
    induction i with
    | zero => intro _ x hx; simp at hx
    | succ i ih =>
      intro hi x hx
      have hlt : i < fs.length := by omega
      rw [takeS hlt] at hx
      rcases List.mem_append.1 hx with hx | hx
      · exact ih (by omega) x hx
      · rw [List.mem_singleton.1 hx]
        rcases h.first hlt with k | k
        · exact h'.sub _ (hf _ k)
        · cases hno' : inB fs' (atS fs i) with
          | true => exact inB_iff.1 hno'
          | false =>
          have hno : ¬ atS fs i ∈ fs' := fun e => by rw [inB_iff.2 e] at hno'; cases hno'
          obtain ⟨q, hqm, hh⟩ := List.any_eq_true.1 k
          have h2 := h'.no hno
          have : eqdB qs' (atS fs i) fs' = true := List.any_eq_true.2 ⟨q, hq q hqm, hit_mono (ih (by omega)) hh⟩
          rw [h2] at this
          cases this
  intro x hx
  exact key fs.length (Nat.le_refl _) x (by rw [List.take_length]; exact hx)
theorem atN_nodup (l : List XL) : (atN l).Nodup := foldN_nodup _ _ List.nodup_nil
theorem foldN_mem : ∀ (l out : List ByteArray) (x : ByteArray), x ∈ l.foldl addN out ↔ x ∈ out ∨ x ∈ l
  | [], out, x => by simp
  | n :: l, out, x => by
    rw [List.foldl_cons, foldN_mem l]
    unfold addN
    split
    · rename_i hc
      constructor
      · rintro (h | h)
        · exact .inl h
        · exact .inr (List.mem_cons_of_mem _ h)
      · rintro (h | h)
        · exact .inl h
        · rcases List.mem_cons.1 h with rfl | h
          · exact .inl (inB_iff.1 hc)
          · exact .inr h
    · rw [List.mem_append, List.mem_singleton, List.mem_cons]
      constructor
      · rintro ((h | h) | h)
        · exact .inl h
        · exact .inr (.inl h)
        · exact .inr (.inr h)
      · rintro (h | h | h)
        · exact .inl (.inl h)
        · exact .inl (.inr h)
        · exact .inr h
theorem atN_mem {l : List XL} {x : ByteArray} : x ∈ atN l ↔ ∃ y ∈ l, x ∈ avX y := by
  unfold atN avL
  rw [foldN_mem]
  simp [List.mem_flatMap]
theorem eqL_mem {d : Nat} {l : List XL} {q : Qn} : q ∈ eqL d l ↔ ∃ y ∈ l, q ∈ eqX d y := by
  unfold eqL
  simp [List.mem_flatMap]
end Go.Proofs.YtkfajjnaadmobaaGreatDoor
end
section
namespace Go.Proofs.YtkfajjnaadmobaaGreatDoor
open Go.RowKit Go.Maps
set_option linter.unusedVariables false
set_option linter.unusedSimpArgs false

/-- by how much the body is turned -/
def tuC (b : Int) (n : Nat) : Nat := (b.tmod n + n).toNat
theorem tu_range (b : Int) {n : Nat} (h : 0 < n) : -(n : Int) < b.tmod n ∧ b.tmod n < n := by
  have h1 := Int.tmod_lt_of_pos b (b := (n : Int)) (by omega)
  have h2 := Int.lt_tmod_of_pos b (b := (n : Int)) (by omega)
  omega
theorem tu_mod (b : Int) {n k : Nat} (h : k < n) : ((k : Int) + b.tmod n + n).tmod n = (((k + tuC b n) % n : Nat) : Int) := by
  have hr := tu_range b (n := n) (by omega)
  have e : (k : Int) + b.tmod n + n = ((k + tuC b n : Nat) : Int) := by unfold tuC; omega
  rw [e, Int.tmod_eq_emod_of_nonneg (by omega)]
  exact (Int.natCast_emod _ _).symm
/-- the first k of the body turned, and of the body from its end -/
def tuL (l : List XL) (c k : Nat) : List XL := (List.range k).map (fun j => atL l ((j + c) % l.length))
def baL (l : List XL) (k : Nat) : List XL := (List.range k).map (fun j => atL l (l.length - 1 - j))
theorem tuL_succ (l : List XL) (c k : Nat) : tuL l c (k + 1) = tuL l c k ++ [atL l ((k + c) % l.length)] := by
  unfold tuL
  rw [List.range_succ, List.map_append]
  rfl
theorem baL_succ (l : List XL) (k : Nat) : baL l (k + 1) = baL l k ++ [atL l (l.length - 1 - k)] := by
  unfold baL
  rw [List.range_succ, List.map_append]
  rfl
theorem tuL_len (l : List XL) (c k : Nat) : (tuL l c k).length = k := by simp [tuL]
theorem baL_len (l : List XL) (k : Nat) : (baL l k).length = k := by simp [baL]
theorem rot_all (l : List XL) (r : Nat) (hr : r < l.length) : (List.range l.length).map (fun j => atL l ((j + r) % l.length)) = l.drop r ++ l.take r := by
  refine List.ext_getElem (by simp; omega) fun i h1 h2 => ?_
  have hi : i < l.length := by simpa using h1
  rw [List.getElem_map, List.getElem_range]
  by_cases hlt : i < l.length - r
  · rw [List.getElem_append_left (by rw [List.length_drop]; exact hlt), List.getElem_drop, Nat.mod_eq_of_lt (by omega), atL_eq (by omega)]
    congr 1
    omega
  · rw [List.getElem_append_right (by rw [List.length_drop]; omega), List.getElem_take]
    have e3 : (i + r) % l.length = i + r - l.length := by rw [Nat.mod_eq_sub_mod (by omega), Nat.mod_eq_of_lt (by omega)]
    rw [e3, atL_eq (by omega)]
    congr 1
    rw [List.length_drop]
    omega
theorem tuL_all (l : List XL) (c : Nat) : ∃ r, tuL l c l.length = l.drop r ++ l.take r := by
  by_cases h : 0 < l.length
  · refine ⟨c % l.length, ?_⟩
    rw [← rot_all l (c % l.length) (Nat.mod_lt _ h)]
    unfold tuL
    refine List.map_congr_left fun j _ => ?_
    rw [Nat.add_mod_mod]
  · obtain rfl : l = [] := List.length_eq_zero_iff.1 (by omega)
    exact ⟨0, rfl⟩
theorem baL_all (l : List XL) : baL l l.length = l.reverse := by
  refine List.ext_getElem (by simp [baL]) fun i h1 h2 => ?_
  have hi : i < l.length := by rw [baL_len] at h1; exact h1
  have e1 : (baL l l.length)[i] = atL l (l.length - 1 - i) := by simp [baL]
  rw [e1, List.getElem_reverse, atL_eq (by omega)]
theorem tuL_perm (l : List XL) (c : Nat) : (tuL l c l.length).Perm l := by
  obtain ⟨r, e⟩ := tuL_all l c
  rw [e]
  refine List.perm_append_comm.trans ?_
  rw [List.take_append_drop]
theorem baL_perm (l : List XL) : (baL l l.length).Perm l := by
  rw [baL_all]
  exact List.reverse_perm l
theorem av_perm {l m : List XL} (h : l.Perm m) : (avL l).length = (avL m).length := (h.flatMap_right avX).length_eq
theorem lim_perm {d : Nat} {l m : List XL} {fs gs : List ByteArray} (h : ∀ y, y ∈ m → y ∈ l) (h1 : Lim (eqL d m) (atN m) gs) (h2 : Lim (eqL d l) (atN l) fs) : ∀ x ∈ gs, x ∈ fs := by
  refine h1.mono h2 (fun q hq => ?_) (fun x hx => ?_)
  · obtain ⟨y, hy, hq⟩ := eqL_mem.1 hq
    exact eqL_mem.2 ⟨y, h y hy, hq⟩
  · obtain ⟨y, hy, hx⟩ := atN_mem.1 hx
    exact atN_mem.2 ⟨y, h y hy, hx⟩
theorem lim_len {d : Nat} {l m : List XL} {fs gs : List ByteArray} (h : m.Perm l) (h1 : Lim (eqL d m) (atN m) gs) (h2 : Lim (eqL d l) (atN l) fs) : gs.length = fs.length ∧ ∀ x ∈ fs, x ∈ gs := by
  have a := lim_perm (fun y hy => h.mem_iff.1 hy) h1 h2
  have b := lim_perm (fun y hy => h.mem_iff.2 hy) h2 h1
  exact ⟨Nat.le_antisymm (nodupN_le gs fs (h1.nodup (atN_nodup m)) a) (nodupN_le fs gs (h2.nodup (atN_nodup l)) b), b⟩
theorem EIs.up {w : World} {d : Nat} {e : E} {a : Option Addr} {c : Nat} (h : EIs w d e a c) : ∀ n, EIs w (d + n) e a c
  | 0 => h
  | n + 1 => (EIs.up h n).more
theorem Lb.up {w : World} {v : Value} {d : Nat} {l : List XL} (h : Lb w v d l) (n : Nat) : Lb w v (d + n) l := ⟨h.lies, fun y hy => by
  have k := h.each y hy
  exact ⟨k.kb, k.rb, k.pb, k.ln, k.ts, k.l.up n, k.r.up n⟩⟩
/-- two rows of literals that grow beside one another -/
structure Tu (W : World) (t b : List XL) (v1 v2 : Value) (u : World) : Prop where
  o1 : u.ownsRow W.heap.size 48 16 v1 t.length (t.flatMap XL.cells)
  o2 : u.ownsRow W.heap.size 48 16 v2 b.length (b.flatMap XL.cells)
  dj : ∀ g, v1.ownBlock = some g → v2.ownBlock ≠ some g
  bl : Below W.heap.size W u
theorem Tu.swap {W : World} {t b : List XL} {v1 v2 : Value} {u : World} (h : Tu W t b v1 v2 u) : Tu W b t v2 v1 u := ⟨h.o2, h.o1, fun g h1 h2 => h.dj g h2 h1, h.bl⟩
theorem Tu.below {W : World} {t b : List XL} {v1 v2 : Value} {u u' : World} (h : Tu W t b v1 v2 u) (k : Below u.heap.size u u') : Tu W t b v1 v2 u' := ⟨own_below h.o1 k, own_below h.o2 k, h.dj, h.bl.trans (k.mono h.bl.size)⟩
theorem Tu.push {W : World} {t b : List XL} {a : Option Addr} {c : Nat} {v2 : Value} {u : World} (x : XL) (h : Tu W t b (.slice a t.length c) v2 u) (hl : t.length ≤ 10000000) :
    ∃ a6 c6 w5, (Builtin.append_ #[22, 22] 22 #[.slice a t.length c, .slice (some ⟨u.heap.size, 0, none⟩) 1 1]).run Tryz.prog (u.alloc (.cells x.cells.toArray 48)) = .ok (.slice a6 (t.length + 1) c6) w5 ∧ Tu W (t ++ [x]) b (.slice a6 (t.length + 1) c6) v2 w5 := by
  obtain ⟨i0, hi0, hz0, hz1, hz2⟩ := info_parts infoLit
  have hA := belowA (w := u) (.cells x.cells.toArray 48)
  have h2 := h.below hA
  have hz := h2.bl.size
  obtain ⟨v', w5, hrun, hown', hgrow, hnil, hloc⟩ := run_append_own_at (P := Tryz.prog) (u.alloc (.cells x.cells.toArray 48)) W.heap.size 22 22 48 i0 _ 16 216 Tryz.underlying22 hi0 hz0 hz1 hz2 rfl (by decide) _ _ _ h2.o1 ⟨_, 0, none⟩ 1 1 x.cells rfl (lit_news _ x.cells.toArray _) (by intro v hv; simp [XL.cells] at hv; rcases hv with h | h | h | h | h | h | h | h | h | h | h | h | h | h | h | h <;> rw [h] <;> rfl) (by unfold maxLen; omega) (by omega) hz
  obtain ⟨a6, c6, rfl, _⟩ := own_form hown'
  refine ⟨a6, c6, w5, hrun, ?_, ?_, ?_, h2.bl.grown hgrow hz (fun j hj => (h2.o1.lt j hj).1)⟩
  · rw [List.length_append, List.flatMap_append]
    simpa using hown'
  · refine own_of_block h2.o2 (fun g hg => ?_)
    exact hgrow.block g (h2.o2.lt g hg).2 (fun e => h.dj g e.symm hg)
  · intro g hg he
    rcases hloc with e | e
    · exact h.dj g (e ▸ hg) he
    · rw [hg] at e
      have := (h.o2.lt g he).2
      injection e with e
      simp only [World.size_alloc] at e
      omega
end Go.Proofs.YtkfajjnaadmobaaGreatDoor
end
section
namespace Go.Proofs.YtkfajjnaadmobaaGreatDoor
open Go.RowKit Go.Maps
set_option linter.unusedVariables false
set_option linter.unusedSimpArgs false
attribute [local go_sem ↓] Go.wp_at_zero Go.wp_at_succ
attribute [-go_sem] loadVar storeVar Builtin.append_ Instr.buildSlice

theorem run_sliceLit (y : XL) (u : World) : (Instr.buildSlice 22 1 #[(0, .agg y.cells.toArray)]).run Tryz.prog u = .ok (.slice (some ⟨u.heap.size, 0, none⟩) 1 1) (u.alloc (.cells y.cells.toArray 48)) := by
  simp [Instr.buildSlice, Instr.fill, go_sem, XL.cells]
theorem below_drewC {B : Nat} {a w : World} (h : Below B a w) (n : Nat) : Below B a (w.drewN n) := ⟨h.os, h.tape, h.output, h.size, h.block⟩
theorem all_sub {l m : List ByteArray} (h : ∀ x ∈ l, x ∈ m) : l.all (inB m) = true := List.all_eq_true.2 fun x hx => inB_iff.2 (h x hx)
theorem litCells_one (l : List XL) : ∀ u ∈ l.flatMap XL.cells, u.oneCell' = true := fun u hu => by
  obtain ⟨y, _, hy⟩ := List.mem_flatMap.1 hu
  simp [XL.cells] at hy
  rcases hy with h | h | h | h | h | h | h | h | h | h | h | h | h | h | h | h <;> rw [h] <;> rfl
theorem litCells_len : ∀ l : List XL, (l.flatMap XL.cells).length = l.length * 16
  | [] => rfl
  | y :: l => by rw [List.flatMap_cons, List.length_append, litCells_len l, List.length_cons]; show 16 + _ = _; omega
/-- the bounds of literals, one by one -/
structure Sme (d : Nat) (l : List XL) : Prop where
  ts : ∀ i, i < l.length → (atL l i).x.ts.length ≤ 1048576
  sz : ∀ i, i < l.length → szD d (atL l i).x.l ≤ 1048576 ∧ szD d (atL l i).x.r ≤ 1048576
theorem sme_of {d : Nat} {l : List XL} (h : ∀ y ∈ l, smallL d y.x) : Sme d l := ⟨fun i hi => by rw [atL_eq hi]; exact (h _ (List.getElem_mem hi)).1, fun i hi => by
  rw [atL_eq hi]
  have := h _ (List.getElem_mem hi)
  exact ⟨this.2.1.2, this.2.2.2⟩⟩
set_option maxHeartbeats 6400000 in
set_option maxRecDepth 100000 in
theorem checkTurned_walk (d0 : Nat) (l : List XL) (a : Option Addr) (c : Nat) (d1 : Nat) (m : List XL) (ma : Option Addr) (mc : Nat) (x : Int) (w : World) (hG : PWt w ∧ KT w ∧ LX.Gl w) (hl : l.length ≤ 281474976710656) (hL0 : Lb w (.slice a l.length c) (d0 + 1) l) (hm : m.length ≤ 281474976710656) (hM0 : Lb w (.slice ma m.length mc) (d1 + 1) m) (wx : (Lit.int .i64 x).wf = true) :
    Calls Tryz.prog 4 #[.slice a l.length c, .slice ma m.length mc, .int .i64 x] w fun r w' => r = .returned (.bool true) ∧ Below w.heap.size w w' := by
  obtain ⟨d, hL, hM⟩ : ∃ d, Lb w (.slice a l.length c) (d + 1) l ∧ Lb w (.slice ma m.length mc) (d + 1) m := ⟨d0 + d1, by
    have := hL0.up d1
    rw [show d0 + 1 + d1 = d0 + d1 + 1 by omega] at this
    exact this, by
    have := hM0.up d0
    rw [show d1 + 1 + d0 = d0 + d1 + 1 by omega] at this
    exact this⟩
  obtain ⟨i0, hi0, hz0, hz1, hz2⟩ := info_parts infoLit
  have HB := Lib.hid (beyondLits_any (d + 1) l a c w hl hL)
  have HBM : Hid (∀ u, Below w.heap.size w u → _) := fun u hu => beyondLits_any (d + 1) m ma mc u hm (hM.below hu)
  have HL : Hid (∀ u, Below w.heap.size w u → Lb u (.slice a l.length c) (d + 1) l) := fun u hu => hL.below hu
  have HM : Hid (∀ u, Below w.heap.size w u → Lb u (.slice ma m.length mc) (d + 1) m) := fun u hu => hM.below hu
  have HG : Hid (∀ u, Below w.heap.size w u → KT u ∧ LX.Gl u) := fun u hu => ⟨hG.2.1.below hu, hG.2.2.below hu⟩
  obtain ⟨a', c', hv, hc1, hc2, hat⟩ := hL.form
  injection hv with hv1 _ hv2
  subst hv1 hv2
  have HAT := Lib.hid hat
  clear hG hL hM hat hL0 hM0 hc2
  go_enter Tryz.func4, Tryz.ntmps4
  go_wp2_with fail
  refine HB.out.mono ?_
  rintro e w1 ⟨b, rfl, b1, hs⟩
  have HS := Lib.hid hs
  have B1 := Lib.hid b1
  clear hs HB b1
  cases b
  · obtain ⟨hl1, hsm, hav⟩ := HS.out (by first | rfl | trivial)
    have HSM := Lib.hid hsm
    have HAV := Lib.hid hav
    have HBM1 := Lib.hid (HBM.out w1 B1.out)
    clear HS hsm hav HBM
    go_wp2_with fail
    refine HBM1.out.mono ?_
    rintro e w2 ⟨b, rfl, b2, hs⟩
    have HS := Lib.hid hs
    have B2 : Hid (Below w.heap.size w w2) := B1.out.trans (b2.mono B1.out.size)
    clear hs HBM1 b2 B1
    cases b
    · obtain ⟨hm1, hmm, hmv⟩ := HS.out (by first | rfl | trivial)
      have HMM := Lib.hid hmm
      have HMV := Lib.hid hmv
      have HLV := Lib.hid (lives_any w2 (HG.out w2 B2.out))
      clear HS hmm hmv
      go_wp2_with fail
      refine HLV.out.mono ?_
      rintro e w3 ⟨rfl, b3⟩
      have B3 : Hid (Below w.heap.size w w3) := B2.out.trans (b3.mono B2.out.size)
      have hsl := sme_of HSM.out
      have HC := Lib.hid (limited_any d _ l w3 (HL.out w3 B3.out) hsl.ts HAV.out hl1 hsl.sz)
      clear b3 HLV hsl B2
      go_wp2_with fail
      refine HC.out.mono ?_
      rintro e w4 ⟨sv4, fs, rfl, hown4, b4, hk4, hs4⟩
      have B4 : Hid (Below w.heap.size w w4) := B3.out.trans (b4.mono B3.out.size)
      have HLM : Hid (Lim (eqL (d + 1) l) (atN l) fs) := ⟨hk4, hs4⟩
      have HF4 : Hid (∀ u, Below w4.heap.size w4 u → Ls u sv4 fs.length (fs.flatMap strB)) := fun u hu => (ls_own hown4).below hu
      obtain ⟨fa, fc, rfl, _, _, _⟩ := ls_str (ls_own hown4)
      have HBU : Hid (∀ u, Below w4.heap.size w4 u → Below w.heap.size w u) := fun u hu => B4.out.trans (hu.mono B4.out.size)
      have HCA : Hid (0 < l.length → ∃ g off, a = some ⟨g, off, none⟩ ∧ ∀ u, Below w4.heap.size w4 u → ∀ i, i < l.length → u.rangeAt g (off + i * 16) (atL l i).cells) := fun h => by
        obtain ⟨g, off, ha, hg, hc⟩ := HAT.out h
        exact ⟨g, off, ha, fun u hu i hi => range_below (hc i hi) (HBU.out u hu) hg⟩
      clear hown4 b4 hk4 hs4 HC B3 HAT
      go_wp2
      go_loopw [8, 9, 10] (fun v1 v2 i wr => ∃ (k : Nat) (a1 : Option Addr) (c1 : Nat) (a2 : Option Addr) (c2 : Nat) (t b : List XL), k ≤ l.length ∧ i = .int .i64 k ∧ v1 = .slice a1 t.length c1 ∧ v2 = .slice a2 b.length c2 ∧ Hid (t = tuL l (tuC x l.length) k) ∧ Hid (b = baL l k) ∧ Hid (Tu w4 t b (.slice a1 t.length c1) (.slice a2 b.length c2) wr)) (fun _ _ i _ => l.length - (intOf i).toNat)
      case atStart => exact ⟨0, none, 0, none, 0, [], [], Nat.zero_le _, rfl, rfl, rfl, rfl, rfl, ⟨World.ownsRow_nil _ _ _ _, World.ownsRow_nil _ _ _ _, fun g h => by simp [Value.ownBlock] at h, Below.refl _ _⟩⟩
      case round =>
        obtain ⟨k, a1, c1, a2, c2, t, b, hk, rfl, rfl, rfl, HT, HBB, HTU⟩ := hrel
        by_cases hlt : k < l.length
        · have hlt' : (k : Int) < (l.length : Int) := by omega
          have hk0 : (0 : Int) ≤ (k : Int) := by omega
          have hr := tu_range x (n := l.length) (by omega)
          have hmod := tu_mod x hlt
          have hjm : (k + tuC x l.length) % l.length < l.length := Nat.mod_lt _ (by omega)
          have HTS := Lib.hid (tuL_succ l (tuC x l.length) k)
          rw [← HT.out] at HTS
          have HBS := Lib.hid (baL_succ l k)
          rw [← HBB.out] at HBS
          have htl : t.length ≤ 10000000 := by rw [HT.out, tuL_len]; omega
          have hbl : b.length ≤ 10000000 := by rw [HBB.out, baL_len]; omega
          obtain ⟨g, off, rfl, hrg⟩ := HCA.out (by omega)
          have HRJ : Hid (∀ u, Below w4.heap.size w4 u → u.rangeAt g (off + (k + tuC x l.length) % l.length * 16) (atL l ((k + tuC x l.length) % l.length)).cells) := fun u hu => hrg u hu _ hjm
          generalize (k + tuC x l.length) % l.length = j at hmod hjm HTS HRJ
          obtain ⟨kk, hkk⟩ : ∃ kk, kk = l.length - 1 - k := ⟨_, rfl⟩
          have hkl : kk < l.length := by omega
          have HRK : Hid (∀ u, Below w4.heap.size w4 u → u.rangeAt g (off + kk * 16) (atL l kk).cells) := fun u hu => hrg u hu _ hkl
          rw [← hkk] at HBS
          have wb : IntKind.i64.wrap ((l.length : Int) - 1 - (k : Int)) = (kk : Int) := by rw [IntKind.wrap_i64]; omega
          have wa : IntKind.i64.wrap ((l.length : Int) - 1) = (l.length : Int) - 1 := by rw [IntKind.wrap_i64]; omega
          have hki : (l.length : Int) - 1 - (k : Int) = (kk : Int) := by omega
          have hkt : (k : Int).tmod (l.length : Int) = (k : Int) := by rw [Int.tmod_eq_emod_of_nonneg (by omega), Int.emod_eq_of_lt (by omega) (by omega)]
          have hn0 : ¬ (l.length : Int) = 0 := by omega
          obtain ⟨rr, hrr⟩ : ∃ rr, x.tmod (l.length : Int) = rr := ⟨_, rfl⟩
          rw [hrr] at hr hmod
          have w1 : IntKind.i64.wrap ((k : Int) + rr) = (k : Int) + rr := by rw [IntKind.wrap_i64]; omega
          have w3 : IntKind.i64.wrap ((k : Int) + rr + (l.length : Int)) = (k : Int) + rr + (l.length : Int) := by rw [IntKind.wrap_i64]; omega
          have hj' : (j : Int) < (l.length : Int) := by omega
          have hj0 : (0 : Int) ≤ (j : Int) := by omega
          have hkl' : (kk : Int) < (l.length : Int) := by omega
          have hkl0 : (0 : Int) ≤ (kk : Int) := by omega
          have HR := Lib.hid hr
          have HKI := Lib.hid hki
          have HWA := Lib.hid wa
          have HWB := Lib.hid wb
          clear hr hkk hrg hki wa wb
          go_wp2_with fail
          go_quiet (fail)
          clear hkt hn0 hrr hmod w1 w3
          go_upto_region 11 with fail
          have HT7 := Lib.hid (HTU.out.below (below_drewC (Below.refl wr.heap.size wr) nq))
          clear HTU
          generalize wr.drewN nq = W7 at HT7 ⊢
          have hld := load_Lit (HRJ.out W7 HT7.out.bl) rfl
          obtain ⟨a6, c6, w5, hrun, ht5⟩ := HT7.out.push (atL l j) htl
          have hbs := run_sliceLit (atL l j) W7
          have HT5 : Hid (Tu w4 b (t ++ [atL l j]) (.slice a2 b.length c2) (.slice a6 (t.length + 1) c6) w5) := ht5.swap
          have hld2 := load_Lit (HRK.out w5 HT5.out.bl) rfl
          obtain ⟨a7, c7, w6, hrun2, ht6⟩ := HT5.out.push (atL l kk) hbl
          have hbs2 := run_sliceLit (atL l kk) w5
          have HT6 : Hid (Tu w4 (t ++ [atL l j]) (b ++ [atL l kk]) (.slice a6 (t ++ [atL l j]).length c6) (.slice a7 (b ++ [atL l kk]).length c7) w6) := by
            have := ht6.swap
            rw [List.length_append, List.length_append]
            exact this
          replace HTS : Hid (t ++ [atL l j] = tuL l (tuC x l.length) (k + 1)) := HTS.out.symm
          replace HBS : Hid (b ++ [atL l kk] = baL l (k + 1)) := HBS.out.symm
          generalize atL l j = y at hld hbs hrun HT6 HTS
          generalize atL l kk = z at hld2 hbs2 hrun2 HT6 HBS
          generalize Value.agg y.cells.toArray = QY at hld hbs
          generalize Value.agg z.cells.toArray = QZ at hld2 hbs2
          clear ht5 ht6 HT7 HT5 HRJ HRK HT HBB
          go_upto_region 12 with fail
          clear hld hbs hrun
          have wa := HWA.out
          have wb := HWB.out
          have hki := HKI.out
          go_wp2
          go_roundw
          case rel => exact ⟨k + 1, a6, c6, a7, c7, t ++ [y], b ++ [z], by omega, by go_num, by simp, by simp, HTS, HBS, HT6⟩
          case measure => simp [intOf]; omega
        · obtain rfl : k = l.length := by omega
          obtain ⟨W, rfl⟩ : ∃ W, W = wr := ⟨_, rfl⟩
          have hpt : t.Perm l := by rw [HT.out]; exact tuL_perm l _
          have hpb : b.Perm l := by rw [HBB.out]; exact baL_perm l
          have HPT := Lib.hid hpt
          have HPB := Lib.hid hpb
          have HBW : Hid (∀ u, Below W.heap.size W u → Below w4.heap.size w4 u) := fun u hu => HTU.out.bl.trans (hu.mono HTU.out.bl.size)
          have hSt : Sme (d + 1) t := sme_of (fun y hy => HSM.out y (hpt.mem_iff.1 hy))
          have hSb : Sme (d + 1) b := sme_of (fun y hy => HSM.out y (hpb.mem_iff.1 hy))
          have hLt : Lb W (.slice a1 t.length c1) (d + 1) t := ⟨ls_own HTU.out.o1, fun y hy => (HL.out W (HBU.out W HTU.out.bl)).each y (hpt.mem_iff.1 hy)⟩
          have hLb : Lb W (.slice a2 b.length c2) (d + 1) b := ⟨ls_own HTU.out.o2, fun y hy => (HL.out W (HBU.out W HTU.out.bl)).each y (hpb.mem_iff.1 hy)⟩
          have HCT := Lib.hid (limited_any d _ t W hLt hSt.ts (by rw [av_perm hpt]; exact HAV.out) (by rw [hpt.length_eq]; exact hl1) hSt.sz)
          have HCB : Hid (∀ u, Below W.heap.size W u → Calls Tryz.prog 7 #[.slice a2 b.length c2] u fun e w' => LmP u.heap.size (eqL (d + 1) b) (atN b) u e w') := fun u hu => limited_any d _ b u (hLb.below hu) hSb.ts (by rw [av_perm hpb]; exact HAV.out) (by rw [hpb.length_eq]; exact hl1) hSb.sz
          have HRD : Hid (∀ u, Below W.heap.size W u → ∃ va ca vb cb u2 u3, (Builtin.append_ #[22, 22] 22 #[.slice none 0 0, .slice ma m.length mc]).run Tryz.prog u = .ok (.slice va m.length ca) u2 ∧ (Builtin.append_ #[22, 22] 22 #[.slice va m.length ca, .slice a l.length c]).run Tryz.prog u2 = .ok (.slice vb (m.length + l.length) cb) u3 ∧ Below u.heap.size u u3 ∧ Lb u3 (.slice vb (m.length + l.length) cb) (d + 1) (m ++ l)) := fun u hu => by
            have hw := HBU.out u (HBW.out u hu)
            obtain ⟨v1, u2, hr1, o1, g1, loc1⟩ := run_appL (w := u) (b := u.heap.size) (v := .slice none 0 0) (n := 0) (xs := []) 22 22 48 Tryz.underlying22 hi0 hz0 hz1 hz2 rfl (by decide) (World.ownsRow_nil _ _ _ _) (HM.out u hw).lies (litCells_len m) (litCells_one m) (by unfold maxLen; omega) (by omega) (Nat.le_refl _)
            have k1 : Below u.heap.size u u2 := (Below.refl _ _).grown g1 (Nat.le_refl _) (fun j hj => by simp [Value.ownBlock] at hj)
            rw [Nat.zero_add, List.nil_append] at o1
            obtain ⟨va, ca, rfl, _⟩ := own_form o1
            have hw2 := HBU.out u2 (HBW.out u2 (hu.trans (k1.mono hu.size)))
            obtain ⟨v2, u3, hr2, o2, g2, loc2⟩ := run_appL (w := u2) 22 22 48 Tryz.underlying22 hi0 hz0 hz1 hz2 rfl (by decide) o1 (HL.out u2 hw2).lies (litCells_len l) (litCells_one l) (by unfold maxLen; omega) (by omega) k1.size
            have k2 : Below u.heap.size u u3 := k1.grown g2 k1.size (fun j hj => (o1.lt j hj).1)
            obtain ⟨vb, cb, rfl, _⟩ := own_form o2
            have hw3 := HBU.out u3 (HBW.out u3 (hu.trans (k2.mono hu.size)))
            refine ⟨va, ca, vb, cb, u2, u3, hr1, hr2, k2, ?_, fun y hy => ?_⟩
            · rw [List.length_append, List.flatMap_append]
              exact ls_own o2
            · rcases List.mem_append.1 hy with h | h
              · exact (HM.out u3 hw3).each y h
              · exact (HL.out u3 hw3).each y h
          have hSc : Sme (d + 1) (m ++ l) := sme_of (fun y hy => by
            rcases List.mem_append.1 hy with h | h
            · exact HMM.out y h
            · exact HSM.out y h)
          have HSC := Lib.hid hSc
          have HAC : Hid ((avL (m ++ l)).length ≤ 4194304) := by
            show _ ≤ _
            unfold avL
            rw [List.flatMap_append, List.length_append]
            have h1 := HMV.out
            have h2 := HAV.out
            unfold avL at h1 h2
            omega
          clear hpt hpb hSt hSb hLt hLb hSc HT HBB HTU HCA HL HM HSM HMM HAV HMV hlt hk
          go_wp2_with fail
          refine HCT.out.mono ?_
          rintro e w5 ⟨sv5, ga, rfl, hown5, b5, hk5, hs5⟩
          have B5 : Hid (Below W.heap.size W w5) := b5
          obtain ⟨hga, hgs⟩ := lim_len HPT.out ⟨hk5, hs5⟩ HLM.out
          have HGS := Lib.hid hgs
          have HG5 : Hid (∀ u, Below w5.heap.size w5 u → Ls u sv5 ga.length (ga.flatMap strB)) := fun u hu => (ls_own hown5).below hu
          obtain ⟨ga1, gc1, rfl, _, _, _⟩ := ls_str (ls_own hown5)
          have HLA : Hid (ga.length = fs.length) := hga
          have HC5 := Lib.hid (HCB.out w5 b5)
          clear hown5 b5 hk5 hs5 HCT hga hgs HPT HCB
          go_wp2_with fail
          refine HC5.out.mono ?_
          rintro e w6 ⟨sv6, gb, rfl, hown6, b6, hk6, hs6⟩
          have B6 : Hid (Below W.heap.size W w6) := B5.out.trans (b6.mono B5.out.size)
          obtain ⟨hgb, hgt⟩ := lim_len HPB.out ⟨hk6, hs6⟩ HLM.out
          have HGT := Lib.hid hgt
          have HG6 : Hid (∀ u, Below w6.heap.size w6 u → Ls u sv6 gb.length (gb.flatMap strB)) := fun u hu => (ls_own hown6).below hu
          obtain ⟨gb1, gc2, rfl, _, _, _⟩ := ls_str (ls_own hown6)
          have HLB : Hid (gb.length = fs.length) := hgb
          have HB56 := Lib.hid b6
          obtain ⟨va, ca, vb, cb, u2, u3, hr1, hr2, k3, hLc⟩ := HRD.out w6 B6.out
          have B7 : Hid (Below W.heap.size W u3) := B6.out.trans (k3.mono B6.out.size)
          have HB67 := Lib.hid k3
          have HC6 : Hid (Calls Tryz.prog 7 #[.slice vb (m.length + l.length) cb] u3 fun e w' => LmP u3.heap.size (eqL (d + 1) (m ++ l)) (atN (m ++ l)) u3 e w') := limitedG_any d _ (m ++ l) u3 hLc HSC.out.ts HAC.out (by rw [List.length_append]; omega) HSC.out.sz
          clear hown6 b6 hk6 hs6 HC5 hgb hgt HPB HRD k3 hLc HSC HAC
          go_wp2_with fail
          clear hr1 hr2
          refine HC6.out.mono ?_
          rintro e w8 ⟨sv8, gc, rfl, hown8, b8, hk8, hs8⟩
          have B8 : Hid (Below W.heap.size W w8) := B7.out.trans (b8.mono B7.out.size)
          have HGC : Hid (∀ y ∈ fs, y ∈ gc) := lim_perm (fun y hy => List.mem_append.2 (.inr hy)) HLM.out ⟨hk8, hs8⟩
          have HF8 := Lib.hid (HF4.out w8 (HBW.out w8 B8.out))
          have h68 : Below w6.heap.size w6 w8 := HB67.out.trans (b8.mono HB67.out.size)
          have HA8 := Lib.hid (HG5.out w8 (HB56.out.trans (h68.mono HB56.out.size)))
          have HE8 := Lib.hid (HG6.out w8 h68)
          have HG8 := Lib.hid (ls_own hown8)
          obtain ⟨gc1, gcc, rfl, _, _, _⟩ := ls_str (ls_own hown8)
          have HR1 := Lib.hid (rall_any _ _ fs ga w8 HF8.out HA8.out)
          have HR2 := Lib.hid (rall_any _ _ fs gb w8 HF8.out HE8.out)
          have HR3 := Lib.hid (rall_any _ _ fs gc w8 HF8.out HG8.out)
          rw [all_sub HGS.out] at HR1
          rw [all_sub HGT.out] at HR2
          rw [all_sub HGC.out] at HR3
          have e1 : ((ga.length : Int) == (fs.length : Int)) = true := by rw [HLA.out]; simp
          have e2 : ((gb.length : Int) == (fs.length : Int)) = true := by rw [HLB.out]; simp
          have HEN := Lib.hid (HBU.out w8 (HBW.out w8 B8.out))
          clear hown8 b8 hk8 hs8 HC6 h68 HGS HGT HGC HF8 HA8 HE8 HG8 HLA HLB HG5 HG6 HF4 HB56 HB67 B5 B6 B7 B8
          go_wp2_with fail
          refine HR1.out.mono ?_
          rintro e w9 ⟨rfl, rfl⟩
          clear HR1
          go_wp2_with fail
          refine HR2.out.mono ?_
          rintro e w10 ⟨rfl, rfl⟩
          clear HR2
          go_wp2_with fail
          refine HR3.out.mono ?_
          rintro e w11 ⟨rfl, rfl⟩
          clear HR3
          go_wp2
          go_ret
          exact ⟨by first | rfl | simp, HEN.out⟩
    · clear HS
      go_wp2
      go_ret
      exact ⟨by first | rfl | simp, B2.out⟩
  · clear HS HBM
    go_wp2
    go_ret
    exact ⟨by first | rfl | simp, B1.out⟩
end Go.Proofs.YtkfajjnaadmobaaGreatDoor
end
