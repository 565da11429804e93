import Derived.Test.YteabclfhmapabaaDoorA2
import Derived.Test.YteabclfhmapabaaDoorA4
import Derived.Test.YteabclfhmapabaaDoorA3
import Derived.Test.YteabclfhmapabaaDoorA5
import Derived.Test.YteabclfhmapabaaDoorA7
import Derived.Test.YteabclfhmapabaaDoorA6
import Derived.Test.YteabclfhmapabaaDoorA8
section
namespace Go.Proofs.YteabclfhmapabaaDoor
open Go.RowKit Go.Maps
set_option linter.unusedVariables false
set_option linter.unusedSimpArgs false

/-! the mathematics of Limited (P7.2): names, equations' sides, rounds -/
/-- a name more, if it is not there -/
def addN (out : List ByteArray) (n : ByteArray) : List ByteArray := if inB out n = true then out else out ++ [n]
/-- a side of an equation: the variable that it is, and its variables -/
structure Sd where
  lone : Option ByteArray
  vars : List ByteArray
abbrev Qn := Sd × Sd
/-- what a side gives -/
def givesO (v : Option ByteArray) (o fs : List ByteArray) : Option ByteArray := match v with
  | some v => if (!inB fs v && o.all (inB fs)) = true then some v else none
  | none => none
def gaveO (fs : List ByteArray) (q : Qn) : Option ByteArray := match givesO q.1.lone q.2.vars fs with
  | some v => some v
  | none => givesO q.2.lone q.1.vars fs
def stepQ (fs : List ByteArray) (q : Qn) : List ByteArray := match gaveO fs q with
  | some v => fs ++ [v]
  | none => fs
def rndQ (qs : List Qn) (fs : List ByteArray) : List ByteArray := qs.foldl stepQ fs
/-- a round of the program: what is found, what is left over -/
def progR : List Qn → List ByteArray → List ByteArray × List Qn
  | [], fs => (fs, [])
  | q :: ws, fs => match gaveO fs q with
    | some v => progR ws (fs ++ [v])
    | none => ((progR ws fs).1, q :: (progR ws fs).2)
/-- an equation that gives nothing any more -/
structure Spent (fs : List ByteArray) (q : Qn) : Prop where
  l : ∀ v, q.1.lone = some v → v ∈ fs
  r : ∀ v, q.2.lone = some v → v ∈ fs
/-- a lone variable is one of its side's -/
structure OkQ (q : Qn) : Prop where
  l : ∀ v, q.1.lone = some v → v ∈ q.1.vars
  r : ∀ v, q.2.lone = some v → v ∈ q.2.vars
theorem Spent.mono {fs fs' : List ByteArray} {q : Qn} (h : Spent fs q) (hs : ∀ x ∈ fs, x ∈ fs') : Spent fs' q := ⟨fun v hv => hs v (h.l v hv), fun v hv => hs v (h.r v hv)⟩
theorem givesO_some {v : Option ByteArray} {o fs : List ByteArray} {x : ByteArray} (h : givesO v o fs = some x) : v = some x ∧ ¬ x ∈ fs ∧ ∀ y ∈ o, y ∈ fs := by
  unfold givesO at h
  cases v with
  | none => cases h
  | some v =>
    simp only at h
    split at h
    · rename_i hc
      injection h with h
      subst h
      rw [Bool.and_eq_true, Bool.not_eq_true'] at hc
      exact ⟨rfl, fun k => (by rw [inB_iff.2 k] at hc; cases hc.1), fun y hy => inB_iff.1 (List.all_eq_true.1 hc.2 y hy)⟩
    · cases h
theorem givesO_in {v : Option ByteArray} {o fs : List ByteArray} (h : ∀ x, v = some x → x ∈ fs) : givesO v o fs = none := by
  unfold givesO
  cases v with
  | none => rfl
  | some v =>
    simp only
    rw [if_neg (by rw [inB_iff.2 (h v rfl)]; simp)]
theorem Spent.no {fs : List ByteArray} {q : Qn} (h : Spent fs q) : gaveO fs q = none := by
  unfold gaveO
  rw [givesO_in h.l]
  exact givesO_in h.r
theorem gave_spent {fs : List ByteArray} {q : Qn} {v : ByteArray} (hq : OkQ q) (h : gaveO fs q = some v) : Spent (fs ++ [v]) q := by
  unfold gaveO at h
  cases h1 : givesO q.1.lone q.2.vars fs with
  | some x =>
    rw [h1] at h
    injection h with h
    subst h
    obtain ⟨e1, _, e3⟩ := givesO_some h1
    exact ⟨fun y hy => by rw [e1] at hy; injection hy with hy; simp [hy], fun y hy => List.mem_append.2 (.inl (e3 y (hq.r y hy)))⟩
  | none =>
    rw [h1] at h
    obtain ⟨e1, _, e3⟩ := givesO_some h
    exact ⟨fun y hy => List.mem_append.2 (.inl (e3 y (hq.l y hy))), fun y hy => by rw [e1] at hy; injection hy with hy; simp [hy]⟩
theorem gave_new {fs : List ByteArray} {q : Qn} {v : ByteArray} (h : gaveO fs q = some v) : ¬ v ∈ fs ∧ (q.1.lone = some v ∨ q.2.lone = some v) := by
  unfold gaveO at h
  cases h1 : givesO q.1.lone q.2.vars fs with
  | some x =>
    rw [h1] at h
    injection h with h
    subst h
    exact ⟨(givesO_some h1).2.1, .inl (givesO_some h1).1⟩
  | none =>
    rw [h1] at h
    exact ⟨(givesO_some h).2.1, .inr (givesO_some h).1⟩
/-- what waits, among all equations: the others give nothing any more -/
inductive Wt (fs : List ByteArray) : List Qn → List Qn → Prop where
  | nil : Wt fs [] []
  | keep (q : Qn) {qa ws : List Qn} : Wt fs qa ws → Wt fs (q :: qa) (q :: ws)
  | skip (q : Qn) {qa ws : List Qn} : Spent fs q → Wt fs qa ws → Wt fs (q :: qa) ws
theorem Wt.all (fs : List ByteArray) : ∀ l, Wt fs l l
  | [] => .nil
  | q :: l => .keep q (Wt.all fs l)
theorem Wt.mono {fs fs' : List ByteArray} (hs : ∀ x ∈ fs, x ∈ fs') {qa ws : List Qn} (h : Wt fs qa ws) : Wt fs' qa ws := by
  induction h with
  | nil => exact .nil
  | keep q _ ih => exact .keep q ih
  | skip q hq _ ih => exact .skip q (hq.mono hs) ih
theorem progR_sub : ∀ (ws : List Qn) (fs : List ByteArray), ∀ x ∈ fs, x ∈ (progR ws fs).1
  | [], fs, x, hx => hx
  | q :: ws, fs, x, hx => by
    unfold progR
    cases h : gaveO fs q with
    | some v => exact progR_sub ws _ x (List.mem_append.2 (.inl hx))
    | none => exact progR_sub ws fs x hx
theorem Wt.round : ∀ (qa ws : List Qn) (fs : List ByteArray), (∀ q ∈ qa, OkQ q) → Wt fs qa ws → rndQ qa fs = (progR ws fs).1 ∧ Wt (progR ws fs).1 qa (progR ws fs).2
  | [], ws, fs, _, h => by cases h; exact ⟨rfl, .nil⟩
  | q :: qa, ws, fs, hok, h => by
    have hok' : ∀ x ∈ qa, OkQ x := fun x hx => hok x (List.mem_cons_of_mem _ hx)
    show rndQ qa (stepQ fs q) = _ ∧ _
    cases h with
    | @keep _ _ ws' h' =>
      cases hg : gaveO fs q with
      | none =>
        have e1 : stepQ fs q = fs := by unfold stepQ; rw [hg]
        have e2 : progR (q :: ws') fs = ((progR ws' fs).1, q :: (progR ws' fs).2) := by rw [progR, hg]
        rw [e1, e2]
        obtain ⟨h1, h2⟩ := Wt.round qa ws' fs hok' h'
        exact ⟨h1, .keep q h2⟩
      | some v =>
        have e1 : stepQ fs q = fs ++ [v] := by unfold stepQ; rw [hg]
        have e2 : progR (q :: ws') fs = progR ws' (fs ++ [v]) := by rw [progR, hg]
        rw [e1, e2]
        obtain ⟨h1, h2⟩ := Wt.round qa ws' (fs ++ [v]) hok' (h'.mono (fun x hx => List.mem_append.2 (.inl hx)))
        exact ⟨h1, .skip q ((gave_spent (hok q List.mem_cons_self) hg).mono (progR_sub ws' _)) h2⟩
    | skip _ hs h' =>
      have e1 : stepQ fs q = fs := by unfold stepQ; rw [hs.no]
      rw [e1]
      obtain ⟨h1, h2⟩ := Wt.round qa ws fs hok' h'
      exact ⟨h1, .skip q (hs.mono (progR_sub ws fs)) h2⟩
theorem progR_len : ∀ (ws : List Qn) (fs : List ByteArray), (progR ws fs).2.length ≤ ws.length ∧ ((progR ws fs).2.length = ws.length → (progR ws fs).1 = fs)
  | [], fs => ⟨Nat.le_refl _, fun _ => rfl⟩
  | q :: ws, fs => by
    unfold progR
    cases h : gaveO fs q with
    | some v =>
      obtain ⟨h1, h2⟩ := progR_len ws (fs ++ [v])
      simp only [List.length_cons]
      exact ⟨by omega, fun e => by omega⟩
    | none =>
      obtain ⟨h1, h2⟩ := progR_len ws fs
      simp only [List.length_cons]
      exact ⟨by omega, fun e => h2 (by omega)⟩
theorem rndQ_grow : ∀ (qs : List Qn) (fs : List ByteArray), ∃ more, rndQ qs fs = fs ++ more
  | [], fs => ⟨[], by simp [rndQ]⟩
  | q :: qs, fs => by
    obtain ⟨m, hm⟩ := rndQ_grow qs (stepQ fs q)
    show ∃ more, rndQ qs (stepQ fs q) = _
    unfold stepQ at hm ⊢
    cases h : gaveO fs q with
    | some v => rw [h] at hm; exact ⟨[v] ++ m, by rw [← List.append_assoc]; exact hm⟩
    | none => rw [h] at hm; exact ⟨m, hm⟩
/-- what is found in k rounds -/
def itQ (qs : List Qn) : Nat → List ByteArray → List ByteArray
  | 0, fs => fs
  | k + 1, fs => itQ qs k (rndQ qs fs)
theorem itQ_succ (qs : List Qn) : ∀ (k : Nat) (fs : List ByteArray), itQ qs (k + 1) fs = rndQ qs (itQ qs k fs)
  | 0, fs => rfl
  | k + 1, fs => itQ_succ qs k (rndQ qs fs)
theorem itQ_still (qs : List Qn) : ∀ (k : Nat) (fs : List ByteArray), rndQ qs fs = fs → itQ qs k fs = fs
  | 0, fs, _ => rfl
  | k + 1, fs, h => by rw [itQ, h]; exact itQ_still qs k fs h
theorem itQ_add (qs : List Qn) : ∀ (j k : Nat) (fs : List ByteArray), itQ qs (j + k) fs = itQ qs k (itQ qs j fs)
  | 0, k, fs => by rw [Nat.zero_add]; rfl
  | j + 1, k, fs => by rw [show j + 1 + k = (j + k) + 1 by omega, itQ, itQ_add qs j k]; rfl
/-- where the rounds stand still is one place -/
theorem itQ_one {qs : List Qn} {fs : List ByteArray} {j k : Nat} (hj : rndQ qs (itQ qs j fs) = itQ qs j fs) (hk : rndQ qs (itQ qs k fs) = itQ qs k fs) : itQ qs j fs = itQ qs k fs := by
  rcases Nat.le_total j k with h | h
  · obtain ⟨m, rfl⟩ := Nat.exists_eq_add_of_le h
    rw [itQ_add, itQ_still qs m _ hj]
  · obtain ⟨m, rfl⟩ := Nat.exists_eq_add_of_le h
    rw [itQ_add, itQ_still qs m _ hk]
/-- names that may be found: lone ones -/
def loneL (qs : List Qn) : List ByteArray := qs.flatMap fun q => q.1.lone.toList ++ q.2.lone.toList
theorem addN_nodup {out : List ByteArray} (h : out.Nodup) (n : ByteArray) : (addN out n).Nodup := by
  unfold addN
  split
  · exact h
  · rename_i hc
    rw [List.nodup_append]
    refine ⟨h, by simp, fun a ha b hb => ?_⟩
    rw [List.mem_singleton.1 hb]
    rintro rfl
    exact hc (inB_iff.2 ha)
theorem foldN_nodup : ∀ (l out : List ByteArray), out.Nodup → (l.foldl addN out).Nodup
  | [], out, h => h
  | n :: l, out, h => foldN_nodup l _ (addN_nodup h n)
theorem rndQ_nodup : ∀ (qs : List Qn) (fs : List ByteArray), fs.Nodup → (rndQ qs fs).Nodup
  | [], fs, h => h
  | q :: qs, fs, h => by
    show (rndQ qs (stepQ fs q)).Nodup
    refine rndQ_nodup qs _ ?_
    unfold stepQ
    cases hg : gaveO fs q with
    | none => exact h
    | some v =>
      rw [List.nodup_append]
      refine ⟨h, by simp, fun a ha b hb => ?_⟩
      rw [List.mem_singleton.1 hb]
      rintro rfl
      exact (gave_new hg).1 ha
theorem rndQ_in : ∀ (qs : List Qn) (fs all : List ByteArray), (∀ x ∈ fs, x ∈ all) → (∀ x ∈ loneL qs, x ∈ all) → ∀ x ∈ rndQ qs fs, x ∈ all
  | [], fs, all, h, _, x, hx => h x hx
  | q :: qs, fs, all, h, h2, x, hx => by
    refine rndQ_in qs (stepQ fs q) all (fun y hy => ?_) (fun y hy => h2 y (by unfold loneL; rw [List.flatMap_cons]; exact List.mem_append.2 (.inr hy))) x hx
    unfold stepQ at hy
    cases hg : gaveO fs q with
    | none => rw [hg] at hy; exact h y hy
    | some v =>
      rw [hg] at hy
      rcases List.mem_append.1 hy with hy | hy
      · exact h y hy
      · rw [List.mem_singleton.1 hy]
        refine h2 v ?_
        unfold loneL
        rw [List.flatMap_cons]
        refine List.mem_append.2 (.inl ?_)
        rcases (gave_new hg).2 with k | k
        · rw [k]; simp
        · rw [k]; simp
theorem nodupN_le : ∀ (l m : List ByteArray), l.Nodup → (∀ x ∈ l, x ∈ m) → l.length ≤ m.length
  | [], m, _, _ => Nat.zero_le _
  | x :: l, m, h, hm => by
    rw [List.nodup_cons] at h
    have hx : x ∈ m := hm x List.mem_cons_self
    have hlt : (m.filter (fun y => decide (y ≠ x))).length < m.length := by
      rw [List.length_filter_lt_length_iff_exists]
      exact ⟨x, hx, by simp⟩
    have := nodupN_le l (m.filter (fun y => decide (y ≠ x))) h.2 (fun y hy => by
      rw [List.mem_filter]
      exact ⟨hm y (List.mem_cons_of_mem _ hy), decide_eq_true (fun e => h.1 (e ▸ hy))⟩)
    rw [List.length_cons]
    omega
/-- a side, of an expression of at most d levels -/
def sdE (d : Nat) (e : E) : Sd := ⟨if e.op = 0 ∧ e.kids.length = 0 then (vsT [] (termsD d e)).head? else none, vsT [] (termsD d e)⟩
theorem vsT_leaf {d : Nat} {e : E} (h : e.kids.length = 0) : vsT [] (termsD (d + 1) e) = if e.t.v = noS ∨ e.t.v = blankS then [] else [e.t.v] := by
  rw [termsD_succ, List.length_eq_zero_iff.1 h]
  show vsT [] [e.t] = _
  unfold vsT
  by_cases hc : e.t.v = noS ∨ e.t.v = blankS
  · rw [if_pos hc, if_pos (by rcases hc with k | k; exact .inl k; exact .inr (.inl k))]
    rfl
  · rw [if_neg hc, if_neg (by
      rintro (k | k | k)
      · exact hc (.inl k)
      · exact hc (.inr k)
      · cases k)]
    rfl
theorem sd_ok (d : Nat) (e : E) : ∀ v, (sdE d e).lone = some v → v ∈ (sdE d e).vars := by
  intro v hv
  unfold sdE at hv ⊢
  simp only at hv ⊢
  split at hv
  · exact List.mem_of_mem_head? hv
  · cases hv
end Go.Proofs.YteabclfhmapabaaDoor
end
section
namespace Go.Proofs.YteabclfhmapabaaDoor
open Go.RowKit Go.Maps
set_option linter.unusedVariables false
set_option linter.unusedSimpArgs false
attribute [local go_sem ↓] Go.wp_at_zero Go.wp_at_succ

end Go.Proofs.YteabclfhmapabaaDoor
end
section
namespace Go.Proofs.YteabclfhmapabaaDoor
open Go.RowKit Go.Maps
set_option linter.unusedVariables false
set_option linter.unusedSimpArgs false
attribute [local go_sem ↓] Go.wp_at_zero Go.wp_at_succ

theorem belowA {w : World} (o : Obj) : Below w.heap.size w (w.alloc o) := (Below.refl _ _).alloc (Nat.le_refl _) _
end Go.Proofs.YteabclfhmapabaaDoor
end
section
namespace Go.Proofs.YteabclfhmapabaaDoor
open Go.RowKit Go.Maps
set_option linter.unusedVariables false
set_option linter.unusedSimpArgs false
attribute [local go_sem ↓] Go.wp_at_zero Go.wp_at_succ

/-- the variables of a literal, if it is a claim -/
def avX (y : XL) : List ByteArray := if y.x.k = 1 then vsT [] y.x.ts else []
/-- the variables of a body's claims -/
def avL (l : List XL) : List ByteArray := l.flatMap avX
/-- a body's equations -/
def eqX (d : Nat) (y : XL) : List Qn := if y.x.k = 3 ∧ y.x.rel = 1 then [(sdE d y.x.l, sdE d y.x.r)] else []
def eqL (d : Nat) (l : List XL) : List Qn := l.flatMap (eqX d)
/-- what a body's claims find -/
def atN (l : List XL) : List ByteArray := (avL l).foldl addN []
theorem takeXL {l : List XL} {k : Nat} (h : k < l.length) : l.take (k + 1) = l.take k ++ [atL l k] := by rw [List.take_add_one, List.getElem?_eq_getElem h, atL_eq h]; rfl
theorem takeS {l : List ByteArray} {k : Nat} (h : k < l.length) : l.take (k + 1) = l.take k ++ [atS l k] := by rw [List.take_add_one, List.getElem?_eq_getElem h, atS_eq h]; rfl
theorem foldN_len : ∀ (l out : List ByteArray), (l.foldl addN out).length ≤ out.length + l.length
  | [], out => by simp
  | n :: l, out => by
    have := foldN_len l (addN out n)
    have h2 : (addN out n).length ≤ out.length + 1 := by unfold addN; split <;> simp
    simp only [List.foldl_cons, List.length_cons]
    omega
theorem infoStrL : (Tryd.prog.info? 9).map (fun i => (i.zero, i.size, i.bytes)) = some (some (.string ⟨#[]⟩), 1, 16) := by kernel_rfl
end Go.Proofs.YteabclfhmapabaaDoor
end
section
namespace Go.Proofs.YteabclfhmapabaaDoor
open Go.RowKit Go.Maps
set_option linter.unusedVariables false
set_option linter.unusedSimpArgs false
attribute [local go_sem ↓] Go.wp_at_zero Go.wp_at_succ

/-- nothing changes but some blocks, and new ones -/
structure Tz (ex : Nat → Prop) (w w' : World) : Prop where
  os : w'.os = w.os
  tape : w'.tape = w.tape
  output : w'.output = w.output
  size : w.heap.size ≤ w'.heap.size
  block : ∀ b, b < w.heap.size → ¬ ex b → w'.heap[b]? = w.heap[b]?
theorem Tz.refl (ex : Nat → Prop) (w : World) : Tz ex w w := ⟨rfl, rfl, rfl, Nat.le_refl _, fun _ _ _ => rfl⟩
theorem Tz.of_below {ex : Nat → Prop} {w w' : World} (h : Below w.heap.size w w') : Tz ex w w' := ⟨h.os, h.tape, h.output, h.size, fun b hb _ => h.block b hb⟩
theorem Tz.trans {ex ex' : Nat → Prop} {w w' w'' : World} (h : Tz ex w w') (k : Tz ex' w' w'') (hs : ∀ b, b < w.heap.size → ex' b → ex b) : Tz ex w w'' :=
  ⟨k.os.trans h.os, k.tape.trans h.tape, k.output.trans h.output, Nat.le_trans h.size k.size, fun b hb he => (k.block b (Nat.lt_of_lt_of_le hb h.size) (fun e => he (hs b hb e))).trans (h.block b hb he)⟩
theorem Tz.below {ex : Nat → Prop} {B : Nat} {w0 w w' : World} (h : Below B w0 w) (k : Tz ex w w') (hz : B ≤ w.heap.size) (he : ∀ b, ex b → B ≤ b) : Below B w0 w' :=
  ⟨k.os.trans h.os, k.tape.trans h.tape, k.output.trans h.output, Nat.le_trans h.size k.size, fun b hb => (k.block b (by omega) (fun e => by have := he b e; omega)).trans (h.block b hb)⟩
/-- what a finder keeps: the variables (vs) and what is found (fs, in the row sv) -/
structure Fd (B bf bm : Nat) (vs : List Vb) (fs : List ByteArray) (sv : Value) (w : World) : Prop where
  r : RL w bf 141 [.map (some bm), sv]
  own : w.ownsRow B 9 1 sv fs.length (fs.flatMap strB)
  map : MapV w bm vs
  nd : (vs.map Vb.v).Nodup
  bd : (vs.map Vb.b).Nodup
  each : ∀ x ∈ vs, RL w x.b 167 [.string x.v, .bool (inB fs x.v)]
  lo : B ≤ bf ∧ B ≤ bm ∧ ∀ x ∈ vs, B ≤ x.b
  ne : bf ≠ bm ∧ ∀ x ∈ vs, x.b ≠ bf ∧ x.b ≠ bm
  ap : ∀ g, sv.ownBlock = some g → g ≠ bf ∧ g ≠ bm ∧ ∀ x ∈ vs, g ≠ x.b
  al : ∀ n ∈ fs, ∃ x ∈ vs, x.v = n
/-- its blocks -/
def FP (bf bm : Nat) (vs : List Vb) (sv : Value) (k : Nat) : Prop := k = bf ∨ k = bm ∨ sv.ownBlock = some k ∨ ∃ x ∈ vs, x.b = k
theorem Fd.keep {B bf bm : Nat} {vs : List Vb} {fs : List ByteArray} {sv : Value} {w w' : World} (h : Fd B bf bm vs fs sv w) (hk : ∀ k, FP bf bm vs sv k → w'.heap[k]? = w.heap[k]?) : Fd B bf bm vs fs sv w' :=
  ⟨World.rowIs.of_block h.r (hk _ (.inl rfl)), own_of_block h.own (fun g hg => hk _ (.inr (.inr (.inl hg)))), h.map.of_block (hk _ (.inr (.inl rfl))), h.nd, h.bd, fun x hx => World.rowIs.of_block (h.each x hx) (hk _ (.inr (.inr (.inr ⟨x, hx, rfl⟩)))), h.lo, h.ne, h.ap, h.al⟩
theorem Fd.lt {B bf bm : Nat} {vs : List Vb} {fs : List ByteArray} {sv : Value} {w : World} (h : Fd B bf bm vs fs sv w) : ∀ k, FP bf bm vs sv k → k < w.heap.size := by
  rintro k (rfl | rfl | e | ⟨x, hx, rfl⟩)
  · exact World.rowIs.lt h.r
  · exact h.map.lt
  · exact (h.own.lt k e).2
  · exact World.rowIs.lt (h.each x hx)
theorem Fd.ge {B bf bm : Nat} {vs : List Vb} {fs : List ByteArray} {sv : Value} {w : World} (h : Fd B bf bm vs fs sv w) : ∀ k, FP bf bm vs sv k → B ≤ k := by
  rintro k (rfl | rfl | e | ⟨x, hx, rfl⟩)
  · exact h.lo.1
  · exact h.lo.2.1
  · exact (h.own.lt k e).1
  · exact h.lo.2.2 x hx
theorem Fd.below {B bf bm : Nat} {vs : List Vb} {fs : List ByteArray} {sv : Value} {w w' : World} (h : Fd B bf bm vs fs sv w) (hb : Below w.heap.size w w') : Fd B bf bm vs fs sv w' := h.keep (fun k hk => hb.block k (h.lt k hk))
theorem nodup_map_inj {α β : Type} {f : α → β} : ∀ {l : List α}, (l.map f).Nodup → ∀ {x y : α}, x ∈ l → y ∈ l → f x = f y → x = y
  | [], _, x, y, hx, _, _ => by cases hx
  | a :: l, h, x, y, hx, hy, e => by
    rw [List.map_cons, List.nodup_cons] at h
    rcases List.mem_cons.1 hx with hx1 | hx1
    · rcases List.mem_cons.1 hy with hy1 | hy1
      · rw [hx1, hy1]
      · exact absurd (List.mem_map.2 ⟨y, hy1, by rw [← e, hx1]⟩) h.1
    · rcases List.mem_cons.1 hy with hy1 | hy1
      · exact absurd (List.mem_map.2 ⟨x, hx1, by rw [e, hy1]⟩) h.1
      · exact nodup_map_inj h.2 hx1 hy1 e
theorem seekV_some {vs : List Vb} {n : ByteArray} {x : Vb} (h : seekV vs n = some x) : x ∈ vs ∧ x.v = n := ⟨List.mem_of_find?_eq_some h, by simpa using List.find?_some h⟩
theorem seekV_none {vs : List Vb} {n : ByteArray} (h : seekV vs n = none) : ∀ x ∈ vs, x.v ≠ n := fun x hx => by simpa using List.find?_eq_none.1 h x hx
theorem Fd.new {B bf bm : Nat} {vs : List Vb} {fs : List ByteArray} {sv : Value} {w : World} (h : Fd B bf bm vs fs sv w) {n : ByteArray} (hn : ∀ x ∈ vs, x.v ≠ n) : inB fs n = false := by
  cases hq : inB fs n with
  | false => rfl
  | true =>
    obtain ⟨x, hx, e⟩ := h.al n (inB_iff.1 hq)
    exact absurd e (hn x hx)
/-- a variable more -/
theorem Fd.more {B bf bm : Nat} {vs : List Vb} {fs : List ByteArray} {sv : Value} {w w2 : World} {n : ByteArray} (h : Fd B bf bm vs fs sv w) (hB : B ≤ w.heap.size) (hn : ∀ x ∈ vs, x.v ≠ n)
    (hm : MapV w2 bm (vs ++ [⟨n, w.heap.size⟩])) (ht : (w.alloc (.cells #[.string n, .bool false] 167)).mapTurned w2 bm) :
    Fd B bf bm (vs ++ [⟨n, w.heap.size⟩]) fs sv w2 ∧ Tz (fun k => k = bm) w w2 := by
  have gr := ht.grown
  have hA := belowA (w := w) (.cells #[.string n, .bool false] 167)
  have hsz : (w.alloc (.cells #[.string n, .bool false] 167)).heap.size = w.heap.size + 1 := by simp
  have hbm := h.map.lt
  have hkeep : ∀ k, k < w.heap.size → k ≠ bm → w2.heap[k]? = w.heap[k]? := fun k hk hne => by
    rw [gr.block k (by rw [hsz]; omega) (fun e => hne (Option.some.inj e)), hA.block k hk]
  have hnew : RL w2 w.heap.size 167 [.string n, .bool (inB fs n)] := by
    rw [h.new hn]
    exact World.rowIs.of_block (rl_new w #[.string n, .bool false] 167) (gr.block _ (by rw [hsz]; omega) (fun e => by have := Option.some.inj e; omega))
  have hlt := h.lt
  refine ⟨⟨World.rowIs.of_block h.r (hkeep _ (hlt _ (.inl rfl)) h.ne.1), own_of_block h.own (fun g hg => hkeep g (h.own.lt g hg).2 (h.ap g hg).2.1), hm, ?_, ?_, ?_, ⟨h.lo.1, h.lo.2.1, ?_⟩, ⟨h.ne.1, ?_⟩, ?_, ?_⟩, ?_⟩
  · rw [List.map_append, List.nodup_append]
    refine ⟨h.nd, by simp, fun a ha b hb => ?_⟩
    obtain ⟨x, hx, rfl⟩ := List.mem_map.1 ha
    simp only [List.map_cons, List.map_nil, List.mem_singleton] at hb
    rw [hb]
    exact hn x hx
  · rw [List.map_append, List.nodup_append]
    refine ⟨h.bd, by simp, fun a ha b hb => ?_⟩
    obtain ⟨x, hx, rfl⟩ := List.mem_map.1 ha
    simp only [List.map_cons, List.map_nil, List.mem_singleton] at hb
    rw [hb]
    have := hlt x.b (.inr (.inr (.inr ⟨x, hx, rfl⟩)))
    omega
  · intro x hx
    rcases List.mem_append.1 hx with hx | hx
    · exact World.rowIs.of_block (h.each x hx) (hkeep _ (hlt x.b (.inr (.inr (.inr ⟨x, hx, rfl⟩)))) (h.ne.2 x hx).2)
    · rw [List.mem_singleton.1 hx]
      exact hnew
  · intro x hx
    rcases List.mem_append.1 hx with hx | hx
    · exact h.lo.2.2 x hx
    · rw [List.mem_singleton.1 hx]; exact hB
  · intro x hx
    rcases List.mem_append.1 hx with hx | hx
    · exact h.ne.2 x hx
    · rw [List.mem_singleton.1 hx]
      have := hlt bf (.inl rfl)
      exact ⟨by show w.heap.size ≠ bf; omega, by show w.heap.size ≠ bm; omega⟩
  · intro g hg
    refine ⟨(h.ap g hg).1, (h.ap g hg).2.1, fun x hx => ?_⟩
    rcases List.mem_append.1 hx with hx | hx
    · exact (h.ap g hg).2.2 x hx
    · rw [List.mem_singleton.1 hx]
      have := (h.own.lt g hg).2
      show g ≠ w.heap.size
      omega
  · intro m hm
    obtain ⟨x, hx, e⟩ := h.al m hm
    exact ⟨x, List.mem_append.2 (.inl hx), e⟩
  · obtain ⟨es, c, es', c', hb, rfl⟩ := ht
    exact ⟨rfl, rfl, rfl, by have := gr.size; rw [hsz] at this; omega, fun b hb he => hkeep b hb he⟩
/-- one found more -/
theorem Fd.found {B bf bm : Nat} {vs : List Vb} {fs : List ByteArray} {sv sv' : Value} {w w3 Y : World} {x : Vb} (h : Fd B bf bm vs fs sv w) (hx : x ∈ vs) (hf : inB fs x.v = false) (hY : Below (w.setCell ⟨x.b, 1, none⟩ (.bool true)).heap.size (w.setCell ⟨x.b, 1, none⟩ (.bool true)) Y)
    (hown' : w3.ownsRow B 9 1 sv' (fs.length + 1) (fs.flatMap strB ++ [.string x.v])) (hgrow : Y.grownBy w3 sv.ownBlock) (hloc : sv'.ownBlock = sv.ownBlock ∨ sv'.ownBlock = some Y.heap.size) :
    Fd B bf bm vs (fs ++ [x.v]) sv' (w3.setCell ⟨bf, 1, none⟩ sv') ∧ Tz (FP bf bm vs sv) w (w3.setCell ⟨bf, 1, none⟩ sv') ∧ (∀ g, sv'.ownBlock = some g → sv.ownBlock = some g ∨ w.heap.size ≤ g) := by
  have hlt := h.lt
  have hxb := hlt x.b (.inr (.inr (.inr ⟨x, hx, rfl⟩)))
  have hbf := hlt bf (.inl rfl)
  have hsz : w.heap.size ≤ Y.heap.size := by have := hY.size; simpa using this
  have hz3 : w.heap.size ≤ w3.heap.size := Nat.le_trans hsz hgrow.size
  have k3 : ∀ k, k < w.heap.size → k ≠ x.b → some k ≠ sv.ownBlock → w3.heap[k]? = w.heap[k]? := fun k hk hne hn => by
    rw [hgrow.block k (by omega) hn, hY.block k (by simpa using hk)]
    exact heap_setCell_other _ _ _ _ (by show k ≠ x.b; exact hne)
  have hnx : some x.b ≠ sv.ownBlock := fun e => (h.ap x.b e.symm).2.2 x hx rfl
  have kx : w3.heap[x.b]? = (w.setCell ⟨x.b, 1, none⟩ (.bool true)).heap[x.b]? := by
    rw [hgrow.block x.b (by omega) hnx, hY.block x.b (by simpa using hxb)]
  have hrx : RL w3 x.b 167 [.string x.v, .bool true] := World.rowIs.of_block ((h.each x hx).set 1 (.bool true)) kx
  have hnbf : some bf ≠ sv.ownBlock := fun e => (h.ap bf e.symm).1 rfl
  have hxf : x.b ≠ bf := (h.ne.2 x hx).1
  have hrf : RL w3 bf 141 [.map (some bm), sv] := World.rowIs.of_block h.r (k3 bf hbf (Ne.symm hxf) hnbf)
  have hnew : ∀ g, sv'.ownBlock = some g → sv.ownBlock = some g ∨ w.heap.size ≤ g := fun g hg => by
    rcases hloc with e | e
    · exact .inl (by rw [← e]; exact hg)
    · rw [e] at hg
      have := Option.some.inj hg
      exact .inr (by omega)
  have hap : ∀ g, sv'.ownBlock = some g → g ≠ bf ∧ g ≠ bm ∧ ∀ y ∈ vs, g ≠ y.b := fun g hg => by
    rcases hnew g hg with e | e
    · exact h.ap g e
    · refine ⟨by omega, by have := h.map.lt; omega, fun y hy => by have := hlt y.b (.inr (.inr (.inr ⟨y, hy, rfl⟩))); omega⟩
  have kf : ∀ k, k ≠ bf → (w3.setCell ⟨bf, 1, none⟩ sv').heap[k]? = w3.heap[k]? := fun k hk => heap_setCell_other _ _ _ _ (by show k ≠ bf; exact hk)
  refine ⟨⟨hrf.set 1 sv', ?_, ?_, h.nd, h.bd, ?_, h.lo, h.ne, hap, ?_⟩, ?_, hnew⟩
  · have e1 : (fs ++ [x.v]).length = fs.length + 1 := by simp
    have e2 : (fs ++ [x.v]).flatMap strB = fs.flatMap strB ++ [.string x.v] := by rw [List.flatMap_append]; rfl
    rw [e1, e2]
    exact own_of_block hown' (fun g hg => kf g (hap g hg).1)
  · have hnm : some bm ≠ sv.ownBlock := fun e => (h.ap bm e.symm).2.1 rfl
    refine h.map.of_block ?_
    rw [kf bm (Ne.symm h.ne.1)]
    exact k3 bm h.map.lt (Ne.symm (h.ne.2 x hx).2) hnm
  · intro y hy
    by_cases e : y = x
    · subst e
      have : inB (fs ++ [y.v]) y.v = true := inB_iff.2 (by simp)
      rw [this]
      exact World.rowIs.of_block hrx (kf y.b hxf)
    · have hyv : y.v ≠ x.v := fun ev => e (nodup_map_inj h.nd hy hx ev)
      have hyb : y.b ≠ x.b := fun ev => e (nodup_map_inj h.bd hy hx ev)
      have e2 : inB (fs ++ [x.v]) y.v = inB fs y.v := by
        cases hq : inB fs y.v with
        | true => exact inB_iff.2 (List.mem_append.2 (.inl (inB_iff.1 hq)))
        | false =>
          rw [← Bool.not_eq_true]
          intro hc
          rcases List.mem_append.1 (inB_iff.1 hc) with hc | hc
          · rw [inB_iff.2 hc] at hq; cases hq
          · exact hyv (List.mem_singleton.1 hc)
      rw [e2]
      refine World.rowIs.of_block (h.each y hy) ?_
      rw [kf y.b (h.ne.2 y hy).1]
      exact k3 y.b (hlt y.b (.inr (.inr (.inr ⟨y, hy, rfl⟩)))) hyb (fun ev => (h.ap y.b ev.symm).2.2 y hy rfl)
  · intro n hn
    rcases List.mem_append.1 hn with hn | hn
    · exact h.al n hn
    · rw [List.mem_singleton.1 hn]; exact ⟨x, hx, rfl⟩
  · refine ⟨hgrow.os.trans hY.os, hgrow.tape.trans hY.tape, hgrow.output.trans hY.output, by simp only [World.size_setCell]; omega, fun b hb he => ?_⟩
    rw [kf b (fun e => he (.inl e))]
    exact k3 b hb (fun e => he (.inr (.inr (.inr ⟨x, hx, e.symm⟩)))) (fun e => he (.inr (.inr (.inl e.symm))))
set_option maxHeartbeats 1600000 in
theorem variable_any {B bf bm : Nat} {vs : List Vb} {fs : List ByteArray} {sv : Value} {w : World} (h : Fd B bf bm vs fs sv w) (hB : B ≤ w.heap.size) (n : ByteArray) (hn : n.size ≤ maxLen) :
    Calls Tryd.prog 61 #[.pointer (some ⟨bf, 0, none⟩), .string n] w fun e w' => ∃ vs' x, e = .returned (ptrV x) ∧ x ∈ vs' ∧ x.v = n ∧ (∃ m, vs' = vs ++ m ∧ ∀ y ∈ m, w.heap.size ≤ y.b ∧ y.v = n) ∧ Fd B bf bm vs' fs sv w' ∧ Tz (fun k => k = bm) w w' := by
  have c0 := h.r.at (j := 0) rfl
  have HL := h.map.look h.nd hn
  have HH := Lib.hid h
  cases hs : seekV vs n with
  | some x =>
    obtain ⟨hx, hv⟩ := seekV_some hs
    have e1 : lookV vs n = .pointer (some ⟨x.b, 0, none⟩) := by unfold lookV; rw [hs]; rfl
    rw [e1] at HL
    have HX : Hid (x ∈ vs ∧ x.v = n) := ⟨hx, hv⟩
    clear hs hx hv e1 h
    go_enter Tryd.func61, Tryd.ntmps61
    go_wp2
    go_ret
    exact ⟨vs, x, rfl, HX.out.1, HX.out.2, ⟨[], by simp, fun y hy => by cases hy⟩, HH.out, Tz.refl _ _⟩
  | none =>
    have e1 : lookV vs n = .pointer none := by unfold lookV; rw [hs]
    rw [e1] at HL
    have hno := seekV_none hs
    have hA := belowA (w := w) (.cells #[.string n, .bool false] 167)
    obtain ⟨w2, hrun, hm2, ht2⟩ := (h.map.of_block (hA.block _ h.map.lt)).put (p := ⟨n, w.heap.size⟩) hn hno
    have HM := Lib.hid (h.more hB hno hm2 ht2)
    have c0' : (w.alloc (.cells #[.string n, .bool false] 167)).cell? ⟨bf, 0, none⟩ = some (.map (some bm)) := (h.r.below hA).at (j := 0) rfl
    unfold ptrV at hrun
    simp only at hrun
    clear hs hno e1 h hm2 ht2 hA
    go_enter Tryd.func61, Tryd.ntmps61
    go_wp2
    go_ret
    exact ⟨vs ++ [⟨n, w.heap.size⟩], ⟨n, w.heap.size⟩, rfl, List.mem_append.2 (.inr (List.mem_singleton.2 rfl)), rfl, ⟨[⟨n, w.heap.size⟩], rfl, fun y hy => by rw [List.mem_singleton.1 hy]; exact ⟨Nat.le_refl _, rfl⟩⟩, HM.out.1, HM.out.2⟩
set_option maxHeartbeats 3200000 in
theorem find_any {B bf bm : Nat} {vs : List Vb} {fs : List ByteArray} {sv : Value} {w : World} (h : Fd B bf bm vs fs sv w) (hB : B ≤ w.heap.size) (x : Vb) (hx : x ∈ vs) (hl : fs.length ≤ 1000000000) :
    Calls Tryd.prog 60 #[.pointer (some ⟨bf, 0, none⟩), .pointer (some ⟨x.b, 0, none⟩)] w fun e w' => (∃ u, e = .returned u) ∧ ∃ sv', Fd B bf bm vs (addN fs x.v) sv' w' ∧ Tz (FP bf bm vs sv) w w' ∧ (∀ g, sv'.ownBlock = some g → sv.ownBlock = some g ∨ w.heap.size ≤ g) := by
  obtain ⟨i0, hi0, hz0, hz1, hz2⟩ := info_parts infoStrL
  have c1 := (h.each x hx).at (j := 1) rfl
  have HH := Lib.hid h
  cases hq : inB fs x.v
  · rw [hq] at c1
    have HAD : Hid (addN fs x.v = fs ++ [x.v]) := by show _ = _; unfold addN; rw [hq]; rfl
    have f1 := World.rowIs.frozen (h.each x hx) 1
    have HQ := Lib.hid hq
    obtain ⟨sa, sc, rfl, _⟩ := own_form h.own
    have hxf : x.b ≠ bf := (h.ne.2 x hx).1
    have hlt := h.lt
    have hxb := hlt x.b (.inr (.inr (.inr ⟨x, hx, rfl⟩)))
    have HX := Lib.hid hx
    have HRX := Lib.hid ((h.each x hx).set 1 (.bool true))
    have HRF : Hid (RL (w.setCell ⟨x.b, 1, none⟩ (.bool true)) bf 141 [.map (some bm), .slice sa fs.length sc]) := h.r.other (Ne.symm hxf) _
    have HOW : Hid ((w.setCell ⟨x.b, 1, none⟩ (.bool true)).ownsRow B 9 1 (.slice sa fs.length sc) fs.length (fs.flatMap strB)) := own_of_block h.own (fun g hg => heap_setCell_other _ _ _ _ (by show g ≠ x.b; exact (h.ap g hg).2.2 x hx))
    have HFN : Hid (∀ {w3 Y : World} {sv' : Value}, Below (w.setCell ⟨x.b, 1, none⟩ (.bool true)).heap.size (w.setCell ⟨x.b, 1, none⟩ (.bool true)) Y → w3.ownsRow B 9 1 sv' (fs.length + 1) (fs.flatMap strB ++ [.string x.v]) → Y.grownBy w3 (Value.slice sa fs.length sc).ownBlock → (sv'.ownBlock = (Value.slice sa fs.length sc).ownBlock ∨ sv'.ownBlock = some Y.heap.size) → _) := fun h0 h1 h2 h3 => HH.out.found HX.out HQ.out h0 h1 h2 h3
    have HSZ : Hid (B ≤ (w.setCell ⟨x.b, 1, none⟩ (.bool true)).heap.size) := by show _ ≤ _; simp; omega
    clear hq hx hlt h
    go_enter Tryd.func60, Tryd.ntmps60
    go_upto_region 2 with fail
    have HNB : Hid (some bf ≠ (Value.slice sa fs.length sc).ownBlock) := fun e => (HH.out.ap bf e.symm).1 rfl
    have HBL : Hid (bf < (w.setCell ⟨x.b, 1, none⟩ (.bool true)).heap.size) := by show _ < _; have := HH.out.lt bf (.inl rfl); simpa using this
    generalize w.setCell ⟨x.b, 1, none⟩ (.bool true) = W at HRX HRF HOW HFN HSZ HBL ⊢
    have n0 := HRX.out.at (j := 0) rfl
    have g1 := HRF.out.at (j := 1) rfl
    have g2 := (HRF.out.below (belowA (w := W) (.cells #[.string x.v] 9))).at (j := 1) rfl
    have HYW : Hid (Below W.heap.size W (W.alloc (.cells #[.string x.v] 9)).drew) := ((Below.refl W.heap.size W).alloc (Nat.le_refl _) _).drew
    have HOWN : Hid ((W.alloc (.cells #[.string x.v] 9)).drew.ownsRow B 9 1 (.slice sa fs.length sc) fs.length (fs.flatMap strB)) := own_below HOW.out HYW.out
    have HC : Hid (∀ (j : Nat) (u : Value), ([.string x.v] : List Value)[j]? = some u → (W.alloc (.cells #[.string x.v] 9)).drew.cell? ((⟨W.heap.size, 0, none⟩ : Addr).add j) = some u) := lit_news W #[.string x.v] 9
    have HSZ2 : Hid (B ≤ (W.alloc (.cells #[.string x.v] 9)).drew.heap.size) := by show _ ≤ _; have := HSZ.out; simp; omega
    clear f1 hxb c1
    have hst : ∀ {ops : Array Oper} {o : Oper} {aa : Act} {K : Act → World → Prop} {Q : Exit → Act → World → Prop} {E : Prop} {Y : World}, o.guard = none → o.op = Op.call { callee := Callee.builtin Builtin.append, args := #[.tmp 16, .tmp 21], argTypes := #[26, 26] } → aa.eval (.tmp 16) = .slice sa fs.length sc → aa.eval (.tmp 21) = .slice (some ⟨W.heap.size, 0, none⟩) 1 1 → Below W.heap.size W Y → Y.cell? ⟨W.heap.size, 0, none⟩ = some (.string x.v) →
        (∀ a6 c6 w3, w3.cell? ⟨bf, 1, none⟩ = some (.slice sa fs.length sc) → w3.frozen? ⟨bf, 1, none⟩ = false → Hid (Fd B bf bm vs (fs ++ [x.v]) (.slice a6 (fs.length + 1) c6) (w3.setCell ⟨bf, 1, none⟩ (.slice a6 (fs.length + 1) c6)) ∧ Tz (FP bf bm vs (.slice sa fs.length sc)) w (w3.setCell ⟨bf, 1, none⟩ (.slice a6 (fs.length + 1) c6)) ∧ (∀ g, (Value.slice a6 (fs.length + 1) c6).ownBlock = some g → (Value.slice sa fs.length sc).ownBlock = some g ∨ w.heap.size ≤ g)) → K (aa.put o.dst (.slice a6 (fs.length + 1) c6)) w3) →
        if Region.wanted o (yielded ops aa.tmps) = true then Oper.wp Tryd.prog o aa Y K Q else E := fun {ops o aa K Q E Y} hg hop h16 h21 hY hYc hK => by
      refine step_append_own hg (.tmp 16) (.tmp 21) 26 hop 9 i0 _ 1 16 Tryd.underlying26 hi0 hz0 hz1 hz2 rfl (by decide) B (.slice sa fs.length sc) fs.length _ h16 (own_below HOW.out hY) ⟨W.heap.size, 0, none⟩ 1 1 [.string x.v] h21 rfl (fun j u hj => ?_) (by simp [Value.oneCell']) (by unfold maxLen; omega) (by omega) (Nat.le_trans HSZ.out hY.size) ?_
      · match j, hj with
        | 0, hj => simp at hj; subst hj; exact hYc
      intro v' w3 hown' hgrow hloc
      have HR3 : RL w3 bf 141 [.map (some bm), .slice sa fs.length sc] := World.rowIs.of_block HRF.out ((hgrow.block bf (by have := HBL.out; have := hY.size; omega) HNB.out).trans (hY.block bf HBL.out))
      have HD := HFN.out hY hown' hgrow hloc
      obtain ⟨a6, c6, rfl, _⟩ := own_form hown'
      exact hK a6 c6 w3 (HR3.at (j := 1) rfl) (World.rowIs.frozen HR3 1) HD
    clear HOWN HC HSZ2 HFN HOW
    go_region_law (
      refine hst rfl rfl (by simp [Act.eval, Act.put]) (by simp [Act.eval, Act.put]) (by first | exact HYW.out | exact ((Below.refl W.heap.size W).drew.alloc (Nat.le_refl _) _)) (by go_simp) ?_
      intro a6 c6 w3 q1 f3 HD)
    all_goals
      go_wp2
      go_end0
      exact ⟨⟨_, rfl⟩, _, by rw [HAD.out]; exact HD.out.1, HD.out.2.1, HD.out.2.2⟩
  · rw [hq] at c1
    have HAD : Hid (addN fs x.v = fs) := by show _ = _; unfold addN; rw [hq]; rfl
    clear hq hx h
    go_enter Tryd.func60, Tryd.ntmps60
    go_wp2
    go_end0
    exact ⟨⟨_, rfl⟩, sv, by rw [HAD.out]; exact HH.out, Tz.refl _ _, fun g hg => .inl hg⟩
end Go.Proofs.YteabclfhmapabaaDoor
end
