import Derived.Test.YtgfnijhhhgjabaaGreatDoorTermHandQ
import Derived.Test.YtgfnijhhhgjabaaGreatDoorG4
section
namespace Go.Proofs.YtgfnijhhhgjabaaGreatDoor
open Go.RowKit Go.Maps
set_option linter.unusedVariables false
set_option linter.unusedSimpArgs false
attribute [local go_sem ↓] Go.wp_at_zero Go.wp_at_succ

/-- the terms of an expression, of at most so many levels, in their order -/
def termsD : Nat → E → List T
  | 0, _ => []
  | d + 1, e => e.t :: e.kids.flatMap (termsD d)
theorem termsD_succ (d : Nat) (e : E) : termsD (d + 1) e = e.t :: e.kids.flatMap (termsD d) := rfl
theorem vsT_append : ∀ (l m : List T) (ns : List ByteArray), vsT ns (l ++ m) = vsT (vsT ns l) m
  | [], m, ns => rfl
  | t :: l, m, ns => by rw [List.cons_append, vsT_step, vsT_step, vsT_append l m]
theorem flat_drop (d : Nat) {l : List E} {k : Nat} (h : k < l.length) : (l.drop k).flatMap (termsD d) = termsD d (atE l k) ++ (l.drop (k + 1)).flatMap (termsD d) := by
  rw [List.drop_eq_getElem_cons h, List.flatMap_cons, atE_eq h]
def handE (bs bo : Nat) : Value := .func (.func 74) #[] #[.pointer (some ⟨bs, 0, none⟩), .pointer (some ⟨bo, 0, none⟩)]
theorem exRule (v : Value) (w : World) : (Instr.typeAssert (.iface 152 v) 20 110 true).run Tryz.prog w = .ok (.tuple #[.pointer none, .bool false]) w := by kernel_rfl
theorem exLiteral (v : Value) (w : World) : (Instr.typeAssert (.iface 152 v) 20 162 true).run Tryz.prog w = .ok (.tuple #[.pointer none, .bool false]) w := by kernel_rfl
theorem exAtom (v : Value) (w : World) : (Instr.typeAssert (.iface 152 v) 20 151 true).run Tryz.prog w = .ok (.tuple #[.pointer none, .bool false]) w := by kernel_rfl
theorem exExpr (v : Value) (w : World) : (Instr.typeAssert (.iface 152 v) 20 152 true).run Tryz.prog w = .ok (.tuple #[v, .bool true]) w := by kernel_rfl
set_option maxHeartbeats 3200000 in
set_option maxRecDepth 100000 in
theorem walkExpr_any {B : Nat} {w0 : World} {bo bs bm : Nat} (hB : B = w0.heap.size) : ∀ (d : Nat) (ns : List ByteArray) (sv : Value) (w : World) (e : E) (a : Option Addr) (c g o : Nat), Vst B w0 bo bs bm ns sv w → g < B → XAt w0 g o e.op e.t (.slice a e.kids.length c) → EIs w0 d e a c → ns.length + (termsD d e).length ≤ 4398046511104 →
    Calls Tryz.prog 73 #[.iface 152 (.pointer (some ⟨g, o, none⟩)), handE bs bo] w fun e' w' => (∃ u, e' = .returned u) ∧ ∃ sv', Vst B w0 bo bs bm (vsT ns (termsD d e)) sv' w' := by
  intro d
  induction d with
  | zero => intro ns sv w e a c g o h hg hx hE; exact absurd hE (fun h => h)
  | succ d ih =>
  intro ns sv w e a c g o h hg hx hE hn
  obtain ⟨⟨hop, hkl⟩, htw, hc1, hc2, hk⟩ := hE
  have HK : Hid _ := hk
  have HIH : Hid _ := ih
  have HXC : Hid (∀ u, Below B w0 u → u.cell? ⟨g, o + 1, none⟩ = some (.string e.t.v) ∧ u.cell? ⟨g, o + 5, none⟩ = some (.slice a e.kids.length c)) := fun u hu => ⟨by rw [hu.cell (p := ⟨g, o + 1, none⟩) hg]; exact hx.c1, by rw [hu.cell (p := ⟨g, o + 5, none⟩) hg]; exact hx.c5⟩
  have HN : Hid _ := hn
  rw [termsD_succ] at hn ⊢
  rw [vsT_step]
  have hn1 : ns.length ≤ 4398046511104 := by simp at hn; omega
  have HH : Hid _ := hand_any h hn1 g (o + 1) e.t.v hg htw.text (HXC.out w h.bel).1
  have HLn : Hid _ := stepN_len ns e.t.v
  obtain ⟨n1, hn1'⟩ : ∃ n1, stepN ns e.t.v = n1 := ⟨_, rfl⟩
  rw [hn1'] at HH HLn ⊢
  have hsum : n1.length + (e.kids.flatMap (termsD d)).length ≤ 4398046511104 := by
    have := HLn.out
    simp only [List.length_cons] at hn
    omega
  have HSUM : Hid _ := hsum
  obtain ⟨r, HR⟩ : ∃ r, Hid (vsT n1 (e.kids.flatMap (termsD d)) = r) := ⟨_, rfl⟩
  rw [HR.out]
  have h1 := exRule (.pointer (some ⟨g, o, none⟩))
  have h2 := exLiteral (.pointer (some ⟨g, o, none⟩))
  have h3 := exAtom (.pointer (some ⟨g, o, none⟩))
  have h4 := exExpr (.pointer (some ⟨g, o, none⟩))
  clear hk ih h hx hop htw hn hn1 hn1' hsum
  unfold handE
  go_enter Tryz.func73, Tryz.ntmps73
  go_wp2_with fail
  refine Calls.mono HH.out ?_
  rintro ee w1 ⟨⟨u, rfl⟩, sv1, hv1⟩
  have HV1 : Hid _ := hv1
  have c5 := (HXC.out w1 hv1.bel).2
  clear h1 h2 h3 h4 hv1
  go_wp2
  clear c5
  go_loopw [106] (fun i wr => ∃ k : Nat, k ≤ e.kids.length ∧ i = .int .i64 k ∧ ∃ (ns' : List ByteArray) (sv' : Value), Hid (Vst B w0 bo bs bm ns' sv' wr) ∧ Hid (ns'.length + ((e.kids.drop k).flatMap (termsD d)).length ≤ 4398046511104) ∧ Hid (vsT ns' ((e.kids.drop k).flatMap (termsD d)) = r)) (fun i _ => e.kids.length - (intOf i).toNat)
  case atStart => exact ⟨0, Nat.zero_le _, rfl, n1, sv1, HV1, HSUM, HR⟩
  case round =>
    obtain ⟨k, hk, rfl, ns', sv', HV', HL', HS⟩ := hrel
    have c5 := (HXC.out wr HV'.out.bel).2
    by_cases hlt : k < e.kids.length
    · have hlt' : (k : Int) < (e.kids.length : Int) := by omega
      have hk0 : (0 : Int) ≤ (k : Int) := by omega
      obtain ⟨g', off', rfl, hg', hKS⟩ := HK.out (by omega)
      obtain ⟨a', c', hxk, hek⟩ := hKS k hlt
      have hgB : g' < B := by rw [hB]; exact hg'
      have hfd := flat_drop d hlt
      have HS2 : Hid (vsT (vsT ns' (termsD d (atE e.kids k))) ((e.kids.drop (k + 1)).flatMap (termsD d)) = r) := by
        show _ = r
        rw [← vsT_append, ← hfd]
        exact HS.out
      have hle := HL'.out
      rw [hfd, List.length_append] at hle
      have HI : Hid _ := HIH.out ns' sv' wr (atE e.kids k) a' c' g' (off' + k * 6) HV'.out hgB hxk hek (by omega)
      have HL2 : Hid ((vsT ns' (termsD d (atE e.kids k))).length + ((e.kids.drop (k + 1)).flatMap (termsD d)).length ≤ 4398046511104) := by
        show _ ≤ _
        have := vsT_len (termsD d (atE e.kids k)) ns'
        omega
      unfold handE at HI
      clear hKS hxk hek hfd hle HS HL'
      generalize vsT ns' (termsD d (atE e.kids k)) = n2 at HI HS2 HL2
      go_wp2_with fail
      refine Calls.mono HI.out ?_
      rintro ee w2 ⟨⟨u, rfl⟩, sv2, hv2⟩
      go_wp2
      go_roundw
      case rel => exact ⟨k + 1, by omega, by go_num, n2, sv2, hv2, HL2, HS2⟩
      case measure => simp [intOf]; omega
    · obtain rfl : k = e.kids.length := by omega
      have HV2 : Hid (ns' = r) := by show ns' = r; rw [← HS.out, List.drop_length]; simp [vsT]
      go_wp2
      go_end0
      rw [← HV2.out]
      exact ⟨⟨_, rfl⟩, _, HV'.out⟩
end Go.Proofs.YtgfnijhhhgjabaaGreatDoor
end
section
namespace Go.Proofs.YtgfnijhhhgjabaaGreatDoor
open Go.RowKit Go.Maps
set_option linter.unusedVariables false
set_option linter.unusedSimpArgs false

/-! the mathematics of Limited (P7.2): names, equations' sides, rounds -/
/-- a name more, if it is not there -/
def addN (out : List ByteArray) (n : ByteArray) : List ByteArray := if inB out n = true then out else out ++ [n]
/-- a side of an equation: the variable that it is, and its variables -/
structure Sd where
  lone : Option ByteArray
  vars : List ByteArray
abbrev Qn := Sd × Sd
/-- what a side gives -/
def givesO (v : Option ByteArray) (o fs : List ByteArray) : Option ByteArray := match v with
  | some v => if (!inB fs v && o.all (inB fs)) = true then some v else none
  | none => none
def gaveO (fs : List ByteArray) (q : Qn) : Option ByteArray := match givesO q.1.lone q.2.vars fs with
  | some v => some v
  | none => givesO q.2.lone q.1.vars fs
def stepQ (fs : List ByteArray) (q : Qn) : List ByteArray := match gaveO fs q with
  | some v => fs ++ [v]
  | none => fs
def rndQ (qs : List Qn) (fs : List ByteArray) : List ByteArray := qs.foldl stepQ fs
/-- a round of the program: what is found, what is left over -/
def progR : List Qn → List ByteArray → List ByteArray × List Qn
  | [], fs => (fs, [])
  | q :: ws, fs => match gaveO fs q with
    | some v => progR ws (fs ++ [v])
    | none => ((progR ws fs).1, q :: (progR ws fs).2)
/-- an equation that gives nothing any more -/
structure Spent (fs : List ByteArray) (q : Qn) : Prop where
  l : ∀ v, q.1.lone = some v → v ∈ fs
  r : ∀ v, q.2.lone = some v → v ∈ fs
/-- a lone variable is one of its side's -/
structure OkQ (q : Qn) : Prop where
  l : ∀ v, q.1.lone = some v → v ∈ q.1.vars
  r : ∀ v, q.2.lone = some v → v ∈ q.2.vars
theorem Spent.mono {fs fs' : List ByteArray} {q : Qn} (h : Spent fs q) (hs : ∀ x ∈ fs, x ∈ fs') : Spent fs' q := ⟨fun v hv => hs v (h.l v hv), fun v hv => hs v (h.r v hv)⟩
theorem givesO_some {v : Option ByteArray} {o fs : List ByteArray} {x : ByteArray} (h : givesO v o fs = some x) : v = some x ∧ ¬ x ∈ fs ∧ ∀ y ∈ o, y ∈ fs := by
  unfold givesO at h
  cases v with
  | none => cases h
  | some v =>
    simp only at h
    split at h
    · rename_i hc
      injection h with h
      subst h
      rw [Bool.and_eq_true, Bool.not_eq_true'] at hc
      exact ⟨rfl, fun k => (by rw [inB_iff.2 k] at hc; cases hc.1), fun y hy => inB_iff.1 (List.all_eq_true.1 hc.2 y hy)⟩
    · cases h
theorem givesO_in {v : Option ByteArray} {o fs : List ByteArray} (h : ∀ x, v = some x → x ∈ fs) : givesO v o fs = none := by
  unfold givesO
  cases v with
  | none => rfl
  | some v =>
    simp only
    rw [if_neg (by rw [inB_iff.2 (h v rfl)]; simp)]
theorem Spent.no {fs : List ByteArray} {q : Qn} (h : Spent fs q) : gaveO fs q = none := by
  unfold gaveO
  rw [givesO_in h.l]
  exact givesO_in h.r
theorem gave_spent {fs : List ByteArray} {q : Qn} {v : ByteArray} (hq : OkQ q) (h : gaveO fs q = some v) : Spent (fs ++ [v]) q := by
  unfold gaveO at h
  cases h1 : givesO q.1.lone q.2.vars fs with
  | some x =>
    rw [h1] at h
    injection h with h
    subst h
    obtain ⟨e1, _, e3⟩ := givesO_some h1
    exact ⟨fun y hy => by rw [e1] at hy; injection hy with hy; simp [hy], fun y hy => List.mem_append.2 (.inl (e3 y (hq.r y hy)))⟩
  | none =>
    rw [h1] at h
    obtain ⟨e1, _, e3⟩ := givesO_some h
    exact ⟨fun y hy => List.mem_append.2 (.inl (e3 y (hq.l y hy))), fun y hy => by rw [e1] at hy; injection hy with hy; simp [hy]⟩
theorem gave_new {fs : List ByteArray} {q : Qn} {v : ByteArray} (h : gaveO fs q = some v) : ¬ v ∈ fs ∧ (q.1.lone = some v ∨ q.2.lone = some v) := by
  unfold gaveO at h
  cases h1 : givesO q.1.lone q.2.vars fs with
  | some x =>
    rw [h1] at h
    injection h with h
    subst h
    exact ⟨(givesO_some h1).2.1, .inl (givesO_some h1).1⟩
  | none =>
    rw [h1] at h
    exact ⟨(givesO_some h).2.1, .inr (givesO_some h).1⟩
/-- what waits, among all equations: the others give nothing any more -/
inductive Wt (fs : List ByteArray) : List Qn → List Qn → Prop where
  | nil : Wt fs [] []
  | keep (q : Qn) {qa ws : List Qn} : Wt fs qa ws → Wt fs (q :: qa) (q :: ws)
  | skip (q : Qn) {qa ws : List Qn} : Spent fs q → Wt fs qa ws → Wt fs (q :: qa) ws
theorem Wt.all (fs : List ByteArray) : ∀ l, Wt fs l l
  | [] => .nil
  | q :: l => .keep q (Wt.all fs l)
theorem Wt.mono {fs fs' : List ByteArray} (hs : ∀ x ∈ fs, x ∈ fs') {qa ws : List Qn} (h : Wt fs qa ws) : Wt fs' qa ws := by
  induction h with
  | nil => exact .nil
  | keep q _ ih => exact .keep q ih
  | skip q hq _ ih => exact .skip q (hq.mono hs) ih
theorem progR_sub : ∀ (ws : List Qn) (fs : List ByteArray), ∀ x ∈ fs, x ∈ (progR ws fs).1
  | [], fs, x, hx => hx
  | q :: ws, fs, x, hx => by
    unfold progR
    cases h : gaveO fs q with
    | some v => exact progR_sub ws _ x (List.mem_append.2 (.inl hx))
    | none => exact progR_sub ws fs x hx
theorem Wt.round : ∀ (qa ws : List Qn) (fs : List ByteArray), (∀ q ∈ qa, OkQ q) → Wt fs qa ws → rndQ qa fs = (progR ws fs).1 ∧ Wt (progR ws fs).1 qa (progR ws fs).2
  | [], ws, fs, _, h => by cases h; exact ⟨rfl, .nil⟩
  | q :: qa, ws, fs, hok, h => by
    have hok' : ∀ x ∈ qa, OkQ x := fun x hx => hok x (List.mem_cons_of_mem _ hx)
    show rndQ qa (stepQ fs q) = _ ∧ _
    cases h with
    | @keep _ _ ws' h' =>
      cases hg : gaveO fs q with
      | none =>
        have e1 : stepQ fs q = fs := by unfold stepQ; rw [hg]
        have e2 : progR (q :: ws') fs = ((progR ws' fs).1, q :: (progR ws' fs).2) := by rw [progR, hg]
        rw [e1, e2]
        obtain ⟨h1, h2⟩ := Wt.round qa ws' fs hok' h'
        exact ⟨h1, .keep q h2⟩
      | some v =>
        have e1 : stepQ fs q = fs ++ [v] := by unfold stepQ; rw [hg]
        have e2 : progR (q :: ws') fs = progR ws' (fs ++ [v]) := by rw [progR, hg]
        rw [e1, e2]
        obtain ⟨h1, h2⟩ := Wt.round qa ws' (fs ++ [v]) hok' (h'.mono (fun x hx => List.mem_append.2 (.inl hx)))
        exact ⟨h1, .skip q ((gave_spent (hok q List.mem_cons_self) hg).mono (progR_sub ws' _)) h2⟩
    | skip _ hs h' =>
      have e1 : stepQ fs q = fs := by unfold stepQ; rw [hs.no]
      rw [e1]
      obtain ⟨h1, h2⟩ := Wt.round qa ws fs hok' h'
      exact ⟨h1, .skip q (hs.mono (progR_sub ws fs)) h2⟩
theorem progR_len : ∀ (ws : List Qn) (fs : List ByteArray), (progR ws fs).2.length ≤ ws.length ∧ ((progR ws fs).2.length = ws.length → (progR ws fs).1 = fs)
  | [], fs => ⟨Nat.le_refl _, fun _ => rfl⟩
  | q :: ws, fs => by
    unfold progR
    cases h : gaveO fs q with
    | some v =>
      obtain ⟨h1, h2⟩ := progR_len ws (fs ++ [v])
      simp only [List.length_cons]
      exact ⟨by omega, fun e => by omega⟩
    | none =>
      obtain ⟨h1, h2⟩ := progR_len ws fs
      simp only [List.length_cons]
      exact ⟨by omega, fun e => h2 (by omega)⟩
theorem rndQ_grow : ∀ (qs : List Qn) (fs : List ByteArray), ∃ more, rndQ qs fs = fs ++ more
  | [], fs => ⟨[], by simp [rndQ]⟩
  | q :: qs, fs => by
    obtain ⟨m, hm⟩ := rndQ_grow qs (stepQ fs q)
    show ∃ more, rndQ qs (stepQ fs q) = _
    unfold stepQ at hm ⊢
    cases h : gaveO fs q with
    | some v => rw [h] at hm; exact ⟨[v] ++ m, by rw [← List.append_assoc]; exact hm⟩
    | none => rw [h] at hm; exact ⟨m, hm⟩
theorem rndQ_still {qs : List Qn} {fs : List ByteArray} (h : (rndQ qs fs).length = fs.length) : rndQ qs fs = fs := by
  obtain ⟨m, hm⟩ := rndQ_grow qs fs
  rw [hm, List.length_append] at h
  rw [hm, List.length_eq_zero_iff.1 (show m.length = 0 by omega), List.append_nil]
/-- what is found in k rounds -/
def itQ (qs : List Qn) : Nat → List ByteArray → List ByteArray
  | 0, fs => fs
  | k + 1, fs => itQ qs k (rndQ qs fs)
theorem itQ_succ (qs : List Qn) : ∀ (k : Nat) (fs : List ByteArray), itQ qs (k + 1) fs = rndQ qs (itQ qs k fs)
  | 0, fs => rfl
  | k + 1, fs => itQ_succ qs k (rndQ qs fs)
theorem itQ_still (qs : List Qn) : ∀ (k : Nat) (fs : List ByteArray), rndQ qs fs = fs → itQ qs k fs = fs
  | 0, fs, _ => rfl
  | k + 1, fs, h => by rw [itQ, h]; exact itQ_still qs k fs h
theorem itQ_add (qs : List Qn) : ∀ (j k : Nat) (fs : List ByteArray), itQ qs (j + k) fs = itQ qs k (itQ qs j fs)
  | 0, k, fs => by rw [Nat.zero_add]; rfl
  | j + 1, k, fs => by rw [show j + 1 + k = (j + k) + 1 by omega, itQ, itQ_add qs j k]; rfl
/-- where the rounds stand still is one place -/
theorem itQ_one {qs : List Qn} {fs : List ByteArray} {j k : Nat} (hj : rndQ qs (itQ qs j fs) = itQ qs j fs) (hk : rndQ qs (itQ qs k fs) = itQ qs k fs) : itQ qs j fs = itQ qs k fs := by
  rcases Nat.le_total j k with h | h
  · obtain ⟨m, rfl⟩ := Nat.exists_eq_add_of_le h
    rw [itQ_add, itQ_still qs m _ hj]
  · obtain ⟨m, rfl⟩ := Nat.exists_eq_add_of_le h
    rw [itQ_add, itQ_still qs m _ hk]
/-- names that may be found: lone ones -/
def loneL (qs : List Qn) : List ByteArray := qs.flatMap fun q => q.1.lone.toList ++ q.2.lone.toList
theorem addN_nodup {out : List ByteArray} (h : out.Nodup) (n : ByteArray) : (addN out n).Nodup := by
  unfold addN
  split
  · exact h
  · rename_i hc
    rw [List.nodup_append]
    refine ⟨h, by simp, fun a ha b hb => ?_⟩
    rw [List.mem_singleton.1 hb]
    rintro rfl
    exact hc (inB_iff.2 ha)
theorem foldN_nodup : ∀ (l out : List ByteArray), out.Nodup → (l.foldl addN out).Nodup
  | [], out, h => h
  | n :: l, out, h => foldN_nodup l _ (addN_nodup h n)
theorem rndQ_nodup : ∀ (qs : List Qn) (fs : List ByteArray), fs.Nodup → (rndQ qs fs).Nodup
  | [], fs, h => h
  | q :: qs, fs, h => by
    show (rndQ qs (stepQ fs q)).Nodup
    refine rndQ_nodup qs _ ?_
    unfold stepQ
    cases hg : gaveO fs q with
    | none => exact h
    | some v =>
      rw [List.nodup_append]
      refine ⟨h, by simp, fun a ha b hb => ?_⟩
      rw [List.mem_singleton.1 hb]
      rintro rfl
      exact (gave_new hg).1 ha
theorem rndQ_in : ∀ (qs : List Qn) (fs all : List ByteArray), (∀ x ∈ fs, x ∈ all) → (∀ x ∈ loneL qs, x ∈ all) → ∀ x ∈ rndQ qs fs, x ∈ all
  | [], fs, all, h, _, x, hx => h x hx
  | q :: qs, fs, all, h, h2, x, hx => by
    refine rndQ_in qs (stepQ fs q) all (fun y hy => ?_) (fun y hy => h2 y (by unfold loneL; rw [List.flatMap_cons]; exact List.mem_append.2 (.inr hy))) x hx
    unfold stepQ at hy
    cases hg : gaveO fs q with
    | none => rw [hg] at hy; exact h y hy
    | some v =>
      rw [hg] at hy
      rcases List.mem_append.1 hy with hy | hy
      · exact h y hy
      · rw [List.mem_singleton.1 hy]
        refine h2 v ?_
        unfold loneL
        rw [List.flatMap_cons]
        refine List.mem_append.2 (.inl ?_)
        rcases (gave_new hg).2 with k | k
        · rw [k]; simp
        · rw [k]; simp
theorem nodupN_le : ∀ (l m : List ByteArray), l.Nodup → (∀ x ∈ l, x ∈ m) → l.length ≤ m.length
  | [], m, _, _ => Nat.zero_le _
  | x :: l, m, h, hm => by
    rw [List.nodup_cons] at h
    have hx : x ∈ m := hm x List.mem_cons_self
    have hlt : (m.filter (fun y => decide (y ≠ x))).length < m.length := by
      rw [List.length_filter_lt_length_iff_exists]
      exact ⟨x, hx, by simp⟩
    have := nodupN_le l (m.filter (fun y => decide (y ≠ x))) h.2 (fun y hy => by
      rw [List.mem_filter]
      exact ⟨hm y (List.mem_cons_of_mem _ hy), decide_eq_true (fun e => h.1 (e ▸ hy))⟩)
    rw [List.length_cons]
    omega
/-- a side, of an expression of at most d levels -/
def sdE (d : Nat) (e : E) : Sd := ⟨if e.op = 0 ∧ e.kids.length = 0 then (vsT [] (termsD d e)).head? else none, vsT [] (termsD d e)⟩
theorem vsT_leaf {d : Nat} {e : E} (h : e.kids.length = 0) : vsT [] (termsD (d + 1) e) = if e.t.v = noS ∨ e.t.v = blankS then [] else [e.t.v] := by
  rw [termsD_succ, List.length_eq_zero_iff.1 h]
  show vsT [] [e.t] = _
  unfold vsT
  by_cases hc : e.t.v = noS ∨ e.t.v = blankS
  · rw [if_pos hc, if_pos (by rcases hc with k | k; exact .inl k; exact .inr (.inl k))]
    rfl
  · rw [if_neg hc, if_neg (by
      rintro (k | k | k)
      · exact hc (.inl k)
      · exact hc (.inr k)
      · cases k)]
    rfl
theorem sd_ok (d : Nat) (e : E) : ∀ v, (sdE d e).lone = some v → v ∈ (sdE d e).vars := by
  intro v hv
  unfold sdE at hv ⊢
  simp only at hv ⊢
  split at hv
  · exact List.mem_of_mem_head? hv
  · cases hv
end Go.Proofs.YtgfnijhhhgjabaaGreatDoor
end
