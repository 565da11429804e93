import Derived.Test.YteabclfhmapabaaDoorA0
import Derived.Deep.OwnRows
import Derived.Deep.QuietTactic
import Derived.BigQuiet
import Derived.Maps.AppendAt
import Derived.OwnWalk
import Derived.Deep.RegionLaw
import Derived.Laws.OwnMore
import Derived.Laws.BytesString
import Derived.Laws.Cells
import Derived.Lib.UnsafeStr
section
namespace Go.Proofs.YteabclfhmapabaaDoor
open Go.RowKit
set_option linter.unusedVariables false
set_option linter.unusedSimpArgs false

/-- cells in memory, from a place on -/
def Flat (w : World) (g off : Nat) (xs : List Value) : Prop := ∀ i (h : i < xs.length), w.cell? ⟨g, off + i, none⟩ = some xs[i]
/-- a list of n elements whose cells are xs -/
def Ls (w : World) (v : Value) (n : Nat) (xs : List Value) : Prop :=
  n ≤ maxLen ∧ ∃ a c, v = .slice a n c ∧ n ≤ c ∧ c ≤ maxLen ∧ (0 < n → ∃ g off, a = some ⟨g, off, none⟩ ∧ g < w.heap.size ∧ Flat w g off xs)
theorem Ls.below {w w' : World} {v : Value} {n : Nat} {xs : List Value} (l : Ls w v n xs) (h : Below w.heap.size w w') : Ls w' v n xs := by
  obtain ⟨hn, a, c, hv, h1, h2, hc⟩ := l
  refine ⟨hn, a, c, hv, h1, h2, fun h0 => ?_⟩
  obtain ⟨g, off, ha, hg, hf⟩ := hc h0
  exact ⟨g, off, ha, Nat.lt_of_lt_of_le hg h.size, fun i hi => by rw [h.cell (p := ⟨g, off + i, none⟩) hg]; exact hf i hi⟩

theorem flat_len {α : Type} (f : α → List Value) (k : Nat) (hk : ∀ x, (f x).length = k) : ∀ l : List α, (l.flatMap f).length = l.length * k
  | [] => by simp
  | x :: r => by rw [List.flatMap_cons, List.length_append, hk, flat_len f k hk r, List.length_cons, Nat.succ_mul]; omega
theorem flat_at {α : Type} (f : α → List Value) (k : Nat) (hk : ∀ x, (f x).length = k) (d : α) : ∀ (l : List α) (i j : Nat), i < l.length → j < k → (l.flatMap f)[i * k + j]? = (f (l.getD i d))[j]?
  | [], i, j, h, _ => absurd h (by simp)
  | x :: r, 0, j, _, hj => by
    rw [List.flatMap_cons, Nat.zero_mul, Nat.zero_add, List.getElem?_append_left (by rw [hk]; exact hj)]
    rfl
  | x :: r, i + 1, j, h, hj => by
    have := flat_at f k hk d r i j (by simpa using h) hj
    rw [List.flatMap_cons, List.getElem?_append_right (by rw [hk, Nat.succ_mul]; omega), hk, show (i + 1) * k + j - k = i * k + j by rw [Nat.succ_mul]; omega, this]
    simp [List.getD]
theorem Flat.elem {w : World} {g off : Nat} {α : Type} {f : α → List Value} {k : Nat} (hk : ∀ x, (f x).length = k) {l : List α} (h : Flat w g off (l.flatMap f)) (d : α) {i j : Nat} (hi : i < l.length) (hj : j < k) {u : Value} (hu : (f (l.getD i d))[j]? = some u) : w.cell? ⟨g, off + (i * k + j), none⟩ = some u := by
  have h1 := flat_at f k hk d l i j hi hj
  rw [hu] at h1
  obtain ⟨h2, h3⟩ := List.getElem?_eq_some_iff.1 h1
  rw [h _ h2, h3]

structure V.wf (v : V) : Prop where
  kind : (Lit.int .i8 v.k).wf = true
  num : (Lit.int .i64 v.n).wf = true
  text : v.s.size ≤ maxLen
structure T.wf (t : T) : Prop where
  text : t.v.size ≤ maxLen
  val : t.a.wf
structure P.wf (p : P) : Prop where
  text : p.v.size ≤ maxLen
  term : p.t.wf
theorem V0.ok : V0.wf := ⟨by decide, by decide, by decide⟩
theorem T0.ok : T0.wf := ⟨by decide, V0.ok⟩
def atT (l : List T) (i : Nat) : T := l.getD i T0
def P0 : P := ⟨noS, T0⟩
def atP (l : List P) (i : Nat) : P := l.getD i P0
def atV (l : List V) (i : Nat) : V := l.getD i V0
theorem atT_eq {l : List T} {i : Nat} (h : i < l.length) : atT l i = l[i] := by simp [atT, List.getD, List.getElem?_eq_getElem h]
theorem atP_eq {l : List P} {i : Nat} (h : i < l.length) : atP l i = l[i] := by simp [atP, List.getD, List.getElem?_eq_getElem h]

/-- a list of terms in memory -/
structure Lt (w : World) (v : Value) (l : List T) : Prop where
  lies : Ls w v l.length (l.flatMap T.cells)
  wf : ∀ t ∈ l, t.wf
structure Lp (w : World) (v : Value) (l : List P) : Prop where
  lies : Ls w v l.length (l.flatMap P.cells)
  wf : ∀ t ∈ l, t.wf
structure Lv (w : World) (v : Value) (l : List V) : Prop where
  lies : Ls w v l.length (l.flatMap V.cells)
  wf : ∀ t ∈ l, t.wf
theorem Lt.below {w w' : World} {v : Value} {l : List T} (h : Lt w v l) (b : Below w.heap.size w w') : Lt w' v l := ⟨h.lies.below b, h.wf⟩
theorem Lp.below {w w' : World} {v : Value} {l : List P} (h : Lp w v l) (b : Below w.heap.size w w') : Lp w' v l := ⟨h.lies.below b, h.wf⟩
theorem Lv.below {w w' : World} {v : Value} {l : List V} (h : Lv w v l) (b : Below w.heap.size w w') : Lv w' v l := ⟨h.lies.below b, h.wf⟩

/-- a term's four cells, at a place -/
structure TAt (w : World) (g o : Nat) (t : T) : Prop where
  c0 : w.cell? ⟨g, o, none⟩ = some (.string t.v)
  c1 : w.cell? ⟨g, o + 1, none⟩ = some (.int .i8 t.a.k)
  c2 : w.cell? ⟨g, o + 2, none⟩ = some (.int .i64 t.a.n)
  c3 : w.cell? ⟨g, o + 3, none⟩ = some (.string t.a.s)
structure PAt (w : World) (g o : Nat) (p : P) : Prop where
  c0 : w.cell? ⟨g, o, none⟩ = some (.string p.v)
  c1 : w.cell? ⟨g, o + 1, none⟩ = some (.string p.t.v)
  c2 : w.cell? ⟨g, o + 2, none⟩ = some (.int .i8 p.t.a.k)
  c3 : w.cell? ⟨g, o + 3, none⟩ = some (.int .i64 p.t.a.n)
  c4 : w.cell? ⟨g, o + 4, none⟩ = some (.string p.t.a.s)
structure VAt (w : World) (g o : Nat) (v : V) : Prop where
  c0 : w.cell? ⟨g, o, none⟩ = some (.int .i8 v.k)
  c1 : w.cell? ⟨g, o + 1, none⟩ = some (.int .i64 v.n)
  c2 : w.cell? ⟨g, o + 2, none⟩ = some (.string v.s)
theorem Lt.form {w : World} {v : Value} {l : List T} (h : Lt w v l) : ∃ a c, v = .slice a l.length c ∧ l.length ≤ c ∧ c ≤ maxLen ∧ (0 < l.length → ∃ g off, a = some ⟨g, off, none⟩ ∧ g < w.heap.size ∧ ∀ i, i < l.length → TAt w g (off + i * 4) (atT l i)) := by
  obtain ⟨hn, a, c, hv, h1, h2, hc⟩ := h.lies
  refine ⟨a, c, hv, h1, h2, fun h0 => ?_⟩
  obtain ⟨g, off, ha, hg, hf⟩ := hc h0
  refine ⟨g, off, ha, hg, fun i hi => ⟨?_, ?_, ?_, ?_⟩⟩
  · have := hf.elem (k := 4) (fun _ => rfl) T0 hi (j := 0) (by omega) rfl; rw [← Nat.add_assoc] at this; exact this
  · have := hf.elem (k := 4) (fun _ => rfl) T0 hi (j := 1) (by omega) rfl; rw [← Nat.add_assoc] at this; exact this
  · have := hf.elem (k := 4) (fun _ => rfl) T0 hi (j := 2) (by omega) rfl; rw [← Nat.add_assoc] at this; exact this
  · have := hf.elem (k := 4) (fun _ => rfl) T0 hi (j := 3) (by omega) rfl; rw [← Nat.add_assoc] at this; exact this
theorem Lp.form {w : World} {v : Value} {l : List P} (h : Lp w v l) : ∃ a c, v = .slice a l.length c ∧ l.length ≤ c ∧ c ≤ maxLen ∧ (0 < l.length → ∃ g off, a = some ⟨g, off, none⟩ ∧ g < w.heap.size ∧ ∀ i, i < l.length → PAt w g (off + i * 5) (atP l i)) := by
  obtain ⟨hn, a, c, hv, h1, h2, hc⟩ := h.lies
  refine ⟨a, c, hv, h1, h2, fun h0 => ?_⟩
  obtain ⟨g, off, ha, hg, hf⟩ := hc h0
  refine ⟨g, off, ha, hg, fun i hi => ⟨?_, ?_, ?_, ?_, ?_⟩⟩
  · have := hf.elem (k := 5) (fun _ => rfl) P0 hi (j := 0) (by omega) rfl; rw [← Nat.add_assoc] at this; exact this
  · have := hf.elem (k := 5) (fun _ => rfl) P0 hi (j := 1) (by omega) rfl; rw [← Nat.add_assoc] at this; exact this
  · have := hf.elem (k := 5) (fun _ => rfl) P0 hi (j := 2) (by omega) rfl; rw [← Nat.add_assoc] at this; exact this
  · have := hf.elem (k := 5) (fun _ => rfl) P0 hi (j := 3) (by omega) rfl; rw [← Nat.add_assoc] at this; exact this
  · have := hf.elem (k := 5) (fun _ => rfl) P0 hi (j := 4) (by omega) rfl; rw [← Nat.add_assoc] at this; exact this
theorem Lv.form {w : World} {v : Value} {l : List V} (h : Lv w v l) : ∃ a c, v = .slice a l.length c ∧ l.length ≤ c ∧ c ≤ maxLen ∧ (0 < l.length → ∃ g off, a = some ⟨g, off, none⟩ ∧ g < w.heap.size ∧ ∀ i, i < l.length → VAt w g (off + i * 3) (atV l i)) := by
  obtain ⟨hn, a, c, hv, h1, h2, hc⟩ := h.lies
  refine ⟨a, c, hv, h1, h2, fun h0 => ?_⟩
  obtain ⟨g, off, ha, hg, hf⟩ := hc h0
  refine ⟨g, off, ha, hg, fun i hi => ⟨?_, ?_, ?_⟩⟩
  · have := hf.elem (k := 3) (fun _ => rfl) V0 hi (j := 0) (by omega) rfl; rw [← Nat.add_assoc] at this; exact this
  · have := hf.elem (k := 3) (fun _ => rfl) V0 hi (j := 1) (by omega) rfl; rw [← Nat.add_assoc] at this; exact this
  · have := hf.elem (k := 3) (fun _ => rfl) V0 hi (j := 2) (by omega) rfl; rw [← Nat.add_assoc] at this; exact this

/-- a row of the call's own, read as a list -/
theorem ls_own {w : World} {base : Nat} {e : TypeId} {k : Nat} {sv : Value} {n : Nat} {xs : List Value} (h : w.ownsRow base e k sv n xs) : Ls w sv n xs := by
  obtain ⟨hl, ⟨rfl, rfl⟩ | ⟨g, cap, cur, rfl, _, hb, hn, hc, hs, ht⟩⟩ := h
  · exact ⟨Nat.zero_le _, none, 0, rfl, Nat.le_refl _, Nat.zero_le _, fun h => absurd h (by omega)⟩
  · refine ⟨Nat.le_trans hn hc, _, cap, rfl, hn, hc, fun _ => ⟨g, 0, rfl, ?_, fun i hi => ?_⟩⟩
    · exact Array.getElem?_eq_some_iff.1 hb |>.1
    have h2 : i < n * k := by rw [← hl]; exact hi
    have h3 : cur[i]? = some xs[i] := by
      obtain ⟨u, h1⟩ : ∃ u, xs[i]? = some u := ⟨_, List.getElem?_eq_getElem hi⟩
      have h4 : xs[i] = u := Option.some.inj ((List.getElem?_eq_getElem hi).symm.trans h1)
      rw [h4]
      rw [← ht, List.getElem?_take, if_pos h2] at h1
      simpa using h1
    unfold World.cell?
    simp only [hb, Nat.zero_add]
    exact h3
theorem own_of_block {w w' : World} {base : Nat} {e : TypeId} {k : Nat} {sv : Value} {n : Nat} {xs : List Value} (h : w.ownsRow base e k sv n xs) (hg : ∀ g, sv.ownBlock = some g → w'.heap[g]? = w.heap[g]?) : w'.ownsRow base e k sv n xs := by
  obtain ⟨hl, h1 | ⟨g, cap, cur, rfl, h0, hb, r⟩⟩ := h
  · exact ⟨hl, .inl h1⟩
  · exact ⟨hl, .inr ⟨g, cap, cur, rfl, h0, (hg g rfl).trans hb, r⟩⟩
theorem own_below {w w' : World} {base : Nat} {e : TypeId} {k : Nat} {sv : Value} {n : Nat} {xs : List Value} (h : w.ownsRow base e k sv n xs) (hb : Below w.heap.size w w') : w'.ownsRow base e k sv n xs :=
  own_of_block h (fun g hg => hb.block g (h.lt g hg).2)
end Go.Proofs.YteabclfhmapabaaDoor
end
section
namespace Go.Proofs.YteabclfhmapabaaDoor
open Go.RowKit
set_option linter.unusedVariables false
set_option linter.unusedSimpArgs false
attribute [local go_sem ↓] Go.wp_at_zero Go.wp_at_succ

theorem run_eqV (k1 n1 : Int) (s1 : ByteArray) (k2 n2 : Int) (s2 : ByteArray) (w : World) :
    (binOp .eql 49 (.agg #[.int .i8 k1, .int .i64 n1, .string s1]) (.agg #[.int .i8 k2, .int .i64 n2, .string s2])).run Tryd.prog w = .ok (.bool (decide ((⟨k1, n1, s1⟩ : V) = ⟨k2, n2, s2⟩))) w := by
  by_cases hk : k1 = k2
  · by_cases hn : n1 = n2
    · by_cases hs : s1.toList = s2.toList
      · have := toList_inj hs
        subst hk hn this
        go_simp
      · have e : decide ((⟨k1, n1, s1⟩ : V) = ⟨k2, n2, s2⟩) = false := decide_eq_false (fun h => hs (by cases h; rfl))
        rw [e]
        go_simp
    · have e : decide ((⟨k1, n1, s1⟩ : V) = ⟨k2, n2, s2⟩) = false := decide_eq_false (fun h => hn (by cases h; rfl))
      rw [e]
      go_simp
  · have e : decide ((⟨k1, n1, s1⟩ : V) = ⟨k2, n2, s2⟩) = false := decide_eq_false (fun h => hk (by cases h; rfl))
    rw [e]
    go_simp

theorem some_iff (s : ByteArray) (h : s ≠ noS) : s.toList.isEmpty = false := by
  cases e : s.toList with
  | nil => exact absurd ((noS_iff s).1 e) h
  | cons _ _ => rfl
theorem blank_iff {s : ByteArray} (h : s ≠ blankS) : (s.toList == [95]) = false := by
  rw [beq_eq_false_iff_ne]
  intro e
  exact h (toList_inj (by rw [e, ByteArray.toList_eq]; rfl))

set_option maxHeartbeats 1600000 in
theorem isTerm_any (t : T) (w : World) (ht : t.wf) : Calls Tryd.prog 75 #[t.val] w fun e w' => e = .returned (.bool (termB t)) ∧ Below w.heap.size w w' := by
  obtain ⟨tv, k, n, s⟩ := t
  have h1 : tv.size ≤ maxLen := ht.text
  have h2 : s.size ≤ maxLen := ht.val.text
  unfold T.val
  dsimp only
  by_cases e0 : tv = noS
  · subst e0
    have HT : Hid (termB ⟨noS, k, n, s⟩ = (chk k n s == 0)) := by show termB _ = _; unfold termB okV chkV; rw [if_pos rfl]
    unfold noS
    go_enter Tryd.func75, Tryd.ntmps75
    go_wp2_with fail
    refine (vcheck_any k n s _ h2).mono ?_
    rintro e w' ⟨rfl, hb⟩
    go_wp2
    go_ret
    exact ⟨ret_bool HT.out.symm, ((Below.refl _ _).alloc (Nat.le_refl _) _).trans (hb.mono (by simp))⟩
  · have he := some_iff tv e0
    have hE := run_eqV k n s 0 0 ⟨#[]⟩
    by_cases ea : (⟨k, n, s⟩ : V) = V0
    · have hE' : decide ((⟨k, n, s⟩ : V) = ⟨0, 0, ⟨#[]⟩⟩) = true := decide_eq_true ea
      rw [hE'] at hE
      by_cases eb : tv = blankS
      · subst eb
        have HT : Hid (termB ⟨blankS, k, n, s⟩ = true) := by show termB _ = _; unfold termB; rw [if_neg e0]; simp [ea]
        clear e0 ea hE'
        unfold blankS at *
        go_enter Tryd.func75, Tryd.ntmps75
        go_wp2
        go_ret
        exact ⟨ret_bool HT.out.symm, ((Below.refl _ _).alloc (Nat.le_refl _) _)⟩
      · have hb0 := blank_iff eb
        have HT : Hid (termB ⟨tv, k, n, s⟩ = varB tv) := by show termB _ = _; unfold termB; rw [if_neg e0]; simp [ea, eb]
        clear e0 ea hE' eb
        go_enter Tryd.func75, Tryd.ntmps75
        go_wp2_with fail
        refine (isVariable_any tv _ h1).mono ?_
        rintro e w' ⟨rfl, rfl⟩
        go_wp2
        go_ret
        exact ⟨ret_bool HT.out.symm, ((Below.refl _ _).alloc (Nat.le_refl _) _)⟩
    · have hE' : decide ((⟨k, n, s⟩ : V) = ⟨0, 0, ⟨#[]⟩⟩) = false := decide_eq_false ea
      rw [hE'] at hE
      have HT : Hid (termB ⟨tv, k, n, s⟩ = false) := by show termB _ = _; unfold termB; rw [if_neg e0]; simp [ea]
      clear e0 ea hE'
      go_enter Tryd.func75, Tryd.ntmps75
      go_wp2
      go_ret
      exact ⟨ret_bool HT.out.symm, ((Below.refl _ _).alloc (Nat.le_refl _) _)⟩

def errB (b : Bool) : Int := if b then 0 else 40
theorem verdict_any (b : Bool) (w : World) : Calls Tryd.prog 41 #[.bool b] w fun e w' => e = .returned (.int .i64 (errB b)) ∧ w' = w := by
  cases b <;>
  · go_enter Tryd.func41, Tryd.ntmps41
    go_wp2
    go_ret
    exact ⟨rfl, rfl⟩
theorem checkTerm_any (t : T) (w : World) (ht : t.wf) : Calls Tryd.prog 57 #[t.val] w fun e w' => e = .returned (.int .i64 (errB (termB t))) ∧ Below w.heap.size w w' := by
  unfold T.val
  go_enter Tryd.func57, Tryd.ntmps57
  go_wp2_with fail
  refine (isTerm_any t _ ht).mono ?_
  rintro e w1 ⟨rfl, b1⟩
  go_wp2_with fail
  refine (verdict_any _ _).mono ?_
  rintro e w2 ⟨rfl, rfl⟩
  go_wp2
  go_ret
  exact ⟨rfl, ((Below.refl _ _).alloc (Nat.le_refl _) _).trans (b1.mono (by simp))⟩
end Go.Proofs.YteabclfhmapabaaDoor
end
section
namespace Go.Proofs.YteabclfhmapabaaDoor
open Go.RowKit Go.Maps
set_option linter.unusedVariables false
set_option linter.unusedSimpArgs false
attribute [local go_sem ↓] Go.wp_at_zero Go.wp_at_succ

theorem lit_news (w : World) (cs : Array Value) (e : TypeId) : ∀ (j : Nat) (u : Value), cs.toList[j]? = some u → (w.alloc (.cells cs e)).cell? ((⟨w.heap.size, 0, none⟩ : Addr).add j) = some u := by
  intro j u h
  have e' : (⟨w.heap.size, 0, none⟩ : Addr).add j = ⟨w.heap.size, j, none⟩ := by rw [WideShapes.add_plain]; simp
  rw [e']
  unfold World.cell?
  simp only [heap_alloc_new]
  simpa using h
theorem step_append_own {P : Program} {ops : Array Oper} {o : Oper} {a : Act} {w : World} {K : Act → World → Prop} {Q : Exit → Act → World → Prop} {E : Prop}
    (hg : o.guard = none) (s x : Operand) (t : TypeId) (hop : o.op = Op.call { callee := Callee.builtin Builtin.append, args := #[s, x], argTypes := #[t, t] })
    (e : TypeId) (i : TypeInfo) (z : Value) (size bytes : Nat) (h1 : P.underlying t = some (.slice e)) (h2 : P.info? e = some i) (h3 : i.zero = some z) (h4 : i.size = size) (h5 : i.bytes = bytes) (h6 : z.cells.size = size) (h7 : 0 < size)
    (base : Nat) (v : Value) (n : Nat) (xs : List Value) (hs : a.eval s = v) (hown : w.ownsRow base e size v n xs)
    (ad : Addr) (m c : Nat) (news : List Value) (hx : a.eval x = .slice (some ad) m c) (hn : news.length = m * size) (hc : ∀ j u, news[j]? = some u → w.cell? (ad.add j) = some u) (h1c : ∀ u ∈ news, u.oneCell' = true)
    (b1 : n + m ≤ maxLen) (b2 : (n + m) * bytes ≤ 140737488355328) (hbase : base ≤ w.heap.size)
    (hK : ∀ v' w', w'.ownsRow base e size v' (n + m) (xs ++ news) → w.grownBy w' v.ownBlock → (v'.ownBlock = v.ownBlock ∨ v'.ownBlock = some w.heap.size) → K (a.put o.dst v') w') :
    if Region.wanted o (yielded ops a.tmps) = true then Oper.wp P o a w K Q else E := by
  have hw : Region.wanted o (yielded ops a.tmps) = true := by simp [Region.wanted, hg]
  rw [if_pos hw]
  obtain ⟨v', w', hrun, r1, r2, _, r3⟩ := run_append_own_at (P := P) w base t o.type e i z size bytes h1 h2 h3 h4 h5 h6 h7 v n xs hown ad m c news hn hc h1c b1 b2 hbase
  unfold Oper.wp
  simp [execOp, hop, resolve, invoke, builtin, hs, hx, hrun, Result.andThen]
  exact hK v' w' r1 r2 r3
theorem own_form {w : World} {base : Nat} {e : TypeId} {k : Nat} {sv : Value} {n : Nat} {xs : List Value} (h : w.ownsRow base e k sv n xs) : ∃ a c, sv = .slice a n c ∧ n ≤ maxLen := by
  obtain ⟨hl, ⟨rfl, rfl⟩ | ⟨g, cap, cur, rfl, _, hb, hn, hc, hs, ht⟩⟩ := h
  · exact ⟨none, 0, rfl, Nat.zero_le _⟩
  · exact ⟨_, cap, rfl, Nat.le_trans hn hc⟩
theorem len_toList (s : ByteArray) : s.data.toList.length = s.size := by rw [Array.length_toList]; rfl

theorem fold_bytes : ∀ (l : List UInt8) (s : ByteArray), (l.map (fun b => (b.toNat : Int))).foldl (fun r n => r.push (UInt8.ofNat n.toNat)) s = ⟨s.data ++ l.toArray⟩
  | [], s => by cases s; simp
  | c :: r, s => by
    simp only [List.map_cons, List.foldl_cons]
    rw [fold_bytes r]
    cases s with
    | mk d => simp [ByteArray.push]
theorem bytes_string {w : World} {base : Nat} {sv : Value} {n : Nat} {out : List UInt8} (h : w.ownsRow base 5 1 sv n (Lib.byteCells out)) : (convert 177 9 sv).run Tryd.prog w = .ok (.string ⟨out.toArray⟩) w := by
  obtain ⟨hl, ⟨rfl, rfl⟩ | ⟨g, cap, cur, rfl, _, hb, hn, hc, hs, ht⟩⟩ := h
  · have : out = [] := List.length_eq_zero_iff.mp (by rw [Lib.byteCells_length] at hl; omega)
    subst this
    rw [run_convert_bytes_string w _ _ _ _ _ _ Tryd.underlying177 Tryd.underlying5 Tryd.underlying9]
    simp [Conv.bytesToString]
    rfl
  · rw [run_convert_bytes_string w _ _ _ _ _ _ Tryd.underlying177 Tryd.underlying5 Tryd.underlying9]
    have hlen : out.length = n := by rw [Lib.byteCells_length] at hl; omega
    have hload : (loadCells ⟨g, 0, none⟩ n).run Tryd.prog w = .ok ((out.map (fun b => (b.toNat : Int))).map (Value.int .u8)).toArray w := by
      have := run_loadCells_list (P := Tryd.prog) (w := w) ⟨g, 0, none⟩ ((out.map (fun b => (b.toNat : Int))).map (Value.int .u8)) (fun j v hj => by
        have e : (⟨g, 0, none⟩ : Addr).add j = ⟨g, j, none⟩ := by rw [WideShapes.add_plain]; simp
        rw [e]
        unfold World.cell?
        simp only [hb]
        have hj' : (Lib.byteCells out)[j]? = some v := by unfold Lib.byteCells; rw [List.map_map] at hj; exact hj
        rw [← ht] at hj'
        have := List.getElem?_take (l := cur.toList) (i := n * 1) (j := j)
        rw [this] at hj'
        split at hj'
        · simpa using hj'
        · cases hj')
      simpa [hlen] using this
    rw [run_bytesToString w _ _ _ _ hload, fold_bytes]
    simp [ByteArray.empty, ByteArray.emptyWithCapacity]
    try rfl
theorem infoByte : (Tryd.prog.info? 5).map (fun i => (i.zero, i.size, i.bytes)) = some (some (.int .u8 0), 1, 1) := by kernel_rfl
/-- what stands for a byte of a quoted text -/
def hexU (n : Nat) : UInt8 := (#[48, 49, 50, 51, 52, 53, 54, 55, 56, 57, 97, 98, 99, 100, 101, 102] : Array UInt8).getD n 0
def pieceQ (c : UInt8) : List UInt8 := if c.toNat = 10 then [92, 110] else if c.toNat = 34 ∨ c.toNat = 92 then [92, c] else if 32 ≤ c.toNat ∧ c.toNat ≤ 126 then [c] else [92, 120, hexU (c.toNat / 16), hexU (c.toNat % 16)]
theorem pieceQ_len (c : UInt8) : 1 ≤ (pieceQ c).length ∧ (pieceQ c).length ≤ 4 := by
  unfold pieceQ
  split
  · decide
  · split
    · simp
    · split <;> simp
theorem and15 : ∀ c : Fin 256, bits BinOp.and IntKind.u8 (c.val : Int) 15 = ((c.val % 16 : Nat) : Int) := by decide +kernel
theorem hex_at (n : Nat) (h : n < 16) : ({ data := #[48, 49, 50, 51, 52, 53, 54, 55, 56, 57, 97, 98, 99, 100, 101, 102] } : ByteArray)[n]'h = hexU n := by
  have hall : ∀ n : Fin 16, (({ data := #[48, 49, 50, 51, 52, 53, 54, 55, 56, 57, 97, 98, 99, 100, 101, 102] } : ByteArray)[n.val]'n.isLt) = hexU n.val := by decide +kernel
  exact hall ⟨n, h⟩
def quoteQ (s : ByteArray) : ByteArray := ⟨((34 :: s.data.toList.flatMap pieceQ) ++ [34]).toArray⟩
theorem flat_ge : ∀ l : List UInt8, l.length ≤ (l.flatMap pieceQ).length
  | [] => Nat.le_refl _
  | c :: r => by
    have := flat_ge r
    have := (pieceQ_len c).1
    simp only [List.flatMap_cons, List.length_append, List.length_cons]
    omega
theorem quoteQ_size (s : ByteArray) : s.size + 2 ≤ (quoteQ s).size := by
  have h := flat_ge s.data.toList
  rw [len_toList] at h
  rw [← len_toList (quoteQ s)]
  simp only [quoteQ, List.length_append, List.length_cons, List.length_nil]
  omega
theorem take_more (s : ByteArray) {k : Nat} (h : k < s.size) : s.data.toList.take (k + 1) = s.data.toList.take k ++ [s[k]] := by
  rw [List.take_add_one, List.getElem?_eq_getElem (by rw [len_toList]; exact h)]
  rfl
set_option maxHeartbeats 800000 in
set_option maxRecDepth 100000 in
theorem quote_any (s : ByteArray) (w : World) (hs : s.size ≤ 200) : Calls Tryd.prog 80 #[.string s] w fun e w' => e = .returned (.string (quoteQ s)) ∧ Below w.heap.size w w' := by
  obtain ⟨i0, hi0, hz0, hz1, hz2⟩ := info_parts infoByte
  go_enter Tryd.func80, Tryd.ntmps80
  go_wp2
  go_loopw [3, 9] (fun o i wr => ∃ k : Nat, k ≤ s.size ∧ i = .int .i64 k ∧ Below w.heap.size w wr ∧ ∃ out : List UInt8, wr.ownsRow w.heap.size 5 1 o out.length (Lib.byteCells out) ∧ out.length ≤ 1 + 4 * k ∧ Hid (34 :: (s.data.toList.take k).flatMap pieceQ = out)) (fun _ i _ => s.size - (intOf i).toNat)
  case atStart => exact ⟨0, Nat.zero_le _, rfl, (Below.refl _ _).alloc (Nat.le_refl _) _, [34], World.ownsRow_lit w #[.int .u8 34] 1 (Nat.le_refl _) (by decide) rfl, by simp, by simp [Hid]⟩
  case round =>
    obtain ⟨k, hk, rfl, bel, out, hown, hol, HF⟩ := hrel
    obtain ⟨ao, co, rfl, hlo⟩ := own_form hown
    by_cases hlt : k < s.size
    · have hlt' : (k : Int) < (s.size : Int) := by omega
      have HN : Hid (34 :: (s.data.toList.take (k + 1)).flatMap pieceQ = out ++ pieceQ s[k]) := by
        show _ = _
        rw [take_more s hlt, List.flatMap_append, ← HF.out]
        simp
      have HP : Hid ((pieceQ s[k]).length ≤ 4) := (pieceQ_len _).2
      have hb8 : (s[k]'hlt).toNat < 256 := (s[k]'hlt).toNat_lt
      clear HF
      obtain ⟨c, hcc⟩ : ∃ c, s[k] = c := ⟨_, rfl⟩
      rw [hcc] at HN HP hb8
      by_cases h10 : c.toNat = 10
      · have h10' : (c.toNat : Int) = 10 := by omega
        have HE : Hid (pieceQ c = [92, 110]) := by show pieceQ c = _; unfold pieceQ; rw [if_pos h10]
        go_wp2_with (at_builtin; refine wpList_append_own_at _ rfl _ _ 177 rfl w.heap.size 5 i0 _ 1 1 Tryd.underlying177 hi0 hz0 hz1 hz2 rfl (by decide) _ _ _ rfl (own_below hown ((Below.refl _ _).alloc (Nat.le_refl _) _)) ⟨_, 0, none⟩ 2 2 [.int .u8 92, .int .u8 110] rfl rfl (lit_news _ #[.int .u8 92, .int .u8 110] _) (by simp [Value.oneCell']) (by unfold maxLen; omega) (by omega) (by have := bel.size; simp; omega) ?_; intro v' w2 hown' hgrow hnil hloc)
        go_roundw
        case rel => exact ⟨k + 1, by omega, by go_num, (bel.alloc bel.size _).grown hgrow (by have := bel.size; simp; omega) (fun j hj => (hown.lt j hj).1), out ++ [92, 110], by rw [Lib.byteCells_append, List.length_append]; exact hown', by simp; omega, by rw [← HE.out]; exact HN⟩
        case measure => simp [intOf]; omega
      · have h10' : ¬ (c.toNat : Int) = 10 := by omega
        by_cases h34 : c.toNat = 34 ∨ c.toNat = 92
        · have HE : Hid (pieceQ c = [92, c]) := by show pieceQ c = _; unfold pieceQ; rw [if_neg h10, if_pos h34]
          have hb10 : ((c.toNat : Int) == 10) = false := by simpa using h10'
          by_cases h3 : c.toNat = 34
          · have hb34 : ((c.toNat : Int) == 34) = true := by have : (c.toNat : Int) = 34 := by omega
                                                             simp [this]
            clear h10 h10' h34 h3
            go_wp2_with (at_builtin; refine wpList_append_own_at _ rfl _ _ 177 rfl w.heap.size 5 i0 _ 1 1 Tryd.underlying177 hi0 hz0 hz1 hz2 rfl (by decide) _ _ _ rfl (own_below hown ((Below.refl _ _).alloc (Nat.le_refl _) _)) ⟨_, 0, none⟩ 2 2 [.int .u8 92, .int .u8 (c.toNat : Int)] rfl rfl (lit_news _ #[.int .u8 92, .int .u8 (c.toNat : Int)] _) (by simp [Value.oneCell']) (by unfold maxLen; omega) (by omega) (by have := bel.size; simp; omega) ?_; intro v' w2 hown' hgrow hnil hloc)
            go_roundw
            case rel => exact ⟨k + 1, by omega, by go_num, (bel.alloc bel.size _).grown hgrow (by have := bel.size; simp; omega) (fun j hj => (hown.lt j hj).1), out ++ [92, c], by rw [Lib.byteCells_append, List.length_append]; exact hown', by simp; omega, by rw [← HE.out]; exact HN⟩
            case measure => simp [intOf]; omega
          · have hb34 : ((c.toNat : Int) == 34) = false := by have : ¬ (c.toNat : Int) = 34 := by omega
                                                              simpa using this
            have hb92 : ((c.toNat : Int) == 92) = true := by have : (c.toNat : Int) = 92 := by omega
                                                             simp [this]
            clear h10 h10' h34 h3
            go_wp2_with (at_builtin; refine wpList_append_own_at _ rfl _ _ 177 rfl w.heap.size 5 i0 _ 1 1 Tryd.underlying177 hi0 hz0 hz1 hz2 rfl (by decide) _ _ _ rfl (own_below hown ((Below.refl _ _).alloc (Nat.le_refl _) _)) ⟨_, 0, none⟩ 2 2 [.int .u8 92, .int .u8 (c.toNat : Int)] rfl rfl (lit_news _ #[.int .u8 92, .int .u8 (c.toNat : Int)] _) (by simp [Value.oneCell']) (by unfold maxLen; omega) (by omega) (by have := bel.size; simp; omega) ?_; intro v' w2 hown' hgrow hnil hloc)
            go_roundw
            case rel => exact ⟨k + 1, by omega, by go_num, (bel.alloc bel.size _).grown hgrow (by have := bel.size; simp; omega) (fun j hj => (hown.lt j hj).1), out ++ [92, c], by rw [Lib.byteCells_append, List.length_append]; exact hown', by simp; omega, by rw [← HE.out]; exact HN⟩
            case measure => simp [intOf]; omega
        · have h34' : ¬ (c.toNat : Int) = 34 := by omega
          have h92' : ¬ (c.toNat : Int) = 92 := by omega
          have hb10 : ((c.toNat : Int) == 10) = false := by simpa using h10'
          have hb34 : ((c.toNat : Int) == 34) = false := by simpa using h34'
          have hb92 : ((c.toNat : Int) == 92) = false := by simpa using h92'
          clear h34' h92' h10'
          by_cases hpr : 32 ≤ c.toNat ∧ c.toNat ≤ 126
          · have HE : Hid (pieceQ c = [c]) := by show pieceQ c = _; unfold pieceQ; rw [if_neg h10, if_neg h34, if_pos hpr]
            have hp1 : (32 : Int) ≤ (c.toNat : Int) := by omega
            have hp2 : (c.toNat : Int) ≤ 126 := by omega
            clear h10 h34 hpr
            go_wp2_with (at_builtin; refine wpList_append_own_at _ rfl _ _ 177 rfl w.heap.size 5 i0 _ 1 1 Tryd.underlying177 hi0 hz0 hz1 hz2 rfl (by decide) _ _ _ rfl (own_below hown ((Below.refl _ _).alloc (Nat.le_refl _) _)) ⟨_, 0, none⟩ 1 1 [.int .u8 (c.toNat : Int)] rfl rfl (lit_news _ #[.int .u8 (c.toNat : Int)] _) (by simp [Value.oneCell']) (by unfold maxLen; omega) (by omega) (by have := bel.size; simp; omega) ?_; intro v' w2 hown' hgrow hnil hloc)
            go_roundw
            case rel => exact ⟨k + 1, by omega, by go_num, (bel.alloc bel.size _).grown hgrow (by have := bel.size; simp; omega) (fun j hj => (hown.lt j hj).1), out ++ [c], by rw [Lib.byteCells_append, List.length_append]; exact hown', by simp; omega, by rw [← HE.out]; exact HN⟩
            case measure => simp [intOf]; omega
          · have HE : Hid (pieceQ c = [92, 120, hexU (c.toNat / 16), hexU (c.toNat % 16)]) := by show pieceQ c = _; unfold pieceQ; rw [if_neg h10, if_neg h34, if_neg hpr]
            have hp' : ¬ ((32 : Int) ≤ (c.toNat : Int) ∧ (c.toNat : Int) ≤ 126) := by omega
            clear h10 h34 hpr
            obtain ⟨q, hq⟩ : ∃ q, q = c.toNat / 16 := ⟨_, rfl⟩
            obtain ⟨r, hr⟩ : ∃ r, r = c.toNat % 16 := ⟨_, rfl⟩
            have hqi : (c.toNat : Int) / 16 = (q : Int) := by omega
            have hri : bits BinOp.and IntKind.u8 (c.toNat : Int) 15 = (r : Int) := by rw [hr]; exact and15 ⟨c.toNat, hb8⟩
            have hq16 : q < 16 := by omega
            have hr16 : r < 16 := by omega
            have hq16' : (q : Int) < 16 := by omega
            have hr16' : (r : Int) < 16 := by omega
            have hxq := hex_at q hq16
            have hxr := hex_at r hr16
            rw [← hq, ← hr] at HE
            generalize hexU q = d1 at HE hxq
            generalize hexU r = d2 at HE hxr
            have HOWN : Hid ((wr.drew.alloc (.cells #[.int .u8 92, .int .u8 120, .int .u8 (d1.toNat : Int), .int .u8 (d2.toNat : Int)] 5)).ownsRow w.heap.size 5 1 (.slice ao out.length co) out.length (Lib.byteCells out)) :=
              own_of_block hown (fun g hg => Below.heap_alloc wr.drew _ g (hown.lt g hg).2)
            have HC : Hid (∀ (j : Nat) (u : Value), ([.int .u8 92, .int .u8 120, .int .u8 (d1.toNat : Int), .int .u8 (d2.toNat : Int)] : List Value)[j]? = some u → (wr.drew.alloc (.cells #[.int .u8 92, .int .u8 120, .int .u8 (d1.toNat : Int), .int .u8 (d2.toNat : Int)] 5)).cell? ((⟨wr.heap.size, 0, none⟩ : Addr).add j) = some u) := lit_news wr.drew #[.int .u8 92, .int .u8 120, .int .u8 (d1.toNat : Int), .int .u8 (d2.toNat : Int)] _
            have HSZ : Hid (w.heap.size ≤ (wr.drew.alloc (.cells #[.int .u8 92, .int .u8 120, .int .u8 (d1.toNat : Int), .int .u8 (d2.toNat : Int)] 5)).heap.size) := by show _ ≤ _; have := bel.size; simp; omega
            have HFIN : Hid (∀ {w2 : World}, (wr.drew.alloc (.cells #[.int .u8 92, .int .u8 120, .int .u8 (d1.toNat : Int), .int .u8 (d2.toNat : Int)] 5)).grownBy w2 (Value.slice ao out.length co).ownBlock → Below w.heap.size w w2) := fun hg => (bel.drew.alloc bel.drew.size _).grown hg (by have := bel.size; simp; omega) (fun j hj => (hown.lt j hj).1)
            clear hq hr hb8
            by_cases hp1 : (32 : Int) ≤ (c.toNat : Int)
            · have hp2 : ¬ (c.toNat : Int) ≤ 126 := by omega
              clear hp'
              go_wp2_with fail
              go_region_law (
                refine step_append_own rfl (.tmp 15) (.tmp 22) 177 rfl 5 i0 _ 1 1 Tryd.underlying177 hi0 hz0 hz1 hz2 rfl (by decide) w.heap.size (.slice ao out.length co) out.length _ (by simp [Act.eval, Act.put]) HOWN.out ⟨wr.heap.size, 0, none⟩ 4 4 [.int .u8 92, .int .u8 120, .int .u8 (d1.toNat : Int), .int .u8 (d2.toNat : Int)] (by simp [Act.eval, Act.put]) rfl HC.out (by simp [Value.oneCell']) (by unfold maxLen; omega) (by omega) HSZ.out ?_
                intro v' w2 hown' hgrow hloc)
              all_goals
                go_wp2
                go_roundw
                case rel => exact ⟨k + 1, by omega, by go_num, HFIN.out hgrow, out ++ [92, 120, d1, d2], by rw [Lib.byteCells_append, List.length_append]; exact hown', by simp; omega, by rw [← HE.out]; exact HN⟩
                case measure => simp [intOf]; omega
            · clear hp'
              go_wp2_with fail
              go_region_law (
                refine step_append_own rfl (.tmp 15) (.tmp 22) 177 rfl 5 i0 _ 1 1 Tryd.underlying177 hi0 hz0 hz1 hz2 rfl (by decide) w.heap.size (.slice ao out.length co) out.length _ (by simp [Act.eval, Act.put]) HOWN.out ⟨wr.heap.size, 0, none⟩ 4 4 [.int .u8 92, .int .u8 120, .int .u8 (d1.toNat : Int), .int .u8 (d2.toNat : Int)] (by simp [Act.eval, Act.put]) rfl HC.out (by simp [Value.oneCell']) (by unfold maxLen; omega) (by omega) HSZ.out ?_
                intro v' w2 hown' hgrow hloc)
              all_goals
                go_wp2
                go_roundw
                case rel => exact ⟨k + 1, by omega, by go_num, HFIN.out hgrow, out ++ [92, 120, d1, d2], by rw [Lib.byteCells_append, List.length_append]; exact hown', by simp; omega, by rw [← HE.out]; exact HN⟩
                case measure => simp [intOf]; omega
    · obtain rfl : k = s.size := by omega
      have HV : Hid ((⟨(out ++ [34]).toArray⟩ : ByteArray) = quoteQ s) := by
        show _ = quoteQ s
        unfold quoteQ
        rw [← HF.out, List.take_of_length_le (by rw [len_toList]; exact Nat.le_refl _)]
      go_wp2_with (at_builtin; refine wpList_append_own_at _ rfl _ _ 177 rfl w.heap.size 5 i0 _ 1 1 Tryd.underlying177 hi0 hz0 hz1 hz2 rfl (by decide) _ _ _ rfl (own_below hown ((Below.refl _ _).alloc (Nat.le_refl _) _)) ⟨_, 0, none⟩ 1 1 [.int .u8 34] rfl rfl (lit_news _ #[.int .u8 34] _) (by simp [Value.oneCell']) (by unfold maxLen; omega) (by omega) (by have := bel.size; simp; omega) ?_; intro v' w2 hown' hgrow hnil hloc; have hcv := bytes_string (out := out ++ [34]) (by rw [Lib.byteCells_append]; exact hown'); obtain ⟨a2, c2, rfl, _⟩ := own_form hown')
      go_ret
      exact ⟨by rw [HV.out]; rfl, (bel.alloc bel.size _).grown hgrow (by have := bel.size; simp; omega) (fun j hj => (hown.lt j hj).1)⟩
end Go.Proofs.YteabclfhmapabaaDoor
end
