import Derived.Test.YteabclfhmapabaaDoorA2
section
namespace Go.Proofs.YteabclfhmapabaaDoor
open Go.RowKit Go.Maps
set_option linter.unusedVariables false
set_option linter.unusedSimpArgs false
attribute [local go_sem ↓] Go.wp_at_zero Go.wp_at_succ

theorem vst_new (w : World) : Vst w.heap.size w w.heap.size (w.heap.size + 2) (w.heap.size + 1) [] (.slice none 0 0) (((w.alloc (.cells #[.slice none 0 0] 26)).alloc (.map #[] 0)).alloc (.cells #[.map (some (w.heap.size + 1))] 73)) := by
  have s1 : (w.alloc (.cells #[.slice none 0 0] 26)).heap.size = w.heap.size + 1 := by simp
  have s2 : ((w.alloc (.cells #[.slice none 0 0] 26)).alloc (.map #[] 0)).heap.size = w.heap.size + 2 := by simp
  have b1 : Below w.heap.size w (w.alloc (.cells #[.slice none 0 0] 26)) := (Below.refl _ _).alloc (Nat.le_refl _) _
  have b2 : Below (w.heap.size + 1) (w.alloc (.cells #[.slice none 0 0] 26)) ((w.alloc (.cells #[.slice none 0 0] 26)).alloc (.map #[] 0)) := by
    have := (Below.refl (w.alloc (.cells #[.slice none 0 0] 26)).heap.size (w.alloc (.cells #[.slice none 0 0] 26))).alloc (Nat.le_refl _) (.map #[] 0)
    rw [s1] at this
    exact this
  have b3 : Below (w.heap.size + 2) ((w.alloc (.cells #[.slice none 0 0] 26)).alloc (.map #[] 0)) (((w.alloc (.cells #[.slice none 0 0] 26)).alloc (.map #[] 0)).alloc (.cells #[.map (some (w.heap.size + 1))] 73)) := by
    have := (Below.refl ((w.alloc (.cells #[.slice none 0 0] 26)).alloc (.map #[] 0)).heap.size ((w.alloc (.cells #[.slice none 0 0] 26)).alloc (.map #[] 0))).alloc (Nat.le_refl _) (.cells #[.map (some (w.heap.size + 1))] 73)
    rw [s2] at this
    exact this
  have hm : SetIs ((w.alloc (.cells #[.slice none 0 0] 26)).alloc (.map #[] 0)) (w.heap.size + 1) [] := by
    have := SetIs.made (w.alloc (.cells #[.slice none 0 0] 26))
    rw [s1] at this
    exact this
  have hb : Below w.heap.size w (((w.alloc (.cells #[.slice none 0 0] 26)).alloc (.map #[] 0)).alloc (.cells #[.map (some (w.heap.size + 1))] 73)) := (b1.trans (b2.mono (by omega))).trans (b3.mono (by omega))
  refine ⟨hb, by simp; omega, ⟨Nat.le_refl _, by omega, by omega⟩, ⟨by omega, by omega, by omega⟩, ?_, ?_, ?_, World.ownsRow_nil _ _ _ _, fun g hg => (by cases hg), ?_⟩
  · have e : ((w.alloc (.cells #[.slice none 0 0] 26)).alloc (.map #[] 0)).heap.size = w.heap.size + 2 := s2
    unfold World.cell?
    rw [show (⟨w.heap.size + 2, 0, none⟩ : Addr).block = ((w.alloc (.cells #[.slice none 0 0] 26)).alloc (.map #[] 0)).heap.size from e.symm, heap_alloc_new]
    rfl
  · rw [b3.cell (p := ⟨w.heap.size, 0, none⟩) (by show w.heap.size < _; omega), b2.cell (p := ⟨w.heap.size, 0, none⟩) (by show w.heap.size < _; omega)]
    go_simp
  · rw [b3.frozen (p := ⟨w.heap.size, 0, none⟩) (by show w.heap.size < _; omega), b2.frozen (p := ⟨w.heap.size, 0, none⟩) (by show w.heap.size < _; omega)]
    exact Lib.frozen_of_heap (heap_alloc_new w _) 0
  · exact hm.of_block (b3.block _ (by omega))
theorem run_makeSet (u : World) : (Instr.makeMap 73 none).run Tryd.prog u = .ok (.map (some u.heap.size)) (u.alloc (.map #[] 0)) := by kernel_rfl
set_option maxHeartbeats 1600000 in
theorem variablesAtom_any (ba : Nat) (a : Option Addr) (c : Nat) (ts : List T) (w : World) (hba : ba < w.heap.size) (hc : w.cell? ⟨ba, 1, none⟩ = some (.slice a ts.length c)) (hL : Lt w (.slice a ts.length c) ts) (hn : ts.length ≤ 4398046511104) :
    Calls Tryd.prog 55 #[.iface 122 (.pointer (some ⟨ba, 0, none⟩))] w fun e w' => ∃ sv, e = .returned sv ∧ w'.ownsRow w.heap.size 9 1 sv (vsT [] ts).length ((vsT [] ts).flatMap strB) ∧ Below w.heap.size w w' := by
  have HW : Hid _ := walkAtom_any (vst_new w) rfl ba 0 hba a c ts hc hL (by simpa using hn)
  unfold handV at HW
  have hmk := run_makeSet
  clear hc hL
  go_enter Tryd.func55, Tryd.ntmps55
  go_wp2_with fail
  refine Calls.mono HW.out ?_
  rintro e w2 ⟨⟨u, rfl⟩, sv2, hv2⟩
  have c0 := hv2.co
  obtain ⟨a2, c2, rfl, _⟩ := own_form hv2.own
  go_wp2
  go_ret
  exact ⟨_, rfl, hv2.own, hv2.bel⟩
theorem vatomVars_any (pr : ByteArray) (v : Value) (ts : List T) (w : World) (hn : ts.length ≤ 4398046511104) (hl : Lt w v ts) : Calls Tryd.prog 36 #[.agg #[.string pr, v]] w fun e w' => ∃ sv, e = .returned sv ∧ w'.ownsRow w.heap.size 9 1 sv (vsT [] ts).length ((vsT [] ts).flatMap strB) ∧ Below w.heap.size w w' := by
  obtain ⟨a, c, rfl, hc1, hc2, -⟩ := hl.form
  have b0 := (Below.refl w.heap.size w).alloc (Nat.le_refl _) (.cells #[.string pr, .slice a ts.length c] 44)
  have HV : Hid _ := variablesAtom_any w.heap.size a c ts (w.alloc (.cells #[.string pr, .slice a ts.length c] 44)) (by simp) (by go_simp) (hl.below b0) hn
  clear hl
  go_enter Tryd.func36, Tryd.ntmps36
  go_wp2_with fail
  refine Calls.mono HV.out ?_
  rintro e w1 ⟨sv, rfl, ho, b1⟩
  go_wp2
  go_ret
  exact ⟨_, rfl, Go.Joins.ownsRow_le ho (by simp), b0.trans (b1.mono b0.size)⟩
end Go.Proofs.YteabclfhmapabaaDoor
end
section
namespace Go.Proofs.YteabclfhmapabaaDoor
open Go.RowKit Go.Maps
set_option linter.unusedVariables false
set_option linter.unusedSimpArgs false
attribute [local go_sem ↓] Go.wp_at_zero Go.wp_at_succ

theorem below_drewN {B : Nat} {a w : World} (h : Below B a w) (n : Nat) : Below B a (w.drewN n) := ⟨h.os, h.tape, h.output, h.size, h.block⟩
/-- an expression: its operation, its term, its kids -/
inductive E where
  | mk (op : Int) (t : T) (kids : List E)
def E.op : E → Int | .mk o _ _ => o
def E.t : E → T | .mk _ t _ => t
def E.kids : E → List E | .mk _ _ k => k
theorem op_mk (o : Int) (t : T) (k : List E) : (E.mk o t k).op = o := rfl
theorem t_mk (o : Int) (t : T) (k : List E) : (E.mk o t k).t = t := rfl
theorem kids_mk (o : Int) (t : T) (k : List E) : (E.mk o t k).kids = k := rfl
def E0 : E := .mk 0 T0 []
def atE (l : List E) (i : Nat) : E := l.getD i E0
theorem atE_eq {l : List E} {i : Nat} (h : i < l.length) : atE l i = l[i] := by simp [atE, List.getD, List.getElem?_eq_getElem h]

/-- how many kids an operation has -/
def kidTab : List Int := [0, 1, 2, 2, 2, 2, 2, 2, 1, 1, 1]
def kidsOf (op : Nat) : Nat := (kidTab.getD op 0).toNat
/-- is it a term that is no blank? -/
def namedB (t : T) : Bool := !decide (t.v = blankS) && termB t
/-- is it an expression as it may be, of at most room levels? -/
def exprB : Nat → E → Bool
  | 0, _ => false
  | r + 1, e => decide (0 ≤ e.op) && decide (e.op < 11) && decide (e.kids.length = kidsOf e.op.toNat) && (if e.op = 0 then namedB e.t else e.kids.all (exprB r) && decide (e.t = T0))

/-- an expression's six cells, at a place -/
structure XAt (w : World) (g o : Nat) (op : Int) (t : T) (s : Value) : Prop where
  c0 : w.cell? ⟨g, o, none⟩ = some (.int .i8 op)
  c1 : w.cell? ⟨g, o + 1, none⟩ = some (.string t.v)
  c2 : w.cell? ⟨g, o + 2, none⟩ = some (.int .i8 t.a.k)
  c3 : w.cell? ⟨g, o + 3, none⟩ = some (.int .i64 t.a.n)
  c4 : w.cell? ⟨g, o + 4, none⟩ = some (.string t.a.s)
  c5 : w.cell? ⟨g, o + 5, none⟩ = some s
theorem XAt.below {w w' : World} {g o : Nat} {op : Int} {t : T} {s : Value} (h : XAt w g o op t s) (b : Below w.heap.size w w') (hg : g < w.heap.size) : XAt w' g o op t s :=
  ⟨by rw [b.cell (p := ⟨g, o, none⟩) hg]; exact h.c0, by rw [b.cell (p := ⟨g, o + 1, none⟩) hg]; exact h.c1, by rw [b.cell (p := ⟨g, o + 2, none⟩) hg]; exact h.c2, by rw [b.cell (p := ⟨g, o + 3, none⟩) hg]; exact h.c3, by rw [b.cell (p := ⟨g, o + 4, none⟩) hg]; exact h.c4, by rw [b.cell (p := ⟨g, o + 5, none⟩) hg]; exact h.c5⟩

/-- an expression whose kids lie in memory, to a depth: its kids' row is at a, with room for c -/
def EIs (w : World) : Nat → E → Option Addr → Nat → Prop
  | 0, _, _, _ => False
  | d + 1, e, a, c => ((-128 ≤ e.op ∧ e.op ≤ 127) ∧ e.kids.length ≤ 281474976710656) ∧ e.t.wf ∧ e.kids.length ≤ c ∧ c ≤ maxLen ∧
    (0 < e.kids.length → ∃ g off, a = some ⟨g, off, none⟩ ∧ g < w.heap.size ∧ ∀ i, i < e.kids.length → ∃ a' c', XAt w g (off + i * 6) (atE e.kids i).op (atE e.kids i).t (.slice a' (atE e.kids i).kids.length c') ∧ EIs w d (atE e.kids i) a' c')
theorem EIs.below {w w' : World} (b : Below w.heap.size w w') : ∀ {d : Nat} {e : E} {a : Option Addr} {c : Nat}, EIs w d e a c → EIs w' d e a c
  | 0, _, _, _, h => h
  | d + 1, e, a, c, h => by
    obtain ⟨h1, h2, h3, h4, h5⟩ := h
    refine ⟨h1, h2, h3, h4, fun h0 => ?_⟩
    obtain ⟨g, off, ha, hg, hk⟩ := h5 h0
    refine ⟨g, off, ha, Nat.lt_of_lt_of_le hg b.size, fun i hi => ?_⟩
    obtain ⟨a', c', hx, he⟩ := hk i hi
    exact ⟨a', c', hx.below b hg, he.below b⟩
theorem EIs.more {w : World} : ∀ {d : Nat} {e : E} {a : Option Addr} {c : Nat}, EIs w d e a c → EIs w (d + 1) e a c
  | 0, _, _, _, h => h.elim
  | d + 1, e, a, c, h => by
    obtain ⟨h1, h2, h3, h4, h5⟩ := h
    refine ⟨h1, h2, h3, h4, fun h0 => ?_⟩
    obtain ⟨g, off, ha, hg, hk⟩ := h5 h0
    refine ⟨g, off, ha, hg, fun i hi => ?_⟩
    obtain ⟨a', c', hx, he⟩ := hk i hi
    exact ⟨a', c', hx, he.more⟩
def E.val (e : E) (a : Option Addr) (c : Nat) : Value := .agg #[.int .i8 e.op, .string e.t.v, .int .i8 e.t.a.k, .int .i64 e.t.a.n, .string e.t.a.s, .slice a e.kids.length c]

theorem allE_not {f : E → Bool} {l : List E} {k : Nat} (h : k < l.length) (hn : f (atE l k) = false) : l.all f = false := by
  rw [← Bool.not_eq_true]
  intro ha
  rw [List.all_eq_true] at ha
  rw [atE_eq h] at hn
  rw [ha _ (List.getElem_mem h)] at hn
  cases hn
theorem allE_take {f : E → Bool} {l : List E} {k : Nat} (h : k < l.length) : (l.take (k + 1)).all f = ((l.take k).all f && f (atE l k)) := by
  have e : l.take (k + 1) = l.take k ++ [l[k]] := by rw [List.take_add_one, List.getElem?_eq_getElem h]; rfl
  rw [e, List.all_append, atE_eq h]
  simp

/-- the table of the numbers of kids lies at its place -/
structure KT (w : World) : Prop where
  lt : 0 < w.heap.size
  cell : ∀ i : Nat, i < 11 → w.cell? ⟨0, i, none⟩ = some (.int .i64 (kidsOf i : Int))
theorem KT.below {w w' : World} (t : KT w) (h : Below w.heap.size w w') : KT w' :=
  ⟨Nat.lt_of_lt_of_le t.lt h.size, fun i hi => by rw [h.cell (p := ⟨_, i, none⟩) t.lt]; exact t.cell i hi⟩

theorem run_eqT (t u : T) (w : World) :
    (binOp .eql 51 (.agg #[.string t.v, .int .i8 t.a.k, .int .i64 t.a.n, .string t.a.s]) (.agg #[.string u.v, .int .i8 u.a.k, .int .i64 u.a.n, .string u.a.s])).run Tryd.prog w = .ok (.bool (decide (t = u))) w := by
  obtain ⟨tv, k1, n1, s1⟩ := t
  obtain ⟨uv, k2, n2, s2⟩ := u
  dsimp only
  by_cases hv : tv.toList = uv.toList
  · have ev := toList_inj hv
    subst ev
    by_cases hk : k1 = k2
    · by_cases hn : n1 = n2
      · by_cases hs : s1.toList = s2.toList
        · have := toList_inj hs
          subst hk hn this
          go_simp
        · have e : decide ((⟨tv, k1, n1, s1⟩ : T) = ⟨tv, k2, n2, s2⟩) = false := decide_eq_false (fun h => hs (by cases h; rfl))
          rw [e]
          go_simp
      · have e : decide ((⟨tv, k1, n1, s1⟩ : T) = ⟨tv, k2, n2, s2⟩) = false := decide_eq_false (fun h => hn (by cases h; rfl))
        rw [e]
        go_simp
    · have e : decide ((⟨tv, k1, n1, s1⟩ : T) = ⟨tv, k2, n2, s2⟩) = false := decide_eq_false (fun h => hk (by cases h; rfl))
      rw [e]
      go_simp
  · have e : decide ((⟨tv, k1, n1, s1⟩ : T) = ⟨uv, k2, n2, s2⟩) = false := decide_eq_false (fun h => hv (by cases h; rfl))
    rw [e]
    go_simp

theorem isNamed_any (t : T) (w : World) (ht : t.wf) : Calls Tryd.prog 67 #[t.val] w fun e w' => e = .returned (.bool (namedB t)) ∧ Below w.heap.size w w' := by
  have hN : Hid (namedB t = (!decide (t.v = blankS) && termB t)) := rfl
  have ht' := ht
  obtain ⟨tv, k, n, s⟩ := t
  unfold T.val
  dsimp only at *
  by_cases eb : tv = blankS
  · have HF : Hid (namedB ⟨tv, k, n, s⟩ = false) := by show _ = _; rw [hN.out]; simp [eb]
    subst eb
    unfold blankS at *
    go_enter Tryd.func67, Tryd.ntmps67
    go_wp2
    go_ret
    exact ⟨ret_bool HF.out.symm, ((Below.refl _ _).alloc (Nat.le_refl _) _)⟩
  · have hb0 := blank_iff eb
    have HF : Hid (namedB ⟨tv, k, n, s⟩ = termB ⟨tv, k, n, s⟩) := by show _ = _; rw [hN.out]; simp [eb]
    clear hN eb
    go_enter Tryd.func67, Tryd.ntmps67
    go_wp2_with (go_at_call 75; refine (isTerm_any ⟨tv, k, n, s⟩ _ ht').mono ?_; rintro e w1 ⟨rfl, b1⟩)
    go_ret
    exact ⟨ret_bool HF.out.symm, ((Below.refl _ _).alloc (Nat.le_refl _) _).trans (b1.mono (by simp))⟩

theorem exprB_no {r : Nat} {e : E} (h : ¬ (0 ≤ e.op ∧ e.op < 11 ∧ e.kids.length = kidsOf e.op.toNat)) : exprB (r + 1) e = false := by
  unfold exprB
  by_cases h1 : 0 ≤ e.op
  · by_cases h2 : e.op < 11
    · have h3 : ¬ e.kids.length = kidsOf e.op.toNat := fun h3 => h ⟨h1, h2, h3⟩
      rw [decide_eq_false h3]; simp
    · rw [decide_eq_false h2]; simp
  · rw [decide_eq_false h1]; simp
theorem exprB_leaf {r : Nat} {e : E} (h1 : e.op = 0) (h2 : e.kids.length = 0) : exprB (r + 1) e = namedB e.t := by
  unfold exprB
  rw [h1, if_pos rfl, h2]
  simp [kidsOf, kidTab]
theorem exprB_kids {r : Nat} {e : E} (h0 : 0 ≤ e.op) (h1 : e.op < 11) (h2 : e.kids.length = kidsOf e.op.toNat) (h3 : ¬ e.op = 0) : exprB (r + 1) e = (e.kids.all (exprB r) && decide (e.t = T0)) := by
  unfold exprB
  rw [if_neg h3, decide_eq_true h0, decide_eq_true h1, decide_eq_true h2]
  simp
set_option maxHeartbeats 3200000 in
theorem isExpr_any : ∀ (room : Nat) (d : Nat) (e : E) (a : Option Addr) (c : Nat) (w : World), room ≤ 1000 → KT w → EIs w d e a c →
    Calls Tryd.prog 70 #[e.val a c, .int .i64 room] w fun r w' => r = .returned (.bool (exprB room e)) ∧ Below w.heap.size w w' := by
  intro room
  induction room with
  | zero =>
    intro d e a c w hr hT hE
    have HF : Hid (exprB 0 e = false) := rfl
    unfold E.val
    go_enter Tryd.func70, Tryd.ntmps70
    go_wp2_with fail
    go_quiet (fail)
    go_wp2
    go_ret
    exact ⟨ret_bool HF.out.symm, below_drewN ((Below.refl _ _).alloc (Nat.le_refl _) _) _⟩
  | succ r ih =>
    intro d e a c w hr hT hE
    cases d with
    | zero => exact hE.elim
    | succ d =>
    obtain ⟨hop, htw, hc1, hc2, hk⟩ := hE
    obtain ⟨m, hm⟩ : ∃ m : Nat, r + 1 = m := ⟨_, rfl⟩
    have hm1 : ((m : Int) == 0) = false := by rw [beq_eq_false_iff_ne]; omega
    have hmr : (m : Int) - 1 = (r : Int) := by omega
    have hrw : IntKind.i64.wrap (r : Int) = (r : Int) := by simp [IntKind.wrap, IntKind.bits, IntKind.signed]; omega
    have HNO : Hid (¬ (0 ≤ e.op ∧ e.op < 11 ∧ e.kids.length = kidsOf e.op.toNat) → exprB m e = false) := by rw [← hm]; exact exprB_no
    have HLE : Hid (e.op = 0 → e.kids.length = 0 → exprB m e = namedB e.t) := by rw [← hm]; exact exprB_leaf
    have HKI : Hid (0 ≤ e.op → e.op < 11 → e.kids.length = kidsOf e.op.toNat → ¬ e.op = 0 → exprB m e = (e.kids.all (exprB r) && decide (e.t = T0))) := by rw [← hm]; exact exprB_kids
    have IH : Hid _ := ih
    clear ih
    rw [hm]
    have hlen : e.kids.length ≤ maxLen := Nat.le_trans hc1 hc2
    unfold maxLen at hlen
    have HR : Hid (r ≤ 1000) := by show r ≤ 1000; omega
    clear hm hr
    obtain ⟨op, t, kids⟩ := e
    unfold E.val
    simp only [op_mk, t_mk, kids_mk] at *
    have HK : Hid _ := hk
    clear hk
    by_cases h0 : op < 0
    · have HF : Hid (exprB m (.mk op t kids) = false) := HNO.out (by omega)
      go_enter Tryd.func70, Tryd.ntmps70
      go_wp2_with fail
      go_quiet (fail)
      go_wp2
      go_ret
      exact ⟨ret_bool HF.out.symm, below_drewN ((Below.refl _ _).alloc (Nat.le_refl _) _) _⟩
    · by_cases h11 : 11 ≤ op
      · have HF : Hid (exprB m (.mk op t kids) = false) := HNO.out (by omega)
        have d0 : decide (op < 0) = false := decide_eq_false h0
        have d1 : IntKind.i64.wrap op = op := by simp [IntKind.wrap, IntKind.bits, IntKind.signed]; omega
        have d2 : decide (11 ≤ op) = true := decide_eq_true h11
        clear h0 h11
        go_enter Tryd.func70, Tryd.ntmps70
        go_wp2_with fail
        go_quiet (fail)
        go_wp2
        go_ret
        exact ⟨ret_bool HF.out.symm, below_drewN ((Below.refl _ _).alloc (Nat.le_refl _) _) _⟩
      · obtain ⟨p, rfl⟩ : ∃ p : Nat, op = p := ⟨op.toNat, by omega⟩
        have hp11 : p < 11 := by omega
        have hp11' : (p : Int) < 11 := by omega
        have d0 : decide ((p : Int) < 0) = false := decide_eq_false h0
        have d1 : IntKind.i64.wrap (p : Int) = (p : Int) := by simp [IntKind.wrap, IntKind.bits, IntKind.signed]; omega
        have d2 : decide (11 ≤ (p : Int)) = false := decide_eq_false h11
        clear h0 h11
        have BA := (Below.refl w.heap.size w).alloc (Nat.le_refl _) (.cells #[.int .i8 (p : Int), .string t.v, .int .i8 t.a.k, .int .i64 t.a.n, .string t.a.s, .slice a kids.length c] 54)
        have ct := (hT.below BA).cell p hp11
        by_cases hkn : kids.length = kidsOf p
        · have hkn' : ((kids.length : Int) != (kidsOf p : Int)) = false := by rw [hkn]; simp
          have HXB : Hid (∀ n, XAt ((w.alloc (.cells #[.int .i8 (p : Int), .string t.v, .int .i8 t.a.k, .int .i64 t.a.n, .string t.a.s, .slice a kids.length c] 54)).drewN n) w.heap.size 0 p t (.slice a kids.length c) ∧ Below w.heap.size w ((w.alloc (.cells #[.int .i8 (p : Int), .string t.v, .int .i8 t.a.k, .int .i64 t.a.n, .string t.a.s, .slice a kids.length c] 54)).drewN n)) := fun n => ⟨⟨by go_simp, by go_simp, by go_simp, by go_simp, by go_simp, by go_simp⟩, below_drewN BA n⟩
          by_cases hp0 : p = 0
          · have HF : Hid (exprB m (.mk p t kids) = namedB t) := HLE.out (by omega) (by rw [hkn, hp0]; rfl)
            have dp : ((p : Int) == 0) = true := by rw [hp0]; rfl
            clear BA HNO HLE HKI IH HK hkn hT hp0
            generalize kidsOf p = q at ct hkn'
            go_enter Tryd.func70, Tryd.ntmps70
            go_wp2_with fail
            go_quiet (fail)
            obtain ⟨hX, hB⟩ := HXB.out nq
            clear HXB ct
            generalize World.drewN _ nq = W at hX hB ⊢
            obtain ⟨x0, x1, x2, x3, x4, x5⟩ := hX
            go_wp2_with (go_at_call 67; refine (isNamed_any t _ htw).mono ?_; rintro e w1 ⟨rfl, b1⟩)
            go_ret
            exact ⟨ret_bool HF.out.symm, hB.trans (b1.mono hB.size)⟩
          · have HF : Hid (exprB m (.mk p t kids) = (kids.all (exprB r) && decide (t = T0))) := HKI.out (by omega) (by omega) (by rw [Int.toNat_natCast]; exact hkn) (by omega)
            have dp : ((p : Int) == 0) = false := by rw [beq_eq_false_iff_ne]; omega
            have hE := run_eqT t T0
            unfold T0 V0 noS at hE
            dsimp only at hE
            have HE : Hid (decide (t = T0) = decide (t = ⟨⟨#[]⟩, ⟨0, 0, ⟨#[]⟩⟩⟩)) := rfl
            clear BA HNO HLE HKI hkn hp0
            generalize kidsOf p = q at ct hkn'
            go_enter Tryd.func70, Tryd.ntmps70
            go_wp2_with fail
            go_quiet (fail)
            obtain ⟨hX, hB⟩ := HXB.out nq
            clear HXB ct
            generalize World.drewN _ nq = W at hX hB ⊢
            have hWlt : w.heap.size < W.heap.size := World.block_lt_of_cell? _ _ hX.c0
            have x0 := hX.c0
            have x5 := hX.c5
            simp only [Nat.zero_add] at x5
            have HX : Hid _ := hX
            clear hX
            go_wp2
            go_loopw [39] (fun i wr => ∃ k : Nat, k ≤ kids.length ∧ i = .int .i64 k ∧ Below W.heap.size W wr ∧ Hid ((kids.take k).all (exprB r) = true)) (fun i _ => kids.length - (intOf i).toNat)
            case atStart => exact ⟨0, Nat.zero_le _, rfl, Below.refl _ _, by simp [Hid]⟩
            case round =>
              obtain ⟨k, hk, rfl, bel, HS⟩ := hrel
              have belw : Below w.heap.size w wr := hB.trans (bel.mono hB.size)
              by_cases hlt : k < kids.length
              · have hlt' : (k : Int) < (kids.length : Int) := by omega
                obtain ⟨g, off, rfl, hg, hKS⟩ := HK.out (by omega)
                obtain ⟨a', c', hx, he⟩ := hKS k hlt
                obtain ⟨y0, y1, y2, y3, y4, y5⟩ := hx.below belw hg
                have he' := he.below belw
                have HN : Hid (exprB r (atE kids k) = false → exprB m (.mk p t kids) = false) := fun h => by rw [HF.out, allE_not hlt h]; rfl
                have HY : Hid (exprB r (atE kids k) = true → (kids.take (k + 1)).all (exprB r) = true) := fun h => by rw [allE_take hlt, HS.out, h]; rfl
                generalize atE kids k = x at y0 y1 y2 y3 y4 y5 he' HN HY
                have HEI : Hid _ := he'
                clear hKS hx he he' x0 x5
                have belA := (Below.refl wr.heap.size wr).alloc (Nat.le_refl _) (.cells #[.int .i8 x.op, .string x.t.v, .int .i8 x.t.a.k, .int .i64 x.t.a.n, .string x.t.a.s, .slice a' x.kids.length c'] 54)
                go_wp2_with fail
                refine (IH.out d x a' c' _ HR.out (hT.below (belw.trans (belA.mono belw.size))) (HEI.out.below belA)).mono ?_
                rintro ee w2 ⟨rfl, b2⟩
                have b2' := bel.trans ((belA.trans (b2.mono belA.size)).mono bel.size)
                cases ht : exprB r x
                · go_wp2
                  go_ret
                  exact ⟨ret_bool (HN.out ht).symm, hB.trans (b2'.mono hB.size)⟩
                · go_wp2
                  go_roundw
                  case rel => exact ⟨k + 1, by omega, by go_num, b2', HY.out ht⟩
                  case measure => simp [intOf]; omega
              · obtain rfl : k = kids.length := by omega
                obtain ⟨z0, z1, z2, z3, z4, z5⟩ := HX.out.below bel hWlt
                go_wp2
                go_ret
                have hs := HS.out
                rw [List.take_length] at hs
                exact ⟨ret_bool (by rw [HF.out, ← HE.out, hs]; rfl), belw⟩
        · have HF : Hid (exprB m (.mk p t kids) = false) := HNO.out (by rw [Int.toNat_natCast]; omega)
          have hkn' : ((kids.length : Int) != (kidsOf p : Int)) = true := by rw [bne_iff_ne]; omega
          clear BA HNO HLE HKI IH HK hkn
          generalize kidsOf p = q at ct hkn'
          go_enter Tryd.func70, Tryd.ntmps70
          go_wp2_with fail
          go_quiet (fail)
          go_wp2
          go_ret
          exact ⟨ret_bool HF.out.symm, below_drewN ((Below.refl _ _).alloc (Nat.le_refl _) _) _⟩
end Go.Proofs.YteabclfhmapabaaDoor
end
section
namespace Go.Proofs.YteabclfhmapabaaDoor
open Go.RowKit Go.Maps
set_option linter.unusedVariables false
set_option linter.unusedSimpArgs false

theorem infoE : (Tryd.prog.info? 54).map (fun i => (i.zero, i.size, i.bytes)) = some (some (.agg #[.int .i8 0, .string ⟨#[]⟩, .int .i8 0, .int .i64 0, .string ⟨#[]⟩, .slice none 0 0]), 6, 80) := by kernel_rfl

/-- no list within has more than 2^20 -/
def smallE : Nat → E → Prop
  | 0, _ => True
  | d + 1, e => e.kids.length ≤ 1048576 ∧ ∀ i, i < e.kids.length → smallE d (atE e.kids i)
/-- a copy: a row of its own for the kids, with a mark behind it -/
def markW : ByteArray := ⟨#[35, 55, 55, 55, 55, 55, 55]⟩
def TwIs (w : World) (lo : Nat) : Nat → E → Option Addr → Nat → Prop
  | 0, _, _, _ => False
  | d + 1, e, a, c => c = e.kids.length + 1 ∧ ∃ g, a = some ⟨g, 0, none⟩ ∧ lo ≤ g ∧ g < w.heap.size ∧ XAt w g (e.kids.length * 6) 99 ⟨markW, V0⟩ (.slice none 0 0) ∧
    ∀ i, i < e.kids.length → ∃ a' c', XAt w g (i * 6) (atE e.kids i).op (atE e.kids i).t (.slice a' (atE e.kids i).kids.length c') ∧ TwIs w lo d (atE e.kids i) a' c'
theorem XAt.of {w w' : World} {g o : Nat} {op : Int} {t : T} {s : Value} (h : XAt w g o op t s) (e : w'.heap[g]? = w.heap[g]?) : XAt w' g o op t s := by
  have hc : ∀ j, w'.cell? ⟨g, j, none⟩ = w.cell? ⟨g, j, none⟩ := fun j => by unfold World.cell?; rw [e]
  exact ⟨(hc _).trans h.c0, (hc _).trans h.c1, (hc _).trans h.c2, (hc _).trans h.c3, (hc _).trans h.c4, (hc _).trans h.c5⟩
theorem TwIs.of {w w' : World} {lo : Nat} (hs : w.heap.size ≤ w'.heap.size) (hh : ∀ k, lo ≤ k → k < w.heap.size → w'.heap[k]? = w.heap[k]?) : ∀ {d : Nat} {e : E} {a : Option Addr} {c : Nat}, TwIs w lo d e a c → TwIs w' lo d e a c
  | 0, _, _, _, h => h
  | d + 1, e, a, c, h => by
    obtain ⟨h1, g, h2, hl, hg, hm, hk⟩ := h
    refine ⟨h1, g, h2, hl, Nat.lt_of_lt_of_le hg hs, hm.of (hh g hl hg), fun i hi => ?_⟩
    obtain ⟨a', c', hx, he⟩ := hk i hi
    exact ⟨a', c', hx.of (hh g hl hg), he.of hs hh⟩
theorem TwIs.below {w w' : World} {lo : Nat} (b : Below w.heap.size w w') {d : Nat} {e : E} {a : Option Addr} {c : Nat} (h : TwIs w lo d e a c) : TwIs w' lo d e a c := h.of b.size (fun k _ hk => b.block k hk)
theorem TwIs.set {w : World} {lo b j : Nat} {v : Value} (hb : b < lo) {d : Nat} {e : E} {a : Option Addr} {c : Nat} (h : TwIs w lo d e a c) : TwIs (w.setCell ⟨b, j, none⟩ v) lo d e a c :=
  h.of (by simp) (fun k hk _ => heap_setCell_other _ _ _ _ (by show k ≠ b; omega))
theorem TwIs.lower {w : World} {lo lo' : Nat} (hl : lo' ≤ lo) : ∀ {d : Nat} {e : E} {a : Option Addr} {c : Nat}, TwIs w lo d e a c → TwIs w lo' d e a c
  | 0, _, _, _, h => h
  | d + 1, e, a, c, h => by
    obtain ⟨h1, g, h2, h3, hg, hm, hk⟩ := h
    refine ⟨h1, g, h2, Nat.le_trans hl h3, hg, hm, fun i hi => ?_⟩
    obtain ⟨a', c', hx, he⟩ := hk i hi
    exact ⟨a', c', hx, he.lower hl⟩
theorem TwIs.eis {w w0 : World} {lo : Nat} : ∀ {d : Nat} {e : E} {a a0 : Option Addr} {c c0 : Nat}, TwIs w lo d e a c → EIs w0 d e a0 c0 → EIs w d e a c
  | 0, _, _, _, _, _, h, _ => h.elim
  | d + 1, e, a, a0, c, c0, h, h0 => by
    obtain ⟨rfl, g, rfl, _, hg, hm, hk⟩ := h
    obtain ⟨e1, e2, e3, e4, e5⟩ := h0
    refine ⟨e1, e2, by omega, by unfold maxLen; omega, fun hp => ⟨g, 0, rfl, hg, fun i hi => ?_⟩⟩
    obtain ⟨_, _, _, _, hK⟩ := e5 hp
    obtain ⟨a1, c1, _, hE1⟩ := hK i hi
    obtain ⟨a', c', hx, he⟩ := hk i hi
    rw [Nat.zero_add]
    exact ⟨a', c', hx, he.eis hE1⟩
end Go.Proofs.YteabclfhmapabaaDoor
end
