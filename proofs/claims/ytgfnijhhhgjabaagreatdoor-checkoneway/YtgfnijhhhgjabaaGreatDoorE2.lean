import Derived.Test.YtgfnijhhhgjabaaGreatDoorE1
import Derived.Test.YtgfnijhhhgjabaaGreatDoorG27
import Derived.Test.YtgfnijhhhgjabaaGreatDoorTermHandQ
import Derived.Test.YtgfnijhhhgjabaaGreatDoorA5
section
namespace Go.Proofs.YtgfnijhhhgjabaaGreatDoor.EV
open Go.RowKit Go.Maps
set_option linter.unusedVariables false
set_option linter.unusedSimpArgs false

/-! what an expression's value is -/
def kV (vs : List V) : Nat → Int := fun i => (atV vs i).k
def nV (vs : List V) : Nat → Int := fun i => (atV vs i).n
def sV (vs : List V) : Nat → ByteArray := fun i => (atV vs i).s
def arRes (op : Int) (vs : List V) : AR.Res := AR.arithR op vs.length (kV vs) (nV vs) (sV vs)
def arO (op : Int) (vs : List V) : Option V := if (arRes op vs).ok then some ⟨(arRes op vs).k, (arRes op vs).n, (arRes op vs).s⟩ else none
theorem res_shape (op : Int) (n : Nat) (K N : Nat → Int) (S : Nat → ByteArray) : AR.arithR op n K N S = AR.noRes ∨ ((AR.arithR op n K N S).ok = true) := by
  unfold AR.arithR AR.numsR AR.textsR AR.joinR
  repeat' split
  all_goals first | exact .inl rfl | exact .inr rfl
theorem arO_val (op : Int) (vs : List V) : (arRes op vs).val = optV (arO op vs) := by
  unfold arO
  rcases res_shape op vs.length (kV vs) (nV vs) (sV vs) with h | h
  · have h' : arRes op vs = AR.noRes := h
    rw [h']
    rfl
  · have h' : (arRes op vs).ok = true := h
    rw [if_pos h']
    show AR.Res.val _ = _
    unfold AR.Res.val optV
    rw [h']
theorem wf64 {n : Int} (h : (Lit.int .i64 n).wf = true) : AR.In64 n := by
  simp only [Lit.wf, Bool.and_eq_true, decide_eq_true_eq] at h
  exact h
theorem wf64' {n : Int} (h : AR.In64 n) : (Lit.int .i64 n).wf = true := by
  simp only [Lit.wf, Bool.and_eq_true, decide_eq_true_eq]
  exact h
theorem nV_in {vs : List V} (h : ∀ x ∈ vs, x.wf) (i : Nat) (hi : i < vs.length) : AR.In64 (nV vs i) := by
  unfold nV
  rw [atV_eq hi]
  exact wf64 (h _ (List.getElem_mem hi)).num
theorem sV_len {vs : List V} (h : ∀ x ∈ vs, x.wf) (i : Nat) (hi : i < vs.length) : (sV vs i).size ≤ maxLen := by
  unfold sV
  rw [atV_eq hi]
  exact (h _ (List.getElem_mem hi)).text
theorem arRes_wf {op : Int} {n : Nat} {K N : Nat → Int} {S : Nat → ByteArray} (hN : ∀ i, i < n → AR.In64 (N i)) : (⟨(AR.arithR op n K N S).k, (AR.arithR op n K N S).n, (AR.arithR op n K N S).s⟩ : V).wf := by
  have no : (⟨AR.noRes.k, AR.noRes.n, AR.noRes.s⟩ : V).wf := ⟨by decide, by decide, by decide⟩
  have num : ∀ x, AR.In64 x → (⟨(AR.numRes x).k, (AR.numRes x).n, (AR.numRes x).s⟩ : V).wf := fun x hx => ⟨by show (Lit.int .i8 1).wf = true; decide, wf64' hx, by show (⟨#[]⟩ : ByteArray).size ≤ _; decide⟩
  have txt : ∀ x : ByteArray, x.size ≤ 200 → (⟨(AR.txtRes x).k, (AR.txtRes x).n, (AR.txtRes x).s⟩ : V).wf := fun x hx => ⟨by show (Lit.int .i8 2).wf = true; decide, by show (Lit.int .i64 0).wf = true; decide, by show x.size ≤ _; unfold maxLen; omega⟩
  have small : ∀ x : Nat, x ≤ 200 → AR.In64 (x : Int) := fun x hx => by unfold AR.In64; omega
  unfold AR.arithR
  split
  · exact num _ (AR.wrap_in _)
  split
  · rename_i hh
    obtain ⟨e, _⟩ := AR.areB_spec (count := 2) hh.2
    unfold AR.numsR
    repeat' split
    all_goals first | exact num _ (AR.wrap_in _) | exact no | exact num _ (AR.modW_in _ _ (hN 0 (by omega)))
  split
  · rename_i hh
    obtain ⟨e, hall⟩ := AR.areB_spec (count := 1) hh.2
    have h0 := hall 0 (by omega)
    rw [h0.1] at h0
    have hz := AR.chk_text h0.2
    unfold AR.textsR
    repeat' split
    · exact num _ (small _ hz)
    · exact num _ (small _ (Nat.le_trans (AR.starts_le _) hz))
    · exact txt _ (by rw [show (AR.backB (S 0)).size = (S 0).size from (AR.back_size _ _).trans (AR.backL_all _)]; exact hz)
  split
  · unfold AR.joinR
    split
    · exact no
    · rename_i h
      exact txt _ (by rw [ByteArray.size_append]; omega)
  · exact no
def workV (l : List B) : Nat → E → Option V
  | 0, _ => none
  | d + 1, e => if e.op = 0 then valOf e.t l else (e.kids.mapM (workV l d)).bind (arO e.op)
end Go.Proofs.YtgfnijhhhgjabaaGreatDoor.EV
end
section
namespace Go.Proofs.YtgfnijhhhgjabaaGreatDoor.EV
open Go.RowKit Go.Maps
set_option linter.unusedVariables false
set_option linter.unusedSimpArgs false
attribute [local go_sem ↓] Go.wp_at_zero Go.wp_at_succ

theorem lv_lst {w : World} {v : Value} {l : List V} (h : Lv w v l) : AR.Lst w v l.length (kV l) (nV l) (sV l) := by
  have hwf := h.wf
  obtain ⟨a, c, rfl, h1, h2, h3⟩ := h.form
  refine ⟨Nat.le_trans h1 h2, ?_⟩
  by_cases h0 : 0 < l.length
  · obtain ⟨g, off, rfl, hg, hat⟩ := h3 h0
    exact .inr ⟨g, off, c, rfl, h1, h2, ⟨fun _ => hg, fun i hi => (hat i hi).c0, fun i hi => (hat i hi).c1, fun i hi => (hat i hi).c2, fun i hi => sV_len hwf i hi⟩⟩
  · exact .inl ⟨a, c, by rw [show l.length = 0 by omega], by omega⟩
theorem own_lv {w : World} {b : Nat} {v : Value} {l : List V} (h : w.ownsRow b 38 3 v l.length (l.flatMap V.cells)) (hw : ∀ x ∈ l, x.wf) : Lv w v l := ⟨ls_own h, hw⟩
theorem mapM_take {f : E → Option V} {ks : List E} {k : Nat} (h : k < ks.length) : (ks.take (k + 1)).mapM f = ((ks.take k).mapM f).bind (fun vs => (f (atE ks k)).map (fun v => vs ++ [v])) := by
  rw [List.take_succ_eq_append_getElem h, List.mapM_append, atE_eq h]
  cases (ks.take k).mapM f with
  | none => rfl
  | some vs =>
    cases hf : f ks[k] with
    | none => simp [hf]
    | some v => simp [hf]
theorem mapM_none {f : E → Option V} : ∀ {ks : List E} {k : Nat}, k < ks.length → f (atE ks k) = none → ks.mapM f = none
  | [], k, h, _ => by simp at h
  | x :: ks, 0, _, hn => by
    have : f x = none := hn
    simp [List.mapM_cons, this]
  | x :: ks, k + 1, h, hn => by
    have ih := mapM_none (f := f) (ks := ks) (k := k) (by simpa using h) hn
    rw [List.mapM_cons, ih]
    cases f x <;> rfl
theorem mapM_len {f : E → Option V} : ∀ {ks : List E} {vs : List V}, ks.mapM f = some vs → vs.length = ks.length
  | [], vs, h => by simp at h; rw [h]; rfl
  | x :: ks, vs, h => by
    rw [List.mapM_cons] at h
    cases hx : f x with
    | none => simp [hx] at h
    | some v =>
      cases hr : ks.mapM f with
      | none => simp [hx, hr] at h
      | some r =>
        simp [hx, hr] at h
        rw [← h, List.length_cons, List.length_cons, mapM_len hr]
theorem valOf_wf {t : T} {l : List B} {x : V} (ht : t.wf) (hl : ∀ b ∈ l, b.wf) (h : valOf t l = some x) : x.wf := by
  unfold valOf at h
  split at h
  · cases h
    exact ht.val
  · obtain ⟨h1, _⟩ := Option.filter_eq_some_iff.1 h
    have := seek_mem h1
    exact (hl _ this).val
theorem workV_wf {w : World} {l : List B} (hl : ∀ b ∈ l, b.wf) : ∀ (d : Nat) (e : E) (a : Option Addr) (c : Nat) (x : V), EIs w d e a c → workV l d e = some x → x.wf
  | 0, e, a, c, x, hE, _ => hE.elim
  | d + 1, e, a, c, x, hE, h => by
    obtain ⟨_, ht, _, _, hk⟩ := hE
    unfold workV at h
    split at h
    · exact valOf_wf ht hl h
    · obtain ⟨vs, hv, hr⟩ := Option.bind_eq_some_iff.1 h
      unfold arO at hr
      split at hr
      · simp only [Option.some.injEq] at hr
        rw [← hr]
        have hwf : ∀ (ks : List E) (vs : List V), (∀ i, i < ks.length → ∀ y, workV l d (atE ks i) = some y → y.wf) → ks.mapM (workV l d) = some vs → ∀ y ∈ vs, y.wf := by
          intro ks
          induction ks with
          | nil => intro vs _ h y hy; simp at h; rw [h] at hy; cases hy
          | cons z ks ih =>
            intro vs hz h y hy
            rw [List.mapM_cons] at h
            cases hx : workV l d z with
            | none => simp [hx] at h
            | some v =>
              cases hq : ks.mapM (workV l d) with
              | none => simp [hx, hq] at h
              | some r =>
                simp [hx, hq] at h
                rw [← h] at hy
                rcases List.mem_cons.1 hy with rfl | hy
                · exact hz 0 (by simp) _ hx
                · exact ih r (fun i hi => hz (i + 1) (by simpa using hi)) hq y hy
        have hvs := hwf e.kids vs (fun i hi y hy => by
          obtain ⟨g, off, _, _, hkk⟩ := hk (by omega)
          obtain ⟨a', c', _, he⟩ := hkk i hi
          exact workV_wf hl d _ a' c' y he hy) hv
        exact arRes_wf (fun i hi => nV_in hvs i hi)
      · cases hr
theorem infoValE : (Tryz.prog.info? 38).map (fun i => (i.zero, i.size, i.bytes)) = some (some (.agg #[.int .i8 0, .int .i64 0, .string ⟨#[]⟩]), 3, 32) := by kernel_rfl
/-- what work keeps: the expression's box, the result, the values that grow -/
structure WSt (w : World) (R : List Value) (vs : List V) (a' : Option Addr) (c' : Nat) (wr : World) : Prop where
  bel : Below w.heap.size w wr
  sz : w.heap.size + 2 ≤ wr.heap.size
  r0 : RL wr w.heap.size 53 R
  r1 : RL wr (w.heap.size + 1) 38 [.int .i8 0, .int .i64 0, .string ⟨#[]⟩]
  own : wr.ownsRow (w.heap.size + 2) 38 3 (.slice a' vs.length c') vs.length (vs.flatMap V.cells)
theorem WSt.keep {w : World} {R : List Value} {vs : List V} {a' : Option Addr} {c' : Nat} {wr wr' : World} (h : WSt w R vs a' c' wr) (b : Below wr.heap.size wr wr') : WSt w R vs a' c' wr' :=
  ⟨h.bel.trans (b.mono h.bel.size), Nat.le_trans h.sz b.size, h.r0.below b, h.r1.below b, own_below h.own b⟩
theorem WSt.step {w : World} {R : List Value} {vs : List V} {x : V} {a' : Option Addr} {c' : Nat} {U w3 : World} {v' : Value} (h : WSt w R vs a' c' U)
    (hown' : w3.ownsRow (w.heap.size + 2) 38 3 v' (vs.length + 1) (vs.flatMap V.cells ++ V.cells x)) (hgrow : U.grownBy w3 (Value.slice a' vs.length c').ownBlock) :
    ∃ a2 c2, v' = .slice a2 (vs ++ [x]).length c2 ∧ WSt w R (vs ++ [x]) a2 c2 w3 := by
  obtain ⟨a2, c2, rfl, _⟩ := own_form hown'
  have hlt := fun g (hg : (Value.slice a' vs.length c').ownBlock = some g) => (h.own.lt g hg).1
  have kb : ∀ j, j < w.heap.size + 2 → w3.heap[j]? = U.heap[j]? := fun j hj => hgrow.block j (Nat.lt_of_lt_of_le hj h.sz) (fun e => by have := hlt j e.symm; omega)
  have e1 : (vs ++ [x]).length = vs.length + 1 := by simp
  refine ⟨a2, c2, by rw [e1], ⟨h.bel.grown hgrow (by have := h.sz; omega) (fun j hj => by have := hlt j hj; omega), ?_, World.rowIs.of_block h.r0 (kb _ (by omega)), World.rowIs.of_block h.r1 (kb _ (by omega)), ?_⟩⟩
  · have h1 := h.sz
    have h2 := hgrow.size
    omega
  · rw [e1, List.flatMap_append]
    simpa using hown'
theorem wst_new (w : World) (R : Array Value) : WSt w R.toList [] none 0 ((w.alloc (.cells R 53)).alloc (.cells #[.int .i8 0, .int .i64 0, .string ⟨#[]⟩] 38)) := by
  have B1 : Below w.heap.size w (w.alloc (.cells R 53)) := (Below.refl _ _).alloc (Nat.le_refl _) _
  have r0 := rl_new w R 53
  have r1 := rl_new (w.alloc (.cells R 53)) #[.int .i8 0, .int .i64 0, .string ⟨#[]⟩] 38
  rw [World.size_alloc] at r1
  exact ⟨B1.alloc B1.size _, by simp, r0.below ((Below.refl _ _).alloc (Nat.le_refl _) _), r1, World.ownsRow_nil _ _ _ _⟩
theorem rl_results3 {fn : Func} {sl s2 : Nat} {ty : TypeId} (hr : fn.results = #[.cell sl ty, .tmp s2]) {W : World} {tmps : Array Value} {b : Nat} {v u : Value} (h2 : tmps.getD sl undef = .pointer (some ⟨b, 0, none⟩)) (h3 : tmps.getD s2 undef = u) (hl : (loadVar ty ⟨b, 0, none⟩).run Tryz.prog W = .ok v W) :
    (results fn tmps).run Tryz.prog W = .ok (.tuple #[v, u]) W := by
  have h2' : tmps[sl]?.getD undef = .pointer (some ⟨b, 0, none⟩) := by simpa using h2
  have h3' : tmps[s2]?.getD undef = u := by simpa using h3
  unfold results
  rw [hr]
  simp [h2', h3', asAddr, hl, Result.andThen]
theorem optV_form (o : Option V) : ∃ k n s b, optV o = .tuple #[.agg #[.int .i8 k, .int .i64 n, .string s], .bool b] := by
  cases o with
  | none => exact ⟨_, _, _, _, rfl⟩
  | some a => exact ⟨_, _, _, _, rfl⟩
/-- the named result, written and read -/
theorem work_done {fn : Func} {sl so : Nat} (hr : fn.results = #[.cell sl 38, .tmp so]) {w W : World} {tmps : Array Value} {b : Nat} {y : List Value} {k n : Int} {s : ByteArray} {ok : Bool} {o : Option V} (hB : w.heap.size ≤ b) (hb : Below w.heap.size w W) (h1 : RL W b 38 y) (hy : y.length = 3)
    (h2 : tmps.getD sl undef = .pointer (some ⟨b, 0, none⟩)) (h3 : tmps.getD so undef = .bool ok) (ho : optV o = .tuple #[.agg #[.int .i8 k, .int .i64 n, .string s], .bool ok]) :
    bodyPost Tryz.prog fn (fun e w' => e = .returned (optV o) ∧ Below w.heap.size w w') .ret { tmps := tmps, defers := [] } (((W.setCell ⟨b, 0, none⟩ (.int .i8 k)).setCell ⟨b, 1, none⟩ (.int .i64 n)).setCell ⟨b, 2, none⟩ (.string s)) := by
  obtain ⟨y0, y1, y2, rfl⟩ : ∃ y0 y1 y2, y = [y0, y1, y2] := by
    match y, hy with
    | [y0, y1, y2], _ => exact ⟨y0, y1, y2, rfl⟩
  refine bodyPost_ret (v := .tuple #[.agg #[.int .i8 k, .int .i64 n, .string s], .bool ok]) (rl_results3 hr (b := b) h2 h3 (run_loadVar_mid _ _ 0 38 [.int .i8 k, .int .i64 n, .string s] _ (RL.range (((h1.set 0 (.int .i8 k)).set 1 (.int .i64 n)).set 2 (.string s))) Tryz.underlying38 rfl (by kernel_rfl))) rfl ⟨by rw [ho], ?_⟩
  exact ((hb.setCell (p := ⟨b, 0, none⟩) hB _).setCell (p := ⟨b, 1, none⟩) hB _).setCell (p := ⟨b, 2, none⟩) hB _
end Go.Proofs.YtgfnijhhhgjabaaGreatDoor.EV
end
