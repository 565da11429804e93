import Derived.Test.YthdcgikhcghigaaSymFill
import Derived.Laws.CopyRow
namespace Go.Proofs.Ythdcgikhcghigaa
open Go.RowKit Go.Maps Go.ChangeMaps
set_option linter.unusedVariables false
set_option linter.unusedSimpArgs false

/-- the entries that are left when q have been struck, from the number n on -/
def cutTo (vs : List V) (n q : Nat) : List (V × Nat) := vs.zipIdx.filter (fun p => decide (p.2 < n ∨ n + q ≤ p.2))

theorem cutTo_zero (vs : List V) (n : Nat) : cutTo vs n 0 = vs.zipIdx :=
  List.filter_eq_self.2 fun p _ => by simp; omega

theorem cutTo_step {vs : List V} (nd : vs.Nodup) {n q : Nat} (h : n + q < vs.length) : (cutTo vs n q).filter (fun p => decide (p.1 ≠ atV vs (n + q))) = cutTo vs n (q + 1) := by
  unfold cutTo
  rw [List.filter_filter]
  refine List.filter_congr fun p hp => ?_
  have hi : vs[p.2]? = some p.1 := List.mem_zipIdx_iff_getElem?.1 hp
  have h1 : p.1 = atV vs (n + q) ↔ p.2 = n + q := by
    constructor
    · intro e
      have h2 : vs[n + q]? = some p.1 := by rw [e, atV_eq h]; exact List.getElem?_eq_getElem h
      rw [← symOf_at nd hi, symOf_at nd h2]
    · intro e
      rw [atV_eq h]
      rw [e, List.getElem?_eq_getElem h] at hi
      exact (Option.some.inj hi).symm
  by_cases e : p.2 = n + q
  · have := h1.2 e
    simp [this, e]
  · have h3 : p.1 ≠ atV vs (n + q) := fun e' => e (h1.1 e')
    simp only [h3, ne_eq, not_false_eq_true, decide_true, Bool.true_and, Bool.and_true]
    exact decide_eq_decide.2 (by omega)

theorem cutTo_end {vs : List V} {n : Nat} (h : n ≤ vs.length) : cutTo vs n (vs.length - n) = (vs.take n).zipIdx := by
  have e : vs.zipIdx = (vs.take n).zipIdx ++ (vs.drop n).zipIdx n := by
    conv => lhs; rw [← List.take_append_drop n vs]
    rw [List.zipIdx_append]
    congr 2
    simp; omega
  unfold cutTo
  rw [e, List.filter_append]
  rw [List.filter_eq_self.2 (fun p hp => ?_), List.filter_eq_nil_iff.2 (fun p hp => ?_), List.append_nil]
  · have := List.mem_zipIdx (x := p.1) (i := p.2) hp
    simp at this ⊢
    omega
  · have := List.mem_zipIdx (x := p.1) (i := p.2) hp
    simp at this ⊢
    omega

theorem cutTo_keys {vs : List V} (nd : vs.Nodup) (n q : Nat) : ((cutTo vs n q).map Prod.fst).Nodup := by
  have h1 : ((cutTo vs n q).map Prod.fst).Sublist (vs.zipIdx.map Prod.fst) := List.Sublist.map _ List.filter_sublist
  rw [List.zipIdx_map_fst] at h1
  exact nd.sublist h1

theorem flat_take (vs : List V) (n : Nat) : (vs.take n).flatMap V.cells = (vs.flatMap V.cells).take (n * 3) := by
  induction vs generalizing n with
  | nil => simp
  | cons v vs ih =>
    cases n with
    | zero => simp
    | succ n =>
      rw [List.take_succ_cons, List.flatMap_cons, List.flatMap_cons, ih, show (n + 1) * 3 = v.cells.length + n * 3 by simp [V.cells]; omega, List.take_append]
      congr 1
      · rw [List.take_of_length_le (by omega)]
      · congr 1
        omega

/-- 'delete' as one step of a region that draws its order -/
theorem step_delete {P : Program} {ops : Array Oper} {o : Oper} {a : Act} {w : World} {K : Act → World → Prop} {Q : Exit → Act → World → Prop} {E : Prop}
    (hg : o.guard = none) (s x : Operand) (t k : TypeId) (hop : o.op = Op.call { callee := Callee.builtin Builtin.delete, args := #[s, x], argTypes := #[t, k] })
    (m key : Value) (hs : a.eval s = m) (hx : a.eval x = key) (w' : World) (hrun : (Builtin.delete_ #[t, k] o.type #[m, key]).run P w = .ok (.tuple #[]) w')
    (hK : K (a.put o.dst (.tuple #[])) w') :
    if Region.wanted o (yielded ops a.tmps) = true then Oper.wp P o a w K Q else E := by
  have hw : Region.wanted o (yielded ops a.tmps) = true := by simp [Region.wanted, hg]
  rw [if_pos hw]
  unfold Oper.wp
  simp [execOp, hop, resolve, invoke, builtin, hs, hx, hrun, Result.andThen]
  exact hK

theorem zeroVal (w : World) : (zeroValue 39).run Try.prog w = .ok (.agg #[.int .i8 0, .int .i64 0, .string ⟨#[]⟩]) w := by kernel_rfl

theorem zeros_one (k : Nat) : ∀ v ∈ (Builtin.zeroCells #[.int .i8 0, .int .i64 0, .string ⟨#[]⟩] k).toList, v.oneCell' = true := by
  intro v hv
  simp only [Builtin.zeroCells, Array.toList_map, List.mem_map] at hv
  obtain ⟨i, _, rfl⟩ := hv
  have : i % 3 = 0 ∨ i % 3 = 1 ∨ i % 3 = 2 := by omega
  rcases this with h | h | h <;> simp [h, Value.oneCell']

/-- 'clear' of the end of a row of the call's own -/
theorem run_clear {w : World} {base g N cap n k c : Nat} {xs : List Value} (hown : w.ownsRow base 39 3 (.slice (some ⟨g, 0, none⟩) N cap) N xs) (hk : n + k = N) (h0 : 0 < k) (ty : TypeId) :
    ∃ w', (Builtin.clear_ #[40] ty #[.slice (some ⟨g, n * 3, none⟩) k c]).run Try.prog w = .ok (.tuple #[]) w' ∧ w'.ownsRow base 39 3 (.slice (some ⟨g, 0, none⟩) n cap) n (xs.take (n * 3)) ∧ w.grownBy w' (some g) := by
  obtain ⟨hl, ⟨e, _⟩ | ⟨g', cap', cur, e, hb, hc, hn, hm, hs, ht⟩⟩ := hown
  · cases e
  · cases e
    have hz : (Builtin.zeroCells #[.int .i8 0, .int .i64 0, .string ⟨#[]⟩] k).toList.length = k * 3 := by rw [Array.length_toList, size_zeroCells]; rfl
    have hz' : (Builtin.zeroCells #[.int .i8 0, .int .i64 0, .string ⟨#[]⟩] k).size = k * 3 := by rw [size_zeroCells]; rfl
    have hst := run_storeCells_at Try.prog g (n * 3) 39 _ 0 cur w hc (by rw [hz, hs]; omega) (zeros_one k)
    have hk0 : ∃ j, k = j + 1 := ⟨k - 1, by omega⟩
    obtain ⟨j, rfl⟩ := hk0
    refine ⟨_, by
      simp [Builtin.clear_, run_underlying Try.underlying40, zeroVal, Value.cells, hst]
      rfl, ⟨?_, .inr ⟨g, cap, _, rfl, hb, setRow_heap w g cur _ 39 _ hc, by omega, hm, ?_, ?_⟩⟩, ⟨rfl, rfl, rfl, by simp, fun k _ hk => setRow_other w g k _ (fun e => hk (by rw [e]))⟩⟩
    · rw [List.length_take, hl]
      omega
    · simp only [List.size_toArray, List.length_append, List.length_take, List.length_drop, Array.length_toList, hz']
      omega
    · rw [← ht]
      simp only [Nat.add_zero, List.append_assoc]
      rw [List.take_append, List.take_take, List.length_take, Array.length_toList, List.take_take]
      rw [show min (n * 3) (n * 3) = n * 3 by omega, show n * 3 - min (n * 3) cur.size = 0 by omega, show min (n * 3) (N * 3) = n * 3 by omega]
      simp
end Go.Proofs.Ythdcgikhcghigaa
