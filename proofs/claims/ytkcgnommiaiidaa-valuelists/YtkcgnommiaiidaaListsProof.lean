import Derived.Test.YtkcgnommiaiidaaOpen
import Derived.Test.YtkcgnommiaiidaaLists
import Derived.Test.YtkcgnommiaiidaaRows
namespace Go.Proofs.Ytkcgnommiaiidaa
open Go.ChangeShapes Go.WideShapes Go.ChangeAt Go.RowKit Go.Joins Go.Deep
set_option linter.unusedVariables false

theorem cellsF : Try.prog.cellsOf 34 = 2 := by kernel_rfl

theorem open_fact {H : Type} {enc : TypeId × Value → H} {w : World} {r : Reach} {b0 : Nat} {v : Value} {d : DataW H} {p : List MemPlace} {ts : List TypeId} {ds : List (DataW H)} {j : Nat}
    (hv : Value.okWide Try.prog w r b0 34 v) (h : DataW.Trod enc Try.prog w 0 (fun _ => true) true 34 v d p)
    (hsz : (DataW.weightsEach Try.prog ts ds).all (· ≤ reachBytes) = true) (ht : ts[j]? = some 34) (hd : ds[j]? = some d) :
    ∃ (q : ByteArray) (a : Option Addr) (n c : Nat) (K N : Nat → Int) (S : Nat → ByteArray), v = .agg #[.string q, .slice a n c] ∧ n ≤ 281474976710656 ∧ Lst w (.slice a n c) n K N S := by
  obtain ⟨c0, c1, y0, y1, m, rfl, rfl, rfl, hy0, hy1⟩ := open_agg2 Try.underlying34 (by kernel_rfl) cellsF hv h
  obtain ⟨q, e0, _, hq⟩ := DataW.trod_string Try.underlying9 hy0
  obtain ⟨a, n, c, K, N, S, e1, hl, hx⟩ := open_vals hy1
  simp at e0 e1
  subst e0 e1
  refine ⟨q, a, n, c, K, N, S, rfl, ?_, hl⟩
  rcases hx with ⟨_, rfl⟩ | ⟨elems, sp, hx, rfl⟩
  · omega
  · have := List.all_eq_true.1 hsz _ (DataW.weights_mem_each ht hd ((elems.length + sp.length) * Try.prog.bytesOf 25) (by
      simp [DataW.weights, DataW.weightsEach, Try.underlying34, hx, Try.underlying32]))
    rw [bytesV] at this
    have h2 : (elems.length + sp.length) * 32 ≤ reachBytes := of_decide_eq_true this
    have h3 : reachBytes ≤ 140737488355328 := by decide
    omega

set_option maxRecDepth 100000 in
theorem lists_lifted (os : Os) (started : os.Started) (H : Type) (enc : TypeId × Value → H) :
    ReturnsInHanded {} Try.checked os 5 .any (Rows.valueListsSpec.pre6 enc Try.prog Try.f5 Rows.valueListsRow.domain false) (Rows.valueListsSpec.post enc Try.prog Try.f5 false true false false) := by
  refine returnsInHanded_of_change_sized (C := Try.checked) own started (by kernel_rfl) Try.func5
    (ChangeSpec.witness6 (enc := enc) (C := Try.checked) false ⟨#[], #[.agg #[.string ⟨#[]⟩, .slice none 0 0], .agg #[.string ⟨#[]⟩, .slice none 0 0]], []⟩ 8 (by kernel_rfl) (by kernel_rfl) (by kernel_rfl) (by kernel_rfl)) ?_
  intro W base args ds gs before hval0 hW hcnd hsz0 _
  have hval : ∀ (j : Nat) t v, Try.f5.params[j]? = some t → args[j]? = some v → Value.okWide Try.prog W .any base t v := hval0
  have hsz : (DataW.weightsEach Try.prog (Try.f5.params.toList ++ Rows.valueListsSpec.plain.varTypes Try.prog) (ds ++ gs)).all (· ≤ reachBytes) = true := hsz0
  have hW' := hW
  obtain ⟨p, q, hA0, hV, rfl, hfz, hnd⟩ := hW
  have hA : DataW.TrodAll enc Try.prog W 0 (fun _ => true) true Try.f5.params.toList args.toList ds p := hA0
  rw [Try.params5] at hA hval hsz
  obtain ⟨v0, vs0, d0, ds0, p0, q0, hargs, rfl, rfl, h0, r0⟩ := trodAll_cons hA
  obtain ⟨v1, vs1, d1, ds1, p1, q1, rfl, rfl, rfl, h1, r1⟩ := trodAll_cons r0
  obtain ⟨rfl, rfl, rfl⟩ := trodAll_nil r1
  obtain rfl : args = #[v0, v1] := by cases args; simp_all
  obtain ⟨rfl, rfl⟩ := trodVars_none hV
  have lt0 : ∀ x ∈ p0, x.block < W.heap.size := by obtain ⟨m, hm⟩ := h0; exact DataW.trod_lt m _ _ _ hm
  have lt1 : ∀ x ∈ p1, x.block < W.heap.size := by obtain ⟨m, hm⟩ := h1; exact DataW.trod_lt m _ _ _ hm
  obtain ⟨s0, a0, n0, c0, K0, N0, S0, rfl, b0, l0⟩ := open_fact (j := 0) (hval 0 34 v0 rfl rfl) h0 hsz rfl rfl
  obtain ⟨s1, a1, n1, c1, K1, N1, S1, rfl, b1, l1⟩ := open_fact (j := 1) (hval 1 34 v1 rfl rfl) h1 hsz rfl rfl
  clear hA0 hval0 hsz0
  refine (lists_walk s0 s1 a0 a1 c0 c1 n0 n1 K0 N0 S0 K1 N1 S1 W b0 b1 l0 l1).mono fun e W' ⟨he, bel⟩ => ?_
  subst he
  exact ⟨_, rfl, _, _, _, [], _, [], hW', trodAll_mk1 (shut_bool Try.underlying4 _), (trodAll_cons_mk (Below.trod laidOut (by kernel_rfl) (of_decide_eq_true (by kernel_rfl)) h0 bel lt0) (trodAll_cons_mk (Below.trod laidOut (by kernel_rfl) (of_decide_eq_true (by kernel_rfl)) h1 bel lt1) trodAll_mk0)), rfl, bel.frame _, fun h => by cases h⟩

theorem value_lists : Rows.ValueListsSaid :=
  OpenClaim.holds_of_wide 5 Try.f5 rfl rfl rfl rfl rfl rfl rfl ⟨rfl, rfl, rfl, rfl, rfl⟩ rfl rfl rfl rfl rfl (by kernel_rfl) Try.func5 (by kernel_rfl)
    (of_decide_eq_true (by kernel_rfl)) (by unfold Func.isWrapper; first | (rw [if_pos (by decide +kernel)]; kernel_rfl) | (rw [if_neg (by decide +kernel)]; exact ⟨rfl, rfl⟩))
    (fun os started H enc _ => lists_lifted os started H enc)

#print axioms value_lists
end Go.Proofs.Ytkcgnommiaiidaa
