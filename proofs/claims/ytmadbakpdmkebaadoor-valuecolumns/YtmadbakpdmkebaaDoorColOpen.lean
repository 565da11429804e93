import Derived.Test.YtmadbakpdmkebaaDoorOpen
namespace Go.Proofs.YtmadbakpdmkebaaDoor
open Go.ChangeShapes Go.WideShapes Go.ChangeAt Go.RowKit Go.Joins Go.Deep
set_option linter.unusedVariables false

theorem cellsF : Tryd.prog.cellsOf 24 = 2 := by kernel_rfl

theorem open_fact {H : Type} {enc : TypeId × Value → H} {w : World} {r : Reach} {b0 : Nat} {v : Value} {d : DataW H} {p : List MemPlace} {ts : List TypeId} {ds : List (DataW H)} {j : Nat}
    (hv : Value.okWide Tryd.prog w r b0 24 v) (h : DataW.Trod enc Tryd.prog w 0 (fun _ => true) true 24 v d p)
    (hsz : (DataW.weightsEach Tryd.prog ts ds).all (· ≤ reachBytes) = true) (ht : ts[j]? = some 24) (hd : ds[j]? = some d) :
    ∃ (q : ByteArray) (a : Option Addr) (n c : Nat) (K N : Nat → Int) (S : Nat → ByteArray), v = .agg #[.string q, .slice a n c] ∧ n ≤ 281474976710656 ∧ Lst w (.slice a n c) n K N S := by
  obtain ⟨c0, c1, y0, y1, m, rfl, rfl, rfl, hy0, hy1⟩ := open_agg2 Tryd.underlying24 (by kernel_rfl) cellsF hv h
  obtain ⟨q, e0, _, hq⟩ := DataW.trod_string Tryd.underlying9 hy0
  obtain ⟨a, n, c, K, N, S, e1, hl, hx⟩ := open_vals hy1
  simp at e0 e1
  subst e0 e1
  refine ⟨q, a, n, c, K, N, S, rfl, ?_, hl⟩
  rcases hx with ⟨_, rfl⟩ | ⟨elems, sp, hx, rfl⟩
  · omega
  · have := List.all_eq_true.1 hsz _ (DataW.weights_mem_each ht hd ((elems.length + sp.length) * Tryd.prog.bytesOf 34) (by
      simp [DataW.weights, DataW.weightsEach, Tryd.underlying24, hx, Tryd.underlying22]))
    rw [bytesV] at this
    have h2 : (elems.length + sp.length) * 32 ≤ reachBytes := of_decide_eq_true this
    have h3 : reachBytes ≤ 140737488355328 := by decide
    omega

end Go.Proofs.YtmadbakpdmkebaaDoor
