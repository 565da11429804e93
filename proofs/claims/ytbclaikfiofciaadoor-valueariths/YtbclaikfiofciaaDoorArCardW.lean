import Derived.Test.YtbclaikfiofciaaDoorArLaw
namespace Go.Proofs.YtbclaikfiofciaaDoor
open Go.RowKit Go.Maps
theorem valueAriths_all (op : Int) (a : Option Addr) (n c : Nat) (K N : Nat → Int) (S : Nat → ByteArray) (w : World) (ht : Tab w) (ho : (Lit.int .i8 op).wf = true) (hn : n ≤ 4398046511103) (hl : Lst w (.slice a n c) n K N S) (hwf : ∀ i, i < n → (Lit.int .i64 (N i)).wf = true) :
    Calls Tryd.prog 3 #[.int .i8 op, .slice a n c] w fun e w' => e = .returned (.bool true) ∧ Below w.heap.size w w' :=
  valueAriths_walk op (by
    simp only [Lit.wf, Bool.and_eq_true, decide_eq_true_eq] at ho
    exact ho) _ n K N S (fun i hi => by
    have h := hwf i hi
    simp only [Lit.wf, Bool.and_eq_true, decide_eq_true_eq] at h
    exact h) w ht hn hl
end Go.Proofs.YtbclaikfiofciaaDoor
