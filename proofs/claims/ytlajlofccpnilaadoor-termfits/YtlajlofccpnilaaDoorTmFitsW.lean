import Derived.Test.YtlajlofccpnilaaDoorTmFitsB
namespace Go.Proofs.YtlajlofccpnilaaDoor
open Go.RowKit Go.Maps
set_option linter.unusedVariables false

theorem termFits_walk (p : ByteArray) (la : List T) (aa : Option Addr) (ca : Nat) (l : List B) (al : Option Addr) (cl : Nat) (pf : ByteArray) (lf : List V) (af : Option Addr) (cf : Nat) (w : World) (hG : Gm w) (hp : p.size ≤ maxLen) (hla : la.length ≤ 4398046511104) (hA : Lt w (.slice aa la.length ca) la)
    (hll : l.length ≤ 4398046511104) (hL : Lb w (.slice al l.length cl) l) (hpf : pf.size ≤ maxLen) (hlf : lf.length ≤ 4398046511104) (hF : Lv w (.slice af lf.length cf) lf) :
    Calls Tryd.prog 3 #[.agg #[.string p, .slice aa la.length ca], .slice al l.length cl, .agg #[.string pf, .slice af lf.length cf]] w fun e w' => e = .returned (.bool true) ∧ Below w.heap.size w w' := by
  cases h : atomB p la
  · exact fits_no p pf la lf aa af al ca cf cl l w hG hp hpf hA hL hF h
  · exact fits_yes p pf la lf aa af al ca cf cl l w hG hp hpf hA hL hF h
end Go.Proofs.YtlajlofccpnilaaDoor
