import Derived.Test.YtlajlofccpnilaaDoorTmMostB
namespace Go.Proofs.YtlajlofccpnilaaDoor
open Go.RowKit Go.Maps
set_option linter.unusedVariables false

theorem termMost_walk (pa : ByteArray) (la : List T) (aa : Option Addr) (ca : Nat) (pb : ByteArray) (lb : List T) (ab : Option Addr) (cb : Nat) (l : List B) (al : Option Addr) (cl : Nat) (w : World) (hG : Gm w) (hpa : pa.size ≤ maxLen) (hla : la.length ≤ 4398046511104) (hA : Lt w (.slice aa la.length ca) la)
    (hpb : pb.size ≤ maxLen) (hlb : lb.length ≤ 4398046511104) (hB : Lt w (.slice ab lb.length cb) lb) (hll : l.length ≤ 4398046511104) (hL : Lb w (.slice al l.length cl) l) :
    Calls Tryd.prog 4 #[.agg #[.string pa, .slice aa la.length ca], .agg #[.string pb, .slice ab lb.length cb], .slice al l.length cl] w fun e w' => e = .returned (.bool true) ∧ Below w.heap.size w w' := by
  by_cases h : pa = pb ∧ la.length = lb.length ∧ atomB pa la = true ∧ atomB pb lb = true
  · obtain ⟨rfl, hn, h3, h4⟩ := h
    rw [← hn] at hB ⊢
    exact most_yes pa la lb aa ab ca cb l al cl w hG hpa hA hB hL hn h3 h4
  · exact most_no pa pb la lb aa ab ca cb l al cl w hG hpa hpb hA hB hL h
end Go.Proofs.YtlajlofccpnilaaDoor
