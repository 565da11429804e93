import Derived.Test.YtjemaijokgcjnaaDoorRows
import Derived.Test.YtjemaijokgcjnaaDoorVtByte
import Derived.Test.YtjemaijokgcjnaaDoorArith
import Derived.OpenShut
import Derived.Lib.LaidTab
import Derived.Stop.LaidErr
namespace Go.Proofs.YtjemaijokgcjnaaDoor
open Go.RowKit
set_option linter.unusedVariables false
set_option linter.unusedSimpArgs false

theorem iface_of_trod {H : Type} {enc : TypeId × Value → H} {P : Program} {w : World} {base : Nat} {sp : Nat → Bool} {held : Bool} {fuel : Nat} {t : TypeId} {ms : Array (String × TypeId)} {cs : List Value} {nm : String} {d : DataW H} {p : List MemPlace}
    (ht : P.underlying t = some (.interface ms)) (h : DataW.trod enc P w base sp held fuel t cs = some (.iface nm d, p)) : ∃ u v, cs = [.iface u v] := by
  cases fuel with
  | zero => simp [DataW.trod] at h
  | succ fuel =>
    unfold DataW.trod at h
    rw [ht] at h
    split at h
    all_goals first | (exact ⟨_, _, rfl⟩) | (simp_all; done)
theorem iface_of_head {W : World} {name nm : String} {rest : List (String × DataW Unit)} {g : Nat} {t : TypeId} {ms : Array (String × TypeId)} {d : DataW Unit}
    (hg : Tryd.prog.globalNamed name = some g) (hty : (Tryd.prog.globals[g]?).map (·.type) = some t) (ht : Tryd.prog.underlying t = some (.interface ms))
    (h : laidMet Tryd.prog ((name, .iface nm d) :: rest) W) : ∃ u v, W.cell? ⟨g, 0, none⟩ = some (.iface u v) := by
  obtain ⟨ps, ⟨g', t', cs, fuel, p, q, hg', ht', hvar, hdd, _, _⟩, _⟩ := h
  obtain rfl := Option.some.inj (hg.symm.trans hg')
  obtain rfl := Option.some.inj (hty.symm.trans ht')
  obtain ⟨u, v, hcs⟩ := iface_of_trod ht hdd
  refine ⟨u, v, ?_⟩
  rw [World.var?_cell hg hvar 0, ← Array.getElem?_toList, hcs]
  rfl
abbrev laidG (r : List (String × DataW Unit)) : List (String × DataW Unit) := ("math/bits.deBruijn32tab", Rows.laid_math_bits_deBruijn32tab) :: ("math/bits.deBruijn64tab", Rows.laid_math_bits_deBruijn64tab) :: ("internal/strconv.uint64pow10", Rows.laid_internal_strconv_uint64pow10) :: ("strconv.ErrRange", Rows.laid_strconv_ErrRange) :: ("strconv.ErrSyntax", Rows.laid_strconv_ErrSyntax) :: r
theorem gv_of {W : World} {r : List (String × DataW Unit)} (h0 : laidMet Tryd.prog (laidG r) W) : Gv W := by
  have h2 := h0.tail.tail
  have h3 := h2.tail
  have h4 := h3.tail
  refine ⟨iface_of_head (by kernel_rfl) (by kernel_rfl) Tryd.underlying53 h4,
    iface_of_head (by kernel_rfl) (by kernel_rfl) Tryd.underlying53 h3, ?_⟩
  rw [show Lib.pow10Tab = [1, 10, 100, 1000, 10000, 100000, 1000000, 10000000, 100000000, 1000000000, 10000000000, 100000000000, 1000000000000, 10000000000000, 100000000000000, 1000000000000000, 10000000000000000, 100000000000000000, 1000000000000000000, 10000000000000000000] by decide]
  exact Lib.tabIs_of_head (g := 2) (by kernel_rfl) (by kernel_rfl) Tryd.underlying97 Tryd.underlying68 (by kernel_rfl) (by kernel_rfl) h2
abbrev laidV : List (String × DataW Unit) := laidG [("pedigree/value.takings", Rows.laid_pedigree_value_takings)]
theorem gvt_of_laid {W : World} (h : laidMetH Tryd.prog laidV W) : Gv W ∧ Tab W := by
  have h0 : laidMet Tryd.prog laidV W := h
  refine ⟨gv_of h0, ?_⟩
  have t : Lib.TabIs Tryd.prog W "pedigree/value.takings" .i8 [0, 1, 2, 2, 2, 2, 2, 4, 3, 3, 3] :=
    Lib.tabIs_of_head (g := 0) (by kernel_rfl) (by kernel_rfl) Tryd.underlying73 Tryd.underlying56 (by kernel_rfl) (by kernel_rfl) h0.tail.tail.tail.tail.tail
  have hg : Tryd.prog.globalNamed "pedigree/value.takings" = some 0 := by kernel_rfl
  refine ⟨World.block_lt_of_cell? _ _ (t.cell hg 0 (by decide)), fun i hi => ?_⟩
  rw [t.cell hg i (by show i < 11; exact hi)]
  match i, hi with
  | 0, _ => rfl
  | 1, _ => rfl
  | 2, _ => rfl
  | 3, _ => rfl
  | 4, _ => rfl
  | 5, _ => rfl
  | 6, _ => rfl
  | 7, _ => rfl
  | 8, _ => rfl
  | 9, _ => rfl
  | 10, _ => rfl
theorem gv_of_laid {W : World} (h : laidMetH Tryd.prog (laidG []) W) : Gv W := gv_of (show laidMet Tryd.prog (laidG []) W from h)
end Go.Proofs.YtjemaijokgcjnaaDoor
