import Derived.Test.YtejfcdhdbpijjaaGreatDoorRows
import Derived.Test.YtejfcdhdbpijjaaGreatDoorG7
import Derived.Test.YtejfcdhdbpijjaaGreatDoorG30
import Derived.OpenShut
import Derived.Lib.LaidTab
import Derived.Stop.LaidErr
section
namespace Go.Proofs.YtejfcdhdbpijjaaGreatDoor
open Go.RowKit
set_option linter.unusedVariables false
set_option linter.unusedSimpArgs false

def strV (l : List UInt8) : Value := .string ⟨l.toArray⟩
theorem strs_of_trod {H : Type} {enc : TypeId × Value → H} {P : Program} {w : World} {base : Nat} {sp : Nat → Bool} {held : Bool} {fuel : Nat} {t e : TypeId} {n : Nat} {cs : List Value} {zs : List (List UInt8)} {p : List MemPlace}
    (ht : P.underlying t = some (.array n e)) (he : P.underlying e = some .string) (hce : P.cellsOf e = 1) (hct : P.cellsOf t = n)
    (h : DataW.trod enc P w base sp held fuel t cs = some (.agg (zs.map fun z => .lit (.string z)), p)) : cs = zs.map strV := by
  obtain ⟨xs, m, _, hx, hlen, hl, hel⟩ := DataW.trod_array ht h
  have hxs : xs.map (·.1) = zs.map fun z => (DataW.lit (.string z) : DataW H) := by
    have := congrArg Prod.fst hx
    simp at this
    exact this.symm
  have hzl : zs.length = n := by
    have := congrArg List.length hxs
    simp at this
    omega
  apply List.ext_getElem?
  intro i
  by_cases hi : i < n
  · have hi2 := hel i hi
    obtain ⟨y, hy⟩ : ∃ y, xs[i]? = some y := ⟨_, List.getElem?_eq_getElem (by omega)⟩
    rw [hy] at hi2
    obtain ⟨s, hc, hs, _⟩ := DataW.trod_string he hi2
    rw [hce] at hc
    have h1 : cs[i]? = some (.string s) := by
      have := congrArg (·[0]?) hc
      simpa [List.getElem?_take, List.getElem?_drop] using this
    have h2 : (xs.map (·.1))[i]? = some (DataW.lit (.string s.data.toList) : DataW H) := by simp [hy, hs]
    rw [hxs] at h2
    simp only [List.getElem?_map, Option.map_eq_some_iff, DataW.lit.injEq, Lit.string.injEq] at h2
    obtain ⟨z, hz, rfl⟩ := h2
    rw [h1, List.getElem?_map, hz]
    cases s; simp [strV]
  · rw [List.getElem?_eq_none (by omega), List.getElem?_eq_none (by simp; omega)]
theorem strs_of_head {W : World} {name : String} {zs : List (List UInt8)} {rest : List (String × DataW Unit)} {g : Nat} {t e : TypeId} {n : Nat} {d : DataW Unit}
    (hg : Tryz.prog.globalNamed name = some g) (hty : (Tryz.prog.globals[g]?).map (·.type) = some t) (ht : Tryz.prog.underlying t = some (.array n e)) (he : Tryz.prog.underlying e = some .string) (hce : Tryz.prog.cellsOf e = 1) (hct : Tryz.prog.cellsOf t = n)
    (hd : d = .agg (zs.map fun z => .lit (.string z))) (h : laidMet Tryz.prog ((name, d) :: rest) W) : W.rangeAt g 0 (zs.map strV) := by
  obtain ⟨ps, ⟨g', t', cs, fuel, p, q, hg', ht', hvar, hdd, _, _⟩, _⟩ := h
  obtain rfl := Option.some.inj (hg.symm.trans hg')
  obtain rfl := Option.some.inj (hty.symm.trans ht')
  subst hd
  have hcs := strs_of_trod ht he hce hct hdd
  intro j v hj
  rw [Nat.zero_add, World.var?_cell hg hvar j, ← Array.getElem?_toList, hcs]
  exact hj
/-- the table of powers and the numbers of kids, off a card's list of five tables -/
abbrev laidJ : List (String × DataW Unit) := [("math/bits.deBruijn32tab", Rows.laid_math_bits_deBruijn32tab), ("math/bits.deBruijn64tab", Rows.laid_math_bits_deBruijn64tab), ("internal/strconv.uint64pow10", Rows.laid_internal_strconv_uint64pow10), ("pedigree/lex.keywords", Rows.laid_pedigree_lex_keywords), ("pedigree/term.kidCounts", Rows.laid_pedigree_term_kidCounts)]
theorem pwx_of_laid {W : World} (h : laidMetH Tryz.prog laidJ W) : PWt W := by
  have h0 : laidMet Tryz.prog laidJ W := h
  have h2 := h0.tail.tail
  unfold PWt
  rw [show Lib.pow10Tab = [1, 10, 100, 1000, 10000, 100000, 1000000, 10000000, 100000000, 1000000000, 10000000000, 100000000000, 1000000000000, 10000000000000, 100000000000000, 1000000000000000, 10000000000000000, 100000000000000000, 1000000000000000000, 10000000000000000000] by decide]
  exact Lib.tabIs_of_head (g := 2) (by kernel_rfl) (by kernel_rfl) Tryz.underlying197 Tryz.underlying172 (by kernel_rfl) (by kernel_rfl) h2
def kidTabX : List Int := [0, 1, 2, 2, 2, 2, 2, 2, 1, 1, 1]
theorem ktx_of_laid {W : World} (h : laidMetH Tryz.prog laidJ W) : KT W := by
  have h0 : laidMet Tryz.prog laidJ W := h
  have t : Lib.TabIs Tryz.prog W "pedigree/term.kidCounts" .i64 kidTabX :=
    Lib.tabIs_of_head (g := 1) (by kernel_rfl) (by kernel_rfl) Tryz.underlying186 Tryz.underlying3 (by kernel_rfl) (by kernel_rfl) h0.tail.tail.tail.tail
  have hg : Tryz.prog.globalNamed "pedigree/term.kidCounts" = some 1 := by kernel_rfl
  refine ⟨World.block_lt_of_cell? _ _ (t.cell hg 0 (by decide)), fun i hi => ?_⟩
  rw [t.cell hg i (by show i < 11; exact hi)]
  match i, hi with
  | 0, _ => rfl
  | 1, _ => rfl
  | 2, _ => rfl
  | 3, _ => rfl
  | 4, _ => rfl
  | 5, _ => rfl
  | 6, _ => rfl
  | 7, _ => rfl
  | 8, _ => rfl
  | 9, _ => rfl
  | 10, _ => rfl
theorem gj_of_laid {W : World} (h : laidMetH Tryz.prog laidJ W) : PWt W ∧ KT W ∧ LX.Gl W := ⟨pwx_of_laid h, ktx_of_laid h, ⟨strs_of_head (by kernel_rfl) (by kernel_rfl) Tryz.underlying156 Tryz.underlying9 (by kernel_rfl) (by kernel_rfl) (zs := LX.kws) rfl (show laidMet Tryz.prog laidJ W from h).tail.tail.tail⟩⟩
end Go.Proofs.YtejfcdhdbpijjaaGreatDoor
end
