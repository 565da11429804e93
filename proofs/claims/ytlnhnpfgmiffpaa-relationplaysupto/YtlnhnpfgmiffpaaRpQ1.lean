import Derived.Test.YtlnhnpfgmiffpaaRpPb
import Derived.Test.YtlnhnpfgmiffpaaRpOp
namespace Go.Proofs.Ytlnhnpfgmiffpaa
open Go.RowKit Go.Maps Go.Shelf
set_option linter.unusedVariables false
set_option linter.unusedSimpArgs false
attribute [local go_sem ↓] Go.wp_at_zero Go.wp_at_succ

/-- the law's pair, in block b from o on -/
structure Bx (w : World) (b o : Nat) (pT pR : Value) (rows : List (List Int)) (n : Nat) (gn : Int) (E : Nat → Prop) : Prop where
  bl : b < w.heap.size
  cT : w.cell? ⟨b, o, none⟩ = some pT
  cR : w.cell? ⟨b, o + 1, none⟩ = some pR
  pa : Pa w pT pR rows n gn E
theorem Bx.keep {w w' : World} {b o : Nat} {pT pR : Value} {rows : List (List Int)} {n : Nat} {gn : Int} {E : Nat → Prop} (h : Bx w b o pT pR rows n gn E) (hb : Below w.heap.size w w') : Bx w' b o pT pR rows n gn E :=
  ⟨Nat.lt_of_lt_of_le h.bl hb.size, (hb.cell (p := ⟨b, o, none⟩) h.bl).trans h.cT, (hb.cell (p := ⟨b, o + 1, none⟩) h.bl).trans h.cR, h.pa.keep hb⟩
set_option maxHeartbeats 3200000 in
set_option maxRecDepth 100000 in
theorem sizes_x {w : World} {b o : Nat} {pT pR : Value} {rows : List (List Int)} {n : Nat} {gn : Int} {E : Nat → Prop} (h : Bx w b o pT pR rows n gn E) : Calls Try.prog 29 #[.pointer (some ⟨b, o, none⟩)] w fun e w' => e = .returned (.bool true) ∧ Below w.heap.size w w' := by
  have hd := h.keep (Below.refl _ _).drew
  have c0 := hd.cT
  have c1 := hd.cR
  have HA := Lib.hid (pa_arity hd.pa)
  have HL := Lib.hid (pa_len hd.pa)
  have HG := Lib.hid (pa_gone hd.pa)
  have HA2 := Lib.hid (pa_rarity hd.pa)
  have HL2 := Lib.hid (pa_rlen hd.pa)
  have HG2 := Lib.hid (pa_rgone hd.pa)
  clear h hd
  generalize (rows.length : Int) = ln at HL HL2
  generalize (n : Int) = an at HA HA2
  go_enter Try.func29, Try.ntmps29
  go_upto_region 1 with fail
  go_region_held3 (fun u => u.cell? ⟨b, o, none⟩ = some pT ∧ u.cell? ⟨b, o + 1, none⟩ = some pR)
    (first | assumption | exact ⟨c0, c1⟩)
    (first
      | (go_at_call 36; refine HA.out.mono ?_; rintro ee w2 ⟨rfl, rfl⟩)
      | (go_at_call 9; refine HL.out.mono ?_; rintro ee w2 ⟨rfl, rfl⟩)
      | (go_at_call 49; refine HG.out.mono ?_; rintro ee w2 ⟨rfl, rfl⟩)
      | (go_at_call 48; refine HA2.out.mono ?_; rintro ee w2 ⟨rfl, rfl⟩)
      | (go_at_call 10; refine HL2.out.mono ?_; rintro ee w2 ⟨rfl, rfl⟩)
      | (go_at_call 50; refine HG2.out.mono ?_; rintro ee w2 ⟨rfl, rfl⟩)
      | fail)
  all_goals
    go_wp2
    go_ret
    exact ⟨by simp, (Below.refl _ _).drew⟩
end Go.Proofs.Ytlnhnpfgmiffpaa
