import Derived.Test.YtihngojkcacgdaaRelNoSel
namespace Go.Proofs.Ytihngojkcacgdaa
open Go.RowKit Go.Maps Go.Shelf
set_option linter.unusedVariables false
set_option linter.unusedSimpArgs false
attribute [local go_sem ↓] Go.wp_at_zero Go.wp_at_succ

/-- the law's pair of a relation that is not there and of the reference's, nil -/
def BothNo (w : World) (t : Nat) (p : Value) : Prop := t < w.heap.size ∧ w.cell? ⟨t, 0, none⟩ = some p ∧ w.cell? ⟨t, 1, none⟩ = some (.pointer none) ∧ NoRel w p
theorem BothNo.below {w w' : World} {t : Nat} {p : Value} (h : BothNo w t p) (b : Below w.heap.size w w') : BothNo w' t p :=
  ⟨Nat.lt_of_lt_of_le h.1 b.size, (b.cell (by exact h.1)).trans h.2.1, (b.cell (by exact h.1)).trans h.2.2.1, h.2.2.2.below b⟩
theorem BothNo.no {w : World} {t : Nat} {p : Value} (h : BothNo w t p) : NoRel w p := h.2.2.2
theorem BothNo.c0 {w : World} {t : Nat} {p : Value} (h : BothNo w t p) : w.cell? ⟨t, 0, none⟩ = some p := h.2.1
theorem BothNo.c1 {w : World} {t : Nat} {p : Value} (h : BothNo w t p) : w.cell? ⟨t, 1, none⟩ = some (.pointer none) := h.2.2.1
set_option maxHeartbeats 3200000 in
set_option maxRecDepth 100000 in
theorem sizes_no {w : World} {t : Nat} {p : Value} (h : BothNo w t p) : Calls Try.prog 21 #[.pointer (some ⟨t, 0, none⟩)] w fun e w' => e = .returned (.bool true) ∧ Below w.heap.size w w' := by
  have hd := h.below (Below.refl _ _).drew
  have c0 := hd.c0
  have c1 := hd.c1
  have HA := Lib.hid (arity_no hd.no)
  have HL := Lib.hid (len_no hd.no)
  have HG := Lib.hid (gone_no hd.no)
  clear h hd
  go_enter Try.func21, Try.ntmps21
  go_upto_region 1 with fail
  go_region_held3 (fun u => u.cell? ⟨t, 0, none⟩ = some p ∧ u.cell? ⟨t, 1, none⟩ = some (.pointer none))
    (first | assumption | exact ⟨c0, c1⟩)
    (first
      | (go_at_call 33; refine HA.out.mono ?_; rintro ee w2 ⟨rfl, rfl⟩)
      | (go_at_call 32; refine HL.out.mono ?_; rintro ee w2 ⟨rfl, rfl⟩)
      | (go_at_call 46; refine HG.out.mono ?_; rintro ee w2 ⟨rfl, rfl⟩)
      | (go_at_call 45; refine (rarity_nil _).mono ?_; rintro ee w2 ⟨rfl, rfl⟩)
      | (go_at_call 24; refine (rlen_nil _).mono ?_; rintro ee w2 ⟨rfl, rfl⟩)
      | (go_at_call 47; refine (rgone_nil _).mono ?_; rintro ee w2 ⟨rfl, rfl⟩)
      | fail)
  all_goals
    go_wp2
    go_ret
    exact ⟨rfl, (Below.refl _ _).drew⟩
end Go.Proofs.Ytihngojkcacgdaa
