import Derived.Test.YtmmaidniaafkgaaSnLent
namespace Go.Proofs.Ytmmaidniaafkgaa
open Go.RowKit Go.Maps Go.Shelf
set_option linter.unusedVariables false
set_option linter.unusedSimpArgs false
attribute [local go_sem ↓] Go.wp_at_zero Go.wp_at_succ

/-- the law's pair of a table that is not there and of the reference's, nil -/
def BothNo (w : World) (t : Nat) (p : Value) : Prop := t < w.heap.size ∧ w.cell? ⟨t, 0, none⟩ = some p ∧ w.cell? ⟨t, 1, none⟩ = some (.pointer none) ∧ NoTab w p
theorem BothNo.below {w w' : World} {t : Nat} {p : Value} (h : BothNo w t p) (b : Below w.heap.size w w') : BothNo w' t p :=
  ⟨Nat.lt_of_lt_of_le h.1 b.size, (b.cell (by exact h.1)).trans h.2.1, (b.cell (by exact h.1)).trans h.2.2.1, h.2.2.2.below b⟩
theorem BothNo.no {w : World} {t : Nat} {p : Value} (h : BothNo w t p) : NoTab w p := h.2.2.2
theorem BothNo.c0 {w : World} {t : Nat} {p : Value} (h : BothNo w t p) : w.cell? ⟨t, 0, none⟩ = some p := h.2.1
theorem BothNo.c1 {w : World} {t : Nat} {p : Value} (h : BothNo w t p) : w.cell? ⟨t, 1, none⟩ = some (.pointer none) := h.2.2.1
theorem eql_zR (w : World) : (binOp .eql 29 (.agg zR) (.agg zR)).run Try.prog w = .ok (.bool true) w := by kernel_rfl
theorem new_zR (w : World) : (w.alloc (.cells zR 29)).setRow w.heap.size zR = w.alloc (.cells zR 29) := World.setRow_alloc_new w zR zR 29
theorem heap_zR (w : World) : (w.alloc (.cells zR 29)).heap[w.heap.size]? = some (.cells zR 29 (0, 0)) := heap_alloc_new w _
attribute [-go_sem] loadVar
set_option maxHeartbeats 3200000 in
set_option maxRecDepth 100000 in
theorem lists_row {w : World} {t : Nat} {p : Value} (h : BothNo w t p)  {B g cap : Nat} {us : List V} (hL : LentAt w B g cap us) (b : Option Addr) (d : Nat) (hv : Lv w (.slice b us.length d) us) (hl : us.length ≤ 1048576) :
    Calls Try.prog 24 #[.pointer (some ⟨t, 0, none⟩), .int .i64 4, .slice (some ⟨g, 0, none⟩) us.length cap, .slice b us.length d] w fun e w' => e = .returned (.bool true) ∧ Below w.heap.size w w' := by
  have HN := Lib.hid h
  have HL := Lib.hid hL
  have HV := Lib.hid hv
  have hc1 := run_loadRef h.c1
  clear h hL hv
  go_enter Try.func24, Try.ntmps24
  go_wp2_with fail
  refine (rrow_nil _ _ _).mono ?_
  rintro e w1 ⟨rfl, b1⟩
  clear hc1
  have hz := heap_zR w1
  unfold zR at hz
  go_upto_region 3 with (refine wpList_storeRow _ rfl (.tmp 9) (.tmp 26) 29 rfl w1.heap.size zR zR rfl rfl hz infoRow rfl zR_all ?_)
  clear hz
  have hw : (w1.alloc (.cells zR 29)).setRow w1.heap.size zR = w1.alloc (.cells zR 29) := new_zR w1
  have Z1 := Lib.hid (heap_zR w1)
  have HB2 : Hid (Below w.heap.size w (w1.alloc (.cells zR 29))) := b1.alloc b1.size _
  rw [← hw] at Z1 HB2
  unfold zR at Z1 HB2 ⊢
  clear hw
  generalize World.setRow (w1.alloc _) _ _ = W2 at Z1 HB2 ⊢
  generalize w1.heap.size = z1 at Z1 ⊢
  have hc0 := run_loadTab (HN.out.below HB2.out).c0
  go_wp2_with fail
  refine (row_no (HN.out.below HB2.out).no _ _ _).mono ?_
  rintro e w3 ⟨rfl, b3⟩
  clear hc0
  have hz := heap_zR w3
  unfold zR at hz
  go_upto_region 4 with (refine wpList_storeRow _ rfl (.tmp 11) (.tmp 35) 29 rfl w3.heap.size zR zR rfl rfl hz infoRow rfl zR_all ?_)
  clear hz
  have hw : (w3.alloc (.cells zR 29)).setRow w3.heap.size zR = w3.alloc (.cells zR 29) := new_zR w3
  have Z2 := Lib.hid (heap_zR w3)
  have b4 : Below W2.heap.size W2 (w3.alloc (.cells zR 29)) := b3.alloc b3.size _
  have HB4 := Lib.hid (HB2.out.trans (b4.mono HB2.out.size))
  have Z3 : Hid ((w3.alloc (.cells zR 29)).heap[z1]? = some (.cells zR 29 (0, 0))) := (b4.block z1 (Array.getElem?_eq_some_iff.1 Z1.out).1).trans Z1.out
  clear Z1 HB2 b3 b4
  rw [← hw] at Z2 Z3 HB4
  unfold zR at Z2 Z3 HB4 ⊢
  clear hw
  generalize World.setRow (w3.alloc _) _ _ = W4 at Z2 Z3 HB4 ⊢
  generalize w3.heap.size = z2 at Z2 ⊢
  have l1 := zR_load Z3.out
  have l2 := zR_load Z2.out
  have hq := fun w => eql_zR w
  unfold zR at l1 l2 hq
  go_wp2_with fail
  refine (left_any (HL.out.below HB4.out) b d (HV.out.below HB4.out) hl).mono ?_
  rintro e w5 ⟨rfl, b5⟩
  go_wp2
  go_ret
  exact ⟨rfl, HB4.out.trans (b5.mono HB4.out.size)⟩
set_option maxHeartbeats 3200000 in
set_option maxRecDepth 100000 in
theorem lists_seek {w : World} {t : Nat} {p : Value} (h : BothNo w t p) (k : Int) (hk : k ≠ 4) {B g cap : Nat} {us : List V} (hL : LentAt w B g cap us) (b : Option Addr) (d : Nat) (hv : Lv w (.slice b us.length d) us) (hl : us.length ≤ 1048576) :
    Calls Try.prog 24 #[.pointer (some ⟨t, 0, none⟩), .int .i64 k, .slice (some ⟨g, 0, none⟩) us.length cap, .slice b us.length d] w fun e w' => e = .returned (.bool true) ∧ Below w.heap.size w w' := by
  have e4 : ((k : Int) == 4) = false := by simpa using hk
  have HN := Lib.hid h
  have HL := Lib.hid hL
  have HV := Lib.hid hv
  have hc1 := run_loadRef h.c1
  clear h hL hv
  go_enter Try.func24, Try.ntmps24
  go_wp2_with fail
  refine (rseek_nil _ _ _).mono ?_
  rintro e w1 ⟨rfl, b1⟩
  clear hc1
  have hz := heap_zR w1
  unfold zR at hz
  go_upto_region 6 with (refine wpList_storeRow _ rfl (.tmp 13) (.tmp 57) 29 rfl w1.heap.size zR zR rfl rfl hz infoRow rfl zR_all ?_)
  clear hz
  have hw : (w1.alloc (.cells zR 29)).setRow w1.heap.size zR = w1.alloc (.cells zR 29) := new_zR w1
  have Z1 := Lib.hid (heap_zR w1)
  have HB2 : Hid (Below w.heap.size w (w1.alloc (.cells zR 29))) := b1.alloc b1.size _
  rw [← hw] at Z1 HB2
  unfold zR at Z1 HB2 ⊢
  clear hw
  generalize World.setRow (w1.alloc _) _ _ = W2 at Z1 HB2 ⊢
  generalize w1.heap.size = z1 at Z1 ⊢
  have hc0 := run_loadTab (HN.out.below HB2.out).c0
  go_wp2_with fail
  refine (seek_no (HN.out.below HB2.out).no _ _ _).mono ?_
  rintro e w3 ⟨rfl, b3⟩
  clear hc0
  have hz := heap_zR w3
  unfold zR at hz
  go_upto_region 7 with (refine wpList_storeRow _ rfl (.tmp 15) (.tmp 66) 29 rfl w3.heap.size zR zR rfl rfl hz infoRow rfl zR_all ?_)
  clear hz
  have hw : (w3.alloc (.cells zR 29)).setRow w3.heap.size zR = w3.alloc (.cells zR 29) := new_zR w3
  have Z2 := Lib.hid (heap_zR w3)
  have b4 : Below W2.heap.size W2 (w3.alloc (.cells zR 29)) := b3.alloc b3.size _
  have HB4 := Lib.hid (HB2.out.trans (b4.mono HB2.out.size))
  have Z3 : Hid ((w3.alloc (.cells zR 29)).heap[z1]? = some (.cells zR 29 (0, 0))) := (b4.block z1 (Array.getElem?_eq_some_iff.1 Z1.out).1).trans Z1.out
  clear Z1 HB2 b3 b4
  rw [← hw] at Z2 Z3 HB4
  unfold zR at Z2 Z3 HB4 ⊢
  clear hw
  generalize World.setRow (w3.alloc _) _ _ = W4 at Z2 Z3 HB4 ⊢
  generalize w3.heap.size = z2 at Z2 ⊢
  have l1 := zR_load Z3.out
  have l2 := zR_load Z2.out
  have hq := fun w => eql_zR w
  unfold zR at l1 l2 hq
  go_wp2_with fail
  refine (left_any (HL.out.below HB4.out) b d (HV.out.below HB4.out) hl).mono ?_
  rintro e w5 ⟨rfl, b5⟩
  go_wp2
  go_ret
  exact ⟨rfl, HB4.out.trans (b5.mono HB4.out.size)⟩
theorem lists_any {w : World} {t : Nat} {p : Value} (h : BothNo w t p) (k : Int) {B g cap : Nat} {us : List V} (hL : LentAt w B g cap us) (b : Option Addr) (d : Nat) (hv : Lv w (.slice b us.length d) us) (hl : us.length ≤ 1048576) :
    Calls Try.prog 24 #[.pointer (some ⟨t, 0, none⟩), .int .i64 k, .slice (some ⟨g, 0, none⟩) us.length cap, .slice b us.length d] w fun e w' => e = .returned (.bool true) ∧ Below w.heap.size w w' := by
  by_cases hk : k = 4
  · subst hk; exact lists_row h hL b d hv hl
  · exact lists_seek h k hk hL b d hv hl
end Go.Proofs.Ytmmaidniaafkgaa
