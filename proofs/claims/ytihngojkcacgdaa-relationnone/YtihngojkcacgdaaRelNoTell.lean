import Derived.Test.YtihngojkcacgdaaRelNoSeq
namespace Go.Proofs.Ytihngojkcacgdaa
open Go.RowKit Go.Maps Go.Shelf
set_option linter.unusedVariables false
set_option linter.unusedSimpArgs false
attribute [local go_sem ↓] Go.wp_at_zero Go.wp_at_succ
attribute [local go_sem] Oper.semAt_some

attribute [-go_sem] loadVar
theorem fn_there (f : Nat) (lb : Array Value) (w : World) : (binOp .eql 32 (.func (.func f) #[] lb) .nilFunc).run Try.prog w = .ok (.bool false) w := by kernel_rfl
theorem fn_thereN (f : Nat) (lb : Array Value) (w : World) : (binOp .neq 32 (.func (.func f) #[] lb) .nilFunc).run Try.prog w = .ok (.bool true) w := by kernel_rfl
theorem bxB {w w' : World} {B : Nat} {t : TypeId} {v : Value} (h : Boxed w B t v) (hb : Below w.heap.size w w') : Boxed w' B t v := (hb.block B h.lt).trans h
theorem bxN {w : World} {B : Nat} (hB : B = w.heap.size) (t : TypeId) (v : Value) : Boxed (w.alloc (.cells #[v] t)) B t v := hB ▸ Boxed.new w t v
theorem belowA {w : World} (o : Obj) : Below w.heap.size w (w.alloc o) := (Below.refl _ _).alloc (Nat.le_refl _) _
/-- at the end of a call with a range in it: the deferred calls (none) are taken, a result is in its box -/
theorem collected_bool {w W4 W : World} {B D : Nat} {v : Value} (h4 : Below w.heap.size w W4) (hb : Below W4.heap.size W4 W) (hB : Boxed W B 4 v) (hw : w.heap.size ≤ B) (hne : B < D) (hK : W.heap[D]? = some (.deferred (some []))) (x : Value) :
    Hid ((W.setCell ⟨B, 0, none⟩ x).heap[D]? = some (.deferred (some []))) ∧ Hid ((loadVar 4 ⟨B, 0, none⟩).run Try.prog ((W.setCell ⟨B, 0, none⟩ x).putObj D (.deferred none)) = .ok x ((W.setCell ⟨B, 0, none⟩ x).putObj D (.deferred none))) ∧
      Hid (Below w.heap.size w ((W.setCell ⟨B, 0, none⟩ x).putObj D (.deferred none))) := by
  have hK' : (W.setCell ⟨B, 0, none⟩ x).heap[D]? = some (.deferred (some [])) := (heap_setCell_other _ _ _ _ (by show D ≠ B; omega)).trans hK
  have hbx : Boxed ((W.setCell ⟨B, 0, none⟩ x).putObj D (.deferred none)) B 4 x := (World.putObj_heap_other (by omega)).trans (hB.set x)
  exact ⟨hK', run_loadBool hbx.cell, ((h4.trans (hb.mono h4.size)).setCell (p := ⟨B, 0, none⟩) hw x).trans (belowK_b (w := w) (Nat.le_refl _) _ D _ (.deferred none) (by omega) hK' rfl rfl)⟩
set_option maxHeartbeats 1600000 in
set_option maxRecDepth 100000 in
theorem tells_no {w : World} {sq : Value} (h : SeqNo w sq) (a : Option Addr) (c : Nat) (n : Int) : Calls Try.prog 22 #[sq, .slice a 0 c, .int .i64 n] w fun e w' => e = .returned (.bool true) ∧ Below w.heap.size w w' := by
  refine (callsIn_wide (n := 8)).1 ?_
  refine callsIn_of_wp_marks Try.func22 rfl trivial ?_ rfl
  simp only [Try.ntmps22, List.size_toArray, List.length_cons, List.length_nil, Nat.reduceAdd, Nat.reduceSub, Array.replicate_succ, Array.replicate_zero, List.push_toArray, List.append_toArray, List.nil_append, List.cons_append]
  have HB4 := Lib.hid (((((Below.refl w.heap.size w).alloc (Nat.le_refl _) (.cells #[.slice a 0 c] 57)).alloc (by simp) (.cells #[.int .i64 n] 3)).alloc (by simp; omega) (.cells #[.bool false] 4)).alloc (by simp; omega) (.cells #[.int .i64 0] 3))
  have HS4 := Lib.hid (h.below HB4.out)
  have B1 := Lib.hid (bxB (bxB (bxB (Boxed.new w 57 (.slice a 0 c)) (belowA (.cells #[.int .i64 n] 3))) (belowA (.cells #[.bool false] 4))) (belowA (.cells #[.int .i64 0] 3)))
  have B3 := Lib.hid (bxB (bxN (w := (w.alloc (.cells #[.slice a 0 c] 57)).alloc (.cells #[.int .i64 n] 3)) (B := w.heap.size + 1 + 1) (by simp) 4 (.bool false)) (belowA (.cells #[.int .i64 0] 3)))
  have B4 := Lib.hid (bxN (w := ((w.alloc (.cells #[.slice a 0 c] 57)).alloc (.cells #[.int .i64 n] 3)).alloc (.cells #[.bool false] 4)) (B := w.heap.size + 1 + 1 + 1) (by simp) 3 (.int .i64 0))
  obtain ⟨lb, rfl, _⟩ := h.tells
  clear h
  have hft := fun w => fn_there 48 lb w
  gi_wp2_with fail
  generalize ((((w.alloc (.cells #[.slice a 0 c] 57)).alloc (.cells #[.int .i64 n] 3)).alloc (.cells #[.bool false] 4)).alloc (.cells #[.int .i64 0] 3)) = W4 at HB4 HS4 B1 B3 B4 ⊢
  obtain ⟨lb', hlb, hcl⟩ := HS4.out.tells
  obtain rfl : lb = lb' := by injection hlb
  have HCL := Lib.hid hcl
  clear hcl hlb HS4 hft
  refine wpIn_rangeNone rfl (by omega) (gf := 48) (lb := lb) rfl trivial (enters_of Try.func48 (by kernel_rfl) rfl) (fun l W hW => HCL.out _ l W hW) ?_
  intro D W hD hb hK
  have l1 := run_loadNums (bxB B1.out hb).cell
  have l4 := run_loadInt (bxB B4.out hb).cell
  have c3 := (bxB B3.out hb).cell
  have f3 := (bxB B3.out hb).frozen
  have hlt := Boxed.lt B4.out
  obtain ⟨HK, HR, HBW⟩ := collected_bool HB4.out hb (bxB B3.out hb) (by omega) (by omega) hK (.bool true)
  clear hb hK hD HCL HB4 B1 B3 B4 hlt
  gi_wp2
  exact ⟨by simp, .inl ⟨_, _, rfl, run_takeDeferred HK.out, _, rl_results Try.results22 rfl HR.out, rfl, HBW.out⟩⟩
end Go.Proofs.Ytihngojkcacgdaa
