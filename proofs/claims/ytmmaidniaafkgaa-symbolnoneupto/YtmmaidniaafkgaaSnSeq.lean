import Derived.Test.YtmmaidniaafkgaaSnNo
namespace Go.Proofs.Ytmmaidniaafkgaa
open Go.RowKit Go.Maps Go.Shelf
set_option linter.unusedVariables false
set_option linter.unusedSimpArgs false
attribute [local go_sem ↓] Go.wp_at_zero Go.wp_at_succ
attribute [local go_sem] Oper.semAt_some

/-- two results in boxes -/
theorem two_results {fn : Func} {s1 s2 : Nat} {ta tb : TypeId} (hr : fn.results = #[.cell s1 ta, .cell s2 tb]) {W : World} {tmps : Array Value} {b c : Nat} {v u : Value} (h1 : tmps.getD s1 undef = .pointer (some ⟨b, 0, none⟩)) (h2 : tmps.getD s2 undef = .pointer (some ⟨c, 0, none⟩))
    (l1 : (loadVar ta ⟨b, 0, none⟩).run Try.prog W = .ok v W) (l2 : (loadVar tb ⟨c, 0, none⟩).run Try.prog W = .ok u W) : (results fn tmps).run Try.prog W = .ok (.tuple #[v, u]) W := by
  have h1' : tmps[s1]?.getD undef = .pointer (some ⟨b, 0, none⟩) := by simpa using h1
  have h2' : tmps[s2]?.getD undef = .pointer (some ⟨c, 0, none⟩) := by simpa using h2
  unfold results
  rw [hr]
  simp [h1', h2', asAddr, l1, l2, Result.andThen]
theorem run_loadErr {w : World} {a : Addr} {v : Value} (h : w.cell? a = some v) : (loadVar 45 a).run Try.prog w = .ok v w := by
  simp [loadVar, go_sem, h]
set_option maxHeartbeats 1600000 in
set_option maxRecDepth 100000 in
theorem row_no {w : World} {p : Value} (h : NoTab w p) (a : Option Addr) (n c : Nat) : Calls Try.prog 33 #[p, .slice a n c] w fun e w' => e = .returned (.tuple #[.agg zR, .int .i64 2]) ∧ Below w.heap.size w w' := by
  have hb := ((belowA (w := w) (.cells #[p] 32)).alloc (by simp) (.cells zR 29)).alloc (by simp; omega) (.cells #[.int .i64 0] 45)
  have HB := Lib.hid hb
  have HT := Lib.hid (there_no (h.below hb))
  have HP := Lib.hid (bxB (bxB (Boxed.new w 32 p) (belowA (.cells zR 29))) (belowA (.cells #[.int .i64 0] 45)))
  have HZ : Hid ((((w.alloc (.cells #[p] 32)).alloc (.cells zR 29)).alloc (.cells #[.int .i64 0] 45)).heap[w.heap.size + 1]? = some (.cells zR 29 (0, 0))) := by
    have h1 := heap_alloc_new (w.alloc (.cells #[p] 32)) (.cells zR 29)
    rw [World.size_alloc] at h1
    exact (Below.heap_alloc _ _ _ (by simp)).trans h1
  have HE := Lib.hid (bxN (w := (w.alloc (.cells #[p] 32)).alloc (.cells zR 29)) (B := w.heap.size + 1 + 1) (by simp) 45 (.int .i64 0))
  have hf := h.form
  clear h hb
  unfold zR at HB HT HP HZ HE
  obtain rfl | ⟨t, rfl⟩ := hf
  all_goals
    go_enter_defers Try.func33, Try.ntmps33
    go_upto_region 1 with fail
    generalize ((w.alloc _).alloc _).alloc _ = W at HB HT HP HZ HE ⊢
    have l0 := HP.out.cell
    go_wp2_with fail
    refine HT.out.mono ?_
    rintro e w1 ⟨rfl, rfl⟩
    have HF : Hid ((w1.setRow (w.heap.size + 1) zR).heap[w.heap.size + 1]? = some (.cells zR 29 (0, 0))) := setRow_heap w1 (w.heap.size + 1) _ _ _ (0, 0) HZ.out
    have BE : Hid (Boxed (w1.setRow (w.heap.size + 1) zR) (w.heap.size + 1 + 1) 45 (.int .i64 0)) := (setRow_other w1 (w.heap.size + 1) (w.heap.size + 1 + 1) _ (by omega)).trans HE.out
    have ce := BE.out.cell
    have fe := BE.out.frozen
    clear l0 HT HP
    go_wp2_with (refine wpList_storeRow _ rfl (.tmp 4) (.tmp 10) 29 rfl (w.heap.size + 1) zR zR rfl rfl HZ.out infoRow rfl zR_all ?_)
    refine ⟨_, two_results Try.results33 (b := w.heap.size + 1) (c := w.heap.size + 1 + 1) rfl rfl (zR_load ((Below.heap_setCell _ _ _ _ (by show w.heap.size + 1 ≠ w.heap.size + 1 + 1; omega)).trans HF.out)) (run_loadErr (BE.out.set (.int .i64 2)).cell), rfl, ?_⟩
    have hbr : Below w.heap.size w1 (w1.setRow (w.heap.size + 1) zR) := ⟨rfl, rfl, rfl, by simp, fun k hk => setRow_other w1 (w.heap.size + 1) k _ (by omega)⟩
    exact (HB.out.trans hbr).setCell (p := ⟨w.heap.size + 1 + 1, 0, none⟩) (by show w.heap.size ≤ w.heap.size + 1 + 1; omega) _
/-- the range over a table that is not there -/
def SeqNo (w : World) (sq : Value) : Prop := ∃ b0 p, sq = .func (.func 37) #[] #[.pointer (some ⟨b0, 0, none⟩)] ∧ w.cell? ⟨b0, 0, none⟩ = some p ∧ b0 < w.heap.size ∧ NoTab w p
theorem SeqNo.below {w w' : World} {sq : Value} (h : SeqNo w sq) (b : Below w.heap.size w w') : SeqNo w' sq := by
  obtain ⟨b0, p, h1, h2, h3, h4⟩ := h
  exact ⟨b0, p, h1, by rw [b.cell (by exact h3)]; exact h2, Nat.lt_of_lt_of_le h3 b.size, h4.below b⟩
set_option maxHeartbeats 1600000 in
set_option maxRecDepth 100000 in
theorem all_no {w : World} {p : Value} (h : NoTab w p) : Calls Try.prog 25 #[p] w fun e w' => (∃ sq, e = .returned sq ∧ SeqNo w' sq) ∧ Below w.heap.size w w' := by
  have hp := h.form
  have HN := Lib.hid h
  clear h
  obtain rfl | ⟨t, rfl⟩ := hp
  all_goals
    go_enter Try.func25, Try.ntmps25
    go_wp2
    go_ret
    refine ⟨⟨_, rfl, _, _, rfl, (Boxed.new w _ _).cell, by simp, ?_⟩, ?_⟩
    · exact HN.out.below (belowA _)
    · exact belowA _
set_option maxHeartbeats 1600000 in
set_option maxRecDepth 100000 in
theorem all1_no {w : World} {b0 : Nat} {p : Value} (hc : w.cell? ⟨b0, 0, none⟩ = some p) (h : NoTab w p) (l : Nat) :
    Calls Try.prog 37 (#[.func (.yield l) #[] #[]] ++ #[.pointer (some ⟨b0, 0, none⟩)]) w fun e w' => (∃ v, e = .returned v) ∧ w' = w := by
  have hp := h.form
  have HT := Lib.hid (there_no h)
  clear h
  obtain rfl | ⟨t, rfl⟩ := hp
  all_goals
    go_enter Try.func37, Try.ntmps37
    go_wp2_with fail
    refine HT.out.mono ?_
    rintro e w1 ⟨rfl, rfl⟩
    go_wp2
    exact bodyPost_ret (results_none Try.results37 _ _ _) rfl ⟨⟨_, rfl⟩, rfl⟩
theorem SeqNo.tells {w : World} {sq : Value} (h : SeqNo w sq) : ∃ lb, sq = .func (.func 37) #[] lb ∧
    ∀ (n l : Nat) (W : World), Below w.heap.size w W → CallsIn Fence.wide n Try.prog 37 (#[.func (.yield l) #[] #[]] ++ lb) W fun e W' => (∃ v, e = .returned v) ∧ W' = W := by
  obtain ⟨b0, p, h1, h2, h3, h4⟩ := h
  refine ⟨_, h1, fun n l W hW => callsIn_wide.2 (all1_no (p := p) ?_ (h4.below hW) l)⟩
  rw [hW.cell (by exact h3)]
  exact h2
set_option maxHeartbeats 1600000 in
set_option maxRecDepth 100000 in
theorem rall_nil (w : World) : Calls Try.prog 27 #[.pointer none] w fun e w' => e = .returned (.slice none 0 0) ∧ w' = w := by
  go_enter Try.func27, Try.ntmps27
  go_wp2_with fail
  go_loopw [3, 4] (fun out k wr => out = .slice none 0 0 ∧ k = .int .i64 0 ∧ wr = w) (fun _ _ _ => 0)
  case atStart => exact ⟨rfl, rfl, rfl⟩
  case round =>
    obtain ⟨rfl, rfl, hwr⟩ := hrel
    subst hwr
    go_wp2_with fail
    refine rlen_nil.mono ?_
    rintro e w1 ⟨rfl, rfl⟩
    go_wp2
    go_ret
    exact ⟨rfl, rfl⟩
attribute [-go_sem] loadVar
set_option maxHeartbeats 1600000 in
set_option maxRecDepth 100000 in
theorem tells_no {w : World} {sq : Value} (h : SeqNo w sq) (a : Option Addr) (c : Nat) (n : Int) : Calls Try.prog 26 #[sq, .slice a 0 c, .int .i64 n] w fun e w' => e = .returned (.bool true) ∧ Below w.heap.size w w' := by
  refine (callsIn_wide (n := 8)).1 ?_
  refine callsIn_of_wp_marks Try.func26 rfl trivial ?_ rfl
  simp only [Try.ntmps26, List.size_toArray, List.length_cons, List.length_nil, Nat.reduceAdd, Nat.reduceSub, Array.replicate_succ, Array.replicate_zero, List.push_toArray, List.append_toArray, List.nil_append, List.cons_append]
  have HB4 := Lib.hid (((((Below.refl w.heap.size w).alloc (Nat.le_refl _) (.cells #[.slice a 0 c] 64)).alloc (by simp) (.cells #[.int .i64 n] 3)).alloc (by simp; omega) (.cells #[.bool false] 4)).alloc (by simp; omega) (.cells #[.int .i64 0] 3))
  have HS4 := Lib.hid (h.below HB4.out)
  have B1 := Lib.hid (bxB (bxB (bxB (Boxed.new w 64 (.slice a 0 c)) (belowA (.cells #[.int .i64 n] 3))) (belowA (.cells #[.bool false] 4))) (belowA (.cells #[.int .i64 0] 3)))
  have B3 := Lib.hid (bxB (bxN (w := (w.alloc (.cells #[.slice a 0 c] 64)).alloc (.cells #[.int .i64 n] 3)) (B := w.heap.size + 1 + 1) (by simp) 4 (.bool false)) (belowA (.cells #[.int .i64 0] 3)))
  have B4 := Lib.hid (bxN (w := ((w.alloc (.cells #[.slice a 0 c] 64)).alloc (.cells #[.int .i64 n] 3)).alloc (.cells #[.bool false] 4)) (B := w.heap.size + 1 + 1 + 1) (by simp) 3 (.int .i64 0))
  obtain ⟨lb, rfl, _⟩ := h.tells
  clear h
  have hft := fun w => fn_there 37 lb w
  gi_wp2_with fail
  generalize ((((w.alloc (.cells #[.slice a 0 c] 64)).alloc (.cells #[.int .i64 n] 3)).alloc (.cells #[.bool false] 4)).alloc (.cells #[.int .i64 0] 3)) = W4 at HB4 HS4 B1 B3 B4 ⊢
  obtain ⟨lb', hlb, hcl⟩ := HS4.out.tells
  obtain rfl : lb = lb' := by injection hlb
  have HCL := Lib.hid hcl
  clear hcl hlb HS4 hft
  refine wpIn_rangeNone rfl (by omega) (gf := 37) (lb := lb) rfl trivial (enters_of Try.func37 (by kernel_rfl) rfl) (fun l W hW => HCL.out _ l W hW) ?_
  intro D W hD hb hK
  have l1 := run_loadNums (bxB B1.out hb).cell
  have l4 := run_loadInt (bxB B4.out hb).cell
  have c3 := (bxB B3.out hb).cell
  have f3 := (bxB B3.out hb).frozen
  have hlt := Boxed.lt B4.out
  obtain ⟨HK, HR, HBW⟩ := collected_bool HB4.out hb (bxB B3.out hb) (by omega) (by omega) hK (.bool true)
  clear hb hK hD HCL HB4 B1 B3 B4 hlt
  gi_wp2
  exact ⟨by simp, .inl ⟨_, _, rfl, run_takeDeferred HK.out, _, rl_results Try.results26 rfl HR.out, rfl, HBW.out⟩⟩
end Go.Proofs.Ytmmaidniaafkgaa
