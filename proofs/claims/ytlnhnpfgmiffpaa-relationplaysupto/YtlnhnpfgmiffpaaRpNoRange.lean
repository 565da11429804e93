import Derived.Test.YtlnhnpfgmiffpaaRpRefNo
namespace Go.Proofs.Ytlnhnpfgmiffpaa
open Go.RowKit Go.Maps
set_option linter.unusedVariables false
set_option linter.unusedSimpArgs false
attribute [local go_sem ↓] Go.wp_at_zero Go.wp_at_succ

attribute [-go_sem] loadVar
set_option maxHeartbeats 1600000 in
set_option maxRecDepth 100000 in
theorem rat_nil (i : Int) (w : World) : Calls Try.prog 21 #[.pointer none, .int .i64 i] w fun e w' => e = .returned (.tuple #[rowV zeroL, .int .i64 2]) ∧ Below w.heap.size w w' := by
  have hb := (Below.refl w.heap.size w).alloc (Nat.le_refl _) (.cells #[.int .i32 0, .int .i32 0, .int .i32 0, .int .i32 0, .int .i32 0, .int .i32 0, .int .i32 0, .int .i32 0, .int .i32 0, .int .i32 0, .int .i32 0, .int .i32 0, .int .i32 0, .int .i32 0, .int .i32 0, .int .i32 0, .int .i32 0, .int .i32 0, .int .i32 0, .int .i32 0, .int .i32 0, .int .i32 0, .int .i32 0, .int .i32 0] 40)
  have HB := Lib.hid hb
  have HZ : Hid ((w.alloc (.cells #[.int .i32 0, .int .i32 0, .int .i32 0, .int .i32 0, .int .i32 0, .int .i32 0, .int .i32 0, .int .i32 0, .int .i32 0, .int .i32 0, .int .i32 0, .int .i32 0, .int .i32 0, .int .i32 0, .int .i32 0, .int .i32 0, .int .i32 0, .int .i32 0, .int .i32 0, .int .i32 0, .int .i32 0, .int .i32 0, .int .i32 0, .int .i32 0] 40)).heap[w.heap.size]? = some (.cells #[.int .i32 0, .int .i32 0, .int .i32 0, .int .i32 0, .int .i32 0, .int .i32 0, .int .i32 0, .int .i32 0, .int .i32 0, .int .i32 0, .int .i32 0, .int .i32 0, .int .i32 0, .int .i32 0, .int .i32 0, .int .i32 0, .int .i32 0, .int .i32 0, .int .i32 0, .int .i32 0, .int .i32 0, .int .i32 0, .int .i32 0, .int .i32 0] 40 (0, 0))) := heap_alloc_new w _
  clear hb
  go_enter Try.func21, Try.ntmps21
  go_upto_region 1 with fail
  generalize w.alloc (.cells #[.int .i32 0, .int .i32 0, .int .i32 0, .int .i32 0, .int .i32 0, .int .i32 0, .int .i32 0, .int .i32 0, .int .i32 0, .int .i32 0, .int .i32 0, .int .i32 0, .int .i32 0, .int .i32 0, .int .i32 0, .int .i32 0, .int .i32 0, .int .i32 0, .int .i32 0, .int .i32 0, .int .i32 0, .int .i32 0, .int .i32 0, .int .i32 0] 40) = W at HB HZ ⊢
  go_wp2_with fail
  refine (rthere_nil _).mono ?_
  rintro e w1 ⟨rfl, rfl⟩
  go_wp2_with (refine wpList_storeRow _ rfl (.tmp 4) (.tmp 9) 40 rfl w.heap.size #[.int .i32 0, .int .i32 0, .int .i32 0, .int .i32 0, .int .i32 0, .int .i32 0, .int .i32 0, .int .i32 0, .int .i32 0, .int .i32 0, .int .i32 0, .int .i32 0, .int .i32 0, .int .i32 0, .int .i32 0, .int .i32 0, .int .i32 0, .int .i32 0, .int .i32 0, .int .i32 0, .int .i32 0, .int .i32 0, .int .i32 0, .int .i32 0] (List.map cellI zeroL).toArray rfl rfl HZ.out (by rw [show (List.map cellI zeroL).toArray.size = 24 by decide]; exact infoRow) (by decide) (by kernel_rfl) ?_)
  have HF : RowAt (w1.setRow w.heap.size (List.map cellI zeroL).toArray) w.heap.size zeroL := setRow_heap w1 w.heap.size _ _ _ (0, 0) HZ.out
  refine bodyPost_ret (rl_results3 Try.results21 (b := w.heap.size) (v := rowV zeroL) (u := .int .i64 2) rfl rfl (run_loadRow HF zeroL_ok.len)) rfl ⟨rfl, ?_⟩
  exact HB.out.trans ⟨rfl, rfl, rfl, by simp, fun k hk => setRow_other w1 w.heap.size k _ (by omega)⟩
set_option maxHeartbeats 1600000 in
set_option maxRecDepth 100000 in
theorem sameRows_0 (a b : Option Addr) (c d : Nat) (w : World) : Calls Try.prog 33 #[.slice a 0 c, .slice b 0 d] w fun e w' => e = .returned (.bool true) ∧ w' = w := by
  go_enter Try.func33, Try.ntmps33
  go_wp2_with fail
  go_loopw [5] (fun i wr => i = .int .i64 0 ∧ wr = w) (fun _ _ => 0)
  case atStart => exact ⟨rfl, rfl⟩
  case round =>
    obtain ⟨rfl, hwr⟩ := hrel
    subst hwr
    go_wp2
    go_ret
    exact ⟨rfl, rfl⟩
set_option maxHeartbeats 1600000 in
set_option maxRecDepth 100000 in
theorem sameInts_0 (a b : Option Addr) (c d : Nat) (w : World) : Calls Try.prog 24 #[.slice a 0 c, .slice b 0 d] w fun e w' => e = .returned (.bool true) ∧ w' = w := by
  go_enter Try.func24, Try.ntmps24
  go_wp2_with fail
  go_loopw [5] (fun i wr => i = .int .i64 0 ∧ wr = w) (fun _ _ => 0)
  case atStart => exact ⟨rfl, rfl⟩
  case round =>
    obtain ⟨rfl, hwr⟩ := hrel
    subst hwr
    go_wp2
    go_ret
    exact ⟨rfl, rfl⟩
/-- the range over a relation that is not there -/
def SeqNo (w : World) (sq : Value) : Prop := ∃ b0 b1 b2 p, sq = .func (.func 51) #[] #[.pointer (some ⟨b0, 0, none⟩), .pointer (some ⟨b1, 0, none⟩), .pointer (some ⟨b2, 0, none⟩)] ∧ w.cell? ⟨b0, 0, none⟩ = some p ∧ b0 < w.heap.size ∧ NoRel w p
theorem SeqNo.below {w w' : World} {sq : Value} (h : SeqNo w sq) (b : Below w.heap.size w w') : SeqNo w' sq := by
  obtain ⟨b0, b1, b2, p, h1, h2, h3, h4⟩ := h
  exact ⟨b0, b1, b2, p, h1, by rw [b.cell (by exact h3)]; exact h2, Nat.lt_of_lt_of_le h3 b.size, h4.below b⟩
set_option maxHeartbeats 1600000 in
set_option maxRecDepth 100000 in
theorem range_no {w : World} {p : Value} (h : NoRel w p) (i j : Int) : Calls Try.prog 31 #[p, .int .i64 i, .int .i64 j] w fun e w' => (∃ sq, e = .returned sq ∧ SeqNo w' sq) ∧ Below w.heap.size w w' := by
  have hp := h.form
  have HN := Lib.hid h
  clear h
  obtain rfl | ⟨t, rfl⟩ := hp
  all_goals
    go_enter Try.func31, Try.ntmps31
    go_wp2
    go_ret
    refine ⟨⟨_, rfl, _, _, _, _, rfl, (by go_simp; rfl), (by simp; omega), ?_⟩, ?_⟩
    · exact HN.out.below ((((Below.refl w.heap.size w).alloc (Nat.le_refl _) _).alloc (by simp) _).alloc (by simp; omega) _)
    · exact (((Below.refl w.heap.size w).alloc (Nat.le_refl _) _).alloc (by simp) _).alloc (by simp; omega) _
end Go.Proofs.Ytlnhnpfgmiffpaa
