import Derived.Test.YthkbcgedjecnlaaDoorLexLent
import Derived.Deep.QuietTactic
import Derived.BigQuiet
namespace Go.Proofs.YthkbcgedjecnlaaDoor
open Go.RowKit Go.Maps
set_option linter.unusedVariables false
set_option linter.unusedSimpArgs false
attribute [local go_sem ↓] Go.wp_at_zero Go.wp_at_succ

theorem TL_lit (w : World) (k n a : Int) (s : ByteArray) : TL (w.alloc (.cells #[.int .i8 k, .string s, .int .i64 n, .int .i64 a] 37)) (some ⟨w.heap.size, 0, none⟩) [⟨k, s.data.toList, n, a⟩] := by
  intro i t hi
  have h0 : i = 0 := by
    have := (List.getElem?_eq_some_iff.1 hi).1
    simpa using this
  subst h0
  obtain rfl : (⟨k, s.data.toList, n, a⟩ : Tk) = t := by simpa using hi
  refine ⟨w.heap.size, 0, rfl, ?_, ?_, ?_, ?_⟩ <;> go_simp
set_option maxHeartbeats 1600000 in
theorem same_true (ts : List Tk) (w : World) (a b : Option Addr) (c d : Nat) (hlen : ts.length ≤ 2147483647) (h1 : TL w a ts) (h2 : TL w b ts) :
    Calls Tryd.prog 6 #[.slice a ts.length c, .slice b ts.length d] w fun e w' => e = .returned (.bool true) ∧ Below w.heap.size w w' := by
  have H1 : Hid (TL w a ts) := h1
  have H2 : Hid (TL w b ts) := h2
  clear h1 h2
  go_enter Tryd.func6, Tryd.ntmps6
  go_wp2
  go_loopw [5] (fun i wr => ∃ k : Nat, k ≤ ts.length ∧ i = .int .i64 k ∧ Below w.heap.size w wr) (fun i _ => ts.length - (intOf i).toNat)
  case atStart => exact ⟨0, by omega, rfl, Below.refl _ _⟩
  case round =>
    obtain ⟨k, hk, rfl, bel⟩ := hrel
    by_cases hlt : k < ts.length
    · have hlt' : (k : Int) < (ts.length : Int) := by omega
      obtain ⟨t, ht⟩ : ∃ t, ts[k]? = some t := ⟨_, List.getElem?_eq_getElem hlt⟩
      obtain ⟨g, off, rfl, c0, c1, c2, c3⟩ := (H1.out.below bel) k t ht
      obtain ⟨g', off', rfl, d0, d1, d2, d3⟩ := (H2.out.below bel) k t ht
      have hne := fun W => tok_neq t t W
      simp only [decide_true, Bool.not_true] at hne
      generalize (⟨t.s.toArray⟩ : ByteArray) = tsb at *
      clear ht H1 H2
      go_wp2_with fail
      go_quiet (fail)
      go_wp2
      go_roundw
      case rel => exact ⟨k + 1, by omega, by go_num, ⟨bel.os, bel.tape, bel.output, bel.size, bel.block⟩⟩
      case measure => simp [intOf]; omega
    · obtain rfl : k = ts.length := by omega
      go_wp2
      go_ret
      exact ⟨rfl, bel⟩
end Go.Proofs.YthkbcgedjecnlaaDoor
