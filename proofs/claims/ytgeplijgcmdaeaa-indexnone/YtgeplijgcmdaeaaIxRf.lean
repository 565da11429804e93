import Derived.Test.YtgeplijgcmdaeaaIxNo
namespace Go.Proofs.Ytgeplijgcmdaeaa
open Go.RowKit Go.Maps Go.ChangeMaps
set_option linter.unusedVariables false
set_option linter.unusedSimpArgs false
attribute [local go_sem ↓] Go.wp_at_zero Go.wp_at_succ

/-- the document's book, a zero struct -/
def NoRf (w : World) (p : Nat) : Prop := RL w p 77 [.bool false, .int .i64 0, .slice none 0 0]
theorem NoRf.below {w w' : World} {p : Nat} (h : NoRf w p) (b : Below w.heap.size w w') : NoRf w' p := RL.below h b
set_option maxHeartbeats 800000 in
set_option maxRecDepth 100000 in
theorem rask_no {w : World} {p : Nat} (h : NoRf w p) (rv : Value) (m : Int) : Calls Try.prog 42 #[.pointer (some ⟨p, 0, none⟩), rv, .int .u32 m] w fun e w' => e = .returned (.int .i64 2) ∧ w' = w := by
  have c0 := RL.at h (j := 0) rfl
  clear h
  go_enter Try.func42, Try.ntmps42
  go_wp2
  go_ret
  exact ⟨rfl, rfl⟩
set_option maxHeartbeats 1600000 in
set_option maxRecDepth 100000 in
theorem rlook_no {w : World} {p : Nat} (h : NoRf w p) (rv : Value) (m : Int) (r : List Int) :
    Calls Try.prog 23 #[.pointer (some ⟨p, 0, none⟩), rv, .int .u32 m, rowV r] w fun e w' => e = .returned (.tuple #[.slice none 0 0, .int .i64 2]) ∧ Below w.heap.size w w' := by
  have hb0 := belowA (w := w) (.cells (rowC r) 26)
  have HK := Lib.hid (rask_no (h.below hb0) rv m)
  have HB0 := Lib.hid hb0
  clear hb0
  unfold rowV
  go_enter Try.func23, Try.ntmps23
  go_wp2_with fail
  refine HK.out.mono ?_
  rintro e w1 ⟨rfl, rfl⟩
  clear HK
  go_wp2
  go_ret2
  exact ⟨rfl, HB0.out⟩
set_option maxHeartbeats 1600000 in
set_option maxRecDepth 100000 in
theorem rcount_no {w : World} {p : Nat} (h : NoRf w p) (rv : Value) (m : Int) (r : List Int) :
    Calls Try.prog 25 #[.pointer (some ⟨p, 0, none⟩), rv, .int .u32 m, rowV r] w fun e w' => e = .returned (.tuple #[.int .i64 0, .int .i64 2]) ∧ Below w.heap.size w w' := by
  have hb0 := belowA (w := w) (.cells (rowC r) 26)
  have HK := Lib.hid (rask_no (h.below hb0) rv m)
  have HB0 := Lib.hid hb0
  clear hb0
  unfold rowV
  go_enter Try.func25, Try.ntmps25
  go_wp2_with fail
  refine HK.out.mono ?_
  rintro e w1 ⟨rfl, rfl⟩
  clear HK
  go_wp2
  go_ret2
  exact ⟨rfl, HB0.out⟩
set_option maxHeartbeats 1600000 in
set_option maxRecDepth 100000 in
theorem rdistinct_no {w : World} {p : Nat} (h : NoRf w p) (rv : Value) (m : Int) :
    Calls Try.prog 26 #[.pointer (some ⟨p, 0, none⟩), rv, .int .u32 m] w fun e w' => e = .returned (.tuple #[.int .i64 0, .int .i64 2]) ∧ Below w.heap.size w w' := by
  have hb0 := Below.refl w.heap.size w
  have HK := Lib.hid (rask_no (h.below hb0) rv m)
  have HB0 := Lib.hid hb0
  clear hb0

  go_enter Try.func26, Try.ntmps26
  go_wp2_with fail
  refine HK.out.mono ?_
  rintro e w1 ⟨rfl, rfl⟩
  clear HK
  go_wp2
  go_ret2
  exact ⟨rfl, HB0.out⟩
set_option maxHeartbeats 800000 in
set_option maxRecDepth 100000 in
theorem rseen_no {w : World} {p : Nat} (h : NoRf w p) (m : Int) : Calls Try.prog 29 #[.pointer (some ⟨p, 0, none⟩), .int .u32 m] w fun e w' => e = .returned (.int .i64 0) ∧ w' = w := by
  have c2 := RL.at h (j := 2) rfl
  clear h
  go_enter Try.func29, Try.ntmps29
  go_wp2
  go_loop [5] (fun i => i = .int .i64 0) (fun _ => 0)
  case atStart => rfl
  case round =>
    subst hrel
    go_wp2
    go_ret
    exact ⟨rfl, rfl⟩
set_option maxHeartbeats 800000 in
set_option maxRecDepth 100000 in
theorem rmasks_no {w : World} {p : Nat} (h : NoRf w p) : Calls Try.prog 27 #[.pointer (some ⟨p, 0, none⟩)] w fun e w' => e = .returned (.slice none 0 0) ∧ Below w.heap.size w w' := by
  have c2 := RL.at h (j := 2) rfl
  clear h
  go_enter Try.func27, Try.ntmps27
  go_wp2
  go_loop [3, 4] (fun l i => i = .int .i64 0 ∧ l = .slice none 0 0) (fun _ _ => 0)
  case atStart => exact ⟨rfl, rfl⟩
  case round =>
    obtain ⟨rfl, rfl⟩ := hrel
    go_wp2
    go_ret
    exact ⟨rfl, Below.refl _ _⟩
set_option maxHeartbeats 800000 in
theorem sameMasks_zero (a b : Option Addr) (c d : Nat) (w : World) :
    Calls Try.prog 22 #[.slice a 0 c, .slice b 0 d] w fun e w' => e = .returned (.bool true) ∧ Below w.heap.size w w' := by
  go_enter Try.func22, Try.ntmps22
  go_wp2
  go_loop [5] (fun i => i = .int .i64 0) (fun _ => 0)
  case atStart => rfl
  case round =>
    subst hrel
    go_wp2
    go_ret
    exact ⟨rfl, Below.refl _ _⟩
end Go.Proofs.Ytgeplijgcmdaeaa
