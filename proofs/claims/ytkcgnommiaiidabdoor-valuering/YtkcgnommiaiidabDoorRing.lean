import Derived.Test.YtkcgnommiaiidabDoorTwo
namespace Go.Proofs.YtkcgnommiaiidabDoor
open Go.RowKit
set_option linter.unusedVariables false
attribute [local go_sem ↓] Go.wp_at_zero Go.wp_at_succ

theorem two_add_h {w v : World} (h : Tab v ∧ Below w.heap.size w v) (a b : Int) :
    Calls Tryd.prog 36 #[.int .i8 2, .int .i64 a, .int .i64 b] v fun e v' => e = .returned (.tuple #[.int .i64 (addW a b), .bool true]) ∧ (Tab v' ∧ Below w.heap.size w v') :=
  (two_add a b v h.1).mono fun e v' ⟨he, hb⟩ => ⟨he, h.1.below hb, h.2.trans (hb.mono h.2.size)⟩

theorem two_sub_h {w v : World} (h : Tab v ∧ Below w.heap.size w v) (a b : Int) :
    Calls Tryd.prog 36 #[.int .i8 3, .int .i64 a, .int .i64 b] v fun e v' => e = .returned (.tuple #[.int .i64 (subW a b), .bool true]) ∧ (Tab v' ∧ Below w.heap.size w v') :=
  (two_sub a b v h.1).mono fun e v' ⟨he, hb⟩ => ⟨he, h.1.below hb, h.2.trans (hb.mono h.2.size)⟩

theorem two_mul_h {w v : World} (h : Tab v ∧ Below w.heap.size w v) (a b : Int) :
    Calls Tryd.prog 36 #[.int .i8 4, .int .i64 a, .int .i64 b] v fun e v' => e = .returned (.tuple #[.int .i64 (mulW a b), .bool true]) ∧ (Tab v' ∧ Below w.heap.size w v') :=
  (two_mul a b v h.1).mono fun e v' ⟨he, hb⟩ => ⟨he, h.1.below hb, h.2.trans (hb.mono h.2.size)⟩

theorem two_div_h {w v : World} (h : Tab v ∧ Below w.heap.size w v) (a b : Int) (hb : ¬ b = 0) :
    Calls Tryd.prog 36 #[.int .i8 5, .int .i64 a, .int .i64 b] v fun e v' => e = .returned (.tuple #[.int .i64 (divW a b), .bool true]) ∧ (Tab v' ∧ Below w.heap.size w v') :=
  (two_div a b v h.1 hb).mono fun e v' ⟨he, hb⟩ => ⟨he, h.1.below hb, h.2.trans (hb.mono h.2.size)⟩

theorem two_mod_h {w v : World} (h : Tab v ∧ Below w.heap.size w v) (a b : Int) (hb : ¬ b = 0) :
    Calls Tryd.prog 36 #[.int .i8 6, .int .i64 a, .int .i64 b] v fun e v' => e = .returned (.tuple #[.int .i64 (modW a b), .bool true]) ∧ (Tab v' ∧ Below w.heap.size w v') :=
  (two_mod a b v h.1 hb).mono fun e v' ⟨he, hb⟩ => ⟨he, h.1.below hb, h.2.trans (hb.mono h.2.size)⟩

theorem two_div0_h {w v : World} (h : Tab v ∧ Below w.heap.size w v) (a : Int) :
    Calls Tryd.prog 36 #[.int .i8 5, .int .i64 a, .int .i64 0] v fun e v' => e = .returned (.tuple #[.int .i64 0, .bool false]) ∧ (Tab v' ∧ Below w.heap.size w v') :=
  (two_div0 a v h.1).mono fun e v' ⟨he, hb⟩ => ⟨he, h.1.below hb, h.2.trans (hb.mono h.2.size)⟩

theorem two_mod0_h {w v : World} (h : Tab v ∧ Below w.heap.size w v) (a : Int) :
    Calls Tryd.prog 36 #[.int .i8 6, .int .i64 a, .int .i64 0] v fun e v' => e = .returned (.tuple #[.int .i64 0, .bool false]) ∧ (Tab v' ∧ Below w.heap.size w v') :=
  (two_mod0 a v h.1).mono fun e v' ⟨he, hb⟩ => ⟨he, h.1.below hb, h.2.trans (hb.mono h.2.size)⟩

set_option maxRecDepth 100000 in
set_option maxHeartbeats 8000000 in
theorem ring_true (a b c : Int) (w : World) (ht : Tab w) (ha : In64 a) (hb : In64 b) :
    Calls Tryd.prog 34 #[.int .i64 a, .int .i64 b, .int .i64 c] w fun e w' => e = .returned (.bool true) ∧ Below w.heap.size w w' := by
  have hH : Tab w ∧ Below w.heap.size w w := ⟨ht, Below.refl _ _⟩
  have e1 := addW_comm a b
  have e2 := addW_assoc a b c
  have e3 := subW_addW a b ha
  have e4 := mulW_comm a b
  have e5 := mulW_assoc a b c
  have e6 := mulW_addW a b c
  have e7 := mulW_one a ha
  have e8 := addW_zero a ha
  clear ht ha hb
  go_enter Tryd.func34, Tryd.ntmps34
  go_wp2_with (first
    | (go_at_call_of 36 (Value.int IntKind.i8 2); refine (two_add_h hH _ _).mono ?_; clear hH; rintro e v' ⟨rfl, hH⟩)
    | (go_at_call_of 36 (Value.int IntKind.i8 3); refine (two_sub_h hH _ _).mono ?_; clear hH; rintro e v' ⟨rfl, hH⟩)
    | (go_at_call_of 36 (Value.int IntKind.i8 4); refine (two_mul_h hH _ _).mono ?_; clear hH; rintro e v' ⟨rfl, hH⟩))
  go_ret
  exact ⟨rfl, hH.2⟩

end Go.Proofs.YtkcgnommiaiidabDoor
