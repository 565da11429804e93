import Derived.Test.YtekjoccbbamehaaIxRb
namespace Go.Proofs.Ytekjoccbbamehaa
open Go.RowKit Go.Maps Go.ChangeMaps
set_option linter.unusedVariables false
set_option linter.unusedSimpArgs false
attribute [local go_sem ↓] Go.wp_at_zero Go.wp_at_succ

attribute [-go_sem] loadVar
set_option maxHeartbeats 1600000 in
set_option maxRecDepth 100000 in
theorem seen_none {w : World} {B bk mb tt : Nat} {is : List Ie} (h : Ibk w B bk mb tt is) {m : Int} (hm : (Lit.int .u32 m).wf = true) (hi : m ∉ is.map Ie.m) :
    Calls Try.prog 18 #[.pointer (some ⟨bk, 0, none⟩), .int .u32 m] w fun e w' => e = .returned (.int .i64 0) ∧ w' = w := by
  have HT := Lib.hid (there_bk h)
  have l1 := RL.mapM h
  have l2 : (Instr.lookup 78 (.map (some mb)) (.int .u32 m) false).run Try.prog w = .ok (.pointer none) w := by
    have := h.map.look (by rw [mb_v]; exact h.nd) hm
    rw [this]
    rw [lookM_no (by rw [mb_v]; exact hi)]
  clear h
  go_enter Try.func18, Try.ntmps18
  go_wp2_with fail
  refine HT.out.mono ?_
  rintro e w1 ⟨rfl, rfl⟩
  clear HT
  go_wp2
  go_ret
  exact ⟨rfl, rfl⟩
set_option maxHeartbeats 1600000 in
set_option maxRecDepth 100000 in
theorem seen_some {w : World} {B bk mb tt : Nat} {is : List Ie} (h : Ibk w B bk mb tt is) {m : Int} (hm : (Lit.int .u32 m).wf = true) {i : Ie} (hi : i ∈ is) (him : i.m = m) :
    Calls Try.prog 18 #[.pointer (some ⟨bk, 0, none⟩), .int .u32 m] w fun e w' => e = .returned (.int .i64 (i.seen : Int)) ∧ w' = w := by
  have l3 := load_intX (RL.at (h.ix i hi).rl (j := 2) rfl)
  have HT := Lib.hid (there_bk h)
  have l1 := RL.mapM h
  have l2 : (Instr.lookup 78 (.map (some mb)) (.int .u32 m) false).run Try.prog w = .ok (.pointer (some ⟨i.x, 0, none⟩)) w := by
    have := h.map.look (by rw [mb_v]; exact h.nd) hm
    rw [this]
    rw [← him, show i.m = i.mb.v from rfl, lookM_yes (by rw [mb_v]; exact h.nd) (List.mem_map.2 ⟨i, hi, rfl⟩)]
    rfl
  clear h
  go_enter Try.func18, Try.ntmps18
  go_wp2_with fail
  refine HT.out.mono ?_
  rintro e w1 ⟨rfl, rfl⟩
  clear HT
  go_wp2
  go_ret
  exact ⟨rfl, rfl⟩
end Go.Proofs.Ytekjoccbbamehaa
