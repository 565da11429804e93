import Derived.Test.YtekjoccbbamehaaIxLook
namespace Go.Proofs.Ytekjoccbbamehaa
open Go.RowKit Go.Maps Go.ChangeMaps
set_option linter.unusedVariables false
set_option linter.unusedSimpArgs false
attribute [local go_sem ↓] Go.wp_at_zero Go.wp_at_succ
attribute [-go_sem] loadVar storeVar

set_option maxHeartbeats 1600000 in
set_option maxRecDepth 100000 in
theorem distinct_bk {w : World} {B bk mb tt : Nat} {is : List Ie} (h : Ibk w B bk mb tt is) (hB : B ≤ w.heap.size) {B' mm : Nat} {sv : Value} {rows : List (List Int)} {n : Nat} {gone : Int} (hr : Rel w B' tt mm sv rows (n : Int) gone) (hn : n ≤ 24) (hG : ∀ i ∈ is, i.gone = gone → i.G = grpN i.m rows i.seen ∧ i.seen ≤ rows.length) (hap : ∀ k, BX bk mb is k → k ≠ tt ∧ k ≠ mm ∧ sv.ownBlock ≠ some k) (hlen : rows.length ≤ 100000000) {m : Int} (hm : (Lit.int .u32 m).wf = true) (hc : colB m n = true) :
    Calls Try.prog 13 #[.pointer (some ⟨bk, 0, none⟩), .int .u32 m] w fun e w' => ∃ is' j, e = .returned (.tuple #[.int .i64 ((grpN m rows rows.length).length : Int), .int .i64 0]) ∧ Asked w w' B bk mb tt is is' j m rows gone := by
  have HASK := Lib.hid (ask_ix h hB hr hn hG hap hlen hm hc)
  clear h hr hG hap
  go_enter Try.func13, Try.ntmps13
  go_wp2_with fail
  refine HASK.out.mono ?_
  rintro e w1 ⟨is', j, rfl, hA⟩
  have HA := Lib.hid hA
  have hix := hA.bo.ix j hA.mem
  have l1 := load_mapX (RL.at hix.rl (j := 1) rfl)
  obtain ⟨ps, ck, hmx⟩ := hix.map
  have hmh := hmx.at_
  have hpl : ps.length = (grpN m rows rows.length).length := by
    have := congrArg List.length hmx.is
    rw [List.length_map, List.length_zip, List.length_map, hix.len, Nat.min_self, hA.jG] at this
    exact this
  have hln : (Builtin.len_ #[72] 3 #[.map (some j.b)]).run Try.prog w1 = .ok (.int .i64 (ps.length : Int)) w1 := by
    simp [Builtin.len_, Builtin.lenOf, MapKept.run_getObj_map hmh, Result.andThen]
    rfl
  rw [hpl] at hln
  clear hA hix hmx hmh hpl HASK
  go_wp2
  go_ret2
  exact ⟨is', j, rfl, HA.out⟩
end Go.Proofs.Ytekjoccbbamehaa
