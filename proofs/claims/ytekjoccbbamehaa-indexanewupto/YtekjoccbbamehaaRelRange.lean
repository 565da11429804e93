import Derived.Test.YtekjoccbbamehaaRelHasW
import Derived.Test.YtekjoccbbamehaaRelAt
import Derived.Test.YtekjoccbbamehaaRfNext
import Derived.Shelf.RegionOpen
namespace Go.Proofs.Ytekjoccbbamehaa
open Go.RowKit Go.Maps Go.Shelf
set_option linter.unusedVariables false
set_option linter.unusedSimpArgs false
attribute [local go_sem ↓] Go.wp_at_zero Go.wp_at_succ
attribute [local go_sem] Oper.semAt_some

theorem cell_block {W W' : World} {b : Nat} (h : W'.heap[b]? = W.heap[b]?) (o : Nat) : W'.cell? ⟨b, o, none⟩ = W.cell? ⟨b, o, none⟩ := by
  unfold World.cell?
  simp only [h]
/-- two blocks are kept -/
def Keeps2 (b c : Nat) (W W' : World) : Prop := W'.heap[b]? = W.heap[b]? ∧ W'.heap[c]? = W.heap[c]?
theorem Keeps2.refl (b c : Nat) (W : World) : Keeps2 b c W W := ⟨rfl, rfl⟩
theorem Keeps2.trans {b c : Nat} {X Y Z : World} (h : Keeps2 b c X Y) (k : Keeps2 b c Y Z) : Keeps2 b c X Z := ⟨k.1.trans h.1, k.2.trans h.2⟩
/-- the rows from lo on, with their numbers -/
def rowsAt (rows : List (List Int)) (lo k : Nat) : Array Value := #[.int .i64 ((lo + k : Nat) : Int), rowV (rows.getD (lo + k) [])]
theorem run_loadRelR {w : World} {a : Addr} {v : Value} (h : w.cell? a = some v) : (loadVar 26 a).run Try.prog w = .ok v w := by
  simp [loadVar, go_sem, h]
attribute [-go_sem] loadVar
set_option maxRecDepth 100000 in
set_option maxHeartbeats 3200000 in
theorem range_tells (n : Nat) {w : World} {B t m g cap : Nat} {rows : List (List Int)} {ar gone : Int} (h : Rel w B t m (.slice (some ⟨g, 0, none⟩) rows.length cap) rows ar gone) (hlen : rows.length ≤ 1000000000) {b0 b1 b2 : Nat} (lo : Nat) (hlo : lo ≤ rows.length)
    (h0 : w.cell? ⟨b0, 0, none⟩ = some (.pointer (some ⟨t, 0, none⟩))) (h1 : w.cell? ⟨b1, 0, none⟩ = some (.int .i64 (lo : Int))) (h2 : w.cell? ⟨b2, 0, none⟩ = some (.int .i64 (rows.length : Int))) (hb : b0 < w.heap.size ∧ b1 < w.heap.size ∧ b2 < w.heap.size) :
    SeqTells Fence.wide n Try.prog 60 #[.pointer (some ⟨b0, 0, none⟩), .pointer (some ⟨b1, 0, none⟩), .pointer (some ⟨b2, 0, none⟩)] (rowsAt rows lo) (Keeps2 g b2) (rows.length - lo) w := by
  intro l J Jx W hW _ _ hY hJ0
  have hR := h.keep hW
  have c0 := run_loadRelR ((hW.cell (p := ⟨b0, 0, none⟩) hb.1).trans h0)
  have c1 := run_loadInt ((hW.cell (p := ⟨b1, 0, none⟩) hb.2.1).trans h1)
  have HC2 := Lib.hid ((hW.cell (p := ⟨b2, 0, none⟩) hb.2.2).trans h2)
  have HR := Lib.hid hR
  have HY := Lib.hid hY
  have HT := Lib.hid (there_yes hR)
  have HJ := Lib.hid hJ0
  have lr := run_loadRows (hR.rl.at (j := 0) rfl)
  clear h h0 h1 h2 hW hY hR hJ0
  refine callsIn_of_wp Try.func60 rfl trivial ?_ rfl
  simp only [Try.ntmps60, List.size_toArray, List.length_cons, List.length_nil, Nat.reduceAdd, Nat.reduceSub, Array.replicate_succ, Array.replicate_zero, List.push_toArray, List.append_toArray, List.nil_append, List.cons_append]
  gi_wp2_with fail
  refine ⟨trivial, fun h => (nomatch h), (callsIn_wide.2 HT.out).mono ?_⟩
  rintro e w1 ⟨rfl, rfl⟩
  gi_wp2
  clear c0 c1 lr HT
  gi_loopw [6] (fun i wr => ∃ k : Nat, k ≤ rows.length - lo ∧ i = .int .i64 ((lo + k : Nat) : Int) ∧ J k wr ∧ Keeps2 g b2 w1 wr) (fun i _ => rows.length - (intOf i).toNat)
  case atStart => exact ⟨0, Nat.zero_le _, by simp, HJ.out, Keeps2.refl _ _ _⟩
  case round =>
    obtain ⟨k, hk, rfl, hJs, hnx⟩ := hrel
    have hc2 := run_loadInt ((cell_block hnx.2 0).trans HC2.out)
    by_cases hlt : k < rows.length - lo
    · have hown := own_of_block HR.out.own (w' := wr) (fun g' hg' => by
        have : g = g' := by simpa [Value.ownBlock] using hg'
        subst this
        exact hnx.1)
      obtain ⟨q, hq⟩ : ∃ q : Nat, q = lo + k := ⟨_, rfl⟩
      obtain ⟨fn, tmps, assign, body, hy, hR⟩ := HY.out k wr hlt hJs
      unfold rowsAt at hy
      rw [← hq] at hy ⊢
      have hql : q < rows.length := by omega
      have hgr : rows[q]? = some (rows.getD q []) := by simp [List.getD, List.getElem?_eq_getElem hql]
      have hld := run_loadAtRow rfl hown (fun r hr => (HR.out.ok r hr).len) hgr
      generalize rows.getD q [] = r at hy hld
      unfold rowV at hy hld
      have hq0 : (0 : Int) ≤ (q : Int) := by omega
      have hql' : (q : Int) < (rows.length : Int) := by omega
      have iw : IntKind.i64.wrap ((q : Int) + 1) = (q : Int) + 1 := by rw [IntKind.wrap_i64]; omega
      have HMK := Lib.hid hq
      clear hq hown hgr HY HR HC2 HJ
      gi_wp2
      refine ⟨fun h => (nomatch h), hR.mono ?_⟩
      rintro e W3 (⟨rfl, hJ3, hk3⟩ | ⟨rfl, hJx3⟩)
      · gi_wp2
        go_roundw
        case rel => exact ⟨k + 1, by omega, by have := HMK.out; simp; omega, hJ3, hnx.trans hk3⟩
        case measure => simp [intOf]; omega
      · gi_wp2
        refine bodyPost_ret (results_none rfl _ _ _) rfl ?_
        exact ⟨⟨_, rfl⟩, .inr ⟨k + 1, by omega, hJx3⟩⟩
    · obtain rfl : k = rows.length - lo := by omega
      have e : lo + (rows.length - lo) = rows.length := by omega
      rw [e]
      have HJS := Lib.hid hJs
      clear hJs HY HR HC2 HJ
      gi_wp2
      go_end0
      exact ⟨⟨_, rfl⟩, .inl HJS.out⟩
end Go.Proofs.Ytekjoccbbamehaa
