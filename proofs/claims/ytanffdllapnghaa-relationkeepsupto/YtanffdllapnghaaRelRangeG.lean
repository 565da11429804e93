import Derived.Test.YtanffdllapnghaaRelRange
namespace Go.Proofs.Ytanffdllapnghaa
open Go.RowKit Go.Maps Go.Shelf
set_option linter.unusedVariables false
set_option linter.unusedSimpArgs false
attribute [local go_sem ↓] Go.wp_at_zero Go.wp_at_succ
attribute [local go_sem] Oper.semAt_some
attribute [-go_sem] loadVar
set_option maxRecDepth 100000 in
set_option maxHeartbeats 3200000 in
/-- a range from below the first number to beyond the last -/
theorem range_tellsW (n : Nat) {w : World} {B t m : Nat} {sv : Value} {rows : List (List Int)} {ar gone : Int} (h : Rel w B t m sv rows ar gone) (hlen : rows.length ≤ 1000000000) {b0 b1 b2 : Nat} (g : Nat) (hgs : ∀ q, sv.ownBlock = some q → q = g)
    (h0 : w.cell? ⟨b0, 0, none⟩ = some (.pointer (some ⟨t, 0, none⟩))) (h1 : w.cell? ⟨b1, 0, none⟩ = some (.int .i64 (-1))) (h2 : w.cell? ⟨b2, 0, none⟩ = some (.int .i64 ((rows.length : Int) + 1))) (hb : b0 < w.heap.size ∧ b1 < w.heap.size ∧ b2 < w.heap.size) :
    SeqTells Fence.wide n Try.prog 21 #[.pointer (some ⟨b0, 0, none⟩), .pointer (some ⟨b1, 0, none⟩), .pointer (some ⟨b2, 0, none⟩)] (rowsAt rows 0) (Keeps2 g b2) rows.length w := by
  intro l J Jx W hW _ _ hY hJ0
  have hR := h.keep hW
  obtain ⟨asv, csv, rfl, _⟩ := own_form h.own
  have c0 := run_loadRelR ((hW.cell (p := ⟨b0, 0, none⟩) hb.1).trans h0)
  have c1 := run_loadInt ((hW.cell (p := ⟨b1, 0, none⟩) hb.2.1).trans h1)
  have HC2 := Lib.hid ((hW.cell (p := ⟨b2, 0, none⟩) hb.2.2).trans h2)
  have HR := Lib.hid hR
  have HY := Lib.hid hY
  have HT := Lib.hid (there_yes hR)
  have HJ := Lib.hid hJ0
  have HG := Lib.hid hgs
  have lr := run_loadRows (hR.rl.at (j := 0) rfl)
  have hmin : min ((rows.length : Int) + 1) (rows.length : Int) = (rows.length : Int) := by omega
  have hmi2 : ¬ ((rows.length : Int) + 1 < (rows.length : Int)) := by omega
  have hmi3 : (rows.length : Int) < (rows.length : Int) + 1 := by omega
  clear h h0 h1 h2 hW hY hR hJ0 hgs
  refine callsIn_of_wp Try.func21 rfl trivial ?_ rfl
  simp only [Try.ntmps21, List.size_toArray, List.length_cons, List.length_nil, Nat.reduceAdd, Nat.reduceSub, Array.replicate_succ, Array.replicate_zero, List.push_toArray, List.append_toArray, List.nil_append, List.cons_append]
  gi_wp2_with fail
  refine ⟨trivial, fun h => (nomatch h), (callsIn_wide.2 HT.out).mono ?_⟩
  rintro e w1 ⟨rfl, rfl⟩
  gi_wp2
  clear c0 c1 lr HT
  gi_loopw [6] (fun i wr => ∃ k : Nat, k ≤ rows.length ∧ i = .int .i64 (k : Int) ∧ J k wr ∧ Keeps2 g b2 w1 wr) (fun i _ => rows.length - (intOf i).toNat)
  case atStart => exact ⟨0, Nat.zero_le _, by simp, HJ.out, Keeps2.refl _ _ _⟩
  case round =>
    obtain ⟨k, hk, rfl, hJs, hnx⟩ := hrel
    have hc2 := run_loadInt ((cell_block hnx.2 0).trans HC2.out)
    by_cases hlt : k < rows.length
    · have hown := own_of_block HR.out.own (w' := wr) (fun g' hg' => by
        rw [HG.out g' hg']
        exact hnx.1)
      obtain ⟨g3, rfl⟩ : ∃ g3, asv = some ⟨g3, 0, none⟩ := by
        obtain ⟨_, h | ⟨g3, cap, cur, e, _⟩⟩ := hown
        · omega
        · cases e; exact ⟨g3, rfl⟩
      obtain ⟨fn, tmps, assign, body, hy, hR⟩ := HY.out k wr hlt hJs
      unfold rowsAt at hy
      rw [Nat.zero_add] at hy
      have hgr : rows[k]? = some (rows.getD k []) := by simp [List.getD, List.getElem?_eq_getElem hlt]
      have hld := run_loadAtRow rfl hown (fun r hr => (HR.out.ok r hr).len) hgr
      generalize rows.getD k [] = r at hy hld
      unfold rowV at hy hld
      have hq0 : (0 : Int) ≤ (k : Int) := by omega
      have hql' : (k : Int) < (rows.length : Int) := by omega
      have iw : IntKind.i64.wrap ((k : Int) + 1) = (k : Int) + 1 := by rw [IntKind.wrap_i64]; omega
      clear hown hgr HY HR HC2 HJ HG
      gi_wp2
      refine ⟨fun h => (nomatch h), hR.mono ?_⟩
      rintro e W3 (⟨rfl, hJ3, hk3⟩ | ⟨rfl, hJx3⟩)
      · gi_wp2
        go_roundw
        case rel => exact ⟨k + 1, by omega, by simp, hJ3, hnx.trans hk3⟩
        case measure => simp [intOf]; omega
      · gi_wp2
        refine bodyPost_ret (results_none rfl _ _ _) rfl ?_
        exact ⟨⟨_, rfl⟩, .inr ⟨k + 1, by omega, hJx3⟩⟩
    · obtain rfl : k = rows.length := by omega
      have HJS := Lib.hid hJs
      clear hJs HY HR HC2 HJ HG
      gi_wp2
      go_end0
      exact ⟨⟨_, rfl⟩, .inl HJS.out⟩
end Go.Proofs.Ytanffdllapnghaa
