import Derived.Test.YthdcgikhcghigaaSymCutMath
namespace Go.Proofs.Ythdcgikhcghigaa
open Go.RowKit Go.Maps Go.ChangeMaps
set_option linter.unusedVariables false
set_option linter.unusedSimpArgs false
attribute [local go_sem ↓] Go.wp_at_zero Go.wp_at_succ

theorem clear_none (a : Option Addr) (c : Nat) (ty : TypeId) (w : World) : (Builtin.clear_ #[40] ty #[.slice a 0 c]).run Try.prog w = .ok (.tuple #[]) w := by
  cases a <;> simp [Builtin.clear_, run_underlying Try.underlying40]

set_option maxHeartbeats 1600000 in
theorem cut_bad {w : World} {t m : Nat} {sv : Value} {vs : List V} {most : Int} (h : Tbl w t m sv vs most) (n : Int) (hn : n < 0 ∨ vs.length < n) :
    Calls Try.prog 33 #[.pointer (some ⟨t, 0, none⟩), .int .i64 n] w fun e w' => e = .returned (.int .i64 1) ∧ w' = w := by
  obtain ⟨a, c, rfl, hl, _⟩ := ownsRow_form h.own
  have c1 : w.cell? ⟨t, 1, none⟩ = some (.slice a vs.length c) := h.row.cell (i := 1) (by omega)
  by_cases h0 : n < 0
  · go_enter Try.func33, Try.ntmps33
    go_wp2_with (go_at_call 21; refine (there_any h).mono ?_; rintro e w' ⟨rfl, rfl⟩)
    go_ret
    exact ⟨rfl, rfl⟩
  · have h1 : (vs.length : Int) < n := by omega
    clear hn
    go_enter Try.func33, Try.ntmps33
    go_wp2_with (go_at_call 21; refine (there_any h).mono ?_; rintro e w' ⟨rfl, rfl⟩)
    go_ret
    exact ⟨rfl, rfl⟩

/-- what stands behind a cut -/
theorem cut_fin {w w2 w3 : World} {t m g : Nat} {sv sv' : Value} {vs : List V} {most : Int} {n : Nat} (hn : n ≤ vs.length) (T : Tbl w t m sv vs most)
    (hmap : MapIs w2 m (vs.take n).zipIdx) (h2 : w.grownBy w2 (some m)) (own3 : w3.ownsRow 0 39 3 sv' n ((vs.take n).flatMap V.cells)) (h3 : w2.grownBy w3 sv.ownBlock) (hb : sv'.ownBlock = sv.ownBlock) :
    Tbl (w3.setCell ⟨t, 1, none⟩ sv') t m sv' (vs.take n) most ∧ Touch w (w3.setCell ⟨t, 1, none⟩ sv') t m sv sv' := by
  have ap := T.apart
  have lts := T.lts
  have s2 := h2.size
  have s3 := h3.size
  have tsv : sv.ownBlock ≠ some t := fun e => (ap.2 t e).1 rfl
  have msv : sv.ownBlock ≠ some m := fun e => (ap.2 m e).2 rfl
  have blk : ∀ k, k < w.heap.size → k ≠ m → sv.ownBlock ≠ some k → w3.heap[k]? = w.heap[k]? := fun k hk n1 n2 => by
    rw [h3.block k (by omega) (fun e => n2 e.symm), h2.block k hk (fun e => n1 (Option.some.inj e))]
  have row3 : w3.rowIs t 56 3 (tcells m sv most) := T.row.of_block (blk t lts.1 ap.1 tsv)
  have map3 : MapIs w3 m (vs.take n).zipIdx := hmap.of_block (h3.block m (by omega) (fun e => msv e.symm))
  have ne : ∀ g, sv'.ownBlock = some g → g ≠ t := fun g hg => (ap.2 g (hb ▸ hg)).1
  refine ⟨⟨?_, ?_, ?_, ?_⟩, ⟨?_, ?_, ?_⟩⟩
  · refine (row3.set 1 sv').congr fun i hi => ?_
    obtain rfl | rfl | rfl : i = 0 ∨ i = 1 ∨ i = 2 := by omega
    all_goals rfl
  · exact map3.of_block (Below.heap_setCell w3 ⟨t, 1, none⟩ sv' m (fun e => ap.1 e.symm))
  · have e : (vs.take n).length = n := by simp; omega
    rw [e]
    exact ownsRow_of_block own3 (fun g hg => Below.heap_setCell w3 ⟨t, 1, none⟩ sv' g (ne g hg))
  · exact T.nodup.sublist (List.take_sublist _ _)
  · exact ((((Below.refl 0 w).grown h2 (Nat.zero_le _) (fun _ _ => Nat.zero_le _)).grown h3 (Nat.zero_le _) (fun _ _ => Nat.zero_le _))).setCell (Nat.zero_le _) _
  · intro k hk n1 n2 n3
    rw [Below.heap_setCell w3 ⟨t, 1, none⟩ sv' k n1, blk k hk n2 n3]
  · intro g hg
    exact .inl (hb ▸ hg)

set_option maxHeartbeats 3200000 in
theorem cut_all {w : World} {t m : Nat} {sv : Value} {vs : List V} {most : Int} (h : Tbl w t m sv vs most) {n : Nat} (hn : n = vs.length) :
    Calls Try.prog 33 #[.pointer (some ⟨t, 0, none⟩), .int .i64 n] w fun e w' => e = .returned (.int .i64 0) ∧ ∃ sv', Tbl w' t m sv' (vs.take n) most ∧ Touch w w' t m sv sv' := by
  have own := h.own
  have hclr := clear_none
  have fr := h.row.frozen
  have HF : Hid (∀ sv', sv' = sv → Tbl (w.setCell ⟨t, 1, none⟩ sv') t m sv' (vs.take n) most ∧ Touch w (w.setCell ⟨t, 1, none⟩ sv') t m sv sv') := fun sv' e => by
    subst e
    have e : vs.take n = vs := List.take_of_length_le (by omega)
    refine cut_fin (g := 0) (by omega) h (w2 := w) (w3 := w) (by rw [e]; exact h.map) ⟨rfl, rfl, rfl, Nat.le_refl _, fun _ _ _ => rfl⟩ (by rw [e, hn]; exact h.own) ⟨rfl, rfl, rfl, Nat.le_refl _, fun _ _ _ => rfl⟩ rfl
  obtain ⟨_, ⟨rfl, h0⟩ | ⟨g, c, cur, rfl, _, hb, hnc, hcm, _⟩⟩ := own
  · have c1 : w.cell? ⟨t, 1, none⟩ = some (.slice none 0 0) := h.row.cell (i := 1) (by omega)
    have e : n = 0 := by omega
    subst e
    have HL : Hid (vs.length = 0) := h0
    clear hn h0
    go_enter Try.func33, Try.ntmps33
    go_wp2_with (first
      | (go_at_call 21; refine (there_any h).mono ?_; rintro e w' ⟨rfl, rfl⟩)
      | go_in)
    go_loop [28] (fun j => j = .int .i64 0) (fun _ => 0)
    case atStart => rfl
    case round =>
      subst hrel
      go_wp2
      go_ret
      exact ⟨rfl, _, HF.out _ rfl⟩
  · have c1 : w.cell? ⟨t, 1, none⟩ = some (.slice (some ⟨g, 0, none⟩) vs.length c) := h.row.cell (i := 1) (by omega)
    rw [← hn] at c1 hnc
    have HL : Hid (n = vs.length) := hn
    have HFF : Hid (Tbl (w.setCell ⟨t, 1, none⟩ (.slice (some ⟨g, 0, none⟩) n c)) t m (.slice (some ⟨g, 0, none⟩) n c) (vs.take n) most ∧ Touch w (w.setCell ⟨t, 1, none⟩ (.slice (some ⟨g, 0, none⟩) n c)) t m (.slice (some ⟨g, 0, none⟩) vs.length c) (.slice (some ⟨g, 0, none⟩) n c)) := HF.out _ (by rw [hn])
    clear hn HF
    go_enter Try.func33, Try.ntmps33
    go_wp2_with (first
      | (go_at_call 21; refine (there_any h).mono ?_; rintro e w' ⟨rfl, rfl⟩)
      | go_in)
    all_goals
      go_loop [28] (fun j => j = .int .i64 0) (fun _ => 0)
      case atStart => rfl
      case round =>
        subst hrel
        go_wp2
        go_ret
        first
          | exact ⟨rfl, _, HFF.out⟩
          | (subst_vars; exact ⟨rfl, _, HFF.out⟩)

set_option maxHeartbeats 6400000 in
theorem cut_some {w : World} {t m : Nat} {sv : Value} {vs : List V} {most : Int} (h : Tbl w t m sv vs most) {n : Nat} (hn : n < vs.length) :
    Calls Try.prog 33 #[.pointer (some ⟨t, 0, none⟩), .int .i64 n] w fun e w' => e = .returned (.int .i64 0) ∧ ∃ sv', Tbl w' t m sv' (vs.take n) most ∧ Touch w w' t m sv sv' := by
  have hown := h.own
  have hrow := h.row
  have ap := h.apart
  obtain ⟨_, ⟨rfl, h0⟩ | ⟨g, c, cur, rfl, _, hb, hnc, hcm, _⟩⟩ := h.own
  · omega
  have c1 : w.cell? ⟨t, 1, none⟩ = some (.slice (some ⟨g, 0, none⟩) vs.length c) := h.row.cell (i := 1) (by omega)
  have hcn : ¬ c = n := by omega
  have hcn2 : n ≤ c := by omega
  have hnl : n ≤ vs.length := by omega
  have hnl2 : ¬ vs.length < n := by omega
  have hsub : (vs.length : Int) - (n : Int) = ((vs.length - n : Nat) : Int) := by omega
  have hwf := h.wf
  unfold maxLen at hcm
  have T := h
  clear h
  go_enter Try.func33, Try.ntmps33
  go_wp2_with (first
      | (go_at_call 21; refine (there_any T).mono ?_; rintro e w' ⟨rfl, rfl⟩)
      | go_in)
  go_loopw [28] (fun j wr => ∃ q : Nat, q ≤ vs.length - n ∧ j = .int .i64 q ∧ MapIs wr m (cutTo vs n q) ∧ w'.grownBy wr (some m)) (fun j _ => vs.length - n - (intOf j).toNat)
  case atStart => exact ⟨0, Nat.zero_le _, rfl, by rw [cutTo_zero]; exact T.map, ⟨rfl, rfl, rfl, Nat.le_refl _, fun _ _ _ => rfl⟩⟩
  case round =>
    obtain ⟨q, hq, rfl, hmap, gr⟩ := hrel
    have d1 : wr.cell? ⟨t, 1, none⟩ = some (.slice (some ⟨g, 0, none⟩) vs.length c) := gr.cell (a := ⟨t, 1, none⟩) c1 (fun e => ap.1 (Option.some.inj e))
    have gm : g ≠ m := (ap.2 g rfl).2
    have gt : g ≠ t := (ap.2 g rfl).1
    by_cases hlt : q < vs.length - n
    · obtain ⟨g', c', e, x0, x1, x2⟩ := row_at hown (i := n + q) (by omega)
      cases e
      have uwf := hwf _ (atV_mem (i := n + q) (by omega))
      have HC : Hid ((cutTo vs n q).filter (fun p => decide (p.1 ≠ atV vs (n + q))) = cutTo vs n (q + 1)) := cutTo_step T.nodup (by omega)
      generalize atV vs (n + q) = u at x0 x1 x2 uwf HC
      rw [Nat.add_mul] at x0 x1 x2
      have y0 : wr.cell? ⟨g, n * 3 + q * 3, none⟩ = some (.int .i8 u.k) := gr.cell (a := ⟨g, _, none⟩) x0 (fun e => gm (Option.some.inj e))
      have y1 : wr.cell? ⟨g, n * 3 + q * 3 + 1, none⟩ = some (.int .i64 u.n) := gr.cell (a := ⟨g, _, none⟩) x1 (fun e => gm (Option.some.inj e))
      have y2 : wr.cell? ⟨g, n * 3 + q * 3 + 2, none⟩ = some (.string u.s) := gr.cell (a := ⟨g, _, none⟩) x2 (fun e => gm (Option.some.inj e))
      have c0 : wr.cell? ⟨t, 0, none⟩ = some (.map (some m)) := gr.cell (a := ⟨t, 0, none⟩) (hrow.cell (i := 0) (by omega)) (fun e => ap.1 (Option.some.inj e))
      have tlt : t < wr.heap.size := World.block_lt_of_cell? _ _ c0
      have mlt := hmap.lt
      obtain ⟨w2, hdel0, hmap2, hturn⟩ := MapIs.del (w := (wr.alloc (.cells #[.int .i8 u.k, .int .i64 u.n, .string u.s] 39)).drew) (hmap.of_block (Below.heap_alloc wr _ m mlt)) uwf (cutTo_keys T.nodup n q) 0
      rw [HC.out] at hmap2
      have hdel : (Builtin.delete_ #[54, 39] 0 #[.map (some m), .agg #[.int .i8 u.k, .int .i64 u.n, .string u.s]]).run Try.prog (wr.alloc (.cells #[.int .i8 u.k, .int .i64 u.n, .string u.s] 39)).drew = .ok (.tuple #[]) w2 := hdel0
      have g2 := hturn.grown
      have gr2 : w'.grownBy w2 (some m) := ⟨g2.os.trans gr.os, g2.tape.trans gr.tape, g2.output.trans gr.output, Nat.le_trans gr.size (Nat.le_trans (by simp) g2.size), fun k hk hne => by
        have hk2 : k < wr.heap.size := Nat.lt_of_lt_of_le hk gr.size
        rw [g2.block k (by simp; omega) hne, ← gr.block k hk hne]
        exact Below.heap_alloc wr _ k hk2⟩
      have HD : Hid ((Builtin.delete_ #[54, 39] 0 #[.map (some m), .agg #[.int .i8 u.k, .int .i64 u.n, .string u.s]]).run Try.prog (wr.alloc (.cells #[.int .i8 u.k, .int .i64 u.n, .string u.s] 39)).drew = .ok (.tuple #[]) w2) := hdel
      have hlt' : (q : Int) < ((vs.length - n : Nat) : Int) := by omega
      clear hdel hdel0 hturn hmap gr g2 T hown hrow hwf x0 x1 x2
      go_wp2
      go_region_law (refine step_delete rfl (.tmp 35) (.tmp 36) 54 39 rfl (.map (some m)) (.agg #[.int .i8 u.k, .int .i64 u.n, .string u.s]) (by simp [Act.eval, Act.put]) (by simp [Act.eval, Act.put]) w2 HD.out ?_)
      all_goals
        go_wp2
        go_roundw
        case rel => exact ⟨q + 1, by omega, by go_num, hmap2, gr2⟩
        case measure => simp [intOf]; omega
    · obtain rfl : q = vs.length - n := by omega
      rw [cutTo_end hnl] at hmap
      have own2 : wr.ownsRow 0 39 3 (.slice (some ⟨g, 0, none⟩) vs.length c) vs.length (vs.flatMap V.cells) := ownsRow_of_block hown (fun k hk => by cases hk; exact gr.block g (hown.lt g rfl).2 (fun e => gm (Option.some.inj e)))
      obtain ⟨w3, hclr, own3, g3⟩ := run_clear own2 (n := n) (k := vs.length - n) (c := c - n) (by omega) (by omega) 0
      rw [← flat_take] at own3
      have hfin := cut_fin (g := 0) hnl T hmap gr own3 g3 rfl
      have row3 : w3.rowIs t 56 3 (tcells m (.slice (some ⟨g, 0, none⟩) vs.length c) most) := hrow.of_block (by
        rw [g3.block t (Nat.lt_of_lt_of_le hrow.lt gr.size) (fun e => gt (Option.some.inj e).symm), gr.block t hrow.lt (fun e => ap.1 (Option.some.inj e))])
      have e1 : w3.cell? ⟨t, 1, none⟩ = some (.slice (some ⟨g, 0, none⟩) vs.length c) := row3.cell (i := 1) (by omega)
      have fr := row3.frozen
      clear hmap gr T hown hrow hwf own2 own3 g3 row3
      go_wp2
      go_ret
      exact ⟨rfl, _, hfin⟩
end Go.Proofs.Ythdcgikhcghigaa
