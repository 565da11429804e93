import Derived.Test.YtlajlofccpnilaaDoorTermMatch
import Derived.Test.YtlajlofccpnilaaDoorTermUni
namespace Go.Proofs.YtlajlofccpnilaaDoor
open Go.RowKit Go.Maps
set_option linter.unusedVariables false
set_option linter.unusedSimpArgs false
attribute [local go_sem ↓] Go.wp_at_zero Go.wp_at_succ

theorem one_results {fn : Func} {sl : Nat} (hr : fn.results = #[.cell sl 39]) {W : World} {tmps : Array Value} {b : Nat} {x0 x1 x2 : Value} (h2 : tmps.getD sl undef = .pointer (some ⟨b, 0, none⟩))
    (c0 : W.cell? ⟨b, 0, none⟩ = some x0) (c1 : W.cell? ⟨b, 1, none⟩ = some x1) (c2 : W.cell? ⟨b, 2, none⟩ = some x2) :
    (results fn tmps).run Tryd.prog W = .ok (.agg #[x0, x1, x2]) W := by
  have hl : (loadVar 39 ⟨b, 0, none⟩).run Tryd.prog W = .ok (.agg #[x0, x1, x2]) W := by
    refine run_loadVar_mid W b 0 39 [x0, x1, x2] _ (fun j v hj => ?_) Tryd.underlying39 rfl (by kernel_rfl)
    match j, hj with
    | 0, hj => simp at hj; subst hj; exact c0
    | 1, hj => simp at hj; subst hj; exact c1
    | 2, hj => simp at hj; subst hj; exact c2
  have e0 : results fn tmps = (do
      let x ← asAddr (tmps.getD sl undef)
      loadVar 39 x) := by
    simp [results, hr]
  rw [e0, h2]
  simp [asAddr, hl, Result.andThen]
theorem one_done {fn : Func} {sl : Nat} (hr : fn.results = #[.cell sl 39]) {w w1 : World} {tmps : Array Value} {b : Nat} {x0 x1 x2 v : Value}
    (ho : Own3 w1 b) (hB : w.heap.size ≤ b) (hb : Below w.heap.size w w1)
    (h2 : tmps.getD sl undef = .pointer (some ⟨b, 0, none⟩)) (hv : v = .agg #[x0, x1, x2]) :
    bodyPost Tryd.prog fn (fun e w' => e = .returned v ∧ Below w.heap.size w w') .ret { tmps := tmps, defers := [] }
      (((w1.setCell ⟨b, 0, none⟩ x0).setCell ⟨b, 1, none⟩ x1).setCell ⟨b, 2, none⟩ x2) := by
  obtain ⟨⟨y0, y1, y2, c0, c1, c2⟩, f0, f1, f2, hl⟩ := ho
  refine bodyPost_ret (one_results hr (x0 := x0) (x1 := x1) (x2 := x2) h2 ?_ ?_ ?_) rfl ⟨by rw [hv], ?_⟩
  · go_simp
  · go_simp
  · go_simp
  · exact (((hb.setCell (p := ⟨b, 0, none⟩) hB _).setCell (p := ⟨b, 1, none⟩) hB _).setCell (p := ⟨b, 2, none⟩) hB _)

theorem Num_any (n : Int) (w : World) : Calls Tryd.prog 15 #[.int .i64 n] w fun e w' => e = .returned (.agg #[.int .i8 1, .int .i64 n, .string ⟨#[]⟩]) ∧ Below w.heap.size w w' := by
  have HO : Hid (Own3 (w.alloc (.cells #[.int .i8 0, .int .i64 0, .string ⟨#[]⟩] 39)) w.heap.size) := own3 (Below.refl _ _)
  go_enter Tryd.func15, Tryd.ntmps15
  go_wp2
  refine bodyPost_ret (one_results Tryd.results15 (b := w.heap.size) (x0 := .int .i8 1) (x1 := .int .i64 n) (x2 := .string ⟨#[]⟩) ?_ ?_ ?_ ?_) rfl ⟨rfl, ?_⟩
  · rfl
  · go_simp
  · go_simp
  · go_simp
  · exact (Below.refl _ _).alloc (Nat.le_refl _) _
set_option maxHeartbeats 800000 in
theorem is_any (v : Value) (l : List B) (n : ByteArray) (w : World) (hl : Lb w v l) : Calls Tryd.prog 12 #[v, .string n] w fun e w' => e = .returned (.agg #[.int .i8 (isV l n).k, .int .i64 (isV l n).n, .string (isV l n).s]) ∧ Below w.heap.size w w' := by
  obtain ⟨a, c, rfl, hc1, hc2, hat⟩ := hl.form
  have hmax : l.length ≤ maxLen := Nat.le_trans hc1 hc2
  unfold maxLen at hmax
  have HAT : Hid _ := hat
  have HWF : Hid (∀ b ∈ l, b.wf) := hl.wf
  clear hat hl
  obtain ⟨r, HR⟩ : ∃ r, Hid (isV l n = r) := ⟨_, rfl⟩
  rw [HR.out]
  have b0 := (Below.refl w.heap.size w).alloc (Nat.le_refl _) (.cells #[.int .i8 0, .int .i64 0, .string ⟨#[]⟩] 39)
  have HO0 : Hid (Own3 (w.alloc (.cells #[.int .i8 0, .int .i64 0, .string ⟨#[]⟩] 39)) w.heap.size) := own3 (Below.refl _ _)
  go_enter Tryd.func12, Tryd.ntmps12
  go_wp2
  generalize w.alloc (.cells #[.int .i8 0, .int .i64 0, .string ⟨#[]⟩] 39) = W at b0 HO0 ⊢
  have HB : Hid (Below w.heap.size w W) := b0
  clear b0
  go_loopw [5] (fun i wr => ∃ k : Nat, k ≤ l.length ∧ i = .int .i64 k ∧ Below W.heap.size W wr ∧ Hid (isV (l.drop k) n = r)) (fun i _ => l.length - (intOf i).toNat)
  case atStart => exact ⟨0, Nat.zero_le _, rfl, Below.refl _ _, HR⟩
  case round =>
    obtain ⟨k, hk, rfl, bel, HS⟩ := hrel
    have HBR : Hid (Below w.heap.size w wr) := HB.out.trans (bel.mono HB.out.size)
    have HOr : Hid (Own3 wr w.heap.size) := HO0.out.below bel
    have HBL : Hid (Below W.heap.size W wr) := bel
    clear bel
    by_cases hlt : k < l.length
    · have hlt' : (k : Int) < (l.length : Int) := by omega
      have hge : (0 : Int) ≤ (k : Int) := by omega
      obtain ⟨g, off, rfl, hg, hT⟩ := HAT.out (by omega)
      obtain ⟨x0, x1, x2, x3⟩ := (hT k hlt).below HBR.out hg
      simp only at x0 x1 x2 x3
      have hbw := atB_wf HWF.out k
      have HBW : Hid _ := hbw
      have HD : Hid (isV (l.drop k) n = if (atB l k).v = n ∧ okV (atB l k).a = true then (atB l k).a else isV (l.drop (k + 1)) n) := isV_drop hlt
      have hE := eq_bytes (atB l k).v n
      have hgl : g < wr.heap.size := World.block_lt_of_cell? _ _ x0
      clear HAT hT hbw
      generalize atB l k = b at *
      by_cases e : b.v = n
      · rw [decide_eq_true e] at hE
        have HE : Hid _ := e
        clear e
        go_wp2_with fail
        refine (rcheck_any b.a.k b.a.n b.a.s _ HBW.out.val.text).mono ?_
        rintro e w2 ⟨rfl, b2⟩
        have HB2 : Hid (Below w.heap.size w w2 ∧ Below W.heap.size W w2) := ⟨HBR.out.trans (b2.mono HBR.out.size), HBL.out.trans (b2.mono HBL.out.size)⟩
        have HO2 : Hid (Own3 w2 w.heap.size) := Own3.below HOr.out b2
        have z1 : w2.cell? ⟨g, off + k * 4 + 1, none⟩ = some (.int .i8 b.a.k) := by rw [b2.cell (p := ⟨g, _, none⟩) hgl]; exact x1
        have z2 : w2.cell? ⟨g, off + k * 4 + 2, none⟩ = some (.int .i64 b.a.n) := by rw [b2.cell (p := ⟨g, _, none⟩) hgl]; exact x2
        have z3 : w2.cell? ⟨g, off + k * 4 + 3, none⟩ = some (.string b.a.s) := by rw [b2.cell (p := ⟨g, _, none⟩) hgl]; exact x3
        clear x0 x1 x2 x3 b2
        by_cases hc : chk b.a.k b.a.n b.a.s = 0
        · rw [hc]
          have HV : Hid (b.a = r) := by
            show b.a = r
            rw [← HS.out, HD.out, if_pos ⟨HE.out, by unfold okV chkV; rw [hc]; rfl⟩]
          obtain ⟨⟨y0, y1, y2, o0, o1, o2⟩, f0, f1, f2, _⟩ := HO2.out
          clear hc
          go_wp2
          refine one_done Tryd.results12 (b := w.heap.size) HO2.out (Nat.le_refl _) HB2.out.1 ?_ ?_
          · rfl
          · rw [← HV.out]
        · have HV : Hid (isV (l.drop (k + 1)) n = r) := by
            show _ = r
            rw [← HS.out, HD.out, if_neg (fun h => hc (by have := h.2; unfold okV chkV at this; simpa using this))]
          rw [chk_ten hc]
          clear hc
          go_wp2
          go_roundw
          case rel => exact ⟨k + 1, by omega, by go_num, HB2.out.2, HV⟩
          case measure => simp [intOf]; omega
      · rw [decide_eq_false e] at hE
        have HV : Hid (isV (l.drop (k + 1)) n = r) := by
          show _ = r
          rw [← HS.out, HD.out, if_neg (fun h => e h.1)]
        clear e
        go_wp2
        go_roundw
        case rel => exact ⟨k + 1, by omega, by go_num, HBL.out, HV⟩
        case measure => simp [intOf]; omega
    · obtain rfl : k = l.length := by omega
      have HV : Hid (r = ⟨1, 0, noS⟩) := by show r = _; rw [← HS.out, List.drop_length]; rfl
      go_wp2_with fail
      refine (Num_any 0 _).mono ?_
      rintro e w2 ⟨rfl, b2⟩
      have HB2 : Hid (Below w.heap.size w w2) := HBR.out.trans (b2.mono HBR.out.size)
      have HO2 : Hid (Own3 w2 w.heap.size) := Own3.below HOr.out b2
      obtain ⟨⟨y0, y1, y2, o0, o1, o2⟩, f0, f1, f2, _⟩ := HO2.out
      clear b2
      go_wp2
      refine one_done Tryd.results12 (b := w.heap.size) HO2.out (Nat.le_refl _) HB2.out ?_ ?_
      · rfl
      · rw [HV.out]; rfl
end Go.Proofs.YtlajlofccpnilaaDoor
