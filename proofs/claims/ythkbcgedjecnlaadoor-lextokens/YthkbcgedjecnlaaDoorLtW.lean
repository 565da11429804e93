import Derived.Test.YthkbcgedjecnlaaDoorLtV
namespace Go.Proofs.YthkbcgedjecnlaaDoor
open Go.RowKit Go.Maps
set_option linter.unusedVariables false
set_option linter.unusedSimpArgs false
attribute [local go_sem ↓] Go.wp_at_zero Go.wp_at_succ

set_option maxHeartbeats 6400000 in
set_option maxRecDepth 100000 in
theorem LexTokens_any (s : ByteArray) (w : World) (hg : Gl w) (hs : s.size ≤ maxLen) : Calls Tryd.prog 3 #[.string s] w fun e w' => e = .returned (.bool true) ∧ Below w.heap.size w w' := by
  obtain ⟨ts, x0, x1, HLE, HT, HW⟩ : ∃ ts x0 x1, Hid (ts.length ≤ 65537) ∧ Hid (∀ w, Gl w → Calls Tryd.prog 5 #[.string s] w (TkPost w ts x0 x1)) ∧ Hid (∀ w, Calls Tryd.prog 4 #[.string s] w (TkPost w ts x0 x1)) := by
    obtain ⟨x0, x1, hx⟩ := flt_form (tokens s.data.toList)
    exact ⟨_, x0, x1, tokens_len _, fun w hg => (Tokens_any s w hg hs).mono (fun _ _ h => tk_of hx h), fun w => (rTokens_any s w hs).mono (fun _ _ h => tk_of hx h)⟩
  obtain ⟨us, y0, y1, HLU, HTU, HWU⟩ : ∃ us y0 y1, Hid (us.length ≤ 65537) ∧ Hid (∀ w, Gl w → Calls Tryd.prog 5 #[.string ⟨#[112, 40, 88, 44, 32, 55, 41, 46]⟩] w (TkPost w us y0 y1)) ∧ Hid (∀ w, Calls Tryd.prog 4 #[.string ⟨#[112, 40, 88, 44, 32, 55, 41, 46]⟩] w (TkPost w us y0 y1)) := by
    obtain ⟨x0, x1, hx⟩ := flt_form (tokens (⟨#[112, 40, 88, 44, 32, 55, 41, 46]⟩ : ByteArray).data.toList)
    have hs2 : (⟨#[112, 40, 88, 44, 32, 55, 41, 46]⟩ : ByteArray).size ≤ maxLen := by decide
    exact ⟨_, x0, x1, tokens_len _, fun w hg => (Tokens_any _ w hg hs2).mono (fun _ _ h => tk_of hx h), fun w => (rTokens_any _ w hs2).mono (fun _ _ h => tk_of hx h)⟩
  have HG : Hid (Gl w) := hg
  have hne : ∀ W, (binOp .neq 25 (.agg #[.int .i64 x0, .int .i64 x1]) (.agg #[.int .i64 x0, .int .i64 x1])).run Tryd.prog W = .ok (.bool false) W := fun W => by
    have := flt_neq x0 x1 x0 x1 W
    simpa using this
  have HSM : Hid (∀ (u : World) (vs : List Tk) a b c d, vs.length ≤ 65537 → TL u a vs → TL u b vs → Calls Tryd.prog 6 #[.slice a vs.length c, .slice b vs.length d] u fun e w' => e = .returned (.bool true) ∧ Below u.heap.size u w') := fun u vs a b c d h1 h2 h3 => same_true vs u a b c d (by omega) h2 h3
  clear hg hs
  have HS0 : Hid (Sta w w [] x0 x1 []) := ⟨Below.refl _ _, ⟨fun x hx => (by cases hx), List.Pairwise.nil⟩, fun b hb => by cases hb⟩
  go_enter Tryd.func3, Tryd.ntmps3
  go_wp2_with fail
  refine (HW.out _).mono ?_
  rintro e w1 ⟨aw, cw, rfl, ho, hb⟩
  have HS1 : Hid _ := HS0.out.rowF hb ho
  clear hb ho HS0
  go_wp2_with fail
  generalize hW1 : w1.alloc (.cells #[.int .i64 x0, .int .i64 x1] 25) = W1 at HS1 ⊢
  refine (HT.out _ (HG.out.below HS1.out.bel)).mono ?_
  rintro e w2 ⟨a1, c1, rfl, ho, hb⟩
  have HS2 : Hid _ := HS1.out.rowF hb ho
  clear hb ho HS1 hW1
  go_wp2_with fail
  generalize hW1 : w2.alloc (.cells #[.int .i64 x0, .int .i64 x1] 25) = W2 at HS2 ⊢
  refine (HT.out _ (HG.out.below HS2.out.bel)).mono ?_
  rintro e w3 ⟨a2, c2, rfl, ho, hb⟩
  have HS3 : Hid _ := HS2.out.rowF hb ho
  clear hb ho HS2 hW1
  have HF1 := HS3.out.fl w1.heap.size (by simp)
  have HF2 := HS3.out.fl w2.heap.size (by simp)
  have HF3 := HS3.out.fl w3.heap.size (by simp)
  obtain ⟨p0, p1⟩ := HF1
  obtain ⟨q0, q1⟩ := HF2
  obtain ⟨r0, r1⟩ := HF3
  go_wp2_with fail
  refine (HSM.out _ ts a1 aw c1 cw HLE.out (HS3.out.kp.tl (c := c1) (by simp)) (HS3.out.kp.tl (c := cw) (by simp))).mono ?_
  rintro e w4 ⟨rfl, hb⟩
  have HS4 : Hid _ := HS3.out.below hb
  clear hb HS3 p0 p1 q0 q1 r0 r1
  go_wp2_with fail
  refine (HSM.out _ ts a2 aw c2 cw HLE.out (HS4.out.kp.tl (c := c2) (by simp)) (HS4.out.kp.tl (c := cw) (by simp))).mono ?_
  rintro e w5 ⟨rfl, hb⟩
  have HS5 : Hid _ := HS4.out.below hb
  clear hb HS4
  go_wp2_with fail
  refine (HTU.out _ (HG.out.below HS5.out.bel)).mono ?_
  rintro e w6 ⟨a6, c6, rfl, ho, hb⟩
  have HS6 : Hid _ := HS5.out.row (y0 := y0) (y1 := y1) hb ho
  clear hb ho HS5
  go_wp2_with fail
  generalize w6.alloc (.cells #[.int .i64 y0, .int .i64 y1] 25) = W6 at HS6 ⊢
  refine (HWU.out _).mono ?_
  rintro e w7 ⟨a7, c7, rfl, ho, hb⟩
  have HS7 : Hid _ := HS6.out.row (y0 := y0) (y1 := y1) hb ho
  clear hb ho HS6
  go_wp2_with fail
  generalize w7.alloc (.cells #[.int .i64 y0, .int .i64 y1] 25) = W7 at HS7 ⊢
  refine (HT.out _ (HG.out.below HS7.out.bel)).mono ?_
  rintro e w8 ⟨a8, c8, rfl, ho, hb⟩
  have HS8 : Hid _ := HS7.out.rowF hb ho
  clear hb ho HS7
  have HF1 := HS8.out.fl w1.heap.size (by simp)
  have HF2 := HS8.out.fl w8.heap.size (by simp)
  obtain ⟨p0, p1⟩ := HF1
  obtain ⟨q0, q1⟩ := HF2
  go_wp2_with fail
  refine (HSM.out _ us a6 a7 c6 c7 HLU.out (HS8.out.kp.tl (c := c6) (by simp)) (HS8.out.kp.tl (c := c7) (by simp))).mono ?_
  rintro e w9 ⟨rfl, hb⟩
  have HS9 : Hid _ := HS8.out.below hb
  clear hb HS8 p0 p1 q0 q1
  go_wp2_with fail
  refine (HSM.out _ ts a2 aw c2 cw HLE.out (HS9.out.kp.tl (c := c2) (by simp)) (HS9.out.kp.tl (c := cw) (by simp))).mono ?_
  rintro e w10 ⟨rfl, hb⟩
  have HSa : Hid _ := HS9.out.below hb
  clear hb HS9
  go_wp2_with fail
  refine (HSM.out _ ts a8 aw c8 cw HLE.out (HSa.out.kp.tl (c := c8) (by simp)) (HSa.out.kp.tl (c := cw) (by simp))).mono ?_
  rintro e w11 ⟨rfl, hb⟩
  have HSb : Hid _ := HSa.out.below hb
  clear hb HSa
  have hpw := List.pairwise_iff_getElem.1 HSb.out.kp.2
  have d1 : Dj (Sl.v ⟨a1, ts.length, c1⟩) (Sl.v ⟨a6, us.length, c6⟩) := hpw 1 3 (by simp) (by simp) (by omega)
  have d2 : Dj (Sl.v ⟨a1, ts.length, c1⟩) (Sl.v ⟨a2, ts.length, c2⟩) := hpw 1 2 (by simp) (by simp) (by omega)
  have d3 : Dj (Sl.v ⟨a1, ts.length, c1⟩) (Sl.v ⟨a8, ts.length, c8⟩) := hpw 1 5 (by simp) (by simp) (by omega)
  have d4 : Dj (Sl.v ⟨a2, ts.length, c2⟩) (Sl.v ⟨a6, us.length, c6⟩) := hpw 2 3 (by simp) (by simp) (by omega)
  have d5 : Dj (Sl.v ⟨a6, us.length, c6⟩) (Sl.v ⟨a8, ts.length, c8⟩) := hpw 3 5 (by simp) (by simp) (by omega)
  have d6 : Dj (Sl.v ⟨a2, ts.length, c2⟩) (Sl.v ⟨a8, ts.length, c8⟩) := hpw 2 5 (by simp) (by simp) (by omega)
  have HAP : Hid (Calls Tryd.prog 7 #[.slice (some ⟨w11.heap.size, 0, none⟩) 4 4] (w11.alloc (.cells #[.slice a1 ts.length c1, .slice a6 us.length c6, .slice a2 ts.length c2, .slice a8 ts.length c8] 22)) fun e w' => e = .returned (.bool true) ∧ Below w.heap.size (w11.alloc (.cells #[.slice a1 ts.length c1, .slice a6 us.length c6, .slice a2 ts.length c2, .slice a8 ts.length c8] 22)) w') :=
    apart_four HSb.out.kp HSb.out.bel.size (by simp) (by simp) (by simp) (by simp) d1 d2 d3 d4.flip d5 d6 HLE.out HLU.out
  have HBL : Hid (Below w.heap.size w (w11.alloc (.cells #[.slice a1 ts.length c1, .slice a6 us.length c6, .slice a2 ts.length c2, .slice a8 ts.length c8] 22))) := HSb.out.bel.alloc HSb.out.bel.size _
  clear hpw d1 d2 d3 d4 d5 d6 HSb
  go_wp2_with fail
  refine HAP.out.mono ?_
  rintro e w12 ⟨rfl, hb⟩
  have hbl := HBL.out.trans hb
  clear hb HAP HBL
  go_wp2_with fail
  refine (lives_any _ (HG.out.below hbl)).mono ?_
  rintro e w13 ⟨rfl, hb⟩
  go_wp2
  go_ret
  exact ⟨rfl, hbl.trans (hb.mono hbl.size)⟩
end Go.Proofs.YthkbcgedjecnlaaDoor
