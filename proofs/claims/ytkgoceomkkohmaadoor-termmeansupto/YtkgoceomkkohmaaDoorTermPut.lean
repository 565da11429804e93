import Derived.Test.YtkgoceomkkohmaaDoorTermRes
import Derived.BigQuiet
import Derived.Lib.SmallJoins
namespace Go.Proofs.YtkgoceomkkohmaaDoor
open Go.RowKit Go.Maps
set_option linter.unusedVariables false
set_option linter.unusedSimpArgs false
attribute [local go_sem ↓] Go.wp_at_zero Go.wp_at_succ

theorem below_drewN {B : Nat} {a w : World} (h : Below B a w) (n : Nat) : Below B a (w.drewN n) := ⟨h.os, h.tape, h.output, h.size, h.block⟩
set_option maxHeartbeats 1600000 in
theorem put_any (v : Value) (s : List P) (t : T) (w : World) (hl : Lp w v s) (ht : t.wf) : Calls Tryd.prog 26 #[v, .agg #[.string t.v, .int .i8 t.a.k, .int .i64 t.a.n, .string t.a.s]] w fun e w' => e = .returned (.agg #[.string (putT s t).v, .int .i8 (putT s t).a.k, .int .i64 (putT s t).a.n, .string (putT s t).a.s]) ∧ Below w.heap.size w w' := by
  obtain ⟨a, c, rfl, hc1, hc2, hat⟩ := hl.form
  have hmax : s.length ≤ maxLen := Nat.le_trans hc1 hc2
  unfold maxLen at hmax
  have HAT : Hid _ := hat
  clear hat hl
  obtain ⟨r, HR⟩ : ∃ r, Hid (putT s t = r) := ⟨_, rfl⟩
  rw [HR.out]
  have b0 := ((Below.refl w.heap.size w).alloc (Nat.le_refl _) (.cells #[.string t.v, .int .i8 t.a.k, .int .i64 t.a.n, .string t.a.s] 28)).alloc (by simp) (.cells #[.string ⟨#[]⟩, .int .i8 0, .int .i64 0, .string ⟨#[]⟩] 28)
  have HO0 : Hid (Own4 ((w.alloc (.cells #[.string t.v, .int .i8 t.a.k, .int .i64 t.a.n, .string t.a.s] 28)).alloc (.cells #[.string ⟨#[]⟩, .int .i8 0, .int .i64 0, .string ⟨#[]⟩] 28)) (w.heap.size + 1)) := by
    have := own4 (Below.refl _ ((w.alloc (.cells #[.string t.v, .int .i8 t.a.k, .int .i64 t.a.n, .string t.a.s] 28)).alloc (.cells #[.string ⟨#[]⟩, .int .i8 0, .int .i64 0, .string ⟨#[]⟩] 28)))
    show Own4 _ _
    simpa using this
  have HT0 : Hid (TAt ((w.alloc (.cells #[.string t.v, .int .i8 t.a.k, .int .i64 t.a.n, .string t.a.s] 28)).alloc (.cells #[.string ⟨#[]⟩, .int .i8 0, .int .i64 0, .string ⟨#[]⟩] 28)) w.heap.size 0 t) := by
    refine ⟨?_, ?_, ?_, ?_⟩ <;> go_simp
  go_enter Tryd.func26, Tryd.ntmps26
  go_upto_region 1 with fail
  generalize (w.alloc (.cells #[.string t.v, .int .i8 t.a.k, .int .i64 t.a.n, .string t.a.s] 28)).alloc (.cells #[.string ⟨#[]⟩, .int .i8 0, .int .i64 0, .string ⟨#[]⟩] 28) = W at b0 HO0 HT0 ⊢
  have HB : Hid (Below w.heap.size w W) := b0
  have hWb : w.heap.size + 1 < W.heap.size := HO0.out.2.2.2.2.2
  clear b0
  by_cases e0 : t.v = noS
  · have he : t.v.toList.isEmpty = true := by rw [e0, ByteArray.toList_eq]; rfl
    have HV : Hid (t = r) := by show t = r; rw [← HR.out]; unfold putT; rw [if_pos (.inl e0)]
    obtain ⟨t0, t1, t2, t3⟩ := HT0.out
    simp only [Nat.zero_add] at t1 t2 t3
    obtain ⟨⟨y0, y1, y2, y3, o0, o1, o2, o3⟩, f0, f1, f2, f3, _⟩ := HO0.out
    clear e0
    go_wp2
    refine term_done Tryd.results26 (b := w.heap.size + 1) HO0.out (by omega) HB.out ?_ ?_
    · rfl
    · rw [HV.out]
  · have he := some_iff t.v e0
    by_cases eb : t.v = blankS
    · have hB : (t.v.toList == [95]) = true := by rw [eb, ByteArray.toList_eq]; rfl
      have HV : Hid (t = r) := by show t = r; rw [← HR.out]; unfold putT; rw [if_pos (.inr eb)]
      obtain ⟨t0, t1, t2, t3⟩ := HT0.out
      simp only [Nat.zero_add] at t1 t2 t3
      obtain ⟨⟨y0, y1, y2, y3, o0, o1, o2, o3⟩, f0, f1, f2, f3, _⟩ := HO0.out
      clear e0 eb
      go_wp2
      refine term_done Tryd.results26 (b := w.heap.size + 1) HO0.out (by omega) HB.out ?_ ?_
      · rfl
      · rw [HV.out]
    · have hB := blank_iff eb
      have HV0 : Hid (res s t = r) := by show _ = r; rw [← HR.out]; unfold putT; rw [if_neg (fun h => h.elim e0 eb)]
      have t0 := HT0.out.c0
      clear e0 eb
      go_wp2
      clear t0
      go_loopw [5] (fun i wr => ∃ k : Nat, k ≤ s.length ∧ i = .int .i64 k ∧ Below W.heap.size W wr ∧ Hid (res (s.drop k) t = r)) (fun i _ => s.length - (intOf i).toNat)
      case atStart => exact ⟨0, Nat.zero_le _, rfl, Below.refl _ _, HV0⟩
      case round =>
        obtain ⟨k, hk, rfl, bel, HS⟩ := hrel
        have hbf : Hid (Below w.heap.size w wr) := HB.out.trans (bel.mono HB.out.size)
        by_cases hlt : k < s.length
        · have hlt' : (k : Int) < (s.length : Int) := by omega
          have hge : (0 : Int) ≤ (k : Int) := by omega
          obtain ⟨g, off, rfl, hg, hT⟩ := HAT.out (by omega)
          have HX : Hid (∀ u, Below w.heap.size w u → PAt u g (off + k * 5) (atP s k)) := fun u hu => (hT k hlt).below hu hg
          have HD : Hid (res (s.drop k) t = if (atP s k).v = t.v then (atP s k).t else res (s.drop (k + 1)) t) := res_drop hlt
          have hE := eq_bytes (atP s k).v t.v
          generalize atP s k = p at HX HD hE
          have t0 := (HT0.out.below bel (by omega)).c0
          have x0 := (HX.out wr hbf.out).c0
          clear hT
          by_cases e : p.v = t.v
          · rw [decide_eq_true e] at hE
            have HV : Hid (p.t = r) := by show p.t = r; rw [← HS.out, HD.out, if_pos e]
            clear HS HD e
            go_wp2_with fail
            go_quiet (fail)
            have bel3 : Below W.heap.size W (wr.drewN nq) := below_drewN bel nq
            have bw3 : Below w.heap.size w (wr.drewN nq) := below_drewN hbf.out nq
            generalize wr.drewN nq = W3 at bel3 bw3 ⊢
            clear x0 t0 hE
            obtain ⟨x0, x1, x2, x3, x4⟩ := HX.out W3 bw3
            have HO3 : Hid _ := Own4.below HO0.out bel3
            obtain ⟨⟨y0, y1, y2, y3, o0, o1, o2, o3⟩, f0, f1, f2, f3, _⟩ := HO3.out
            go_wp2
            refine term_done Tryd.results26 (b := w.heap.size + 1) HO3.out (by omega) bw3 ?_ ?_
            · rfl
            · rw [HV.out]
          · rw [decide_eq_false e] at hE
            have HV : Hid (res (s.drop (k + 1)) t = r) := by show _ = r; rw [← HS.out, HD.out, if_neg e]
            clear HS HD e
            go_wp2_with fail
            go_quiet (fail)
            go_wp2
            go_roundw
            case rel => exact ⟨k + 1, by omega, by go_num, below_drewN bel _, HV⟩
            case measure => simp [intOf]; omega
        · obtain rfl : k = s.length := by omega
          have HV : Hid (t = r) := by show t = r; rw [← HS.out, List.drop_length]; rfl
          clear HS
          obtain ⟨t0, t1, t2, t3⟩ := HT0.out.below bel (by omega)
          simp only [Nat.zero_add] at t1 t2 t3
          have HO3 : Hid _ := Own4.below HO0.out bel
          obtain ⟨⟨y0, y1, y2, y3, o0, o1, o2, o3⟩, f0, f1, f2, f3, _⟩ := HO3.out
          go_wp2
          refine term_done Tryd.results26 (b := w.heap.size + 1) HO3.out (by omega) hbf.out ?_ ?_
          · rfl
          · rw [HV.out]
end Go.Proofs.YtkgoceomkkohmaaDoor
