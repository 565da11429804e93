import Derived.Test.YtodlkadlpjlenaaDoorTermVal
import Derived.BigQuiet
import Derived.Deep.RegionWith
namespace Go.Proofs.YtodlkadlpjlenaaDoor
open Go.RowKit Go.Maps
set_option linter.unusedVariables false
set_option linter.unusedSimpArgs false
attribute [local go_sem ↓] Go.wp_at_zero Go.wp_at_succ

theorem below_drewN {B : Nat} {a w : World} (h : Below B a w) (n : Nat) : Below B a (w.drewN n) := ⟨h.os, h.tape, h.output, h.size, h.block⟩
/-- what a term is under binds (the zero value, if it is a name that they don't have) -/
def bndV (l : List B) (t : T) : V := if t.v = noS then t.a else (seek l t.v).getD V0
def bndOk (l : List B) (t : T) : Bool := if t.v = noS then true else ((seek l t.v).map okV).getD false
theorem bnd_done {fn : Func} {sl so : Nat} (hr : fn.results = #[.cell sl 26, .tmp so]) {w w1 : World} {tmps : Array Value} {b : Nat} {x0 x1 x2 : Value} (ok : Bool) {r : V} {okR : Bool} (he : ok = okR)
    (ho : Own3 w1 b) (hB : w.heap.size ≤ b) (hb : Below w.heap.size w w1)
    (h2 : tmps.getD sl undef = .pointer (some ⟨b, 0, none⟩)) (h3 : tmps.getD so undef = .bool ok) (hx : Value.agg #[x0, x1, x2] = .agg #[.int .i8 r.k, .int .i64 r.n, .string r.s]) :
    bodyPost Tryd.prog fn (fun e w' => e = .returned (.tuple #[.agg #[.int .i8 r.k, .int .i64 r.n, .string r.s], .bool okR]) ∧ Below w.heap.size w w') .ret { tmps := tmps, defers := [] }
      (((w1.setCell ⟨b, 0, none⟩ x0).setCell ⟨b, 1, none⟩ x1).setCell ⟨b, 2, none⟩ x2) := by
  obtain ⟨⟨y0, y1, y2, c0, c1, c2⟩, f0, f1, f2, hl⟩ := ho
  refine bodyPost_ret (val_results hr (x0 := x0) (x1 := x1) (x2 := x2) h2 h3 ?_ ?_ ?_) rfl ⟨by rw [hx, he], ?_⟩
  · go_simp
  · go_simp
  · go_simp
  · exact (((hb.setCell (p := ⟨b, 0, none⟩) hB _).setCell (p := ⟨b, 1, none⟩) hB _).setCell (p := ⟨b, 2, none⟩) hB _)
set_option maxHeartbeats 1600000 in
theorem bound_full (t : T) (v : Value) (l : List B) (w : World) (ht : t.wf) (hl : Lb w v l) : Calls Tryd.prog 23 #[v, .agg #[.string t.v, .int .i8 t.a.k, .int .i64 t.a.n, .string t.a.s]] w fun e w' => e = .returned (.tuple #[.agg #[.int .i8 (bndV l t).k, .int .i64 (bndV l t).n, .string (bndV l t).s], .bool (bndOk l t)]) ∧ Below w.heap.size w w' := by
  obtain ⟨a, c, rfl, hc1, hc2, hat⟩ := hl.form
  have hmax : l.length ≤ maxLen := Nat.le_trans hc1 hc2
  unfold maxLen at hmax
  have HAT : Hid _ := hat
  have HWF : Hid (∀ b ∈ l, b.wf) := hl.wf
  clear hat hl
  obtain ⟨r, HR⟩ : ∃ r, Hid (bndV l t = r) := ⟨_, rfl⟩
  rw [HR.out]
  obtain ⟨okR, HOK⟩ : ∃ q, Hid (bndOk l t = q) := ⟨_, rfl⟩
  rw [HOK.out]
  have b0 := ((Below.refl w.heap.size w).alloc (Nat.le_refl _) (.cells #[.string t.v, .int .i8 t.a.k, .int .i64 t.a.n, .string t.a.s] 28)).alloc (by simp) (.cells #[.int .i8 0, .int .i64 0, .string ⟨#[]⟩] 26)
  have HO0 : Hid (Own3 ((w.alloc (.cells #[.string t.v, .int .i8 t.a.k, .int .i64 t.a.n, .string t.a.s] 28)).alloc (.cells #[.int .i8 0, .int .i64 0, .string ⟨#[]⟩] 26)) (w.heap.size + 1)) := by
    have := own3 (Below.refl _ ((w.alloc (.cells #[.string t.v, .int .i8 t.a.k, .int .i64 t.a.n, .string t.a.s] 28)).alloc (.cells #[.int .i8 0, .int .i64 0, .string ⟨#[]⟩] 26)))
    show Own3 _ _
    simpa using this
  have HT0 : Hid (TAt ((w.alloc (.cells #[.string t.v, .int .i8 t.a.k, .int .i64 t.a.n, .string t.a.s] 28)).alloc (.cells #[.int .i8 0, .int .i64 0, .string ⟨#[]⟩] 26)) w.heap.size 0 t) := by
    refine ⟨?_, ?_, ?_, ?_⟩ <;> go_simp
  go_enter Tryd.func23, Tryd.ntmps23
  go_upto_region 1 with fail
  generalize (w.alloc (.cells #[.string t.v, .int .i8 t.a.k, .int .i64 t.a.n, .string t.a.s] 28)).alloc (.cells #[.int .i8 0, .int .i64 0, .string ⟨#[]⟩] 26) = W at b0 HO0 HT0 ⊢
  have hzW : w.heap.size + 1 < W.heap.size := HO0.out.2.2.2.2
  by_cases e0 : t.v = noS
  · have he : t.v.toList.isEmpty = true := by rw [e0, ByteArray.toList_eq]; rfl
    have HV : Hid (t.a = r) := by
      show _ = r
      rw [← HR.out]
      unfold bndV
      rw [if_pos e0]
    have HO1k : Hid (true = okR) := by
      show _ = okR
      rw [← HOK.out]
      unfold bndOk
      rw [if_pos e0]
    obtain ⟨t0, t1, t2, t3⟩ := HT0.out
    simp only [Nat.zero_add] at t1 t2 t3
    obtain ⟨⟨y0, y1, y2, o0, o1, o2⟩, f0, f1, f2, _⟩ := HO0.out
    clear e0
    go_wp2
    refine bnd_done Tryd.results23 (b := w.heap.size + 1) true HO1k.out HO0.out (by omega) b0 ?_ ?_ ?_
    · rfl
    · rfl
    · rw [← HV.out]
  · have he := some_iff t.v e0
    have HV0 : Hid (bndV l t = (seek l t.v).getD V0) := by show _ = _; unfold bndV; rw [if_neg e0]
    have HK0 : Hid (okR = ((seek l t.v).map okV).getD false) := by show _ = _; rw [← HOK.out]; unfold bndOk; rw [if_neg e0]
    have t0 := HT0.out.c0
    have HT0' : Hid (∀ u, Below W.heap.size W u → u.cell? ⟨w.heap.size, 0, none⟩ = some (.string t.v)) := fun u hu => by rw [hu.cell (p := ⟨w.heap.size, 0, none⟩) (by show w.heap.size < _; omega)]; exact HT0.out.c0
    clear e0 HT0
    go_wp2
    clear t0
    go_loopw [6] (fun i wr => ∃ k : Nat, k ≤ l.length ∧ i = .int .i64 k ∧ Below W.heap.size W wr ∧ Hid (∀ j, j < k → (atB l j).v ≠ t.v)) (fun i _ => l.length - (intOf i).toNat)
    case atStart => exact ⟨0, Nat.zero_le _, rfl, Below.refl _ _, fun j hj => absurd hj (by omega)⟩
    case round =>
      obtain ⟨k, hk, rfl, bel, HB⟩ := hrel
      have BWR : Hid (Below w.heap.size w wr) := b0.trans (bel.mono b0.size)
      by_cases hlt : k < l.length
      · have hlt' : (k : Int) < (l.length : Int) := by omega
        have hge : (0 : Int) ≤ (k : Int) := by omega
        obtain ⟨g, off, rfl, hg, hT⟩ := HAT.out (by omega)
        have HX : Hid (∀ u, Below w.heap.size w u → TAt u g (off + k * 4) ⟨(atB l k).v, (atB l k).a⟩) := fun u hu => (hT k hlt).below hu hg
        have hbw := atB_wf HWF.out k
        have HBK : Hid (∀ x, atB l k = x → x.v = t.v → r = x.a ∧ okR = okV x.a) := by
          intro x hx hv
          refine ⟨?_, ?_⟩
          · rw [← HR.out, HV0.out, seek_here hlt HB.out (by rw [hx]; exact hv), hx]
            rfl
          · rw [HK0.out, seek_here hlt HB.out (by rw [hx]; exact hv), hx]
            rfl
        have HBN : Hid ((atB l k).v ≠ t.v → ∀ j, j < k + 1 → (atB l j).v ≠ t.v) := by
          intro hne j hj
          by_cases h : j < k
          · exact HB.out j h
          · obtain rfl : j = k := by omega
            exact hne
        have HBW : Hid _ := hbw
        clear hT HB hbw
        generalize atB l k = b at HX HBK HBN HBW
        have t0 := HT0'.out wr bel
        obtain ⟨x0, x1, x2, x3⟩ := HX.out wr BWR.out
        simp only at x0
        clear x1 x2 x3
        by_cases e : b.v = t.v
        · have hB : (b.v.toList == t.v.toList) = true := by rw [e]; simp
          have HRA : Hid (r = b.a) := (HBK.out b rfl e).1
          have HRK : Hid (okR = okV b.a) := (HBK.out b rfl e).2
          clear e HBK HBN
          go_wp2_with fail
          go_quiet (fail)
          have bel3 : Below W.heap.size W (wr.drewN nq) := below_drewN bel nq
          have bw3 : Below w.heap.size w (wr.drewN nq) := below_drewN BWR.out nq
          generalize wr.drewN nq = W3 at bel3 bw3 ⊢
          clear x0 t0 HT0' hB bel BWR
          have HB3 : Hid (∀ u, Below W3.heap.size W3 u → Below W.heap.size W u ∧ Below w.heap.size w u) := fun u hu => ⟨bel3.trans (hu.mono bel3.size), bw3.trans (hu.mono bw3.size)⟩
          obtain ⟨-, x1, x2, x3⟩ := HX.out W3.drew bw3.drew
          simp only at x1 x2 x3
          obtain ⟨⟨y0, y1, y2, o0, o1, o2⟩, f0, f1, f2, _⟩ := HO0.out.below bel3.drew
          clear bel3 bw3
          go_upto_region 7 with fail
          go_region_with (go_at_call 31; refine (rcheck_any b.a.k b.a.n b.a.s _ HBW.out.val.text).mono ?_; rintro e w2 ⟨rfl, b2⟩; obtain ⟨BB2, B2⟩ := HB3.out w2 ((Below.refl _ _).drew.trans b2); obtain ⟨-, z1, z2, z3⟩ := HX.out w2 B2; simp only at z1 z2 z3; have HO2 : Hid _ := HO0.out.below BB2; obtain ⟨⟨y0', y1', y2', o0', o1', o2'⟩, f0', f1', f2', _⟩ := HO2.out)
          all_goals
            clear x1 x2 x3 z1 z2 z3 o0 o1 o2 f0 f1 f2
            go_wp2
            refine bnd_done Tryd.results23 (b := w.heap.size + 1) (chk b.a.k b.a.n b.a.s == 0) (by rw [HRK.out]; rfl) HO2.out (by omega) B2 ?_ ?_ ?_
            · rfl
            · rfl
            · rw [HRA.out]
        · have hB : (b.v.toList == t.v.toList) = false := by
            rw [beq_eq_false_iff_ne]
            exact fun h => e (toList_inj h)
          have HN : Hid _ := HBN.out e
          clear e HBK HBN
          go_wp2_with fail
          go_quiet (fail)
          go_wp2
          go_roundw
          case rel => exact ⟨k + 1, by omega, by go_num, below_drewN bel _, HN⟩
          case measure => simp [intOf]; omega
      · obtain rfl : k = l.length := by omega
        have HV : Hid (r = V0) := by
          show r = V0
          rw [← HR.out, HV0.out, seek_no HB.out]
          rfl
        have HVK : Hid (false = okR) := by
          show _ = okR
          rw [HK0.out, seek_no HB.out]
          rfl
        have HO1 : Hid (Own3 wr (w.heap.size + 1)) := HO0.out.below bel
        obtain ⟨⟨y0, y1, y2, o0, o1, o2⟩, f0, f1, f2, _⟩ := HO1.out
        go_wp2
        refine bnd_done Tryd.results23 (b := w.heap.size + 1) false HVK.out HO1.out (by omega) BWR.out ?_ ?_ ?_
        · rfl
        · rfl
        · rw [HV.out]; rfl
end Go.Proofs.YtodlkadlpjlenaaDoor
