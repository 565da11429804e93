import Derived.Test.YtekjoccbbamehaaIxFit
import Derived.Test.YtekjoccbbamehaaRgGen
namespace Go.Proofs.Ytekjoccbbamehaa
open Go.RowKit Go.Maps Go.ChangeMaps
set_option linter.unusedVariables false
set_option linter.unusedSimpArgs false
attribute [local go_sem ↓] Go.wp_at_zero Go.wp_at_succ
attribute [local go_sem] Oper.semAt_some
attribute [-go_sem] loadVar

def rflike_takes : List (List Nat × Nat) := [([], 0), ([0], 1), ([0, 1, 2], 3), ([0, 1, 2, 3], 4), ([0, 1, 2, 3, 4], 5), ([0, 1, 2, 3, 4, 5], 6), ([0, 1, 2, 3, 4, 5, 6], 7), ([0, 1, 2, 3, 4, 5, 6, 7], 8), ([0, 1, 2, 3, 4, 5, 6, 7, 8], 9), ([0, 1, 2, 3, 4, 5, 6, 7, 8, 9], 10), ([0, 1, 2, 3, 4, 5, 6, 7, 8, 9, 10], 11)]
set_option maxHeartbeats 3200000 in
theorem rflike {ops : Array Oper} {Q : Exit → Act → World → Prop} {S : World → Prop} {a0 : Act} {w5 : World} {m k : Int} {ty1 : Array TypeId}
    (q0 : isOpG ops 0 none (.move (.tmp 0)) (some 12))
    (q1 : isOpG ops 1 none (.move (.tmp 7)) (some 13))
    (q2 : isOpG ops 2 none (.call { callee := .value (.func 23), args := #[.tmp 12, .tmp 13], argTypes := ty1 }) (some 14))
    (q3 : isOpG ops 3 none (.move (.tmp 14)) (some 15))
    (q4 : isOpG ops 4 (some (3, true)) (.move (.tmp 7)) (some 16))
    (q5 : isOpG ops 5 (some (3, true)) (.indexAddr 34 (.tmp 4) (.tmp 16)) (some 17))
    (q6 : isOpG ops 6 (some (3, true)) (.load 32 (.tmp 17)) (some 18))
    (q7 : isOpG ops 7 (some (3, true)) (.move (.tmp 7)) (some 19))
    (q8 : isOpG ops 8 (some (3, true)) (.indexAddr 34 (.tmp 5) (.tmp 19)) (some 20))
    (q9 : isOpG ops 9 (some (3, true)) (.load 32 (.tmp 20)) (some 21))
    (q10 : isOpG ops 10 (some (3, true)) (.binOp .neq 32 (.tmp 18) (.tmp 21) 32) (some 22))
    (q11 : isOpG ops 11 none (.pick (.tmp 15) (.tmp 22) (.const (.bool false))) (some 23))
    (hs : Region.noSelect ops = true) (hq : (rflike_takes.all fun p => Region.free .any ops (LR 12 p.1) p.2 && (Region.ready .any ops (LR 12 p.1)).contains p.2) = true)
    (r2 : Region.ready .any ops (LR 12 [0, 1]) = [2])
    (rend : Region.ready .any ops (LR 12 [0, 1, 2, 3, 4, 5, 6, 7, 8, 9, 10, 11]) = [])
    (hQ : ∀ (d : Option Tmp) (v : Value) c a w, Q (.panic c) (a.put d v) w → Q (.panic c) a w)
    (hsz : 23 < a0.tmps.size) (e0 : a0.eval (.tmp 0) = .int .u32 m) (e7 : a0.eval (.tmp 7) = .int .i64 k)
    (hS0 : S w5.drew)
    (keep : ∀ u u', S u → S u' → S u') (C1 : Calls Try.prog 23 #[.int .u32 m, .int .i64 k] w5.drew fun e u1 => e = .returned (.bool false) ∧ S u1)
    (F : ∀ (wc : World), S wc → Q .normal ((((((((((((a0.put (some 12) (.int .u32 m)).put (some 13) (.int .i64 k)).put (some 14) (.bool false)).put (some 15) (.bool false)).put (some 16) (undef)).put (some 17) (undef)).put (some 18) (undef)).put (some 19) (undef)).put (some 20) (undef)).put (some 21) (undef)).put (some 22) (undef)).put (some 23) (.bool false)) wc) :
    wpAnyH Try.prog .any ops Q S 12 (LR 12 []) a0 w5.drew := by
  have hall : ∀ p ∈ rflike_takes, Region.free .any ops (LR 12 p.1) p.2 = true ∧ (Region.ready .any ops (LR 12 p.1)).contains p.2 = true := by
    intro p hp
    have := List.all_eq_true.1 hq p hp
    simpa using this
  unfold rflike_takes at hall
  obtain ⟨og3, hog3, _, _, dog3⟩ := isOpG_out q3
  obtain ⟨o0, ho, hg, hop, hd⟩ := isOpG_out q0
  have hfr := hall ([], 0) (by simp)
  refine wpAnyH_take (listed := LR 12 []) (v := .int .u32 m) ho hs hfr.1 hfr.2 (hQ _ _) (Or.inl ⟨(wantedN hg), fun w' hS => run_move _ _ hop w' (by (repeat rw [eval_far _ _ (by decide)]); exact e0)⟩) hS0 ?_
  rw [hd, ← LR_snoc]
  clear ho hg hop hd hfr
  obtain ⟨o1, ho, hg, hop, hd⟩ := isOpG_out q1
  have hfr := hall ([0], 1) (by simp)
  refine wpAnyH_take (listed := LR 12 [0]) (v := .int .i64 k) ho hs hfr.1 hfr.2 (hQ _ _) (Or.inl ⟨(wantedN hg), fun w' hS => run_move _ _ hop w' (by (repeat rw [eval_far _ _ (by decide)]); exact e7)⟩) hS0 ?_
  rw [hd, ← LR_snoc]
  clear ho hg hop hd hfr
  refine wpAnyH_all r2 (by simp) ?_
  intro i hi
  obtain rfl := List.mem_singleton.1 hi
  obtain ⟨o2, ho, hg, hop, hd⟩ := isOpG_out q2
  have x2_0 : (((a0.put (some 12) (.int .u32 m)).put (some 13) (.int .i64 k))).eval (.tmp 12) = .int .u32 m := (by (repeat (first | rw [eval_same _ _ (by (try simp only [put_size]); omega)] | rw [eval_far _ _ (by decide)])))
  have x2_1 : (((a0.put (some 12) (.int .u32 m)).put (some 13) (.int .i64 k))).eval (.tmp 13) = .int .i64 k := (by (repeat (first | rw [eval_same _ _ (by (try simp only [put_size]); omega)] | rw [eval_far _ _ (by decide)])))
  refine wpOp_callG ho (wantedN hg) (run_callV 23 Try.func23 (by kernel_rfl) (by kernel_rfl) #[.tmp 12, .tmp 13] _ hop #[.int .u32 m, .int .i64 k] (by simp only [List.map_toArray, List.map_cons, List.map_nil, x2_0, x2_1])) ?_
  refine (C1).mono ?_
  rintro e u1 ⟨rfl, hS1⟩
  have hS2 := keep _ _ hS0 hS1
  refine ⟨_, rfl, hS2, ?_⟩
  rw [hd]
  clear ho hg hop hd
  rw [← LR_snoc]
  obtain ⟨o3, ho, hg, hop, hd⟩ := isOpG_out q3
  have hfr := hall ([0, 1, 2], 3) (by simp)
  refine wpAnyH_take (listed := LR 12 [0, 1, 2]) (v := .bool false) ho hs hfr.1 hfr.2 (hQ _ _) (Or.inl ⟨(wantedN hg), fun w' hS => run_move _ _ hop w' (by (repeat (first | rw [eval_same _ _ (by (try simp only [put_size]); omega)] | rw [eval_far _ _ (by decide)])))⟩) hS2 ?_
  rw [hd, ← LR_snoc]
  clear ho hg hop hd hfr
  obtain ⟨o4, ho, hg, hop, hd⟩ := isOpG_out q4
  have hfr := hall ([0, 1, 2, 3], 4) (by simp)
  refine wpAnyH_take (listed := LR 12 [0, 1, 2, 3]) (v := undef) ho hs hfr.1 hfr.2 (hQ _ _) (Or.inr ⟨((wantedB hog3 dog3 hg (by (repeat (first | rw [tmps_same _ _ (by (try simp only [put_size]); omega)] | rw [tmps_far _ _ (by decide)])))).trans (by decide)), rfl⟩) hS2 ?_
  rw [hd, ← LR_snoc]
  clear ho hg hop hd hfr
  obtain ⟨o5, ho, hg, hop, hd⟩ := isOpG_out q5
  have hfr := hall ([0, 1, 2, 3, 4], 5) (by simp)
  refine wpAnyH_take (listed := LR 12 [0, 1, 2, 3, 4]) (v := undef) ho hs hfr.1 hfr.2 (hQ _ _) (Or.inr ⟨((wantedB hog3 dog3 hg (by (repeat (first | rw [tmps_same _ _ (by (try simp only [put_size]); omega)] | rw [tmps_far _ _ (by decide)])))).trans (by decide)), rfl⟩) hS2 ?_
  rw [hd, ← LR_snoc]
  clear ho hg hop hd hfr
  obtain ⟨o6, ho, hg, hop, hd⟩ := isOpG_out q6
  have hfr := hall ([0, 1, 2, 3, 4, 5], 6) (by simp)
  refine wpAnyH_take (listed := LR 12 [0, 1, 2, 3, 4, 5]) (v := undef) ho hs hfr.1 hfr.2 (hQ _ _) (Or.inr ⟨((wantedB hog3 dog3 hg (by (repeat (first | rw [tmps_same _ _ (by (try simp only [put_size]); omega)] | rw [tmps_far _ _ (by decide)])))).trans (by decide)), rfl⟩) hS2 ?_
  rw [hd, ← LR_snoc]
  clear ho hg hop hd hfr
  obtain ⟨o7, ho, hg, hop, hd⟩ := isOpG_out q7
  have hfr := hall ([0, 1, 2, 3, 4, 5, 6], 7) (by simp)
  refine wpAnyH_take (listed := LR 12 [0, 1, 2, 3, 4, 5, 6]) (v := undef) ho hs hfr.1 hfr.2 (hQ _ _) (Or.inr ⟨((wantedB hog3 dog3 hg (by (repeat (first | rw [tmps_same _ _ (by (try simp only [put_size]); omega)] | rw [tmps_far _ _ (by decide)])))).trans (by decide)), rfl⟩) hS2 ?_
  rw [hd, ← LR_snoc]
  clear ho hg hop hd hfr
  obtain ⟨o8, ho, hg, hop, hd⟩ := isOpG_out q8
  have hfr := hall ([0, 1, 2, 3, 4, 5, 6, 7], 8) (by simp)
  refine wpAnyH_take (listed := LR 12 [0, 1, 2, 3, 4, 5, 6, 7]) (v := undef) ho hs hfr.1 hfr.2 (hQ _ _) (Or.inr ⟨((wantedB hog3 dog3 hg (by (repeat (first | rw [tmps_same _ _ (by (try simp only [put_size]); omega)] | rw [tmps_far _ _ (by decide)])))).trans (by decide)), rfl⟩) hS2 ?_
  rw [hd, ← LR_snoc]
  clear ho hg hop hd hfr
  obtain ⟨o9, ho, hg, hop, hd⟩ := isOpG_out q9
  have hfr := hall ([0, 1, 2, 3, 4, 5, 6, 7, 8], 9) (by simp)
  refine wpAnyH_take (listed := LR 12 [0, 1, 2, 3, 4, 5, 6, 7, 8]) (v := undef) ho hs hfr.1 hfr.2 (hQ _ _) (Or.inr ⟨((wantedB hog3 dog3 hg (by (repeat (first | rw [tmps_same _ _ (by (try simp only [put_size]); omega)] | rw [tmps_far _ _ (by decide)])))).trans (by decide)), rfl⟩) hS2 ?_
  rw [hd, ← LR_snoc]
  clear ho hg hop hd hfr
  obtain ⟨o10, ho, hg, hop, hd⟩ := isOpG_out q10
  have hfr := hall ([0, 1, 2, 3, 4, 5, 6, 7, 8, 9], 10) (by simp)
  refine wpAnyH_take (listed := LR 12 [0, 1, 2, 3, 4, 5, 6, 7, 8, 9]) (v := undef) ho hs hfr.1 hfr.2 (hQ _ _) (Or.inr ⟨((wantedB hog3 dog3 hg (by (repeat (first | rw [tmps_same _ _ (by (try simp only [put_size]); omega)] | rw [tmps_far _ _ (by decide)])))).trans (by decide)), rfl⟩) hS2 ?_
  rw [hd, ← LR_snoc]
  clear ho hg hop hd hfr
  obtain ⟨o11, ho, hg, hop, hd⟩ := isOpG_out q11
  have hfr := hall ([0, 1, 2, 3, 4, 5, 6, 7, 8, 9, 10], 11) (by simp)
  refine wpAnyH_take (listed := LR 12 [0, 1, 2, 3, 4, 5, 6, 7, 8, 9, 10]) (v := .bool false) ho hs hfr.1 hfr.2 (hQ _ _) (Or.inl ⟨(wantedN hg), fun w' hS => run_pickF _ _ hop w' (by (repeat (first | rw [eval_same _ _ (by (try simp only [put_size]); omega)] | rw [eval_far _ _ (by decide)]))) rfl⟩) hS2 ?_
  rw [hd, ← LR_snoc]
  clear ho hg hop hd hfr
  exact wpAnyH_done rend (F _ hS2) _
set_option maxHeartbeats 3200000 in
set_option maxRecDepth 100000 in
theorem like_true (M : Nat) (hM : M < 4294967296) (x y : List Int) (hx : x.length = 24) (hy : y.length = 24) (h : ∀ k, k < 24 → M.testBit k = true → x.getD k 0 = y.getD k 0) (w : World) : Calls Try.prog 12 #[.int .u32 (M : Int), rowV x, rowV y] w fun e w' => e = .returned (.bool true) ∧ Below w.heap.size w w' := by
  have HH := Lib.hid h
  obtain ⟨W, hW⟩ : ∃ W, W = (w.alloc (.cells (rowC x) 34)).alloc (.cells (rowC y) 34) := ⟨_, rfl⟩
  have HB : Hid (Below w.heap.size w W) := by
    show Below _ _ _
    rw [hW]
    exact ((Below.refl w.heap.size w).alloc (Nat.le_refl _) _).alloc (by simp) _
  have HX : Hid (RowAt W w.heap.size x) := by
    show RowAt _ _ _
    rw [hW]
    exact (rowAt_new w x).below ((Below.refl _ _).alloc (Nat.le_refl _) _)
  have HY : Hid (RowAt W (w.heap.size + 1) y) := by
    have : RowAt W (w.alloc (.cells (rowC x) 34)).heap.size y := by rw [hW]; exact rowAt_new _ y
    simp only [World.size_alloc] at this
    exact this
  clear h
  unfold rowV
  go_enter Try.func12, Try.ntmps12
  go_wp2
  have HB0 : Hid (Below W.heap.size W ((w.alloc (.cells (rowC x) 34)).alloc (.cells (rowC y) 34))) := by
    show Below _ _ _
    rw [← hW]
    exact Below.refl _ _
  clear hW
  go_loopw [7] (fun i wr => ∃ k : Nat, k ≤ 24 ∧ i = .int .i64 k ∧ Hid (Below W.heap.size W wr)) (fun i _ => 24 - (intOf i).toNat)
  case atStart => exact ⟨0, by omega, rfl, HB0.out⟩
  case round =>
    clear HB0
    obtain ⟨k, hk, rfl, HI⟩ := hrel
    obtain ⟨U, rfl⟩ : ∃ U, U = wr := ⟨_, rfl⟩
    by_cases hlt : k < 24
    · have hlt' : (k : Int) < 24 := by omega
      have hk0 : (0 : Int) ≤ (k : Int) := by omega
      have HIS := fun u => Lib.hid (is_any M hM k (by omega) u)
      have HK := Lib.hid (HH.out k hlt)
      have HS : Hid (∀ u, Below W.heap.size W u → Below W.heap.size W u ∧ (loadVar 32 ⟨w.heap.size, k, none⟩).run Try.prog u = .ok (.int .i32 (x.getD k 0)) u ∧ (loadVar 32 ⟨w.heap.size + 1, k, none⟩).run Try.prog u = .ok (.int .i32 (y.getD k 0)) u) := fun u hu => ⟨hu, load_symK (RowAt.cellU (HX.out.below hu) hx hlt), load_symK (RowAt.cellU (HY.out.below hu) hy hlt)⟩
      have hB0 := HI.out.drew
      generalize x.getD k 0 = a at HK HS
      generalize y.getD k 0 = b at HK HS
      go_upto_region 4 with fail
      cases hb : M.testBit k
      · rw [hb] at HIS
        clear HK hb
        have HC : Hid (Calls Try.prog 23 #[.int .u32 (M : Int), .int .i64 (k : Int)] U.drew fun e u1 => e = .returned (.bool false) ∧ Below W.heap.size W u1) := by
          refine ((HIS _).out).mono ?_
          rintro ee w2 ⟨rfl, rfl⟩
          exact ⟨rfl, hB0⟩
        refine wp_region_noPanic ?_
        refine wp_region_held (S := fun u => Below W.heap.size W u) (by kernel_rfl) ?_
        refine rflike (w5 := U) (S := fun u => Below W.heap.size W u) (m := (M : Int)) (k := (k : Int)) rfl rfl rfl rfl rfl rfl rfl rfl rfl rfl rfl rfl (by kernel_rfl) (by kernel_rfl) (by kernel_rfl) (by kernel_rfl) (fun _ _ _ _ _ h => h) (by simp) rfl rfl hB0 (fun _ _ _ h => h) HC.out ?_
        intro wc hwc
        refine NoPanic.normal ?_
        rename_i hJ hQ hK
        first | refine hJ _ _ ?_ | refine hK _ _ ?_
        clear HC HIS HS hB0
        simp (config := { maxSteps := 8000000 }) only [Act.put, List.getElem_toArray, List.getElem_cons_zero, List.getElem_cons_succ, List.setIfInBounds_toArray, List.set_cons_succ, List.set_cons_zero]
        go_wp2
        go_roundw
        case rel => exact ⟨k + 1, by omega, by go_num, hwc⟩
        case measure => simp [intOf]; omega
      · rw [hb] at HIS HK
        obtain rfl := HK.out rfl
        clear HK hb
        go_region_held3 (fun u => Below W.heap.size W u ∧ (loadVar 32 ⟨w.heap.size, k, none⟩).run Try.prog u = .ok (.int .i32 a) u ∧ (loadVar 32 ⟨w.heap.size + 1, k, none⟩).run Try.prog u = .ok (.int .i32 a) u)
          (first | assumption | exact HS.out _ hB0 | exact HS.out _ (by assumption))
          (first
            | (go_at_call 23; refine ((HIS _).out).mono ?_; rintro ee w2 ⟨rfl, rfl⟩)
            | fail)
        go_wp2
        go_roundw
        case rel => exact ⟨k + 1, by omega, by go_num, hB0⟩
        case measure => simp [intOf]; omega
    · obtain rfl : k = 24 := by omega
      have HF := Lib.hid (HB.out.trans (HI.out.mono HB.out.size))
      go_wp2
      go_ret
      exact ⟨rfl, HF.out⟩
end Go.Proofs.Ytekjoccbbamehaa
