import Derived.Test.YtihngojkcacgdaaRelNoAt
namespace Go.Proofs.Ytihngojkcacgdaa
open Go.RowKit Go.Maps Go.Shelf
set_option linter.unusedVariables false
set_option linter.unusedSimpArgs false
attribute [local go_sem ↓] Go.wp_at_zero Go.wp_at_succ

/-- a region whose orders all end in the same act and world: what follows is shown once -/
theorem region_once {P : Program} {id : Nat} {ops : Array Oper} {b : Bool} {Q : Exit → Act → World → Prop} {a : Act} {w : World}
    (h : ∃ A V, (Code.region id ops b).wp P (fun e a' w' => e = .normal ∧ a' = A ∧ w' = V) a w ∧ Q .normal A V) : (Code.region id ops b).wp P Q a w := by
  obtain ⟨A, V, h, hk⟩ := h
  exact Code.wp_mono (fun e a' w' h => by obtain ⟨rfl, rfl, rfl⟩ := h; exact hk) h
theorem run_store_nilFunc (P : Program) (w : World) (a : Addr) (m : Mode) : (store a .nilFunc m).run P w = stored P w a .nilFunc m := run_store P w a _ m rfl
attribute [local go_sem] run_store_nilFunc
section
attribute [-go_sem] loadVar
set_option maxHeartbeats 3200000 in
set_option maxRecDepth 100000 in
theorem does_ask {w : World} {t : Nat} {R : World → Prop} (on k n m mask : Int) (r : List Int) (hr : r.length = 24) (h1 : k ≠ 1) (h2 : k ≠ 2) (h3 : k ≠ 3) (h4 : k ≠ 4) (h5 : k ≠ 5) (h13 : k ≠ 13)
    (HA : Calls Try.prog 20 #[.pointer (some ⟨t, 0, none⟩), .agg (opL on k n m mask r).toArray] (w.alloc (.cells (opL on k n m mask r).toArray 28)) fun e w' => e = .returned (.bool true) ∧ R w') :
    Calls Try.prog 4 #[.pointer (some ⟨t, 0, none⟩), .agg (opL on k n m mask r).toArray] w fun e w' => e = .returned (.bool true) ∧ R w' := by
  have O := Lib.hid (opAt_new w on k n m mask r)
  have HC := Lib.hid HA
  have e1 : ((k : Int) == 1) = false := by simpa using h1
  have e2 : ((k : Int) == 2) = false := by simpa using h2
  have e3 : ((k : Int) == 3) = false := by simpa using h3
  have e4 : ((k : Int) == 4) = false := by simpa using h4
  have e5 : ((k : Int) == 5) = false := by simpa using h5
  have e13 : ((k : Int) == 13) = false := by simpa using h13
  clear HA h1 h2 h3 h4 h5 h13
  go_enter Try.func4, Try.ntmps4
  go_upto_region 1 with fail
  generalize w.alloc (.cells (opL on k n m mask r).toArray 28) = W at O HC ⊢
  have hc1 := run_loadInt O.out.c1
  have hld := O.out.load hr
  clear O
  go_wp2_with fail
  refine HC.out.mono ?_
  rintro e w2 ⟨rfl, hR⟩
  have HR := Lib.hid hR
  clear hR HC
  go_wp2
  go_ret
  exact ⟨rfl, HR.out⟩
end
theorem does_6 {w : World} {t : Nat} {p : Value} (h : BothNo w t p) (on n m mask : Int) (r : List Int) (hr : r.length = 24) : Calls Try.prog 4 #[.pointer (some ⟨t, 0, none⟩), .agg (opL on 6 n m mask r).toArray] w fun e w' => e = .returned (.bool true) ∧ Below w.heap.size w w' := by
  refine does_ask on 6 n m mask r hr (by decide) (by decide) (by decide) (by decide) (by decide) (by decide) ?_
  have hb := belowA (w := w) (.cells (opL on 6 n m mask r).toArray 28)
  exact (asks_6 (h.below hb) on n m mask r).mono fun e w' h => ⟨h.1, hb.trans (h.2.mono hb.size)⟩
theorem bothNo_new (w : World) : BothNo (w.alloc (.cells #[.pointer none, .pointer none, .nilFunc, .int .i64 0, .int .i64 0] 34)) w.heap.size (.pointer none) := by
  have h : RL (w.alloc (.cells #[.pointer none, .pointer none, .nilFunc, .int .i64 0, .int .i64 0] 34)) w.heap.size 34 [.pointer none, .pointer none, .nilFunc, .int .i64 0, .int .i64 0] := rl_new w #[.pointer none, .pointer none, .nilFunc, .int .i64 0, .int .i64 0] 34
  exact ⟨World.rowIs.lt h, h.at rfl, h.at rfl, .nil⟩
/-- an Op with a kind and a row -/
theorem wpList_buildOp (w : World) {ops : Array Oper} {rest : List Oper} {o : Oper} {a : Act} {Q : Exit → Act → World → Prop} (hgd : o.guard = none) (c : Int) (x : Nat) (ho : o.op = Op.build 28 #[(1, .const (.int .i64 c)), (5, .tmp x)])
    (r : List Int) (hr : r.length = 24) (hx : a.tmps[x]?.getD undef = .agg (List.map cellI r).toArray) (hK : wpList Try.prog ops Q rest (a.put o.dst (.agg (opL 0 c 0 0 0 r).toArray)) w) : wpList Try.prog ops Q (o :: rest) a w := by
  refine wpList_plain hgd fun K' hK' => ?_
  unfold Oper.wp
  match r, hr with
  | [a0, a1, a2, a3, a4, a5, a6, a7, a8, a9, a10, a11, a12, a13, a14, a15, a16, a17, a18, a19, a20, a21, a22, a23], _ =>
    simp only [List.map_cons, List.map_nil] at hx
    simp only [execOp, ho]
    go_simp
    exact hK' _ _ hK
theorem wpList_buildWhole (w : World) {ops : Array Oper} {rest : List Oper} {o : Oper} {a : Act} {Q : Exit → Act → World → Prop} (hgd : o.guard = none) (ho : o.op = Op.build 28 #[(1, .const (.int .i64 6)), (2, .const (.int .i64 0)), (3, .const (.int .i64 1099511627776))])
    (hK : wpList Try.prog ops Q rest (a.put o.dst (.agg (opL 0 6 0 1099511627776 0 zeroL).toArray)) w) : wpList Try.prog ops Q (o :: rest) a w := by
  refine wpList_plain hgd fun K' hK' => ?_
  unfold Oper.wp
  simp only [execOp, ho]
  go_simp
  exact hK' _ _ hK
theorem store_freshOp (w : World) (on k n m mask : Int) (r : List Int) (hr : r.length = 24) : (storeCells ⟨w.heap.size, 0, none⟩ (opL on k n m mask r)).run Try.prog (w.alloc (.cells #[.int .i64 0, .int .i64 0, .int .i64 0, .int .i64 0, .int .u32 0, .int .i32 0, .int .i32 0, .int .i32 0, .int .i32 0, .int .i32 0, .int .i32 0, .int .i32 0, .int .i32 0, .int .i32 0, .int .i32 0, .int .i32 0, .int .i32 0, .int .i32 0, .int .i32 0, .int .i32 0, .int .i32 0, .int .i32 0, .int .i32 0, .int .i32 0, .int .i32 0, .int .i32 0, .int .i32 0, .int .i32 0, .int .i32 0] 28)) = .ok () (w.alloc (.cells (opL on k n m mask r).toArray 28)) := by
  have := run_storeCells_new (P := Try.prog) w 28 #[.int .i64 0, .int .i64 0, .int .i64 0, .int .i64 0, .int .u32 0, .int .i32 0, .int .i32 0, .int .i32 0, .int .i32 0, .int .i32 0, .int .i32 0, .int .i32 0, .int .i32 0, .int .i32 0, .int .i32 0, .int .i32 0, .int .i32 0, .int .i32 0, .int .i32 0, .int .i32 0, .int .i32 0, .int .i32 0, .int .i32 0, .int .i32 0, .int .i32 0, .int .i32 0, .int .i32 0, .int .i32 0, .int .i32 0] (opL on k n m mask r).toArray (by rw [List.size_toArray, opL_len _ _ _ _ _ hr]; exact infoOp) (by simp only [List.size_toArray, opL_len _ _ _ _ _ hr]; rfl) (by simp [opL, cellI, Value.oneCell'])
  exact this
attribute [-go_sem] loadVar
set_option maxHeartbeats 3200000 in
set_option maxRecDepth 100000 in
theorem room_no {w : World} {t : Nat} {p : Value} (h : BothNo w t p) (on k n m mask : Int) (r : List Int) (hr : r.length = 24) : Calls Try.prog 19 #[.pointer (some ⟨t, 0, none⟩), .agg (opL on k n m mask r).toArray] w fun e w' => e = .returned (.bool true) ∧ Below w.heap.size w w' := by
  have O := Lib.hid (opAt_new w on k n m mask r)
  have HB := Lib.hid (belowA (w := w) (.cells (opL on k n m mask r).toArray 28))
  have HN := Lib.hid (h.below HB.out)
  clear h
  go_enter Try.func19, Try.ntmps19
  go_upto_region 1 with fail
  generalize w.alloc (.cells (opL on k n m mask r).toArray 28) = W at O HB HN ⊢
  have hB0 : Below W.heap.size W W.drew := (Below.refl _ _).drew
  have HS : Hid (∀ u, Below W.heap.size W u → Below W.heap.size W u ∧ (loadVar 29 ⟨t, 0, none⟩).run Try.prog u = .ok p u ∧ (loadVar 30 ⟨t, 1, none⟩).run Try.prog u = .ok (.pointer none) u) :=
    fun u hu => ⟨hu, run_loadRel (HN.out.below (hu)).c0, run_loadRef (HN.out.below (hu)).c1⟩
  have HC : Hid (∀ u, Below W.heap.size W u → Calls Try.prog 6 #[p] u fun e w' => e = .returned (.pointer none) ∧ w' = u) := fun u hu => clone_no (HN.out.below (hu)).no
  refine region_once ?_
  apply Exists.intro
  apply Exists.intro
  refine ⟨?_, ?_⟩
  · go_region_held3 (fun u => Below W.heap.size W u ∧ (loadVar 29 ⟨t, 0, none⟩).run Try.prog u = .ok p u ∧ (loadVar 30 ⟨t, 1, none⟩).run Try.prog u = .ok (.pointer none) u)
      (first | assumption | exact HS.out _ hB0 | exact HS.out _ (belowA _).drew | fail)
      (first
        | (go_at_call 6; refine (HC.out _ (by first | exact hB0 | exact (belowA _).drew)).mono ?_; rintro ee w2 ⟨rfl, rfl⟩)
        | (go_at_call 43; refine (rclone_nil _).mono ?_; rintro ee w2 ⟨rfl, rfl⟩)
        | fail)
    all_goals exact ⟨rfl, rfl, rfl⟩
  simp only [Exit.then]
  go_at_K
  clear hB0 HS HC
  have NC := Lib.hid ((bothNo_new W).below (Below.refl _ _).drew)
  have HB1 : Hid (Below W.heap.size W (W.alloc (.cells #[.pointer none, .pointer none, .nilFunc, .int .i64 0, .int .i64 0] 34)).drew) := (belowA _).drew
  generalize (W.alloc (.cells #[.pointer none, .pointer none, .nilFunc, .int .i64 0, .int .i64 0] 34)).drew = W1 at NC HB1 ⊢
  generalize W.heap.size = tc at NC ⊢
  go_upto_region 2 with fail
  have hB0 : Below W1.heap.size W1 W1.drew := (Below.refl _ _).drew
  have HS : Hid (∀ u, Below W1.heap.size W1 u → Below W1.heap.size W1 u ∧ (loadVar 29 ⟨t, 0, none⟩).run Try.prog u = .ok p u ∧ (loadVar 30 ⟨t, 1, none⟩).run Try.prog u = .ok (.pointer none) u) :=
    fun u hu => ⟨hu, run_loadRel (HN.out.below (HB1.out.trans (hu.mono HB1.out.size))).c0, run_loadRef (HN.out.below (HB1.out.trans (hu.mono HB1.out.size))).c1⟩
  have HC : Hid (∀ u, Below W1.heap.size W1 u → Calls Try.prog 6 #[p] u fun e w' => e = .returned (.pointer none) ∧ w' = u) := fun u hu => clone_no (HN.out.below (HB1.out.trans (hu.mono HB1.out.size))).no
  refine region_once ?_
  apply Exists.intro
  apply Exists.intro
  refine ⟨?_, ?_⟩
  · go_region_held3 (fun u => Below W1.heap.size W1 u ∧ (loadVar 29 ⟨t, 0, none⟩).run Try.prog u = .ok p u ∧ (loadVar 30 ⟨t, 1, none⟩).run Try.prog u = .ok (.pointer none) u)
      (first | assumption | exact HS.out _ hB0 | exact HS.out _ (belowA _).drew | fail)
      (first
        | (go_at_call 6; refine (HC.out _ (by first | exact hB0 | exact (belowA _).drew)).mono ?_; rintro ee w2 ⟨rfl, rfl⟩)
        | (go_at_call 43; refine (rclone_nil _).mono ?_; rintro ee w2 ⟨rfl, rfl⟩)
        | fail)
    all_goals exact ⟨rfl, rfl, rfl⟩
  simp only [Exit.then]
  go_at_K
  clear hB0 HS HC
  have ND := Lib.hid ((bothNo_new W1).below (Below.refl _ _).drew)
  have HB2 : Hid (Below W1.heap.size W1 (W1.alloc (.cells #[.pointer none, .pointer none, .nilFunc, .int .i64 0, .int .i64 0] 34)).drew) := (belowA _).drew
  generalize (W1.alloc (.cells #[.pointer none, .pointer none, .nilFunc, .int .i64 0, .int .i64 0] 34)).drew = W2 at ND HB2 ⊢
  generalize W1.heap.size = td at ND ⊢
  have NC2 := Lib.hid (NC.out.below HB2.out)
  have HBB := Lib.hid (HB1.out.trans (HB2.out.mono HB1.out.size))
  have lc0 := run_loadRel NC2.out.c0
  have lc1 := run_loadRef NC2.out.c1
  have ld0 := run_loadRel ND.out.c0
  have ld1 := run_loadRef ND.out.c1
  have hrow := (O.out.below HBB.out).loadRow hr
  have O2 := Lib.hid (O.out.below HBB.out)
  have hl1 : (opL 0 1 0 0 0 r).length = 29 := opL_len _ _ _ _ _ hr
  have hst1 := store_freshOp W2 0 1 0 0 0 r hr
  have HN2 := Lib.hid (HN.out.below HBB.out)
  have HBW := Lib.hid (HB.out.trans (HBB.out.mono HB.out.size))
  clear O NC HN HB HB1 HB2 HBB
  go_upto_region 6 with (refine wpList_buildOp _ rfl 1 49 rfl r hr rfl ?_)
  clear hrow hst1 hl1 lc0 lc1 ld0 ld1
  have P1 := Lib.hid (opAt_new W2 0 1 0 0 0 r)
  have HB3 := Lib.hid (belowA (w := W2) (.cells (opL 0 1 0 0 0 r).toArray 28))
  generalize W2.alloc (.cells (opL 0 1 0 0 0 r).toArray 28) = W3 at P1 HB3 ⊢
  have hrow := (O2.out.below HB3.out).loadRow hr
  have hl4 : (opL 0 4 0 0 0 r).length = 29 := opL_len _ _ _ _ _ hr
  have hst2 := store_freshOp W3 0 4 0 0 0 r hr
  go_upto_region 7 with (refine wpList_buildOp _ rfl 4 52 rfl r hr rfl ?_)
  clear hrow hst2 hl4
  have P2 := Lib.hid (opAt_new W3 0 4 0 0 0 r)
  have HB4 := Lib.hid (belowA (w := W3) (.cells (opL 0 4 0 0 0 r).toArray 28))
  generalize W3.alloc (.cells (opL 0 4 0 0 0 r).toArray 28) = W4 at P2 HB4 ⊢
  have hl6 : (opL 0 6 0 1099511627776 0 zeroL).length = 29 := opL_len _ _ _ _ _ rfl
  have hst3 := store_freshOp W4 0 6 0 1099511627776 0 zeroL rfl
  have P3 := Lib.hid (opAt_new W4 0 6 0 1099511627776 0 zeroL)
  have HB5 := Lib.hid (belowA (w := W4) (.cells (opL 0 6 0 1099511627776 0 zeroL).toArray 28))
  go_upto_region 8 with (refine wpList_buildWhole _ rfl rfl ?_)
  clear hst3 hl6
  generalize W4.alloc (.cells (opL 0 6 0 1099511627776 0 zeroL).toArray 28) = W5 at P3 HB5 ⊢
  have HB25 : Hid (Below W2.heap.size W2 W5) := (HB3.out.trans ((HB4.out.trans (HB5.out.mono HB4.out.size)).mono HB3.out.size))
  have HST : Hid (∀ u, Below W5.heap.size W5 u → BothNo u tc (.pointer none) ∧ BothNo u td (.pointer none) ∧ BothNo u t p ∧ OpAt u W2.heap.size 0 1 0 0 0 r ∧ OpAt u W3.heap.size 0 4 0 0 0 r ∧ OpAt u W4.heap.size 0 6 0 1099511627776 0 zeroL) := fun u hu => by
    have h2 := HB25.out.trans (hu.mono HB25.out.size)
    have h3 := (HB4.out.trans (HB5.out.mono HB4.out.size)).trans (hu.mono (Nat.le_trans HB4.out.size HB5.out.size))
    have h4 := HB5.out.trans (hu.mono HB5.out.size)
    exact ⟨NC2.out.below h2, ND.out.below h2, HN2.out.below h2, P1.out.below h3, P2.out.below h4, P3.out.below hu⟩
  have HBW5 := Lib.hid (HBW.out.trans (HB25.out.mono HBW.out.size))
  clear HB25 NC2 ND HN2 P1 P2 P3 HB3 HB4 HB5 HBW O2
  generalize W2.heap.size = b1 at HST ⊢
  generalize W3.heap.size = b2 at HST ⊢
  generalize W4.heap.size = b3 at HST ⊢
  have hx5 : Below W5.heap.size W5 W5 := Below.refl _ _
  have hld := (HST.out W5 hx5).2.2.2.1.load hr
  go_wp2_with fail
  refine (does_1 (HST.out W5 hx5).1 0 0 0 0 r hr).mono ?_
  rintro e v1 ⟨rfl, d1⟩
  clear hld
  have hy1 : Below W5.heap.size W5 v1 := hx5.trans (d1.mono hx5.size)
  clear d1
  have hld := (HST.out v1 hy1).2.2.2.2.1.load hr
  go_wp2_with fail
  refine (does_4 (HST.out v1 hy1).2.1 0 0 0 0 r hr).mono ?_
  rintro e v2 ⟨rfl, d2⟩
  clear hld
  have hy2 : Below W5.heap.size W5 v2 := hy1.trans (d2.mono hy1.size)
  clear d2
  clear hy1
  have hld := (HST.out v2 hy2).2.2.2.2.2.load rfl
  go_wp2_with fail
  refine (does_6 (HST.out v2 hy2).1 0 0 1099511627776 0 zeroL rfl).mono ?_
  rintro e v3 ⟨rfl, d3⟩
  clear hld
  have hy3 : Below W5.heap.size W5 v3 := hy2.trans (d3.mono hy2.size)
  clear d3
  clear hy2
  have hld := (HST.out v3 hy3).2.2.2.2.2.load rfl
  go_wp2_with fail
  refine (does_6 (HST.out v3 hy3).2.1 0 0 1099511627776 0 zeroL rfl).mono ?_
  rintro e v4 ⟨rfl, d4⟩
  clear hld
  have hy4 : Below W5.heap.size W5 v4 := hy3.trans (d4.mono hy3.size)
  clear d4
  clear hy3
  have hld := (HST.out v4 hy4).2.2.2.2.2.load rfl
  go_wp2_with fail
  refine (does_6 (HST.out v4 hy4).2.2.1 0 0 1099511627776 0 zeroL rfl).mono ?_
  rintro e v5 ⟨rfl, d5⟩
  clear hld
  have hy5 : Below W5.heap.size W5 v5 := hy4.trans (d5.mono hy4.size)
  clear d5
  clear hy4
  go_wp2_with fail
  refine (sizes_no (HST.out v5 hy5).1).mono ?_
  rintro e v6 ⟨rfl, d6⟩
  have hy6 : Below W5.heap.size W5 v6 := hy5.trans (d6.mono hy5.size)
  clear d6
  clear hy5
  go_wp2_with fail
  refine (sizes_no (HST.out v6 hy6).2.1).mono ?_
  rintro e v7 ⟨rfl, d7⟩
  have hy7 : Below W5.heap.size W5 v7 := hy6.trans (d7.mono hy6.size)
  clear d7
  clear hy6
  clear HST
  go_wp2
  go_ret
  exact ⟨rfl, HBW5.out.trans (hy7.mono HBW5.out.size)⟩
end Go.Proofs.Ytihngojkcacgdaa
