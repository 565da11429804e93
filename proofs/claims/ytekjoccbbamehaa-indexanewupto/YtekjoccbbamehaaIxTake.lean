import Derived.Test.YtekjoccbbamehaaIxPush
import Derived.Test.YtekjoccbbamehaaIxReg
namespace Go.Proofs.Ytekjoccbbamehaa
open Go.RowKit Go.Maps
set_option linter.unusedVariables false
set_option linter.unusedSimpArgs false
attribute [local go_sem ↓] Go.wp_at_zero Go.wp_at_succ
attribute [-go_sem] loadVar storeVar

theorem load_mapX {u : World} {a : Addr} {v : Value} (h : u.cell? a = some v) : (loadVar 72 a).run Try.prog u = .ok v u := by rw [loadVar.eq_1]; go_simp
theorem load_intX {u : World} {a : Addr} {v : Value} (h : u.cell? a = some v) : (loadVar 3 a).run Try.prog u = .ok v u := by rw [loadVar.eq_1]; go_simp
theorem load_maskX {u : World} {a : Addr} {v : Value} (h : u.cell? a = some v) : (loadVar 24 a).run Try.prog u = .ok v u := by rw [loadVar.eq_1]; go_simp
theorem store_intX {u : World} {b k : Nat} {l : List Value} {y : Int} (h : RL u b 74 l) (hk : l[k]? = some (.int .i64 y)) (z : Int) : (storeVar 3 ⟨b, k, none⟩ (.int .i64 z)).run Try.prog u = .ok () (u.setCell ⟨b, k, none⟩ (.int .i64 z)) := by
  have c := RL.at h hk
  have f := World.rowIs.frozen h k
  rw [storeVar.eq_1]
  go_simp
theorem store_rowX (u : World) (r : List Int) (hl : r.length = 24) : (storeVar 34 ⟨u.heap.size, 0, none⟩ (.agg (List.map cellI r).toArray)).run Try.prog (u.alloc (.cells #[.int .i32 0, .int .i32 0, .int .i32 0, .int .i32 0, .int .i32 0, .int .i32 0, .int .i32 0, .int .i32 0, .int .i32 0, .int .i32 0, .int .i32 0, .int .i32 0, .int .i32 0, .int .i32 0, .int .i32 0, .int .i32 0, .int .i32 0, .int .i32 0, .int .i32 0, .int .i32 0, .int .i32 0, .int .i32 0, .int .i32 0, .int .i32 0] 34)) = .ok () (u.alloc (.cells (rowC r) 34)) :=
  run_storeVar_new u 34 #[.int .i32 0, .int .i32 0, .int .i32 0, .int .i32 0, .int .i32 0, .int .i32 0, .int .i32 0, .int .i32 0, .int .i32 0, .int .i32 0, .int .i32 0, .int .i32 0, .int .i32 0, .int .i32 0, .int .i32 0, .int .i32 0, .int .i32 0, .int .i32 0, .int .i32 0, .int .i32 0, .int .i32 0, .int .i32 0, .int .i32 0, .int .i32 0] (List.map cellI r).toArray (by rw [infoRow]; simp [hl]) (by simp [hl]) (by simp [cellI, Value.oneCell'])
set_option maxHeartbeats 3200000 in
set_option maxRecDepth 100000 in
theorem take_ix {w : World} {B x b : Nat} {m : Int} {G : Grp} {vs : List Value} {n : Nat} {gone : Int} (h : Ix w B x b m G vs n gone) (hB : B ≤ w.heap.size) {rb : Nat} {r : List Int} (hr : RowAt w rb r) (hok : RowOk r) (hn : ∀ p ∈ G, p.2.length ≤ 1000000000) (hn2 : n ≤ 1000000000) :
    Calls Try.prog 47 #[.pointer (some ⟨x, 0, none⟩), .pointer (some ⟨rb, 0, none⟩)] w fun e w' => (∃ u, e = .returned u) ∧ ∃ vs', Ix w' B x b m (addK G (underL m r) n) vs' (n + 1) gone ∧ Tx (FX x b vs) w w' ∧ ∀ v ∈ vs', ∀ g, v.ownBlock = some g → (∃ u ∈ vs, u.ownBlock = some g) ∨ w.heap.size ≤ g := by
  have HC := Lib.hid (key_any m r hok.len rb w hr)
  have HKO := Lib.hid (underL_ok (m := m) hok)
  have lm := load_maskX (RL.at h.rl (j := 0) rfl)
  have HH := Lib.hid h
  have HB := Lib.hid hB
  have HN := Lib.hid hn
  clear h hr hok hB hn
  generalize underL m r = k at HC HKO ⊢
  unfold rowV at HC
  go_enter Try.func47, Try.ntmps47
  go_wp2_with fail
  refine HC.out.mono ?_
  rintro e w1 ⟨rfl, b1⟩
  have hst := store_rowX w1 k HKO.out.len
  obtain ⟨U, hU⟩ : ∃ U, U = w1.alloc (.cells (rowC k) 34) := ⟨_, rfl⟩
  have b2 : Below w1.heap.size w1 U := by rw [hU]; exact (Below.refl _ _).alloc (Nat.le_refl _) _
  have HBU : Hid (Below w.heap.size w U) := b1.trans (b2.mono b1.size)
  have HRK : Hid (RowAt U w1.heap.size k) := by
    show RowAt _ _ _
    rw [hU]
    exact rowAt_new w1 k
  have HI : Hid (Ix U B x b m G vs n gone) := HH.out.keep HBU.out
  have HKB : Hid (w.heap.size ≤ w1.heap.size) := b1.size
  rw [← hU] at hst
  clear HC b1 b2 lm hU
  go_upto_region 1 with fail
  clear hst
  obtain ⟨st, v, w2, nv, w3, w4, vs', hme, hap, hes, hpu⟩ := HI.out.push (Nat.le_trans HB.out HBU.out.size) HKO.out HN.out
  have HPU := Lib.hid hpu
  -- what the struct and the key's box keep
  have HS : Hid (∀ u, Tx (fun k => k = b ∨ ∃ v ∈ vs, v.ownBlock = some k) U u → RL u x 74 [.int .u32 m, .map (some b), .int .i64 (n : Int), .int .i64 gone] ∧ RowAt u w1.heap.size k) := fun u hu => by
    have hx : x < U.heap.size := World.rowIs.lt HI.out.rl
    refine ⟨World.rowIs.of_block HI.out.rl (hu.block x hx (fun e => ?_)), (hu.block _ HRK.out.lt (fun e => ?_)).trans HRK.out⟩
    · rcases e with e | ⟨v, hv, e⟩
      · exact HI.out.lo.2.2 e
      · exact (HI.out.ne v hv).1 e
    · rcases e with e | ⟨v, hv, e⟩
      · have := HH.out.map.blt
        have := HKB.out
        omega
      · have := (HH.out.own_lt hv e).2
        have := HKB.out
        omega
  have HB0 : Hid (RL U.drew x 74 [.int .u32 m, .map (some b), .int .i64 (n : Int), .int .i64 gone] ∧ RowAt U.drew w1.heap.size k) := HS.out _ (Tx.of_below (Below.refl _ _).drew)
  have HB1 : Hid (RL (U.drew.alloc (.cells #[.int .i64 (n : Int)] 3)) x 74 [.int .u32 m, .map (some b), .int .i64 (n : Int), .int .i64 gone] ∧ RowAt (U.drew.alloc (.cells #[.int .i64 (n : Int)] 3)) w1.heap.size k) := HS.out _ (Tx.of_below ((Below.refl U.heap.size U).drew.trans ((Below.refl U.drew.heap.size U.drew).alloc (Nat.le_refl _) _)))
  have HME := Lib.hid hme
  have HAP := Lib.hid hap
  have HES := Lib.hid hes
  clear hme hap hes hpu
  unfold rowV at HME
  refine wp_region_noPanic ?_
  refine wp_region_held (S := fun u => RL u x 74 [.int .u32 m, .map (some b), .int .i64 (n : Int), .int .i64 gone] ∧ RowAt u w1.heap.size k) (by kernel_rfl) ?_
  refine ixtake (w5 := U) (S := fun u => RL u x 74 [.int .u32 m, .map (some b), .int .i64 (n : Int), .int .i64 gone] ∧ RowAt u w1.heap.size k) (x := x) (kb := w1.heap.size) (b := b) (n := n) (st := st) (ka := (List.map cellI k).toArray) (v := v) (nv := nv) (w2 := w2) (w3 := w3) (w4 := w4) rfl rfl rfl rfl rfl rfl rfl rfl rfl rfl rfl rfl rfl rfl rfl (by kernel_rfl) (by kernel_rfl) (by kernel_rfl) (by kernel_rfl) (by kernel_rfl) (by kernel_rfl) (by kernel_rfl) (fun _ _ _ _ _ h => h) (by simp) rfl rfl HB0.out rfl (fun u hu => load_mapX (RL.at hu.1 (j := 1) rfl)) (fun u hu => run_loadRow hu.2 HKO.out.len) (fun u hu => load_intX (RL.at hu.1 (j := 2) rfl)) HB1.out HME.out (HS.out _ HPU.out.t2) HAP.out (HS.out _ HPU.out.t3) HES.out (HS.out _ HPU.out.t4) ?_
  rintro wc rfl
  refine NoPanic.normal ?_
  rename_i hK
  refine hK _ _ ?_
  have HRL := Lib.hid (HS.out _ HPU.out.t4).1
  have ls := load_intX (RL.at HRL.out (j := 2) rfl)
  have hss := store_intX HRL.out (k := 2) rfl ((n : Int) + 1)
  have hnw : IntKind.i64.wrap ((n : Int) + 1) = (n : Int) + 1 := by rw [IntKind.wrap_i64]; omega
  have HFI : Hid (∃ vs', Ix (wc.setCell ⟨x, 2, none⟩ (.int .i64 ((n : Int) + 1))) B x b m (addK G k n) vs' (n + 1) gone ∧ Tx (FX x b vs) w (wc.setCell ⟨x, 2, none⟩ (.int .i64 ((n : Int) + 1))) ∧ ∀ v ∈ vs', ∀ g, v.ownBlock = some g → (∃ u ∈ vs, u.ownBlock = some g) ∨ w.heap.size ≤ g) := by
    have p := HPU.out
    have hoth : ∀ g, g ≠ x → (wc.setCell ⟨x, 2, none⟩ (.int .i64 ((n : Int) + 1))).heap[g]? = wc.heap[g]? := fun g hg => heap_setCell_other _ _ _ _ hg
    refine ⟨vs', ⟨?_, p.map.of_block (hoth b (fun e => HI.out.lo.2.2 e.symm)), p.len, addK_nodup HI.out.nd _ _, fun i q l v h1 h2 => own_of_block (p.own i q l v h1 h2) (fun g hg => hoth g (fun e => (p.ne v (List.mem_of_getElem? h2)).1 (by rw [hg, e]))), HI.out.lo, p.ne, p.dj⟩, ?_, fun v hv g hg => (p.nw v hv g hg).imp id (fun e => Nat.le_trans HBU.out.size e)⟩
    · exact HRL.out.set 2 _
    · have t1 : Tx (FX x b vs) w U := Tx.of_below HBU.out
      have t2 : Tx (FX x b vs) w wc := t1.trans p.t4 (fun k _ e => .inr e)
      exact ⟨t2.os, t2.tape, t2.output, by simp only [World.size_setCell]; exact t2.size, fun g hg hne => (hoth g (fun e => hne (.inl e))).trans (t2.block g hg hne)⟩
  clear HPU HRL HS HB0 HB1 HME HAP HES HI HH hK HRK HBU HKB HB HN HKO
  simp (config := { maxSteps := 8000000 }) only [Act.put, List.getElem_toArray, List.getElem_cons_zero, List.getElem_cons_succ, List.setIfInBounds_toArray, List.set_cons_succ, List.set_cons_zero]
  go_wp2
  go_end0
  exact ⟨⟨_, rfl⟩, HFI.out⟩
set_option maxHeartbeats 1600000 in
set_option maxRecDepth 100000 in
theorem empty_ix {w : World} {B x b : Nat} {m : Int} {G : Grp} {vs : List Value} {n : Nat} {gone : Int} (h : Ix w B x b m G vs n gone) :
    Calls Try.prog 45 #[.pointer (some ⟨x, 0, none⟩)] w fun e w' => (∃ u, e = .returned u) ∧ Ix w' B x b m [] [] 0 gone ∧ Tx (FX x b []) w w' := by
  obtain ⟨w1, hcl, hm1, hT⟩ := h.map.cleared 0
  have t1 := tx_turned hT
  have hx : x < w.heap.size := World.rowIs.lt h.rl
  have hr1 : RL w1 x 74 [.int .u32 m, .map (some b), .int .i64 (n : Int), .int .i64 gone] := World.rowIs.of_block h.rl (t1.block x hx h.lo.2.2)
  have hss := store_intX hr1 (k := 2) rfl 0
  have lm := load_mapX (RL.at h.rl (j := 1) rfl)
  have HFI : Hid (Ix (w1.setCell ⟨x, 2, none⟩ (.int .i64 0)) B x b m [] [] 0 gone ∧ Tx (FX x b []) w (w1.setCell ⟨x, 2, none⟩ (.int .i64 0))) := by
    have hoth : ∀ g, g ≠ x → (w1.setCell ⟨x, 2, none⟩ (.int .i64 0)).heap[g]? = w1.heap[g]? := fun g hg => heap_setCell_other _ _ _ _ hg
    refine ⟨⟨hr1.set 2 _, hm1.of_block (hoth b (fun e => h.lo.2.2 e.symm)), rfl, by simp, fun i k l v h1 _ => (by simp at h1), h.lo, fun v hv => (by cases hv), fun i j u v g h1 _ _ _ => (by simp at h1)⟩, t1.os, t1.tape, t1.output, by simp only [World.size_setCell]; exact t1.size, fun g hg hne => (hoth g (fun e => hne (.inl e))).trans (t1.block g hg (fun e => hne (.inr (.inl e))))⟩
  clear h hm1 hT t1 hr1
  go_enter Try.func45, Try.ntmps45
  go_wp2
  go_end0
  exact ⟨⟨_, rfl⟩, HFI.out⟩
end Go.Proofs.Ytekjoccbbamehaa
