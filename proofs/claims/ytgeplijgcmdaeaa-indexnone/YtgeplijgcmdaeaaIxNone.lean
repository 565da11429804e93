import Derived.Test.YtgeplijgcmdaeaaIxAsks
namespace Go.Proofs.Ytgeplijgcmdaeaa
open Go.RowKit Go.Maps Go.ChangeMaps
set_option linter.unusedVariables false
set_option linter.unusedSimpArgs false
attribute [local go_sem ↓] Go.wp_at_zero Go.wp_at_succ

attribute [-go_sem] loadVar
theorem infoOp : (Try.prog.info? 28).map (fun i => i.size) = some 28 := by kernel_rfl
theorem op_len (k on bo m : Int) (r : List Int) (hr : r.length = 24) : (opC k on bo m r).toList.length = 28 := by simp [opC, hr]
theorem load_op {w : World} {b : Nat} {k on bo m : Int} {r : List Int} (h : RL w b 28 (opC k on bo m r).toList) (hr : r.length = 24) :
    (loadVar 28 ⟨b, 0, none⟩).run Try.prog w = .ok (.agg (opC k on bo m r)) w := by
  have := run_loadVar_mid w b 0 28 (opC k on bo m r).toList _ (fun j v hj => by rw [Nat.zero_add]; exact RL.at h hj) Try.underlying28 rfl (by rw [op_len _ _ _ _ _ hr]; exact infoOp)
  simpa using this
theorem kb_new (w : World) : Kb (w.alloc (.cells #[.int .i64 0, .slice none 0 0, .slice none 0 0, .slice none 0 0, .slice none 0 0, .slice none 0 0, .slice none 0 0, .slice none 0 0, .slice none 0 0, .slice none 0 0, .slice none 0 0, .slice none 0 0, .slice none 0 0, .slice none 0 0, .slice none 0 0, .slice none 0 0, .slice none 0 0, .slice none 0 0, .slice none 0 0, .slice none 0 0, .slice none 0 0, .slice none 0 0, .slice none 0 0, .slice none 0 0, .slice none 0 0, .slice none 0 0, .slice none 0 0, .slice none 0 0, .slice none 0 0, .slice none 0 0, .slice none 0 0, .slice none 0 0] 63)) w.heap.size (w.heap.size + 1) 0 := by
  refine ⟨.slice none 0 0, .slice none 0 0, [], [], ⟨BK.rl_new w #[.int .i64 0, .slice none 0 0, .slice none 0 0, .slice none 0 0, .slice none 0 0, .slice none 0 0, .slice none 0 0, .slice none 0 0, .slice none 0 0, .slice none 0 0, .slice none 0 0, .slice none 0 0, .slice none 0 0, .slice none 0 0, .slice none 0 0, .slice none 0 0, .slice none 0 0, .slice none 0 0, .slice none 0 0, .slice none 0 0, .slice none 0 0, .slice none 0 0, .slice none 0 0, .slice none 0 0, .slice none 0 0, .slice none 0 0, .slice none 0 0, .slice none 0 0, .slice none 0 0, .slice none 0 0, .slice none 0 0, .slice none 0 0] 63, World.ownsRow_nil _ _ _ _, World.ownsRow_nil _ _ _ _, fun g hg => (by cases hg), Nat.lt_succ_self _⟩, Nat.le_refl _, Nat.le_refl _⟩
set_option maxHeartbeats 3200000 in
set_option maxRecDepth 100000 in
theorem indexNone_true (k on bo m : Int) (r : List Int) (hr : r.length = 24) (w : World) :
    Calls Try.prog 3 #[.agg (opC k on bo m r)] w fun e w' => e = .returned (.bool true) ∧ Below w.heap.size w w' := by
  obtain ⟨U1, hU1⟩ : ∃ U1, U1 = w.alloc (.cells (opC k on bo m r) 28) := ⟨_, rfl⟩
  have hs1 : U1.heap.size = w.heap.size + 1 := by rw [hU1]; simp
  have hop1 : RL U1 w.heap.size 28 (opC k on bo m r).toList := by rw [hU1]; exact rl_new w _ _
  have b1 : Below w.heap.size w U1 := by rw [hU1]; exact belowA _
  obtain ⟨U2, hU2⟩ : ∃ U2, U2 = U1.alloc (.cells #[.int .i64 0, .slice none 0 0, .slice none 0 0, .slice none 0 0, .slice none 0 0, .slice none 0 0, .slice none 0 0, .slice none 0 0, .slice none 0 0, .slice none 0 0, .slice none 0 0, .slice none 0 0, .slice none 0 0, .slice none 0 0, .slice none 0 0, .slice none 0 0, .slice none 0 0, .slice none 0 0, .slice none 0 0, .slice none 0 0, .slice none 0 0, .slice none 0 0, .slice none 0 0, .slice none 0 0, .slice none 0 0, .slice none 0 0, .slice none 0 0, .slice none 0 0, .slice none 0 0, .slice none 0 0, .slice none 0 0, .slice none 0 0] 63) := ⟨_, rfl⟩
  have b2 : Below U1.heap.size U1 U2 := by rw [hU2]; exact belowA _
  have hk2 : Kb U2 (w.heap.size + 1) (w.heap.size + 2) 0 := by
    have := kb_new U1
    rw [← hU2, hs1] at this
    exact this
  have HOP := Lib.hid (RL.below hop1 b2)
  have HK2 := Lib.hid hk2
  have HB2 := Lib.hid (b1.trans (b2.mono b1.size))
  have hs2 : U2.heap.size = w.heap.size + 2 := by rw [hU2]; simp [hs1]
  have HN3 := Lib.hid (new_no (NoRel.nil (w := U2)))
  have HLO : Hid (∀ u, RL u w.heap.size 28 (opC k on bo m r).toList → (loadVar 28 ⟨w.heap.size, 0, none⟩).run Try.prog u = .ok (.agg (opC k on bo m r)) u) := fun u hu => load_op hu hr
  have HAS : Hid (∀ (u : World) (p : Value) (q n : Nat), NoBk u p → NoRf u q → Kb u (w.heap.size + 1) (w.heap.size + 2) n → w.heap.size + 2 ≤ u.heap.size → n ≤ 900 → Calls Try.prog 7 #[p, .pointer (some ⟨q, 0, none⟩), .slice none 0 0, .agg (opC k on bo m r), .pointer (some ⟨w.heap.size + 1, 0, none⟩)] u fun e w' => e = .returned (.bool true) ∧ ∃ n', n' ≤ n + 2 ∧ Kb w' (w.heap.size + 1) (w.heap.size + 2) n' ∧ BK.Tch (BK.EB (w.heap.size + 1) (w.heap.size + 2)) u w') := fun u p q n h1 h2 h3 h4 h5 => asks_no h1 h2 h3 h4 h5 k on bo m r hr
  clear hop1 hk2 b1 b2
  generalize opC k on bo m r = oc at hU1 HOP HLO HAS ⊢
  go_enter Try.func3, Try.ntmps3
  go_upto_region 4 with fail
  rw [← hU1, ← hU2]
  clear hU1 hU2 hs1
  go_wp2_with fail
  refine HN3.out.mono ?_
  rintro e u3 ⟨rfl, b3⟩
  have hz3 := belowA (w := u3) (.cells #[.slice none 0 0, .map none, .int .i64 0, .int .i64 0] 72)
  have HN4 := Lib.hid (new_no (NoRel.zero (w := u3.alloc (.cells #[.slice none 0 0, .map none, .int .i64 0, .int .i64 0] 72)) u3.heap.size _ (rl_new u3 _ _)))
  have HB3 : Hid (Below U2.heap.size U2 (u3.alloc (.cells #[.slice none 0 0, .map none, .int .i64 0, .int .i64 0] 72))) := b3.trans (hz3.mono b3.size)
  clear HN3 b3 hz3
  go_wp2_with fail
  refine HN4.out.mono ?_
  rintro e u4 ⟨rfl, b4⟩
  have HB4 : Hid (Below U2.heap.size U2 u4) := HB3.out.trans (b4.mono HB3.out.size)
  obtain ⟨U5, hU5⟩ : ∃ U5, U5 = u4.alloc (.cells #[.bool false, .int .i64 0, .slice none 0 0] 77) := ⟨_, rfl⟩
  have b5 : Below u4.heap.size u4 U5 := by rw [hU5]; exact belowA _
  have HB5 : Hid (Below U2.heap.size U2 U5) := HB4.out.trans (b5.mono HB4.out.size)
  have hq5 : NoRf U5 u4.heap.size := by rw [hU5]; exact rl_new u4 _ _
  have HOP5 := Lib.hid (RL.below HOP.out HB5.out)
  have lo5 := HLO.out U5 HOP5.out
  have hs5 := HB5.out.size
  have HA6 := Lib.hid (HAS.out U5 (.pointer none) u4.heap.size 0 .nil hq5 (Kb.below HK2.out HB5.out) (by omega) (by omega))
  clear HN4 b4 HB3 HB4 b5 hq5
  subst hU5
  go_wp2_with fail
  refine HA6.out.mono ?_
  rintro e u6 ⟨rfl, n6, hn6, hk6, t6⟩
  have HOP6 : Hid (RL u6 w.heap.size 28 oc.toList) := World.rowIs.of_block HOP5.out (t6.block _ (World.rowIs.lt HOP5.out) (fun e => by rcases e with e | e <;> omega))
  have HB6 : Hid (Below w.heap.size w u6) := (HB2.out.trans (HB5.out.mono HB2.out.size)).trans (BK.Tch.below t6 (by omega) (fun g hg e => by rcases e with e | e <;> omega))
  have hs6 := t6.size
  have b7 := belowA (w := u6) (.cells #[.pointer none, .map none] 83)
  have b8 := belowA (w := u6.alloc (.cells #[.pointer none, .map none] 83)) (.cells #[.bool false, .int .i64 0, .slice none 0 0] 77)
  have b68 := b7.trans (b8.mono b7.size)
  have lo8 := HLO.out _ (RL.below HOP6.out b68)
  have hp8 := NoBk.below (NoBk.zero u6.heap.size _ (rl_new u6 #[.pointer none, .map none] 83)) b8
  have hq8 : NoRf ((u6.alloc (.cells #[.pointer none, .map none] 83)).alloc (.cells #[.bool false, .int .i64 0, .slice none 0 0] 77)) (u6.heap.size + 1) := by
    have := rl_new (u6.alloc (.cells #[.pointer none, .map none] 83)) #[.bool false, .int .i64 0, .slice none 0 0] 77
    rw [World.size_alloc] at this
    exact this
  have hs8 := b68.size
  have HA9 := Lib.hid (HAS.out _ _ _ n6 hp8 hq8 (Kb.below hk6 b68) (by omega) (by omega))
  have HB8 := Lib.hid (HB6.out.trans (b68.mono HB6.out.size))
  clear HA6 hk6 t6 HOP6 HB6 b7 b8 b68 hp8 hq8 HOP5 HB5 lo5 HK2 HB2 HOP HLO HAS
  go_wp2_with fail
  refine HA9.out.mono ?_
  rintro e u9 ⟨rfl, n9, hn9, hk9, t9⟩
  have HB9 : Hid (Below w.heap.size w u9) := HB8.out.trans (BK.Tch.below t9 HB8.out.size (fun g hg e => by rcases e with e | e <;> omega))
  clear HA9 hk9 t9 HB8 lo8
  have HL := Lib.hid (lives11_true u9)
  go_wp2_with fail
  refine HL.out.mono ?_
  rintro e u10 ⟨rfl, b10⟩
  have HB10 := Lib.hid (HB9.out.trans (b10.mono HB9.out.size))
  clear HL b10 HB9
  go_wp2
  go_ret
  exact ⟨rfl, HB10.out⟩
end Go.Proofs.Ytgeplijgcmdaeaa
