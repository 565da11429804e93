import Derived.Test.YtekjoccbbamehaaRelNew
namespace Go.Proofs.Ytekjoccbbamehaa
open Go.RowKit Go.Maps Go.ChangeMaps
set_option linter.unusedVariables false
set_option linter.unusedSimpArgs false
attribute [local go_sem ↓] Go.wp_at_zero Go.wp_at_succ

/-- what keep has laid: its result's block, the variable (bx), the map (m) -/
structure Kst (w : World) (bx m : Nat) (u : World) : Prop where
  bel : Below w.heap.size w u
  r0 : RL u w.heap.size 63 [.slice none 0 0, .map none]
  r1 : RL u bx 63 [.slice none 0 0, .map (some m)]
  map : MapR u m []
  ne : bx ≠ m ∧ w.heap.size < bx ∧ w.heap.size < m
theorem rl_at {w : World} (n : Nat) (hn : w.heap.size = n) (c : Array Value) (t : TypeId) : RL (w.alloc (.cells c t)) n t c.toList := hn ▸ rl_new w c t
theorem mapR_at {w : World} (n : Nat) (hn : w.heap.size = n) : MapR (w.alloc (.map #[] 0)) n [] := hn ▸ MapR.made w
theorem kst_a (w : World) : Kst w (w.heap.size + 1 + 1) (w.heap.size + 1) (((w.alloc (.cells #[.slice none 0 0, .map none] 63)).alloc (.map #[] 0)).alloc (.cells #[.slice none 0 0, .map (some (w.heap.size + 1))] 63)).drew := by
  have k : ∀ (u : World) (o : Obj), Below u.heap.size u (u.alloc o) := fun u o => (Below.refl _ _).alloc (Nat.le_refl _) o
  refine ⟨((((Below.refl _ _).alloc (Nat.le_refl _) _).alloc (by simp) _).alloc (by simp; omega) _).drew, ?_, ?_, ?_, by omega⟩
  · exact ((((rl_new w #[.slice none 0 0, .map none] 63).below (k _ _)).below (k _ _)).below (Below.refl _ _).drew)
  · exact (rl_at (w.heap.size + 1 + 1) (by simp) #[.slice none 0 0, .map (some (w.heap.size + 1))] 63).below (Below.refl _ _).drew
  · exact ((mapR_at (w.heap.size + 1) (by simp)).below (k _ _)).below (Below.refl _ _).drew
theorem kst_b (w : World) : Kst w (w.heap.size + 1) (w.heap.size + 1 + 1) (((w.alloc (.cells #[.slice none 0 0, .map none] 63)).alloc (.cells #[.slice none 0 0, .map (some (w.heap.size + 1 + 1))] 63)).alloc (.map #[] 0)).drew := by
  have k : ∀ (u : World) (o : Obj), Below u.heap.size u (u.alloc o) := fun u o => (Below.refl _ _).alloc (Nat.le_refl _) o
  refine ⟨((((Below.refl _ _).alloc (Nat.le_refl _) _).alloc (by simp) _).alloc (by simp; omega) _).drew, ?_, ?_, ?_, by omega⟩
  · exact ((((rl_new w #[.slice none 0 0, .map none] 63).below (k _ _)).below (k _ _)).below (Below.refl _ _).drew)
  · exact ((rl_at (w.heap.size + 1) (by simp) #[.slice none 0 0, .map (some (w.heap.size + 1 + 1))] 63).below (k _ _)).below (Below.refl _ _).drew
  · exact (mapR_at (w.heap.size + 1 + 1) (by simp)).below (Below.refl _ _).drew
set_option maxHeartbeats 1600000 in
set_option maxRecDepth 100000 in
theorem keep_nil (w : World) : Calls Try.prog 33 #[.slice none 0 0] w fun e w' => ∃ m, e = .returned (.agg #[.slice none 0 0, .map (some m)]) ∧ MapR w' m [] ∧ w.heap.size ≤ m ∧ Below w.heap.size w w' := by
  have hmm := makeMapR
  go_enter Try.func33, Try.ntmps33
  go_upto_region 1 with fail
  go_region_law (
    refine step_call rfl 42 Try.func42 (by kernel_rfl) (by kernel_rfl) #[.tmp 4] _ rfl #[.slice none 0 0] (by simp [Act.eval, Act.put]) (cloneRows_nil _) ?_
    rintro ee w2 ⟨rfl, rfl⟩
    refine ⟨_, rfl, ?_⟩)
  all_goals
    go_wp2_with fail
  · have HK := Lib.hid (kst_a w)
    generalize (((w.alloc (.cells #[.slice none 0 0, .map none] 63)).alloc (.map #[] 0)).alloc (.cells #[.slice none 0 0, .map (some (w.heap.size + 1))] 63)).drew = U at HK ⊢
    refine (number_nil HK.out.r1 HK.out.map HK.out.ne.1).mono ?_
    rintro e w3 ⟨⟨u, rfl⟩, hm3, ht3⟩
    have gr := ht3.grown
    have r0 : RL w3 w.heap.size 63 [.slice none 0 0, .map none] := World.rowIs.of_block HK.out.r0 (gr.block _ (World.rowIs.lt HK.out.r0) (fun e => by have := HK.out.ne.2.2; have := Option.some.inj e; omega))
    have r1 : RL w3 (w.heap.size + 1 + 1) 63 [.slice none 0 0, .map (some (w.heap.size + 1))] := World.rowIs.of_block HK.out.r1 (gr.block _ (World.rowIs.lt HK.out.r1) (fun e => HK.out.ne.1 (Option.some.inj e)))
    have b3 : Below w.heap.size w w3 := HK.out.bel.grown gr HK.out.bel.size (fun j hj => by have := Option.some.inj hj; have := HK.out.ne.2.2; omega)
    have x0 := r1.at (j := 0) rfl
    have x1 := r1.at (j := 1) rfl
    have z0 := r0.at (j := 0) rfl
    have z1 := r0.at (j := 1) rfl
    have f0 := World.rowIs.frozen r0 0
    have f1 := World.rowIs.frozen r0 1
    have HR0 := Lib.hid r0
    have HM3 := Lib.hid hm3
    have HB3 := Lib.hid b3
    clear HK ht3 gr r0 r1 hm3 b3 hmm
    go_wp2
    have hfin := ((HR0.out.set 0 (.slice none 0 0)).set 1 (.map (some (w.heap.size + 1))))
    refine bodyPost_ret (rl_results Try.results33 (v := .agg #[.slice none 0 0, .map (some (w.heap.size + 1))]) rfl (run_loadVar_mid _ _ 0 63 [.slice none 0 0, .map (some (w.heap.size + 1))] _ (RL.range hfin) Try.underlying63 rfl (by kernel_rfl))) rfl ⟨w.heap.size + 1, rfl, ?_, by omega, ?_⟩
    · exact HM3.out.of_block (by rw [heap_setCell_other _ _ _ _ (by show w.heap.size + 1 ≠ w.heap.size; omega), heap_setCell_other _ _ _ _ (by show w.heap.size + 1 ≠ w.heap.size; omega)])
    · exact (HB3.out.setCell (p := ⟨w.heap.size, 0, none⟩) (Nat.le_refl _) _).setCell (p := ⟨w.heap.size, 1, none⟩) (Nat.le_refl _) _
  · have HK := Lib.hid (kst_b w)
    generalize (((w.alloc (.cells #[.slice none 0 0, .map none] 63)).alloc (.cells #[.slice none 0 0, .map (some (w.heap.size + 1 + 1))] 63)).alloc (.map #[] 0)).drew = U at HK ⊢
    refine (number_nil HK.out.r1 HK.out.map HK.out.ne.1).mono ?_
    rintro e w3 ⟨⟨u, rfl⟩, hm3, ht3⟩
    have gr := ht3.grown
    have r0 : RL w3 w.heap.size 63 [.slice none 0 0, .map none] := World.rowIs.of_block HK.out.r0 (gr.block _ (World.rowIs.lt HK.out.r0) (fun e => by have := HK.out.ne.2.2; have := Option.some.inj e; omega))
    have r1 : RL w3 (w.heap.size + 1) 63 [.slice none 0 0, .map (some (w.heap.size + 1 + 1))] := World.rowIs.of_block HK.out.r1 (gr.block _ (World.rowIs.lt HK.out.r1) (fun e => HK.out.ne.1 (Option.some.inj e)))
    have b3 : Below w.heap.size w w3 := HK.out.bel.grown gr HK.out.bel.size (fun j hj => by have := Option.some.inj hj; have := HK.out.ne.2.2; omega)
    have x0 := r1.at (j := 0) rfl
    have x1 := r1.at (j := 1) rfl
    have z0 := r0.at (j := 0) rfl
    have z1 := r0.at (j := 1) rfl
    have f0 := World.rowIs.frozen r0 0
    have f1 := World.rowIs.frozen r0 1
    have HR0 := Lib.hid r0
    have HM3 := Lib.hid hm3
    have HB3 := Lib.hid b3
    clear HK ht3 gr r0 r1 hm3 b3 hmm
    go_wp2
    have hfin := ((HR0.out.set 0 (.slice none 0 0)).set 1 (.map (some (w.heap.size + 1 + 1))))
    refine bodyPost_ret (rl_results Try.results33 (v := .agg #[.slice none 0 0, .map (some (w.heap.size + 1 + 1))]) rfl (run_loadVar_mid _ _ 0 63 [.slice none 0 0, .map (some (w.heap.size + 1 + 1))] _ (RL.range hfin) Try.underlying63 rfl (by kernel_rfl))) rfl ⟨w.heap.size + 1 + 1, rfl, ?_, by omega, ?_⟩
    · exact HM3.out.of_block (by rw [heap_setCell_other _ _ _ _ (by show w.heap.size + 1 + 1 ≠ w.heap.size; omega), heap_setCell_other _ _ _ _ (by show w.heap.size + 1 + 1 ≠ w.heap.size; omega)])
    · exact (HB3.out.setCell (p := ⟨w.heap.size, 0, none⟩) (Nat.le_refl _) _).setCell (p := ⟨w.heap.size, 1, none⟩) (Nat.le_refl _) _
  · have HK := Lib.hid (kst_a w)
    generalize (((w.alloc (.cells #[.slice none 0 0, .map none] 63)).alloc (.map #[] 0)).alloc (.cells #[.slice none 0 0, .map (some (w.heap.size + 1))] 63)).drew = U at HK ⊢
    refine (number_nil HK.out.r1 HK.out.map HK.out.ne.1).mono ?_
    rintro e w3 ⟨⟨u, rfl⟩, hm3, ht3⟩
    have gr := ht3.grown
    have r0 : RL w3 w.heap.size 63 [.slice none 0 0, .map none] := World.rowIs.of_block HK.out.r0 (gr.block _ (World.rowIs.lt HK.out.r0) (fun e => by have := HK.out.ne.2.2; have := Option.some.inj e; omega))
    have r1 : RL w3 (w.heap.size + 1 + 1) 63 [.slice none 0 0, .map (some (w.heap.size + 1))] := World.rowIs.of_block HK.out.r1 (gr.block _ (World.rowIs.lt HK.out.r1) (fun e => HK.out.ne.1 (Option.some.inj e)))
    have b3 : Below w.heap.size w w3 := HK.out.bel.grown gr HK.out.bel.size (fun j hj => by have := Option.some.inj hj; have := HK.out.ne.2.2; omega)
    have x0 := r1.at (j := 0) rfl
    have x1 := r1.at (j := 1) rfl
    have z0 := r0.at (j := 0) rfl
    have z1 := r0.at (j := 1) rfl
    have f0 := World.rowIs.frozen r0 0
    have f1 := World.rowIs.frozen r0 1
    have HR0 := Lib.hid r0
    have HM3 := Lib.hid hm3
    have HB3 := Lib.hid b3
    clear HK ht3 gr r0 r1 hm3 b3 hmm
    go_wp2
    have hfin := ((HR0.out.set 0 (.slice none 0 0)).set 1 (.map (some (w.heap.size + 1))))
    refine bodyPost_ret (rl_results Try.results33 (v := .agg #[.slice none 0 0, .map (some (w.heap.size + 1))]) rfl (run_loadVar_mid _ _ 0 63 [.slice none 0 0, .map (some (w.heap.size + 1))] _ (RL.range hfin) Try.underlying63 rfl (by kernel_rfl))) rfl ⟨w.heap.size + 1, rfl, ?_, by omega, ?_⟩
    · exact HM3.out.of_block (by rw [heap_setCell_other _ _ _ _ (by show w.heap.size + 1 ≠ w.heap.size; omega), heap_setCell_other _ _ _ _ (by show w.heap.size + 1 ≠ w.heap.size; omega)])
    · exact (HB3.out.setCell (p := ⟨w.heap.size, 0, none⟩) (Nat.le_refl _) _).setCell (p := ⟨w.heap.size, 1, none⟩) (Nat.le_refl _) _
  · have HK := Lib.hid (kst_a w)
    generalize (((w.alloc (.cells #[.slice none 0 0, .map none] 63)).alloc (.map #[] 0)).alloc (.cells #[.slice none 0 0, .map (some (w.heap.size + 1))] 63)).drew = U at HK ⊢
    refine (number_nil HK.out.r1 HK.out.map HK.out.ne.1).mono ?_
    rintro e w3 ⟨⟨u, rfl⟩, hm3, ht3⟩
    have gr := ht3.grown
    have r0 : RL w3 w.heap.size 63 [.slice none 0 0, .map none] := World.rowIs.of_block HK.out.r0 (gr.block _ (World.rowIs.lt HK.out.r0) (fun e => by have := HK.out.ne.2.2; have := Option.some.inj e; omega))
    have r1 : RL w3 (w.heap.size + 1 + 1) 63 [.slice none 0 0, .map (some (w.heap.size + 1))] := World.rowIs.of_block HK.out.r1 (gr.block _ (World.rowIs.lt HK.out.r1) (fun e => HK.out.ne.1 (Option.some.inj e)))
    have b3 : Below w.heap.size w w3 := HK.out.bel.grown gr HK.out.bel.size (fun j hj => by have := Option.some.inj hj; have := HK.out.ne.2.2; omega)
    have x0 := r1.at (j := 0) rfl
    have x1 := r1.at (j := 1) rfl
    have z0 := r0.at (j := 0) rfl
    have z1 := r0.at (j := 1) rfl
    have f0 := World.rowIs.frozen r0 0
    have f1 := World.rowIs.frozen r0 1
    have HR0 := Lib.hid r0
    have HM3 := Lib.hid hm3
    have HB3 := Lib.hid b3
    clear HK ht3 gr r0 r1 hm3 b3 hmm
    go_wp2
    have hfin := ((HR0.out.set 0 (.slice none 0 0)).set 1 (.map (some (w.heap.size + 1))))
    refine bodyPost_ret (rl_results Try.results33 (v := .agg #[.slice none 0 0, .map (some (w.heap.size + 1))]) rfl (run_loadVar_mid _ _ 0 63 [.slice none 0 0, .map (some (w.heap.size + 1))] _ (RL.range hfin) Try.underlying63 rfl (by kernel_rfl))) rfl ⟨w.heap.size + 1, rfl, ?_, by omega, ?_⟩
    · exact HM3.out.of_block (by rw [heap_setCell_other _ _ _ _ (by show w.heap.size + 1 ≠ w.heap.size; omega), heap_setCell_other _ _ _ _ (by show w.heap.size + 1 ≠ w.heap.size; omega)])
    · exact (HB3.out.setCell (p := ⟨w.heap.size, 0, none⟩) (Nat.le_refl _) _).setCell (p := ⟨w.heap.size, 1, none⟩) (Nat.le_refl _) _
  · have HK := Lib.hid (kst_b w)
    generalize (((w.alloc (.cells #[.slice none 0 0, .map none] 63)).alloc (.cells #[.slice none 0 0, .map (some (w.heap.size + 1 + 1))] 63)).alloc (.map #[] 0)).drew = U at HK ⊢
    refine (number_nil HK.out.r1 HK.out.map HK.out.ne.1).mono ?_
    rintro e w3 ⟨⟨u, rfl⟩, hm3, ht3⟩
    have gr := ht3.grown
    have r0 : RL w3 w.heap.size 63 [.slice none 0 0, .map none] := World.rowIs.of_block HK.out.r0 (gr.block _ (World.rowIs.lt HK.out.r0) (fun e => by have := HK.out.ne.2.2; have := Option.some.inj e; omega))
    have r1 : RL w3 (w.heap.size + 1) 63 [.slice none 0 0, .map (some (w.heap.size + 1 + 1))] := World.rowIs.of_block HK.out.r1 (gr.block _ (World.rowIs.lt HK.out.r1) (fun e => HK.out.ne.1 (Option.some.inj e)))
    have b3 : Below w.heap.size w w3 := HK.out.bel.grown gr HK.out.bel.size (fun j hj => by have := Option.some.inj hj; have := HK.out.ne.2.2; omega)
    have x0 := r1.at (j := 0) rfl
    have x1 := r1.at (j := 1) rfl
    have z0 := r0.at (j := 0) rfl
    have z1 := r0.at (j := 1) rfl
    have f0 := World.rowIs.frozen r0 0
    have f1 := World.rowIs.frozen r0 1
    have HR0 := Lib.hid r0
    have HM3 := Lib.hid hm3
    have HB3 := Lib.hid b3
    clear HK ht3 gr r0 r1 hm3 b3 hmm
    go_wp2
    have hfin := ((HR0.out.set 0 (.slice none 0 0)).set 1 (.map (some (w.heap.size + 1 + 1))))
    refine bodyPost_ret (rl_results Try.results33 (v := .agg #[.slice none 0 0, .map (some (w.heap.size + 1 + 1))]) rfl (run_loadVar_mid _ _ 0 63 [.slice none 0 0, .map (some (w.heap.size + 1 + 1))] _ (RL.range hfin) Try.underlying63 rfl (by kernel_rfl))) rfl ⟨w.heap.size + 1 + 1, rfl, ?_, by omega, ?_⟩
    · exact HM3.out.of_block (by rw [heap_setCell_other _ _ _ _ (by show w.heap.size + 1 + 1 ≠ w.heap.size; omega), heap_setCell_other _ _ _ _ (by show w.heap.size + 1 + 1 ≠ w.heap.size; omega)])
    · exact (HB3.out.setCell (p := ⟨w.heap.size, 0, none⟩) (Nat.le_refl _) _).setCell (p := ⟨w.heap.size, 1, none⟩) (Nat.le_refl _) _
  · have HK := Lib.hid (kst_b w)
    generalize (((w.alloc (.cells #[.slice none 0 0, .map none] 63)).alloc (.cells #[.slice none 0 0, .map (some (w.heap.size + 1 + 1))] 63)).alloc (.map #[] 0)).drew = U at HK ⊢
    refine (number_nil HK.out.r1 HK.out.map HK.out.ne.1).mono ?_
    rintro e w3 ⟨⟨u, rfl⟩, hm3, ht3⟩
    have gr := ht3.grown
    have r0 : RL w3 w.heap.size 63 [.slice none 0 0, .map none] := World.rowIs.of_block HK.out.r0 (gr.block _ (World.rowIs.lt HK.out.r0) (fun e => by have := HK.out.ne.2.2; have := Option.some.inj e; omega))
    have r1 : RL w3 (w.heap.size + 1) 63 [.slice none 0 0, .map (some (w.heap.size + 1 + 1))] := World.rowIs.of_block HK.out.r1 (gr.block _ (World.rowIs.lt HK.out.r1) (fun e => HK.out.ne.1 (Option.some.inj e)))
    have b3 : Below w.heap.size w w3 := HK.out.bel.grown gr HK.out.bel.size (fun j hj => by have := Option.some.inj hj; have := HK.out.ne.2.2; omega)
    have x0 := r1.at (j := 0) rfl
    have x1 := r1.at (j := 1) rfl
    have z0 := r0.at (j := 0) rfl
    have z1 := r0.at (j := 1) rfl
    have f0 := World.rowIs.frozen r0 0
    have f1 := World.rowIs.frozen r0 1
    have HR0 := Lib.hid r0
    have HM3 := Lib.hid hm3
    have HB3 := Lib.hid b3
    clear HK ht3 gr r0 r1 hm3 b3 hmm
    go_wp2
    have hfin := ((HR0.out.set 0 (.slice none 0 0)).set 1 (.map (some (w.heap.size + 1 + 1))))
    refine bodyPost_ret (rl_results Try.results33 (v := .agg #[.slice none 0 0, .map (some (w.heap.size + 1 + 1))]) rfl (run_loadVar_mid _ _ 0 63 [.slice none 0 0, .map (some (w.heap.size + 1 + 1))] _ (RL.range hfin) Try.underlying63 rfl (by kernel_rfl))) rfl ⟨w.heap.size + 1 + 1, rfl, ?_, by omega, ?_⟩
    · exact HM3.out.of_block (by rw [heap_setCell_other _ _ _ _ (by show w.heap.size + 1 + 1 ≠ w.heap.size; omega), heap_setCell_other _ _ _ _ (by show w.heap.size + 1 + 1 ≠ w.heap.size; omega)])
    · exact (HB3.out.setCell (p := ⟨w.heap.size, 0, none⟩) (Nat.le_refl _) _).setCell (p := ⟨w.heap.size, 1, none⟩) (Nat.le_refl _) _
end Go.Proofs.Ytekjoccbbamehaa
