import Derived.Test.YtlnhnpfgmiffpaaG1
import Derived.Test.YtlnhnpfgmiffpaaG4
import Derived.Test.YtlnhnpfgmiffpaaG3
section
namespace Go.Proofs.Ytlnhnpfgmiffpaa
open Go.RowKit Go.Maps
set_option linter.unusedVariables false
set_option linter.unusedSimpArgs false

/-- the same, and where the list lies then -/
theorem app_rowsL {w0 w : World} {B : Nat} {o : Value} {rows1 rows2 : List (List Int)} {n : Nat} (hn : n = rows1.length) (hown : w.ownsRow B 40 24 o n (flatR rows1)) (hB : Below B w0 w) (hw : B ≤ w.heap.size) {a : Option Addr} {c : Nat} (hx : LrC w (.slice a rows2.length c) rows2) (hl : n + rows2.length ≤ 1000000000) (ty : TypeId) :
    ∃ o' w', (Builtin.append_ #[49, 49] ty #[o, .slice a rows2.length c]).run Try.prog w = .ok o' w' ∧ w'.ownsRow B 40 24 o' (n + rows2.length) (flatR (rows1 ++ rows2)) ∧ Below B w0 w' ∧ B ≤ w'.heap.size ∧ w.grownBy w' o.ownBlock ∧ (o'.ownBlock = o.ownBlock ∨ o'.ownBlock = some w.heap.size) := by
  obtain ⟨i0, hi0, hz0, hz1, hz2⟩ := info_parts infoRowQ
  by_cases h0 : rows2.length = 0
  · have hu : rows2 = [] := List.eq_nil_of_length_eq_zero h0
    subst hu
    obtain ⟨a1, c1, rfl, _⟩ := own_form hown
    have hsc : n ≤ c1 := by
      obtain ⟨_, ⟨e, hz⟩ | ⟨g, cap, cur, e, _, _, hnc, _⟩⟩ := hown
      · cases e; omega
      · cases e; exact hnc
    refine ⟨.slice a1 n c1, w, ?_, by simpa using hown, hB, hw, ⟨rfl, rfl, rfl, Nat.le_refl _, fun _ _ _ => rfl⟩, .inl rfl⟩
    exact run_append_nothing w _ _ ty _ i0 Try.underlying49 hi0 a1 n c1 hsc _ ⟨.inl ⟨_, Try.underlying49⟩, by intro w'; cases a <;> simp [Builtin.lenOf], by cases a <;> simp [Builtin.firstCells, loadCells, loadCellsFrom], by cases a <;> simp [Builtin.firstCells, loadCells, loadCellsFrom], by simp, by simp⟩
  · obtain ⟨h24, a', c', e, hc⟩ := hx
    cases e
    obtain ⟨g, off, rfl, hg, hcell⟩ := hc (by omega)
    obtain ⟨o', w', h1, h2, h3, _, h5⟩ := run_append_own_at (P := Try.prog) w B 49 ty 40 i0 _ 24 96 Try.underlying49 hi0 hz0 hz1 hz2 rfl (by decide) o n (flatR rows1) hown ⟨g, off, none⟩ rows2.length c (flatR rows2) (flatR_len rows2 h24) (fun j u hu => by
      rw [show (⟨g, off, none⟩ : Addr).add j = ⟨g, off + j, none⟩ from by simp [Addr.add]]
      exact hcell j u hu) (flatR_one rows2) (by unfold maxLen; omega) (by omega) hw
    refine ⟨o', w', h1, by simpa [flatR] using h2, hB.grown h3 hw (fun j hj => (hown.lt j hj).1), Nat.le_trans hw h3.size, h3, h5⟩
end Go.Proofs.Ytlnhnpfgmiffpaa
end
section
namespace Go.Proofs.Ytlnhnpfgmiffpaa
open Go.RowKit Go.Maps Go.ChangeMaps
set_option linter.unusedVariables false
set_option linter.unusedSimpArgs false
attribute [local go_sem ↓] Go.wp_at_zero Go.wp_at_succ

/-- what keep has laid: its result's block, the variable (bx), the map (m) -/
structure Kst (w : World) (bx m : Nat) (u : World) : Prop where
  bel : Below w.heap.size w u
  r0 : RL u w.heap.size 52 [.slice none 0 0, .map none]
  r1 : RL u bx 52 [.slice none 0 0, .map (some m)]
  map : MapR u m []
  ne : bx ≠ m ∧ w.heap.size < bx ∧ w.heap.size < m
theorem rl_at {w : World} (n : Nat) (hn : w.heap.size = n) (c : Array Value) (t : TypeId) : RL (w.alloc (.cells c t)) n t c.toList := hn ▸ rl_new w c t
theorem mapR_at {w : World} (n : Nat) (hn : w.heap.size = n) : MapR (w.alloc (.map #[] 0)) n [] := hn ▸ MapR.made w
theorem kst_a (w : World) : Kst w (w.heap.size + 1 + 1) (w.heap.size + 1) (((w.alloc (.cells #[.slice none 0 0, .map none] 52)).alloc (.map #[] 0)).alloc (.cells #[.slice none 0 0, .map (some (w.heap.size + 1))] 52)).drew := by
  have k : ∀ (u : World) (o : Obj), Below u.heap.size u (u.alloc o) := fun u o => (Below.refl _ _).alloc (Nat.le_refl _) o
  refine ⟨((((Below.refl _ _).alloc (Nat.le_refl _) _).alloc (by simp) _).alloc (by simp; omega) _).drew, ?_, ?_, ?_, by omega⟩
  · exact ((((rl_new w #[.slice none 0 0, .map none] 52).below (k _ _)).below (k _ _)).below (Below.refl _ _).drew)
  · exact (rl_at (w.heap.size + 1 + 1) (by simp) #[.slice none 0 0, .map (some (w.heap.size + 1))] 52).below (Below.refl _ _).drew
  · exact ((mapR_at (w.heap.size + 1) (by simp)).below (k _ _)).below (Below.refl _ _).drew
theorem kst_b (w : World) : Kst w (w.heap.size + 1) (w.heap.size + 1 + 1) (((w.alloc (.cells #[.slice none 0 0, .map none] 52)).alloc (.cells #[.slice none 0 0, .map (some (w.heap.size + 1 + 1))] 52)).alloc (.map #[] 0)).drew := by
  have k : ∀ (u : World) (o : Obj), Below u.heap.size u (u.alloc o) := fun u o => (Below.refl _ _).alloc (Nat.le_refl _) o
  refine ⟨((((Below.refl _ _).alloc (Nat.le_refl _) _).alloc (by simp) _).alloc (by simp; omega) _).drew, ?_, ?_, ?_, by omega⟩
  · exact ((((rl_new w #[.slice none 0 0, .map none] 52).below (k _ _)).below (k _ _)).below (Below.refl _ _).drew)
  · exact ((rl_at (w.heap.size + 1) (by simp) #[.slice none 0 0, .map (some (w.heap.size + 1 + 1))] 52).below (k _ _)).below (Below.refl _ _).drew
  · exact (mapR_at (w.heap.size + 1 + 1) (by simp)).below (Below.refl _ _).drew
set_option maxHeartbeats 1600000 in
set_option maxRecDepth 100000 in
theorem keep_nil (w : World) : Calls Try.prog 13 #[.slice none 0 0] w fun e w' => ∃ m, e = .returned (.agg #[.slice none 0 0, .map (some m)]) ∧ MapR w' m [] ∧ w.heap.size ≤ m ∧ Below w.heap.size w w' := by
  have hmm := makeMapR
  go_enter Try.func13, Try.ntmps13
  go_upto_region 1 with fail
  go_region_law (
    refine step_call rfl 37 Try.func37 (by kernel_rfl) (by kernel_rfl) #[.tmp 4] _ rfl #[.slice none 0 0] (by simp [Act.eval, Act.put]) (cloneRows_nil _) ?_
    rintro ee w2 ⟨rfl, rfl⟩
    refine ⟨_, rfl, ?_⟩)
  all_goals
    go_wp2_with fail
  · have HK := Lib.hid (kst_a w)
    generalize (((w.alloc (.cells #[.slice none 0 0, .map none] 52)).alloc (.map #[] 0)).alloc (.cells #[.slice none 0 0, .map (some (w.heap.size + 1))] 52)).drew = U at HK ⊢
    refine (number_nil HK.out.r1 HK.out.map HK.out.ne.1).mono ?_
    rintro e w3 ⟨⟨u, rfl⟩, hm3, ht3⟩
    have gr := ht3.grown
    have r0 : RL w3 w.heap.size 52 [.slice none 0 0, .map none] := World.rowIs.of_block HK.out.r0 (gr.block _ (World.rowIs.lt HK.out.r0) (fun e => by have := HK.out.ne.2.2; have := Option.some.inj e; omega))
    have r1 : RL w3 (w.heap.size + 1 + 1) 52 [.slice none 0 0, .map (some (w.heap.size + 1))] := World.rowIs.of_block HK.out.r1 (gr.block _ (World.rowIs.lt HK.out.r1) (fun e => HK.out.ne.1 (Option.some.inj e)))
    have b3 : Below w.heap.size w w3 := HK.out.bel.grown gr HK.out.bel.size (fun j hj => by have := Option.some.inj hj; have := HK.out.ne.2.2; omega)
    have x0 := r1.at (j := 0) rfl
    have x1 := r1.at (j := 1) rfl
    have z0 := r0.at (j := 0) rfl
    have z1 := r0.at (j := 1) rfl
    have f0 := World.rowIs.frozen r0 0
    have f1 := World.rowIs.frozen r0 1
    have HR0 := Lib.hid r0
    have HM3 := Lib.hid hm3
    have HB3 := Lib.hid b3
    clear HK ht3 gr r0 r1 hm3 b3 hmm
    go_wp2
    have hfin := ((HR0.out.set 0 (.slice none 0 0)).set 1 (.map (some (w.heap.size + 1))))
    refine bodyPost_ret (rl_results Try.results13 (v := .agg #[.slice none 0 0, .map (some (w.heap.size + 1))]) rfl (run_loadVar_mid _ _ 0 52 [.slice none 0 0, .map (some (w.heap.size + 1))] _ (RL.range hfin) Try.underlying52 rfl (by kernel_rfl))) rfl ⟨w.heap.size + 1, rfl, ?_, by omega, ?_⟩
    · exact HM3.out.of_block (by rw [heap_setCell_other _ _ _ _ (by show w.heap.size + 1 ≠ w.heap.size; omega), heap_setCell_other _ _ _ _ (by show w.heap.size + 1 ≠ w.heap.size; omega)])
    · exact (HB3.out.setCell (p := ⟨w.heap.size, 0, none⟩) (Nat.le_refl _) _).setCell (p := ⟨w.heap.size, 1, none⟩) (Nat.le_refl _) _
  · have HK := Lib.hid (kst_b w)
    generalize (((w.alloc (.cells #[.slice none 0 0, .map none] 52)).alloc (.cells #[.slice none 0 0, .map (some (w.heap.size + 1 + 1))] 52)).alloc (.map #[] 0)).drew = U at HK ⊢
    refine (number_nil HK.out.r1 HK.out.map HK.out.ne.1).mono ?_
    rintro e w3 ⟨⟨u, rfl⟩, hm3, ht3⟩
    have gr := ht3.grown
    have r0 : RL w3 w.heap.size 52 [.slice none 0 0, .map none] := World.rowIs.of_block HK.out.r0 (gr.block _ (World.rowIs.lt HK.out.r0) (fun e => by have := HK.out.ne.2.2; have := Option.some.inj e; omega))
    have r1 : RL w3 (w.heap.size + 1) 52 [.slice none 0 0, .map (some (w.heap.size + 1 + 1))] := World.rowIs.of_block HK.out.r1 (gr.block _ (World.rowIs.lt HK.out.r1) (fun e => HK.out.ne.1 (Option.some.inj e)))
    have b3 : Below w.heap.size w w3 := HK.out.bel.grown gr HK.out.bel.size (fun j hj => by have := Option.some.inj hj; have := HK.out.ne.2.2; omega)
    have x0 := r1.at (j := 0) rfl
    have x1 := r1.at (j := 1) rfl
    have z0 := r0.at (j := 0) rfl
    have z1 := r0.at (j := 1) rfl
    have f0 := World.rowIs.frozen r0 0
    have f1 := World.rowIs.frozen r0 1
    have HR0 := Lib.hid r0
    have HM3 := Lib.hid hm3
    have HB3 := Lib.hid b3
    clear HK ht3 gr r0 r1 hm3 b3 hmm
    go_wp2
    have hfin := ((HR0.out.set 0 (.slice none 0 0)).set 1 (.map (some (w.heap.size + 1 + 1))))
    refine bodyPost_ret (rl_results Try.results13 (v := .agg #[.slice none 0 0, .map (some (w.heap.size + 1 + 1))]) rfl (run_loadVar_mid _ _ 0 52 [.slice none 0 0, .map (some (w.heap.size + 1 + 1))] _ (RL.range hfin) Try.underlying52 rfl (by kernel_rfl))) rfl ⟨w.heap.size + 1 + 1, rfl, ?_, by omega, ?_⟩
    · exact HM3.out.of_block (by rw [heap_setCell_other _ _ _ _ (by show w.heap.size + 1 + 1 ≠ w.heap.size; omega), heap_setCell_other _ _ _ _ (by show w.heap.size + 1 + 1 ≠ w.heap.size; omega)])
    · exact (HB3.out.setCell (p := ⟨w.heap.size, 0, none⟩) (Nat.le_refl _) _).setCell (p := ⟨w.heap.size, 1, none⟩) (Nat.le_refl _) _
  · have HK := Lib.hid (kst_a w)
    generalize (((w.alloc (.cells #[.slice none 0 0, .map none] 52)).alloc (.map #[] 0)).alloc (.cells #[.slice none 0 0, .map (some (w.heap.size + 1))] 52)).drew = U at HK ⊢
    refine (number_nil HK.out.r1 HK.out.map HK.out.ne.1).mono ?_
    rintro e w3 ⟨⟨u, rfl⟩, hm3, ht3⟩
    have gr := ht3.grown
    have r0 : RL w3 w.heap.size 52 [.slice none 0 0, .map none] := World.rowIs.of_block HK.out.r0 (gr.block _ (World.rowIs.lt HK.out.r0) (fun e => by have := HK.out.ne.2.2; have := Option.some.inj e; omega))
    have r1 : RL w3 (w.heap.size + 1 + 1) 52 [.slice none 0 0, .map (some (w.heap.size + 1))] := World.rowIs.of_block HK.out.r1 (gr.block _ (World.rowIs.lt HK.out.r1) (fun e => HK.out.ne.1 (Option.some.inj e)))
    have b3 : Below w.heap.size w w3 := HK.out.bel.grown gr HK.out.bel.size (fun j hj => by have := Option.some.inj hj; have := HK.out.ne.2.2; omega)
    have x0 := r1.at (j := 0) rfl
    have x1 := r1.at (j := 1) rfl
    have z0 := r0.at (j := 0) rfl
    have z1 := r0.at (j := 1) rfl
    have f0 := World.rowIs.frozen r0 0
    have f1 := World.rowIs.frozen r0 1
    have HR0 := Lib.hid r0
    have HM3 := Lib.hid hm3
    have HB3 := Lib.hid b3
    clear HK ht3 gr r0 r1 hm3 b3 hmm
    go_wp2
    have hfin := ((HR0.out.set 0 (.slice none 0 0)).set 1 (.map (some (w.heap.size + 1))))
    refine bodyPost_ret (rl_results Try.results13 (v := .agg #[.slice none 0 0, .map (some (w.heap.size + 1))]) rfl (run_loadVar_mid _ _ 0 52 [.slice none 0 0, .map (some (w.heap.size + 1))] _ (RL.range hfin) Try.underlying52 rfl (by kernel_rfl))) rfl ⟨w.heap.size + 1, rfl, ?_, by omega, ?_⟩
    · exact HM3.out.of_block (by rw [heap_setCell_other _ _ _ _ (by show w.heap.size + 1 ≠ w.heap.size; omega), heap_setCell_other _ _ _ _ (by show w.heap.size + 1 ≠ w.heap.size; omega)])
    · exact (HB3.out.setCell (p := ⟨w.heap.size, 0, none⟩) (Nat.le_refl _) _).setCell (p := ⟨w.heap.size, 1, none⟩) (Nat.le_refl _) _
  · have HK := Lib.hid (kst_a w)
    generalize (((w.alloc (.cells #[.slice none 0 0, .map none] 52)).alloc (.map #[] 0)).alloc (.cells #[.slice none 0 0, .map (some (w.heap.size + 1))] 52)).drew = U at HK ⊢
    refine (number_nil HK.out.r1 HK.out.map HK.out.ne.1).mono ?_
    rintro e w3 ⟨⟨u, rfl⟩, hm3, ht3⟩
    have gr := ht3.grown
    have r0 : RL w3 w.heap.size 52 [.slice none 0 0, .map none] := World.rowIs.of_block HK.out.r0 (gr.block _ (World.rowIs.lt HK.out.r0) (fun e => by have := HK.out.ne.2.2; have := Option.some.inj e; omega))
    have r1 : RL w3 (w.heap.size + 1 + 1) 52 [.slice none 0 0, .map (some (w.heap.size + 1))] := World.rowIs.of_block HK.out.r1 (gr.block _ (World.rowIs.lt HK.out.r1) (fun e => HK.out.ne.1 (Option.some.inj e)))
    have b3 : Below w.heap.size w w3 := HK.out.bel.grown gr HK.out.bel.size (fun j hj => by have := Option.some.inj hj; have := HK.out.ne.2.2; omega)
    have x0 := r1.at (j := 0) rfl
    have x1 := r1.at (j := 1) rfl
    have z0 := r0.at (j := 0) rfl
    have z1 := r0.at (j := 1) rfl
    have f0 := World.rowIs.frozen r0 0
    have f1 := World.rowIs.frozen r0 1
    have HR0 := Lib.hid r0
    have HM3 := Lib.hid hm3
    have HB3 := Lib.hid b3
    clear HK ht3 gr r0 r1 hm3 b3 hmm
    go_wp2
    have hfin := ((HR0.out.set 0 (.slice none 0 0)).set 1 (.map (some (w.heap.size + 1))))
    refine bodyPost_ret (rl_results Try.results13 (v := .agg #[.slice none 0 0, .map (some (w.heap.size + 1))]) rfl (run_loadVar_mid _ _ 0 52 [.slice none 0 0, .map (some (w.heap.size + 1))] _ (RL.range hfin) Try.underlying52 rfl (by kernel_rfl))) rfl ⟨w.heap.size + 1, rfl, ?_, by omega, ?_⟩
    · exact HM3.out.of_block (by rw [heap_setCell_other _ _ _ _ (by show w.heap.size + 1 ≠ w.heap.size; omega), heap_setCell_other _ _ _ _ (by show w.heap.size + 1 ≠ w.heap.size; omega)])
    · exact (HB3.out.setCell (p := ⟨w.heap.size, 0, none⟩) (Nat.le_refl _) _).setCell (p := ⟨w.heap.size, 1, none⟩) (Nat.le_refl _) _
  · have HK := Lib.hid (kst_b w)
    generalize (((w.alloc (.cells #[.slice none 0 0, .map none] 52)).alloc (.cells #[.slice none 0 0, .map (some (w.heap.size + 1 + 1))] 52)).alloc (.map #[] 0)).drew = U at HK ⊢
    refine (number_nil HK.out.r1 HK.out.map HK.out.ne.1).mono ?_
    rintro e w3 ⟨⟨u, rfl⟩, hm3, ht3⟩
    have gr := ht3.grown
    have r0 : RL w3 w.heap.size 52 [.slice none 0 0, .map none] := World.rowIs.of_block HK.out.r0 (gr.block _ (World.rowIs.lt HK.out.r0) (fun e => by have := HK.out.ne.2.2; have := Option.some.inj e; omega))
    have r1 : RL w3 (w.heap.size + 1) 52 [.slice none 0 0, .map (some (w.heap.size + 1 + 1))] := World.rowIs.of_block HK.out.r1 (gr.block _ (World.rowIs.lt HK.out.r1) (fun e => HK.out.ne.1 (Option.some.inj e)))
    have b3 : Below w.heap.size w w3 := HK.out.bel.grown gr HK.out.bel.size (fun j hj => by have := Option.some.inj hj; have := HK.out.ne.2.2; omega)
    have x0 := r1.at (j := 0) rfl
    have x1 := r1.at (j := 1) rfl
    have z0 := r0.at (j := 0) rfl
    have z1 := r0.at (j := 1) rfl
    have f0 := World.rowIs.frozen r0 0
    have f1 := World.rowIs.frozen r0 1
    have HR0 := Lib.hid r0
    have HM3 := Lib.hid hm3
    have HB3 := Lib.hid b3
    clear HK ht3 gr r0 r1 hm3 b3 hmm
    go_wp2
    have hfin := ((HR0.out.set 0 (.slice none 0 0)).set 1 (.map (some (w.heap.size + 1 + 1))))
    refine bodyPost_ret (rl_results Try.results13 (v := .agg #[.slice none 0 0, .map (some (w.heap.size + 1 + 1))]) rfl (run_loadVar_mid _ _ 0 52 [.slice none 0 0, .map (some (w.heap.size + 1 + 1))] _ (RL.range hfin) Try.underlying52 rfl (by kernel_rfl))) rfl ⟨w.heap.size + 1 + 1, rfl, ?_, by omega, ?_⟩
    · exact HM3.out.of_block (by rw [heap_setCell_other _ _ _ _ (by show w.heap.size + 1 + 1 ≠ w.heap.size; omega), heap_setCell_other _ _ _ _ (by show w.heap.size + 1 + 1 ≠ w.heap.size; omega)])
    · exact (HB3.out.setCell (p := ⟨w.heap.size, 0, none⟩) (Nat.le_refl _) _).setCell (p := ⟨w.heap.size, 1, none⟩) (Nat.le_refl _) _
  · have HK := Lib.hid (kst_b w)
    generalize (((w.alloc (.cells #[.slice none 0 0, .map none] 52)).alloc (.cells #[.slice none 0 0, .map (some (w.heap.size + 1 + 1))] 52)).alloc (.map #[] 0)).drew = U at HK ⊢
    refine (number_nil HK.out.r1 HK.out.map HK.out.ne.1).mono ?_
    rintro e w3 ⟨⟨u, rfl⟩, hm3, ht3⟩
    have gr := ht3.grown
    have r0 : RL w3 w.heap.size 52 [.slice none 0 0, .map none] := World.rowIs.of_block HK.out.r0 (gr.block _ (World.rowIs.lt HK.out.r0) (fun e => by have := HK.out.ne.2.2; have := Option.some.inj e; omega))
    have r1 : RL w3 (w.heap.size + 1) 52 [.slice none 0 0, .map (some (w.heap.size + 1 + 1))] := World.rowIs.of_block HK.out.r1 (gr.block _ (World.rowIs.lt HK.out.r1) (fun e => HK.out.ne.1 (Option.some.inj e)))
    have b3 : Below w.heap.size w w3 := HK.out.bel.grown gr HK.out.bel.size (fun j hj => by have := Option.some.inj hj; have := HK.out.ne.2.2; omega)
    have x0 := r1.at (j := 0) rfl
    have x1 := r1.at (j := 1) rfl
    have z0 := r0.at (j := 0) rfl
    have z1 := r0.at (j := 1) rfl
    have f0 := World.rowIs.frozen r0 0
    have f1 := World.rowIs.frozen r0 1
    have HR0 := Lib.hid r0
    have HM3 := Lib.hid hm3
    have HB3 := Lib.hid b3
    clear HK ht3 gr r0 r1 hm3 b3 hmm
    go_wp2
    have hfin := ((HR0.out.set 0 (.slice none 0 0)).set 1 (.map (some (w.heap.size + 1 + 1))))
    refine bodyPost_ret (rl_results Try.results13 (v := .agg #[.slice none 0 0, .map (some (w.heap.size + 1 + 1))]) rfl (run_loadVar_mid _ _ 0 52 [.slice none 0 0, .map (some (w.heap.size + 1 + 1))] _ (RL.range hfin) Try.underlying52 rfl (by kernel_rfl))) rfl ⟨w.heap.size + 1 + 1, rfl, ?_, by omega, ?_⟩
    · exact HM3.out.of_block (by rw [heap_setCell_other _ _ _ _ (by show w.heap.size + 1 + 1 ≠ w.heap.size; omega), heap_setCell_other _ _ _ _ (by show w.heap.size + 1 + 1 ≠ w.heap.size; omega)])
    · exact (HB3.out.setCell (p := ⟨w.heap.size, 0, none⟩) (Nat.le_refl _) _).setCell (p := ⟨w.heap.size, 1, none⟩) (Nat.le_refl _) _
end Go.Proofs.Ytlnhnpfgmiffpaa
end
section
namespace Go.Proofs.Ytlnhnpfgmiffpaa
open Go.RowKit Go.Maps Go.ChangeMaps
set_option linter.unusedVariables false
set_option linter.unusedSimpArgs false
attribute [local go_sem ↓] Go.wp_at_zero Go.wp_at_succ

set_option maxHeartbeats 1600000 in
set_option maxRecDepth 100000 in
theorem new_any (n : Int) (h0 : 0 ≤ n) (h1 : n ≤ 24) (w : World) : Calls Try.prog 4 #[.int .i64 n] w fun e w' => ∃ t m, e = .returned (.tuple #[.pointer (some ⟨t, 0, none⟩), .int .i64 0]) ∧ Rel w' w.heap.size t m (.slice none 0 0) [] n 0 ∧ Below w.heap.size w w' := by
  have h0' : ¬ n < 0 := by omega
  have h1' : ¬ (24 : Int) < n := by omega
  go_enter Try.func4, Try.ntmps4
  go_wp2_with fail
  refine (keep_nil _).mono ?_
  rintro e w1 ⟨m, rfl, hm, hle, b1⟩
  have hml := hm.lt
  have ha : Below w1.heap.size w1 (w1.alloc (.cells #[.slice none 0 0, .map (some m), .int .i64 n, .int .i64 0] 55)) := (Below.refl _ _).alloc (Nat.le_refl _) _
  have HR : Hid (Rel (w1.alloc (.cells #[.slice none 0 0, .map (some m), .int .i64 n, .int .i64 0] 55)) w.heap.size w1.heap.size m (.slice none 0 0) [] n 0) :=
    ⟨rl_new w1 #[.slice none 0 0, .map (some m), .int .i64 n, .int .i64 0] 55, World.ownsRow_nil _ _ _ _, hm.below ha, by simp, by simp, ⟨b1.size, hle⟩, by omega, fun g hg => by cases hg⟩
  have HB := Lib.hid (b1.trans (ha.mono b1.size))
  clear hm hle b1 ha hml
  go_wp2
  go_ret2
  exact ⟨_, m, rfl, HR.out, HB.out⟩
end Go.Proofs.Ytlnhnpfgmiffpaa
end
section
namespace Go.Proofs.Ytlnhnpfgmiffpaa
open Go.RowKit Go.Maps
set_option linter.unusedVariables false
set_option linter.unusedSimpArgs false

/-! turns: a row is added, or (off) removed -/
abbrev Tn := Bool × List Int
/-- a list of turns that lies somewhere -/
def Lt (w : World) (v : Value) (ts : List Tn) : Prop :=
  (∀ x ∈ ts, RowOk x.2) ∧ ∃ a c, v = .slice a ts.length c ∧ ∀ i x, ts[i]? = some x → ∃ g off, a = some ⟨g, off, none⟩ ∧ g < w.heap.size ∧ w.cell? ⟨g, off + i * 25, none⟩ = some (.bool x.1) ∧ w.rangeAt g (off + i * 25 + 1) (x.2.map cellI)
theorem Lt.below {w w' : World} {v : Value} {ts : List Tn} (h : Lt w v ts) (hb : Below w.heap.size w w') : Lt w' v ts := by
  obtain ⟨h1, a, c, rfl, h2⟩ := h
  refine ⟨h1, a, c, rfl, fun i x hx => ?_⟩
  obtain ⟨g, off, rfl, hg, hc, hr⟩ := h2 i x hx
  refine ⟨g, off, rfl, Nat.lt_of_lt_of_le hg hb.size, (hb.cell (p := ⟨g, _, none⟩) hg).trans hc, fun j v hv => ?_⟩
  exact (hb.cell (p := ⟨g, off + i * 25 + 1 + j, none⟩) hg).trans (hr j v hv)
/-- one turn: the rows, and how many went -/
def stepT (ar : Int) (s : List (List Int) × Nat) (x : Tn) : List (List Int) × Nat :=
  if x.1 then (if x.2 ∈ s.1 then (s.1.eraseIdx (s.1.idxOf x.2), s.2 + 1) else s) else (if fitB x.2 ar = true ∧ x.2 ∉ s.1 then (s.1 ++ [x.2], s.2) else s)
def turnL (ar : Int) (ts : List Tn) : List (List Int) × Nat := ts.foldl (stepT ar) ([], 0)
theorem turnL_take {ar : Int} {ts : List Tn} {k : Nat} {x : Tn} (h : ts[k]? = some x) : turnL ar (ts.take (k + 1)) = stepT ar (turnL ar (ts.take k)) x := by
  unfold turnL
  rw [List.take_add_one, h]
  simp [List.foldl_append]
theorem stepT_len (ar : Int) (s : List (List Int) × Nat) (x : Tn) : (stepT ar s x).1.length ≤ s.1.length + 1 ∧ (stepT ar s x).2 ≤ s.2 + 1 := by
  unfold stepT
  split
  · split
    · exact ⟨Nat.le_succ_of_le (List.length_eraseIdx_le _ _), Nat.le_refl _⟩
    · exact ⟨Nat.le_succ _, Nat.le_succ _⟩
  · split
    · exact ⟨by simp, Nat.le_succ _⟩
    · exact ⟨Nat.le_succ _, Nat.le_succ _⟩
theorem turnL_len (ar : Int) : ∀ (ts : List Tn) (k : Nat), k ≤ ts.length → (turnL ar (ts.take k)).1.length ≤ k ∧ (turnL ar (ts.take k)).2 ≤ k
  | ts, 0, _ => by simp [turnL]
  | ts, k + 1, h => by
    have ih := turnL_len ar ts k (by omega)
    obtain ⟨x, hx⟩ : ∃ x, ts[k]? = some x := ⟨ts[k], List.getElem?_eq_getElem (by omega)⟩
    rw [turnL_take hx]
    have := stepT_len ar (turnL ar (ts.take k)) x
    omega
/-- the place of a row, -1 where it is not there -/
def placeI (rows : List (List Int)) (r : List Int) : Int := if r ∈ rows then (rows.idxOf r : Int) else -1
theorem idxOf_at {rows : List (List Int)} {r : List Int} (h : r ∈ rows) : rows[rows.idxOf r]? = some r := by
  rw [List.getElem?_eq_getElem (List.idxOf_lt_length_of_mem h), List.getElem_idxOf]
theorem place_step {rows : List (List Int)} (nd : rows.Nodup) {r x : List Int} {k : Nat} (hx : rows[k]? = some x) :
    (if r ∈ rows.take (k + 1) then (rows.idxOf r : Int) else -1) = if x = r then (k : Int) else (if r ∈ rows.take k then (rows.idxOf r : Int) else -1) := by
  have hk : k < rows.length := (List.getElem?_eq_some_iff.1 hx).1
  have ht : rows.take (k + 1) = rows.take k ++ [x] := by rw [List.take_add_one, hx]; rfl
  rw [ht]
  by_cases e : x = r
  · subst e
    have hm := List.mem_of_getElem? hx
    have hi : rows.idxOf x = k := by
      have h1 := idxOf_at hm
      exact (List.getElem?_inj (List.idxOf_lt_length_of_mem hm) nd).1 (h1.trans hx.symm)
    simp [hi]
  · have : r ∈ rows.take k ++ [x] ↔ r ∈ rows.take k := by
      simp only [List.mem_append, List.mem_singleton]
      exact ⟨fun h => h.elim id (fun h => absurd h.symm e), .inl⟩
    simp only [this, if_neg e]
end Go.Proofs.Ytlnhnpfgmiffpaa
end
section
namespace Go.Proofs.Ytlnhnpfgmiffpaa
open Go.RowKit Go.Maps
set_option linter.unusedVariables false
set_option linter.unusedSimpArgs false

theorem rowKT : Try.prog.keyTypeAt 3 40 = true := by kernel_rfl
set_option maxRecDepth 100000 in
theorem run_eqRow {x y : List Int} (hx : RowOk x) (hy : RowOk y) (w : World) : (binOp .eql 40 (rowV x) (rowV y)).run Try.prog w = .ok (.bool (decide (x = y))) w := by
  obtain ⟨lx, kx⟩ := keyOf_row x hx
  obtain ⟨ly, ky⟩ := keyOf_row y hy
  obtain ⟨b, h, hb⟩ := run_equal_deep (P := Try.prog) w (m := 3) (by omega) (k := 40) rowKT rowWide kx ky
  have hd : b = decide (x = y) := by
    by_cases e : x = y
    · subst e
      rw [kx] at ky
      cases ky
      rw [hb.2 rfl]
      simp
    · have hn : b ≠ true := fun e2 => e (rowV_inj (keyedR.inj kx (hb.1 e2 ▸ ky)))
      rw [Bool.eq_false_iff.2 hn]
      simp [e]
  subst hd
  unfold rowV at h ⊢
  simp [binOp, run_underlying Try.underlying40, h, Result.andThen]
end Go.Proofs.Ytlnhnpfgmiffpaa
end
