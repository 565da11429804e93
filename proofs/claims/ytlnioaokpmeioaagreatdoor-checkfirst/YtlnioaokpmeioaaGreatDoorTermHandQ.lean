import Derived.Test.YtlnioaokpmeioaaGreatDoorG4
import Derived.BigQuiet
section
namespace Go.Proofs.YtlnioaokpmeioaaGreatDoor
open Go.RowKit Go.Maps
set_option linter.unusedVariables false
set_option linter.unusedSimpArgs false
attribute [local go_sem ↓] Go.wp_at_zero Go.wp_at_succ

/-- one term more -/
def stepN (ns : List ByteArray) (t : ByteArray) : List ByteArray := if t = noS ∨ t = blankS ∨ inB ns t = true then ns else ns ++ [t]
theorem vsT_step (ns : List ByteArray) (t : T) (ts : List T) : vsT ns (t :: ts) = vsT (stepN ns t.v) ts := by
  unfold stepN
  rw [vsT]
  split <;> rfl
theorem stepN_len (ns : List ByteArray) (t : ByteArray) : (stepN ns t).length ≤ ns.length + 1 := by
  unfold stepN
  split <;> simp
/-- what 'variables' keeps: the variable that holds the list told (block bo), the one that holds the map (bs), the map (bm), the list's row; all of its own, from B on -/
structure Vst (B : Nat) (w0 : World) (bo bs bm : Nat) (ns : List ByteArray) (sv : Value) (w : World) : Prop where
  bel : Below B w0 w
  bz : B ≤ w.heap.size
  lo : B ≤ bo ∧ B ≤ bs ∧ B ≤ bm
  ne : bo ≠ bs ∧ bo ≠ bm ∧ bs ≠ bm
  cs : w.cell? ⟨bs, 0, none⟩ = some (.map (some bm))
  co : w.cell? ⟨bo, 0, none⟩ = some sv
  fo : w.frozen? ⟨bo, 0, none⟩ = false
  own : w.ownsRow B 9 1 sv ns.length (ns.flatMap strB)
  ap : ∀ g, sv.ownBlock = some g → g ≠ bo ∧ g ≠ bs ∧ g ≠ bm
  set : SetIs w bm ns
theorem Vst.keep {B : Nat} {w0 : World} {bo bs bm : Nat} {ns : List ByteArray} {sv : Value} {w w' : World} (h : Vst B w0 bo bs bm ns sv w) (hb : Below w.heap.size w w') : Vst B w0 bo bs bm ns sv w' :=
  ⟨h.bel.trans (hb.mono h.bz), Nat.le_trans h.bz hb.size, h.lo, h.ne, by rw [hb.cell (p := ⟨bs, 0, none⟩) (World.block_lt_of_cell? _ _ h.cs)]; exact h.cs, by rw [hb.cell (p := ⟨bo, 0, none⟩) (World.block_lt_of_cell? _ _ h.co)]; exact h.co, by rw [hb.frozen (p := ⟨bo, 0, none⟩) (World.block_lt_of_cell? _ _ h.co)]; exact h.fo, own_below h.own hb, h.ap, h.set.of_block (hb.block _ h.set.lt)⟩
theorem hand_fin {B : Nat} {w0 : World} {bo bs bm : Nat} {ns : List ByteArray} {sv sv' : Value} {w w2 w3 : World} {t : ByteArray} (h : Vst B w0 bo bs bm ns sv w) (hset : SetIs w2 bm (ns ++ [t])) (hturn : w.mapTurned w2 bm) {o : Obj}
    (hown : w3.ownsRow B 9 1 sv' (ns.length + 1) (ns.flatMap strB ++ [.string t])) (hgrow : (w2.drew.alloc o).grownBy w3 sv.ownBlock) (hloc : sv'.ownBlock = sv.ownBlock ∨ sv'.ownBlock = some (w2.drew.alloc o).heap.size) :
    Vst B w0 bo bs bm (ns ++ [t]) sv' (w3.setCell ⟨bo, 0, none⟩ sv') := by
  have gr := hturn.grown
  have hbo := World.block_lt_of_cell? _ _ h.co
  have hbs := World.block_lt_of_cell? _ _ h.cs
  have hbm := h.set.lt
  simp only at hbo hbs
  have hz : w.heap.size ≤ w2.heap.size := gr.size
  have hzd : (w2.drew.alloc o).heap.size = w2.heap.size + 1 := by simp
  have hz3 : w2.heap.size + 1 ≤ w3.heap.size := by have := hgrow.size; rw [hzd] at this; exact this
  -- blocks of w2 that are not the row's own lie so in w3
  have k3 : ∀ k, k < w2.heap.size → some k ≠ sv.ownBlock → w3.heap[k]? = w2.heap[k]? := fun k hk hn => by
    rw [hgrow.block k (by rw [hzd]; omega) hn]
    exact Below.heap_alloc w2.drew o k hk
  have k2 : ∀ k, k < w.heap.size → k ≠ bm → w2.heap[k]? = w.heap[k]? := fun k hk hn => gr.block k hk (fun e => hn (Option.some.inj e))
  have nr : ∀ k, sv.ownBlock = some k → k ≠ bo ∧ k ≠ bs ∧ k ≠ bm := h.ap
  have nbo : some bo ≠ sv.ownBlock := fun e => (nr bo e.symm).1 rfl
  have nbs : some bs ≠ sv.ownBlock := fun e => (nr bs e.symm).2.1 rfl
  have nbm : some bm ≠ sv.ownBlock := fun e => (nr bm e.symm).2.2 rfl
  have apn : ∀ g, sv'.ownBlock = some g → g ≠ bo ∧ g ≠ bs ∧ g ≠ bm := fun g hg => by
    rcases hloc with e | e
    · exact nr g (by rw [← e]; exact hg)
    · rw [e] at hg
      have := Option.some.inj hg
      rw [hzd] at this
      omega
  have hco3 : w3.cell? ⟨bo, 0, none⟩ = some sv := by
    rw [World.cell?_of_block (a := ⟨bo, 0, none⟩) (k3 bo (by omega) nbo), World.cell?_of_block (a := ⟨bo, 0, none⟩) (k2 bo hbo h.ne.2.1)]
    exact h.co
  have hfo3 : w3.frozen? ⟨bo, 0, none⟩ = false := by
    rw [World.frozen?_of_block (a := ⟨bo, 0, none⟩) (k3 bo (by omega) nbo), World.frozen?_of_block (a := ⟨bo, 0, none⟩) (k2 bo hbo h.ne.2.1)]
    exact h.fo
  refine ⟨?_, ?_, h.lo, h.ne, ?_, ?_, ?_, ?_, apn, ?_⟩
  · have b2 : Below B w0 w2 := h.bel.grown gr h.bz (fun j hj => by cases hj; exact h.lo.2.2)
    have hz2 : B ≤ w2.heap.size := Nat.le_trans h.bz hz
    have b3 : Below B w0 (w2.drew.alloc o) := b2.drew.alloc hz2 _
    have b4 : Below B w0 w3 := b3.grown hgrow (by rw [hzd]; omega) (fun j hj => (h.own.lt j hj).1)
    exact b4.setCell (p := ⟨bo, 0, none⟩) h.lo.1 _
  · have := h.bz; simp; omega
  · rw [World.cell?_of_block (a := ⟨bs, 0, none⟩) (heap_setCell_other _ _ _ _ (by show bs ≠ bo; exact Ne.symm h.ne.1)), World.cell?_of_block (a := ⟨bs, 0, none⟩) (k3 bs (by omega) nbs), World.cell?_of_block (a := ⟨bs, 0, none⟩) (k2 bs hbs h.ne.2.2)]
    exact h.cs
  · exact World.cell?_setCell_same _ _ _ hco3
  · go_simp
  · have hl : (ns ++ [t]).length = ns.length + 1 := by simp
    have hf : (ns ++ [t]).flatMap strB = ns.flatMap strB ++ [.string t] := by rw [List.flatMap_append]; rfl
    rw [hl, hf]
    exact own_of_block hown (fun g hg => heap_setCell_other _ _ _ _ (by show g ≠ bo; exact (apn g hg).1))
  · refine hset.of_block ?_
    rw [heap_setCell_other _ _ _ _ (by show bm ≠ bo; exact Ne.symm h.ne.2.1)]
    exact k3 bm (by omega) nbm
set_option maxHeartbeats 3200000 in
theorem hand_any {B : Nat} {w0 : World} {bo bs bm : Nat} {ns : List ByteArray} {sv : Value} {w : World} (h : Vst B w0 bo bs bm ns sv w) (hn : ns.length ≤ 4398046511104) (g o : Nat) (t : ByteArray) (hg : g < B) (ht : t.size ≤ maxLen) (hx : w.cell? ⟨g, o, none⟩ = some (.string t)) :
    Calls Tryz.prog 72 #[.pointer (some ⟨g, o, none⟩), .pointer (some ⟨bs, 0, none⟩), .pointer (some ⟨bo, 0, none⟩)] w fun e w' => (∃ u, e = .returned u) ∧ ∃ sv', Vst B w0 bo bs bm (stepN ns t) sv' w' := by
  obtain ⟨i0, hi0, hz0, hz1, hz2⟩ := info_parts infoStr
  obtain ⟨a, c, rfl, hlo⟩ := own_form h.own
  have c1 := h.cs
  have gw : g < w.heap.size := Nat.lt_of_lt_of_le hg h.bz
  have hba : Below w.heap.size w (w.alloc (.cells #[] 152)) := (Below.refl _ _).alloc (Nat.le_refl _) _
  have hl0 := (h.keep (Below.refl _ _).drew).set.look ht
  have hl1 := (h.keep hba.drew).set.look ht
  have HV1 : Hid (Vst B w0 bo bs bm ns (.slice a ns.length c) (w.alloc (.cells #[] 152)).drew) := h.keep hba.drew
  have c2 : (w.alloc (.cells #[] 152)).cell? ⟨bs, 0, none⟩ = some (.map (some bm)) := by rw [hba.cell (p := ⟨bs, 0, none⟩) (World.block_lt_of_cell? _ _ h.cs)]; exact h.cs
  have hx2 : (w.alloc (.cells #[] 152)).cell? ⟨g, o, none⟩ = some (.string t) := by rw [hba.cell (p := ⟨g, o, none⟩) gw]; exact hx
  have HX1 : Hid ((w.alloc (.cells #[] 152)).drew.cell? ⟨g, o, none⟩ = some (.string t)) := hx2
  clear hba
  obtain ⟨ib, hib⟩ : ∃ ib, inB ns t = ib := ⟨_, rfl⟩
  rw [hib] at hl0 hl1
  have HIB : Hid _ := hib
  clear h hib
  go_enter Tryz.func72, Tryz.ntmps72
  go_wp2_with fail
  go_region
  all_goals
    clear hl0 hl1 c1 c2 hx2 hx
    generalize (w.alloc (.cells #[] 152)).drew = W1 at HV1 HX1 ⊢
    have x1 := HX1.out
    have gw1 : g < W1.heap.size := World.block_lt_of_cell? _ _ x1
    cases ib
    · by_cases en : t = noS
      · have he : t.toList.isEmpty = true := by rw [en, ByteArray.toList_eq]; rfl
        have HST : Hid (stepN ns t = ns) := by show _ = _; unfold stepN; rw [if_pos (.inl en)]
        clear en
        go_wp2
        ((try simp only [Exit.inBlock, Exit.then]); refine bodyPost_ret (results_none rfl _ _ _) rfl ?_)
        exact ⟨⟨_, rfl⟩, _, by rw [HST.out]; exact HV1.out⟩
      · have he := some_iff t en
        by_cases eb : t = blankS
        · have hB : (t.toList == [95]) = true := by rw [eb, ByteArray.toList_eq]; rfl
          have HST : Hid (stepN ns t = ns) := by show _ = _; unfold stepN; rw [if_pos (.inr (.inl eb))]
          clear en eb
          go_wp2
          ((try simp only [Exit.inBlock, Exit.then]); refine bodyPost_ret (results_none rfl _ _ _) rfl ?_)
          exact ⟨⟨_, rfl⟩, _, by rw [HST.out]; exact HV1.out⟩
        · have hB := blank_iff eb
          have HST : Hid (stepN ns t = ns ++ [t]) := by
            show _ = _
            unfold stepN
            rw [if_neg]
            rintro (h | h | h)
            · exact en h
            · exact eb h
            · rw [HIB.out] at h; cases h
          clear en eb
          have hv2 : Vst B w0 bo bs bm ns (.slice a ns.length c) W1.drew := HV1.out.keep (Below.refl _ _).drew
          have hni : t ∉ ns := fun hm => by have := inB_iff.2 hm; rw [HIB.out] at this; cases this
          obtain ⟨w2, hput, hset, hturn⟩ := hv2.set.put ht hni
          have cs1 := hv2.cs
          have gr := hturn.grown
          have HV2 : Hid _ := hv2
          have HSET : Hid _ := hset
          have HTURN : Hid _ := hturn
          have hbo : bo < W1.drew.heap.size := World.block_lt_of_cell? _ _ hv2.co
          have co2 : w2.cell? ⟨bo, 0, none⟩ = some (.slice a ns.length c) := by rw [World.cell?_of_block (a := ⟨bo, 0, none⟩) (gr.block bo hbo (fun e => hv2.ne.2.1 (Option.some.inj e)))]; exact hv2.co
          have hbo2 : bo < w2.heap.size := Nat.lt_of_lt_of_le hbo gr.size
          have co3 : (w2.alloc (.cells #[.string t] 9)).cell? ⟨bo, 0, none⟩ = some (.slice a ns.length c) := by rw [World.cell?_of_block (a := ⟨bo, 0, none⟩) (Below.heap_alloc w2 _ bo hbo2)]; exact co2
          have fo2 : w2.frozen? ⟨bo, 0, none⟩ = false := by rw [World.frozen?_of_block (a := ⟨bo, 0, none⟩) (gr.block bo hbo (fun e => hv2.ne.2.1 (Option.some.inj e)))]; exact hv2.fo
          have x2 : w2.cell? ⟨g, o, none⟩ = some (.string t) := by
            rw [World.cell?_of_block (a := ⟨g, o, none⟩) (gr.block g gw1 (fun e => by have := Option.some.inj e; have := hv2.lo.2.2; omega))]
            exact x1
          have hz2' : B ≤ w2.heap.size := Nat.le_trans hv2.bz gr.size
          have own2 : w2.ownsRow B 9 1 (.slice a ns.length c) ns.length (ns.flatMap strB) := own_of_block hv2.own (fun k hk => gr.block k (hv2.own.lt k hk).2 (fun e => (hv2.ap k hk).2.2 (Option.some.inj e)))
          have HOWN : Hid ((w2.drew.alloc (.cells #[.string t] 9)).ownsRow B 9 1 (.slice a ns.length c) ns.length (ns.flatMap strB)) := own_of_block own2 (fun k hk => Below.heap_alloc w2.drew _ k (own2.lt k hk).2)
          have HC : Hid (∀ (j : Nat) (u : Value), ([.string t] : List Value)[j]? = some u → (w2.drew.alloc (.cells #[.string t] 9)).cell? ((⟨w2.heap.size, 0, none⟩ : Addr).add j) = some u) := lit_news w2.drew #[.string t] _
          have HSZ : Hid (B ≤ (w2.drew.alloc (.cells #[.string t] 9)).heap.size) := by show _ ≤ _; simp; omega
          have HFIN : Hid (∀ {sv' : Value} {w3 : World}, w3.ownsRow B 9 1 sv' (ns.length + 1) (ns.flatMap strB ++ [.string t]) → (w2.drew.alloc (.cells #[.string t] 9)).grownBy w3 (Value.slice a ns.length c).ownBlock → (sv'.ownBlock = (Value.slice a ns.length c).ownBlock ∨ sv'.ownBlock = some (w2.drew.alloc (.cells #[.string t] 9)).heap.size) → Vst B w0 bo bs bm (ns ++ [t]) sv' (w3.setCell ⟨bo, 0, none⟩ sv') ∧ w3.cell? ⟨bo, 0, none⟩ = some (.slice a ns.length c) ∧ w3.frozen? ⟨bo, 0, none⟩ = false) := fun h1 h2 h3 => by
            refine ⟨hand_fin HV2.out HSET.out HTURN.out h1 h2 h3, ?_, ?_⟩
            · rw [World.cell?_of_block (a := ⟨bo, 0, none⟩) (h2.block bo (by simp; omega) (fun e => (HV2.out.ap bo e.symm).1 rfl)), World.cell?_of_block (a := ⟨bo, 0, none⟩) (Below.heap_alloc w2.drew _ bo hbo2)]
              exact co2
            · rw [World.frozen?_of_block (a := ⟨bo, 0, none⟩) (h2.block bo (by simp; omega) (fun e => (HV2.out.ap bo e.symm).1 rfl)), World.frozen?_of_block (a := ⟨bo, 0, none⟩) (Below.heap_alloc w2.drew _ bo hbo2)]
              exact fo2
          clear hv2 hset hturn gr own2 hni
          go_upto_region 2 with fail
          go_region
          all_goals
            go_upto_region 3 with fail
            go_region_law (
              refine step_append_own rfl (.tmp 36) (.tmp 41) 73 rfl 9 i0 _ 1 16 Tryz.underlying73 hi0 hz0 hz1 hz2 rfl (by decide) B (.slice a ns.length c) ns.length _ (by simp [Act.eval, Act.put]) HOWN.out ⟨w2.heap.size, 0, none⟩ 1 1 [.string t] (by simp [Act.eval, Act.put]) rfl HC.out (by simp [Value.oneCell']) (by unfold maxLen; omega) (by omega) HSZ.out ?_
              intro v' w3 hown' hgrow hloc
              obtain ⟨hfin, r1, r2⟩ := HFIN.out hown' hgrow hloc
              obtain ⟨a', c', rfl, _⟩ := own_form hown'
              clear hown' hgrow hloc)
            all_goals
              go_wp2
              go_end0
              exact ⟨⟨_, rfl⟩, _, by rw [HST.out]; exact hfin⟩
    · have HST : Hid (stepN ns t = ns) := by show _ = _; unfold stepN; rw [if_pos (.inr (.inr HIB.out))]
      go_wp2
      ((try simp only [Exit.inBlock, Exit.then]); refine bodyPost_ret (results_none rfl _ _ _) rfl ?_)
      exact ⟨⟨_, rfl⟩, _, by rw [HST.out]; exact HV1.out⟩
end Go.Proofs.YtlnioaokpmeioaaGreatDoor
end
