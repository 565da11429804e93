import Derived.Test.YtoppgalbmijhdaaGreatDoorEsRg
namespace Go.Proofs.YtoppgalbmijhdaaGreatDoor
open Go.RowKit Go.Maps Go.ChangeMaps
set_option linter.unusedVariables false
set_option linter.unusedSimpArgs false

/-! tuples by names: a map of rows that grow -/
structure Gp where
  p : ByteArray
  a : Option Addr
  c : Nat
def XF.tp (x : XF) : XF := ⟨noS, x.vs, x.a, x.c⟩
def tupsOf (p : ByteArray) (ls : List XF) : List XF := (ls.filter (fun x => decide (x.pr = p))).map XF.tp
theorem tups_same (y : XF) (ls : List XF) : tupsOf y.pr (ls ++ [y]) = tupsOf y.pr ls ++ [y.tp] := by simp [tupsOf, List.filter_append]
theorem tups_other {y : XF} {p : ByteArray} (h : p ≠ y.pr) (ls : List XF) : tupsOf p (ls ++ [y]) = tupsOf p ls := by
  have : ¬ y.pr = p := fun e => h e.symm
  simp [tupsOf, List.filter_append, this]
theorem tups_none {p : ByteArray} {ls : List XF} (h : p ∉ ls.map XF.pr) : tupsOf p ls = [] := by
  unfold tupsOf
  rw [List.filter_eq_nil_iff.2 (fun x hx => by
    simp only [decide_eq_true_eq]
    intro e
    exact h (e ▸ List.mem_map_of_mem hx))]
  rfl
theorem tups_len (p : ByteArray) (ls : List XF) : (tupsOf p ls).length ≤ ls.length := by
  unfold tupsOf
  rw [List.length_map]
  exact List.length_filter_le _ _
theorem tups_vs (p : ByteArray) (ls : List XF) : (tupsOf p ls).map XF.vs = ownT p (ls.map XF.key) := by
  unfold tupsOf ownT
  rw [List.map_map, List.filter_map, List.map_map]
  rfl
theorem tups_mem {p : ByteArray} {ls : List XF} {x : XF} (h : x ∈ tupsOf p ls) : ∃ y ∈ ls, x = y.tp := by
  obtain ⟨y, hy, rfl⟩ := List.mem_map.1 h
  exact ⟨y, (List.mem_filter.1 hy).1, rfl⟩
def Gp.sv (g : Gp) (ls : List XF) : Value := .slice g.a (tupsOf g.p ls).length g.c
def blkA (a : Option Addr) : Option Nat := a.map Addr.block
theorem own_blk (a : Option Addr) (n c : Nat) : (Value.slice a n c).ownBlock = blkA a := by cases a <;> rfl
structure Gs (w0 wr : World) (ls : List XF) (gs : List Gp) : Prop where
  bel : Below w0.heap.size w0 wr
  map : MapG sV' sOk wr w0.heap.size (gs.map (fun g => (g.p, g.sv ls)))
  own : ∀ g ∈ gs, wr.ownsRow (w0.heap.size + 1) 29 1 (g.sv ls) (tupsOf g.p ls).length ((tupsOf g.p ls).map XF.tcell)
  ap : gs.Pairwise (fun g h => ∀ k, blkA g.a = some k → blkA h.a ≠ some k)
  names : ∀ p, p ∈ gs.map Gp.p ↔ p ∈ ls.map XF.pr
theorem Gs.keep {w0 wr w' : World} {ls : List XF} {gs : List Gp} (h : Gs w0 wr ls gs) (hb : Below wr.heap.size wr w') : Gs w0 w' ls gs :=
  ⟨h.bel.trans (hb.mono h.bel.size), h.map.below hb, fun g hg => own_below (h.own g hg) hb, h.ap, h.names⟩
theorem Gs.start (w : World) : Gs w (w.alloc (.map #[] 0)) [] [] :=
  ⟨(Below.refl _ _).alloc (Nat.le_refl _) _, MapG.made w, fun g hg => absurd hg (by simp), List.Pairwise.nil, fun p => by simp⟩
theorem Gs.nd {w0 wr : World} {ls : List XF} {gs : List Gp} (h : Gs w0 wr ls gs) : (gs.map Gp.p).Nodup := by
  have := h.map.kd
  rw [List.map_map] at this
  exact this
theorem Gs.blk {w0 wr : World} {ls : List XF} {gs : List Gp} (h : Gs w0 wr ls gs) {g : Gp} (hg : g ∈ gs) {k : Nat} (hk : blkA g.a = some k) : w0.heap.size + 1 ≤ k ∧ k < wr.heap.size :=
  (h.own g hg).lt k (by rw [Gp.sv, own_blk]; exact hk)
theorem sv_other {g : Gp} {y : XF} (h : g.p ≠ y.pr) (ls : List XF) : g.sv (ls ++ [y]) = g.sv ls := by unfold Gp.sv; rw [tups_other h]
theorem infoLv : (Tryz.prog.info? 29).map (fun i => (i.zero, i.size, i.bytes)) = some (some (.slice none 0 0), 1, 24) := by kernel_rfl
theorem pw_get {α : Type} {R : α → α → Prop} {l : List α} (h : l.Pairwise R) {i j : Nat} {a b : α} (hi : l[i]? = some a) (hj : l[j]? = some b) (hij : i < j) : R a b := by
  obtain ⟨i1, i2⟩ := List.getElem?_eq_some_iff.1 hi
  obtain ⟨j1, j2⟩ := List.getElem?_eq_some_iff.1 hj
  rw [← i2, ← j2]
  exact List.pairwise_iff_getElem.1 h i j i1 j1 hij
theorem mem_set_ne {α : Type} {l : List α} {j : Nat} {y x : α} (h : x ∈ l.set j y) : x = y ∨ ∃ i, i ≠ j ∧ l[i]? = some x := by
  obtain ⟨i, hi⟩ := List.getElem?_of_mem h
  rw [List.getElem?_set] at hi
  split at hi
  · split at hi
    · exact .inl (Option.some.inj hi).symm
    · cases hi
  · rename_i hne
    exact .inr ⟨i, fun e => hne e.symm, hi⟩
/-- one fact more -/
theorem Gs.step {w0 wr U : World} {ls : List XF} {gs : List Gp} (h : Gs w0 wr ls gs) (hU : Below wr.heap.size wr U) (y : XF) (hy : y.pr.size ≤ maxLen) (hlen : ls.length ≤ 1048576) :
    ∃ v nv w3 w4 gs', (Instr.lookup 40 (.map (some w0.heap.size)) (.string y.pr) false).run Tryz.prog U.drew = .ok v U.drew ∧
      (Instr.lookup 40 (.map (some w0.heap.size)) (.string y.pr) false).run Tryz.prog (U.drew.alloc (.cells #[.slice y.a y.vs.length y.c] 29)) = .ok v (U.drew.alloc (.cells #[.slice y.a y.vs.length y.c] 29)) ∧
      (Builtin.append_ #[41, 41] 41 #[v, .slice (some ⟨U.heap.size, 0, none⟩) 1 1]).run Tryz.prog (U.drew.alloc (.cells #[.slice y.a y.vs.length y.c] 29)) = .ok nv w3 ∧
      (Instr.mapUpdate 40 (.map (some w0.heap.size)) (.string y.pr) nv).run Tryz.prog w3 = .ok () w4 ∧
      Gs w0 w4 (ls ++ [y]) gs' ∧ (∀ k, wr.heap.size ≤ k → k < U.heap.size → w3.heap[k]? = U.heap[k]? ∧ w4.heap[k]? = U.heap[k]?) ∧ U.heap.size ≤ w3.heap.size ∧ U.heap.size ≤ w4.heap.size := by
  obtain ⟨i0, hi0, hz0, hz1, hz2⟩ := info_partsS infoLv
  have hb1 : Below U.heap.size U U.drew := (Below.refl _ _).drew
  have hb2 : Below U.heap.size U (U.drew.alloc (.cells #[.slice y.a y.vs.length y.c] 29)) := hb1.trans (belowA (w := U.drew) _)
  have h1 := h.keep hU
  have hD := h1.keep hb1
  have hA := h1.keep hb2
  have hzU : w0.heap.size + 1 ≤ U.heap.size := by have := h1.map.blt; omega
  have hzA : (U.drew.alloc (.cells #[.slice y.a y.vs.length y.c] 29)).heap.size = U.heap.size + 1 := by simp
  have hwU := hU.size
  have hmb := h.map.blt
  by_cases hm : y.pr ∈ gs.map Gp.p
  · obtain ⟨g, hg, hgp⟩ := List.mem_map.1 hm
    obtain ⟨j, hj⟩ := List.getElem?_of_mem hg
    have hjm : ∀ {W : World}, Gs w0 W ls gs → (gs.map (fun g => (g.p, g.sv ls)))[j]? = some (y.pr, g.sv ls) := fun _ => by rw [List.getElem?_map, hj, ← hgp]; rfl
    have k0 := MapG.look_yes mkT hD.map (hjm hD) false
    have k1 := MapG.look_yes mkT hA.map (hjm hA) false
    simp only [sV', Bool.false_eq_true, if_false] at k0 k1
    obtain ⟨nv, w3, hrun, hown', hgrow, hnilx, hloc⟩ := run_append_own_at (P := Tryz.prog) (U.drew.alloc (.cells #[.slice y.a y.vs.length y.c] 29)) (w0.heap.size + 1) 41 41 29 i0 _ 1 24 Tryz.underlying41 hi0 hz0 hz1 hz2 rfl (by decide) _ _ _ (hA.own g hg) ⟨_, 0, none⟩ 1 1 [.slice y.a y.vs.length y.c] rfl (lit_news U.drew #[.slice y.a y.vs.length y.c] _) (by simp [Value.oneCell']) (by have := tups_len g.p ls; unfold maxLen; omega) (by have := tups_len g.p ls; omega) (by omega)
    obtain ⟨g3, c3, rfl⟩ : ∃ g3 c3, nv = .slice (some ⟨g3, 0, none⟩) ((tupsOf g.p ls).length + 1) c3 := by
      rcases hown'.2 with ⟨_, h0⟩ | ⟨g3, c3, cur, e, _⟩
      · omega
      · exact ⟨g3, c3, e⟩
    have hsvb : (g.sv ls).ownBlock = blkA g.a := own_blk _ _ _
    have hmb3 : MapG sV' sOk w3 w0.heap.size (gs.map (fun g => (g.p, g.sv ls))) := hA.map.of_block (hgrow.block _ hA.map.blt (fun e => by
      have := (hA.blk hg (by rw [← hsvb]; exact e.symm)).1
      omega))
    obtain ⟨w4, hput, hm4, ht4⟩ := MapG.over mkT hmb3 (hjm hA) (.slice (some ⟨g3, 0, none⟩) ((tupsOf g.p ls).length + 1) c3)
    have hz3 := hgrow.size
    have hz4 := ht4.grown.size
    have hold : ∀ k, k < U.heap.size + 1 → blkA g.a ≠ some k → k ≠ w0.heap.size → w4.heap[k]? = (U.drew.alloc (.cells #[.slice y.a y.vs.length y.c] 29)).heap[k]? := fun k hk h1 h2 => by
      rw [ht4.grown.block k (by omega) (fun e => h2 (Option.some.inj e)), hgrow.block k (by omega) (fun e => h1 (by rw [← hsvb]; exact e.symm))]
    have hnew : g3 = U.heap.size + 1 ∨ blkA g.a = some g3 := by
      rcases hloc with e | e
      · exact .inr (by rw [← hsvb, ← e]; rfl)
      · left
        have e' : g3 = (U.drew.alloc (.cells #[.slice y.a y.vs.length y.c] 29)).heap.size := Option.some.inj e
        omega
    have hne : ∀ {i : Nat} {g' : Gp}, i ≠ j → gs[i]? = some g' → g'.p ≠ y.pr ∧ (∀ k, blkA g'.a = some k → blkA g.a ≠ some k ∧ k ≠ g3) := by
      intro i g' hij hi
      have hpp : g'.p ≠ y.pr := fun e => hij (nodup_at h.nd (x := y.pr) (by rw [List.getElem?_map, hi, ← e]; rfl) (by rw [List.getElem?_map, hj, ← hgp]; rfl))
      have hkk : ∀ k, blkA g'.a = some k → blkA g.a ≠ some k := fun k hk => by
        rcases Nat.lt_or_gt_of_ne hij with hl | hl
        · exact pw_get h.ap hi hj hl k hk
        · exact fun e => pw_get h.ap hj hi hl k e hk
      refine ⟨hpp, fun k hk => ⟨hkk k hk, fun e => ?_⟩⟩
      have hkb := (h1.blk (List.mem_of_getElem? hi) hk).2
      rcases hnew with e' | e'
      · omega
      · exact hkk k hk (by rw [e, e'])
    refine ⟨_, _, w3, w4, gs.set j ⟨y.pr, some ⟨g3, 0, none⟩, c3⟩, k0, k1, hrun, by simpa only [sV'] using hput, ⟨?_, ?_, ?_, ?_, ?_⟩, ?_, by omega, by omega⟩
    · exact ((hA.bel.grown hgrow (by omega) (fun k hk => by have := (hA.blk hg (by rw [← hsvb]; exact hk)).1; omega))).grown ht4.grown (by omega) (fun k hk => by cases hk; exact Nat.le_refl _)
    · have e : (gs.map (fun g => (g.p, g.sv ls))).set j (y.pr, .slice (some ⟨g3, 0, none⟩) ((tupsOf g.p ls).length + 1) c3) = (gs.set j ⟨y.pr, some ⟨g3, 0, none⟩, c3⟩).map (fun g => (g.p, g.sv (ls ++ [y]))) := by
        apply List.ext_getElem?
        intro i
        rw [List.getElem?_set, List.getElem?_map, List.getElem?_map, List.getElem?_set]
        by_cases hij : j = i
        · subst hij
          have hjl := (List.getElem?_eq_some_iff.1 hj).1
          rw [if_pos rfl, if_pos rfl, if_pos (by simpa using hjl), if_pos hjl]
          simp only [Option.map_some, Gp.sv, tups_same, hgp, List.length_append, List.length_cons, List.length_nil]
        · rw [if_neg hij, if_neg hij]
          cases hi : gs[i]? with
          | none => rfl
          | some g' =>
            simp only [Option.map_some]
            rw [sv_other (hne (fun e => hij e.symm) hi).1]
      rw [e] at hm4
      exact hm4
    · intro g' hg'
      rcases mem_set_ne hg' with rfl | ⟨i, hij, hi⟩
      · have e1 : (tupsOf y.pr (ls ++ [y])) = tupsOf g.p ls ++ [y.tp] := by rw [tups_same, hgp]
        simp only [Gp.sv]
        rw [e1, List.length_append, List.map_append]
        exact own_of_block hown' (fun k hk => ht4.grown.block k (hown'.lt k hk).2 (fun e => by have := (hown'.lt k hk).1; have := Option.some.inj e; omega))
      · obtain ⟨h3, h4⟩ := hne hij hi
        rw [sv_other h3, tups_other h3]
        refine own_of_block (hA.own g' (List.mem_of_getElem? hi)) (fun k hk => ?_)
        have hk' : blkA g'.a = some k := by rw [← hk, Gp.sv, own_blk]
        have hb := h1.blk (List.mem_of_getElem? hi) hk'
        exact hold k (by omega) (h4 k hk').1 (by omega)
    · refine List.pairwise_iff_getElem.2 (fun i k hi hk hik => ?_)
      rw [List.getElem_set, List.getElem_set]
      simp only [List.length_set] at hi hk
      by_cases e1 : j = i
      · have e2 : ¬ j = k := by omega
        rw [if_pos e1, if_neg e2]
        intro q hq
        have hq : g3 = q := Option.some.inj hq
        intro e
        exact (hne (fun e => e2 e.symm) (List.getElem?_eq_getElem hk)).2 q e |>.2 hq.symm
      · rw [if_neg e1]
        by_cases e2 : j = k
        · rw [if_pos e2]
          intro q hq e
          have e : g3 = q := Option.some.inj e
          exact (hne (fun e => e1 e.symm) (List.getElem?_eq_getElem hi)).2 q hq |>.2 e.symm
        · rw [if_neg e2]
          exact List.pairwise_iff_getElem.1 h.ap i k hi hk hik
    · intro p
      have e : (gs.set j ⟨y.pr, some ⟨g3, 0, none⟩, c3⟩).map Gp.p = gs.map Gp.p := by
        apply List.ext_getElem?
        intro i
        rw [List.getElem?_map, List.getElem?_map, List.getElem?_set]
        split
        · rename_i e
          subst e
          rw [if_pos (List.getElem?_eq_some_iff.1 hj).1, hj]
          simp [hgp]
        · rfl
      rw [e, h.names, List.map_append, List.mem_append]
      constructor
      · exact .inl
      · rintro (h3 | h3)
        · exact h3
        · have h3 : p = y.pr := by simpa using h3
          rw [h3]
          exact (h.names _).1 hm
    · intro k hk1 hk2
      have hnk : blkA g.a ≠ some k := fun e => by have := (h.blk hg e).2; omega
      have e1 : (U.drew.alloc (.cells #[.slice y.a y.vs.length y.c] 29)).heap[k]? = U.heap[k]? := hb2.block k hk2
      exact ⟨(hgrow.block k (by omega) (fun e => hnk (by rw [← hsvb]; exact e.symm))).trans e1, (hold k (by omega) hnk (by omega)).trans e1⟩
  · have hmk : ∀ {W : World}, Gs w0 W ls gs → y.pr ∉ (gs.map (fun g => (g.p, g.sv ls))).map Prod.fst := fun _ => by rw [List.map_map]; exact hm
    have k0 := MapG.look_no mkT hD.map hy (hmk hD) false
    have k1 := MapG.look_no mkT hA.map hy (hmk hA) false
    simp only [sV', Bool.false_eq_true, if_false] at k0 k1
    obtain ⟨nv, w3, hrun, hown', hgrow, hnilx, hloc⟩ := run_append_own_at (P := Tryz.prog) (U.drew.alloc (.cells #[.slice y.a y.vs.length y.c] 29)) (w0.heap.size + 1) 41 41 29 i0 _ 1 24 Tryz.underlying41 hi0 hz0 hz1 hz2 rfl (by decide) (.slice none 0 0) 0 [] (World.ownsRow_nil _ _ _ _) ⟨_, 0, none⟩ 1 1 [.slice y.a y.vs.length y.c] rfl (lit_news U.drew #[.slice y.a y.vs.length y.c] _) (by simp [Value.oneCell']) (by unfold maxLen; omega) (by omega) (by omega)
    obtain ⟨g3, c3, rfl⟩ : ∃ g3 c3, nv = .slice (some ⟨g3, 0, none⟩) 1 c3 := by
      rcases hown'.2 with ⟨_, h0⟩ | ⟨g3, c3, cur, e, _⟩
      · omega
      · exact ⟨g3, c3, e⟩
    have hmb3 : MapG sV' sOk w3 w0.heap.size (gs.map (fun g => (g.p, g.sv ls))) := hA.map.of_block (hgrow.block _ hA.map.blt (fun e => by cases e))
    obtain ⟨w4, hput, hm4, ht4⟩ := MapG.put mkT hmb3 hy (hmk hA) (.slice (some ⟨g3, 0, none⟩) 1 c3)
    have hz3 := hgrow.size
    have hz4 := ht4.grown.size
    have hold : ∀ k, k < U.heap.size + 1 → k ≠ w0.heap.size → w4.heap[k]? = (U.drew.alloc (.cells #[.slice y.a y.vs.length y.c] 29)).heap[k]? := fun k hk h2 => by
      rw [ht4.grown.block k (by omega) (fun e => h2 (Option.some.inj e)), hgrow.block k (by omega) (fun e => by cases e)]
    have hnew : g3 = U.heap.size + 1 := by
      rcases hloc with e | e
      · cases e
      · have e' : g3 = (U.drew.alloc (.cells #[.slice y.a y.vs.length y.c] 29)).heap.size := Option.some.inj e
        omega
    have hpn : ∀ g' ∈ gs, g'.p ≠ y.pr := fun g' hg' e => hm (e ▸ List.mem_map_of_mem hg')
    have ht0 : tupsOf y.pr ls = [] := tups_none (fun e => hm ((h.names _).2 e))
    refine ⟨_, _, w3, w4, gs ++ [⟨y.pr, some ⟨g3, 0, none⟩, c3⟩], k0, k1, hrun, by simpa only [sV'] using hput, ⟨?_, ?_, ?_, ?_, ?_⟩, ?_, by omega, by omega⟩
    · exact ((hA.bel.grown hgrow (by omega) (fun k hk => by cases hk))).grown ht4.grown (by omega) (fun k hk => by cases hk; exact Nat.le_refl _)
    · have e : (gs.map (fun g => (g.p, g.sv ls))) ++ [(y.pr, .slice (some ⟨g3, 0, none⟩) 1 c3)] = (gs ++ [(⟨y.pr, some ⟨g3, 0, none⟩, c3⟩ : Gp)]).map (fun g : Gp => (g.p, g.sv (ls ++ [y]))) := by
        rw [List.map_append]
        have e1 : gs.map (fun g : Gp => (g.p, g.sv ls)) = gs.map (fun g : Gp => (g.p, g.sv (ls ++ [y]))) := List.map_congr_left (fun g' hg' => by rw [sv_other (hpn g' hg')])
        rw [e1]
        simp [Gp.sv, tups_same, ht0]
      rw [e] at hm4
      exact hm4
    · intro g' hg'
      rcases List.mem_append.1 hg' with hg' | hg'
      · have h3 := hpn g' hg'
        rw [sv_other h3, tups_other h3]
        refine own_of_block (hA.own g' hg') (fun k hk => ?_)
        have hb := h1.blk hg' (show blkA g'.a = some k by rw [← hk, Gp.sv, own_blk])
        exact hold k (by omega) (by omega)
      · obtain rfl := List.mem_singleton.1 hg'
        have e1 : tupsOf y.pr (ls ++ [y]) = [y.tp] := by rw [tups_same, ht0]; rfl
        have ho : w3.ownsRow (w0.heap.size + 1) 29 1 (Gp.sv ⟨y.pr, some ⟨g3, 0, none⟩, c3⟩ (ls ++ [y])) (tupsOf y.pr (ls ++ [y])).length ((tupsOf y.pr (ls ++ [y])).map XF.tcell) := by
          unfold Gp.sv
          simp only
          rw [e1]
          exact hown'
        exact own_of_block ho (fun k hk => ht4.grown.block k (ho.lt k hk).2 (fun e => by have := (ho.lt k hk).1; have := Option.some.inj e; omega))
    · rw [List.pairwise_append]
      refine ⟨h.ap, List.pairwise_singleton _ _, fun g' hg' z hz k hk => ?_⟩
      rw [List.mem_singleton.1 hz]
      intro e
      have e' : g3 = k := Option.some.inj e
      have := (h1.blk hg' hk).2
      omega
    · intro p
      rw [List.map_append, List.map_append, List.mem_append, List.mem_append, h.names]
      simp
    · intro k hk1 hk2
      have e1 : (U.drew.alloc (.cells #[.slice y.a y.vs.length y.c] 29)).heap[k]? = U.heap[k]? := hb2.block k hk2
      exact ⟨(hgrow.block k (by omega) (fun e => by cases e)).trans e1, (hold k (by omega) (by omega)).trans e1⟩
end Go.Proofs.YtoppgalbmijhdaaGreatDoor
