import Derived.Test.YteabclfhmapabaaGreatDoorA9
import Derived.Test.YteabclfhmapabaaGreatDoorA12
section
namespace Go.Proofs.YteabclfhmapabaaGreatDoor
open Go.RowKit Go.Maps
set_option linter.unusedVariables false
set_option linter.unusedSimpArgs false
attribute [local go_sem ↓] Go.wp_at_zero Go.wp_at_succ

/-- a pointer to a block -/
def ptrB (b : Nat) : List Value := [.pointer (some ⟨b, 0, none⟩)]
theorem infoPEq : (Tryz.prog.info? 114).map (fun i => (i.zero, i.size, i.bytes)) = some (some (.pointer none), 1, 8) := by kernel_rfl
/-- the list of what waits: pointers to these blocks -/
structure Wk (B bw : Nat) (ps : List Nat) (sv : Value) (w : World) : Prop where
  r : RL w bw 112 [sv]
  own : w.ownsRow B 114 1 sv ps.length (ps.flatMap ptrB)
  ap : ∀ g, sv.ownBlock = some g → g ≠ bw
/-- its blocks -/
def WP (bw : Nat) (sv : Value) (k : Nat) : Prop := k = bw ∨ sv.ownBlock = some k
theorem Wk.keep {B bw : Nat} {ps : List Nat} {sv : Value} {w w' : World} (h : Wk B bw ps sv w) (hk : ∀ k, WP bw sv k → w'.heap[k]? = w.heap[k]?) : Wk B bw ps sv w' :=
  ⟨World.rowIs.of_block h.r (hk _ (.inl rfl)), own_of_block h.own (fun g hg => hk _ (.inr hg)), h.ap⟩
theorem Wk.lt {B bw : Nat} {ps : List Nat} {sv : Value} {w : World} (h : Wk B bw ps sv w) : ∀ k, WP bw sv k → k < w.heap.size := by
  rintro k (rfl | e)
  · exact World.rowIs.lt h.r
  · exact (h.own.lt k e).2
/-- one more waits -/
theorem Wk.more {B bw b : Nat} {ps : List Nat} {sv sv' : Value} {w w3 Y : World} (h : Wk B bw ps sv w) (hY : Below w.heap.size w Y)
    (hown' : w3.ownsRow B 114 1 sv' (ps.length + 1) (ps.flatMap ptrB ++ [.pointer (some ⟨b, 0, none⟩)])) (hgrow : Y.grownBy w3 sv.ownBlock) (hloc : sv'.ownBlock = sv.ownBlock ∨ sv'.ownBlock = some Y.heap.size) :
    RL w3 bw 112 [sv] ∧ Wk B bw (ps ++ [b]) sv' (w3.setCell ⟨bw, 0, none⟩ sv') ∧ Tz (WP bw sv) w (w3.setCell ⟨bw, 0, none⟩ sv') ∧ (∀ g, sv'.ownBlock = some g → sv.ownBlock = some g ∨ w.heap.size ≤ g) := by
  have hlt := h.lt
  have hbw := hlt bw (.inl rfl)
  have hsz := hY.size
  have hz3 : w.heap.size ≤ w3.heap.size := Nat.le_trans hsz hgrow.size
  have k3 : ∀ k, k < w.heap.size → some k ≠ sv.ownBlock → w3.heap[k]? = w.heap[k]? := fun k hk hn => by
    rw [hgrow.block k (by omega) hn, hY.block k hk]
  have hnbw : some bw ≠ sv.ownBlock := fun e => (h.ap bw e.symm) rfl
  have hr : RL w3 bw 112 [sv] := World.rowIs.of_block h.r (k3 bw hbw hnbw)
  have hnew : ∀ g, sv'.ownBlock = some g → sv.ownBlock = some g ∨ w.heap.size ≤ g := fun g hg => by
    rcases hloc with e | e
    · exact .inl (by rw [← e]; exact hg)
    · rw [e] at hg
      have := Option.some.inj hg
      exact .inr (by omega)
  have hap : ∀ g, sv'.ownBlock = some g → g ≠ bw := fun g hg => by
    rcases hnew g hg with e | e
    · exact h.ap g e
    · omega
  have kf : ∀ k, k ≠ bw → (w3.setCell ⟨bw, 0, none⟩ sv').heap[k]? = w3.heap[k]? := fun k hk => heap_setCell_other _ _ _ _ (by show k ≠ bw; exact hk)
  refine ⟨hr, ⟨hr.set 0 sv', ?_, hap⟩, ?_, hnew⟩
  · have e1 : (ps ++ [b]).length = ps.length + 1 := by simp
    have e2 : (ps ++ [b]).flatMap ptrB = ps.flatMap ptrB ++ [.pointer (some ⟨b, 0, none⟩)] := by rw [List.flatMap_append]; rfl
    rw [e1, e2]
    exact own_of_block hown' (fun g hg => kf g (hap g hg))
  · refine ⟨hgrow.os.trans hY.os, hgrow.tape.trans hY.tape, hgrow.output.trans hY.output, by simp only [World.size_setCell]; omega, fun k hk he => ?_⟩
    rw [kf k (fun e => he (.inl e))]
    exact k3 k hk (fun e => he (.inr e.symm))
set_option maxHeartbeats 1600000 in
theorem add_any {B bw : Nat} {ps : List Nat} {sv : Value} {w : World} (h : Wk B bw ps sv w) (hB : B ≤ w.heap.size) (b : Nat) (hl : ps.length ≤ 1000000000) :
    Calls Tryz.prog 45 #[.pointer (some ⟨bw, 0, none⟩), .pointer (some ⟨b, 0, none⟩)] w fun e w' => (∃ u, e = .returned u) ∧ ∃ sv', Wk B bw (ps ++ [b]) sv' w' ∧ Tz (WP bw sv) w w' ∧ (∀ g, sv'.ownBlock = some g → sv.ownBlock = some g ∨ w.heap.size ≤ g) := by
  obtain ⟨i0, hi0, hz0, hz1, hz2⟩ := info_parts infoPEq
  have HH := Lib.hid h
  obtain ⟨sa, sc, rfl, _⟩ := own_form h.own
  have c0 := h.r.at (j := 0) rfl
  have BA := Lib.hid (belowA (w := w) (.cells #[.pointer (some ⟨b, 0, none⟩)] 114))
  clear h
  go_enter Tryz.func45, Tryz.ntmps45
  go_wp2_with (at_builtin; refine wpList_append_own_at _ rfl (.tmp 8) (.tmp 10) 110 rfl B 114 i0 _ 1 8 Tryz.underlying110 hi0 hz0 hz1 hz2 rfl (by decide) (.slice sa ps.length sc) ps.length (ps.flatMap ptrB) (by simp [Act.eval, Act.put]) (own_below HH.out.own BA.out) ⟨w.heap.size, 0, none⟩ 1 1 [.pointer (some ⟨b, 0, none⟩)] (by simp [Act.eval, Act.put]) rfl (lit_news w #[.pointer (some ⟨b, 0, none⟩)] _) (by simp [Value.oneCell']) (by unfold maxLen; omega) (by omega) (by simp; omega) ?_; intro v' w3 hown' hgrow hnil hloc; have HM := Lib.hid (HH.out.more BA.out hown' hgrow hloc); have q1 := HM.out.1.at (j := 0) rfl; have f1 := World.rowIs.frozen HM.out.1 0; obtain ⟨a6, c6, rfl, _⟩ := own_form hown'; clear hown' hgrow hnil hloc c0)
  go_end0
  exact ⟨⟨_, rfl⟩, _, HM.out.2.1, HM.out.2.2.1, HM.out.2.2.2⟩
end Go.Proofs.YteabclfhmapabaaGreatDoor
end
section
namespace Go.Proofs.YteabclfhmapabaaGreatDoor
open Go.RowKit Go.Maps
set_option linter.unusedVariables false
set_option linter.unusedSimpArgs false
attribute [local go_sem ↓] Go.wp_at_zero Go.wp_at_succ

/-- an equation's blocks -/
def EP (r : Er) (k : Nat) : Prop := k = r.be ∨ (∃ off, r.a0 = some ⟨k, off, none⟩) ∨ ∃ off, r.a1 = some ⟨k, off, none⟩
theorem EqIs.lt {bf bm : Nat} {vs : List Vb} {fs : List ByteArray} {sv : Value} {w : World} {r : Er} (h : EqIs bf bm vs fs sv w r) : ∀ k, EP r k → k < w.heap.size ∧ ¬ FP bf bm vs sv k := by
  rintro k (rfl | ⟨off, e⟩ | ⟨off, e⟩)
  · exact ⟨World.rowIs.lt h.row, h.nf⟩
  · exact ⟨(h.g0 k off e).2.2, (h.g0 k off e).1⟩
  · exact ⟨(h.g1 k off e).2.2, (h.g1 k off e).1⟩
/-- an equation stays while its blocks stay -/
theorem EqIs.keep2 {bf bm : Nat} {vs vs' : List Vb} {fs fs' : List ByteArray} {sv sv' : Value} {w w' : World} {r : Er} (h : EqIs bf bm vs fs sv w r) (hz : w.heap.size ≤ w'.heap.size) (hb : ∀ k, EP r k → w'.heap[k]? = w.heap[k]?) (hfs : ∀ n ∈ fs, n ∈ fs') (hvs : ∀ x ∈ vs, x ∈ vs') (hnf : ∀ k, EP r k → ¬ FP bf bm vs' sv' k) : EqIs bf bm vs' fs' sv' w' r := by
  have k0 : ∀ g off, r.a0 = some ⟨g, off, none⟩ → w'.heap[g]? = w.heap[g]? := fun g off e => hb g (.inr (.inl ⟨off, e⟩))
  have k1 : ∀ g off, r.a1 = some ⟨g, off, none⟩ → w'.heap[g]? = w.heap[g]? := fun g off e => hb g (.inr (.inr ⟨off, e⟩))
  refine ⟨World.rowIs.of_block h.row (hb _ (.inl rfl)), h.q0.keep hz k0, h.q1.keep hz k1, h.n0, h.n1, ?_, ?_, fun x e => hvs x (h.m0 x e), fun x e => hvs x (h.m1 x e), fun x e => hvs x (h.i0 x e), fun x e => hvs x (h.i1 x e), hnf _ (.inl rfl), fun g off e => ⟨hnf g (.inr (.inl ⟨off, e⟩)), (h.g0 g off e).2.1, Nat.lt_of_lt_of_le (h.g0 g off e).2.2 hz⟩, fun g off e => ⟨hnf g (.inr (.inr ⟨off, e⟩)), (h.g1 g off e).2.1, Nat.lt_of_lt_of_le (h.g1 g off e).2.2 hz⟩⟩
  · obtain ⟨ds, e, hd⟩ := h.v0
    exact ⟨ds, e, fun n hn => hfs n (hd n hn)⟩
  · obtain ⟨ds, e, hd⟩ := h.v1
    exact ⟨ds, e, fun n hn => hfs n (hd n hn)⟩
/-- equations that lie apart -/
structure Eqs (bf bm : Nat) (vs : List Vb) (fs : List ByteArray) (sv : Value) (w : World) (L : List Er) : Prop where
  is : ∀ r ∈ L, EqIs bf bm vs fs sv w r
  nd : (L.map Er.be).Nodup
  ap : ∀ r ∈ L, ∀ r' ∈ L, ∀ k, EP r k → k = r'.be → r.be = r'.be
theorem Eqs.keep {bf bm : Nat} {vs vs' : List Vb} {fs fs' : List ByteArray} {sv sv' : Value} {w w' : World} {L : List Er} (h : Eqs bf bm vs fs sv w L) (hz : w.heap.size ≤ w'.heap.size) (hb : ∀ r ∈ L, ∀ k, EP r k → w'.heap[k]? = w.heap[k]?) (hfs : ∀ n ∈ fs, n ∈ fs') (hvs : ∀ x ∈ vs, x ∈ vs') (hnf : ∀ k, k < w.heap.size → ¬ FP bf bm vs sv k → ¬ FP bf bm vs' sv' k) : Eqs bf bm vs' fs' sv' w' L :=
  ⟨fun r hr => (h.is r hr).keep2 hz (hb r hr) hfs hvs (fun k hk => hnf k ((h.is r hr).lt k hk).1 ((h.is r hr).lt k hk).2), h.nd, h.ap⟩
theorem Eqs.sub {bf bm : Nat} {vs : List Vb} {fs : List ByteArray} {sv : Value} {w : World} {L M : List Er} (h : Eqs bf bm vs fs sv w L) (hs : M.Sublist L) : Eqs bf bm vs fs sv w M :=
  ⟨fun r hr => h.is r (hs.subset hr), (hs.map _).nodup h.nd, fun r hr r' hr' => h.ap r (hs.subset hr) r' (hs.subset hr')⟩
/-- one of them is looked at -/
theorem Eqs.step {B bf bm : Nat} {vs : List Vb} {fs : List ByteArray} {sv : Value} {w w' : World} {ks rest : List Er} {r : Er} {o : Option ByteArray} (h : Eqs bf bm vs fs sv w (ks ++ r :: rest)) (hf : Fd B bf bm vs fs sv w) (hg : GvP B bf bm vs fs sv r o w w') :
    ∃ r' sv', r'.be = r.be ∧ r'.q = r.q ∧ (∀ k, EP r' k → EP r k) ∧ Fd B bf bm vs (fs ++ o.toList) sv' w' ∧ Eqs bf bm vs (fs ++ o.toList) sv' w' (ks ++ r' :: rest) ∧ Tz (fun k => FP bf bm vs sv k ∨ k = r.be) w w' ∧ (∀ g, sv'.ownBlock = some g → sv.ownBlock = some g ∨ w.heap.size ≤ g) := by
  obtain ⟨r', sv', h1, h2, h3, h4, h5, h6, h7⟩ := hg
  have hr : r ∈ ks ++ r :: rest := List.mem_append.2 (.inr List.mem_cons_self)
  have hep : ∀ k, EP r' k → EP r k := by
    rintro k (e | ⟨off, e⟩ | ⟨off, e⟩)
    · exact .inl (e.trans h1)
    · obtain ⟨o0, e0⟩ := (h3 k off).1 e
      exact .inr (.inl ⟨o0, e0⟩)
    · obtain ⟨o0, e0⟩ := (h3 k off).2 e
      exact .inr (.inr ⟨o0, e0⟩)
  have hnd := h.nd
  rw [List.map_append, List.map_cons, List.nodup_append, List.nodup_cons] at hnd
  have hne : ∀ x, x ∈ ks ∨ x ∈ rest → x.be ≠ r.be := by
    rintro x (hx | hx) e
    · exact hnd.2.2 _ (List.mem_map.2 ⟨x, hx, rfl⟩) _ List.mem_cons_self e
    · exact hnd.2.1.1 (List.mem_map.2 ⟨x, hx, e⟩)
  have hin : ∀ x, x ∈ ks ∨ x ∈ rest → x ∈ ks ++ r :: rest := by
    rintro x (hx | hx)
    · exact List.mem_append.2 (.inl hx)
    · exact List.mem_append.2 (.inr (List.mem_cons_of_mem _ hx))
  have hsp : ∀ x, x ∈ ks ++ r' :: rest → x = r' ∨ (x ∈ ks ∨ x ∈ rest) := by
    intro x hx
    rcases List.mem_append.1 hx with hx | hx
    · exact .inr (.inl hx)
    · rcases List.mem_cons.1 hx with hx | hx
      · exact .inl hx
      · exact .inr (.inr hx)
  refine ⟨r', sv', h1, h2.1, hep, h4, ⟨fun x hx => ?_, ?_, fun x hx y hy k hk e => ?_⟩, h6, h7⟩
  · rcases hsp x hx with rfl | hx
    · exact h5
    · have hxi := hin x hx
      refine (h.is x hxi).keep2 h6.size (fun k hk => ?_) (fun n hn => List.mem_append.2 (.inl hn)) (fun y hy => hy) (fun k hk => fp_new hf h7 k ((h.is x hxi).lt k hk).1 ((h.is x hxi).lt k hk).2)
      refine h6.block k ((h.is x hxi).lt k hk).1 ?_
      rintro (e | e)
      · exact ((h.is x hxi).lt k hk).2 e
      · exact hne x hx (h.ap x hxi r hr k hk e)
  · rw [List.map_append, List.map_cons, h1, ← List.map_cons, ← List.map_append]
    exact h.nd
  · rcases hsp x hx with ex | hx2
    · rcases hsp y hy with ey | hy2
      · rw [ex, ey]
      · rw [ex] at hk ⊢
        rw [h1]
        exact h.ap r hr y (hin y hy2) k (hep k hk) e
    · rcases hsp y hy with ey | hy2
      · rw [ey, h1] at e ⊢
        exact h.ap x (hin x hx2) r hr k hk e
      · exact h.ap x (hin x hx2) y (hin y hy2) k hk e
/-- the row of what waits, amid a round: what is kept ahead, what is still to come as it was -/
structure Rr (B g cap : Nat) (ps ks : List Nat) (w : World) (k : Nat) : Prop where
  lo : B ≤ g
  cp : ps.length ≤ cap ∧ cap ≤ maxLen
  le : ks.length ≤ k ∧ k ≤ ps.length
  blk : ∃ cur : Array Value, w.heap[g]? = some (.cells cur 114 (0, 0)) ∧ cur.size = cap ∧ cur.toList.take ks.length = ks.flatMap ptrB ∧ ∀ i, k ≤ i → i < ps.length → cur.toList[i]? = some (.pointer (some ⟨ps.getD i 0, 0, none⟩))
theorem Rr.of_block {B g cap : Nat} {ps ks : List Nat} {w w' : World} {k : Nat} (h : Rr B g cap ps ks w k) (e : w'.heap[g]? = w.heap[g]?) : Rr B g cap ps ks w' k := by
  obtain ⟨cur, hb, r⟩ := h.blk
  exact ⟨h.lo, h.cp, h.le, cur, e.trans hb, r⟩
theorem Rr.lt {B g cap : Nat} {ps ks : List Nat} {w : World} {k : Nat} (h : Rr B g cap ps ks w k) : g < w.heap.size := by
  obtain ⟨cur, hb, _⟩ := h.blk
  exact (Array.getElem?_eq_some_iff.1 hb).1
theorem Rr.cell {B g cap : Nat} {ps ks : List Nat} {w : World} {k : Nat} (h : Rr B g cap ps ks w k) (hk : k < ps.length) : w.cell? ⟨g, k, none⟩ = some (.pointer (some ⟨ps.getD k 0, 0, none⟩)) := by
  obtain ⟨cur, hb, _, _, hc⟩ := h.blk
  rw [cell_of_row w g k cur _ (0, 0) hb, ← hc k (Nat.le_refl _) hk]
  simp
theorem Rr.skip {B g cap : Nat} {ps ks : List Nat} {w : World} {k : Nat} (h : Rr B g cap ps ks w k) (hk : k < ps.length) : Rr B g cap ps ks w (k + 1) := by
  obtain ⟨cur, hb, h1, h2, hc⟩ := h.blk
  exact ⟨h.lo, h.cp, ⟨Nat.le_succ_of_le h.le.1, hk⟩, cur, hb, h1, h2, fun i hi => hc i (by omega)⟩
theorem ptrB_len : ∀ l : List Nat, (l.flatMap ptrB).length = l.length
  | [] => rfl
  | b :: l => by rw [List.flatMap_cons, List.length_append, ptrB_len l]; simp [ptrB]; omega
theorem ptrB_at : ∀ (ps : List Nat) (i : Nat), i < ps.length → (ps.flatMap ptrB)[i]? = some (.pointer (some ⟨ps.getD i 0, 0, none⟩))
  | [], i, hi => by simp at hi
  | p :: ps, 0, _ => by simp [List.flatMap_cons, ptrB]
  | p :: ps, i + 1, hi => by
    rw [List.flatMap_cons, show ptrB p ++ ps.flatMap ptrB = .pointer (some ⟨p, 0, none⟩) :: ps.flatMap ptrB from rfl, List.getElem?_cons_succ]
    simp only [List.length_cons] at hi
    exact ptrB_at ps i (by omega)
/-- one more is kept -/
theorem Rr.push {B g cap : Nat} {ps ks : List Nat} {w : World} {k b a : Nat} (h : Rr B g cap ps ks w k) (hk : k < ps.length) (ha : w.cell? ⟨a, 0, none⟩ = some (.pointer (some ⟨b, 0, none⟩)))
    (i0 : TypeInfo) (hi : Tryz.prog.info? 114 = some i0) (hs : i0.size = 1) (c : Nat) :
    ∃ w', (∀ ty, (Builtin.append_ #[110, 110] ty #[.slice (some ⟨g, 0, none⟩) ks.length cap, .slice (some ⟨a, 0, none⟩) 1 c]).run Tryz.prog w = .ok (.slice (some ⟨g, 0, none⟩) (ks.length + 1) cap) w') ∧ Rr B g cap ps (ks ++ [b]) w' (k + 1) ∧ Tz (fun j => j = g) w w' ∧ w'.heap.size = w.heap.size := by
  obtain ⟨cur, hb, h1, h2, hc⟩ := h.blk
  have hr := fun ty => run_append_room (P := Tryz.prog) w 110 ty 114 i0 Tryz.underlying110 hi g ks.length cap cur hb ⟨a, 0, none⟩ 1 c [.pointer (some ⟨b, 0, none⟩)] (by rw [hs]; rfl) (fun j u hj => by
    match j, hj with
    | 0, hj => simp at hj; subst hj; exact ha) (by simp [Value.oneCell']) (by have := h.le; have := h.cp; omega) (by rw [hs]; simp; have := h.le; have := h.cp; omega)
  refine ⟨_, hr, ⟨h.lo, h.cp, ⟨by simp; exact h.le.1, hk⟩, _, setRow_heap w g cur _ _ _ hb, ?_, ?_, fun i hi hl => ?_⟩, ⟨rfl, rfl, rfl, by simp [World.setRow], fun j _ hj => setRow_other w g j _ hj⟩, by simp [World.setRow]⟩
  · rw [hs]
    simp only [List.size_toArray, List.length_append, List.length_take, List.length_drop, Array.length_toList, List.length_cons, List.length_nil]
    have := h.le
    have := h.cp
    omega
  · rw [hs, Nat.mul_one, h2, List.flatMap_append]
    have : (ks ++ [b]).length = (ks.flatMap ptrB ++ [Value.pointer (some ⟨b, 0, none⟩)]).length := by rw [List.length_append, List.length_append, ptrB_len]; rfl
    rw [this]
    exact List.take_left
  · rw [hs, Nat.mul_one, h2]
    have hle := h.le
    have e1 : (ks.flatMap ptrB ++ [Value.pointer (some ⟨b, 0, none⟩)]).length = ks.length + 1 := by rw [List.length_append, ptrB_len]; rfl
    have e2 : [Value.pointer (some ⟨b, 0, none⟩)].length = 1 := rfl
    rw [List.getElem?_append_right (by rw [e1]; omega), e1, e2, List.getElem?_drop, show ks.length + 1 + (i - (ks.length + 1)) = i by omega]
    exact hc i (by omega) hl
/-- where it begins, and where it ends -/
theorem Rr.start {B g cap : Nat} {ps : List Nat} {w : World} (h : w.ownsRow B 114 1 (.slice (some ⟨g, 0, none⟩) ps.length cap) ps.length (ps.flatMap ptrB)) : Rr B g cap ps [] w 0 := by
  obtain ⟨hl, ⟨h1, _⟩ | ⟨g', cap', cur, h1, hb, hg, hn, hm, hs, ht⟩⟩ := h
  · cases h1
  · injection h1 with h1 _ h3
    injection h1 with h1
    injection h1 with h1 _ _
    subst h1 h3
    refine ⟨hb, ⟨hn, hm⟩, ⟨Nat.zero_le _, Nat.zero_le _⟩, cur, hg, by omega, rfl, fun i _ hi => ?_⟩
    rw [Nat.mul_one] at ht
    have e1 : (ps.flatMap ptrB)[i]? = some (.pointer (some ⟨ps.getD i 0, 0, none⟩)) := by
      exact ptrB_at ps i hi
    rw [← e1, ← ht, List.getElem?_take, if_pos hi]
theorem Rr.done {B g cap : Nat} {ps ks : List Nat} {w : World} {k : Nat} (h : Rr B g cap ps ks w k) : w.ownsRow B 114 1 (.slice (some ⟨g, 0, none⟩) ks.length cap) ks.length (ks.flatMap ptrB) := by
  obtain ⟨cur, hb, h1, h2, hc⟩ := h.blk
  have := h.le
  have := h.cp
  exact ⟨by rw [ptrB_len]; omega, .inr ⟨g, cap, cur, rfl, h.lo, hb, by omega, h.cp.2, by omega, by rw [Nat.mul_one]; exact h2⟩⟩
end Go.Proofs.YteabclfhmapabaaGreatDoor
end
section
namespace Go.Proofs.YteabclfhmapabaaGreatDoor
open Go.RowKit Go.Maps
set_option linter.unusedVariables false
set_option linter.unusedSimpArgs false
attribute [local go_sem ↓] Go.wp_at_zero Go.wp_at_succ
attribute [-go_sem] Builtin.append_

/-- the method value f.solve -/
def solveF (bf : Nat) : Value := .func (.func 48) #[.pointer (some ⟨bf, 0, none⟩)] #[]
/-- amid a round -/
structure Rs (B bf bm bw g cap : Nat) (vs : List Vb) (w0 : World) (fs0 : List ByteArray) (sv0 : Value) (L0 : List Er) (k : Nat) (fs : List ByteArray) (sv : Value) (ks rest : List Er) (w : World) : Prop where
  fd : Fd B bf bm vs fs sv w
  eq : Eqs bf bm vs fs sv w (ks ++ rest)
  rr : Rr B g cap (L0.map Er.be) (ks.map Er.be) w k
  rw : RL w bw 112 [.slice (some ⟨g, 0, none⟩) L0.length cap]
  rs : rest.map Er.be = (L0.map Er.be).drop k
  pr : progR (L0.map Er.q) fs0 = ((progR (rest.map Er.q) fs).1, ks.map Er.q ++ (progR (rest.map Er.q) fs).2)
  wa : ∀ j, j = bw ∨ j = g → ¬ FP bf bm vs sv j ∧ ∀ r ∈ ks ++ rest, ¬ EP r j
  ne : g ≠ bw
  tz : Tz (fun j => FP bf bm vs sv0 j ∨ j = bw ∨ j = g ∨ ∃ r ∈ L0, j = r.be) w0 w
  nw : ∀ j, sv.ownBlock = some j → sv0.ownBlock = some j ∨ w0.heap.size ≤ j
  ln : fs.length + (ks.length + rest.length) = fs0.length + L0.length
  sb : ∀ r ∈ ks ++ rest, ∃ r0 ∈ L0, r.be = r0.be
theorem drop_cons {α : Type} {l m : List α} {x : α} {k : Nat} (h : x :: m = l.drop k) : k < l.length ∧ l[k]? = some x ∧ m = l.drop (k + 1) := by
  have hlt : k < l.length := by
    have := congrArg List.length h
    rw [List.length_cons, List.length_drop] at this
    omega
  rw [List.drop_eq_getElem_cons hlt] at h
  injection h with h1 h2
  exact ⟨hlt, by rw [List.getElem?_eq_getElem hlt, h1], h2⟩
/-- the one that is looked at now -/
theorem Rs.next {B bf bm bw g cap : Nat} {vs : List Vb} {w0 : World} {fs0 : List ByteArray} {sv0 : Value} {L0 : List Er} {k : Nat} {fs : List ByteArray} {sv : Value} {ks rest : List Er} {w : World} (h : Rs B bf bm bw g cap vs w0 fs0 sv0 L0 k fs sv ks rest w) (hk : k < L0.length) :
    ∃ r rest', rest = r :: rest' ∧ w.cell? ⟨g, k, none⟩ = some (.pointer (some ⟨r.be, 0, none⟩)) ∧ EqIs bf bm vs fs sv w r := by
  have hl : k < (L0.map Er.be).length := by simpa using hk
  cases rest with
  | nil =>
    have := congrArg List.length h.rs
    rw [List.length_drop] at this
    simp at this
    omega
  | cons r rest' =>
    obtain ⟨_, h1, _⟩ := drop_cons (x := r.be) (m := rest'.map Er.be) (by rw [← h.rs]; rfl)
    refine ⟨r, rest', rfl, ?_, h.eq.is r (List.mem_append.2 (.inr List.mem_cons_self))⟩
    have := h.rr.cell hl
    rw [List.getD_eq_getElem?_getD, h1] at this
    exact this
/-- behind solve -/
theorem Rs.solved {B bf bm bw g cap : Nat} {vs : List Vb} {w0 : World} {fs0 : List ByteArray} {sv0 : Value} {L0 : List Er} {k : Nat} {fs : List ByteArray} {sv : Value} {ks rest : List Er} {r : Er} {w w' : World} (h : Rs B bf bm bw g cap vs w0 fs0 sv0 L0 k fs sv ks (r :: rest) w) (hg : GvP B bf bm vs fs sv r (gaveO fs r.q) w w') :
    ∃ r' sv', r'.be = r.be ∧ r'.q = r.q ∧ Fd B bf bm vs (fs ++ (gaveO fs r.q).toList) sv' w' ∧ Eqs bf bm vs (fs ++ (gaveO fs r.q).toList) sv' w' (ks ++ r' :: rest) ∧ Rr B g cap (L0.map Er.be) (ks.map Er.be) w' k ∧ RL w' bw 112 [.slice (some ⟨g, 0, none⟩) L0.length cap] ∧
      (∀ j, j = bw ∨ j = g → ¬ FP bf bm vs sv' j ∧ ∀ x ∈ ks ++ r' :: rest, ¬ EP x j) ∧ Tz (fun j => FP bf bm vs sv0 j ∨ j = bw ∨ j = g ∨ ∃ r ∈ L0, j = r.be) w0 w' ∧ (∀ j, sv'.ownBlock = some j → sv0.ownBlock = some j ∨ w0.heap.size ≤ j) := by
  obtain ⟨r', sv', h1, h2, h3, h4, h5, h6, h7⟩ := h.eq.step h.fd hg
  have hin : r ∈ ks ++ r :: rest := List.mem_append.2 (.inr List.mem_cons_self)
  have hbw : bw < w.heap.size := World.rowIs.lt h.rw
  have hgl : g < w.heap.size := h.rr.lt
  have hkp : ∀ j, j = bw ∨ j = g → w'.heap[j]? = w.heap[j]? := fun j hj => by
    refine h6.block j (by rcases hj with rfl | rfl <;> assumption) ?_
    rintro (e | e)
    · exact (h.wa j hj).1 e
    · exact (h.wa j hj).2 r hin (.inl e)
  refine ⟨r', sv', h1, h2, h4, h5, h.rr.of_block (hkp g (.inr rfl)), World.rowIs.of_block h.rw (hkp bw (.inl rfl)), fun j hj => ⟨?_, fun x hx e => ?_⟩, h.tz.trans h6 ?_, fun j hj => ?_⟩
  · exact fp_new h.fd h7 j (by rcases hj with rfl | rfl <;> assumption) (h.wa j hj).1
  · rcases List.mem_append.1 hx with hx | hx
    · exact (h.wa j hj).2 x (List.mem_append.2 (.inl hx)) e
    · rcases List.mem_cons.1 hx with rfl | hx
      · exact (h.wa j hj).2 r hin (h3 j e)
      · exact (h.wa j hj).2 x (List.mem_append.2 (.inr (List.mem_cons_of_mem _ hx))) e
  · rintro b hb (e | e)
    · rcases e with e | e | e | e
      · exact .inl (.inl e)
      · exact .inl (.inr (.inl e))
      · rcases h.nw b e with k | k
        · exact .inl (.inr (.inr (.inl k)))
        · omega
      · exact .inl (.inr (.inr (.inr e)))
    · have : r.be ∈ (L0.map Er.be).drop k := by rw [← h.rs]; exact List.mem_cons_self
      obtain ⟨r0, hr0, e0⟩ := List.mem_map.1 (List.mem_of_mem_drop this)
      exact .inr (.inr (.inr ⟨r0, hr0, by rw [e, e0]⟩))
  · rcases h7 j hj with e | e
    · exact h.nw j e
    · exact .inr (Nat.le_trans h.tz.size e)
/-- it gave something: it is let go -/
theorem Rs.gone {B bf bm bw g cap : Nat} {vs : List Vb} {w0 : World} {fs0 : List ByteArray} {sv0 : Value} {L0 : List Er} {k : Nat} {fs : List ByteArray} {sv : Value} {ks rest : List Er} {r : Er} {w w' : World} {v : ByteArray} (h : Rs B bf bm bw g cap vs w0 fs0 sv0 L0 k fs sv ks (r :: rest) w) (hv : gaveO fs r.q = some v) (hg : GvP B bf bm vs fs sv r (some v) w w') :
    ∃ sv', Rs B bf bm bw g cap vs w0 fs0 sv0 L0 (k + 1) (fs ++ [v]) sv' ks rest w' := by
  rw [← hv] at hg
  obtain ⟨r', sv', h1, h2, h3, h4, h5, h6, h7, h8, h9⟩ := h.solved hg
  rw [hv] at h3 h4
  obtain ⟨hk, _, hd⟩ := drop_cons (x := r.be) (m := rest.map Er.be) (by rw [← h.rs]; rfl)
  have hsub : (ks ++ rest).Sublist (ks ++ r' :: rest) := (List.Sublist.refl ks).append (List.sublist_cons_self r' rest)
  refine ⟨sv', h3, h4.sub hsub, h5.skip hk, h6, hd, ?_, fun j hj => ⟨(h7 j hj).1, fun x hx => (h7 j hj).2 x (hsub.subset hx)⟩, h.ne, h8, h9, ?_, fun x hx => h.sb x (by
    rcases List.mem_append.1 hx with hx | hx
    · exact List.mem_append.2 (.inl hx)
    · exact List.mem_append.2 (.inr (List.mem_cons_of_mem _ hx)))⟩
  · have := h.pr
    rw [List.map_cons, progR, hv] at this
    exact this
  · have := h.ln
    rw [List.length_cons] at this
    rw [List.length_append, List.length_singleton]
    omega
/-- it gave nothing: it is kept -/
theorem Rs.kept {B bf bm bw g cap : Nat} {vs : List Vb} {w0 : World} {fs0 : List ByteArray} {sv0 : Value} {L0 : List Er} {k : Nat} {fs : List ByteArray} {sv : Value} {ks rest : List Er} {r : Er} {w w' : World} (h : Rs B bf bm bw g cap vs w0 fs0 sv0 L0 k fs sv ks (r :: rest) w) (hv : gaveO fs r.q = none) (hg : GvP B bf bm vs fs sv r none w w') (hB : B ≤ w0.heap.size)
    (i0 : TypeInfo) (hi : Tryz.prog.info? 114 = some i0) (hs : i0.size = 1) :
    ∃ r' sv' w2, (Builtin.append_ #[110, 110] 110 #[.slice (some ⟨g, 0, none⟩) ks.length cap, .slice (some ⟨w'.heap.size, 0, none⟩) 1 1]).run Tryz.prog (w'.alloc (.cells #[.pointer (some ⟨r.be, 0, none⟩)] 114)) = .ok (.slice (some ⟨g, 0, none⟩) (ks.length + 1) cap) w2 ∧ Rs B bf bm bw g cap vs w0 fs0 sv0 L0 (k + 1) fs sv' (ks ++ [r']) rest w2 := by
  rw [← hv] at hg
  obtain ⟨r', sv', h1, h2, h3, h4, h5, h6, h7, h8, h9⟩ := h.solved hg
  rw [hv] at h3 h4
  simp only [Option.toList_none, List.append_nil] at h3 h4
  obtain ⟨hk, _, hd⟩ := drop_cons (x := r.be) (m := rest.map Er.be) (by rw [← h.rs]; rfl)
  have hA := belowA (w := w') (.cells #[.pointer (some ⟨r.be, 0, none⟩)] 114)
  have hAs : (w'.alloc (.cells #[.pointer (some ⟨r.be, 0, none⟩)] 114)).heap.size = w'.heap.size + 1 := by simp
  obtain ⟨w2, hrun, hrr, ht, hz⟩ := (h5.of_block (hA.block g h5.lt)).push hk (b := r.be) (a := w'.heap.size) (lit_news w' #[.pointer (some ⟨r.be, 0, none⟩)] 114 0 _ rfl) i0 hi hs 1
  rw [List.length_map] at hrun
  have hkp : ∀ j, j < w'.heap.size → j ≠ g → w2.heap[j]? = w'.heap[j]? := fun j hj hne => (ht.block j (by omega) hne).trans (hA.block j hj)
  have hfs : ∀ j, FP bf bm vs sv' j → w2.heap[j]? = w'.heap[j]? := fun j hj => hkp j (h3.lt j hj) (fun e => (h7 g (.inr rfl)).1 (e ▸ hj))
  have hes : ∀ x ∈ ks ++ r' :: rest, ∀ j, EP x j → w2.heap[j]? = w'.heap[j]? := fun x hx j hj => hkp j ((h4.is x hx).lt j hj).1 (fun e => (h7 g (.inr rfl)).2 x hx (e ▸ hj))
  have hbw : bw < w'.heap.size := World.rowIs.lt h6
  have e1 : ks ++ r' :: rest = (ks ++ [r']) ++ rest := by simp
  have hw2 : w'.heap.size ≤ w2.heap.size := by omega
  refine ⟨r', sv', w2, hrun 110, h3.keep hfs, ?_, ?_, World.rowIs.of_block h6 (hkp bw hbw (Ne.symm h.ne)), hd, ?_, fun j hj => ⟨(h7 j hj).1, fun x hx => (h7 j hj).2 x (by rw [e1]; exact hx)⟩, h.ne, ?_, h9, ?_, fun x hx => ?_⟩
  · rw [← e1]
    exact h4.keep hw2 hes (fun n hn => hn) (fun x hx => hx) (fun j _ hj => hj)
  · rw [List.map_append, List.map_cons, List.map_nil, h1]
    exact hrr
  · have := h.pr
    rw [List.map_cons, progR, hv] at this
    rw [this, List.map_append, List.map_cons, List.map_nil, h2, List.append_assoc]
    rfl
  · refine h8.trans (ex' := fun j => j = g) ⟨ht.os.trans hA.os, ht.tape.trans hA.tape, ht.output.trans hA.output, hw2, fun j hj hne => hkp j hj hne⟩ (fun b _ e => .inr (.inr (.inl e)))
  · have := h.ln
    rw [List.length_cons] at this
    rw [List.length_append, List.length_singleton]
    omega
  · rw [← e1] at hx
    rcases List.mem_append.1 hx with hx | hx
    · exact h.sb x (List.mem_append.2 (.inl hx))
    · rcases List.mem_cons.1 hx with rfl | hx
      · rw [h1]
        exact h.sb r (List.mem_append.2 (.inr List.mem_cons_self))
      · exact h.sb x (List.mem_append.2 (.inr (List.mem_cons_of_mem _ hx)))
/-- what a round leaves -/
def RnP (B bf bm bw : Nat) (vs : List Vb) (fs0 : List ByteArray) (sv0 svw0 : Value) (L0 : List Er) (w0 : World) (e : Ending) (w : World) : Prop :=
  ∃ sv svw L, e = .returned (.bool (decide (L.length < L0.length))) ∧ Fd B bf bm vs (progR (L0.map Er.q) fs0).1 sv w ∧ Eqs bf bm vs (progR (L0.map Er.q) fs0).1 sv w L ∧ L.map Er.q = (progR (L0.map Er.q) fs0).2 ∧ Wk B bw (L.map Er.be) svw w ∧ (∀ j, WP bw svw j → ¬ FP bf bm vs sv j ∧ ∀ r ∈ L, ¬ EP r j) ∧
    Tz (fun j => FP bf bm vs sv0 j ∨ WP bw svw0 j ∨ ∃ r ∈ L0, j = r.be) w0 w ∧ (∀ j, sv.ownBlock = some j → sv0.ownBlock = some j ∨ w0.heap.size ≤ j) ∧ (progR (L0.map Er.q) fs0).1.length + L.length = fs0.length + L0.length ∧ ∀ r ∈ L, ∃ r0 ∈ L0, r.be = r0.be
/-- the end of a round -/
theorem Rs.fin {B bf bm bw g cap : Nat} {vs : List Vb} {w0 : World} {fs0 : List ByteArray} {sv0 : Value} {L0 : List Er} {k : Nat} {fs : List ByteArray} {sv : Value} {ks rest : List Er} {w : World} (h : Rs B bf bm bw g cap vs w0 fs0 sv0 L0 k fs sv ks rest w) (hk : k = L0.length) :
    RnP B bf bm bw vs fs0 sv0 (.slice (some ⟨g, 0, none⟩) L0.length cap) L0 w0 (.returned (.bool (decide (ks.length < L0.length)))) (w.setCell ⟨bw, 0, none⟩ (.slice (some ⟨g, 0, none⟩) ks.length cap)) := by
  have hr : rest = [] := by
    have := congrArg List.length h.rs
    rw [List.length_drop, List.length_map, List.length_map] at this
    exact List.length_eq_zero_iff.1 (by omega)
  subst hr
  have hpr : progR (L0.map Er.q) fs0 = (fs, ks.map Er.q) := by
    have := h.pr
    rw [List.map_nil, progR, List.append_nil] at this
    exact this
  have heq := h.eq
  rw [List.append_nil] at heq
  have hwa : ∀ j, j = bw ∨ j = g → ¬ FP bf bm vs sv j ∧ ∀ r ∈ ks, ¬ EP r j := fun j hj => ⟨(h.wa j hj).1, fun r hr => (h.wa j hj).2 r (List.mem_append.2 (.inl hr))⟩
  have hkp : ∀ j, j ≠ bw → (w.setCell ⟨bw, 0, none⟩ (.slice (some ⟨g, 0, none⟩) ks.length cap)).heap[j]? = w.heap[j]? := fun j hj => heap_setCell_other _ _ _ _ (by show j ≠ bw; exact hj)
  have hz : (w.setCell ⟨bw, 0, none⟩ (.slice (some ⟨g, 0, none⟩) ks.length cap)).heap.size = w.heap.size := by simp
  refine ⟨sv, .slice (some ⟨g, 0, none⟩) ks.length cap, ks, rfl, ?_, ?_, ?_, ⟨h.rw.set 0 _, ?_, ?_⟩, ?_, ?_, h.nw, ?_, fun r hr => h.sb r (List.mem_append.2 (.inl hr))⟩
  · rw [hpr]
    exact h.fd.keep (fun j hj => hkp j (fun e => (hwa bw (.inl rfl)).1 (e ▸ hj)))
  · rw [hpr]
    exact heq.keep (by omega) (fun r hr j hj => hkp j (fun e => (hwa bw (.inl rfl)).2 r hr (e ▸ hj))) (fun n hn => hn) (fun x hx => hx) (fun j _ hj => hj)
  · rw [hpr]
  · have := h.rr.done
    rw [List.length_map] at this ⊢
    exact own_of_block this (fun j hj => hkp j (by
      have : g = j := by simpa [Value.ownBlock] using hj
      rw [← this]
      exact h.ne))
  · intro j hj
    have : g = j := by simpa [Value.ownBlock] using hj
    rw [← this]
    exact h.ne
  · rintro j (e | e)
    · exact hwa j (.inl e)
    · exact hwa j (.inr (by simpa [Value.ownBlock] using e.symm))
  · have ht := h.tz
    refine ⟨ht.os, ht.tape, ht.output, by rw [hz]; exact ht.size, fun j hj he => ?_⟩
    rw [hkp j (fun e => he (.inr (.inl (.inl e))))]
    refine ht.block j hj ?_
    rintro (e | e | e | e)
    · exact he (.inl e)
    · exact he (.inr (.inl (.inl e)))
    · exact he (.inr (.inl (.inr (by rw [e]; rfl))))
    · exact he (.inr (.inr e))
  · rw [hpr]
    have := h.ln
    simp only [List.length_nil, Nat.add_zero] at this
    exact this
set_option maxHeartbeats 3200000 in
theorem round_any {B bf bm bw : Nat} {vs : List Vb} {fs : List ByteArray} {sv svw : Value} {L : List Er} {w : World} (hf : Fd B bf bm vs fs sv w) (he : Eqs bf bm vs fs sv w L) (hw : Wk B bw (L.map Er.be) svw w) (ha : ∀ j, WP bw svw j → ¬ FP bf bm vs sv j ∧ ∀ r ∈ L, ¬ EP r j) (hB : B ≤ w.heap.size) (hl : fs.length + L.length ≤ 1000000000) :
    Calls Tryz.prog 47 #[.pointer (some ⟨bw, 0, none⟩), solveF bf] w fun e w' => RnP B bf bm bw vs fs sv svw L w e w' := by
  obtain ⟨i0, hi0, hz0, hz1, hz2⟩ := info_parts infoPEq
  have hml : (L.map Er.be).length = L.length := List.length_map _
  obtain ⟨sa, sc, rfl, hsc⟩ := own_form hw.own
  rw [hml] at hw ha hsc ⊢
  have c0 := hw.r.at (j := 0) rfl
  have f0 := World.rowIs.frozen hw.r 0
  rcases Nat.eq_zero_or_pos L.length with h0 | h0
  · have hL : L = [] := List.length_eq_zero_iff.1 h0
    subst hL
    have HH : Hid (RnP B bf bm bw vs fs sv (.slice sa 0 sc) [] w (.returned (.bool false)) (w.setCell ⟨bw, 0, none⟩ (.slice sa 0 sc))) := by
      have hkp : ∀ j, j ≠ bw → (w.setCell ⟨bw, 0, none⟩ (.slice sa 0 sc)).heap[j]? = w.heap[j]? := fun j hj => heap_setCell_other _ _ _ _ (by show j ≠ bw; exact hj)
      refine ⟨sv, .slice sa 0 sc, [], rfl, hf.keep (fun j hj => hkp j (fun e => (ha bw (.inl rfl)).1 (e ▸ hj))), ⟨fun r hr => (by cases hr), by simp, fun r hr => (by cases hr)⟩, rfl, ⟨hw.r.set 0 _, own_of_block hw.own (fun j hj => hkp j (hw.ap j hj)), hw.ap⟩, fun j hj => ⟨(ha j hj).1, fun r hr => (by cases hr)⟩, ⟨rfl, rfl, rfl, by simp, fun j _ hj => hkp j (fun e => hj (.inr (.inl (.inl e))))⟩, fun j hj => .inl hj, rfl, fun r hr => (by cases hr)⟩
    simp only [List.length_nil] at c0 hsc ⊢
    clear hf he hw ha hml h0
    unfold solveF
    go_enter Tryz.func47, Tryz.ntmps47
    go_wp2
    go_loopw [5, 19] (fun v i wr => v = .slice sa 0 sc ∧ i = .int .i64 0 ∧ wr = w) (fun _ _ _ => 0)
    case atStart => exact ⟨rfl, rfl, rfl⟩
    case round =>
      obtain ⟨rfl, rfl, rfl⟩ := hrel
      go_wp2
      go_ret
      exact HH.out
  · obtain ⟨g, rfl⟩ : ∃ g, sa = some ⟨g, 0, none⟩ := by
      obtain ⟨_, ⟨h1, _⟩ | ⟨g, cap, cur, h1, _⟩⟩ := hw.own
      · injection h1 with _ h2 _
        omega
      · injection h1 with h1 _ _
        exact ⟨g, h1⟩
    have hwo := hw.own
    have HS0 : Hid (Rs B bf bm bw g sc vs w fs sv L 0 fs sv [] L w) := ⟨hf, he, Rr.start (by rw [hml] at hwo ⊢; exact hwo), hw.r, by simp, by simp, fun j hj => ha j (by
      rcases hj with rfl | rfl
      · exact .inl rfl
      · exact .inr rfl), hw.ap g rfl, Tz.refl _ _, fun j hj => .inl hj, by simp, fun r hr => ⟨r, hr, rfl⟩⟩
    have hLs : L.length ≤ 1000000000 := by omega
    clear hf he hw ha hml hwo
    unfold solveF
    go_enter Tryz.func47, Tryz.ntmps47
    go_wp2
    go_loopw [5, 19] (fun v i wr => ∃ (k : Nat) (fs' : List ByteArray) (sv' : Value) (ks rest : List Er), k ≤ L.length ∧ i = .int .i64 k ∧ v = .slice (some ⟨g, 0, none⟩) ks.length sc ∧ Hid (Rs B bf bm bw g sc vs w fs sv L k fs' sv' ks rest wr)) (fun _ i _ => L.length - (intOf i).toNat)
    case atStart => exact ⟨0, fs, sv, [], L, Nat.zero_le _, rfl, rfl, HS0⟩
    case round =>
      clear HS0 c0 f0
      obtain ⟨k, fs', sv', ks, rest, hk, rfl, rfl, HS⟩ := hrel
      by_cases hlt : k < L.length
      · have hlt' : (k : Int) < (L.length : Int) := by omega
        have hk0 : (0 : Int) ≤ (k : Int) := by omega
        obtain ⟨r, rest', rfl, x0, hr⟩ := HS.out.next hlt
        have hlr : fs'.length ≤ 1000000000 := by have := HS.out.ln; omega
        have HC := Lib.hid (solve_any HS.out.fd (Nat.le_trans hB HS.out.tz.size) r hr hlr)
        cases hv : gaveO fs' r.q with
        | some v =>
          rw [hv] at HC
          have HV := Lib.hid hv
          clear hv hr hlr
          go_wp2_with fail
          refine HC.out.mono ?_
          rintro e w1 ⟨rfl, hg⟩
          obtain ⟨sv2, hs2⟩ := HS.out.gone HV.out hg
          have HS2 := Lib.hid hs2
          clear hs2 hg HC HS x0
          go_wp2
          go_roundw
          case rel => exact ⟨k + 1, _, sv2, ks, rest', by omega, by go_num, rfl, HS2⟩
          case measure => simp [intOf]; omega
        | none =>
          rw [hv] at HC
          have HV := Lib.hid hv
          clear hv hr hlr
          go_wp2_with fail
          refine HC.out.mono ?_
          rintro e w1 ⟨rfl, hg⟩
          obtain ⟨r', sv2, w2, hrun, hs2⟩ := HS.out.kept HV.out hg hB i0 hi0 hz1
          have HS2 := Lib.hid hs2
          clear hs2 hg HC HS x0
          go_wp2
          go_roundw
          case rel => exact ⟨k + 1, _, sv2, ks ++ [r'], rest', by omega, by go_num, by simp, HS2⟩
          case measure => simp [intOf]; omega
      · obtain rfl : k = L.length := by omega
        have q0 := HS.out.rw.at (j := 0) rfl
        have q1 := World.rowIs.frozen HS.out.rw 0
        have HF := Lib.hid (HS.out.fin rfl)
        clear HS
        go_wp2
        go_ret
        first
          | exact HF.out
          | (have := HF.out; simpa using this)
end Go.Proofs.YteabclfhmapabaaGreatDoor
end
