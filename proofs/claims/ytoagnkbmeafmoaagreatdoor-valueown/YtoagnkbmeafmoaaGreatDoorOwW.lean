import Derived.Test.YtoagnkbmeafmoaaGreatDoorOwA
namespace Go.Proofs.YtoagnkbmeafmoaaGreatDoor
open Go.RowKit Go.Maps
set_option linter.unusedVariables false
set_option linter.unusedSimpArgs false
attribute [local go_sem ↓] Go.wp_at_zero Go.wp_at_succ
attribute [-go_sem] Builtin.append_

theorem bun_lo {ty : TypeId} {k : Nat} {cel : XF → List Value} {w : World} {lo lo' hi : Nat} {a : Option Addr} {c : Nat} {out : List XF} (h : Bun ty k cel w lo hi a c out) : Bun ty k cel w lo hi a c out := h
theorem mem_small {l : List XF} (h : smallF l) {y : XF} (hy : y ∈ l) : y.vs.length ≤ 1048576 := by
  obtain ⟨i, hi, rfl⟩ := List.getElem_of_mem hy
  have := h.each i hi
  rw [atF_eq hi] at this
  exact this
/-- the lists of l's facts, one by one -/
structure Lst1 (B : Nat) (l : List XF) (k : Nat) (v : Value) (wr : World) : Prop where
  own : wr.ownsRow B 26 1 v k (((l.take k).map XF.tu).flatMap XF.tcells)
theorem Lst1.push {B : Nat} {l : List XF} {k : Nat} {a : Option Addr} {c : Nat} {wr : World} (h : Lst1 B l k (.slice a k c) wr) (hB : B ≤ wr.heap.size) (hk : k < l.length) (hl : l.length ≤ 1048576) :
    ∃ a2 c2 w2, (Builtin.append_ #[25, 25] 25 #[.slice a k c, .slice (some ⟨wr.heap.size, 0, none⟩) 1 1]).run Tryz.prog (wr.alloc (.cells #[.slice (atF l k).a (atF l k).vs.length (atF l k).c] 26)) = .ok (.slice a2 (k + 1) c2) w2 ∧ Lst1 B l (k + 1) (.slice a2 (k + 1) c2) w2 ∧ ∀ {W : World}, Below B W wr → Below B W w2 := by
  obtain ⟨i0, hi0, hz0, hz1, hz2⟩ := info_partsS infoTs
  have hA : Below wr.heap.size wr (wr.alloc (.cells #[.slice (atF l k).a (atF l k).vs.length (atF l k).c] 26)) := (Below.refl _ _).alloc (Nat.le_refl _) _
  obtain ⟨v', w2, hrun, hown', hgrow, _, _⟩ := run_append_own_at (P := Tryz.prog) (wr.alloc (.cells #[.slice (atF l k).a (atF l k).vs.length (atF l k).c] 26)) B 25 25 26 i0 _ 1 24 Tryz.underlying25 hi0 hz0 hz1 hz2 rfl (by decide) _ _ _ (own_below h.own hA) ⟨_, 0, none⟩ 1 1 [.slice (atF l k).a (atF l k).vs.length (atF l k).c] rfl (lit_news wr #[.slice (atF l k).a (atF l k).vs.length (atF l k).c] _) (by simp [Value.oneCell']) (by unfold maxLen; omega) (by omega) (by simp; omega)
  obtain ⟨a2, c2, rfl, _⟩ := own_form hown'
  refine ⟨a2, c2, w2, hrun, ⟨?_⟩, fun hW => ?_⟩
  · have e : l.take (k + 1) = l.take k ++ [atF l k] := by rw [List.take_add_one, List.getElem?_eq_getElem hk, atF_eq hk]; rfl
    rw [e, List.map_append, List.flatMap_append]
    exact hown'
  · exact ((hW.trans (hA.mono hB)).grown hgrow (by simp; omega) (fun j hj => (h.own.lt j hj).1))
theorem Lst1.lu {B : Nat} {l : List XF} {a : Option Addr} {c : Nat} {wr : World} (h : Lst1 B l l.length (.slice a l.length c) wr) (hf : ∀ y ∈ l, FIs wr y) : Lu wr (.slice a (l.map XF.tu).length c) (l.map XF.tu) := by
  have ho := h.own
  rw [List.take_length] at ho
  refine ⟨by rw [List.length_map]; exact ls_own ho, fun y hy => ?_⟩
  obtain ⟨z, hz, rfl⟩ := List.mem_map.1 hy
  have := hf z hz
  exact ⟨⟨by show (0 : Nat) ≤ _; omega, this.ln, this.vs⟩, rfl⟩
theorem small_tu {l : List XF} (h : smallF l) : (l.map XF.tu).length ≤ 1048576 ∧ (∀ i, i < (l.map XF.tu).length → (atF (l.map XF.tu) i).vs.length ≤ 1048576) ∧ ∀ y ∈ l.map XF.tu, y.vs.length ≤ 1048576 := by
  refine ⟨by rw [List.length_map]; exact h.len, fun i hi => ?_, fun y hy => ?_⟩
  · have hi' : i < l.length := by simpa using hi
    rw [atF_tu hi']
    exact h.each i hi'
  · obtain ⟨z, hz, rfl⟩ := List.mem_map.1 hy
    exact mem_small (y := z) h hz
theorem okf_lu {w : World} {v : Value} {l l' : List XF} (h : Lu w v l) (hs : l.length ≤ 1048576) (hs2 : ∀ y ∈ l, y.vs.length ≤ 1048576) (hl' : l'.length = l.length) (hx' : ∀ i, i < l.length → LikeF (atF l i) (atF l' i)) : Okf l' ∧ ∀ y ∈ l', y.pr = noS := by
  have at' : ∀ y ∈ l', ∃ i, i < l.length ∧ atF l i ∈ l ∧ y.pr = (atF l i).pr ∧ y.vs = (atF l i).vs := fun y hy => by
    obtain ⟨i, hi, rfl⟩ := mem_atF hy
    have hi2 : i < l.length := by omega
    exact ⟨i, hi2, by rw [atF_eq hi2]; exact List.getElem_mem hi2, (hx' i hi2).pr, (hx' i hi2).vs⟩
  refine ⟨⟨fun y hy => ?_, fun y hy => ?_, fun y hy => ?_, by rw [hl']; exact hs⟩, fun y hy => ?_⟩
  · obtain ⟨i, hi, hm, e1, _⟩ := at' y hy; rw [e1]; exact (h.each _ hm).1.pb
  · obtain ⟨i, hi, hm, _, e2⟩ := at' y hy; rw [e2]; exact hs2 _ hm
  · obtain ⟨i, hi, hm, _, e2⟩ := at' y hy; rw [e2]; exact (h.each _ hm).1.vs.wf
  · obtain ⟨i, hi, hm, e1, _⟩ := at' y hy; rw [e1]; exact (h.each _ hm).2
theorem upd_pr {l : List XF} (h : ∀ y ∈ l, y.pr = noS) (i k : Nat) : ∀ y ∈ upd l i k, y.pr = noS := fun y hy => by
  obtain ⟨j, hj, rfl⟩ := upd_mem hy
  exact h (atF l j) (by rw [atF_eq hj]; exact List.getElem_mem hj)
/-- amid the writing over of the twins' values -/
structure WrS (lo mid hi : Nat) (aG aU : Option Addr) (cG : Nat) (G U : List XF) (W wr : World) (i k k2 : Nat) : Prop where
  f : Bun 28 2 XF.cells wr lo mid aG cG (upd G i k)
  t : Bun 26 1 XF.tcells wr mid hi aU cG (upd U i k2)
  tch : Tch (fun g => lo ≤ g ∧ g < hi) W wr
theorem WrS.below {lo mid hi : Nat} {aG aU : Option Addr} {cG : Nat} {G U : List XF} {W wr wr' : World} {i k k2 : Nat} (h : WrS lo mid hi aG aU cG G U W wr i k k2) (b : Below wr.heap.size wr wr') (hs : mid ≤ hi) (hW : hi ≤ W.heap.size) : WrS lo mid hi aG aU cG G U W wr' i k k2 := by
  have := h.tch.size
  exact ⟨h.f.keep (fun g _ h2 => b.block g (by omega)), h.t.keep (fun g _ h2 => b.block g (by omega)), h.tch.trans (Tch.of_below b)⟩
theorem WrS.putF {lo mid hi g : Nat} {aG aU : Option Addr} {cG : Nat} {G U : List XF} {W wr : World} {i k k2 : Nat} (h : WrS lo mid hi aG aU cG G U W wr i k k2) (hs : lo ≤ mid ∧ mid ≤ hi) (hi' : i < G.length) (hk : k < (atF G i).vs.length) (hg : (atF G i).a = some ⟨g, 0, none⟩) (hgl : lo ≤ g ∧ g < mid) : WrS lo mid hi aG aU cG G U W (wr.setCells g (k * 3) (ov i k).cells) i (k + 1) k2 :=
  ⟨h.f.put cels_same hi' hk hg, h.t.keep (fun g' h1 _ => heap_setCells_other (by omega) _ _ _), h.tch.setCells _ _ (.inr ⟨hgl.1, by omega⟩)⟩
theorem WrS.putT {lo mid hi g : Nat} {aG aU : Option Addr} {cG : Nat} {G U : List XF} {W wr : World} {i k k2 : Nat} (h : WrS lo mid hi aG aU cG G U W wr i k k2) (hs : lo ≤ mid ∧ mid ≤ hi) (hi' : i < U.length) (hk : k2 < (atF U i).vs.length) (hg : (atF U i).a = some ⟨g, 0, none⟩) (hgl : mid ≤ g ∧ g < hi) : WrS lo mid hi aG aU cG G U W (wr.setCells g (k2 * 3) (ov i k2).cells) i k (k2 + 1) :=
  ⟨h.f.keep (fun g' _ h2 => heap_setCells_other (by omega) _ _ _), h.t.put tcels_same hi' hk hg, h.tch.setCells _ _ (.inr ⟨by omega, hgl.2⟩)⟩
/-- where the values of one element lie, amid the writing -/
theorem bun_row {ty : TypeId} {kk : Nat} {cel : XF → List Value} {w : World} {lo hi : Nat} {a : Option Addr} {c : Nat} {l : List XF} {i k : Nat} (h : Bun ty kk cel w lo hi a c (upd l i k)) (hi' : i < l.length) (h0 : 0 < (atF l i).vs.length) : ∃ g, (atF l i).a = some ⟨g, 0, none⟩ ∧ lo ≤ g ∧ g < hi ∧ ∀ j, j < (atF l i).vs.length * 3 → (∃ v, w.cell? ⟨g, j, none⟩ = some v) ∧ w.frozen? ⟨g, j, none⟩ = false := by
  have hm : atF (upd l i k) i ∈ upd l i k := by rw [atF_eq (by rw [upd_len]; exact hi')]; exact List.getElem_mem _
  have ho := h.each _ hm
  have hl := h.lt2 _ hm
  rw [upd_at hi'] at ho hl
  rw [updF_len] at ho
  have ea : (updF i k i (atF l i)).a = (atF l i).a := rfl
  have ec : (updF i k i (atF l i)).c = (atF l i).c := rfl
  rw [ea, ec] at ho
  rcases ho.2 with ⟨_, e0⟩ | ⟨g, cap, cur, e1, _⟩
  · omega
  · simp only [Value.slice.injEq] at e1
    have hg := hl g (by rw [updF_blk]; unfold XF.blk; rw [e1.1]; rfl)
    rw [e1.1] at ho
    refine ⟨g, e1.1, hg.1, hg.2, fun j hj => ⟨?_, ho.frozenAt j⟩⟩
    have e2 := ho.cellAt j hj
    have e3 : j < ((updF i k i (atF l i)).vs.flatMap V.cells).length := by rw [ho.1]; exact hj
    rw [List.getElem?_eq_getElem e3] at e2
    exact ⟨_, e2⟩
theorem bun_eb {ty : TypeId} {kk : Nat} {cel : XF → List Value} {x y : World} {lo hi bk B : Nat} {a : Option Addr} {c : Nat} {l : List XF} (h : Bun ty kk cel x lo hi a c l) (t : Tch (EB bk B) x y) (h1 : hi ≤ B) (h2 : B ≤ x.heap.size) (h3 : bk < lo ∨ hi ≤ bk) : Bun ty kk cel y lo hi a c l := h.keep (fun g g1 g2 => t.block g (by omega) (fun e => by rcases e with e | e <;> omega))
set_option maxHeartbeats 25600000 in
set_option maxRecDepth 100000 in
theorem valueOwn_walk (l : List XF) (a : Option Addr) (c : Nat) (m : List XF) (a2 : Option Addr) (c2 : Nat) (w : World) (hG : Gs w) (hll : l.length ≤ 281474976710656) (hL : Lf w (.slice a l.length c) l) (hml : m.length ≤ 281474976710656) (hM : Lf w (.slice a2 m.length c2) m) :
    Calls Tryz.prog 3 #[.slice a l.length c, .slice a2 m.length c2] w fun e w' => e = .returned (.bool true) ∧ Below w.heap.size w w' := by
  have HG : Hid (∀ u, Below w.heap.size w u → Gs u) := fun u hu => hG.below hu
  have HL : Hid (∀ u, Below w.heap.size w u → Lf u (.slice a l.length c) l) := fun u hu => hL.below hu
  have HM : Hid (∀ u, Below w.heap.size w u → Lf u (.slice a2 m.length c2) m) := fun u hu => hM.below hu
  have HBF := Lib.hid (beyondFacts_any _ l w hll hL)
  have HBM : Hid (∀ u, Below w.heap.size w u → Calls Tryz.prog 4 #[.slice a2 m.length c2] u fun e w' => ∃ b : Bool, e = .returned (.bool b) ∧ Below u.heap.size u w' ∧ (b = false → smallF m)) := fun u hu => beyondFacts_any _ m u hml (hM.below hu)
  clear hG hL hM
  go_enter Tryz.func3, Tryz.ntmps3
  go_wp2_with fail
  refine HBF.out.mono ?_
  rintro e w1 ⟨bb, rfl, b1, hsm⟩
  have B1 := Lib.hid b1
  have HSM := Lib.hid hsm
  clear b1 hsm HBF
  cases bb
  case true =>
    go_wp2
    go_ret
    exact ⟨rfl, B1.out⟩
  case false =>
  have HSL : Hid (smallF l) := HSM.out (by first | rfl | trivial)
  clear HSM
  go_wp2_with fail
  refine (HBM.out w1 B1.out).mono ?_
  rintro e w2 ⟨bb, rfl, b2, hsm⟩
  have B2 : Hid (Below w.heap.size w w2) := B1.out.trans (b2.mono B1.out.size)
  have HSM := Lib.hid hsm
  clear b2 hsm HBM B1
  cases bb
  case true =>
    go_wp2
    go_ret
    exact ⟨rfl, B2.out⟩
  case false =>
  have HSN : Hid (smallF m) := HSM.out (by first | rfl | trivial)
  clear HSM
  have HLV := Lib.hid (AR.lives_true w2 (HG.out _ B2.out).tab)
  go_wp2_with fail
  refine HLV.out.mono ?_
  rintro e W ⟨rfl, b3⟩
  have BW : Hid (Below w.heap.size w W) := B2.out.trans (b3.mono B2.out.size)
  clear b3 B2 HLV
  have hl1 := HSL.out.len
  obtain ⟨al, cl, el, hc1, hc2, hkl⟩ := (HL.out w (Below.refl _ _)).form
  cases el
  have HKL := Lib.hid hkl
  clear hkl hc1 hc2
  have HO0 : Hid (Lst1 W.heap.size l 0 (.slice none 0 0) W) := ⟨by simpa using World.ownsRow_nil W W.heap.size 26 1⟩
  go_wp2
  go_loopw [5, 6] (fun lv iv wr => ∃ (k : Nat) (la : Option Addr) (lc : Nat), k ≤ l.length ∧ iv = .int .i64 k ∧ lv = .slice la k lc ∧ Hid (Lst1 W.heap.size l k (.slice la k lc) wr) ∧ Hid (Below W.heap.size W wr)) (fun _ iv _ => l.length - (intOf iv).toNat)
  case atStart => exact ⟨0, none, 0, Nat.zero_le _, rfl, rfl, HO0, Below.refl _ _⟩
  case round =>
  obtain ⟨k, la, lc, hk, rfl, rfl, HS, HB⟩ := hrel
  by_cases hlt : k < l.length
  · have hlt' : (k : Int) < (l.length : Int) := by omega
    have hk0 : (0 : Int) ≤ (k : Int) := by omega
    obtain ⟨g, off, rfl, hg, hKS⟩ := HKL.out (by omega)
    have BR : Hid (Below w.heap.size w wr) := BW.out.trans (HB.out.mono BW.out.size)
    have y1 : wr.cell? ⟨g, off + k * 2 + 1, none⟩ = some (.slice (atF l k).a (atF l k).vs.length (atF l k).c) := (range_below (hKS k hlt) BR.out hg) 1 _ rfl
    obtain ⟨a3, c3, w3, hrun, hst, hbl⟩ := HS.out.push HB.out.size hlt hl1
    have HST := Lib.hid hst
    have HBL := Lib.hid (hbl HB.out)
    clear hKS hst hbl HS
    generalize (atF l k).a = ya at y1 hrun
    generalize (atF l k).vs.length = yn at y1 hrun
    generalize (atF l k).c = yc at y1 hrun
    go_wp2
    go_roundw
    case rel => exact ⟨k + 1, a3, c3, by omega, by go_num, rfl, HST, HBL⟩
    case measure => simp [intOf]; omega
  obtain rfl : k = l.length := by omega
  have BR : Hid (Below w.heap.size w wr) := BW.out.trans (HB.out.mono BW.out.size)
  obtain ⟨ls, hls⟩ : ∃ ls, ls = l.map XF.tu := ⟨_, rfl⟩
  have hlsl : ls.length = l.length := by rw [hls, List.length_map]
  have HLS : Hid (∀ u, Below wr.heap.size wr u → Lu u (.slice la l.length lc) ls) := fun u hu => by
    have h1 := (HS.out.lu (fun y hy => lf_mem (HL.out wr BR.out) hy)).below hu
    rw [← hls, hlsl] at h1
    exact h1
  have HTS : Hid (ls.length ≤ 1048576 ∧ (∀ i, i < ls.length → (atF ls i).vs.length ≤ 1048576) ∧ ∀ y ∈ ls, y.vs.length ≤ 1048576) := by rw [hls]; exact small_tu HSL.out
  have HVT : Hid (∀ i, i < l.length → (atF ls i).vs = (atF l i).vs) := fun i hi => by rw [hls, atF_tu hi]; rfl
  have HLL := Lib.hid hlsl
  clear hls hlsl HS HO0
  have HW1 := Lib.hid (prfacts (HL.out wr BR.out) HSL.out.len (fun y hy => mem_small HSL.out hy))
  go_wp2_with fail
  refine HW1.out.mono ?_
  rintro e w3 ⟨aF, cF, WF, rfl, b3, tF, lF⟩
  have B3 := Lib.hid b3
  have HTF := Lib.hid tF
  have HWF : Hid (∀ u, Below w3.heap.size w3 u → Lf u (.slice aF WF.length cF) WF) := fun u hu => lF.below hu
  have HW2 := Lib.hid (prtuples (u := w3) (a := la) (c := lc) (l := ls) (by have := HLS.out w3 b3; rw [← HLL.out] at this; exact this) HTS.out.1 HTS.out.2.2)
  rw [HLL.out] at HW2
  clear b3 tF lF HW1
  go_wp2_with fail
  refine HW2.out.mono ?_
  rintro e w4 ⟨aT, cT, WT, rfl, b4, tT, lT⟩
  have B4 : Hid (Below wr.heap.size wr w4) := B3.out.trans (b4.mono B3.out.size)
  have BB4 : Hid (Below w.heap.size w w4) := BR.out.trans (B4.out.mono BR.out.size)
  have HTT := Lib.hid tT
  have HWF4 : Hid (∀ u, Below w4.heap.size w4 u → Lf u (.slice aF WF.length cF) WF) := fun u hu => HWF.out u (b4.trans (hu.mono b4.size))
  have HWT4 : Hid (∀ u, Below w4.heap.size w4 u → Lu u (.slice aT WT.length cT) WT) := fun u hu => lT.below hu
  have HL4 : Hid (∀ u, Below w4.heap.size w4 u → Lf u (.slice a l.length c) l) := fun u hu => HL.out u (BB4.out.trans (hu.mono BB4.out.size))
  have HM4 : Hid (∀ u, Below w4.heap.size w4 u → Lf u (.slice a2 m.length c2) m) := fun u hu => HM.out u (BB4.out.trans (hu.mono BB4.out.size))
  have HG4 : Hid (∀ u, Below w4.heap.size w4 u → Gs u) := fun u hu => HG.out u (BB4.out.trans (hu.mono BB4.out.size))
  have HLS4 : Hid (∀ u, Below w4.heap.size w4 u → Lu u (.slice la ls.length lc) ls) := fun u hu => by rw [HLL.out]; exact HLS.out u (B4.out.trans (hu.mono B4.out.size))
  have HKL4 : Hid (∀ u, Below w4.heap.size w4 u → ∀ i, i < l.length → ∃ g off, a = some ⟨g, off, none⟩ ∧ u.cell? ⟨g, off + i * 2 + 1, none⟩ = some (.slice (atF l i).a (atF l i).vs.length (atF l i).c)) := fun u hu i hi => by
    obtain ⟨g, off, e, hg, hks⟩ := HKL.out (by omega)
    exact ⟨g, off, e, (range_below (hks i hi) (BB4.out.trans (hu.mono BB4.out.size)) hg) 1 _ rfl⟩
  have HX5 := Lib.hid (twinFs_any _ l w4 (HG4.out _ (Below.refl _ _)).pw HSL.out.len HSL.out.each (HL4.out _ (Below.refl _ _)))
  clear b4 tT lT HW2 HWF HLS HL HM HG B3 B4 HKL
  go_wp2_with fail
  refine HX5.out.mono ?_
  rintro e w5 ⟨aG, G, rfl, b5, g1, g2, g3⟩
  have hGl : Hid (G.length = l.length) := g1
  have HGB5 : Hid (Bun 28 2 XF.cells w5 w4.heap.size w5.heap.size aG (l.length + 1) G) := g3.bun (by rw [g1]; exact hl1)
  have HGO : Hid (Okf G) := okf_like (HL4.out w5 b5) HSL.out g1 g2
  have HGV : Hid (∀ i, i < l.length → (atF G i).vs.length = (atF l i).vs.length) := fun i hi => by rw [(g2 i hi).vs]
  have HGK : Hid (G.map XF.key = l.map XF.key) := like_keys g1 g2
  have B5 := Lib.hid b5
  have HX6 := Lib.hid (twinT_any _ ls w5 HTS.out.1 HTS.out.2.1 (HLS4.out w5 b5))
  rw [HLL.out] at HX6
  clear b5 g1 g2 g3 HX5
  go_wp2_with fail
  refine HX6.out.mono ?_
  rintro e w6 ⟨aU, U, rfl, b6, g1, g2, g3⟩
  have hUl : Hid (U.length = l.length) := g1
  have HUB6 : Hid (Bun 26 1 XF.tcells w6 w5.heap.size w6.heap.size aU (l.length + 1) U) := g3.bun
  have HUO : Hid (Okf U ∧ ∀ y ∈ U, y.pr = noS) := okf_lu (HLS4.out w5 B5.out) HTS.out.1 HTS.out.2.2 (by rw [g1, HLL.out]) (fun i hi => g2 i (by rw [← HLL.out]; exact hi))
  have HUV : Hid (∀ i, i < l.length → (atF U i).vs.length = (atF l i).vs.length) := fun i hi => by rw [(g2 i hi).vs, HVT.out i hi]
  have HUK : Hid (U.map XF.key = ls.map XF.key) := like_keys (by rw [g1, HLL.out]) (fun i hi => g2 i (by rw [← HLL.out]; exact hi))
  have B6 := Lib.hid b6
  have BQ6 : Hid (Below w4.heap.size w4 w6) := B5.out.trans (b6.mono B5.out.size)
  have HS45 : Hid (w4.heap.size ≤ w5.heap.size ∧ w5.heap.size ≤ w6.heap.size) := ⟨B5.out.size, b6.size⟩
  have HGB6 : Hid (Bun 28 2 XF.cells w6 w4.heap.size w5.heap.size aG (l.length + 1) G) := HGB5.out.keep (fun g _ h2 => b6.block g h2)
  clear b6 g1 g2 g3 HX6 HGB5
  have hb7 : Below w6.heap.size w6 (w6.alloc (.cells (#[.int .i64 0, .slice none 0 0, .slice none 0 0, .slice none 0 0, .slice none 0 0, .slice none 0 0, .slice none 0 0, .slice none 0 0, .slice none 0 0, .slice none 0 0, .slice none 0 0, .slice none 0 0, .slice none 0 0, .slice none 0 0, .slice none 0 0, .slice none 0 0, .slice none 0 0, .slice none 0 0, .slice none 0 0, .slice none 0 0, .slice none 0 0, .slice none 0 0, .slice none 0 0, .slice none 0 0, .slice none 0 0, .slice none 0 0, .slice none 0 0, .slice none 0 0, .slice none 0 0, .slice none 0 0, .slice none 0 0, .slice none 0 0] : Array Value) 63)) := (Below.refl _ _).alloc (Nat.le_refl _) _
  have HBK7 := Lib.hid (rl_new w6 (#[.int .i64 0, .slice none 0 0, .slice none 0 0, .slice none 0 0, .slice none 0 0, .slice none 0 0, .slice none 0 0, .slice none 0 0, .slice none 0 0, .slice none 0 0, .slice none 0 0, .slice none 0 0, .slice none 0 0, .slice none 0 0, .slice none 0 0, .slice none 0 0, .slice none 0 0, .slice none 0 0, .slice none 0 0, .slice none 0 0, .slice none 0 0, .slice none 0 0, .slice none 0 0, .slice none 0 0, .slice none 0 0, .slice none 0 0, .slice none 0 0, .slice none 0 0, .slice none 0 0, .slice none 0 0, .slice none 0 0, .slice none 0 0] : Array Value) 63)
  have HB7 := Lib.hid hb7
  have HS7 : Hid (w6.heap.size + 1 = (w6.alloc (.cells (#[.int .i64 0, .slice none 0 0, .slice none 0 0, .slice none 0 0, .slice none 0 0, .slice none 0 0, .slice none 0 0, .slice none 0 0, .slice none 0 0, .slice none 0 0, .slice none 0 0, .slice none 0 0, .slice none 0 0, .slice none 0 0, .slice none 0 0, .slice none 0 0, .slice none 0 0, .slice none 0 0, .slice none 0 0, .slice none 0 0, .slice none 0 0, .slice none 0 0, .slice none 0 0, .slice none 0 0, .slice none 0 0, .slice none 0 0, .slice none 0 0, .slice none 0 0, .slice none 0 0, .slice none 0 0, .slice none 0 0, .slice none 0 0] : Array Value) 63)).heap.size) := by show _ = _; simp
  clear hb7
  go_upto_region 15 with fail
  generalize w6.alloc (.cells (#[.int .i64 0, .slice none 0 0, .slice none 0 0, .slice none 0 0, .slice none 0 0, .slice none 0 0, .slice none 0 0, .slice none 0 0, .slice none 0 0, .slice none 0 0, .slice none 0 0, .slice none 0 0, .slice none 0 0, .slice none 0 0, .slice none 0 0, .slice none 0 0, .slice none 0 0, .slice none 0 0, .slice none 0 0, .slice none 0 0, .slice none 0 0, .slice none 0 0, .slice none 0 0, .slice none 0 0, .slice none 0 0, .slice none 0 0, .slice none 0 0, .slice none 0 0, .slice none 0 0, .slice none 0 0, .slice none 0 0, .slice none 0 0] : Array Value) 63) = x0 at HBK7 HB7 HS7 ⊢
  have BQ0 : Hid (Below w4.heap.size w4 x0) := BQ6.out.trans (HB7.out.mono BQ6.out.size)
  have HF0 : Hid (∀ u, Below x0.heap.size x0 u → Bun 28 2 XF.cells u w4.heap.size w5.heap.size aG (l.length + 1) G) := fun u hu => HGB6.out.keep (fun g _ h2 => by have h3 := HS45.out; rw [hu.block g (by have := HS7.out; omega), HB7.out.block g (by omega)])
  have HU0 : Hid (∀ u, Below x0.heap.size x0 u → Bun 26 1 XF.tcells u w5.heap.size w6.heap.size aU (l.length + 1) U) := fun u hu => HUB6.out.keep (fun g _ h2 => by have h3 := HS45.out; rw [hu.block g (by have := HS7.out; omega), HB7.out.block g (by omega)])
  clear HGB6 HUB6 HB7 B5 B6
  have HQ := Lib.hid (pfacts (HF0.out x0 (Below.refl _ _)) HGO.out)
  rw [hGl.out] at HQ
  go_wp2_with fail
  refine HQ.out.mono ?_
  rintro e x1 ⟨AF1, CF1, F1, rfl, b, t, ok, bu⟩
  have S0 := Lib.hid b
  have TF1 : Hid (Told (l.map XF.key) (F1.map XF.key)) := by have t' := t; rw [HGK.out] at t'; exact t'
  have OF1 := Lib.hid ok
  have NF1 := Lib.hid bu
  clear b t ok bu HQ
  have HQ := Lib.hid (pfacts (HF0.out x1 S0.out) HGO.out)
  rw [hGl.out] at HQ
  go_wp2_with fail
  refine HQ.out.mono ?_
  rintro e x2 ⟨AF2, CF2, F2, rfl, b, t, ok, bu⟩
  have S1 := Lib.hid b
  have TF2 : Hid (Told (l.map XF.key) (F2.map XF.key)) := by have t' := t; rw [HGK.out] at t'; exact t'
  have OF2 := Lib.hid ok
  have NF2 := Lib.hid bu
  clear b t ok bu HQ
  have HQ := Lib.hid (twinFs_any _ m x2 (HG4.out _ (next_ofS BQ0.out (next_ofS S0.out S1.out))).pw HSN.out.len HSN.out.each (HM4.out _ (next_ofS BQ0.out (next_ofS S0.out S1.out))))
  go_wp2_with fail
  refine HQ.out.mono ?_
  rintro e x3 ⟨AH, H, rfl, b, g1, g2, g3⟩
  have S2 := Lib.hid b
  have NH : Hid (Bun 28 2 XF.cells x3 x2.heap.size x3.heap.size AH (m.length + 1) H) := g3.bun (by rw [g1]; exact HSN.out.len)
  have OH : Hid (Okf H) := okf_like (HM4.out x3 (next_ofS BQ0.out (next_ofS (next_ofS S0.out S1.out) (Lib.hid b).out))) HSN.out g1 g2
  have KH : Hid (H.map XF.key = m.map XF.key ∧ H.length = m.length) := ⟨like_keys g1 g2, g1⟩
  clear b g1 g2 g3 HQ
  have HQ := Lib.hid (pfacts NH.out OH.out)
  rw [KH.out.2] at HQ
  go_wp2_with fail
  refine HQ.out.mono ?_
  rintro e x4 ⟨AF3, CF3, F3, rfl, b, t, ok, bu⟩
  have S3 := Lib.hid b
  have TF3 : Hid (Told (m.map XF.key) (F3.map XF.key)) := by have t' := t; rw [KH.out.1] at t'; exact t'
  have OF3 := Lib.hid ok
  have NF3 := Lib.hid bu
  clear b t ok bu HQ
  have HQ := Lib.hid (ptuples (HU0.out x4 (next_ofS (next_ofS (next_ofS S0.out S1.out) S2.out) S3.out)) HUO.out.1 HUO.out.2)
  rw [hUl.out] at HQ
  go_wp2_with fail
  refine HQ.out.mono ?_
  rintro e x5 ⟨AT1, CT1, T1, rfl, b, t, ok, pr, bu⟩
  have S4 := Lib.hid b
  have TT1 : Hid (Told (ls.map XF.key) (T1.map XF.key)) := by have t' := t; rw [HUK.out] at t'; exact t'
  have OT1 := Lib.hid (And.intro ok pr)
  have NT1 := Lib.hid bu
  clear b t ok pr bu HQ
  have HQ := Lib.hid (ptuples (HU0.out x5 (next_ofS (next_ofS (next_ofS (next_ofS S0.out S1.out) S2.out) S3.out) S4.out)) HUO.out.1 HUO.out.2)
  rw [hUl.out] at HQ
  go_wp2_with fail
  refine HQ.out.mono ?_
  rintro e x6 ⟨AT2, CT2, T2, rfl, b, t, ok, pr, bu⟩
  have S5 := Lib.hid b
  have TT2 : Hid (Told (ls.map XF.key) (T2.map XF.key)) := by have t' := t; rw [HUK.out] at t'; exact t'
  have OT2 := Lib.hid (And.intro ok pr)
  have NT2 := Lib.hid bu
  clear b t ok pr bu HQ
  have HQ := Lib.hid (sameFs_same _ _ F1 WF x6 ((NF1.out.keep (fun g _ h2 => (next_ofS (next_ofS (next_ofS (next_ofS S1.out S2.out) S3.out) S4.out) S5.out).block g h2)).lf OF1.out) (HWF4.out _ (next_ofS BQ0.out (next_ofS (next_ofS (next_ofS (next_ofS (next_ofS S0.out S1.out) S2.out) S3.out) S4.out) S5.out))) (TF1.out.eq HTF.out))
  go_wp2_with fail
  refine HQ.out.mono ?_
  rintro e x7 ⟨rfl, b⟩
  have S6 := Lib.hid b
  clear b HQ
  have HQ := Lib.hid (sameFs_same _ _ F2 WF x7 ((NF2.out.keep (fun g _ h2 => (next_ofS (next_ofS (next_ofS (next_ofS S2.out S3.out) S4.out) S5.out) S6.out).block g h2)).lf OF2.out) (HWF4.out _ (next_ofS BQ0.out (next_ofS (next_ofS (next_ofS (next_ofS (next_ofS (next_ofS S0.out S1.out) S2.out) S3.out) S4.out) S5.out) S6.out))) (TF2.out.eq HTF.out))
  go_wp2_with fail
  refine HQ.out.mono ?_
  rintro e x8 ⟨rfl, b⟩
  have S7 := Lib.hid b
  clear b HQ
  have HQ := Lib.hid (prfacts (HM4.out x8 (next_ofS BQ0.out (next_ofS (next_ofS (next_ofS (next_ofS (next_ofS (next_ofS (next_ofS S0.out S1.out) S2.out) S3.out) S4.out) S5.out) S6.out) S7.out))) HSN.out.len (fun y hy => mem_small HSN.out hy))
  go_wp2_with fail
  refine HQ.out.mono ?_
  rintro e x9 ⟨AM, CM, WM, rfl, b, t, lf⟩
  have S8 := Lib.hid b
  have TWM := Lib.hid t
  have LWM := Lib.hid lf
  clear b t lf HQ
  have HQ := Lib.hid (sameFs_same _ _ F3 WM x9 ((NF3.out.keep (fun g _ h2 => (next_ofS (next_ofS (next_ofS (next_ofS S4.out S5.out) S6.out) S7.out) S8.out).block g h2)).lf OF3.out) (LWM.out) (TF3.out.eq TWM.out))
  go_wp2_with fail
  refine HQ.out.mono ?_
  rintro e x10 ⟨rfl, b⟩
  have S9 := Lib.hid b
  clear b HQ
  have HQ := Lib.hid (sameTs_same _ _ T1 WT x10 ((NT1.out.keep (fun g _ h2 => (next_ofS (next_ofS (next_ofS (next_ofS S5.out S6.out) S7.out) S8.out) S9.out).block g h2)).lu OT1.out.1 OT1.out.2) (HWT4.out _ (next_ofS BQ0.out (next_ofS (next_ofS (next_ofS (next_ofS (next_ofS (next_ofS (next_ofS (next_ofS (next_ofS S0.out S1.out) S2.out) S3.out) S4.out) S5.out) S6.out) S7.out) S8.out) S9.out))) (TT1.out.eq HTT.out))
  go_wp2_with fail
  refine HQ.out.mono ?_
  rintro e x11 ⟨rfl, b⟩
  have S10 := Lib.hid b
  clear b HQ
  have HQ := Lib.hid (sameTs_same _ _ T2 WT x11 ((NT2.out.keep (fun g _ h2 => (next_ofS (next_ofS (next_ofS (next_ofS S6.out S7.out) S8.out) S9.out) S10.out).block g h2)).lu OT2.out.1 OT2.out.2) (HWT4.out _ (next_ofS BQ0.out (next_ofS (next_ofS (next_ofS (next_ofS (next_ofS (next_ofS (next_ofS (next_ofS (next_ofS (next_ofS S0.out S1.out) S2.out) S3.out) S4.out) S5.out) S6.out) S7.out) S8.out) S9.out) S10.out))) (TT2.out.eq HTT.out))
  go_wp2_with fail
  refine HQ.out.mono ?_
  rintro e x12 ⟨rfl, b⟩
  have S11 := Lib.hid b
  clear b HQ
  have HQ := Lib.hid (pfacts (HF0.out x12 (next_ofS (next_ofS (next_ofS (next_ofS (next_ofS (next_ofS (next_ofS (next_ofS (next_ofS (next_ofS (next_ofS S0.out S1.out) S2.out) S3.out) S4.out) S5.out) S6.out) S7.out) S8.out) S9.out) S10.out) S11.out)) HGO.out)
  rw [hGl.out] at HQ
  go_wp2_with fail
  refine HQ.out.mono ?_
  rintro e x13 ⟨AF4, CF4, F4, rfl, b, t, ok, bu⟩
  have S12 := Lib.hid b
  have TF4 : Hid (Told (l.map XF.key) (F4.map XF.key)) := by have t' := t; rw [HGK.out] at t'; exact t'
  have OF4 := Lib.hid ok
  have NF4 := Lib.hid bu
  clear b t ok bu HQ
  have HQ := Lib.hid (ptuples (HU0.out x13 (next_ofS (next_ofS (next_ofS (next_ofS (next_ofS (next_ofS (next_ofS (next_ofS (next_ofS (next_ofS (next_ofS (next_ofS S0.out S1.out) S2.out) S3.out) S4.out) S5.out) S6.out) S7.out) S8.out) S9.out) S10.out) S11.out) S12.out)) HUO.out.1 HUO.out.2)
  rw [hUl.out] at HQ
  go_wp2_with fail
  refine HQ.out.mono ?_
  rintro e x14 ⟨AT4, CT4, T4, rfl, b, t, ok, pr, bu⟩
  have S13 := Lib.hid b
  have TT4 : Hid (Told (ls.map XF.key) (T4.map XF.key)) := by have t' := t; rw [HUK.out] at t'; exact t'
  have OT4 := Lib.hid (And.intro ok pr)
  have NT4 := Lib.hid bu
  clear b t ok pr bu HQ
  have BQ14 : Hid (Below w4.heap.size w4 x14) := next_ofS BQ0.out (next_ofS (next_ofS (next_ofS (next_ofS (next_ofS (next_ofS (next_ofS (next_ofS (next_ofS (next_ofS (next_ofS (next_ofS (next_ofS S0.out S1.out) S2.out) S3.out) S4.out) S5.out) S6.out) S7.out) S8.out) S9.out) S10.out) S11.out) S12.out) S13.out)
  have HW0 : Hid (WrS w4.heap.size w5.heap.size w6.heap.size aG aU (l.length + 1) G U x14 x14 0 0 0) := ⟨by rw [upd_zero]; exact HF0.out _ (next_ofS (next_ofS (next_ofS (next_ofS (next_ofS (next_ofS (next_ofS (next_ofS (next_ofS (next_ofS (next_ofS (next_ofS (next_ofS S0.out S1.out) S2.out) S3.out) S4.out) S5.out) S6.out) S7.out) S8.out) S9.out) S10.out) S11.out) S12.out) S13.out), by rw [upd_zero]; exact HU0.out _ (next_ofS (next_ofS (next_ofS (next_ofS (next_ofS (next_ofS (next_ofS (next_ofS (next_ofS (next_ofS (next_ofS (next_ofS (next_ofS S0.out S1.out) S2.out) S3.out) S4.out) S5.out) S6.out) S7.out) S8.out) S9.out) S10.out) S11.out) S12.out) S13.out), Tch.refl _ _⟩
  have HSL14 : Hid (w6.heap.size ≤ x14.heap.size) := by have h1 := HS7.out; have h2 := ((next_ofS (next_ofS (next_ofS (next_ofS (next_ofS (next_ofS (next_ofS (next_ofS (next_ofS (next_ofS (next_ofS (next_ofS (next_ofS S0.out S1.out) S2.out) S3.out) S4.out) S5.out) S6.out) S7.out) S8.out) S9.out) S10.out) S11.out) S12.out) S13.out)).size; show _ ≤ _; omega
  have HKR : Hid (∀ u, Tch (fun g => w4.heap.size ≤ g ∧ g < w6.heap.size) x14 u → ∀ i, i < l.length → ∃ g off, a = some ⟨g, off, none⟩ ∧ u.cell? ⟨g, off + i * 2 + 1, none⟩ = some (.slice (atF l i).a (atF l i).vs.length (atF l i).c)) := fun u t i hi => HKL4.out u (BQ14.out.trans (t.below (BQ14.out.size) (fun g hg e => by omega))) i hi
  go_wp2
  go_loopw [19] (fun iv wr => ∃ i : Nat, i ≤ l.length ∧ iv = .int .i64 i ∧ Hid (WrS w4.heap.size w5.heap.size w6.heap.size aG aU (l.length + 1) G U x14 wr i 0 0)) (fun iv _ => l.length - (intOf iv).toNat)
  case atStart => exact ⟨0, Nat.zero_le _, rfl, HW0⟩
  case round =>
  obtain ⟨i, hi, rfl, HWR⟩ := hrel
  by_cases hlt : i < l.length
  · have hlt' : (i : Int) < (l.length : Int) := by omega
    have hi0 : (0 : Int) ≤ (i : Int) := by omega
    have hi2 : i ≤ 2097152 := by omega
    have hvb := HSL.out.each i hlt
    obtain ⟨W9, rfl⟩ : ∃ W9, W9 = wr := ⟨_, rfl⟩
    go_wp2
    go_loopw [20] (fun kv wr => ∃ k : Nat, k ≤ (atF l i).vs.length ∧ kv = .int .i64 k ∧ Hid (WrS w4.heap.size w5.heap.size w6.heap.size aG aU (l.length + 1) G U x14 wr i k k)) (fun kv _ => (atF l i).vs.length - (intOf kv).toNat)
    case atStart => exact ⟨0, Nat.zero_le _, rfl, HWR⟩
    case round =>
    obtain ⟨k, hk, rfl, HWK⟩ := hrel
    obtain ⟨gl, ol, hal, yl⟩ := HKR.out wr HWK.out.tch i hlt
    subst hal
    by_cases hkl : k < (atF l i).vs.length
    · have hkl' : (k : Int) < ((atF l i).vs.length : Int) := by omega
      have hk0 : (0 : Int) ≤ (k : Int) := by omega
      have hk2 : k ≤ 2097152 := by omega
      obtain ⟨gF, haG, hgF1, hgF2, hcF⟩ := HWK.out.f.celF (by rw [upd_len, hGl.out]; omega)
      obtain ⟨gU, haU, hgU1, hgU2, hcU⟩ := HWK.out.t.celT (by rw [upd_len, hUl.out]; omega)
      subst haG haU
      have hGi : i < G.length := by rw [hGl.out]; exact hlt
      have hUi : i < U.length := by rw [hUl.out]; exact hlt
      obtain ⟨g1, e1, q1, q2, q3⟩ := bun_row HWK.out.f hGi (by rw [HGV.out i hlt]; omega)
      obtain ⟨g2, e2, p1, p2, p3⟩ := bun_row HWK.out.t hUi (by rw [HUV.out i hlt]; omega)
      have HMS : Hid (w4.heap.size ≤ w5.heap.size ∧ w5.heap.size ≤ w6.heap.size) := HS45.out
      have HWL : Hid (∀ u, Below wr.heap.size wr u → ∀ g, g < w6.heap.size → u.heap[g]? = wr.heap[g]?) := fun u hu g hg => hu.block g (by have := HSL14.out; have := HWK.out.tch.size; omega)
      have HC1 : Hid (∀ u, Below wr.heap.size wr u → u.cell? ⟨gF, i * 2 + 1, none⟩ = some (.slice (some ⟨g1, 0, none⟩) (atF l i).vs.length (atF G i).c) ∧ ∀ j, j < (atF l i).vs.length * 3 → (∃ v, u.cell? ⟨g1, j, none⟩ = some v) ∧ u.frozen? ⟨g1, j, none⟩ = false) := fun u hu => by
        refine ⟨?_, fun j hj => ?_⟩
        · have h1 := hcF i (by rw [upd_len]; exact hGi)
          rw [upd_at hGi, updF_len, HGV.out i hlt] at h1
          have e9 : (updF i k i (atF G i)).a = some ⟨g1, 0, none⟩ := e1
          rw [e9] at h1
          have : u.cell? ⟨gF, i * 2 + 1, none⟩ = wr.cell? ⟨gF, i * 2 + 1, none⟩ := by unfold World.cell?; rw [HWL.out u hu gF (by have := HMS.out; omega)]
          rw [this]
          exact h1
        · have h1 := q3 j (by rw [HGV.out i hlt]; exact hj)
          have eb := HWL.out u hu g1 (by have := HMS.out; omega)
          have : u.cell? ⟨g1, j, none⟩ = wr.cell? ⟨g1, j, none⟩ := by unfold World.cell?; rw [eb]
          have h2 : u.frozen? ⟨g1, j, none⟩ = wr.frozen? ⟨g1, j, none⟩ := by unfold World.frozen?; rw [eb]
          rw [this, h2]
          exact h1
      have HC2 : Hid (∀ u : World, (∀ g, w5.heap.size ≤ g → g < w6.heap.size → u.heap[g]? = wr.heap[g]?) → u.cell? ⟨gU, i, none⟩ = some (Value.slice (some ⟨g2, 0, none⟩) (atF l i).vs.length (atF U i).c) ∧ ∀ j, j < (atF l i).vs.length * 3 → (∃ v, u.cell? ⟨g2, j, none⟩ = some v) ∧ u.frozen? ⟨g2, j, none⟩ = false) := fun u hu => by
        refine ⟨?_, fun j hj => ?_⟩
        · have h1 := hcU i (by rw [upd_len]; exact hUi)
          rw [upd_at hUi, updF_len, HUV.out i hlt] at h1
          have e9 : (updF i k i (atF U i)).a = some ⟨g2, 0, none⟩ := e2
          rw [e9] at h1
          have : u.cell? ⟨gU, i, none⟩ = wr.cell? ⟨gU, i, none⟩ := by unfold World.cell?; rw [hu gU hgU1 hgU2]
          rw [this]
          exact h1
        · have h1 := p3 j (by rw [HUV.out i hlt]; exact hj)
          have eb := hu g2 p1 p2
          have : u.cell? ⟨g2, j, none⟩ = wr.cell? ⟨g2, j, none⟩ := by unfold World.cell?; rw [eb]
          have h2 : u.frozen? ⟨g2, j, none⟩ = wr.frozen? ⟨g2, j, none⟩ := by unfold World.frozen?; rw [eb]
          rw [this, h2]
          exact h1
      have HP1 : Hid (∀ u, Below wr.heap.size wr u → WrS w4.heap.size w5.heap.size w6.heap.size (some ⟨gF, 0, none⟩) (some ⟨gU, 0, none⟩) (l.length + 1) G U x14 (((u.setCell ⟨g1, k * 3, none⟩ (.int .i8 1)).setCell ⟨g1, k * 3 + 1, none⟩ (.int .i64 (1000 - 7 * (i : Int) + (k : Int)))).setCell ⟨g1, k * 3 + 2, none⟩ (.string ⟨#[]⟩)) i (k + 1) k) := fun u hu => (HWK.out.below hu HMS.out.2 HSL14.out).putF HMS.out hGi (by rw [HGV.out i hlt]; exact hkl) e1 ⟨q1, q2⟩
      have HP2 : Hid (∀ v, WrS w4.heap.size w5.heap.size w6.heap.size (some ⟨gF, 0, none⟩) (some ⟨gU, 0, none⟩) (l.length + 1) G U x14 v i (k + 1) k → ∀ u, Below v.heap.size v u → WrS w4.heap.size w5.heap.size w6.heap.size (some ⟨gF, 0, none⟩) (some ⟨gU, 0, none⟩) (l.length + 1) G U x14 (((u.setCell ⟨g2, k * 3, none⟩ (.int .i8 1)).setCell ⟨g2, k * 3 + 1, none⟩ (.int .i64 (1000 - 7 * (i : Int) + (k : Int)))).setCell ⟨g2, k * 3 + 2, none⟩ (.string ⟨#[]⟩)) i (k + 1) (k + 1)) := fun v hv u hu => (hv.below hu HMS.out.2 HSL14.out).putT HMS.out hUi (by rw [HUV.out i hlt]; exact hkl) e2 ⟨p1, p2⟩
      have HOT : Hid (∀ u, Calls Tryz.prog 14 #[.int .i64 i, .int .i64 k] u fun e w' => e = .returned (.agg #[.int .i8 1, .int .i64 (1000 - 7 * (i : Int) + (k : Int)), .string ⟨#[]⟩]) ∧ Below u.heap.size u w') := fun u => other_any i k hi2 hk2 u
      have HG2R : Hid (w5.heap.size ≤ g2 ∧ g2 < w6.heap.size ∧ w4.heap.size ≤ g1 ∧ g1 < w5.heap.size) := ⟨p1, p2, q1, q2⟩
      have HSW : Hid (w6.heap.size ≤ wr.heap.size) := by have := HSL14.out; have := HWK.out.tch.size; show _ ≤ _; omega
      have hkb : k * 3 + 2 < (atF l i).vs.length * 3 := by omega
      clear hcF hcU q3 p3 e1 e2 q1 q2 p1 p2 hgF1 hgF2 hgU1 hgU2 hGi hUi
      obtain ⟨M, hM⟩ : ∃ M, M = 1000 - 7 * (i : Int) + (k : Int) := ⟨_, rfl⟩
      rw [← hM] at HP1 HP2 HOT
      clear hM
      obtain ⟨vn, hvn⟩ : ∃ vn, vn = (atF l i).vs.length := ⟨_, rfl⟩
      rw [← hvn] at HC1 HC2 hkb hkl' yl
      have hkv : k < vn := by rw [hvn]; exact hkl
      have HVN := Lib.hid hvn
      have HKL9 := Lib.hid hkl
      clear hvn hkl
      obtain ⟨z1, _⟩ := HC1.out wr (Below.refl _ _)
      go_upto_region 26 with fail
      refine region_RB (fun u => WrS w4.heap.size w5.heap.size w6.heap.size (some ⟨gF, 0, none⟩) (some ⟨gU, 0, none⟩) (l.length + 1) G U x14 u i (k + 1) k ∧ ∀ g, w5.heap.size ≤ g → g < w6.heap.size → u.heap[g]? = wr.heap[g]?) ?_
      apply Exists.intro
      refine ⟨?_, ?_⟩
      · refine wp_region_noPanic ?_
        go_region_law (
          refine step_callB rfl 14 Tryz.func14 (by kernel_rfl) (by kernel_rfl) #[.tmp 121, .tmp 122] _ rfl #[.int .i64 i, .int .i64 k] (by simp [Act.eval, Act.put]) (HOT.out _) ?_
          rintro ee v2 ⟨rfl, b2⟩
          refine ⟨_, rfl, ?_⟩
          have B2 : Hid (Below wr.heap.size wr v2) := by first | exact (Below.refl wr.heap.size wr).drew.trans b2 | exact b2
          obtain ⟨z2, zz⟩ := HC1.out v2 B2.out
          obtain ⟨⟨t0, u0⟩, f0⟩ := zz (k * 3) (by omega)
          obtain ⟨⟨t1, u1⟩, f1⟩ := zz (k * 3 + 1) (by omega)
          obtain ⟨⟨t2, u2⟩, f2⟩ := zz (k * 3 + 2) (by omega)
          have HN1 : Hid (WrS w4.heap.size w5.heap.size w6.heap.size (some ⟨gF, 0, none⟩) (some ⟨gU, 0, none⟩) (l.length + 1) G U x14 (((v2.setCell ⟨g1, k * 3, none⟩ (.int .i8 1)).setCell ⟨g1, k * 3 + 1, none⟩ (.int .i64 M)).setCell ⟨g1, k * 3 + 2, none⟩ (.string ⟨#[]⟩)) i (k + 1) k ∧ ∀ g, w5.heap.size ≤ g → g < w6.heap.size → (((v2.setCell ⟨g1, k * 3, none⟩ (.int .i8 1)).setCell ⟨g1, k * 3 + 1, none⟩ (.int .i64 M)).setCell ⟨g1, k * 3 + 2, none⟩ (.string ⟨#[]⟩)).heap[g]? = wr.heap[g]?) := ⟨HP1.out v2 B2.out, fun g h1 h2 => by
            have h3 := HG2R.out
            have h4 := HSW.out
            rw [heap_setCell_other _ _ _ _ (by show g ≠ g1; omega), heap_setCell_other _ _ _ _ (by show g ≠ g1; omega), heap_setCell_other _ _ _ _ (by show g ≠ g1; omega), B2.out.block g (by omega)]⟩
          clear b2 zz)
        all_goals exact NoPanic.normal ⟨rfl, rfl, HN1.out⟩
      intro v3 hv3
      try simp (config := { maxSteps := 10000000 }) only [Act.put, List.getElem_toArray, List.getElem_cons_zero, List.getElem_cons_succ, List.setIfInBounds_toArray, List.set_cons_succ, List.set_cons_zero]
      have HV3 := Lib.hid hv3
      clear hv3 z1
      obtain ⟨z1, _⟩ := HC2.out v3 HV3.out.2
      have HSV : Hid (w6.heap.size ≤ v3.heap.size) := by have := HSL14.out; have := HV3.out.1.tch.size; show _ ≤ _; omega
      go_upto_region 27 with fail
      refine region_RB (fun u => WrS w4.heap.size w5.heap.size w6.heap.size (some ⟨gF, 0, none⟩) (some ⟨gU, 0, none⟩) (l.length + 1) G U x14 u i (k + 1) (k + 1)) ?_
      apply Exists.intro
      refine ⟨?_, ?_⟩
      · refine wp_region_noPanic ?_
        go_region_law (
          refine step_callB rfl 14 Tryz.func14 (by kernel_rfl) (by kernel_rfl) #[.tmp 130, .tmp 131] _ rfl #[.int .i64 i, .int .i64 k] (by simp [Act.eval, Act.put]) (HOT.out _) ?_
          rintro ee v4 ⟨rfl, b2⟩
          refine ⟨_, rfl, ?_⟩
          have B4 : Hid (Below v3.heap.size v3 v4) := by first | exact (Below.refl v3.heap.size v3).drew.trans b2 | exact b2
          obtain ⟨z2, zz⟩ := HC2.out v4 (fun g h1 h2 => by rw [B4.out.block g (by have := HSV.out; omega)]; exact HV3.out.2 g h1 h2)
          obtain ⟨⟨t0, u0⟩, f0⟩ := zz (k * 3) (by omega)
          obtain ⟨⟨t1, u1⟩, f1⟩ := zz (k * 3 + 1) (by omega)
          obtain ⟨⟨t2, u2⟩, f2⟩ := zz (k * 3 + 2) (by omega)
          have HN2 : Hid (WrS w4.heap.size w5.heap.size w6.heap.size (some ⟨gF, 0, none⟩) (some ⟨gU, 0, none⟩) (l.length + 1) G U x14 (((v4.setCell ⟨g2, k * 3, none⟩ (.int .i8 1)).setCell ⟨g2, k * 3 + 1, none⟩ (.int .i64 M)).setCell ⟨g2, k * 3 + 2, none⟩ (.string ⟨#[]⟩)) i (k + 1) (k + 1)) := HP2.out v3 HV3.out.1 v4 B4.out
          clear b2 zz)
        all_goals exact NoPanic.normal ⟨rfl, rfl, HN2.out⟩
      intro v5 hv5
      try simp (config := { maxSteps := 10000000 }) only [Act.put, List.getElem_toArray, List.getElem_cons_zero, List.getElem_cons_succ, List.setIfInBounds_toArray, List.set_cons_succ, List.set_cons_zero]
      have HV5 := Lib.hid hv5
      clear hv5 z1
      go_wp2
      go_roundw
      case rel => exact ⟨k + 1, HKL9.out, by go_num, HV5⟩
      case measure => have := HKL9.out; simp [intOf]; omega
    obtain rfl : k = (atF l i).vs.length := by omega
    have HNX : Hid (WrS w4.heap.size w5.heap.size w6.heap.size aG aU (l.length + 1) G U x14 wr (i + 1) 0 0) := by
      have h := HWK.out
      refine ⟨?_, ?_, h.tch⟩
      · have h1 := h.f
        rw [← HGV.out i hlt, upd_next (by rw [hGl.out]; exact hlt)] at h1
        exact h1
      · have h1 := h.t
        rw [← HUV.out i hlt, upd_next (by rw [hUl.out]; exact hlt)] at h1
        exact h1
    go_wp2
    go_roundw
    case rel => exact ⟨i + 1, by omega, by go_num, HNX⟩
    case measure => simp [intOf]; omega
  obtain rfl : i = l.length := by omega
  have HX : Hid (wr.heap.size ≤ wr.heap.size) := Nat.le_refl _
  clear HX HW0 HKR HKL4 HLS4 HF0 HU0
  obtain ⟨x15, hx15⟩ : ∃ x15, x15 = wr := ⟨_, rfl⟩
  have HWE : Hid (WrS w4.heap.size w5.heap.size w6.heap.size aG aU (l.length + 1) G U x14 x15 l.length 0 0) := by rw [hx15]; exact HWR.out
  clear HWR
  rw [← hx15]
  clear hx15
  obtain ⟨G2, hG2⟩ : ∃ G2, G2 = upd G l.length 0 := ⟨_, rfl⟩
  obtain ⟨U2, hU2⟩ : ∃ U2, U2 = upd U l.length 0 := ⟨_, rfl⟩
  have NG2 : Hid (Bun 28 2 XF.cells x15 w4.heap.size w5.heap.size aG (l.length + 1) G2) := by rw [hG2]; exact HWE.out.f
  have NU2 : Hid (Bun 26 1 XF.tcells x15 w5.heap.size w6.heap.size aU (l.length + 1) U2) := by rw [hU2]; exact HWE.out.t
  have OG2 : Hid (Okf G2) := by rw [hG2]; exact okf_upd HGO.out _ _
  have OU2 : Hid (Okf U2 ∧ ∀ y ∈ U2, y.pr = noS) := by rw [hU2]; exact ⟨okf_upd HUO.out.1 _ _, upd_pr HUO.out.2 _ _⟩
  have LG2 : Hid (G2.length = l.length) := by show G2.length = l.length; rw [hG2, upd_len]; exact hGl.out
  have LU2 : Hid (U2.length = l.length) := by show U2.length = l.length; rw [hU2, upd_len]; exact hUl.out
  clear hG2 hU2
  have HTL := Lib.hid HWE.out.tch
  have S14z : Hid (x14.heap.size ≤ x15.heap.size) := HTL.out.size
  have BQ15 : Hid (Below w4.heap.size w4 x15) := BQ14.out.trans (HTL.out.below BQ14.out.size (fun g hg e => by omega))
  clear HWE
  have MF1 : Hid (Bun 28 2 XF.cells x15 x0.heap.size x1.heap.size AF1 CF1 F1) := NF1.out.keep (fun g h1 h2 => by
    rw [HTL.out.block g (by have h3 := ((next_ofS (next_ofS (next_ofS (next_ofS (next_ofS (next_ofS (next_ofS (next_ofS (next_ofS (next_ofS (next_ofS (next_ofS S1.out S2.out) S3.out) S4.out) S5.out) S6.out) S7.out) S8.out) S9.out) S10.out) S11.out) S12.out) S13.out)).size; omega) (fun e => by have h4 := HS7.out; omega), ((next_ofS (next_ofS (next_ofS (next_ofS (next_ofS (next_ofS (next_ofS (next_ofS (next_ofS (next_ofS (next_ofS (next_ofS S1.out S2.out) S3.out) S4.out) S5.out) S6.out) S7.out) S8.out) S9.out) S10.out) S11.out) S12.out) S13.out)).block g h2])
  have MF2 : Hid (Bun 28 2 XF.cells x15 x1.heap.size x2.heap.size AF2 CF2 F2) := NF2.out.keep (fun g h1 h2 => by
    rw [HTL.out.block g (by have h3 := ((next_ofS (next_ofS (next_ofS (next_ofS (next_ofS (next_ofS (next_ofS (next_ofS (next_ofS (next_ofS (next_ofS S2.out S3.out) S4.out) S5.out) S6.out) S7.out) S8.out) S9.out) S10.out) S11.out) S12.out) S13.out)).size; omega) (fun e => by have h3 := (S0.out).size; have h4 := HS7.out; omega), ((next_ofS (next_ofS (next_ofS (next_ofS (next_ofS (next_ofS (next_ofS (next_ofS (next_ofS (next_ofS (next_ofS S2.out S3.out) S4.out) S5.out) S6.out) S7.out) S8.out) S9.out) S10.out) S11.out) S12.out) S13.out)).block g h2])
  have MF3 : Hid (Bun 28 2 XF.cells x15 x3.heap.size x4.heap.size AF3 CF3 F3) := NF3.out.keep (fun g h1 h2 => by
    rw [HTL.out.block g (by have h3 := ((next_ofS (next_ofS (next_ofS (next_ofS (next_ofS (next_ofS (next_ofS (next_ofS (next_ofS S4.out S5.out) S6.out) S7.out) S8.out) S9.out) S10.out) S11.out) S12.out) S13.out)).size; omega) (fun e => by have h3 := ((next_ofS (next_ofS S0.out S1.out) S2.out)).size; have h4 := HS7.out; omega), ((next_ofS (next_ofS (next_ofS (next_ofS (next_ofS (next_ofS (next_ofS (next_ofS (next_ofS S4.out S5.out) S6.out) S7.out) S8.out) S9.out) S10.out) S11.out) S12.out) S13.out)).block g h2])
  have MT1 : Hid (Bun 26 1 XF.tcells x15 x4.heap.size x5.heap.size AT1 CT1 T1) := NT1.out.keep (fun g h1 h2 => by
    rw [HTL.out.block g (by have h3 := ((next_ofS (next_ofS (next_ofS (next_ofS (next_ofS (next_ofS (next_ofS (next_ofS S5.out S6.out) S7.out) S8.out) S9.out) S10.out) S11.out) S12.out) S13.out)).size; omega) (fun e => by have h3 := ((next_ofS (next_ofS (next_ofS S0.out S1.out) S2.out) S3.out)).size; have h4 := HS7.out; omega), ((next_ofS (next_ofS (next_ofS (next_ofS (next_ofS (next_ofS (next_ofS (next_ofS S5.out S6.out) S7.out) S8.out) S9.out) S10.out) S11.out) S12.out) S13.out)).block g h2])
  have MT2 : Hid (Bun 26 1 XF.tcells x15 x5.heap.size x6.heap.size AT2 CT2 T2) := NT2.out.keep (fun g h1 h2 => by
    rw [HTL.out.block g (by have h3 := ((next_ofS (next_ofS (next_ofS (next_ofS (next_ofS (next_ofS (next_ofS S6.out S7.out) S8.out) S9.out) S10.out) S11.out) S12.out) S13.out)).size; omega) (fun e => by have h3 := ((next_ofS (next_ofS (next_ofS (next_ofS S0.out S1.out) S2.out) S3.out) S4.out)).size; have h4 := HS7.out; omega), ((next_ofS (next_ofS (next_ofS (next_ofS (next_ofS (next_ofS (next_ofS S6.out S7.out) S8.out) S9.out) S10.out) S11.out) S12.out) S13.out)).block g h2])
  have MF4 : Hid (Bun 28 2 XF.cells x15 x12.heap.size x13.heap.size AF4 CF4 F4) := NF4.out.keep (fun g h1 h2 => by
    rw [HTL.out.block g (by have h3 := (S13.out).size; omega) (fun e => by have h3 := ((next_ofS (next_ofS (next_ofS (next_ofS (next_ofS (next_ofS (next_ofS (next_ofS (next_ofS (next_ofS (next_ofS S0.out S1.out) S2.out) S3.out) S4.out) S5.out) S6.out) S7.out) S8.out) S9.out) S10.out) S11.out)).size; have h4 := HS7.out; omega), (S13.out).block g h2])
  have MT4 : Hid (Bun 26 1 XF.tcells x15 x13.heap.size x14.heap.size AT4 CT4 T4) := NT4.out.keep (fun g h1 h2 => by
    rw [HTL.out.block g (by omega) (fun e => by have h3 := ((next_ofS (next_ofS (next_ofS (next_ofS (next_ofS (next_ofS (next_ofS (next_ofS (next_ofS (next_ofS (next_ofS (next_ofS S0.out S1.out) S2.out) S3.out) S4.out) S5.out) S6.out) S7.out) S8.out) S9.out) S10.out) S11.out) S12.out)).size; have h4 := HS7.out; omega)])
  have HSZ : Hid (w4.heap.size ≤ w5.heap.size ∧ w5.heap.size ≤ w6.heap.size ∧ w6.heap.size + 1 = x0.heap.size ∧ x0.heap.size ≤ x1.heap.size ∧ x1.heap.size ≤ x2.heap.size ∧ x2.heap.size ≤ x3.heap.size ∧ x3.heap.size ≤ x4.heap.size ∧ x4.heap.size ≤ x5.heap.size ∧ x5.heap.size ≤ x6.heap.size ∧ x6.heap.size ≤ x7.heap.size ∧ x7.heap.size ≤ x8.heap.size ∧ x8.heap.size ≤ x9.heap.size ∧ x9.heap.size ≤ x10.heap.size ∧ x10.heap.size ≤ x11.heap.size ∧ x11.heap.size ≤ x12.heap.size ∧ x12.heap.size ≤ x13.heap.size ∧ x13.heap.size ≤ x14.heap.size ∧ x14.heap.size ≤ x15.heap.size) := ⟨HS45.out.1, HS45.out.2, HS7.out, S0.out.size, S1.out.size, S2.out.size, S3.out.size, S4.out.size, S5.out.size, S6.out.size, S7.out.size, S8.out.size, S9.out.size, S10.out.size, S11.out.size, S12.out.size, S13.out.size, S14z.out⟩
  have HBKE : Hid (∀ u, Below x15.heap.size x15 u → RL u w6.heap.size 63 (bkCells 0 (.slice none 0 0) (.slice none 0 0) (.slice none 0 0))) := fun u hu => by
    have h1 : RL x14 w6.heap.size 63 (bkCells 0 (.slice none 0 0) (.slice none 0 0) (.slice none 0 0)) := RL.below HBK7.out (next_ofS (next_ofS (next_ofS (next_ofS (next_ofS (next_ofS (next_ofS (next_ofS (next_ofS (next_ofS (next_ofS (next_ofS (next_ofS S0.out S1.out) S2.out) S3.out) S4.out) S5.out) S6.out) S7.out) S8.out) S9.out) S10.out) S11.out) S12.out) S13.out)
    have h2 : RL x15 w6.heap.size 63 (bkCells 0 (.slice none 0 0) (.slice none 0 0) (.slice none 0 0)) := World.rowIs.of_block h1 (HTL.out.block _ (World.rowIs.lt h1) (fun e => by omega))
    exact RL.below h2 hu
  clear NF1 NF2 NF3 NT1 NT2 NF4 NT4 HBK7 HTL S14z HSL14 NH OH KH LWM TWM HUV HGV HVT HLL HTS
  have HQ := Lib.hid (prfacts (NG2.out.lf OG2.out) OG2.out.len OG2.out.sm)
  rw [LG2.out] at HQ
  go_wp2_with fail
  refine HQ.out.mono ?_
  rintro e x16 ⟨AY, CY, WY, rfl, b, t, lf⟩
  have S15 := Lib.hid b
  have TWY := Lib.hid t
  have LWY := Lib.hid lf
  clear b t lf HQ
  have HQ := Lib.hid (prtuples ((NU2.out.keep (fun g h1 h2 => S15.out.block g (by have h3 := HSZ.out; omega))).lu OU2.out.1 OU2.out.2) OU2.out.1.len OU2.out.1.sm)
  rw [LU2.out] at HQ
  go_wp2_with fail
  refine HQ.out.mono ?_
  rintro e x17 ⟨AZ, CZ, WZ, rfl, b, t, lf⟩
  have S16 := Lib.hid b
  have TWZ := Lib.hid t
  have LWZ := Lib.hid lf
  clear b t lf HQ
  have HQ := Lib.hid (pfacts (NG2.out.keep (fun g h1 h2 => ((next_ofS S15.out S16.out)).block g (by have h3 := HSZ.out; omega))) OG2.out)
  rw [LG2.out] at HQ
  go_wp2_with fail
  refine HQ.out.mono ?_
  rintro e x18 ⟨AF5, CF5, F5, rfl, b, t, ok, bu⟩
  have S17 := Lib.hid b
  have TF5 := Lib.hid t
  have OF5 := Lib.hid ok
  have NF5 := Lib.hid bu
  clear b t ok bu HQ
  have HQ := Lib.hid (ptuples (NU2.out.keep (fun g h1 h2 => ((next_ofS (next_ofS S15.out S16.out) S17.out)).block g (by have h3 := HSZ.out; omega))) OU2.out.1 OU2.out.2)
  rw [LU2.out] at HQ
  go_wp2_with fail
  refine HQ.out.mono ?_
  rintro e x19 ⟨AT5, CT5, T5, rfl, b, t, ok, pr, bu⟩
  have S18 := Lib.hid b
  have TT5 := Lib.hid t
  have OT5 := Lib.hid (And.intro ok pr)
  have NT5 := Lib.hid bu
  clear b t ok pr bu HQ
  have HQ := Lib.hid (sameFs_same _ _ F4 WF x19 ((MF4.out.keep (fun g _ h2 => ((next_ofS (next_ofS (next_ofS S15.out S16.out) S17.out) S18.out)).block g (by have h3 := HSZ.out; omega))).lf OF4.out) (HWF4.out _ (next_ofS BQ15.out (next_ofS (next_ofS (next_ofS S15.out S16.out) S17.out) S18.out))) (TF4.out.eq HTF.out))
  go_wp2_with fail
  refine HQ.out.mono ?_
  rintro e x20 ⟨rfl, b⟩
  have S19 := Lib.hid b
  clear b HQ
  have HQ := Lib.hid (sameTs_same _ _ T4 WT x20 ((MT4.out.keep (fun g _ h2 => ((next_ofS (next_ofS (next_ofS (next_ofS S15.out S16.out) S17.out) S18.out) S19.out)).block g (by have h3 := HSZ.out; omega))).lu OT4.out.1 OT4.out.2) (HWT4.out _ (next_ofS BQ15.out (next_ofS (next_ofS (next_ofS (next_ofS S15.out S16.out) S17.out) S18.out) S19.out))) (TT4.out.eq HTT.out))
  go_wp2_with fail
  refine HQ.out.mono ?_
  rintro e x21 ⟨rfl, b⟩
  have S20 := Lib.hid b
  clear b HQ
  have HQ := Lib.hid (sameFs_same _ _ F5 WY x21 ((NF5.out.keep (fun g _ h2 => ((next_ofS (next_ofS S18.out S19.out) S20.out)).block g (by have h3 := HSZ.out; omega))).lf OF5.out) (LWY.out.below (next_ofS (next_ofS (next_ofS (next_ofS S16.out S17.out) S18.out) S19.out) S20.out)) (TF5.out.eq TWY.out))
  go_wp2_with fail
  refine HQ.out.mono ?_
  rintro e x22 ⟨rfl, b⟩
  have S21 := Lib.hid b
  clear b HQ
  have HQ := Lib.hid (sameTs_same _ _ T5 WZ x22 ((NT5.out.keep (fun g _ h2 => ((next_ofS (next_ofS S19.out S20.out) S21.out)).block g (by have h3 := HSZ.out; omega))).lu OT5.out.1 OT5.out.2) (LWZ.out.below (next_ofS (next_ofS (next_ofS (next_ofS S17.out S18.out) S19.out) S20.out) S21.out)) (TT5.out.eq TWZ.out))
  go_wp2_with fail
  refine HQ.out.mono ?_
  rintro e x23 ⟨rfl, b⟩
  have S22 := Lib.hid b
  clear b HQ
  have HZ2 : Hid (x15.heap.size ≤ x16.heap.size ∧ x16.heap.size ≤ x17.heap.size ∧ x17.heap.size ≤ x18.heap.size ∧ x18.heap.size ≤ x19.heap.size ∧ x19.heap.size ≤ x20.heap.size ∧ x20.heap.size ≤ x21.heap.size ∧ x21.heap.size ≤ x22.heap.size ∧ x22.heap.size ≤ x23.heap.size) := ⟨S15.out.size, S16.out.size, S17.out.size, S18.out.size, S19.out.size, S20.out.size, S21.out.size, S22.out.size⟩
  obtain ⟨B, hB⟩ : ∃ B, B = x23.heap.size := ⟨_, rfl⟩
  have HBE := Lib.hid hB
  have BQ23 : Hid (Below w4.heap.size w4 x23) := next_ofS BQ15.out (next_ofS (next_ofS (next_ofS (next_ofS (next_ofS (next_ofS (next_ofS S15.out S16.out) S17.out) S18.out) S19.out) S20.out) S21.out) S22.out)
  have HBK := Lib.hid (HBKE.out x23 (next_ofS (next_ofS (next_ofS (next_ofS (next_ofS (next_ofS (next_ofS S15.out S16.out) S17.out) S18.out) S19.out) S20.out) S21.out) S22.out))
  have EG2 : Hid (Bun 28 2 XF.cells x23 w4.heap.size w5.heap.size aG (l.length + 1) G2) := NG2.out.keep (fun g h1 h2 => ((next_ofS (next_ofS (next_ofS (next_ofS (next_ofS (next_ofS (next_ofS S15.out S16.out) S17.out) S18.out) S19.out) S20.out) S21.out) S22.out)).block g (by have h3 := HSZ.out; have h4 := HZ2.out; omega))
  have EF1 : Hid (Bun 28 2 XF.cells x23 x0.heap.size x1.heap.size AF1 CF1 F1) := MF1.out.keep (fun g h1 h2 => ((next_ofS (next_ofS (next_ofS (next_ofS (next_ofS (next_ofS (next_ofS S15.out S16.out) S17.out) S18.out) S19.out) S20.out) S21.out) S22.out)).block g (by have h3 := HSZ.out; have h4 := HZ2.out; omega))
  have EF2 : Hid (Bun 28 2 XF.cells x23 x1.heap.size x2.heap.size AF2 CF2 F2) := MF2.out.keep (fun g h1 h2 => ((next_ofS (next_ofS (next_ofS (next_ofS (next_ofS (next_ofS (next_ofS S15.out S16.out) S17.out) S18.out) S19.out) S20.out) S21.out) S22.out)).block g (by have h3 := HSZ.out; have h4 := HZ2.out; omega))
  have EF3 : Hid (Bun 28 2 XF.cells x23 x3.heap.size x4.heap.size AF3 CF3 F3) := MF3.out.keep (fun g h1 h2 => ((next_ofS (next_ofS (next_ofS (next_ofS (next_ofS (next_ofS (next_ofS S15.out S16.out) S17.out) S18.out) S19.out) S20.out) S21.out) S22.out)).block g (by have h3 := HSZ.out; have h4 := HZ2.out; omega))
  have EF4 : Hid (Bun 28 2 XF.cells x23 x12.heap.size x13.heap.size AF4 CF4 F4) := MF4.out.keep (fun g h1 h2 => ((next_ofS (next_ofS (next_ofS (next_ofS (next_ofS (next_ofS (next_ofS S15.out S16.out) S17.out) S18.out) S19.out) S20.out) S21.out) S22.out)).block g (by have h3 := HSZ.out; have h4 := HZ2.out; omega))
  have EF5 : Hid (Bun 28 2 XF.cells x23 x17.heap.size x18.heap.size AF5 CF5 F5) := NF5.out.keep (fun g h1 h2 => ((next_ofS (next_ofS (next_ofS (next_ofS S18.out S19.out) S20.out) S21.out) S22.out)).block g (by have h3 := HSZ.out; have h4 := HZ2.out; omega))
  have EU2 : Hid (Bun 26 1 XF.tcells x23 w5.heap.size w6.heap.size aU (l.length + 1) U2) := NU2.out.keep (fun g h1 h2 => ((next_ofS (next_ofS (next_ofS (next_ofS (next_ofS (next_ofS (next_ofS S15.out S16.out) S17.out) S18.out) S19.out) S20.out) S21.out) S22.out)).block g (by have h3 := HSZ.out; have h4 := HZ2.out; omega))
  have ET1 : Hid (Bun 26 1 XF.tcells x23 x4.heap.size x5.heap.size AT1 CT1 T1) := MT1.out.keep (fun g h1 h2 => ((next_ofS (next_ofS (next_ofS (next_ofS (next_ofS (next_ofS (next_ofS S15.out S16.out) S17.out) S18.out) S19.out) S20.out) S21.out) S22.out)).block g (by have h3 := HSZ.out; have h4 := HZ2.out; omega))
  have ET2 : Hid (Bun 26 1 XF.tcells x23 x5.heap.size x6.heap.size AT2 CT2 T2) := MT2.out.keep (fun g h1 h2 => ((next_ofS (next_ofS (next_ofS (next_ofS (next_ofS (next_ofS (next_ofS S15.out S16.out) S17.out) S18.out) S19.out) S20.out) S21.out) S22.out)).block g (by have h3 := HSZ.out; have h4 := HZ2.out; omega))
  have ET4 : Hid (Bun 26 1 XF.tcells x23 x13.heap.size x14.heap.size AT4 CT4 T4) := MT4.out.keep (fun g h1 h2 => ((next_ofS (next_ofS (next_ofS (next_ofS (next_ofS (next_ofS (next_ofS S15.out S16.out) S17.out) S18.out) S19.out) S20.out) S21.out) S22.out)).block g (by have h3 := HSZ.out; have h4 := HZ2.out; omega))
  have ET5 : Hid (Bun 26 1 XF.tcells x23 x18.heap.size x19.heap.size AT5 CT5 T5) := NT5.out.keep (fun g h1 h2 => ((next_ofS (next_ofS (next_ofS S19.out S20.out) S21.out) S22.out)).block g (by have h3 := HSZ.out; have h4 := HZ2.out; omega))
  have HLEN : Hid (G2.length ≤ 1048576 ∧ F1.length ≤ 1048576 ∧ F2.length ≤ 1048576 ∧ F3.length ≤ 1048576 ∧ F4.length ≤ 1048576 ∧ F5.length ≤ 1048576 ∧ U2.length ≤ 1048576 ∧ T1.length ≤ 1048576 ∧ T2.length ≤ 1048576 ∧ T4.length ≤ 1048576 ∧ T5.length ≤ 1048576) := ⟨OG2.out.len, OF1.out.len, OF2.out.len, OF3.out.len, OF4.out.len, OF5.out.len, OU2.out.1.len, OT1.out.1.len, OT2.out.1.len, OT4.out.1.len, OT5.out.1.len⟩
  have HR0 : Hid (Reg x23 w4.heap.size w6.heap.size B 0 (fun g => g < 0) (.slice none 0 0) (.slice none 0 0) (.slice none 0 0) [] [] []) := by
    have hb : w6.heap.size < B := by have h3 := HSZ.out; have h4 := HZ2.out; have h5 := HBE.out; omega
    refine ⟨⟨HBK.out, by simpa using World.ownsRow_nil x23 B _ 3, by simpa using World.ownsRow_nil x23 B _ 3, by simpa using World.ownsRow_nil x23 B _ 3, fun g h => (by cases h), fun g h => (by cases h), fun g h => (by cases h), hb⟩, ?_, ?_, ?_, ⟨?_, ?_, ?_⟩, ?_, ⟨Nat.zero_le _, Nat.zero_le _, Nat.zero_le _⟩⟩
    · exact ⟨fun h hm => (by cases hm), fun h hm => (by cases hm), List.Pairwise.nil, fun h hm => (by cases hm), Nat.zero_le _⟩
    · exact ⟨fun h hm => (by cases hm), fun h hm => (by cases hm), List.Pairwise.nil, fun h hm => (by cases hm), Nat.zero_le _⟩
    · exact ⟨fun h hm => (by cases hm), fun h hm => (by cases hm), List.Pairwise.nil, fun h hm => (by cases hm), Nat.zero_le _⟩
    · rintro g ⟨h, hm, _⟩; cases hm
    · rintro g ⟨h, hm, _⟩; cases hm
    · rintro g ⟨h, hm, _⟩; cases hm
    · rintro g (⟨h, hm, _⟩ | ⟨h, hm, _⟩ | ⟨h, hm, _⟩) <;> cases hm
  have HT0 : Hid (Tch (EB w6.heap.size B) x23 x23) := Tch.refl _ _
  clear HBKE HBK NG2 MF1 MF2 MF3 MF4 NF5 NU2 MT1 MT2 MT4 NT5 S0 S1 S2 S3 S4 S5 S6 S7 S8 S9 S10 S11 S12 S13 S15 S16 S17 S18 S19 S20 S21 S22 hB
  have HRA0 : Hid (∃ (n : Nat) (C : Nat → Prop) (v1 v2 v3 : Value) (h1 h2 h3 : List Hd), Reg x23 w4.heap.size w6.heap.size B n C v1 v2 v3 h1 h2 h3 ∧ n ≤ 0 ∧ ∀ g, C g → g < 0) := ⟨0, _, _, _, _, _, _, _, HR0.out, Nat.le_refl _, fun g e => e⟩
  clear HR0
  obtain ⟨n, C, v1, v2, v3, h1, h2, h3, hr, hn, hcv⟩ := HRA0.out
  have HCV := Lib.hid hcv
  have HNB := Lib.hid hn
  have HC := Lib.hid (bkFacts_any hr (by have h5 := HBE.out; have h6 := HT0.out.size; omega) (by have h7 := HLEN.out; omega) (bun_eb EG2.out HT0.out (by have h3 := HSZ.out; have h4 := HZ2.out; have h5 := HBE.out; omega) (by have h5 := HBE.out; omega) (by have h3 := HSZ.out; have h4 := HZ2.out; omega)) (by have h3 := HSZ.out; have h4 := HZ2.out; omega) (by have h3 := HSZ.out; have h4 := HZ2.out; have h5 := HBE.out; omega) (by have h3 := HSZ.out; have h4 := HZ2.out; omega) (fun g g1 g2 hc => by have h3 := HSZ.out; have h4 := HZ2.out; have h5 := hcv g hc; omega) OG2.out.len OG2.out.sm)
  rw [LG2.out] at HC
  clear hr hn hcv HRA0
  go_wp2_with fail
  refine HC.out.mono ?_
  rintro e y1 ⟨rfl, tc, v4, v5, v6, h4, h5, h6, hr⟩
  have HRA1 : Hid (∃ (n : Nat) (C : Nat → Prop) (v1 v2 v3 : Value) (h1 h2 h3 : List Hd), Reg y1 w4.heap.size w6.heap.size B n C v1 v2 v3 h1 h2 h3 ∧ n ≤ 1048577 ∧ ∀ g, C g → g < 0 ∨ (w4.heap.size ≤ g ∧ g < w5.heap.size)) := ⟨_, _, v4, v5, v6, h4, h5, h6, hr, by have h7 := HLEN.out; have h8 := HNB.out; omega, fun g e => by
    rcases e with e | e
    · have h9 := HCV.out g e; omega
    · omega⟩
  have HT1 := Lib.hid (HT0.out.trans tc)
  clear tc hr HC HT0 EG2 HCV HNB v4 v5 v6 h4 h5 h6 C v1 v2 v3 h1 h2 h3 n
  obtain ⟨n, C, v1, v2, v3, h1, h2, h3, hr, hn, hcv⟩ := HRA1.out
  have HCV := Lib.hid hcv
  have HNB := Lib.hid hn
  have HC := Lib.hid (bkFacts_any hr (by have h5 := HBE.out; have h6 := HT1.out.size; omega) (by have h7 := HLEN.out; omega) (bun_eb EF1.out HT1.out (by have h3 := HSZ.out; have h4 := HZ2.out; have h5 := HBE.out; omega) (by have h5 := HBE.out; omega) (by have h3 := HSZ.out; have h4 := HZ2.out; omega)) (by have h3 := HSZ.out; have h4 := HZ2.out; omega) (by have h3 := HSZ.out; have h4 := HZ2.out; have h5 := HBE.out; omega) (by have h3 := HSZ.out; have h4 := HZ2.out; omega) (fun g g1 g2 hc => by have h3 := HSZ.out; have h4 := HZ2.out; have h5 := hcv g hc; omega) OF1.out.len OF1.out.sm)
  clear hr hn hcv HRA1
  go_wp2_with fail
  refine HC.out.mono ?_
  rintro e y2 ⟨rfl, tc, v4, v5, v6, h4, h5, h6, hr⟩
  have HRA2 : Hid (∃ (n : Nat) (C : Nat → Prop) (v1 v2 v3 : Value) (h1 h2 h3 : List Hd), Reg y2 w4.heap.size w6.heap.size B n C v1 v2 v3 h1 h2 h3 ∧ n ≤ 2097154 ∧ ∀ g, C g → g < 0 ∨ (w4.heap.size ≤ g ∧ g < w5.heap.size) ∨ (x0.heap.size ≤ g ∧ g < x1.heap.size)) := ⟨_, _, v4, v5, v6, h4, h5, h6, hr, by have h7 := HLEN.out; have h8 := HNB.out; omega, fun g e => by
    rcases e with e | e
    · have h9 := HCV.out g e; omega
    · omega⟩
  have HT2 := Lib.hid (HT1.out.trans tc)
  clear tc hr HC HT1 EF1 HCV HNB v4 v5 v6 h4 h5 h6 C v1 v2 v3 h1 h2 h3 n
  obtain ⟨n, C, v1, v2, v3, h1, h2, h3, hr, hn, hcv⟩ := HRA2.out
  have HCV := Lib.hid hcv
  have HNB := Lib.hid hn
  have HC := Lib.hid (bkFacts_any hr (by have h5 := HBE.out; have h6 := HT2.out.size; omega) (by have h7 := HLEN.out; omega) (bun_eb EF2.out HT2.out (by have h3 := HSZ.out; have h4 := HZ2.out; have h5 := HBE.out; omega) (by have h5 := HBE.out; omega) (by have h3 := HSZ.out; have h4 := HZ2.out; omega)) (by have h3 := HSZ.out; have h4 := HZ2.out; omega) (by have h3 := HSZ.out; have h4 := HZ2.out; have h5 := HBE.out; omega) (by have h3 := HSZ.out; have h4 := HZ2.out; omega) (fun g g1 g2 hc => by have h3 := HSZ.out; have h4 := HZ2.out; have h5 := hcv g hc; omega) OF2.out.len OF2.out.sm)
  clear hr hn hcv HRA2
  go_wp2_with fail
  refine HC.out.mono ?_
  rintro e y3 ⟨rfl, tc, v4, v5, v6, h4, h5, h6, hr⟩
  have HRA3 : Hid (∃ (n : Nat) (C : Nat → Prop) (v1 v2 v3 : Value) (h1 h2 h3 : List Hd), Reg y3 w4.heap.size w6.heap.size B n C v1 v2 v3 h1 h2 h3 ∧ n ≤ 3145731 ∧ ∀ g, C g → g < 0 ∨ (w4.heap.size ≤ g ∧ g < w5.heap.size) ∨ (x0.heap.size ≤ g ∧ g < x1.heap.size) ∨ (x1.heap.size ≤ g ∧ g < x2.heap.size)) := ⟨_, _, v4, v5, v6, h4, h5, h6, hr, by have h7 := HLEN.out; have h8 := HNB.out; omega, fun g e => by
    rcases e with e | e
    · have h9 := HCV.out g e; omega
    · omega⟩
  have HT3 := Lib.hid (HT2.out.trans tc)
  clear tc hr HC HT2 EF2 HCV HNB v4 v5 v6 h4 h5 h6 C v1 v2 v3 h1 h2 h3 n
  obtain ⟨n, C, v1, v2, v3, h1, h2, h3, hr, hn, hcv⟩ := HRA3.out
  have HCV := Lib.hid hcv
  have HNB := Lib.hid hn
  have HC := Lib.hid (bkFacts_any hr (by have h5 := HBE.out; have h6 := HT3.out.size; omega) (by have h7 := HLEN.out; omega) (bun_eb EF3.out HT3.out (by have h3 := HSZ.out; have h4 := HZ2.out; have h5 := HBE.out; omega) (by have h5 := HBE.out; omega) (by have h3 := HSZ.out; have h4 := HZ2.out; omega)) (by have h3 := HSZ.out; have h4 := HZ2.out; omega) (by have h3 := HSZ.out; have h4 := HZ2.out; have h5 := HBE.out; omega) (by have h3 := HSZ.out; have h4 := HZ2.out; omega) (fun g g1 g2 hc => by have h3 := HSZ.out; have h4 := HZ2.out; have h5 := hcv g hc; omega) OF3.out.len OF3.out.sm)
  clear hr hn hcv HRA3
  go_wp2_with fail
  refine HC.out.mono ?_
  rintro e y4 ⟨rfl, tc, v4, v5, v6, h4, h5, h6, hr⟩
  have HRA4 : Hid (∃ (n : Nat) (C : Nat → Prop) (v1 v2 v3 : Value) (h1 h2 h3 : List Hd), Reg y4 w4.heap.size w6.heap.size B n C v1 v2 v3 h1 h2 h3 ∧ n ≤ 4194308 ∧ ∀ g, C g → g < 0 ∨ (w4.heap.size ≤ g ∧ g < w5.heap.size) ∨ (x0.heap.size ≤ g ∧ g < x1.heap.size) ∨ (x1.heap.size ≤ g ∧ g < x2.heap.size) ∨ (x3.heap.size ≤ g ∧ g < x4.heap.size)) := ⟨_, _, v4, v5, v6, h4, h5, h6, hr, by have h7 := HLEN.out; have h8 := HNB.out; omega, fun g e => by
    rcases e with e | e
    · have h9 := HCV.out g e; omega
    · omega⟩
  have HT4 := Lib.hid (HT3.out.trans tc)
  clear tc hr HC HT3 EF3 HCV HNB v4 v5 v6 h4 h5 h6 C v1 v2 v3 h1 h2 h3 n
  obtain ⟨n, C, v1, v2, v3, h1, h2, h3, hr, hn, hcv⟩ := HRA4.out
  have HCV := Lib.hid hcv
  have HNB := Lib.hid hn
  have HC := Lib.hid (bkFacts_any hr (by have h5 := HBE.out; have h6 := HT4.out.size; omega) (by have h7 := HLEN.out; omega) (bun_eb EF4.out HT4.out (by have h3 := HSZ.out; have h4 := HZ2.out; have h5 := HBE.out; omega) (by have h5 := HBE.out; omega) (by have h3 := HSZ.out; have h4 := HZ2.out; omega)) (by have h3 := HSZ.out; have h4 := HZ2.out; omega) (by have h3 := HSZ.out; have h4 := HZ2.out; have h5 := HBE.out; omega) (by have h3 := HSZ.out; have h4 := HZ2.out; omega) (fun g g1 g2 hc => by have h3 := HSZ.out; have h4 := HZ2.out; have h5 := hcv g hc; omega) OF4.out.len OF4.out.sm)
  clear hr hn hcv HRA4
  go_wp2_with fail
  refine HC.out.mono ?_
  rintro e y5 ⟨rfl, tc, v4, v5, v6, h4, h5, h6, hr⟩
  have HRA5 : Hid (∃ (n : Nat) (C : Nat → Prop) (v1 v2 v3 : Value) (h1 h2 h3 : List Hd), Reg y5 w4.heap.size w6.heap.size B n C v1 v2 v3 h1 h2 h3 ∧ n ≤ 5242885 ∧ ∀ g, C g → g < 0 ∨ (w4.heap.size ≤ g ∧ g < w5.heap.size) ∨ (x0.heap.size ≤ g ∧ g < x1.heap.size) ∨ (x1.heap.size ≤ g ∧ g < x2.heap.size) ∨ (x3.heap.size ≤ g ∧ g < x4.heap.size) ∨ (x12.heap.size ≤ g ∧ g < x13.heap.size)) := ⟨_, _, v4, v5, v6, h4, h5, h6, hr, by have h7 := HLEN.out; have h8 := HNB.out; omega, fun g e => by
    rcases e with e | e
    · have h9 := HCV.out g e; omega
    · omega⟩
  have HT5 := Lib.hid (HT4.out.trans tc)
  clear tc hr HC HT4 EF4 HCV HNB v4 v5 v6 h4 h5 h6 C v1 v2 v3 h1 h2 h3 n
  obtain ⟨n, C, v1, v2, v3, h1, h2, h3, hr, hn, hcv⟩ := HRA5.out
  have HCV := Lib.hid hcv
  have HNB := Lib.hid hn
  have HC := Lib.hid (bkFacts_any hr (by have h5 := HBE.out; have h6 := HT5.out.size; omega) (by have h7 := HLEN.out; omega) (bun_eb EF5.out HT5.out (by have h3 := HSZ.out; have h4 := HZ2.out; have h5 := HBE.out; omega) (by have h5 := HBE.out; omega) (by have h3 := HSZ.out; have h4 := HZ2.out; omega)) (by have h3 := HSZ.out; have h4 := HZ2.out; omega) (by have h3 := HSZ.out; have h4 := HZ2.out; have h5 := HBE.out; omega) (by have h3 := HSZ.out; have h4 := HZ2.out; omega) (fun g g1 g2 hc => by have h3 := HSZ.out; have h4 := HZ2.out; have h5 := hcv g hc; omega) OF5.out.len OF5.out.sm)
  clear hr hn hcv HRA5
  go_wp2_with fail
  refine HC.out.mono ?_
  rintro e y6 ⟨rfl, tc, v4, v5, v6, h4, h5, h6, hr⟩
  have HRA6 : Hid (∃ (n : Nat) (C : Nat → Prop) (v1 v2 v3 : Value) (h1 h2 h3 : List Hd), Reg y6 w4.heap.size w6.heap.size B n C v1 v2 v3 h1 h2 h3 ∧ n ≤ 6291462 ∧ ∀ g, C g → g < 0 ∨ (w4.heap.size ≤ g ∧ g < w5.heap.size) ∨ (x0.heap.size ≤ g ∧ g < x1.heap.size) ∨ (x1.heap.size ≤ g ∧ g < x2.heap.size) ∨ (x3.heap.size ≤ g ∧ g < x4.heap.size) ∨ (x12.heap.size ≤ g ∧ g < x13.heap.size) ∨ (x17.heap.size ≤ g ∧ g < x18.heap.size)) := ⟨_, _, v4, v5, v6, h4, h5, h6, hr, by have h7 := HLEN.out; have h8 := HNB.out; omega, fun g e => by
    rcases e with e | e
    · have h9 := HCV.out g e; omega
    · omega⟩
  have HT6 := Lib.hid (HT5.out.trans tc)
  clear tc hr HC HT5 EF5 HCV HNB v4 v5 v6 h4 h5 h6 C v1 v2 v3 h1 h2 h3 n
  obtain ⟨n, C, v1, v2, v3, h1, h2, h3, hr, hn, hcv⟩ := HRA6.out
  have HCV := Lib.hid hcv
  have HNB := Lib.hid hn
  have HC := Lib.hid (bkTuples_any hr (by have h5 := HBE.out; have h6 := HT6.out.size; omega) (by have h7 := HLEN.out; omega) (bun_eb EU2.out HT6.out (by have h3 := HSZ.out; have h4 := HZ2.out; have h5 := HBE.out; omega) (by have h5 := HBE.out; omega) (by have h3 := HSZ.out; have h4 := HZ2.out; omega)) (by have h3 := HSZ.out; have h4 := HZ2.out; omega) (by have h3 := HSZ.out; have h4 := HZ2.out; have h5 := HBE.out; omega) (by have h3 := HSZ.out; have h4 := HZ2.out; omega) (fun g g1 g2 hc => by have h3 := HSZ.out; have h4 := HZ2.out; have h5 := hcv g hc; omega) OU2.out.1.len OU2.out.1.sm)
  rw [LU2.out] at HC
  clear hr hn hcv HRA6
  go_wp2_with fail
  refine HC.out.mono ?_
  rintro e y7 ⟨rfl, tc, v4, v5, v6, h4, h5, h6, hr⟩
  have HRA7 : Hid (∃ (n : Nat) (C : Nat → Prop) (v1 v2 v3 : Value) (h1 h2 h3 : List Hd), Reg y7 w4.heap.size w6.heap.size B n C v1 v2 v3 h1 h2 h3 ∧ n ≤ 7340039 ∧ ∀ g, C g → g < 0 ∨ (w4.heap.size ≤ g ∧ g < w5.heap.size) ∨ (x0.heap.size ≤ g ∧ g < x1.heap.size) ∨ (x1.heap.size ≤ g ∧ g < x2.heap.size) ∨ (x3.heap.size ≤ g ∧ g < x4.heap.size) ∨ (x12.heap.size ≤ g ∧ g < x13.heap.size) ∨ (x17.heap.size ≤ g ∧ g < x18.heap.size) ∨ (w5.heap.size ≤ g ∧ g < w6.heap.size)) := ⟨_, _, v4, v5, v6, h4, h5, h6, hr, by have h7 := HLEN.out; have h8 := HNB.out; omega, fun g e => by
    rcases e with e | e
    · have h9 := HCV.out g e; omega
    · omega⟩
  have HT7 := Lib.hid (HT6.out.trans tc)
  clear tc hr HC HT6 EU2 HCV HNB v4 v5 v6 h4 h5 h6 C v1 v2 v3 h1 h2 h3 n
  obtain ⟨n, C, v1, v2, v3, h1, h2, h3, hr, hn, hcv⟩ := HRA7.out
  have HCV := Lib.hid hcv
  have HNB := Lib.hid hn
  have HC := Lib.hid (bkTuples_any hr (by have h5 := HBE.out; have h6 := HT7.out.size; omega) (by have h7 := HLEN.out; omega) (bun_eb ET1.out HT7.out (by have h3 := HSZ.out; have h4 := HZ2.out; have h5 := HBE.out; omega) (by have h5 := HBE.out; omega) (by have h3 := HSZ.out; have h4 := HZ2.out; omega)) (by have h3 := HSZ.out; have h4 := HZ2.out; omega) (by have h3 := HSZ.out; have h4 := HZ2.out; have h5 := HBE.out; omega) (by have h3 := HSZ.out; have h4 := HZ2.out; omega) (fun g g1 g2 hc => by have h3 := HSZ.out; have h4 := HZ2.out; have h5 := hcv g hc; omega) OT1.out.1.len OT1.out.1.sm)
  clear hr hn hcv HRA7
  go_wp2_with fail
  refine HC.out.mono ?_
  rintro e y8 ⟨rfl, tc, v4, v5, v6, h4, h5, h6, hr⟩
  have HRA8 : Hid (∃ (n : Nat) (C : Nat → Prop) (v1 v2 v3 : Value) (h1 h2 h3 : List Hd), Reg y8 w4.heap.size w6.heap.size B n C v1 v2 v3 h1 h2 h3 ∧ n ≤ 8388616 ∧ ∀ g, C g → g < 0 ∨ (w4.heap.size ≤ g ∧ g < w5.heap.size) ∨ (x0.heap.size ≤ g ∧ g < x1.heap.size) ∨ (x1.heap.size ≤ g ∧ g < x2.heap.size) ∨ (x3.heap.size ≤ g ∧ g < x4.heap.size) ∨ (x12.heap.size ≤ g ∧ g < x13.heap.size) ∨ (x17.heap.size ≤ g ∧ g < x18.heap.size) ∨ (w5.heap.size ≤ g ∧ g < w6.heap.size) ∨ (x4.heap.size ≤ g ∧ g < x5.heap.size)) := ⟨_, _, v4, v5, v6, h4, h5, h6, hr, by have h7 := HLEN.out; have h8 := HNB.out; omega, fun g e => by
    rcases e with e | e
    · have h9 := HCV.out g e; omega
    · omega⟩
  have HT8 := Lib.hid (HT7.out.trans tc)
  clear tc hr HC HT7 ET1 HCV HNB v4 v5 v6 h4 h5 h6 C v1 v2 v3 h1 h2 h3 n
  obtain ⟨n, C, v1, v2, v3, h1, h2, h3, hr, hn, hcv⟩ := HRA8.out
  have HCV := Lib.hid hcv
  have HNB := Lib.hid hn
  have HC := Lib.hid (bkTuples_any hr (by have h5 := HBE.out; have h6 := HT8.out.size; omega) (by have h7 := HLEN.out; omega) (bun_eb ET2.out HT8.out (by have h3 := HSZ.out; have h4 := HZ2.out; have h5 := HBE.out; omega) (by have h5 := HBE.out; omega) (by have h3 := HSZ.out; have h4 := HZ2.out; omega)) (by have h3 := HSZ.out; have h4 := HZ2.out; omega) (by have h3 := HSZ.out; have h4 := HZ2.out; have h5 := HBE.out; omega) (by have h3 := HSZ.out; have h4 := HZ2.out; omega) (fun g g1 g2 hc => by have h3 := HSZ.out; have h4 := HZ2.out; have h5 := hcv g hc; omega) OT2.out.1.len OT2.out.1.sm)
  clear hr hn hcv HRA8
  go_wp2_with fail
  refine HC.out.mono ?_
  rintro e y9 ⟨rfl, tc, v4, v5, v6, h4, h5, h6, hr⟩
  have HRA9 : Hid (∃ (n : Nat) (C : Nat → Prop) (v1 v2 v3 : Value) (h1 h2 h3 : List Hd), Reg y9 w4.heap.size w6.heap.size B n C v1 v2 v3 h1 h2 h3 ∧ n ≤ 9437193 ∧ ∀ g, C g → g < 0 ∨ (w4.heap.size ≤ g ∧ g < w5.heap.size) ∨ (x0.heap.size ≤ g ∧ g < x1.heap.size) ∨ (x1.heap.size ≤ g ∧ g < x2.heap.size) ∨ (x3.heap.size ≤ g ∧ g < x4.heap.size) ∨ (x12.heap.size ≤ g ∧ g < x13.heap.size) ∨ (x17.heap.size ≤ g ∧ g < x18.heap.size) ∨ (w5.heap.size ≤ g ∧ g < w6.heap.size) ∨ (x4.heap.size ≤ g ∧ g < x5.heap.size) ∨ (x5.heap.size ≤ g ∧ g < x6.heap.size)) := ⟨_, _, v4, v5, v6, h4, h5, h6, hr, by have h7 := HLEN.out; have h8 := HNB.out; omega, fun g e => by
    rcases e with e | e
    · have h9 := HCV.out g e; omega
    · omega⟩
  have HT9 := Lib.hid (HT8.out.trans tc)
  clear tc hr HC HT8 ET2 HCV HNB v4 v5 v6 h4 h5 h6 C v1 v2 v3 h1 h2 h3 n
  obtain ⟨n, C, v1, v2, v3, h1, h2, h3, hr, hn, hcv⟩ := HRA9.out
  have HCV := Lib.hid hcv
  have HNB := Lib.hid hn
  have HC := Lib.hid (bkTuples_any hr (by have h5 := HBE.out; have h6 := HT9.out.size; omega) (by have h7 := HLEN.out; omega) (bun_eb ET4.out HT9.out (by have h3 := HSZ.out; have h4 := HZ2.out; have h5 := HBE.out; omega) (by have h5 := HBE.out; omega) (by have h3 := HSZ.out; have h4 := HZ2.out; omega)) (by have h3 := HSZ.out; have h4 := HZ2.out; omega) (by have h3 := HSZ.out; have h4 := HZ2.out; have h5 := HBE.out; omega) (by have h3 := HSZ.out; have h4 := HZ2.out; omega) (fun g g1 g2 hc => by have h3 := HSZ.out; have h4 := HZ2.out; have h5 := hcv g hc; omega) OT4.out.1.len OT4.out.1.sm)
  clear hr hn hcv HRA9
  go_wp2_with fail
  refine HC.out.mono ?_
  rintro e y10 ⟨rfl, tc, v4, v5, v6, h4, h5, h6, hr⟩
  have HRA10 : Hid (∃ (n : Nat) (C : Nat → Prop) (v1 v2 v3 : Value) (h1 h2 h3 : List Hd), Reg y10 w4.heap.size w6.heap.size B n C v1 v2 v3 h1 h2 h3 ∧ n ≤ 10485770 ∧ ∀ g, C g → g < 0 ∨ (w4.heap.size ≤ g ∧ g < w5.heap.size) ∨ (x0.heap.size ≤ g ∧ g < x1.heap.size) ∨ (x1.heap.size ≤ g ∧ g < x2.heap.size) ∨ (x3.heap.size ≤ g ∧ g < x4.heap.size) ∨ (x12.heap.size ≤ g ∧ g < x13.heap.size) ∨ (x17.heap.size ≤ g ∧ g < x18.heap.size) ∨ (w5.heap.size ≤ g ∧ g < w6.heap.size) ∨ (x4.heap.size ≤ g ∧ g < x5.heap.size) ∨ (x5.heap.size ≤ g ∧ g < x6.heap.size) ∨ (x13.heap.size ≤ g ∧ g < x14.heap.size)) := ⟨_, _, v4, v5, v6, h4, h5, h6, hr, by have h7 := HLEN.out; have h8 := HNB.out; omega, fun g e => by
    rcases e with e | e
    · have h9 := HCV.out g e; omega
    · omega⟩
  have HT10 := Lib.hid (HT9.out.trans tc)
  clear tc hr HC HT9 ET4 HCV HNB v4 v5 v6 h4 h5 h6 C v1 v2 v3 h1 h2 h3 n
  obtain ⟨n, C, v1, v2, v3, h1, h2, h3, hr, hn, hcv⟩ := HRA10.out
  have HCV := Lib.hid hcv
  have HNB := Lib.hid hn
  have HC := Lib.hid (bkTuples_any hr (by have h5 := HBE.out; have h6 := HT10.out.size; omega) (by have h7 := HLEN.out; omega) (bun_eb ET5.out HT10.out (by have h3 := HSZ.out; have h4 := HZ2.out; have h5 := HBE.out; omega) (by have h5 := HBE.out; omega) (by have h3 := HSZ.out; have h4 := HZ2.out; omega)) (by have h3 := HSZ.out; have h4 := HZ2.out; omega) (by have h3 := HSZ.out; have h4 := HZ2.out; have h5 := HBE.out; omega) (by have h3 := HSZ.out; have h4 := HZ2.out; omega) (fun g g1 g2 hc => by have h3 := HSZ.out; have h4 := HZ2.out; have h5 := hcv g hc; omega) OT5.out.1.len OT5.out.1.sm)
  clear hr hn hcv HRA10
  go_wp2_with fail
  refine HC.out.mono ?_
  rintro e y11 ⟨rfl, tc, v4, v5, v6, h4, h5, h6, hr⟩
  have HRA11 : Hid (∃ (n : Nat) (C : Nat → Prop) (v1 v2 v3 : Value) (h1 h2 h3 : List Hd), Reg y11 w4.heap.size w6.heap.size B n C v1 v2 v3 h1 h2 h3 ∧ n ≤ 11534347 ∧ ∀ g, C g → g < 0 ∨ (w4.heap.size ≤ g ∧ g < w5.heap.size) ∨ (x0.heap.size ≤ g ∧ g < x1.heap.size) ∨ (x1.heap.size ≤ g ∧ g < x2.heap.size) ∨ (x3.heap.size ≤ g ∧ g < x4.heap.size) ∨ (x12.heap.size ≤ g ∧ g < x13.heap.size) ∨ (x17.heap.size ≤ g ∧ g < x18.heap.size) ∨ (w5.heap.size ≤ g ∧ g < w6.heap.size) ∨ (x4.heap.size ≤ g ∧ g < x5.heap.size) ∨ (x5.heap.size ≤ g ∧ g < x6.heap.size) ∨ (x13.heap.size ≤ g ∧ g < x14.heap.size) ∨ (x18.heap.size ≤ g ∧ g < x19.heap.size)) := ⟨_, _, v4, v5, v6, h4, h5, h6, hr, by have h7 := HLEN.out; have h8 := HNB.out; omega, fun g e => by
    rcases e with e | e
    · have h9 := HCV.out g e; omega
    · omega⟩
  have HT11 := Lib.hid (HT10.out.trans tc)
  clear tc hr HC HT10 ET5 HCV HNB v4 v5 v6 h4 h5 h6 C v1 v2 v3 h1 h2 h3 n
  obtain ⟨n, C, v1, v2, v3, h1, h2, h3, hr, _, _⟩ := HRA11.out
  have BQY : Hid (Below w4.heap.size w4 y11) := BQ23.out.trans (HT11.out.below BQ23.out.size (fun g hg e => by have h3 := HSZ.out; have h4 := HZ2.out; have h5 := HBE.out; rcases e with e | e <;> omega))
  have HC := Lib.hid (apart_any hr.b (by have h5 := HBE.out; have h6 := HT11.out.size; omega) (by have h3 := HSZ.out; omega) hr.r1 hr.r2 hr.r3 hr.sep (fun u hu => (HG4.out u (BQY.out.trans hu)).pw))
  clear hr HRA11 HT11 HG4
  go_wp2_with fail
  refine HC.out.mono ?_
  rintro e y12 ⟨rfl, bz⟩
  have HE : Hid (Below w.heap.size w y12) := BB4.out.trans ((BQY.out.trans bz).mono BB4.out.size)
  clear bz HC
  go_wp2
  go_ret
  exact ⟨rfl, HE.out⟩
end Go.Proofs.YtoagnkbmeafmoaaGreatDoor
