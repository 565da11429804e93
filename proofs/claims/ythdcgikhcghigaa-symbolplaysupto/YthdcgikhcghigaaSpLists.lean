import Derived.Test.YthdcgikhcghigaaSpOp
namespace Go.Proofs.Ythdcgikhcghigaa
open Go.RowKit Go.Maps Go.Shelf
set_option linter.unusedVariables false
set_option linter.unusedSimpArgs false
attribute [local go_sem ↓] Go.wp_at_zero Go.wp_at_succ

/-- the law's pair in block b from o on -/
structure Bx (w : World) (b o : Nat) (pT pR : Value) : Prop where
  lt : b < w.heap.size
  cT : w.cell? ⟨b, o, none⟩ = some pT
  cR : w.cell? ⟨b, o + 1, none⟩ = some pR
theorem Bx.keep {w w' : World} {b o : Nat} {pT pR : Value} (h : Bx w b o pT pR) (hb : Below w.heap.size w w') : Bx w' b o pT pR :=
  ⟨Nat.lt_of_lt_of_le h.lt hb.size, (hb.cell (p := ⟨b, o, none⟩) h.lt).trans h.cT, (hb.cell (p := ⟨b, o + 1, none⟩) h.lt).trans h.cR⟩
theorem Bx.tc {w w' : World} {b o : Nat} {pT pR : Value} {E : Nat → Prop} (h : Bx w b o pT pR) (hb : Tc E w w') (hn : ¬ E b) : Bx w' b o pT pR :=
  ⟨Nat.lt_of_lt_of_le h.lt hb.size, hb.cell h.lt hn h.cT, hb.cell h.lt hn h.cR⟩
theorem row_load {w : World} {b : Nat} {ss : List Nat} (h : w.heap[b]? = some (.cells (rowC ss) 43 (0, 0))) : (loadVar 43 ⟨b, 0, none⟩).run Try.prog w = .ok (.agg (rowC ss)) w :=
  run_loadVar_row _ _ 43 43 (rowC ss) (0, 0) _ h Try.underlying43 rfl (rowC_info ss)
theorem new_row (w : World) (ss : List Nat) : (w.alloc (.cells zR 43)).setRow w.heap.size (rowC ss) = w.alloc (.cells (rowC ss) 43) := World.setRow_alloc_new w zR (rowC ss) 43
theorem heap_zR (w : World) : (w.alloc (.cells zR 43)).heap[w.heap.size]? = some (.cells zR 43 (0, 0)) := heap_alloc_new w _
theorem zR_size (ss : List Nat) : zR.size = (rowC ss).size := by rw [rowC_size]; rfl
/-- a list that lies apart from some blocks -/
def Apt (E : Nat → Prop) (a : Option Addr) (n : Nat) : Prop := 0 < n → ∀ g off, a = some ⟨g, off, none⟩ → ¬ E g
theorem Lv.tc {w w' : World} {a : Option Addr} {n c : Nat} {us : List V} {E : Nat → Prop} (h : Lv w (.slice a n c) us) (hn : us.length = n) (ht : Tc E w w') (ha : Apt E a n) : Lv w' (.slice a n c) us := by
  by_cases h0 : us.length = 0
  · obtain ⟨h1, h2, a', c', e, _⟩ := h
    exact ⟨h1, h2, a', c', e, fun i hi => by omega⟩
  · obtain ⟨g, off, rfl, hg, _⟩ := h.at (i := 0) (by omega)
    exact h.blocks (fun g' off' ⟨n', c', e⟩ => by
      injection e with e1 _ _
      injection e1 with e1
      injection e1 with e1 _ _
      subst e1
      exact ht.block _ hg (ha (by omega) _ _ rfl)) ht.size
theorem Apt.gs {E E' : Nat → Prop} {w w' : World} {a : Option Addr} {n : Nat} (h : Apt E a n) (hg : Gs E E' w w') (hl : 0 < n → ∀ g off, a = some ⟨g, off, none⟩ → g < w.heap.size) : Apt E' a n := fun h0 g off e hE => (hg.2 g hE).elim (h h0 g off e) (fun h2 => by have := hl h0 g off e; omega)
attribute [-go_sem] loadVar
section
variable {w w' : World} {b o : Nat} {pT pR : Value} {mo : Option Int} {mb : Nat} {vs : List V} {E : Nat → Prop}
set_option maxHeartbeats 6400000 in
set_option maxRecDepth 100000 in
theorem lists_row (hx : Bx w b o pT pR) (hp : Pa w pT pR mo mb vs vs E) (hnb : ¬ E b) (hlen : vs.length ≤ 800000000) {B g cap : Nat} {us : List V} (hL : LentAt w B g cap us) (hgE : ¬ E g) (bb : Option Addr) (d : Nat) (hv : Lv w (.slice bb us.length d) us) (hvE : Apt E bb us.length) (hl : us.length ≤ 1048576) :
    Calls Try.prog 31 #[.pointer (some ⟨b, o, none⟩), .int .i64 4, .slice (some ⟨g, 0, none⟩) us.length cap, .slice bb us.length d] w fun e w' => e = .returned (.bool true) ∧ ∃ E', Pa w' pT pR mo mb (rwV mo vs us) (rwV mo vs us) E' ∧ Gs E E' w w' := by
  have HX := Lib.hid hx
  have HP := Lib.hid hp
  have HL := Lib.hid hL
  have HV := Lib.hid hv
  have HVE := Lib.hid hvE
  have HLE : Hid (∀ s ∈ rwS mo vs us, s ≤ 2147483647) := fun s hs => by have := rwS_le hs; omega
  have hc1 := run_loadRef hx.cR
  clear hx hp hL hv hvE
  go_enter Try.func31, Try.ntmps31
  go_wp2_with fail
  refine (pa_rrow HP.out (by omega) us bb d HV.out HVE.out).mono ?_
  rintro e w1 ⟨rfl, E1, hp1, hg1⟩
  clear hc1
  generalize hss : rwS mo vs us = ss at HLE ⊢
  generalize her : rwE mo vs us = er
  have HSR := Lib.hid (And.intro hss her)
  clear hss her
  have hz := heap_zR w1
  unfold zR at hz
  go_upto_region 3 with (refine wpList_storeRow _ rfl (.tmp 9) (.tmp 26) 43 rfl w1.heap.size zR (rowC ss) rfl rfl hz (rowC_info ss) (zR_size ss) (rowC_one ss) ?_)
  clear hz
  have hw : (w1.alloc (.cells zR 43)).setRow w1.heap.size (rowC ss) = w1.alloc (.cells (rowC ss) 43) := new_row w1 ss
  have hbA := belowA (w := w1) (.cells (rowC ss) 43)
  have Z1 : Hid ((w1.alloc (.cells (rowC ss) 43)).heap[w1.heap.size]? = some (.cells (rowC ss) 43 (0, 0))) := heap_alloc_new _ _
  have HP2 := Lib.hid (hp1.keep hbA)
  have HG2 := Lib.hid (hg1.keep hbA)
  have HN1 : Hid (¬ E1 w1.heap.size) := fun e => by have := hp1.lt e; omega
  rw [← hw] at Z1 HP2 HG2
  unfold zR at Z1 HP2 HG2
  clear hw hp1 hg1 hbA
  generalize World.setRow (w1.alloc _) _ _ = W2 at Z1 HP2 HG2 ⊢
  generalize w1.heap.size = z1 at Z1 HN1 ⊢
  have hX2 := HX.out.tc HG2.out.1 hnb
  have hc0 := run_loadTab hX2.cT
  have hL2 := HL.out.block (HG2.out.1.block g HL.out.lt hgE)
  have HL2 := Lib.hid hL2
  have hgE1 : ¬ E1 g := fun e => (HG2.out.2 g e).elim hgE (fun h2 => by have := HL.out.lt; omega)
  have HRW := Lib.hid (pa_row HP2.out (by omega) us (some ⟨g, 0, none⟩) cap (hL2.lv HV.out.1 hl) (fun _ g' off e => by cases e; exact hgE1))
  clear hL2 hX2
  go_wp2_with fail
  refine HRW.out.mono ?_
  rintro e w3 ⟨rfl, E3, hp3, hg3⟩
  rw [HSR.out.1, HSR.out.2]
  clear hc0 HRW
  have hz := heap_zR w3
  unfold zR at hz
  go_upto_region 4 with (refine wpList_storeRow _ rfl (.tmp 11) (.tmp 35) 43 rfl w3.heap.size zR (rowC ss) rfl rfl hz (rowC_info ss) (zR_size ss) (rowC_one ss) ?_)
  clear hz
  have hw : (w3.alloc (.cells zR 43)).setRow w3.heap.size (rowC ss) = w3.alloc (.cells (rowC ss) 43) := new_row w3 ss
  have hbA := belowA (w := w3) (.cells (rowC ss) 43)
  have Z2 : Hid ((w3.alloc (.cells (rowC ss) 43)).heap[w3.heap.size]? = some (.cells (rowC ss) 43 (0, 0))) := heap_alloc_new _ _
  have HP4 := Lib.hid (hp3.keep hbA)
  have HG4 := Lib.hid (hg3.keep hbA)
  have Z3 : Hid ((w3.alloc (.cells (rowC ss) 43)).heap[z1]? = some (.cells (rowC ss) 43 (0, 0))) := (HG4.out.1.block z1 (Array.getElem?_eq_some_iff.1 Z1.out).1 HN1.out).trans Z1.out
  clear Z1 hg3 hp3 hbA
  rw [← hw] at Z2 Z3 HP4 HG4
  unfold zR at Z2 Z3 HP4 HG4
  clear hw
  generalize World.setRow (w3.alloc _) _ _ = W4 at Z2 Z3 HP4 HG4 ⊢
  generalize w3.heap.size = z2 at Z2 ⊢
  have l1 := row_load Z3.out
  have l2 := row_load Z2.out
  have hq := fun w => rowC_eql ss HLE.out w
  have HGG := Lib.hid (HG2.out.trans HG4.out)
  have HL4 := Lib.hid (HL.out.block (HGG.out.1.block g HL.out.lt hgE))
  have HV4 := Lib.hid (HV.out.tc rfl HGG.out.1 HVE.out)
  generalize rowC ss = CC at l1 l2 hq ⊢
  clear HG2 HG4 HP2 Z2 Z3 HL2 HX HP HV
  go_wp2_with fail
  refine (left_any HL4.out bb d HV4.out hl).mono ?_
  rintro e w5 ⟨rfl, b5⟩
  go_wp2
  go_ret
  exact ⟨rfl, E3, HP4.out.keep b5, HGG.out.keep b5⟩
set_option maxHeartbeats 6400000 in
set_option maxRecDepth 100000 in
theorem lists_seek (hx : Bx w b o pT pR) (hp : Pa w pT pR mo mb vs vs E) (hlen : vs.length ≤ 800000000) (k : Int) (hk : k ≠ 4) {B g cap : Nat} {us : List V} (hL : LentAt w B g cap us) (bb : Option Addr) (d : Nat) (hv : Lv w (.slice bb us.length d) us) (hl : us.length ≤ 1048576) :
    Calls Try.prog 31 #[.pointer (some ⟨b, o, none⟩), .int .i64 k, .slice (some ⟨g, 0, none⟩) us.length cap, .slice bb us.length d] w fun e w' => e = .returned (.bool true) ∧ Below w.heap.size w w' := by
  have e4 : ((k : Int) == 4) = false := by simpa using hk
  obtain ⟨ss, fl, hss, hST, hSR⟩ := pa_seek hp (by omega) us
  have HST := Lib.hid hST
  have HSR := Lib.hid hSR
  have HLE := Lib.hid hss
  have HX := Lib.hid hx
  have HL := Lib.hid hL
  have HV := Lib.hid hv
  have hc1 := run_loadRef hx.cR
  clear hx hp hL hv hST hSR hss
  cases fl
  all_goals
    go_enter Try.func31, Try.ntmps31
    go_wp2_with fail
    refine (HSR.out _ _ _ (Below.refl _ _) HV.out).mono ?_
    rintro e w1 ⟨rfl, b1⟩
    clear hc1
    have hz := heap_zR w1
    unfold zR at hz
    go_upto_region 6 with (refine wpList_storeRow _ rfl (.tmp 13) (.tmp 57) 43 rfl w1.heap.size zR (rowC ss) rfl rfl hz (rowC_info ss) (zR_size ss) (rowC_one ss) ?_)
    clear hz
    have hw : (w1.alloc (.cells zR 43)).setRow w1.heap.size (rowC ss) = w1.alloc (.cells (rowC ss) 43) := new_row w1 ss
    have Z1 : Hid ((w1.alloc (.cells (rowC ss) 43)).heap[w1.heap.size]? = some (.cells (rowC ss) 43 (0, 0))) := heap_alloc_new _ _
    have HB2 : Hid (Below w.heap.size w (w1.alloc (.cells (rowC ss) 43))) := b1.alloc b1.size _
    rw [← hw] at Z1 HB2
    unfold zR at Z1 HB2
    clear hw
    generalize World.setRow (w1.alloc _) _ _ = W2 at Z1 HB2 ⊢
    generalize w1.heap.size = z1 at Z1 ⊢
    have hc0 := run_loadTab (HX.out.keep HB2.out).cT
    have HL2 := Lib.hid (HL.out.below HB2.out)
    go_wp2_with fail
    refine (HST.out _ _ _ HB2.out (HL2.out.lv HV.out.1 hl)).mono ?_
    rintro e w3 ⟨rfl, b3⟩
    clear hc0
    have hz := heap_zR w3
    unfold zR at hz
    go_upto_region 7 with (refine wpList_storeRow _ rfl (.tmp 15) (.tmp 66) 43 rfl w3.heap.size zR (rowC ss) rfl rfl hz (rowC_info ss) (zR_size ss) (rowC_one ss) ?_)
    clear hz
    have hw : (w3.alloc (.cells zR 43)).setRow w3.heap.size (rowC ss) = w3.alloc (.cells (rowC ss) 43) := new_row w3 ss
    have Z2 : Hid ((w3.alloc (.cells (rowC ss) 43)).heap[w3.heap.size]? = some (.cells (rowC ss) 43 (0, 0))) := heap_alloc_new _ _
    have b4 : Below W2.heap.size W2 (w3.alloc (.cells (rowC ss) 43)) := b3.alloc b3.size _
    have HB4 := Lib.hid (HB2.out.trans (b4.mono HB2.out.size))
    have Z3 : Hid ((w3.alloc (.cells (rowC ss) 43)).heap[z1]? = some (.cells (rowC ss) 43 (0, 0))) := (b4.block z1 (Array.getElem?_eq_some_iff.1 Z1.out).1).trans Z1.out
    clear Z1 HB2 b3 b4
    rw [← hw] at Z2 Z3 HB4
    unfold zR at Z2 Z3 HB4
    clear hw
    generalize World.setRow (w3.alloc _) _ _ = W4 at Z2 Z3 HB4 ⊢
    generalize w3.heap.size = z2 at Z2 ⊢
    have l1 := row_load Z3.out
    have l2 := row_load Z2.out
    have hq := fun w => rowC_eql ss HLE.out w
    generalize rowC ss = CC at l1 l2 hq ⊢
    clear Z2 Z3 HST HSR HL2
    go_wp2_with fail
    refine (left_any (HL.out.below HB4.out) bb d (HV.out.below HB4.out) hl).mono ?_
    rintro e w5 ⟨rfl, b5⟩
    go_wp2
    go_ret
    exact ⟨rfl, HB4.out.trans (b5.mono HB4.out.size)⟩
/-- what a list of a kind leaves -/
def lsV (k : Int) (mo : Option Int) (vs us : List V) : List V := if k = 4 then rwV mo vs us else vs
theorem lsV_len (k : Int) (mo : Option Int) (vs us : List V) : (lsV k mo vs us).length ≤ vs.length + 24 := by
  unfold lsV
  split
  · exact rwV_len mo vs us
  · omega
theorem lists_any (hx : Bx w b o pT pR) (hp : Pa w pT pR mo mb vs vs E) (hnb : ¬ E b) (hlen : vs.length ≤ 800000000) (k : Int) {B g cap : Nat} {us : List V} (hL : LentAt w B g cap us) (hgE : ¬ E g) (bb : Option Addr) (d : Nat) (hv : Lv w (.slice bb us.length d) us) (hvE : Apt E bb us.length) (hl : us.length ≤ 1048576) :
    Calls Try.prog 31 #[.pointer (some ⟨b, o, none⟩), .int .i64 k, .slice (some ⟨g, 0, none⟩) us.length cap, .slice bb us.length d] w fun e w' => e = .returned (.bool true) ∧ ∃ E', Pa w' pT pR mo mb (lsV k mo vs us) (lsV k mo vs us) E' ∧ Gs E E' w w' := by
  unfold lsV
  by_cases hk : k = 4
  · subst hk
    simp only [if_true]
    exact lists_row hx hp hnb hlen hL hgE bb d hv hvE hl
  · simp only [hk, if_false]
    exact (lists_seek hx hp hlen k hk hL bb d hv hl).mono fun e w' h => ⟨h.1, E, hp.keep h.2, Gs.of h.2⟩
end
end Go.Proofs.Ythdcgikhcghigaa
