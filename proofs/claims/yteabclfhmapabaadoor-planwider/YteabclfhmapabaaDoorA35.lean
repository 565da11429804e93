import Derived.Test.YteabclfhmapabaaDoorA34
import Derived.Test.YteabclfhmapabaaDoorA7
import Derived.Test.YteabclfhmapabaaDoorA8
section
namespace Go.Proofs.YteabclfhmapabaaDoor
open Go.RowKit Go.Maps
set_option linter.unusedVariables false
set_option linter.unusedSimpArgs false
attribute [local go_sem ↓] Go.wp_at_zero Go.wp_at_succ

theorem own_lower {w : World} {B B' : Nat} {e : TypeId} {k : Nat} {sv : Value} {n : Nat} {xs : List Value} (h : w.ownsRow B e k sv n xs) (hb : B' ≤ B) : w.ownsRow B' e k sv n xs := by
  obtain ⟨hl, h1 | ⟨g, cap, cur, rfl, h0, hr⟩⟩ := h
  · exact ⟨hl, .inl h1⟩
  · exact ⟨hl, .inr ⟨g, cap, cur, rfl, Nat.le_trans hb h0, hr⟩⟩
set_option maxHeartbeats 3200000 in
set_option maxRecDepth 100000 in
theorem cloneRule_any (d : Nat) (r : R3) (p : RP) (w : World) (hR : RIs w d r p) (hs : smallR d r) :
    Calls Tryd.prog 28 #[r.val p] w fun q w' => ∃ (xs : List XL) (q' : RP) (l1 l2 : List Nat), q = .returned (.agg #[.string r.pr, .slice q'.a r.hd.length q'.c, .slice q'.ba r.bd.length q'.bc]) ∧ xs.map XL.x = r.bd.map XL.x ∧ Below w.heap.size w w' ∧ AB w' r.hd q'.a q'.c l1 ∧ BB w' d xs q'.ba q'.bc l2 ∧ (l1 ++ l2).Nodup ∧ (∀ b ∈ l1 ++ l2, w.heap.size ≤ b) := by
  obtain ⟨pr, hd, bd⟩ := r
  obtain ⟨pa, pc, ba, bc⟩ := p
  have hhl := hs.hd
  have hbl := hs.bd
  have h1 := hR.hd
  have h2 := hR.bd
  unfold R3.val
  dsimp only at hhl hbl h1 h2 ⊢
  have HL1 := Lib.hid h1
  have HL2 := Lib.hid h2
  have HSM : Hid (∀ y ∈ bd, smallL d y.x) := hs.each
  have hA1 := belowA (w := w) (.cells #[.string pr, .slice pa hd.length pc, .slice ba bd.length bc] 25)
  have hA2 := belowA (w := w.alloc (.cells #[.string pr, .slice pa hd.length pc, .slice ba bd.length bc] 25)) (.cells #[.string ⟨#[]⟩, .slice none 0 0, .slice none 0 0] 25)
  have HB0 := Lib.hid (hA1.trans (hA2.mono hA1.size))
  have HR0 := Lib.hid ((rl_new w #[.string pr, .slice pa hd.length pc, .slice ba bd.length bc] 25).below hA2)
  have hR1 := rl_new (w.alloc (.cells #[.string pr, .slice pa hd.length pc, .slice ba bd.length bc] 25)) #[.string ⟨#[]⟩, .slice none 0 0, .slice none 0 0] 25
  rw [World.size_alloc] at hR1
  have HR1 := Lib.hid hR1
  have HSZ : Hid (((w.alloc (.cells #[.string pr, .slice pa hd.length pc, .slice ba bd.length bc] 25)).alloc (.cells #[.string ⟨#[]⟩, .slice none 0 0, .slice none 0 0] 25)).heap.size = w.heap.size + 2) := by show _ = _; simp
  clear hA1 hA2 hR1 hR hs h1 h2
  go_enter Tryd.func28, Tryd.ntmps28
  go_upto_region 1 with fail
  generalize (w.alloc (.cells #[.string pr, .slice pa hd.length pc, .slice ba bd.length bc] 25)).alloc (.cells #[.string ⟨#[]⟩, .slice none 0 0, .slice none 0 0] 25) = W at HB0 HR0 HR1 HSZ ⊢
  have y1 := HR0.out.at (j := 1) rfl
  have HCA := Lib.hid (cloneArg _ hd.length (hd.flatMap A5.cells) W (HL1.out.below HB0.out).lies (flat_len A5.cells 5 (fun _ => rfl) hd) (acells_one hd) hhl)
  go_wp2_with fail
  refine HCA.out.mono ?_
  rintro q w1 ⟨sv, rfl, ho, b1⟩
  rw [HSZ.out] at ho
  obtain ⟨a1, c1, l1, rfl, hab, hlo1, hnd1⟩ := ab_own ho HL1.out.wf
  have k0 := HR0.out.below b1
  have k1 := HR1.out.below b1
  have f1 := World.rowIs.frozen k0 1
  have z1 := k0.at (j := 1) rfl
  have hz1 : w.heap.size + 2 ≤ w1.heap.size := by rw [← HSZ.out]; exact b1.size
  have HB1 := Lib.hid (HB0.out.trans (b1.mono HB0.out.size))
  have HK0 := Lib.hid (k0.set 1 (.slice a1 hd.length c1))
  have HK1 := Lib.hid (k1.other (i := 1) (show w.heap.size + 1 ≠ w.heap.size by omega) (.slice a1 hd.length c1))
  have HB2 : Hid (Below w.heap.size w (w1.setCell ⟨w.heap.size, 1, none⟩ (.slice a1 hd.length c1))) := HB1.out.setCell (p := ⟨w.heap.size, 1, none⟩) (Nat.le_refl _) _
  have HZ2 : Hid (w.heap.size + 2 ≤ (w1.setCell ⟨w.heap.size, 1, none⟩ (.slice a1 hd.length c1)).heap.size) := by show _ ≤ _; rw [World.size_setCell]; exact hz1
  have HAB : Hid (AB (w1.setCell ⟨w.heap.size, 1, none⟩ (.slice a1 hd.length c1)) hd a1 c1 l1) := hab.keep (by simp) (fun b hb => heap_setCell_other _ _ _ _ (by have := hlo1 b hb; show b ≠ w.heap.size; omega))
  have HLO1 := Lib.hid hlo1
  have HND1 := Lib.hid hnd1
  clear HB1 ho HCA k0 k1 y1 hz1 b1 HR0 HR1 HB0 HSZ hab hlo1 hnd1
  go_upto_region 2 with fail
  generalize w1.setCell ⟨w.heap.size, 1, none⟩ (.slice a1 hd.length c1) = W2 at HK0 HK1 HB2 HZ2 HAB ⊢
  clear z1 f1
  have y2 := HK0.out.at (j := 2) rfl
  have HCL := Lib.hid (cloneLiteral _ bd.length (bd.flatMap XL.cells) W2 (HL2.out.below HB2.out).lies (flatL_len bd) (lcells_one bd) hbl)
  go_wp2_with fail
  refine HCL.out.mono ?_
  rintro q w3 ⟨sv, rfl, ho, b3⟩
  have k0 := HK0.out.below b3
  have k1 := HK1.out.below b3
  have f2 := World.rowIs.frozen k0 2
  have z2 := k0.at (j := 2) rfl
  have hz3 : w.heap.size + 2 ≤ w3.heap.size := Nat.le_trans HZ2.out b3.size
  have HB3 := Lib.hid (HB2.out.trans (b3.mono HB2.out.size))
  obtain ⟨a2, c2, rfl, hn1, hn2, hcase⟩ := own_parts ho
  have HL0 := Lib.hid (k0.set 2 (.slice a2 bd.length c2))
  have HLL := Lib.hid (k1.other (i := 2) (show w.heap.size + 1 ≠ w.heap.size by omega) (.slice a2 bd.length c2))
  have HB4 : Hid (Below w.heap.size w (w3.setCell ⟨w.heap.size, 2, none⟩ (.slice a2 bd.length c2))) := HB3.out.setCell (p := ⟨w.heap.size, 2, none⟩) (Nat.le_refl _) _
  have HZ4 : Hid (w.heap.size + 2 ≤ (w3.setCell ⟨w.heap.size, 2, none⟩ (.slice a2 bd.length c2)).heap.size) := by show _ ≤ _; rw [World.size_setCell]; exact hz3
  have HAB4 : Hid (AB (w3.setCell ⟨w.heap.size, 2, none⟩ (.slice a2 bd.length c2)) hd a1 c1 l1) := HAB.out.keep (by simp; exact b3.size) (fun b hb => by
    rw [heap_setCell_other _ _ _ _ (by have := HLO1.out b hb; show b ≠ w.heap.size; omega)]
    exact b3.block b (HAB.out.lt b hb))
  have HO4 : Hid ((w3.setCell ⟨w.heap.size, 2, none⟩ (.slice a2 bd.length c2)).ownsRow W2.heap.size 56 16 (.slice a2 bd.length c2) bd.length (bd.flatMap XL.cells)) := own_of_block ho (fun g hg => by
    have := (ho.lt g hg).1
    have := HZ2.out
    rw [heap_setCell_other _ _ _ _ (by show g ≠ w.heap.size; omega)])
  have HLT2 : Hid (∀ b ∈ l1, b < W2.heap.size) := HAB.out.lt
  have HZ2' := Lib.hid HZ2.out
  clear HB3 ho HCL k0 k1 y2 hz3 b3 HK0 HK1 HB2 HZ2 HAB
  go_upto_region 3 with fail
  generalize w3.setCell ⟨w.heap.size, 2, none⟩ (.slice a2 bd.length c2) = W4 at HL0 HLL HB4 HZ4 HAB4 HO4 ⊢
  clear z2 f2
  by_cases h0 : bd.length = 0
  · have x2 := HL0.out.at (j := 2) rfl
    have HH0 := Lib.hid h0
    have HFIN : Hid (∀ u, BB u d bd a2 c2 []) := fun u => ⟨hn1, hn2, .inl ⟨List.length_eq_zero_iff.1 h0, rfl⟩⟩
    rw [h0] at x2
    go_wp2
    clear x2 h0
    go_loopw [16] (fun i wr => i = .int .i64 0 ∧ wr = W4) (fun i _ => 0)
    case atStart => exact ⟨rfl, rfl⟩
    case round =>
      obtain ⟨rfl, rfl⟩ := hrel
      have g0 := HL0.out.at (j := 0) rfl
      have g1 := HL0.out.at (j := 1) rfl
      have g2 := HL0.out.at (j := 2) rfl
      have o0 := HLL.out.at (j := 0) rfl
      have o1 := HLL.out.at (j := 1) rfl
      have o2 := HLL.out.at (j := 2) rfl
      have f0 := World.rowIs.frozen HLL.out 0
      have f1 := World.rowIs.frozen HLL.out 1
      have f2 := World.rowIs.frozen HLL.out 2
      have HD1 := Lib.hid (res3_rl HLL.out pr (.slice a1 hd.length c1) (.slice a2 bd.length c2))
      have HD2 := Lib.hid (res3_below (g := w.heap.size + 1) HB4.out (by omega) pr (.slice a1 hd.length c1) (.slice a2 bd.length c2))
      have HD3 : Hid (AB (res3 wr (w.heap.size + 1) pr (.slice a1 hd.length c1) (.slice a2 bd.length c2)) hd a1 c1 l1) := HAB4.out.keep (by rw [res3_size]; exact Nat.le_refl _) (fun b hb => res3_other _ _ _ _ _ (by have := HLO1.out b hb; omega))
      unfold res3 at HD1 HD2 HD3
      clear HL0 HLL HB4 HZ4 HAB4 HO4 hcase
      go_wp2
      refine bodyPost_ret (rl_results Tryd.results28 (v := .agg #[.string pr, .slice a1 hd.length c1, .slice a2 bd.length c2]) rfl (run_loadVar_mid _ _ 0 25 [.string pr, .slice a1 hd.length c1, .slice a2 bd.length c2] _ HD1.out.range Tryd.underlying25 rfl (by kernel_rfl))) rfl ?_
      exact ⟨bd, ⟨a1, c1, a2, c2⟩, l1, [], rfl, rfl, HD2.out, HD3.out, HFIN.out _, by rw [List.append_nil]; exact HND1.out, fun b hb => by rw [List.append_nil] at hb; have := HLO1.out b hb; omega⟩
  · obtain ⟨g, rfl, hB⟩ : ∃ g, a2 = some ⟨g, 0, none⟩ ∧ W2.heap.size ≤ g := by
      rcases hcase with ⟨q, _⟩ | ⟨g, q, hB, _⟩
      · exact absurd q h0
      · exact ⟨g, q, hB⟩
    have HS0 : Hid (CrS w pr hd a1 c1 l1 bd g c2 bd [] W4) := ⟨HB4.out, HZ4.out, HL0.out, HLL.out, HAB4.out, own_lower HO4.out HZ2'.out, rfl, fun b hb => (by rw [List.append_nil] at hb; exact HLO1.out b hb), fun b hb => (by cases hb), by
      rw [List.nodup_append]
      refine ⟨HND1.out, by simp, fun x hx y hy e => ?_⟩
      rw [List.mem_singleton.1 hy] at e
      have := HLT2.out x hx
      omega⟩
    have HD0 : Hid (CrD w d bd [] [] 0 W4) := ⟨rfl, rfl, fun i _ h => absurd h (by omega), fun i hi _ => HL2.out.at_is hi⟩
    have x2 := HL0.out.at (j := 2) rfl
    clear HL0 HLL HB4 HZ4 HAB4 HO4 hcase HLT2 HZ2' HL2
    go_wp2
    clear x2
    go_loopw [16] (fun i wr => ∃ (k : Nat) (xs : List XL) (fb : List Nat) (ls : List (List Nat × List Nat × List Nat)), k ≤ bd.length ∧ i = .int .i64 k ∧ Hid (CrS w pr hd a1 c1 l1 bd g c2 xs fb wr) ∧ Hid (CrD w d xs ls fb k wr)) (fun i _ => bd.length - (intOf i).toNat)
    case atStart => exact ⟨0, bd, [], [], Nat.zero_le _, rfl, HS0, HD0⟩
    case round =>
      clear HS0 HD0
      obtain ⟨k, xs, fb, ls, hk, rfl, HS, HD⟩ := hrel
      by_cases hlt : k < bd.length
      · have hlt' : (k : Int) < (bd.length : Int) := by omega
        have hk0 : (0 : Int) ≤ (k : Int) := by omega
        have hxl : xs.length = bd.length := HS.out.len
        have hlis := HD.out.rest k (by omega) (Nat.le_refl _)
        have hsml : smallL d (atL xs k).x := by
          have e1 : (xs.map XL.x)[k]? = (bd.map XL.x)[k]? := by rw [HS.out.es]
          rw [List.getElem?_map, List.getElem?_map, List.getElem?_eq_getElem (by omega), List.getElem?_eq_getElem hlt] at e1
          rw [atL_eq (by omega)]
          have e2 : (xs[k]).x = (bd[k]).x := Option.some.inj e1
          rw [e2]
          exact HSM.out _ (List.getElem_mem hlt)
        obtain ⟨X, hX⟩ : ∃ X, X = (atL xs k).x := ⟨_, rfl⟩
        obtain ⟨pp, hpp⟩ : ∃ pp, pp = (atL xs k).p := ⟨_, rfl⟩
        have HXP : Hid (X = (atL xs k).x ∧ pp = (atL xs k).p) := ⟨hX, hpp⟩
        rw [← hX, ← hpp] at hlis
        rw [← hX] at hsml
        have r2 := HS.out.r0.at (j := 2) rfl
        have i2 : wr.cell? ⟨g, k * 16 + 2, none⟩ = some (.slice pp.a X.ts.length pp.c) := by rw [hX, hpp]; exact (own_cell HS.out.own (by omega) (by omega) rfl).1
        have HC1 := Lib.hid (cloneTerm (.slice pp.a X.ts.length pp.c) X.ts.length (X.ts.flatMap T.cells) wr (hlis.ts.below HS.out.bel).lies (flat_len T.cells 4 (fun _ => rfl) X.ts) (tcells_one X.ts) hsml.1)
        have HLI := Lib.hid hlis
        have HSL := Lib.hid hsml
        clear hX hpp hlis hsml
        go_wp2_with fail
        refine HC1.out.mono ?_
        rintro q w5 ⟨sv, rfl, ho5, b5⟩
        obtain ⟨a5, c5, m1, rfl, htb5, hlo5, -⟩ := tb_own ho5 HLI.out.ts.wf
        obtain ⟨xs1, hxs1, hS1, hf1, htb6⟩ := HS.out.putA (k := k) hlt b5 (bl := m1) hlo5 (a' := a5) (c' := c5) (by rw [← HXP.out.1]; exact htb5)
        rw [← HXP.out.1] at hS1 hf1 htb6
        have hz5 : wr.heap.size ≤ (w5.setCell ⟨g, k * 16 + 2, none⟩ (.slice a5 X.ts.length c5)).heap.size := by simp only [World.size_setCell]; exact b5.size
        obtain ⟨j2, fz2⟩ := own_cell (own_below HS.out.own b5) (k := k) (by omega) (j := 2) (by omega) (v := .slice pp.a X.ts.length pp.c) (by rw [HXP.out.1, HXP.out.2]; rfl)
        rw [← HXP.out.1, ← HXP.out.2] at hxs1
        have HX1 : Hid (xs1 = xs.set k ⟨X, ⟨a5, c5, pp.la, pp.lc, pp.ra, pp.rc⟩⟩) := hxs1
        have HS1 := Lib.hid hS1
        have HF1 := Lib.hid hf1
        have HT6 := Lib.hid htb6
        have HZ5 := Lib.hid hz5
        clear HC1 ho5 htb5 hS1 hf1 htb6 hz5 hxs1 b5 r2 i2 hlo5
        go_upto_region 8 with fail
        generalize w5.setCell ⟨g, k * 16 + 2, none⟩ (.slice a5 X.ts.length c5) = W6 at HS1 HF1 HT6 HZ5 ⊢
        clear j2 fz2
        have hx1l : xs1.length = bd.length := HS1.out.len
        have hx1a : atL xs1 k = ⟨X, ⟨a5, c5, pp.la, pp.lc, pp.ra, pp.rc⟩⟩ := by rw [HX1.out, atL_set (by omega), if_pos rfl]
        have i4 := (own_cell HS1.out.own (k := k) (by omega) (j := 4) (v := .int .i8 X.l.op) (by omega) (by rw [hx1a]; rfl)).1
        have i5 := (own_cell HS1.out.own (k := k) (by omega) (j := 5) (v := .string X.l.t.v) (by omega) (by rw [hx1a]; rfl)).1
        have i6 := (own_cell HS1.out.own (k := k) (by omega) (j := 6) (v := .int .i8 X.l.t.a.k) (by omega) (by rw [hx1a]; rfl)).1
        have i7 := (own_cell HS1.out.own (k := k) (by omega) (j := 7) (v := .int .i64 X.l.t.a.n) (by omega) (by rw [hx1a]; rfl)).1
        have i8 := (own_cell HS1.out.own (k := k) (by omega) (j := 8) (v := .string X.l.t.a.s) (by omega) (by rw [hx1a]; rfl)).1
        have i9 := (own_cell HS1.out.own (k := k) (by omega) (j := 9) (v := .slice pp.la X.l.kids.length pp.lc) (by omega) (by rw [hx1a]; rfl)).1
        have HC2 := Lib.hid (cloneTree d X.l pp.la pp.lc W6 (HLI.out.l.below HS1.out.bel) HSL.out.2.1.1)
        unfold E.val at HC2
        have HA1 := Lib.hid hx1a
        clear hx1a
        go_wp2_with fail
        refine HC2.out.mono ?_
        rintro q w7 ⟨a7, c7, m2, rfl, b7, heb7, hlo7⟩
        have hput := HS1.out.putL (k := k) (d := d) hlt b7 (bl := m2) hlo7 (a' := a7) (c' := c7) (by rw [HA1.out]; exact heb7)
        rw [HA1.out] at hput
        obtain ⟨xs2, hxs2, hS2, hf2, heb8⟩ := hput
        dsimp only at hxs2 hS2 hf2 heb8
        have hz7 : W6.heap.size ≤ (put6x w7 g (k * 16 + 4) X.l (.slice a7 X.l.kids.length c7)).heap.size := by rw [put6x_size]; exact b7.size
        have hoc := fun j v (hj : j < 16) (hv : (atL xs1 k).cells[j]? = some v) => own_cell (own_below HS1.out.own b7) (k := k) (by omega) (j := j) (v := v) hj hv
        rw [HA1.out] at hoc
        obtain ⟨j4, fz4⟩ := hoc 4 _ (by omega) rfl
        obtain ⟨j5, fz5⟩ := hoc 5 _ (by omega) rfl
        obtain ⟨j6, fz6⟩ := hoc 6 _ (by omega) rfl
        obtain ⟨j7, fz7⟩ := hoc 7 _ (by omega) rfl
        obtain ⟨j8, fz8⟩ := hoc 8 _ (by omega) rfl
        obtain ⟨j9, fz9⟩ := hoc 9 _ (by omega) rfl
        have HX2 : Hid (xs2 = xs1.set k ⟨X, ⟨a5, c5, a7, c7, pp.ra, pp.rc⟩⟩) := hxs2
        have HT8 : Hid (TB (put6x w7 g (k * 16 + 4) X.l (.slice a7 X.l.kids.length c7)) X.ts a5 c5 m1) := HT6.out.keep hz7 (fun b hb => hf2 b (by simp [hb]))
        have HF2 : Hid (∀ b ∈ fb, (put6x w7 g (k * 16 + 4) X.l (.slice a7 X.l.kids.length c7)).heap[b]? = wr.heap[b]?) := fun b hb => (hf2 b (by simp [hb])).trans (HF1.out b hb)
        have HS2 := Lib.hid hS2
        have HE8 := Lib.hid heb8
        have HZ7 := Lib.hid (Nat.le_trans HZ5.out hz7)
        unfold put6x at HS2 HE8 HT8 HF2 HZ7
        simp only [Nat.add_assoc, Nat.reduceAdd] at HS2 HE8 HT8 HF2 HZ7
        clear HC2 heb7 hS2 hf2 heb8 hz7 hxs2 b7 hlo7 hoc HF1 HT6 HS1 HZ5 i4 i5 i6 i7 i8 i9
        go_upto_region 9 with fail
        generalize (((((w7.setCell ⟨g, k * 16 + 4, none⟩ (.int .i8 X.l.op)).setCell ⟨g, k * 16 + 5, none⟩ (.string X.l.t.v)).setCell ⟨g, k * 16 + 6, none⟩ (.int .i8 X.l.t.a.k)).setCell ⟨g, k * 16 + 7, none⟩ (.int .i64 X.l.t.a.n)).setCell ⟨g, k * 16 + 8, none⟩ (.string X.l.t.a.s)).setCell ⟨g, k * 16 + 9, none⟩ (.slice a7 X.l.kids.length c7) = W8 at HS2 HE8 HT8 HF2 HZ7 ⊢
        clear j4 j5 j6 j7 j8 j9 fz4 fz5 fz6 fz7 fz8 fz9
        have hx2l : xs2.length = bd.length := HS2.out.len
        have hx2a : atL xs2 k = ⟨X, ⟨a5, c5, a7, c7, pp.ra, pp.rc⟩⟩ := by rw [HX2.out, atL_set (by omega), if_pos rfl]
        have i4 := (own_cell HS2.out.own (k := k) (by omega) (j := 10) (v := .int .i8 X.r.op) (by omega) (by rw [hx2a]; rfl)).1
        have i5 := (own_cell HS2.out.own (k := k) (by omega) (j := 11) (v := .string X.r.t.v) (by omega) (by rw [hx2a]; rfl)).1
        have i6 := (own_cell HS2.out.own (k := k) (by omega) (j := 12) (v := .int .i8 X.r.t.a.k) (by omega) (by rw [hx2a]; rfl)).1
        have i7 := (own_cell HS2.out.own (k := k) (by omega) (j := 13) (v := .int .i64 X.r.t.a.n) (by omega) (by rw [hx2a]; rfl)).1
        have i8 := (own_cell HS2.out.own (k := k) (by omega) (j := 14) (v := .string X.r.t.a.s) (by omega) (by rw [hx2a]; rfl)).1
        have i9 := (own_cell HS2.out.own (k := k) (by omega) (j := 15) (v := .slice pp.ra X.r.kids.length pp.rc) (by omega) (by rw [hx2a]; rfl)).1
        have HC3 := Lib.hid (cloneTree d X.r pp.ra pp.rc W8 (HLI.out.r.below HS2.out.bel) HSL.out.2.2.1)
        unfold E.val at HC3
        have HA2 := Lib.hid hx2a
        clear hx2a HA1
        go_wp2_with fail
        refine HC3.out.mono ?_
        rintro q w9 ⟨a9, c9, m3, rfl, b9, heb9, hlo9⟩
        have hput := HS2.out.putR (k := k) (d := d) hlt b9 (bl := m3) hlo9 (a' := a9) (c' := c9) (by rw [HA2.out]; exact heb9)
        rw [HA2.out] at hput
        obtain ⟨xs3, hxs3, hS3, hf3, hebA⟩ := hput
        dsimp only at hxs3 hS3 hf3 hebA
        have hz9 : W8.heap.size ≤ (put6x w9 g (k * 16 + 10) X.r (.slice a9 X.r.kids.length c9)).heap.size := by rw [put6x_size]; exact b9.size
        have hoc := fun j v (hj : j < 16) (hv : (atL xs2 k).cells[j]? = some v) => own_cell (own_below HS2.out.own b9) (k := k) (by omega) (j := j) (v := v) hj hv
        rw [HA2.out] at hoc
        obtain ⟨j4, fz4⟩ := hoc 10 _ (by omega) rfl
        obtain ⟨j5, fz5⟩ := hoc 11 _ (by omega) rfl
        obtain ⟨j6, fz6⟩ := hoc 12 _ (by omega) rfl
        obtain ⟨j7, fz7⟩ := hoc 13 _ (by omega) rfl
        obtain ⟨j8, fz8⟩ := hoc 14 _ (by omega) rfl
        obtain ⟨j9, fz9⟩ := hoc 15 _ (by omega) rfl
        have HX3 : xs3 = xs.set k ⟨X, ⟨a5, c5, a7, c7, a9, c9⟩⟩ := by
          rw [hxs3, HX2.out, HX1.out, List.set_set, List.set_set]
        have HN : Hid (CrD w d xs3 (ls ++ [(m1, m2, m3)]) (fb ++ m1 ++ m2 ++ m3) (k + 1) (put6x w9 g (k * 16 + 10) X.r (.slice a9 X.r.kids.length c9))) := by
          refine CrD.round (p := ⟨a5, c5, a7, c7, a9, c9⟩) HS.out HD.out hlt hS3 (by rw [← HXP.out.1]; exact HX3) (fun b hb => (hf3 b (by simp [hb])).trans (HF2.out b hb)) (Nat.le_trans HZ7.out hz9) ?_ ?_ ?_
          · rw [← HXP.out.1]; exact HT8.out.keep hz9 (fun b hb => hf3 b (by simp [hb]))
          · rw [← HXP.out.1]; exact HE8.out.keep hz9 (fun b hb => hf3 b (by simp [hb]))
          · rw [← HXP.out.1]; exact hebA
        have HS3 := Lib.hid hS3
        unfold put6x at HS3 HN
        simp only [Nat.add_assoc, Nat.reduceAdd] at HS3 HN
        clear HC3 heb9 hS3 hf3 hebA hz9 hxs3 b9 hlo9 hoc HF2 HT8 HS2 HZ7 i4 i5 i6 i7 i8 i9 HE8 HS HD HX3
        go_wp2
        go_roundw
        case rel => exact ⟨k + 1, xs3, _, _, by omega, by go_num, HS3, HN⟩
        case measure => simp [intOf]; omega
      · obtain rfl : k = bd.length := by omega
        have g0 := HS.out.r0.at (j := 0) rfl
        have g1 := HS.out.r0.at (j := 1) rfl
        have g2 := HS.out.r0.at (j := 2) rfl
        have o0 := HS.out.r1.at (j := 0) rfl
        have o1 := HS.out.r1.at (j := 1) rfl
        have o2 := HS.out.r1.at (j := 2) rfl
        have f0 := World.rowIs.frozen HS.out.r1 0
        have f1 := World.rowIs.frozen HS.out.r1 1
        have f2 := World.rowIs.frozen HS.out.r1 2
        have HBB := Lib.hid (CrD.end HS.out HD.out)
        have HLO : Hid (∀ b ∈ l1 ++ g :: fb, w.heap.size + 2 ≤ b) := fun b hb => by
          rcases List.mem_append.1 hb with hb | hb
          · exact HS.out.lo b (by simp [hb])
          · rcases List.mem_cons.1 hb with rfl | hb
            · exact (HS.out.own.lt _ rfl).1
            · exact HS.out.lo b (by simp [hb])
        have HD1 := Lib.hid (res3_rl HS.out.r1 pr (.slice a1 hd.length c1) (.slice (some ⟨g, 0, none⟩) bd.length c2))
        have HD2 := Lib.hid (res3_below (g := w.heap.size + 1) HS.out.bel (by omega) pr (.slice a1 hd.length c1) (.slice (some ⟨g, 0, none⟩) bd.length c2))
        have HD3 : Hid (AB (res3 wr (w.heap.size + 1) pr (.slice a1 hd.length c1) (.slice (some ⟨g, 0, none⟩) bd.length c2)) hd a1 c1 l1) := HS.out.ab.keep (by rw [res3_size]; exact Nat.le_refl _) (fun b hb => res3_other _ _ _ _ _ (by have := HLO.out b (by simp [hb]); omega))
        have HD4 : Hid (BB (res3 wr (w.heap.size + 1) pr (.slice a1 hd.length c1) (.slice (some ⟨g, 0, none⟩) bd.length c2)) d xs (some ⟨g, 0, none⟩) c2 (g :: fb)) := HBB.out.keep (by rw [res3_size]; exact Nat.le_refl _) (fun b hb => res3_other _ _ _ _ _ (by have := HLO.out b (List.mem_append_right _ hb); omega))
        have HND := Lib.hid HS.out.nd
        have HES := Lib.hid HS.out.es
        unfold res3 at HD1 HD2 HD3 HD4
        clear HS HD HBB
        go_wp2
        refine bodyPost_ret (rl_results Tryd.results28 (v := .agg #[.string pr, .slice a1 hd.length c1, .slice (some ⟨g, 0, none⟩) bd.length c2]) rfl (run_loadVar_mid _ _ 0 25 [.string pr, .slice a1 hd.length c1, .slice (some ⟨g, 0, none⟩) bd.length c2] _ HD1.out.range Tryd.underlying25 rfl (by kernel_rfl))) rfl ?_
        exact ⟨xs, ⟨a1, c1, some ⟨g, 0, none⟩, c2⟩, l1, g :: fb, rfl, HES.out, HD2.out, HD3.out, HD4.out, HND.out, fun b hb => by have := HLO.out b hb; omega⟩
end Go.Proofs.YteabclfhmapabaaDoor
end
section
namespace Go.Proofs.YteabclfhmapabaaDoor
open Go.RowKit Go.Maps
set_option linter.unusedVariables false
set_option linter.unusedSimpArgs false
attribute [local go_sem ↓] Go.wp_at_zero Go.wp_at_succ

/-- two rules that differ in where their lists lie alone -/
structure LikeR (r s : R3) : Prop where
  pr : s.pr = r.pr
  hd : s.hd = r.hd
  bl : s.bd.length = r.bd.length
  bd : ∀ i, i < r.bd.length → (atL s.bd i).x = (atL r.bd i).x
end Go.Proofs.YteabclfhmapabaaDoor
end
section
namespace Go.Proofs.YteabclfhmapabaaDoor
open Go.RowKit Go.Maps
set_option linter.unusedVariables false
set_option linter.unusedSimpArgs false

theorem LikeR.map {r s : R3} (h : LikeR r s) : s.bd.map XL.x = r.bd.map XL.x := by
  refine List.ext_getElem (by simp [h.bl]) fun i h1 h2 => ?_
  simp only [List.length_map] at h1 h2
  have := h.bd i h2
  rw [atL_eq h1, atL_eq h2] at this
  simpa using this
theorem flatX (d : Nat) (l : List XL) : l.flatMap (fun y => termsL d y.x) = (l.map XL.x).flatMap (termsL d) := by rw [List.flatMap_map]
theorem allX (l : List XL) : l.all (fun y => litB y.x) = (l.map XL.x).all litB := by rw [List.all_map]; rfl
theorem LikeR.terms {r s : R3} (h : LikeR r s) (d : Nat) : termsR d s = termsR d r := by
  unfold termsR
  rw [h.hd, flatX, flatX, h.map]
theorem LikeR.ruleB {r s : R3} (h : LikeR r s) (d : Nat) : ruleB d s = ruleB d r := by
  unfold Go.Proofs.YteabclfhmapabaaDoor.ruleB
  rw [h.terms d, h.pr, h.hd, h.bl, allX, allX, h.map]
theorem LikeR.small {r s : R3} (h : LikeR r s) {d : Nat} (hs : smallR d r) : smallR d s := by
  refine ⟨by rw [h.hd]; exact hs.hd, by rw [h.bl]; exact hs.bd, fun y hy => ?_, by rw [h.terms d]; exact hs.terms⟩
  have h1 : y.x ∈ s.bd.map XL.x := List.mem_map.2 ⟨y, hy, rfl⟩
  rw [h.map] at h1
  obtain ⟨z, hz, e⟩ := List.mem_map.1 h1
  rw [← e]
  exact hs.each z hz
end Go.Proofs.YteabclfhmapabaaDoor
end
section
namespace Go.Proofs.YteabclfhmapabaaDoor
open Go.RowKit Go.Maps
set_option linter.unusedVariables false
set_option linter.unusedSimpArgs false

/-- a rule with what takes its terms' places -/
def apR (f : T → T) (d : Nat) (r : R3) : R3 := ⟨r.pr, r.hd.map (apA f), r.bd.map (apX f d)⟩
def noR : R3 := ⟨noS, [], []⟩
def okR (s : List P) (d : Nat) (r : R3) : Bool := ruleB d r && ruleB d (apR (putT s) d r)
/-- what ApplyRule answers -/
def resR (s : List P) (d : Nat) (r : R3) : R3 := if okR s d r then apR (putT s) d r else noR
theorem termsD_apD (f : T → T) : ∀ (d : Nat) (e : E), termsD d (apD f d e) = (termsD d e).map f
  | 0, e => rfl
  | d + 1, e => by
    rw [apD_succ, termsD_succ, termsD_succ]
    show f e.t :: (e.kids.map (apD f d)).flatMap (termsD d) = _
    rw [List.flatMap_map, List.map_cons, List.map_flatMap]
    congr 1
    congr 1
    funext x
    exact termsD_apD f d x
theorem smallE_apD (f : T → T) : ∀ (d : Nat) (e : E), smallE d e → smallE d (apD f d e)
  | 0, e, _ => trivial
  | d + 1, e, h => by
    rw [apD_succ]
    have hl : (e.kids.map (apD f d)).length = e.kids.length := by simp
    refine ⟨by show (e.kids.map (apD f d)).length ≤ _; rw [hl]; exact h.1, fun i hi => ?_⟩
    have hi' : i < e.kids.length := by rw [← hl]; exact hi
    show smallE d (atE (e.kids.map (apD f d)) i)
    rw [atE_map _ hi']
    exact smallE_apD f d _ (h.2 i hi')
theorem smallL_apL (f : T → T) {d : Nat} {x : Lit4} (h : smallL d x) : smallL d (apL f d x) := by
  refine ⟨by show (x.ts.map f).length ≤ _; rw [List.length_map]; exact h.1, ⟨smallE_apD f d _ h.2.1.1, ?_⟩, smallE_apD f d _ h.2.2.1, ?_⟩
  · show (termsD d (apD f d x.l)).length ≤ _; rw [termsD_apD, List.length_map]; exact h.2.1.2
  · show (termsD d (apD f d x.r)).length ≤ _; rw [termsD_apD, List.length_map]; exact h.2.2.2
theorem termsL_apL (f : T → T) (d : Nat) (x : Lit4) : termsL d (apL f d x) = (termsL d x).map f := by
  unfold termsL apL
  simp only [List.map_append, termsD_apD]
theorem termsR_apR (f : T → T) (d : Nat) (r : R3) : termsR d (apR f d r) = (termsR d r).map f := by
  unfold termsR apR
  simp only [List.map_append, List.map_map, List.flatMap_map, List.map_flatMap]
  congr 1
  congr 1
  funext y
  exact termsL_apL f d y.x
theorem apR_small (f : T → T) {d : Nat} {r : R3} (h : smallR d r) : smallR d (apR f d r) := by
  refine ⟨by show (r.hd.map _).length ≤ _; rw [List.length_map]; exact h.hd, by show (r.bd.map _).length ≤ _; rw [List.length_map]; exact h.bd, fun y hy => ?_, by rw [termsR_apR, List.length_map]; exact h.terms⟩
  obtain ⟨z, hz, rfl⟩ := List.mem_map.1 hy
  exact smallL_apL f (h.each z hz)
theorem LikeR.of {r s : R3} (h1 : s.pr = r.pr) (h2 : s.hd = r.hd) (h3 : s.bd.map XL.x = r.bd.map XL.x) : LikeR r s := by
  have hl : s.bd.length = r.bd.length := by have := congrArg List.length h3; simpa using this
  refine ⟨h1, h2, hl, fun i hi => ?_⟩
  have e1 : (s.bd.map XL.x)[i]? = (r.bd.map XL.x)[i]? := by rw [h3]
  rw [List.getElem?_map, List.getElem?_map, List.getElem?_eq_getElem (by omega), List.getElem?_eq_getElem hi] at e1
  rw [atL_eq (by omega), atL_eq hi]
  exact Option.some.inj e1
theorem apX_map (f : T → T) (d : Nat) (l : List XL) : (l.map (apX f d)).map XL.x = (l.map XL.x).map (apL f d) := by simp [apX]
theorem like_apR {f : T → T} {d : Nat} {r : R3} {xs : List XL} (h : xs.map XL.x = r.bd.map XL.x) : LikeR (apR f d r) ⟨r.pr, r.hd.map (apA f), xs.map (apX f d)⟩ := LikeR.of rfl rfl (by show (xs.map (apX f d)).map XL.x = (r.bd.map (apX f d)).map XL.x; rw [apX_map, apX_map, h])
theorem LikeR.refl (r : R3) : LikeR r r := LikeR.of rfl rfl rfl
theorem LikeR.symm {r s : R3} (h : LikeR r s) : LikeR s r := LikeR.of h.pr.symm h.hd.symm h.map.symm
theorem LikeR.trans {r s t : R3} (h : LikeR r s) (k : LikeR s t) : LikeR r t := LikeR.of (k.pr.trans h.pr) (k.hd.trans h.hd) (k.map.trans h.map)
theorem LikeR.apR {r s : R3} (h : LikeR r s) (f : T → T) (d : Nat) : LikeR (apR f d r) (apR f d s) := LikeR.of h.pr (by show s.hd.map _ = r.hd.map _; rw [h.hd]) (by show (s.bd.map (apX f d)).map XL.x = (r.bd.map (apX f d)).map XL.x; rw [apX_map, apX_map, h.map])
theorem LikeR.okR {r s : R3} (h : LikeR r s) (ps : List P) (d : Nat) : Go.Proofs.YteabclfhmapabaaDoor.okR ps d s = Go.Proofs.YteabclfhmapabaaDoor.okR ps d r := by
  unfold Go.Proofs.YteabclfhmapabaaDoor.okR
  rw [h.ruleB d, (h.apR (putT ps) d).ruleB d]
theorem LikeR.resR {r s : R3} (h : LikeR r s) (ps : List P) (d : Nat) : LikeR (Go.Proofs.YteabclfhmapabaaDoor.resR ps d r) (Go.Proofs.YteabclfhmapabaaDoor.resR ps d s) := by
  unfold Go.Proofs.YteabclfhmapabaaDoor.resR
  rw [h.okR ps d]
  split
  · exact h.apR _ _
  · exact LikeR.refl _
theorem rl_resAB {fn : Func} {sl s2 : Nat} {ty : TypeId} (hr : fn.results = #[.cell sl ty, .tmp s2]) {W : World} {tmps : Array Value} {b : Nat} {v u : Value} (h2 : tmps.getD sl undef = .pointer (some ⟨b, 0, none⟩)) (h3 : tmps.getD s2 undef = u) (hl : (loadVar ty ⟨b, 0, none⟩).run Tryd.prog W = .ok v W) :
    (results fn tmps).run Tryd.prog W = .ok (.tuple #[v, u]) W := by
  have h2' : tmps[sl]?.getD undef = .pointer (some ⟨b, 0, none⟩) := by simpa using h2
  have h3' : tmps[s2]?.getD undef = u := by simpa using h3
  unfold results
  rw [hr]
  simp [h2', h3', asAddr, hl, Result.andThen]
theorem noR_is (w : World) (d : Nat) : RIs w d noR ⟨none, 0, none, 0⟩ :=
  ⟨by decide, Nat.zero_le _, Nat.zero_le _, ⟨⟨Nat.zero_le _, none, 0, rfl, Nat.le_refl _, Nat.zero_le _, fun h => absurd h (by simp [noR])⟩, fun t ht => by cases ht⟩, ⟨⟨Nat.zero_le _, none, 0, rfl, Nat.le_refl _, Nat.zero_le _, fun h => absurd h (by simp [noR])⟩, fun t ht => by cases ht⟩⟩
theorem putT_fun (s : List P) : res (fstP s) = putT s := funext (res_fstP s)
end Go.Proofs.YteabclfhmapabaaDoor
end
