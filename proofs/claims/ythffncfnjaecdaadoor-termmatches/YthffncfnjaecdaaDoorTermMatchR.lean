import Derived.Test.YthffncfnjaecdaaDoorTermSame
import Derived.Deep.RegionHeld3
namespace Go.Proofs.YthffncfnjaecdaaDoor
open Go.RowKit Go.Maps
set_option linter.unusedVariables false
set_option linter.unusedSimpArgs false
attribute [local go_sem ↓] Go.wp_at_zero Go.wp_at_succ

theorem gath_wf : ∀ (ts : List T) (vs : List V) (out : List B), (∀ t ∈ ts, t.wf) → (∀ v ∈ vs, v.wf) → (∀ b ∈ out, b.wf) → ∀ b ∈ gath out ts vs, b.wf
  | [], _, out, _, _, ho, b, hb => by simp [gath] at hb; exact ho b hb
  | t :: ts, [], out, _, _, ho, b, hb => by simp [gath] at hb; exact ho b hb
  | t :: ts, v :: vs, out, ht, hv, ho, b, hb => by
    unfold gath at hb
    split at hb
    · exact gath_wf ts vs out (fun x hx => ht x (List.mem_cons_of_mem _ hx)) (fun x hx => hv x (List.mem_cons_of_mem _ hx)) ho b hb
    · refine gath_wf ts vs _ (fun x hx => ht x (List.mem_cons_of_mem _ hx)) (fun x hx => hv x (List.mem_cons_of_mem _ hx)) ?_ b hb
      intro x hx
      rcases List.mem_append.1 hx with h | h
      · exact ho x h
      · rw [List.mem_singleton.1 h]; exact ⟨(ht t List.mem_cons_self).text, hv v List.mem_cons_self⟩
theorem seek_names {G : List B} {n : ByteArray} (h : n ∈ G.map B.v) : (seek G n).isSome = true := by
  obtain ⟨b, hb, e⟩ := List.mem_map.1 h
  cases hn : seek G n with
  | none => exact absurd e (seek_none.1 hn b hb)
  | some a => rfl
theorem fitB_bnd {G : List B} {x : T} {y : V} (hy : okV y = true) (hb : ¬ x.v = blankS) (hs : ¬ x.v = noS → (seek G x.v).isSome = true) : fitB G x y = decide (bndV G x = y) := by
  unfold fitB bndV
  rw [hy, decide_eq_false hb]
  by_cases e : x.v = noS
  · rw [if_pos e, if_pos e]; simp
  · rw [if_neg e, if_neg e]
    obtain ⟨a, ha⟩ := Option.isSome_iff_exists.1 (hs e)
    rw [ha]
    simp
theorem fitB_bad {G : List B} {x : T} {y : V} (hy : okV y = false) : fitB G x y = false := by simp [fitB, hy]
theorem fitB_blank {G : List B} {x : T} {y : V} (hy : okV y = true) (hb : x.v = blankS) : fitB G x y = true := by simp [fitB, hy, hb]
theorem idx_first {la : List T} {n : ByteArray} {j : Nat} (hj : j < la.length) (hb : ∀ i, i < j → (atT la i).v ≠ n) (e : (atT la j).v = n) : la.findIdx (fun t => decide (t.v = n)) = j := by
  rw [List.findIdx_eq hj]
  refine ⟨?_, fun i hi => ?_⟩
  · rw [atT_eq hj] at e
    exact decide_eq_true e
  · have := hb i hi
    rw [atT_eq (by omega)] at this
    exact decide_eq_false this
theorem cells_take {ns : List ByteArray} {f : ByteArray → B} {k : Nat} (h : k < ns.length) : ((ns.take (k + 1)).map f).flatMap B.cells = ((ns.take k).map f).flatMap B.cells ++ B.cells (f (atS ns k)) := by
  rw [List.take_succ_eq_append_getElem h, List.map_append, List.flatMap_append, atS_eq h]
  simp
set_option maxHeartbeats 1600000 in
set_option maxRecDepth 100000 in
theorem rmatch_no (pa pb : ByteArray) (va vb : Value) (la : List T) (lb : List V) (w : World) (hpa : pa.size ≤ maxLen) (hpb : pb.size ≤ maxLen) (ha : Lt w va la) (hb : Lv w vb lb) (hno : ¬ (pa = pb ∧ la.length = lb.length ∧ atomB pa la = true)) :
    Calls Tryd.prog 4 #[.agg #[.string pa, va], .agg #[.string pb, vb]] w fun e w' => e = .returned (.tuple #[.slice none 0 0, .bool false]) ∧ Below w.heap.size w w' := by
  obtain ⟨aa, ca, rfl, hc1, hc2, -⟩ := ha.form
  obtain ⟨ab, cb, rfl, hd1, hd2, -⟩ := hb.form
  have hm1 : la.length ≤ maxLen := Nat.le_trans hc1 hc2
  have hm2 : lb.length ≤ maxLen := Nat.le_trans hd1 hd2
  unfold maxLen at hm1 hm2
  have B0 : Hid _ := ((Below.refl w.heap.size w).alloc (Nat.le_refl _) (.cells #[.string pa, .slice aa la.length ca] 24)).alloc (by simp) (.cells #[.string pb, .slice ab lb.length cb] 27)
  have HA : Hid (Lt w (.slice aa la.length ca) la) := ha
  have HPA : Hid (pa.size ≤ maxLen) := hpa
  have HNO : Hid _ := hno
  clear ha hb hc1 hc2 hd1 hd2 hpa hpb hno
  go_enter Tryd.func4, Tryd.ntmps4
  go_wp2_with fail
  refine (ratom_any pa _ la _ HPA.out (HA.out.below B0.out)).mono ?_
  rintro e w1 ⟨rfl, b1⟩
  have B1 : Hid (Below w.heap.size w w1) := B0.out.trans (b1.mono B0.out.size)
  have A0 : w1.cell? ⟨w.heap.size, 0, none⟩ = some (.string pa) := by rw [b1.cell (p := ⟨w.heap.size, 0, none⟩) (by simp; omega)]; go_simp
  have A1 : w1.cell? ⟨w.heap.size, 1, none⟩ = some (.slice aa la.length ca) := by rw [b1.cell (p := ⟨w.heap.size, 1, none⟩) (by simp; omega)]; go_simp
  have C0 : w1.cell? ⟨w.heap.size + 1, 0, none⟩ = some (.string pb) := by rw [b1.cell (p := ⟨w.heap.size + 1, 0, none⟩) (by simp)]; go_simp
  have C1 : w1.cell? ⟨w.heap.size + 1, 1, none⟩ = some (.slice ab lb.length cb) := by rw [b1.cell (p := ⟨w.heap.size + 1, 1, none⟩) (by simp)]; go_simp
  clear b1 B0 HA
  cases h3 : atomB pa la
  · clear h3
    go_wp2
    go_ret2
    exact ⟨rfl, B1.out⟩
  · by_cases h1 : pa = pb
    · have hN : (pa.toList == pb.toList) = true := by rw [eq_bytes, decide_eq_true h1]
      by_cases h2 : la.length = lb.length
      · exact absurd ⟨h1, h2, h3⟩ HNO.out
      · have h2' : ((la.length : Int) != (lb.length : Int)) = true := by simp; omega
        clear h1 h2 h3
        go_wp2
        go_ret2
        exact ⟨rfl, B1.out⟩
    · have hN : (pa.toList == pb.toList) = false := by rw [eq_bytes, decide_eq_false h1]
      clear h1 h3
      go_wp2
      go_ret2
      exact ⟨rfl, B1.out⟩
set_option maxHeartbeats 3200000 in
set_option maxRecDepth 100000 in
theorem rmatch_yes (p : ByteArray) (va vf : Value) (la : List T) (lf : List V) (w : World) (hp : p.size ≤ maxLen) (ha : Lt w va la) (hf : Lv w vf lf) (hn : la.length = lf.length) (h3 : atomB p la = true) :
    Calls Tryd.prog 4 #[.agg #[.string p, va], .agg #[.string p, vf]] w fun e w' => MatPost w.heap.size (mat [] la lf) e w' ∧ Below w.heap.size w w' := by
  obtain ⟨i0, hi0, hz0, hz1, hz2⟩ := info_parts infoB
  obtain ⟨aa, ca, rfl, hc1, hc2, hta⟩ := ha.form
  obtain ⟨ab, cb, rfl, hd1, hd2, htb⟩ := hf.form
  have h24 : la.length ≤ 24 := by
    unfold atomB at h3
    simp only [Bool.and_eq_true, decide_eq_true_eq] at h3
    exact h3.1.2
  have HG0 : Hid (mat [] la lf = if fitsB (gath [] la lf) la lf then some (gath [] la lf) else none) := mat_gath la lf [] (by simp)
  have HNG : Hid ((vsT [] la).map (fun n => (⟨n, firstV la lf n⟩ : B)) = gath [] la lf) := names_gath hn
  have HGN : Hid ((gath [] la lf).map B.v = vsT [] la) := gath_names la lf [] hn
  have HGW : Hid (∀ b ∈ gath [] la lf, b.wf) := gath_wf la lf [] ha.wf hf.wf (by simp)
  have HHAS : Hid (∀ t ∈ la, t.v ≠ noS → t.v ≠ blankS → t.v ∈ vsT [] la) := vsT_has la []
  obtain ⟨ns, hns⟩ : ∃ ns, vsT [] la = ns := ⟨_, rfl⟩
  obtain ⟨G, hG⟩ : ∃ G, gath [] la lf = G := ⟨_, rfl⟩
  have hnl : ns.length ≤ 24 := by have := vsT_len la []; rw [hns] at this; simp at this; omega
  have HJ : Hid (∀ i, i < ns.length → ∃ J, J < la.length ∧ (atT la J).v = atS ns i) := by
    intro i hi
    rcases vsT_mem la [] (atS ns i) (by rw [hns, atS_eq hi]; exact List.getElem_mem hi) with h | ⟨t, ht, e⟩
    · cases h
    · obtain ⟨J, hJ, hJe⟩ := List.getElem_of_mem ht
      exact ⟨J, hJ, by rw [atT_eq hJ, hJe]; exact e⟩
  rw [hns] at HNG HGN HHAS
  rw [hG] at HNG HGN HGW HG0
  have HSK : Hid (∀ t ∈ la, t.v ≠ blankS → ¬ t.v = noS → (seek G t.v).isSome = true) := fun t ht h1 h2 => seek_names (by rw [HGN.out]; exact HHAS.out t ht h2 h1)
  have HVS : Hid (vsT [] la = ns) := hns
  clear hns hG HHAS HGN
  obtain ⟨m, hm⟩ : ∃ m, la.length = m := ⟨_, rfl⟩
  have hm' : lf.length = m := by omega
  have B0 : Hid _ := ((Below.refl w.heap.size w).alloc (Nat.le_refl _) (.cells #[.string p, .slice aa la.length ca] 24)).alloc (by simp) (.cells #[.string p, .slice ab lf.length cb] 27)
  have hN : (p.toList == p.toList) = true := by simp
  have h2' : ((la.length : Int) != (lf.length : Int)) = false := by simp; omega
  obtain ⟨r, HR⟩ : ∃ r, Hid (mat [] la lf = r) := ⟨_, rfl⟩
  rw [HR.out]
  have HG1 : Hid (r = if fitsB G la lf then some G else none) := HR.out.symm.trans HG0.out
  have HA : Hid (Lt w (.slice aa la.length ca) la) := ha
  have HTA : Hid _ := hta
  have HTB : Hid _ := htb
  have H3 : Hid _ := h3
  have HWA : Hid (∀ t ∈ la, t.wf) := ha.wf
  have HWB : Hid (∀ t ∈ lf, t.wf) := hf.wf
  clear ha hf hta htb h3 hc1 hc2 hd1 hd2 HG0 HR
  have HM : Hid (la.length = m ∧ lf.length = m) := ⟨hm, hm'⟩
  have h24' : Hid (m ≤ 24) := by show m ≤ 24; omega
  clear hm hm' hn h24
  go_enter Tryd.func4, Tryd.ntmps4
  go_wp2_with fail
  refine (ratom_any p _ la _ hp (HA.out.below B0.out)).mono ?_
  rw [H3.out]
  rintro e W ⟨rfl, b1⟩
  have BW : Hid (Below w.heap.size w W) := B0.out.trans (b1.mono B0.out.size)
  have A0 : W.cell? ⟨w.heap.size, 0, none⟩ = some (.string p) := by rw [b1.cell (p := ⟨w.heap.size, 0, none⟩) (by simp; omega)]; go_simp
  have A1 : W.cell? ⟨w.heap.size, 1, none⟩ = some (.slice aa la.length ca) := by rw [b1.cell (p := ⟨w.heap.size, 1, none⟩) (by simp; omega)]; go_simp
  have C0 : W.cell? ⟨w.heap.size + 1, 0, none⟩ = some (.string p) := by rw [b1.cell (p := ⟨w.heap.size + 1, 0, none⟩) (by simp)]; go_simp
  have C1 : W.cell? ⟨w.heap.size + 1, 1, none⟩ = some (.slice ab lf.length cb) := by rw [b1.cell (p := ⟨w.heap.size + 1, 1, none⟩) (by simp)]; go_simp
  have hzW : w.heap.size + 1 < W.heap.size := by have := b1.size; simp at this; omega
  clear b1 B0 H3
  go_wp2_with fail
  refine (atomVars_any p _ la _ (by rw [HM.out.1]; exact h24'.out) (HA.out.below BW.out)).mono ?_
  rw [HVS.out]
  rintro e W2 ⟨sv, rfl, hown, b2⟩
  obtain ⟨an, cn, rfl, -⟩ := own_form hown
  have HNM : Hid _ := (ls_str (ls_own hown))
  have HN2 : Hid (∃ g off, 0 < ns.length → an = some ⟨g, off, none⟩ ∧ g < W2.heap.size ∧ ∀ i, i < ns.length → W2.cell? ⟨g, off + i, none⟩ = some (.string (atS ns i))) := by
    obtain ⟨a', c', e', -, -, h'⟩ := HNM.out
    cases e'
    by_cases h0 : 0 < ns.length
    · obtain ⟨g, off, h1, h2, h3⟩ := h' h0
      exact ⟨g, off, fun _ => ⟨h1, h2, h3⟩⟩
    · exact ⟨0, 0, fun h => absurd h h0⟩
  have BW2 : Hid (Below w.heap.size w W2) := BW.out.trans (b2.mono BW.out.size)
  have A2 : W2.cell? ⟨w.heap.size, 1, none⟩ = some (.slice aa la.length ca) := by rw [b2.cell (p := ⟨w.heap.size, 1, none⟩) (by show w.heap.size < _; omega)]; exact A1
  have C2 : W2.cell? ⟨w.heap.size + 1, 1, none⟩ = some (.slice ab lf.length cb) := by rw [b2.cell (p := ⟨w.heap.size + 1, 1, none⟩) hzW]; exact C1
  have hzW2 : w.heap.size + 1 < W2.heap.size := Nat.lt_of_lt_of_le hzW b2.size
  clear b2 hown A0 A1 C0 C1 HNM hN h2' hzW HA hp
  obtain ⟨hm, hm'⟩ := HM.out
  have HTA' : Hid (0 < m → ∃ g off, aa = some ⟨g, off, none⟩ ∧ g < w.heap.size ∧ ∀ i, i < m → TAt w g (off + i * 4) (atT la i)) := by rw [← hm]; exact HTA.out
  have HTB' : Hid (0 < m → ∃ g off, ab = some ⟨g, off, none⟩ ∧ g < w.heap.size ∧ ∀ i, i < m → VAt w g (off + i * 3) (atV lf i)) := by rw [← hm']; exact HTB.out
  rw [hm] at A2
  rw [hm'] at C2
  rw [hm, hm']
  have HAC : Hid (∀ u, Below W2.heap.size W2 u → u.cell? ⟨w.heap.size, 1, none⟩ = some (.slice aa m ca) ∧ u.cell? ⟨w.heap.size + 1, 1, none⟩ = some (.slice ab m cb)) := fun u hu => ⟨by rw [hu.cell (p := ⟨w.heap.size, 1, none⟩) (by show w.heap.size < _; omega)]; exact A2, by rw [hu.cell (p := ⟨w.heap.size + 1, 1, none⟩) hzW2]; exact C2⟩
  clear HTA HTB hm hm' A2 C2 BW
  go_wp2
  go_loopw [6, 8] (fun sv i wr => ∃ k : Nat, k ≤ ns.length ∧ i = .int .i64 k ∧ Below W2.heap.size W2 wr ∧ wr.ownsRow W2.heap.size 46 4 sv k (((ns.take k).map (fun n => (⟨n, firstV la lf n⟩ : B))).flatMap B.cells)) (fun _ i _ => ns.length - (intOf i).toNat)
  case atStart => exact ⟨0, Nat.zero_le _, rfl, Below.refl _ _, World.ownsRow_nil _ _ _ _⟩
  case round =>
    obtain ⟨k, hk, rfl, bel, ho⟩ := hrel
    have HO : Hid (wr.ownsRow W2.heap.size 46 4 _ k (((ns.take k).map (fun n => (⟨n, firstV la lf n⟩ : B))).flatMap B.cells)) := ho
    have HBEL : Hid (Below W2.heap.size W2 wr) := bel
    have HBW : Hid (∀ u, Below wr.heap.size wr u → Below W2.heap.size W2 u) := fun u hu => bel.trans (hu.mono bel.size)
    obtain ⟨ao, co, rfl, hlo⟩ := own_form ho
    clear ho bel
    obtain ⟨W3, hW3⟩ : ∃ x, x = wr := ⟨wr, rfl⟩
    subst hW3
    have BW3 : Hid (∀ u, Below W3.heap.size W3 u → Below w.heap.size w u) := fun u hu => BW2.out.trans ((HBW.out u hu).mono BW2.out.size)
    by_cases hlt : k < ns.length
    · have hlt' : (k : Int) < (ns.length : Int) := by omega
      have hk0 : (0 : Int) ≤ (k : Int) := by omega
      obtain ⟨gn, on, hN2⟩ := HN2.out
      obtain ⟨rfl, hgn, hNC⟩ := hN2 (by omega)
      obtain ⟨J, hJ, hJe⟩ := HJ.out k hlt
      have HNK : Hid (∀ u, Below W3.heap.size W3 u → u.cell? ⟨gn, on + k, none⟩ = some (.string (atS ns k))) := fun u hu => by
        rw [(HBW.out u hu).cell (p := ⟨gn, on + k, none⟩) hgn]; exact hNC k hlt
      have HTK : Hid _ := cells_take (f := fun n => (⟨n, firstV la lf n⟩ : B)) hlt
      obtain ⟨n, Hn⟩ : ∃ n, Hid (atS ns k = n) := ⟨_, rfl⟩
      rw [Hn.out] at HNK hJe HTK
      have hJm : J < m := by rw [← HM.out.1]; exact hJ
      obtain ⟨g, off, rfl, hg, hT⟩ := HTA'.out (by omega)
      obtain ⟨g', off', rfl, hg', hT'⟩ := HTB'.out (by omega)
      have HXT : Hid (∀ u i, i < m → Below W3.heap.size W3 u → u.cell? ⟨g, off + i * 4, none⟩ = some (.string (atT la i).v)) := fun u i hi hu => ((hT i hi).below (BW3.out u hu) hg).c0
      have HYT : Hid (∀ u i, i < m → Below W3.heap.size W3 u → VAt u g' (off' + i * 3) (atV lf i)) := fun u i hi hu => (hT' i hi).below (BW3.out u hu) hg'
      have HJE : Hid _ := hJe
      clear hT hT' hNC hN2 hJe hJ
      go_wp2
      go_loopw [9] (fun kk wr => ∃ j : Nat, j ≤ J ∧ kk = .int .i64 j ∧ Below W3.heap.size W3 wr ∧ Hid (∀ i, i < j → (atT la i).v ≠ n)) (fun kk _ => J + 1 - (intOf kk).toNat)
      case atStart => exact ⟨0, Nat.zero_le _, rfl, Below.refl _ _, fun i hi => absurd hi (by omega)⟩
      case round =>
        obtain ⟨j, hj, rfl, bel2, HBj⟩ := hrel
        have hm24 := h24'.out
        have hjm : j < m := by omega
        have hjm' : (j : Int) < (m : Int) := by omega
        have hj0 : (0 : Int) ≤ (j : Int) := by omega
        obtain ⟨A3, C3⟩ := HAC.out wr (HBW.out wr bel2)
        have x0 := HXT.out wr j hjm bel2
        have n0 := HNK.out wr bel2
        obtain ⟨xv, Hxv⟩ : ∃ xv, Hid ((atT la j).v = xv) := ⟨_, rfl⟩
        rw [Hxv.out] at x0
        by_cases e : xv = n
        · have hB : (xv.toList == n.toList) = true := by rw [e]; simp
          have HF : Hid (firstV la lf n = atV lf j) := by
            show firstV la lf n = atV lf j
            unfold firstV
            rw [idx_first (by rw [HM.out.1]; exact hjm) HBj.out (Hxv.out.trans e)]
          clear e
          go_wp2_with fail
          go_quiet (fail)
          have bel4 : Below W3.heap.size W3 (wr.drewN nq) := below_drewN bel2 nq
          generalize wr.drewN nq = W4 at bel4 ⊢
          clear A3 C3 x0 n0 hB
          have n0 := HNK.out W4.drew bel4.drew
          obtain ⟨-, C3⟩ := HAC.out W4.drew (HBW.out _ bel4.drew)
          obtain ⟨y0, y1, y2⟩ := HYT.out W4.drew j hjm bel4.drew
          rw [HF.out] at HTK
          generalize atV lf j = y at y0 y1 y2 HTK
          have HOWN : Hid ((W4.drew.alloc (.cells #[.string n, .int .i8 y.k, .int .i64 y.n, .string y.s] 46)).ownsRow W2.heap.size 46 4 (.slice ao k co) k (((ns.take k).map (fun n => (⟨n, firstV la lf n⟩ : B))).flatMap B.cells)) := own_below HO.out (bel4.drew.alloc bel4.drew.size _)
          have HC : Hid (∀ (j : Nat) (u : Value), ([.string n, .int .i8 y.k, .int .i64 y.n, .string y.s] : List Value)[j]? = some u → (W4.drew.alloc (.cells #[.string n, .int .i8 y.k, .int .i64 y.n, .string y.s] 46)).cell? ((⟨W4.heap.size, 0, none⟩ : Addr).add j) = some u) := lit_news W4.drew #[.string n, .int .i8 y.k, .int .i64 y.n, .string y.s] _
          have b24 : Below W2.heap.size W2 W4.drew := HBW.out _ bel4.drew
          have HSZ : Hid (W2.heap.size ≤ (W4.drew.alloc (.cells #[.string n, .int .i8 y.k, .int .i64 y.n, .string y.s] 46)).heap.size) := by show _ ≤ _; have := b24.size; simp at this ⊢; omega
          have HFIN : Hid (∀ {w2 : World}, (W4.drew.alloc (.cells #[.string n, .int .i8 y.k, .int .i64 y.n, .string y.s] 46)).grownBy w2 (Value.slice ao k co).ownBlock → Below W2.heap.size W2 w2) := fun hg => (b24.alloc b24.size _).grown hg (by have := b24.size; simp at this ⊢; omega) (fun j hj => (HO.out.lt j hj).1)
          clear bel4 b24 HF
          go_wp2_with fail
          go_region_law (
            refine step_append_own rfl (.tmp 54) (.tmp 65) 28 rfl 46 i0 _ 4 48 Tryd.underlying28 hi0 hz0 hz1 hz2 rfl (by decide) W2.heap.size (.slice ao k co) k _ (by simp [Act.eval, Act.put]) HOWN.out ⟨W4.heap.size, 0, none⟩ 1 1 [.string n, .int .i8 y.k, .int .i64 y.n, .string y.s] (by simp [Act.eval, Act.put]) rfl HC.out (by simp [Value.oneCell']) (by unfold maxLen; omega) (by omega) HSZ.out ?_
            intro v' w2 hown' hgrow hloc)
          all_goals
            go_wp2
            go_roundw
            case rel => exact ⟨k + 1, by omega, by go_num, HFIN.out hgrow, by rw [HTK.out]; exact hown'⟩
            case measure => simp [intOf]; omega
        · have hB : (xv.toList == n.toList) = false := by
            rw [beq_eq_false_iff_ne]
            exact fun h => e (toList_inj h)
          have HN : Hid (j + 1 ≤ J ∧ ∀ i, i < j + 1 → (atT la i).v ≠ n) := by
            refine ⟨?_, fun i hi => ?_⟩
            · by_cases h : j = J
              · subst h
                exact absurd (Hxv.out.symm.trans HJE.out) e
              · omega
            · by_cases h : i < j
              · exact HBj.out i h
              · obtain rfl : i = j := by omega
                rw [Hxv.out]
                exact e
          clear e C3
          go_wp2_with fail
          go_quiet (fail)
          go_wp2
          go_roundw
          case rel => exact ⟨j + 1, HN.out.1, by go_num, below_drewN bel2 _, HN.out.2⟩
          case measure => have := HN.out.1; simp [intOf]; omega
    · obtain rfl : k = ns.length := by omega
      rw [List.take_length, HNG.out] at HO
      have HGL : Hid (G.length = ns.length) := by show _ = _; rw [← HNG.out]; simp
      have HLB : Hid (∀ u, Below W3.heap.size W3 u → Lb u (.slice ao ns.length co) G) := fun u hu => ⟨by have := (ls_own HO.out).below hu; rw [HGL.out]; exact this, HGW.out⟩
      clear HNG HJ HN2
      go_wp2
      go_loopw [10] (fun i wr => ∃ k : Nat, k ≤ m ∧ i = .int .i64 k ∧ Below W3.heap.size W3 wr ∧ Hid (fitsB G (la.drop k) (lf.drop k) = fitsB G la lf)) (fun i _ => m - (intOf i).toNat)
      case atStart => exact ⟨0, Nat.zero_le _, rfl, Below.refl _ _, rfl⟩
      case round =>
        obtain ⟨k, hk, rfl, bel, HS⟩ := hrel
        obtain ⟨A3, C3⟩ := HAC.out wr (HBW.out wr bel)
        by_cases hlt2 : k < m
        · have hlt2' : (k : Int) < (m : Int) := by omega
          have hk0 : (0 : Int) ≤ (k : Int) := by omega
          have hm24 := h24'.out
          obtain ⟨g, off, rfl, hg, hT⟩ := HTA'.out (by omega)
          obtain ⟨g', off', rfl, hg', hT'⟩ := HTB'.out (by omega)
          obtain ⟨x0, x1, x2, x3⟩ := (hT k hlt2).below (BW3.out _ bel) hg
          have HYV : Hid (∀ u, Below W3.heap.size W3 u → VAt u g' (off' + k * 3) (atV lf k)) := fun u hu => (hT' k hlt2).below (BW3.out u hu) hg'
          have hxw := atT_wf HWA.out k
          have hyw := atV_wf HWB.out k
          have hka : k < la.length := by rw [HM.out.1]; exact hlt2
          have hkf : k < lf.length := by rw [HM.out.2]; exact hlt2
          have e1 : la.drop k = atT la k :: la.drop (k + 1) := by rw [atT_eq hka]; exact List.drop_eq_getElem_cons hka
          have e2 : lf.drop k = atV lf k :: lf.drop (k + 1) := by rw [atV_eq hkf]; exact List.drop_eq_getElem_cons hkf
          have HS' : Hid ((fitB G (atT la k) (atV lf k) && fitsB G (la.drop (k + 1)) (lf.drop (k + 1))) = fitsB G la lf) := by show _ = _; rw [← HS.out, e1, e2]; rfl
          have HSX : Hid (¬ (atT la k).v = blankS → ¬ (atT la k).v = noS → (seek G (atT la k).v).isSome = true) := fun h1 h2 => HSK.out _ (by rw [atT_eq hka]; exact List.getElem_mem hka) h1 h2
          clear HS e1 e2 hT hT' hka hkf
          generalize atT la k = x at x0 x1 x2 x3 hxw HS' HSX
          generalize atV lf k = y at HYV hyw HS'
          have HXW : Hid _ := hxw
          have HYW : Hid _ := hyw
          clear hxw hyw
          have HBA : Hid (Below W3.heap.size W3 (wr.alloc (.cells #[.string x.v, .int .i8 x.a.k, .int .i64 x.a.n, .string x.a.s] 45))) := bel.alloc bel.size _
          have HT11 : Hid (TAt (wr.alloc (.cells #[.string x.v, .int .i8 x.a.k, .int .i64 x.a.n, .string x.a.s] 45)) wr.heap.size 0 x) := by refine ⟨?_, ?_, ?_, ?_⟩ <;> go_simp
          go_wp2_with fail
          refine (bound_any x _ G _ HXW.out (HLB.out _ HBA.out)).mono ?_
          rintro e w4 ⟨ok, rfl, b4⟩
          have B4 : Hid (Below W3.heap.size W3 w4) := HBA.out.trans (b4.mono HBA.out.size)
          have T4 : Hid (TAt w4 wr.heap.size 0 x) := HT11.out.below b4 (by simp)
          have hz4 : wr.heap.size < w4.heap.size := by have := b4.size; simp at this; omega
          obtain ⟨z, Hz⟩ : ∃ z, Hid (bndV G x = z) := ⟨_, rfl⟩
          rw [Hz.out]
          clear b4 x0 x1 x2 x3 A3 C3 HT11 HBA bel
          have HB5 : Hid (Below W3.heap.size W3 (w4.alloc (.cells #[.int .i8 z.k, .int .i64 z.n, .string z.s] 43))) := B4.out.alloc B4.out.size _
          have HV5 : Hid (VAt (w4.alloc (.cells #[.int .i8 z.k, .int .i64 z.n, .string z.s] 43)) w4.heap.size 0 z) := by refine ⟨?_, ?_, ?_⟩ <;> go_simp
          have HT5 : Hid (TAt (w4.alloc (.cells #[.int .i8 z.k, .int .i64 z.n, .string z.s] 43)) wr.heap.size 0 x) := T4.out.below ((Below.refl _ _).alloc (Nat.le_refl _) _) hz4
          go_upto_region 17 with fail
          generalize w4.alloc (.cells #[.int .i8 z.k, .int .i64 z.n, .string z.s] 43) = W5 at HB5 HV5 HT5 ⊢
          clear B4 T4
          have HSS : Hid (∀ u, Below W5.heap.size W5 u → u.cell? ⟨w.heap.size + 1, 1, none⟩ = some (.slice (some ⟨g', off', none⟩) m cb) ∧ u.cell? ⟨g', off' + k * 3, none⟩ = some (.int .i8 y.k) ∧ u.cell? ⟨g', off' + k * 3 + 1, none⟩ = some (.int .i64 y.n) ∧ u.cell? ⟨g', off' + k * 3 + 2, none⟩ = some (.string y.s) ∧ u.cell? ⟨wr.heap.size, 0, none⟩ = some (.string x.v) ∧ u.cell? ⟨w4.heap.size, 0, none⟩ = some (.int .i8 z.k) ∧ u.cell? ⟨w4.heap.size, 1, none⟩ = some (.int .i64 z.n) ∧ u.cell? ⟨w4.heap.size, 2, none⟩ = some (.string z.s)) := fun u hu => by
            have hu3 := HB5.out.trans (hu.mono HB5.out.size)
            obtain ⟨-, c1⟩ := HAC.out u (HBW.out u hu3)
            obtain ⟨y0, y1, y2⟩ := HYV.out u hu3
            obtain ⟨t0, -, -, -⟩ := HT5.out.below hu (World.block_lt_of_cell? _ _ HT5.out.c0)
            obtain ⟨z0, z1, z2⟩ := HV5.out.below hu (World.block_lt_of_cell? _ _ HV5.out.c0)
            exact ⟨c1, y0, y1, y2, t0, z0, z1, z2⟩
          have hB0 : Below W5.heap.size W5 W5 := Below.refl _ _
          have HB6 : Hid (∀ u, Below W5.heap.size W5 u → Below W3.heap.size W3 u) := fun u hu => HB5.out.trans (hu.mono HB5.out.size)
          clear HB5 HV5 HT5 HYV
          by_cases hc : chk y.k y.n y.s = 0
          · have HCK : Hid (∀ u, Calls Tryd.prog 14 #[.agg #[.int .i8 y.k, .int .i64 y.n, .string y.s]] u fun e w' => e = .returned (.int .i64 0) ∧ Below u.heap.size u w') := fun u => by
              have := rcheck_any y.k y.n y.s u HYW.out.text
              rw [hc] at this
              exact this
            have HOK : Hid (okV y = true) := by show okV y = true; unfold okV chkV; rw [hc]; rfl
            clear hc
            by_cases ex : x.v = blankS
            · have hB : (x.v.toList == [95]) = true := by rw [ex, ByteArray.toList_eq]; rfl
              have HN : Hid (fitsB G (la.drop (k + 1)) (lf.drop (k + 1)) = fitsB G la lf) := by show _ = _; rw [← HS'.out, fitB_blank HOK.out ex, Bool.true_and]
              clear ex HS' HSX
              refine wp_region_held_drew (S := fun u => (Below W5.heap.size W5 u) ∧ u.cell? ⟨w.heap.size + 1, 1, none⟩ = some (.slice (some ⟨g', off', none⟩) m cb) ∧ u.cell? ⟨g', off' + k * 3, none⟩ = some (.int .i8 y.k) ∧ u.cell? ⟨g', off' + k * 3 + 1, none⟩ = some (.int .i64 y.n) ∧ u.cell? ⟨g', off' + k * 3 + 2, none⟩ = some (.string y.s) ∧ u.cell? ⟨wr.heap.size, 0, none⟩ = some (.string x.v) ∧ u.cell? ⟨w4.heap.size, 0, none⟩ = some (.int .i8 z.k) ∧ u.cell? ⟨w4.heap.size, 1, none⟩ = some (.int .i64 z.n) ∧ u.cell? ⟨w4.heap.size, 2, none⟩ = some (.string z.s)) (by kernel_rfl) ⟨hB0.drew, HSS.out _ hB0.drew⟩ (fun hHeld => ?_)
              refine wpAnyH_take (i := 0) (v := ?_) rfl (by kernel_rfl) (by kernel_rfl) (by kernel_rfl) (fun _ _ _ h => h) (Or.inl ⟨by rfl, ?_⟩) (by assumption) ?_
              rotate_left
              · (intro u hSw; (try dsimp only at hSw); go_simp; try (with_reducible rfl))
              try simp only [List.getElem_toArray, List.getElem_cons_zero, List.getElem_cons_succ, Act.put, List.setIfInBounds_toArray, List.set_cons_zero, List.set_cons_succ]
              refine wpAnyH_take (i := 1) (v := ?_) rfl (by kernel_rfl) (by kernel_rfl) (by kernel_rfl) (fun _ _ _ h => h) (Or.inl ⟨by rfl, ?_⟩) (by assumption) ?_
              rotate_left
              · (intro u hSw; (try dsimp only at hSw); go_simp; try (with_reducible rfl))
              try simp only [List.getElem_toArray, List.getElem_cons_zero, List.getElem_cons_succ, Act.put, List.setIfInBounds_toArray, List.set_cons_zero, List.set_cons_succ]
              refine wpAnyH_take (i := 2) (v := ?_) rfl (by kernel_rfl) (by kernel_rfl) (by kernel_rfl) (fun _ _ _ h => h) (Or.inl ⟨by rfl, ?_⟩) (by assumption) ?_
              rotate_left
              · (intro u hSw; (try dsimp only at hSw); go_simp; try (with_reducible rfl))
              try simp only [List.getElem_toArray, List.getElem_cons_zero, List.getElem_cons_succ, Act.put, List.setIfInBounds_toArray, List.set_cons_zero, List.set_cons_succ]
              refine wpAnyH_take (i := 3) (v := ?_) rfl (by kernel_rfl) (by kernel_rfl) (by kernel_rfl) (fun _ _ _ h => h) (Or.inl ⟨by rfl, ?_⟩) (by assumption) ?_
              rotate_left
              · (intro u hSw; (try dsimp only at hSw); go_simp; try (with_reducible rfl))
              try simp only [List.getElem_toArray, List.getElem_cons_zero, List.getElem_cons_succ, Act.put, List.setIfInBounds_toArray, List.set_cons_zero, List.set_cons_succ]
              refine wpAnyH_take (i := 4) (v := ?_) rfl (by kernel_rfl) (by kernel_rfl) (by kernel_rfl) (fun _ _ _ h => h) (Or.inl ⟨by rfl, ?_⟩) (by assumption) ?_
              rotate_left
              · (intro u hSw; (try dsimp only at hSw); go_simp; try (with_reducible rfl))
              try simp only [List.getElem_toArray, List.getElem_cons_zero, List.getElem_cons_succ, Act.put, List.setIfInBounds_toArray, List.set_cons_zero, List.set_cons_succ]
              refine wpAnyH_ready (rs := [5]) (by kernel_rfl) (by simp) ?_
              refine AllReadyH.cons (o := { dst := some 90, op := Op.call { callee := Callee.value (Operand.func 14), args := #[Operand.tmp 89], argTypes := #[43] }, type := 49, pos := "ref.go:316", after := #[{ on := 4, ground := Ground.data }], guard := none }) rfl (fun K hK => ?_) AllReadyH.nil
              go_simp
              refine Calls.mono (HCK.out _) ?_
              rintro ee w6 ⟨rfl, b6⟩
              have b6' : Below W5.heap.size W5 w6 := hB0.drew.trans b6
              refine hK.out _ _ ⟨b6', HSS.out _ b6'⟩ (fun hHeld2 => ?_)
              clear hK K hHeld
              try simp only [List.getElem_toArray, List.getElem_cons_zero, List.getElem_cons_succ, Act.put, List.setIfInBounds_toArray, List.set_cons_zero, List.set_cons_succ]
              refine wpAnyH_take (i := 6) (v := ?_) rfl (by kernel_rfl) (by kernel_rfl) (by kernel_rfl) (fun _ _ _ h => h) (Or.inl ⟨by rfl, ?_⟩) (by assumption) ?_
              rotate_left
              · (intro u hSw; (try dsimp only at hSw); go_simp; try (with_reducible rfl))
              try simp only [List.getElem_toArray, List.getElem_cons_zero, List.getElem_cons_succ, Act.put, List.setIfInBounds_toArray, List.set_cons_zero, List.set_cons_succ]
              refine wpAnyH_take (i := 7) (v := ?_) rfl (by kernel_rfl) (by kernel_rfl) (by kernel_rfl) (fun _ _ _ h => h) (Or.inl ⟨by rfl, ?_⟩) (by assumption) ?_
              rotate_left
              · (intro u hSw; (try dsimp only at hSw); go_simp; try (with_reducible rfl))
              try simp only [List.getElem_toArray, List.getElem_cons_zero, List.getElem_cons_succ, Act.put, List.setIfInBounds_toArray, List.set_cons_zero, List.set_cons_succ]
              refine wpAnyH_take (i := 8) (v := ?_) rfl (by kernel_rfl) (by kernel_rfl) (by kernel_rfl) (fun _ _ _ h => h) (Or.inl ⟨by rfl, ?_⟩) (by assumption) ?_
              rotate_left
              · (intro u hSw; (try dsimp only at hSw); go_simp; try (with_reducible rfl))
              try simp only [List.getElem_toArray, List.getElem_cons_zero, List.getElem_cons_succ, Act.put, List.setIfInBounds_toArray, List.set_cons_zero, List.set_cons_succ]
              refine wpAnyH_take (i := 9) (v := ?_) rfl (by kernel_rfl) (by kernel_rfl) (by kernel_rfl) (fun _ _ _ h => h) (Or.inl ⟨by rfl, ?_⟩) (by assumption) ?_
              rotate_left
              · (intro u hSw; (try dsimp only at hSw); go_simp; try (with_reducible rfl))
              try simp only [List.getElem_toArray, List.getElem_cons_zero, List.getElem_cons_succ, Act.put, List.setIfInBounds_toArray, List.set_cons_zero, List.set_cons_succ]
              refine wpAnyH_take (i := 10) (v := ?_) rfl (by kernel_rfl) (by kernel_rfl) (by kernel_rfl) (fun _ _ _ h => h) (Or.inl ⟨by rfl, ?_⟩) (by assumption) ?_
              rotate_left
              · (intro u hSw; (try dsimp only at hSw); go_simp; try (with_reducible rfl))
              try simp only [List.getElem_toArray, List.getElem_cons_zero, List.getElem_cons_succ, Act.put, List.setIfInBounds_toArray, List.set_cons_zero, List.set_cons_succ]
              refine wpAnyH_take (i := 11) (v := ?_) rfl (by kernel_rfl) (by kernel_rfl) (by kernel_rfl) (fun _ _ _ h => h) (Or.inl ⟨by rfl, ?_⟩) (by assumption) ?_
              rotate_left
              · (intro u hSw; (try dsimp only at hSw); go_simp; try (with_reducible rfl))
              try simp only [List.getElem_toArray, List.getElem_cons_zero, List.getElem_cons_succ, Act.put, List.setIfInBounds_toArray, List.set_cons_zero, List.set_cons_succ]
              refine wpAnyH_take (i := 12) (v := undef) rfl (by kernel_rfl) (by kernel_rfl) (by kernel_rfl) (fun _ _ _ h => h) (Or.inr ⟨by kernel_rfl, rfl⟩) (by assumption) ?_
              try simp only [List.getElem_toArray, List.getElem_cons_zero, List.getElem_cons_succ, Act.put, List.setIfInBounds_toArray, List.set_cons_zero, List.set_cons_succ]
              refine wpAnyH_take (i := 13) (v := undef) rfl (by kernel_rfl) (by kernel_rfl) (by kernel_rfl) (fun _ _ _ h => h) (Or.inr ⟨by kernel_rfl, rfl⟩) (by assumption) ?_
              try simp only [List.getElem_toArray, List.getElem_cons_zero, List.getElem_cons_succ, Act.put, List.setIfInBounds_toArray, List.set_cons_zero, List.set_cons_succ]
              refine wpAnyH_take (i := 14) (v := undef) rfl (by kernel_rfl) (by kernel_rfl) (by kernel_rfl) (fun _ _ _ h => h) (Or.inr ⟨by kernel_rfl, rfl⟩) (by assumption) ?_
              try simp only [List.getElem_toArray, List.getElem_cons_zero, List.getElem_cons_succ, Act.put, List.setIfInBounds_toArray, List.set_cons_zero, List.set_cons_succ]
              refine wpAnyH_take (i := 15) (v := undef) rfl (by kernel_rfl) (by kernel_rfl) (by kernel_rfl) (fun _ _ _ h => h) (Or.inr ⟨by kernel_rfl, rfl⟩) (by assumption) ?_
              try simp only [List.getElem_toArray, List.getElem_cons_zero, List.getElem_cons_succ, Act.put, List.setIfInBounds_toArray, List.set_cons_zero, List.set_cons_succ]
              refine wpAnyH_take (i := 16) (v := undef) rfl (by kernel_rfl) (by kernel_rfl) (by kernel_rfl) (fun _ _ _ h => h) (Or.inr ⟨by kernel_rfl, rfl⟩) (by assumption) ?_
              try simp only [List.getElem_toArray, List.getElem_cons_zero, List.getElem_cons_succ, Act.put, List.setIfInBounds_toArray, List.set_cons_zero, List.set_cons_succ]
              refine wpAnyH_take (i := 17) (v := undef) rfl (by kernel_rfl) (by kernel_rfl) (by kernel_rfl) (fun _ _ _ h => h) (Or.inr ⟨by kernel_rfl, rfl⟩) (by assumption) ?_
              try simp only [List.getElem_toArray, List.getElem_cons_zero, List.getElem_cons_succ, Act.put, List.setIfInBounds_toArray, List.set_cons_zero, List.set_cons_succ]
              refine wpAnyH_take (i := 18) (v := undef) rfl (by kernel_rfl) (by kernel_rfl) (by kernel_rfl) (fun _ _ _ h => h) (Or.inr ⟨by kernel_rfl, rfl⟩) (by assumption) ?_
              try simp only [List.getElem_toArray, List.getElem_cons_zero, List.getElem_cons_succ, Act.put, List.setIfInBounds_toArray, List.set_cons_zero, List.set_cons_succ]
              refine wpAnyH_take (i := 19) (v := ?_) rfl (by kernel_rfl) (by kernel_rfl) (by kernel_rfl) (fun _ _ _ h => h) (Or.inl ⟨by rfl, ?_⟩) (by assumption) ?_
              rotate_left
              · (intro u hSw; (try dsimp only at hSw); go_simp; try (with_reducible rfl))
              try simp only [List.getElem_toArray, List.getElem_cons_zero, List.getElem_cons_succ, Act.put, List.setIfInBounds_toArray, List.set_cons_zero, List.set_cons_succ]
              refine wpAnyH_take (i := 20) (v := ?_) rfl (by kernel_rfl) (by kernel_rfl) (by kernel_rfl) (fun _ _ _ h => h) (Or.inl ⟨by rfl, ?_⟩) (by assumption) ?_
              rotate_left
              · (intro u hSw; (try dsimp only at hSw); go_simp; try (with_reducible rfl))
              try simp only [List.getElem_toArray, List.getElem_cons_zero, List.getElem_cons_succ, Act.put, List.setIfInBounds_toArray, List.set_cons_zero, List.set_cons_succ]
              refine wpAnyH_done (by kernel_rfl) ?_ _
              go_wp2
              go_roundw
              case rel => exact ⟨k + 1, by omega, by go_num, HB6.out _ b6', HN⟩
              case measure => simp [intOf]; omega
            · have hB := blank_iff ex
              have HFB : Hid (fitB G x y = decide (z = y)) := by show _ = _; rw [fitB_bnd HOK.out ex (HSX.out ex), Hz.out]
              have hE := run_neqV z.k z.n z.s y.k y.n y.s
              clear ex HSX
              by_cases ez : z = y
              · have hd : decide ((⟨z.k, z.n, z.s⟩ : V) = ⟨y.k, y.n, y.s⟩) = true := decide_eq_true ez
                rw [hd] at hE
                have HN : Hid (fitsB G (la.drop (k + 1)) (lf.drop (k + 1)) = fitsB G la lf) := by show _ = _; rw [← HS'.out, HFB.out, decide_eq_true ez, Bool.true_and]
                clear ez hd HS' HFB
                go_region_held3 (fun u => (Below W5.heap.size W5 u) ∧ u.cell? ⟨w.heap.size + 1, 1, none⟩ = some (.slice (some ⟨g', off', none⟩) m cb) ∧ u.cell? ⟨g', off' + k * 3, none⟩ = some (.int .i8 y.k) ∧ u.cell? ⟨g', off' + k * 3 + 1, none⟩ = some (.int .i64 y.n) ∧ u.cell? ⟨g', off' + k * 3 + 2, none⟩ = some (.string y.s) ∧ u.cell? ⟨wr.heap.size, 0, none⟩ = some (.string x.v) ∧ u.cell? ⟨w4.heap.size, 0, none⟩ = some (.int .i8 z.k) ∧ u.cell? ⟨w4.heap.size, 1, none⟩ = some (.int .i64 z.n) ∧ u.cell? ⟨w4.heap.size, 2, none⟩ = some (.string z.s))
                  (first
                    | assumption
                    | exact ⟨hB0.drew, HSS.out _ hB0.drew⟩
                    | exact ⟨(by assumption), HSS.out _ (by assumption)⟩)
                  (first
                    | (go_at_call 14; refine Calls.mono (HCK.out _) ?_; rintro ee w6 ⟨rfl, b6⟩; have b6' : Below W5.heap.size W5 w6 := hB0.drew.trans b6)
                    | fail)
                go_wp2
                go_roundw
                case rel => exact ⟨k + 1, by omega, by go_num, HB6.out _ b6', HN⟩
                case measure => simp [intOf]; omega
              · have hd : decide ((⟨z.k, z.n, z.s⟩ : V) = ⟨y.k, y.n, y.s⟩) = false := decide_eq_false ez
                rw [hd] at hE
                have HN : Hid (none = r) := by
                  show none = r
                  rw [HG1.out, ← HS'.out, HFB.out, decide_eq_false ez, Bool.false_and]
                  rfl
                clear ez hd HS' HFB
                go_region_held3 (fun u => (Below W5.heap.size W5 u) ∧ u.cell? ⟨w.heap.size + 1, 1, none⟩ = some (.slice (some ⟨g', off', none⟩) m cb) ∧ u.cell? ⟨g', off' + k * 3, none⟩ = some (.int .i8 y.k) ∧ u.cell? ⟨g', off' + k * 3 + 1, none⟩ = some (.int .i64 y.n) ∧ u.cell? ⟨g', off' + k * 3 + 2, none⟩ = some (.string y.s) ∧ u.cell? ⟨wr.heap.size, 0, none⟩ = some (.string x.v) ∧ u.cell? ⟨w4.heap.size, 0, none⟩ = some (.int .i8 z.k) ∧ u.cell? ⟨w4.heap.size, 1, none⟩ = some (.int .i64 z.n) ∧ u.cell? ⟨w4.heap.size, 2, none⟩ = some (.string z.s))
                  (first
                    | assumption
                    | exact ⟨hB0.drew, HSS.out _ hB0.drew⟩
                    | exact ⟨(by assumption), HSS.out _ (by assumption)⟩)
                  (first
                    | (go_at_call 14; refine Calls.mono (HCK.out _) ?_; rintro ee w6 ⟨rfl, b6⟩; have b6' : Below W5.heap.size W5 w6 := hB0.drew.trans b6)
                    | fail)
                go_wp2
                go_ret2
                refine ⟨⟨.slice none 0 0, ?_, fun _ => rfl, fun s' h => ?_⟩, BW3.out _ (HB6.out _ b6')⟩
                · rw [← HN.out]; rfl
                · rw [← HN.out] at h; cases h
          · have HCK : Hid (∀ u, Calls Tryd.prog 14 #[.agg #[.int .i8 y.k, .int .i64 y.n, .string y.s]] u fun e w' => e = .returned (.int .i64 10) ∧ Below u.heap.size u w') := fun u => by
              have := rcheck_any y.k y.n y.s u HYW.out.text
              rw [chk_ten hc] at this
              exact this
            have HN : Hid (none = r) := by
              show none = r
              rw [HG1.out, ← HS'.out, fitB_bad (by unfold okV chkV; simpa using hc), Bool.false_and]
              rfl
            clear hc HS' HSX
            refine wp_region_held_drew (S := fun u => (Below W5.heap.size W5 u) ∧ u.cell? ⟨w.heap.size + 1, 1, none⟩ = some (.slice (some ⟨g', off', none⟩) m cb) ∧ u.cell? ⟨g', off' + k * 3, none⟩ = some (.int .i8 y.k) ∧ u.cell? ⟨g', off' + k * 3 + 1, none⟩ = some (.int .i64 y.n) ∧ u.cell? ⟨g', off' + k * 3 + 2, none⟩ = some (.string y.s) ∧ u.cell? ⟨wr.heap.size, 0, none⟩ = some (.string x.v) ∧ u.cell? ⟨w4.heap.size, 0, none⟩ = some (.int .i8 z.k) ∧ u.cell? ⟨w4.heap.size, 1, none⟩ = some (.int .i64 z.n) ∧ u.cell? ⟨w4.heap.size, 2, none⟩ = some (.string z.s)) (by kernel_rfl) ⟨hB0.drew, HSS.out _ hB0.drew⟩ (fun hHeld => ?_)
            refine wpAnyH_take (i := 0) (v := ?_) rfl (by kernel_rfl) (by kernel_rfl) (by kernel_rfl) (fun _ _ _ h => h) (Or.inl ⟨by rfl, ?_⟩) (by assumption) ?_
            rotate_left
            · (intro u hSw; (try dsimp only at hSw); go_simp; try (with_reducible rfl))
            try simp only [List.getElem_toArray, List.getElem_cons_zero, List.getElem_cons_succ, Act.put, List.setIfInBounds_toArray, List.set_cons_zero, List.set_cons_succ]
            refine wpAnyH_take (i := 1) (v := ?_) rfl (by kernel_rfl) (by kernel_rfl) (by kernel_rfl) (fun _ _ _ h => h) (Or.inl ⟨by rfl, ?_⟩) (by assumption) ?_
            rotate_left
            · (intro u hSw; (try dsimp only at hSw); go_simp; try (with_reducible rfl))
            try simp only [List.getElem_toArray, List.getElem_cons_zero, List.getElem_cons_succ, Act.put, List.setIfInBounds_toArray, List.set_cons_zero, List.set_cons_succ]
            refine wpAnyH_take (i := 2) (v := ?_) rfl (by kernel_rfl) (by kernel_rfl) (by kernel_rfl) (fun _ _ _ h => h) (Or.inl ⟨by rfl, ?_⟩) (by assumption) ?_
            rotate_left
            · (intro u hSw; (try dsimp only at hSw); go_simp; try (with_reducible rfl))
            try simp only [List.getElem_toArray, List.getElem_cons_zero, List.getElem_cons_succ, Act.put, List.setIfInBounds_toArray, List.set_cons_zero, List.set_cons_succ]
            refine wpAnyH_take (i := 3) (v := ?_) rfl (by kernel_rfl) (by kernel_rfl) (by kernel_rfl) (fun _ _ _ h => h) (Or.inl ⟨by rfl, ?_⟩) (by assumption) ?_
            rotate_left
            · (intro u hSw; (try dsimp only at hSw); go_simp; try (with_reducible rfl))
            try simp only [List.getElem_toArray, List.getElem_cons_zero, List.getElem_cons_succ, Act.put, List.setIfInBounds_toArray, List.set_cons_zero, List.set_cons_succ]
            refine wpAnyH_take (i := 4) (v := ?_) rfl (by kernel_rfl) (by kernel_rfl) (by kernel_rfl) (fun _ _ _ h => h) (Or.inl ⟨by rfl, ?_⟩) (by assumption) ?_
            rotate_left
            · (intro u hSw; (try dsimp only at hSw); go_simp; try (with_reducible rfl))
            try simp only [List.getElem_toArray, List.getElem_cons_zero, List.getElem_cons_succ, Act.put, List.setIfInBounds_toArray, List.set_cons_zero, List.set_cons_succ]
            refine wpAnyH_ready (rs := [5]) (by kernel_rfl) (by simp) ?_
            refine AllReadyH.cons (o := { dst := some 90, op := Op.call { callee := Callee.value (Operand.func 14), args := #[Operand.tmp 89], argTypes := #[43] }, type := 49, pos := "ref.go:316", after := #[{ on := 4, ground := Ground.data }], guard := none }) rfl (fun K hK => ?_) AllReadyH.nil
            go_simp
            refine Calls.mono (HCK.out _) ?_
            rintro ee w6 ⟨rfl, b6⟩
            have b6' : Below W5.heap.size W5 w6 := hB0.drew.trans b6
            refine hK.out _ _ ⟨b6', HSS.out _ b6'⟩ (fun hHeld2 => ?_)
            clear hK K hHeld
            try simp only [List.getElem_toArray, List.getElem_cons_zero, List.getElem_cons_succ, Act.put, List.setIfInBounds_toArray, List.set_cons_zero, List.set_cons_succ]
            refine wpAnyH_take (i := 6) (v := ?_) rfl (by kernel_rfl) (by kernel_rfl) (by kernel_rfl) (fun _ _ _ h => h) (Or.inl ⟨by rfl, ?_⟩) (by assumption) ?_
            rotate_left
            · (intro u hSw; (try dsimp only at hSw); go_simp; try (with_reducible rfl))
            try simp only [List.getElem_toArray, List.getElem_cons_zero, List.getElem_cons_succ, Act.put, List.setIfInBounds_toArray, List.set_cons_zero, List.set_cons_succ]
            refine wpAnyH_take (i := 7) (v := ?_) rfl (by kernel_rfl) (by kernel_rfl) (by kernel_rfl) (fun _ _ _ h => h) (Or.inl ⟨by rfl, ?_⟩) (by assumption) ?_
            rotate_left
            · (intro u hSw; (try dsimp only at hSw); go_simp; try (with_reducible rfl))
            try simp only [List.getElem_toArray, List.getElem_cons_zero, List.getElem_cons_succ, Act.put, List.setIfInBounds_toArray, List.set_cons_zero, List.set_cons_succ]
            refine wpAnyH_take (i := 8) (v := undef) rfl (by kernel_rfl) (by kernel_rfl) (by kernel_rfl) (fun _ _ _ h => h) (Or.inr ⟨by kernel_rfl, rfl⟩) (by assumption) ?_
            try simp only [List.getElem_toArray, List.getElem_cons_zero, List.getElem_cons_succ, Act.put, List.setIfInBounds_toArray, List.set_cons_zero, List.set_cons_succ]
            refine wpAnyH_take (i := 9) (v := undef) rfl (by kernel_rfl) (by kernel_rfl) (by kernel_rfl) (fun _ _ _ h => h) (Or.inr ⟨by kernel_rfl, rfl⟩) (by assumption) ?_
            try simp only [List.getElem_toArray, List.getElem_cons_zero, List.getElem_cons_succ, Act.put, List.setIfInBounds_toArray, List.set_cons_zero, List.set_cons_succ]
            refine wpAnyH_take (i := 10) (v := undef) rfl (by kernel_rfl) (by kernel_rfl) (by kernel_rfl) (fun _ _ _ h => h) (Or.inr ⟨by kernel_rfl, rfl⟩) (by assumption) ?_
            try simp only [List.getElem_toArray, List.getElem_cons_zero, List.getElem_cons_succ, Act.put, List.setIfInBounds_toArray, List.set_cons_zero, List.set_cons_succ]
            refine wpAnyH_take (i := 11) (v := undef) rfl (by kernel_rfl) (by kernel_rfl) (by kernel_rfl) (fun _ _ _ h => h) (Or.inr ⟨by kernel_rfl, rfl⟩) (by assumption) ?_
            try simp only [List.getElem_toArray, List.getElem_cons_zero, List.getElem_cons_succ, Act.put, List.setIfInBounds_toArray, List.set_cons_zero, List.set_cons_succ]
            refine wpAnyH_take (i := 12) (v := undef) rfl (by kernel_rfl) (by kernel_rfl) (by kernel_rfl) (fun _ _ _ h => h) (Or.inr ⟨by kernel_rfl, rfl⟩) (by assumption) ?_
            try simp only [List.getElem_toArray, List.getElem_cons_zero, List.getElem_cons_succ, Act.put, List.setIfInBounds_toArray, List.set_cons_zero, List.set_cons_succ]
            refine wpAnyH_take (i := 13) (v := undef) rfl (by kernel_rfl) (by kernel_rfl) (by kernel_rfl) (fun _ _ _ h => h) (Or.inr ⟨by kernel_rfl, rfl⟩) (by assumption) ?_
            try simp only [List.getElem_toArray, List.getElem_cons_zero, List.getElem_cons_succ, Act.put, List.setIfInBounds_toArray, List.set_cons_zero, List.set_cons_succ]
            refine wpAnyH_take (i := 14) (v := undef) rfl (by kernel_rfl) (by kernel_rfl) (by kernel_rfl) (fun _ _ _ h => h) (Or.inr ⟨by kernel_rfl, rfl⟩) (by assumption) ?_
            try simp only [List.getElem_toArray, List.getElem_cons_zero, List.getElem_cons_succ, Act.put, List.setIfInBounds_toArray, List.set_cons_zero, List.set_cons_succ]
            refine wpAnyH_take (i := 15) (v := undef) rfl (by kernel_rfl) (by kernel_rfl) (by kernel_rfl) (fun _ _ _ h => h) (Or.inr ⟨by kernel_rfl, rfl⟩) (by assumption) ?_
            try simp only [List.getElem_toArray, List.getElem_cons_zero, List.getElem_cons_succ, Act.put, List.setIfInBounds_toArray, List.set_cons_zero, List.set_cons_succ]
            refine wpAnyH_take (i := 16) (v := undef) rfl (by kernel_rfl) (by kernel_rfl) (by kernel_rfl) (fun _ _ _ h => h) (Or.inr ⟨by kernel_rfl, rfl⟩) (by assumption) ?_
            try simp only [List.getElem_toArray, List.getElem_cons_zero, List.getElem_cons_succ, Act.put, List.setIfInBounds_toArray, List.set_cons_zero, List.set_cons_succ]
            refine wpAnyH_take (i := 17) (v := undef) rfl (by kernel_rfl) (by kernel_rfl) (by kernel_rfl) (fun _ _ _ h => h) (Or.inr ⟨by kernel_rfl, rfl⟩) (by assumption) ?_
            try simp only [List.getElem_toArray, List.getElem_cons_zero, List.getElem_cons_succ, Act.put, List.setIfInBounds_toArray, List.set_cons_zero, List.set_cons_succ]
            refine wpAnyH_take (i := 18) (v := undef) rfl (by kernel_rfl) (by kernel_rfl) (by kernel_rfl) (fun _ _ _ h => h) (Or.inr ⟨by kernel_rfl, rfl⟩) (by assumption) ?_
            try simp only [List.getElem_toArray, List.getElem_cons_zero, List.getElem_cons_succ, Act.put, List.setIfInBounds_toArray, List.set_cons_zero, List.set_cons_succ]
            refine wpAnyH_take (i := 19) (v := undef) rfl (by kernel_rfl) (by kernel_rfl) (by kernel_rfl) (fun _ _ _ h => h) (Or.inr ⟨by kernel_rfl, rfl⟩) (by assumption) ?_
            try simp only [List.getElem_toArray, List.getElem_cons_zero, List.getElem_cons_succ, Act.put, List.setIfInBounds_toArray, List.set_cons_zero, List.set_cons_succ]
            refine wpAnyH_take (i := 20) (v := ?_) rfl (by kernel_rfl) (by kernel_rfl) (by kernel_rfl) (fun _ _ _ h => h) (Or.inl ⟨by rfl, ?_⟩) (by assumption) ?_
            rotate_left
            · (intro u hSw; (try dsimp only at hSw); go_simp; try (with_reducible rfl))
            try simp only [List.getElem_toArray, List.getElem_cons_zero, List.getElem_cons_succ, Act.put, List.setIfInBounds_toArray, List.set_cons_zero, List.set_cons_succ]
            refine wpAnyH_done (by kernel_rfl) ?_ _
            go_wp2
            go_ret2
            refine ⟨⟨.slice none 0 0, ?_, fun _ => rfl, fun s' h => ?_⟩, BW3.out _ (HB6.out _ b6')⟩
            · rw [← HN.out]; rfl
            · rw [← HN.out] at h; cases h
        · obtain rfl : k = m := by omega
          have HV : Hid (some G = r) := by
            show some G = r
            rw [HG1.out, ← HS.out, List.drop_of_length_le (by rw [HM.out.1]; exact Nat.le_refl _), List.drop_of_length_le (by rw [HM.out.2]; exact Nat.le_refl _)]
            simp [fitsB]
          have hGL := HGL.out
          go_wp2
          go_ret2
          refine ⟨⟨.slice ao ns.length co, ?_, fun h => ?_, fun s' h => ?_⟩, BW3.out _ bel⟩
          · rw [← HV.out]; rfl
          · rw [← HV.out] at h; cases h
          · rw [← HV.out] at h
            cases h
            refine ⟨?_, HGW.out, by rw [hGL]; exact hnl⟩
            have := Go.Joins.ownsRow_le (own_below HO.out bel) BW2.out.size
            rw [hGL]
            exact this
end Go.Proofs.YthffncfnjaecdaaDoor
