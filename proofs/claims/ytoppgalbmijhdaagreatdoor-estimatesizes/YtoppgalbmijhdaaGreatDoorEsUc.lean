import Derived.Test.YtoppgalbmijhdaaGreatDoorEsUt
namespace Go.Proofs.YtoppgalbmijhdaaGreatDoor
open Go.RowKit Go.Maps Go.ChangeMaps
set_option linter.unusedVariables false
set_option linter.unusedSimpArgs false
attribute [local go_sem ↓] Go.wp_at_zero Go.wp_at_succ
attribute [-go_sem] Builtin.append_

/-! the unlike values of each column, counted -/
def iC (d : Nat) : Value := .int .i64 d
theorem own_lower {w : World} {b b' k n : Nat} {e : TypeId} {v : Value} {xs : List Value} (h : w.ownsRow b e k v n xs) (hb : b' ≤ b) : w.ownsRow b' e k v n xs :=
  ⟨h.1, h.2.imp id (fun ⟨g, cap, cur, e1, h1, r⟩ => ⟨g, cap, cur, e1, Nat.le_trans hb h1, r⟩)⟩
theorem own_setI {w : World} {B : Nat} {e : TypeId} {k g n cap : Nat} {xs : List Value} (h : w.ownsRow B e k (.slice (some ⟨g, 0, none⟩) n cap) n xs) {i : Nat} (hi : i < xs.length) (u : Value) : (w.setCell ⟨g, i, none⟩ u).ownsRow B e k (.slice (some ⟨g, 0, none⟩) n cap) n (xs.set i u) := by
  obtain ⟨hl, ⟨h1, _⟩ | ⟨g', cap', cur, hv, h0, hb, hn, hc, hs, ht⟩⟩ := h
  · cases h1
  · cases hv
    refine ⟨by simp [hl], .inr ⟨g, cap, cur.setIfInBounds i u, rfl, h0, heap_setCell_same w g i cur e u hb, hn, hc, by simp [hs], ?_⟩⟩
    rw [Array.toList_setIfInBounds, List.take_set, ht]
theorem own_cellI {w : World} {B : Nat} {e : TypeId} {k g n cap : Nat} {xs : List Value} (h : w.ownsRow B e k (.slice (some ⟨g, 0, none⟩) n cap) n xs) {i : Nat} {u : Value} (hi : xs[i]? = some u) : w.cell? ⟨g, i, none⟩ = some u ∧ w.frozen? ⟨g, i, none⟩ = false ∧ g < w.heap.size ∧ B ≤ g := by
  obtain ⟨hl, ⟨h1, _⟩ | ⟨g', cap', cur, hv, h0, hb, hn, hc, hs, ht⟩⟩ := h
  · cases h1
  · cases hv
    refine ⟨?_, ?_, (Array.getElem?_eq_some_iff.1 hb).1, h0⟩
    · rw [← ht, List.getElem?_take] at hi
      split at hi
      · unfold World.cell?
        simp only [hb]
        simpa using hi
      · cases hi
    · unfold World.frozen?
      simp only [hb]
      simp
theorem infoInt : (Tryz.prog.info? 3).map (fun i => (i.zero, i.size, i.bytes)) = some (some (.int .i64 0), 1, 8) := by kernel_rfl
theorem ints_one (l : List Nat) : ∀ u ∈ l.map iC, u.oneCell' = true := by
  intro u hu
  obtain ⟨t, _, rfl⟩ := List.mem_map.1 hu
  rfl
theorem setC (out : List Nat) (i d : Nat) : (out.map iC).set i (.int .i64 ((d : Int) + 1)) = (out.set i (d + 1)).map iC := by
  rw [List.map_set]
  rfl
/-- what unlikeInColumns keeps: the row of counts, the set of values -/
structure Uc (w0 wr : World) (ts : List (List V)) (sa : Option Addr) (sc : Nat) (s : List (Nat × V)) (out : List Nat) : Prop where
  bel : Below w0.heap.size w0 wr
  own : wr.ownsRow (w0.heap.size + 1) 3 1 (.slice sa out.length sc) out.length (out.map iC)
  map : MapG bV bOk wr w0.heap.size (entU s)
  cols : Cols ts s out
theorem Uc.keep {w0 wr w' : World} {ts : List (List V)} {sa : Option Addr} {sc : Nat} {s : List (Nat × V)} {out : List Nat} (h : Uc w0 wr ts sa sc s out) (hb : Below wr.heap.size wr w') : Uc w0 w' ts sa sc s out :=
  ⟨h.bel.trans (hb.mono h.bel.size), own_below h.own hb, h.map.below hb, h.cols⟩
/-- a value of a column that has a place: it is there -/
theorem Uc.old {w0 wr : World} {ts : List (List V)} {p : List V} {v : V} {sa : Option Addr} {sc : Nat} {s : List (Nat × V)} {out : List Nat} (h : Uc w0 wr (ts ++ [p]) sa sc s out) (hl : p.length < out.length) (hm : (p.length, v) ∈ s) : Uc w0 wr (ts ++ [p ++ [v]]) sa sc s out :=
  ⟨h.bel, h.own, h.map, h.cols.old hl hm⟩
/-- it is new: the set has it, its column's count is one more -/
theorem Uc.new {w0 u w3 : World} {ts : List (List V)} {p : List V} {v : V} {g sc q : Nat} {s : List (Nat × V)} {out out' : List Nat} {d : Nat} (hq : p.length = q)
    (bel : Below w0.heap.size w0 u) (own : u.ownsRow (w0.heap.size + 1) 3 1 (.slice (some ⟨g, 0, none⟩) out.length sc) out.length (out.map iC))
    (hd : out[q]? = some d) (hB : MapG bV bOk w3 w0.heap.size (entU s ++ [((q, v), .agg #[])])) (ht : u.mapTurned w3 w0.heap.size) (hc : Cols (ts ++ [p ++ [v]]) (s ++ [(q, v)]) out') (ho : out' = out.set q (d + 1)) :
    w3.cell? ⟨g, q, none⟩ = some (.int .i64 d) ∧ w3.frozen? ⟨g, q, none⟩ = false ∧ g < w3.heap.size ∧ Uc w0 (w3.setCell ⟨g, q, none⟩ (.int .i64 ((d : Int) + 1))) (ts ++ [p ++ [v]]) (some ⟨g, 0, none⟩) sc (s ++ [(q, v)]) out' ∧ out'.length = out.length := by
  have hz := bel.size
  have hl := (List.getElem?_eq_some_iff.1 hd).1
  have own3 : w3.ownsRow (w0.heap.size + 1) 3 1 (.slice (some ⟨g, 0, none⟩) out.length sc) out.length (out.map iC) := own_of_block own (fun j hj => by
    have h1 := (own.lt j hj)
    exact ht.grown.block j h1.2 (fun e => by have := Option.some.inj e; omega))
  obtain ⟨c1, c2, c3, c4⟩ := own_cellI own3 (i := q) (u := .int .i64 d) (by rw [List.getElem?_map, hd]; rfl)
  have hol : out'.length = out.length := by rw [ho, List.length_set]
  refine ⟨c1, c2, c3, ⟨?_, ?_, ?_, hc⟩, hol⟩
  · exact ((bel.grown ht.grown hz (fun j hj => by cases hj; exact Nat.le_refl _))).setCell (p := ⟨g, q, none⟩) (by show w0.heap.size ≤ g; omega) _
  · have := own_setI own3 (i := q) (by simpa using hl) (.int .i64 ((d : Int) + 1))
    rw [setC, ← ho] at this
    rw [hol]
    exact this
  · rw [← entU_snoc] at hB
    exact hB.of_block (heap_setCell_other _ _ _ _ (by show w0.heap.size ≠ g; omega))
set_option maxHeartbeats 3200000 in
theorem unlikeC_any (v : Value) (l : List XF) (w : World) (hL : Lu w v l) (hn : l.length ≤ 1048576) (hsm : ∀ y ∈ l, y.vs.length ≤ 1048576) :
    Calls Tryz.prog 19 #[v] w fun e w' => ∃ sa sc s out, e = .returned (.slice sa out.length sc) ∧ Uc w w' (l.map XF.vs) sa sc s out := by
  obtain ⟨i0, hi0, hz0, hz1, hz2⟩ := info_partsS infoInt
  obtain ⟨a, c, rfl, hc1, hc2, hk⟩ := hL.form
  have HL := Lib.hid hL
  have HK := Lib.hid hk
  have HS := Lib.hid hsm
  clear hL hk hsm hc2
  have m1 := run_mkS w
  have HU0 : Hid (Uc w (w.alloc (.map #[] 0)) [] none 0 [] []) := ⟨(Below.refl _ _).alloc (Nat.le_refl _) _, World.ownsRow_nil _ _ _ _, MapG.made w, Cols.start⟩
  go_enter Tryz.func19, Tryz.ntmps19
  go_wp2
  go_loopw [4, 15] (fun sv j wr => ∃ (k : Nat) (sa : Option Addr) (sc : Nat) (s : List (Nat × V)) (out : List Nat), k ≤ l.length ∧ j = .int .i64 k ∧ sv = .slice sa out.length sc ∧ Hid (Uc w wr ((l.take k).map XF.vs) sa sc s out) ∧ out.length ≤ 1048576) (fun _ j _ => l.length - (intOf j).toNat)
  case atStart => exact ⟨0, none, 0, [], [], Nat.zero_le _, rfl, rfl, HU0, Nat.zero_le _⟩
  case round =>
    obtain ⟨k, sa, sc, s, out, hk, rfl, rfl, HU, hol⟩ := hrel
    clear m1 HU0
    by_cases hlt : k < l.length
    · have hlt' : (k : Int) < (l.length : Int) := by omega
      obtain ⟨g, off, rfl, hg, hKS⟩ := HK.out (by omega)
      have x1 : wr.cell? ⟨g, off + k, none⟩ = some (atF l k).tcell := by rw [HU.out.bel.cell (p := ⟨g, off + k, none⟩) hg]; exact hKS k hlt
      have hV := (HL.out.each (atF l k) (by rw [atF_eq hlt]; exact List.getElem_mem hlt)).1.vs
      obtain ⟨ta, tc, hte, ht1, ht2, htk⟩ := hV.form
      have hts := HS.out (atF l k) (by rw [atF_eq hlt]; exact List.getElem_mem hlt)
      rw [show (atF l k).tcell = .slice ta (atF l k).vs.length tc from hte] at x1
      have htake : Hid ((l.take (k + 1)).map XF.vs = (l.take k).map XF.vs ++ [(atF l k).vs]) := by
        show _ = _
        rw [List.take_succ_eq_append_getElem hlt, atF_eq hlt, List.map_append]
        rfl
      generalize (atF l k).vs = t at x1 hV ht1 ht2 htk hts htake
      have HU1 : Hid (Uc w wr ((l.take k).map XF.vs ++ [t.take 0]) sa sc s out) := ⟨HU.out.bel, HU.out.own, HU.out.map, HU.out.cols.tuple⟩
      clear hKS hte
      have HV := Lib.hid hV
      have HTK := Lib.hid htk
      clear hV htk ht2 HU
      go_wp2
      go_loopw [4, 21] (fun sv j wr => ∃ (i : Nat) (sa : Option Addr) (sc : Nat) (s : List (Nat × V)) (out : List Nat), i ≤ t.length ∧ j = .int .i64 i ∧ sv = .slice sa out.length sc ∧ Hid (Uc w wr ((l.take k).map XF.vs ++ [t.take i]) sa sc s out) ∧ out.length ≤ 1048576) (fun _ j _ => t.length - (intOf j).toNat)
      case atStart => exact ⟨0, sa, sc, s, out, Nat.zero_le _, rfl, rfl, HU1, hol⟩
      case round =>
        clear HU1 x1
        obtain ⟨i, sa, sc, s, out, hi, rfl, rfl, HU, hol⟩ := hrel
        by_cases hlti : i < t.length
        · have hlti' : (i : Int) < (t.length : Int) := by omega
          obtain ⟨g', off', rfl, hg', hat⟩ := HTK.out (by omega)
          have bel := HU.out.bel
          have y0 : wr.cell? ⟨g', off' + i * 3, none⟩ = some (.int .i8 (atV t i).k) := by rw [bel.cell (p := ⟨g', _, none⟩) hg']; exact (hat i hlti).c0
          have y1 : wr.cell? ⟨g', off' + i * 3 + 1, none⟩ = some (.int .i64 (atV t i).n) := by rw [bel.cell (p := ⟨g', _, none⟩) hg']; exact (hat i hlti).c1
          have y2 : wr.cell? ⟨g', off' + i * 3 + 2, none⟩ = some (.string (atV t i).s) := by rw [bel.cell (p := ⟨g', _, none⟩) hg']; exact (hat i hlti).c2
          have hw := HV.out.wf (atV t i) (by rw [atV_eq hlti]; exact List.getElem_mem hlti)
          have HTi : Hid (t.take (i + 1) = t.take i ++ [atV t i]) := by show _ = _; exact take_one (by rw [atV_eq hlti]; exact List.getElem?_eq_getElem hlti)
          have hpl : (t.take i).length = i := by rw [List.length_take]; omega
          have hle := HU.out.cols.le
          rw [hpl] at hle
          have HPL := Lib.hid hpl
          have hko : bOk (i, atV t i) := ⟨by show i ≤ _; omega, hw⟩
          have hmem : Hid ((i, atV t i) ∈ s ∨ (i, atV t i) ∉ s) := by show _ ∨ _; exact Decidable.em _
          generalize hvv : atV t i = vv at y0 y1 y2 HTi hko hmem
          obtain ⟨kk, nn, ss⟩ := vv
          simp only at y0 y1 y2
          have HKO := Lib.hid hko
          have b1 := belowA (w := wr) (.cells #[.int .i8 kk, .int .i64 nn, .string ss] 55)
          have HU1 := Lib.hid (HU.out.keep b1)
          clear hat hw hvv hpl hg hg' bel hko b1
          by_cases hio : i = out.length
          · -- a column more
            obtain rfl : i = out.length := hio
            have hio' : ((out.length : Int) == (out.length : Int)) = true := by simp
            have hhm := HU1.out.cols.room (v := (⟨kk, nn, ss⟩ : V)) HPL.out
            rw [HPL.out] at hhm
            obtain ⟨hm, hcol⟩ := hhm
            have own1 := HU1.out.own
            have hz1' := HU1.out.bel.size
            obtain ⟨v', w3, hrun, hown', hgrow, hnilx, hloc⟩ := run_append_own_at (P := Tryz.prog) ((wr.alloc (.cells #[.int .i8 kk, .int .i64 nn, .string ss] 55)).alloc (.cells #[.int .i64 0] 3)) (w.heap.size + 1) 34 34 3 i0 _ 1 8 Tryz.underlying34 hi0 hz0 hz1 hz2 rfl (by decide) _ _ _ (own_below own1 (belowA _)) ⟨_, 0, none⟩ 1 1 [.int .i64 0] rfl (lit_news _ #[.int .i64 0] _) (by simp [Value.oneCell']) (by unfold maxLen; omega) (by omega) (by have h1 := HU.out.bel.size; have h2 := HU1.out.map.blt; simp at h2 ⊢; omega)
            rw [World.size_alloc] at hrun
            clear hnilx
            obtain ⟨g3, c3, rfl⟩ : ∃ g3 c3, v' = .slice (some ⟨g3, 0, none⟩) (out.length + 1) c3 := by
              rcases hown'.2 with ⟨_, h0⟩ | ⟨g3, c3, cur, e, _⟩
              · omega
              · exact ⟨g3, c3, e⟩
            have hown3 : w3.ownsRow (w.heap.size + 1) 3 1 (.slice (some ⟨g3, 0, none⟩) (out ++ [0]).length c3) (out ++ [0]).length ((out ++ [0]).map iC) := by
              have e9 : (out ++ [(0 : Nat)]).length = out.length + 1 := by simp
              rw [e9, List.map_append]
              exact hown'
            have hA := belowA (w := wr.alloc (.cells #[.int .i8 kk, .int .i64 nn, .string ss] 55)) (.cells #[.int .i64 0] 3)
            have bel3 : Below w.heap.size w w3 := (HU1.out.bel.trans (hA.mono HU1.out.bel.size)).grown hgrow (by have := HU1.out.bel.size; simp at this ⊢; omega) (fun j hj => by have := (own1.lt j hj).1; omega)
            have hB3 : MapG bV bOk w3 w.heap.size (entU s) := (HU1.out.map.below hA).of_block (hgrow.block _ (HU1.out.map.below hA).blt (fun e => by have := (own1.lt _ e.symm).1; omega))
            have hrl3 : RL w3 wr.heap.size 55 [.int .i8 kk, .int .i64 nn, .string ss] := World.rowIs.of_block ((rl_new wr #[.int .i8 kk, .int .i64 nn, .string ss] 55).below hA) (hgrow.block _ (by simp only [World.size_alloc]; omega) (fun e => by have := (HU.out.own.lt _ e.symm).2; omega))
            have e0 := hrl3.at (j := 0) rfl
            have e1 := hrl3.at (j := 1) rfl
            have e2 := hrl3.at (j := 2) rfl
            have b4 := belowA (w := w3) (.cells #[.int .i64 out.length, .int .i8 kk, .int .i64 nn, .string ss] 69)
            have b5 := belowA (w := w3.alloc (.cells #[.int .i64 out.length, .int .i8 kk, .int .i64 nn, .string ss] 69)) (.cells #[] 71)
            have hlook := MapG.look_no mkS (hB3.below b4) HKO.out (by rw [entU_fst]; exact hm) true
            obtain ⟨w6, hput, hB6, ht6⟩ := MapG.put mkS ((hB3.below b4).below b5) HKO.out (by rw [entU_fst]; exact hm) (.agg #[])
            simp only [bV, if_true] at hlook hput
            obtain ⟨z0, z1, z2, hU6, hl6⟩ := Uc.new (w0 := w) (w3 := w6) (out := out ++ [0]) (out' := out ++ [1]) (d := 0) HPL.out ((bel3.trans (b4.mono bel3.size)).trans (b5.mono ((bel3.trans (b4.mono bel3.size)).size))) (own_below (own_below hown3 b4) b5) (by simp) hB6 ht6 hcol (by simp)
            rw [show (((0 : Nat) : Int) + 1) = 1 from rfl] at hU6
            rw [show (((0 : Nat) : Int)) = 0 from rfl] at z0
            have HU6 := Lib.hid hU6
            have hlo : (out.length : Int) < (out.length : Int) + 1 := by omega
            clear hm hcol own1 hgrow hloc hown' hown3 hA bel3 hB3 b4 b5 hB6 ht6 hU6 hl6 HU HU1 HKO hmem hrl3
            go_wp2
            go_roundw
            case rel =>
              refine ⟨out.length + 1, some ⟨g3, 0, none⟩, c3, s ++ [(out.length, ⟨kk, nn, ss⟩)], out ++ [1], by omega, by go_num, by simp, Lib.hid ?_, by simp; omega⟩
              rw [HTi.out]
              exact HU6.out
            case measure => simp [intOf]; omega
          · have hlo : i < out.length := by omega
            have hlo' : (i : Int) < (out.length : Int) := by omega
            have hio' : ((i : Int) == (out.length : Int)) = false := by simp; omega
            have b2 := belowA (w := wr.alloc (.cells #[.int .i8 kk, .int .i64 nn, .string ss] 55)) (.cells #[.int .i64 i, .int .i8 kk, .int .i64 nn, .string ss] 69)
            have b3 := belowA (w := (wr.alloc (.cells #[.int .i8 kk, .int .i64 nn, .string ss] 55)).alloc (.cells #[.int .i64 i, .int .i8 kk, .int .i64 nn, .string ss] 69)) (.cells #[] 71)
            rcases hmem.out with hm | hm
            · obtain ⟨j, hj⟩ := List.getElem?_of_mem hm
              have hlook := MapG.look_yes mkS (HU1.out.map.below b2) (entU_at hj) true
              simp only [bV, if_true] at hlook
              have HU3 := Lib.hid (((HU1.out.keep b2).keep b3).old (v := (⟨kk, nn, ss⟩ : V)) (by rw [HPL.out]; exact hlo) (by rw [HPL.out]; exact hm))
              clear hm hj b2 b3 HU HU1 HKO hio hmem
              go_wp2
              go_roundw
              case rel =>
                refine ⟨i + 1, sa, sc, s, out, by omega, by go_num, rfl, Lib.hid ?_, hol⟩
                rw [HTi.out]
                exact HU3.out
              case measure => simp [intOf]; omega
            · obtain ⟨d, hd⟩ : ∃ d, out[i]? = some d := ⟨_, List.getElem?_eq_getElem hlo⟩
              have hdb := HU1.out.cols.bound hd
              have hdb : (d : Int) ≤ 1048577 := by
                simp at hdb
                omega
              have hd0 : (0 : Int) ≤ (d : Int) := by omega
              have hlook := MapG.look_no mkS (HU1.out.map.below b2) HKO.out (by rw [entU_fst]; exact hm) true
              obtain ⟨w6, hput, hB6, ht6⟩ := MapG.put mkS ((HU1.out.map.below b2).below b3) HKO.out (by rw [entU_fst]; exact hm) (.agg #[])
              simp only [bV, if_true] at hlook hput
              have own1 := HU1.out.own
              obtain ⟨g3, rfl⟩ : ∃ g3, sa = some ⟨g3, 0, none⟩ := by
                rcases own1.2 with ⟨_, h0⟩ | ⟨g3, c3, cur, e, _⟩
                · omega
                · cases e
                  exact ⟨_, rfl⟩
              have bel1 := HU1.out.bel
              obtain ⟨z0, z1, z2, hU6, hl6⟩ := Uc.new (w0 := w) (w3 := w6) (out := out) (out' := out.set i (d + 1)) (d := d) HPL.out ((bel1.trans (b2.mono bel1.size)).trans (b3.mono ((bel1.trans (b2.mono bel1.size)).size))) (own_below (own_below own1 b2) b3) hd hB6 ht6 (by
                have := HU1.out.cols.new (v := (⟨kk, nn, ss⟩ : V)) (d := d) (by rw [HPL.out]; exact hd) (by rw [HPL.out]; exact hm)
                rw [HPL.out] at this
                exact this) rfl
              have HU6 := Lib.hid hU6
              clear hm own1 b2 b3 hB6 ht6 hU6 HU HU1 HKO hio hmem bel1 hd
              have hl6' : (out.set i (d + 1)).length = out.length := hl6
              go_wp2
              go_roundw
              case rel =>
                refine ⟨i + 1, some ⟨g3, 0, none⟩, sc, s ++ [(i, ⟨kk, nn, ss⟩)], out.set i (d + 1), by omega, by go_num, by rw [hl6'], Lib.hid ?_, by rw [hl6']; exact hol⟩
                rw [HTi.out]
                exact HU6.out
              case measure => simp [intOf]; omega
        · obtain rfl : i = t.length := by omega
          have HU2 : Hid (Uc w wr ((l.take (k + 1)).map XF.vs) sa sc s out) := by
            have := HU.out
            rw [List.take_length] at this
            rw [htake.out]
            exact this
          clear HU HTK
          go_wp2
          go_roundw
          case rel => exact ⟨k + 1, sa, sc, s, out, by omega, by go_num, rfl, HU2, hol⟩
          case measure => simp [intOf]; omega
    · obtain rfl : k = l.length := by omega
      have HU2 : Hid (Uc w wr (l.map XF.vs) sa sc s out) := by
        have := HU.out
        rw [List.take_length] at this
        exact this
      clear HU
      go_wp2
      go_ret
      exact ⟨sa, sc, s, out, rfl, HU2.out⟩
end Go.Proofs.YtoppgalbmijhdaaGreatDoor
