import Derived.Test.YtoppgalbmijhdaaGreatDoorEsGr
import Derived.Test.YtoppgalbmijhdaaGreatDoorIter
namespace Go.Proofs.YtoppgalbmijhdaaGreatDoor
open Go.RowKit Go.Maps Go.ChangeMaps
set_option linter.unusedVariables false
set_option linter.unusedSimpArgs false
attribute [local go_sem ↓] Go.wp_at_zero Go.wp_at_succ
attribute [-go_sem] Builtin.append_

/-! Sizes -/
structure ZS where
  pr : ByteArray
  n : Nat
  ds : List Nat
  a : Option Addr
  c : Nat
def ZS.sz (z : ZS) : Sz := ⟨z.pr, z.n, z.ds⟩
def ZS.cells (z : ZS) : List Value := [.string z.pr, .int .i64 (z.n : Nat), .slice z.a z.ds.length z.c]
/-- sizes in memory of a call's own, which grow -/
structure Zg (B : Nat) (wr : World) (sa : Option Addr) (sc : Nat) (zs : List ZS) : Prop where
  own : wr.ownsRow B 36 3 (.slice sa zs.length sc) zs.length (zs.flatMap ZS.cells)
  ds : ∀ z ∈ zs, wr.ownsRow B 3 1 (.slice z.a z.ds.length z.c) z.ds.length (z.ds.map iC) ∧ ∀ k, blkA z.a = some k → blkA sa ≠ some k
theorem Zg.keep {B : Nat} {wr w' : World} {sa : Option Addr} {sc : Nat} {zs : List ZS} (h : Zg B wr sa sc zs) (hb : Below wr.heap.size wr w') : Zg B w' sa sc zs :=
  ⟨own_below h.own hb, fun z hz => ⟨own_below (h.ds z hz).1 hb, (h.ds z hz).2⟩⟩
def bN (x : List UInt8) : ByteArray := ⟨x.toArray⟩
theorem bN_of (p : ByteArray) : bN p.data.toList = p := by
  unfold bN
  rw [Array.toArray_toList]
/-- the tuples of a name, as a list that can be read -/
theorem Gs.lu {w0 wr : World} {v : Value} {ls : List XF} {gs : List Gp} (h : Gs w0 wr ls gs) (hL : Lf w0 v ls) {g : Gp} (hg : g ∈ gs) : Lu wr (g.sv ls) (tupsOf g.p ls) := by
  have ho := ls_own (h.own g hg)
  rw [← tcells_map] at ho
  refine ⟨ho, fun y hy => ?_⟩
  obtain ⟨x, hx, rfl⟩ := tups_mem hy
  obtain ⟨i, hi, rfl⟩ := List.getElem_of_mem hx
  have h1 := (hL.each i hi).below h.bel
  rw [atF_eq hi] at h1
  exact ⟨⟨by show noS.size ≤ maxLen; decide, h1.ln, h1.vs⟩, rfl⟩
theorem Zg.start (B : Nat) (w : World) : Zg B w none 0 [] := ⟨World.ownsRow_nil _ _ _ _, fun z hz => absurd hz (by simp)⟩
/-- one more: its counts were laid since U -/
theorem Zg.step {B : Nat} {U w2 w3 : World} {sa : Option Addr} {sc : Nat} {zs : List ZS} (h : Zg B U sa sc zs) (hB : B ≤ U.heap.size) (b2 : Below U.heap.size U w2) (z : ZS) (hz : w2.ownsRow U.heap.size 3 1 (.slice z.a z.ds.length z.c) z.ds.length (z.ds.map iC)) {o : Obj} {v' : Value}
    (hown' : w3.ownsRow B 36 3 v' (zs.length + 1) (zs.flatMap ZS.cells ++ z.cells)) (hgrow : (w2.alloc o).grownBy w3 (Value.slice sa zs.length sc).ownBlock) (hloc : v'.ownBlock = (Value.slice sa zs.length sc).ownBlock ∨ v'.ownBlock = some (w2.alloc o).heap.size) :
    ∃ a2 c2, v' = .slice a2 (zs.length + 1) c2 ∧ Zg B w3 a2 c2 (zs ++ [z]) ∧ ∀ {W : World}, Below B W U → Below B W w3 := by
  obtain ⟨a2, c2, rfl, _⟩ := own_form hown'
  have hA := belowA (w := w2) o
  have hb2 := b2.trans (hA.mono b2.size)
  rw [own_blk] at hgrow
  rw [own_blk, own_blk] at hloc
  have hlt : ∀ k, blkA sa = some k → B ≤ k ∧ k < U.heap.size := fun k hk => h.own.lt k (by rw [own_blk]; exact hk)
  have hs3 := hgrow.size
  have hs2 := b2.size
  have hsz : w2.heap.size + 1 = (w2.alloc o).heap.size := by simp
  have hl1 : (zs ++ [z]).length = zs.length + 1 := by simp
  have hnew : ∀ k, blkA a2 = some k → blkA sa = some k ∨ k = w2.heap.size + 1 := fun k hk => by
    rcases hloc with e | e
    · rw [e] at hk; exact .inl hk
    · rw [e] at hk; right; have := Option.some.inj hk; omega
  refine ⟨a2, c2, rfl, ⟨by rw [hl1, List.flatMap_append]; simpa using hown', fun y hy => ?_⟩, fun hW => ?_⟩
  · rcases List.mem_append.1 hy with hy | hy
    · obtain ⟨o1, o2⟩ := h.ds y hy
      refine ⟨own_of_block o1 (fun k hk => ?_), fun k hk e => ?_⟩
      · have hkb := o1.lt k hk
        rw [own_blk] at hk
        rw [hgrow.block k (by omega) (fun e => o2 k hk e.symm), hb2.block k hkb.2]
      · have hkb := (o1.lt k (by rw [own_blk]; exact hk)).2
        rcases hnew k e with e | e
        · exact o2 k hk e
        · omega
    · obtain rfl := List.mem_singleton.1 hy
      refine ⟨own_lower (own_of_block hz (fun k hk => ?_)) hB, fun k hk e => ?_⟩
      · have hkb := hz.lt k hk
        rw [hgrow.block k (by omega) (fun e => by have := (hlt k e.symm).2; omega), hA.block k hkb.2]
      · have hkb := hz.lt k (by rw [own_blk]; exact hk)
        rcases hnew k e with e | e
        · have := (hlt k e).2; omega
        · omega
  · exact (hW.trans (hb2.mono hB)).grown hgrow (by omega) (fun k hk => (hlt k hk).1)
/-- the keys of a map of names, for the sort -/
theorem MapG.owns {w : World} {b : Nat} {s : List (ByteArray × Value)} (h : MapG sV' sOk w b s) (hs : s.length ≤ maxLen) :
    ∃ D : DataW Unit, w.ownsMap Tryz.prog 9 (fun _ => some (.lit (.bool true), [])) b s.length D ∧ Maps.size D ≤ s.length ∧ (strKeys D).Perm (s.map (fun p => p.1.data.toList)) := by
  obtain ⟨ps, clock, h⟩ := h
  have hlen : ps.length = s.length := by rw [← h.is, List.length_map]
  have hko : ∀ x ∈ ps, keyOf Tryz.prog 9 (.string x.1.1) = some (.string x.1.1.data.toList) := fun x hx => keyOf_st _ (h.ok x.1 (by rw [← h.is]; exact List.mem_map_of_mem hx))
  have hrd : ∀ x ∈ ps, WideElems.rd Tryz.prog 9 (fun _ => some ((.lit (.bool true) : DataW Unit), [])) (entG sV' x) = some (.string x.1.1.data.toList, .lit (.bool true)) := fun x hx => by
    show (keyOf Tryz.prog 9 (.string x.1.1)).bind _ = _
    rw [hko x hx]
    exact Option.bind_some _ _
  have hrg : (ps.map (entG sV')).map (WideElems.rg Tryz.prog 9 (fun _ => some ((.lit (.bool true) : DataW Unit), []))) = ps.map (fun x => ((.string x.1.1.data.toList : Lit), (.lit (.bool true) : DataW Unit))) := by
    rw [List.map_map]
    refine List.map_congr_left (fun x hx => ?_)
    rw [Function.comp_apply, WideElems.rg, hrd x hx, Option.getD_some]
  refine ⟨.map (((ps.map (entG sV')).toArray.toList.map (WideElems.rg Tryz.prog 9 (fun _ => some ((.lit (.bool true) : DataW Unit), [])))).foldr DataW.insert []), ⟨_, clock, h.at_, ⟨?_, ⟨?_, ?_, ?_⟩, ?_⟩, ?_, rfl⟩, ?_, ?_⟩
  · simp only [List.size_toArray, List.length_map]
    omega
  · intro e he
    obtain ⟨x, hx, rfl⟩ := List.mem_map.1 (by rw [List.toList_toArray] at he; exact he)
    exact h.lt x hx
  · simp only [List.toList_toArray, List.map_map]
    exact h.nd
  · simp only [List.toList_toArray, List.map_map]
    have := h.kd
    rw [← h.is, List.map_map] at this
    rw [List.Nodup, List.pairwise_map] at *
    exact this.imp (fun {a b} hab e => hab (mkT.inj _ _ e))
  · intro e he
    obtain ⟨x, hx, rfl⟩ := List.mem_map.1 (by rw [List.toList_toArray] at he; exact he)
    exact ⟨_, hrd x hx⟩
  · simp only [List.size_toArray, List.length_map]
    omega
  · show (List.foldr DataW.insert [] _).length ≤ _
    rw [(WideShapes.sorted_perm _).length_eq]
    simp only [List.toList_toArray, List.length_map]
    omega
  · show (List.map _ (List.foldr DataW.insert [] _)).Perm _
    refine ((WideShapes.sorted_perm _).map _).trans ?_
    rw [List.toList_toArray, hrg, List.map_map, ← h.is, List.map_map]
    exact List.Perm.refl _
theorem take_fact {l : List XF} {k : Nat} (h : k < l.length) : l.take (k + 1) = l.take k ++ [atF l k] := by rw [List.take_succ_eq_append_getElem h, atF_eq h]
theorem infoSz : (Tryz.prog.info? 36).map (fun i => (i.zero, i.size, i.bytes)) = some (some (.agg #[.string ⟨#[]⟩, .int .i64 0, .slice none 0 0]), 3, 48) := by kernel_rfl
theorem load_Sr {u : World} {g o : Nat} {s : ByteArray} (h : u.cell? ⟨g, o, none⟩ = some (.string s)) : (loadVar 9 ⟨g, o, none⟩).run Tryz.prog u = .ok (.string s) u := by go_simp
set_option maxHeartbeats 6400000 in
theorem sizes_any (v : Value) (l : List XF) (w : World) (hL : Lf w v l) (hn : l.length ≤ 1048576) (hsm : ∀ y ∈ l, y.vs.length ≤ 1048576) :
    Calls Tryz.prog 8 #[v] w fun e w' => ∃ sa sc zs, e = .returned (.slice sa zs.length sc) ∧ Below w.heap.size w w' ∧ Zg w.heap.size w' sa sc zs ∧ Szs (l.map XF.key) (zs.map ZS.sz) := by
  obtain ⟨i0, hi0, hz0, hz1, hz2⟩ := info_partsS infoSz
  obtain ⟨a, c, rfl, hc1, hc2, hk⟩ := hL.form
  have HL := Lib.hid hL
  have HK := Lib.hid hk
  have HS := Lib.hid hsm
  clear hL hk hsm hc2
  have m1 := run_mkT w
  have HG0 := Lib.hid (Gs.start w)
  go_enter Tryz.func8, Tryz.ntmps8
  go_wp2
  go_loopw [13] (fun j wr => ∃ (k : Nat) (gs : List Gp), k ≤ l.length ∧ j = .int .i64 k ∧ Hid (Gs w wr (l.take k) gs)) (fun j _ => l.length - (intOf j).toNat)
  case atStart => exact ⟨0, [], Nat.zero_le _, rfl, HG0⟩
  case round =>
    obtain ⟨k, gs, hk, rfl, HG⟩ := hrel
    clear m1 HG0
    by_cases hlt : k < l.length
    · have hlt' : (k : Int) < (l.length : Int) := by omega
      obtain ⟨g, off, rfl, hg, hKS⟩ := HK.out (by omega)
      have x0 : wr.cell? ⟨g, off + k * 2, none⟩ = some (.string (atF l k).pr) := by rw [HG.out.bel.cell (p := ⟨g, _, none⟩) hg]; exact hKS k hlt 0 _ rfl
      have x1 : wr.cell? ⟨g, off + k * 2 + 1, none⟩ = some (.slice (atF l k).a (atF l k).vs.length (atF l k).c) := by rw [HG.out.bel.cell (p := ⟨g, _, none⟩) hg]; exact hKS k hlt 1 _ rfl
      have hyF := HL.out.each k hlt
      have htk := Lib.hid (take_fact hlt)
      have HY : Hid ((atF l k).pr.size ≤ maxLen) := hyF.pb
      generalize hyv : atF l k = y at x0 x1 htk HY
      clear hyF hyv hKS
      have hRX := rl_new wr #[.string y.pr, .slice y.a y.vs.length y.c] 31
      have HRX := Lib.hid hRX
      have hbU := belowA (w := wr) (.cells #[.string y.pr, .slice y.a y.vs.length y.c] 31)
      have HBU := Lib.hid hbU
      have HZU : Hid ((wr.alloc (.cells #[.string y.pr, .slice y.a y.vs.length y.c] 31)).heap.size = wr.heap.size + 1) := by show _ = _; simp
      clear hRX hbU
      go_upto_region 5 with fail
      generalize wr.alloc (.cells #[.string y.pr, .slice y.a y.vs.length y.c] 31) = U at HRX HBU HZU ⊢
      obtain ⟨v, nv, w3, w4, gs', k0, k1, hap, hpu, hgs, hblk, hz3, hz4⟩ := HG.out.step HBU.out y HY.out (by rw [List.length_take]; omega)
      have K0 := Lib.hid k0
      have K1 := Lib.hid k1
      have HAP := Lib.hid hap
      have HPU := Lib.hid hpu
      have HGS := Lib.hid hgs
      have HZZ := Lib.hid (And.intro hz3 hz4)
      have HS0 : Hid (RL U.drew wr.heap.size 31 [.string y.pr, .slice y.a y.vs.length y.c]) := HRX.out.below (Below.refl _ _).drew
      have HS1 : Hid (RL (U.drew.alloc (.cells #[.slice y.a y.vs.length y.c] 29)) wr.heap.size 31 [.string y.pr, .slice y.a y.vs.length y.c]) := HS0.out.below (belowA _)
      have HS3 : Hid (RL w3 wr.heap.size 31 [.string y.pr, .slice y.a y.vs.length y.c]) := World.rowIs.of_block HRX.out (hblk _ (Nat.le_refl _) (by have := HZU.out; omega)).1
      have HS4 : Hid (RL w4 wr.heap.size 31 [.string y.pr, .slice y.a y.vs.length y.c]) := World.rowIs.of_block HRX.out (hblk _ (Nat.le_refl _) (by have := HZU.out; omega)).2
      clear k0 k1 hap hpu hgs hz3 hz4 hblk x0 x1
      refine wp_region_noPanic ?_
      refine wp_region_held (S := fun u => RL u wr.heap.size 31 [.string y.pr, .slice y.a y.vs.length y.c]) (by kernel_rfl) ?_
      refine esr5 (w5 := U) (S := fun u => RL u wr.heap.size 31 [.string y.pr, .slice y.a y.vs.length y.c]) (x := wr.heap.size) (b := w.heap.size) (nm := y.pr) (ta := y.a) (tn := y.vs.length) (tc := y.c) (v := v) (nv := nv) (w3 := w3) (w4 := w4) rfl rfl rfl rfl rfl rfl rfl rfl rfl rfl rfl rfl (by kernel_rfl) (by kernel_rfl) (by kernel_rfl) (by kernel_rfl) (by kernel_rfl) (by kernel_rfl) (by kernel_rfl) (by kernel_rfl) (fun _ _ _ _ _ h => h) (by simp) rfl rfl HS0.out rfl (fun u hu => load_Sr (RL.at hu (j := 0) rfl)) (fun u hu => load_Tup (RL.at hu (j := 1) rfl)) K0.out K1.out HS1.out HAP.out HS3.out HPU.out HS4.out ?_
      rintro wc rfl
      refine NoPanic.normal ?_
      rename_i hK
      refine hK _ _ ?_
      clear HS0 HS1 HS3 HS4 K0 K1 HAP HPU HRX HBU HZU HG hK
      simp (config := { maxSteps := 8000000 }) only [Act.put, List.getElem_toArray, List.getElem_cons_zero, List.getElem_cons_succ, List.setIfInBounds_toArray, List.set_cons_succ, List.set_cons_zero]
      go_wp2
      go_roundw
      case rel => exact ⟨k + 1, gs', by omega, by go_num, Lib.hid (by rw [htk.out]; exact HGS.out)⟩
      case measure => simp [intOf]; omega
    · obtain rfl : k = l.length := by omega
      rw [List.take_length] at HG
      have hgl : gs.length ≤ l.length := by
        have := nodup_sub _ (l.map XF.pr) HG.out.nd (fun p hp => (HG.out.names p).1 hp)
        simpa using this
      obtain ⟨D, hown, hsz, hpk⟩ := HG.out.map.owns (by rw [List.length_map]; unfold maxLen; omega)
      rw [List.length_map] at hsz
      have CK := Lib.hid (callsIn_wide.1 (Tryz.maps_Keys_17 (some w.heap.size) wr))
      have CS := Lib.hid (callsIn_wide.1 (Tryz.slices_Sorted_keys_16_17 w.heap.size _ D _ wr hown (by unfold maxLen; omega) (by omega)))
      have hAl := belowA (w := wr) (.cells #[.map (some w.heap.size)] 40)
      have HAL := Lib.hid hAl
      have HPK := Lib.hid hpk
      clear hown hsz hpk hAl
      go_wp2_with fail
      refine CK.out.mono ?_
      rintro e w1 ⟨rfl, rfl⟩
      go_wp2_with fail
      refine CS.out.mono ?_
      rintro e w2 ⟨sv, ss, rfl, hperm, hrow, hnil, hb2⟩
      have hP : (ss.mergeSort (fun x y => decide (x ≤ y))).Perm (gs.map (fun g => g.p.data.toList)) := ((List.mergeSort_perm ss _).trans (hperm.trans HPK.out)).trans (by rw [List.map_map]; exact List.Perm.refl _)
      have hup : (ss.mergeSort (fun x y => decide (x ≤ y))).Pairwise (· < ·) := sorted_lt ss ((List.mergeSort_perm ss _).nodup_iff.1 (hP.nodup_iff.2 (by
        have := HG.out.nd
        rw [List.Nodup, List.pairwise_map] at *
        exact this.imp (fun {a b} hab e => hab (ByteArray.ext (Array.toList_inj.1 e))))))
      have hsl : ss.length = gs.length := by
        have := hP.length_eq
        rw [List.length_mergeSort, List.length_map] at this
        exact this
      generalize hNS : ss.mergeSort (fun x y => decide (x ≤ y)) = NS at hrow hP hup
      have hbW : Below wr.heap.size wr w2 := HAL.out.trans (hb2.mono HAL.out.size)
      have HBW := Lib.hid hbW
      obtain ⟨na, nc, rfl, _⟩ := own_form hrow
      have hcell : ∀ (i : Nat) (x : List UInt8), NS[i]? = some x → ∃ gn, na = some ⟨gn, 0, none⟩ ∧ gn < w2.heap.size ∧ w2.cell? ⟨gn, i, none⟩ = some (.string (bN x)) := fun i x hx => by
        rcases hrow.2 with ⟨e, h0⟩ | ⟨gn, cap, cur, e, _⟩
        · have := (List.getElem?_eq_some_iff.1 hx).1
          rw [← hNS, List.length_mergeSort] at this
          omega
        · cases e
          obtain ⟨c1, c2, c3, c4⟩ := own_cellI hrow (i := i) (u := .string (bN x)) (by rw [List.getElem?_map, hx]; rfl)
          exact ⟨gn, rfl, c3, c1⟩
      have hNL : NS.length = ss.length := by rw [← hNS, List.length_mergeSort]
      have HCL := Lib.hid hcell
      have HNL := Lib.hid hNL
      have HSL := Lib.hid hsl
      have HP := Lib.hid hP
      have HUP := Lib.hid hup
      have HGW : Hid (∀ u, Below w2.heap.size w2 u → Gs w u l gs) := fun u hu => (HG.out.keep hbW).keep hu
      have HLU : Hid (∀ u, Below w2.heap.size w2 u → ∀ g ∈ gs, Lu u (g.sv l) (tupsOf g.p l)) := fun u hu g hg => ((HG.out.keep hbW).keep hu).lu HL.out hg
      have HSM : Hid (∀ p, (tupsOf p l).length ≤ 1048576 ∧ ∀ y ∈ tupsOf p l, y.vs.length ≤ 1048576) := fun p => ⟨Nat.le_trans (tups_len p l) hn, fun y hy => by
        obtain ⟨x, hx, rfl⟩ := tups_mem hy
        exact HS.out x hx⟩
      have HZ0 := Lib.hid (Zg.start w2.heap.size w2)
      have HB0 := Lib.hid (Below.refl w2.heap.size w2)
      clear hcell hP hup hrow hnil hb2 hbW hperm hNS CK CS hNL hsl
      go_wp2
      go_loopw [6, 33] (fun zv j wz => ∃ (i : Nat) (sa : Option Addr) (sc : Nat) (zs : List ZS), i ≤ ss.length ∧ j = .int .i64 i ∧ zv = .slice sa zs.length sc ∧ Hid (Below w2.heap.size w2 wz) ∧ Hid (Zg w2.heap.size wz sa sc zs) ∧ Hid (zs.length = i) ∧ Hid (zs.map ZS.pr = (NS.take i).map bN) ∧ Hid (∀ z ∈ zs, SzOk (ownT z.pr (l.map XF.key)) z.n z.ds)) (fun _ j _ => ss.length - (intOf j).toNat)
      case atStart => exact ⟨0, none, 0, [], Nat.zero_le _, rfl, rfl, HB0, HZ0, Lib.hid rfl, Lib.hid rfl, Lib.hid (fun z hz => absurd hz (by simp))⟩
      case round =>
        clear HB0 HZ0
        obtain ⟨i, sa, sc, zs, hi, rfl, rfl, HB, HZ, HZL, HPR, HOK⟩ := hrel
        by_cases hlti : i < ss.length
        · have hlti' : (i : Int) < (ss.length : Int) := by omega
          obtain ⟨x, hx⟩ : ∃ x, NS[i]? = some x := ⟨NS[i]'(by rw [HNL.out]; exact hlti), List.getElem?_eq_getElem _⟩
          obtain ⟨gn, hgn, hg1, hg2⟩ := HCL.out i x hx
          subst hgn
          have x0 : wr.cell? ⟨gn, i, none⟩ = some (.string (bN x)) := by rw [HB.out.cell (p := ⟨gn, i, none⟩) hg1]; exact hg2
          have hpm : bN x ∈ gs.map Gp.p := by
            have := HP.out.mem_iff.1 (List.mem_of_getElem? hx)
            obtain ⟨g, hg, e⟩ := List.mem_map.1 this
            rw [← e, bN_of]
            exact List.mem_map_of_mem hg
          obtain ⟨g, hgm, hgp⟩ := List.mem_map.1 hpm
          obtain ⟨q, hq⟩ := List.getElem?_of_mem hgm
          have hGw := HGW.out wr HB.out
          have hlook := MapG.look_yes mkT hGw.map (show (gs.map (fun g => (g.p, g.sv l)))[q]? = some (bN x, g.sv l) by rw [List.getElem?_map, hq, ← hgp]; rfl) false
          simp only [sV', Bool.false_eq_true, if_false] at hlook
          have HT1 := Lib.hid (unlikeT_any _ _ wr (HLU.out wr HB.out g hgm) (HSM.out g.p).1 (HSM.out g.p).2)
          have HX := Lib.hid hx
          have HGM := Lib.hid (And.intro hgm hgp)
          generalize hsvv : g.sv l = gv at hlook HT1
          have HSV := Lib.hid hsvv
          clear hsvv hpm hq hGw hx hgm hgp hg1 hg2
          go_wp2_with fail
          refine HT1.out.mono ?_
          rintro e w5 ⟨n, rfl, hcnt, b5⟩
          have HB5 := Lib.hid (HB.out.trans (b5.mono HB.out.size))
          have HC1 := Lib.hid (unlikeC_any gv (tupsOf g.p l) w5 (by have := HLU.out w5 HB5.out g HGM.out.1; rw [HSV.out] at this; exact this) (HSM.out g.p).1 (HSM.out g.p).2)
          have HCN := Lib.hid hcnt
          have HZ5 := Lib.hid (HZ.out.keep b5)
          clear hcnt b5 HT1
          go_wp2_with fail
          refine HC1.out.mono ?_
          rintro e w6 ⟨ta, tc, s2, out, rfl, hUc⟩
          have hzlen : zs.length ≤ 1048576 := by have h1 := HZL.out; have h2 := HSL.out; omega
          have hss : ss.length ≤ 1048576 := by have h2 := HSL.out; omega
          have hB2 : w2.heap.size ≤ w5.heap.size := HB5.out.size
          have hoZ := own_below (own_below HZ5.out.own hUc.bel) (belowA (w := w6) (.cells #[.string (bN x), .int .i64 (n : Nat), .slice ta out.length tc] 36))
          obtain ⟨v', w7, hrun, hown', hgrow, hnilx, hloc⟩ := run_append_own_at (P := Tryz.prog) (w6.alloc (.cells #[.string (bN x), .int .i64 (n : Nat), .slice ta out.length tc] 36)) w2.heap.size 24 24 36 i0 _ 3 48 Tryz.underlying24 hi0 hz0 hz1 hz2 rfl (by decide) _ _ _ hoZ ⟨_, 0, none⟩ 1 1 [.string (bN x), .int .i64 (n : Nat), .slice ta out.length tc] rfl (lit_news w6 #[.string (bN x), .int .i64 (n : Nat), .slice ta out.length tc] _) (by simp [Value.oneCell']) (by unfold maxLen; omega) (by omega) (by have h1 := hUc.bel.size; simp; omega)
          obtain ⟨a7, c7, rfl, hst, hbl⟩ := HZ5.out.step hB2 hUc.bel ⟨bN x, n, out, ta, tc⟩ (own_lower hUc.own (Nat.le_succ _)) hown' hgrow hloc
          have HST := Lib.hid hst
          have HB7 := Lib.hid (hbl HB5.out)
          have HOKn : Hid (SzOk (ownT (bN x) (l.map XF.key)) n out) := by
            have h1 := hUc.cols.ok HCN.out
            rw [tups_vs, HGM.out.2] at h1
            exact h1
          have HLn : Hid ((zs ++ [(⟨bN x, n, out, ta, tc⟩ : ZS)]).length = zs.length + 1) := by show _ = _; simp
          clear hoZ hown' hgrow hnilx hloc hst hbl hUc HC1 HZ5 HCN HZ HB HB5
          go_wp2
          go_roundw
          case rel =>
            refine ⟨i + 1, a7, c7, zs ++ [⟨bN x, n, out, ta, tc⟩], by omega, by go_num, by rw [HLn.out], HB7, HST, Lib.hid (by rw [HLn.out, HZL.out]), Lib.hid ?_, Lib.hid ?_⟩
            · rw [List.take_add_one, HX.out, List.map_append, List.map_append, HPR.out]
              rfl
            · intro z hz
              rcases List.mem_append.1 hz with hz | hz
              · exact HOK.out z hz
              · rw [List.mem_singleton.1 hz]
                exact HOKn.out
          case measure => simp [intOf]; omega
        · obtain rfl : i = ss.length := by omega
          have HFIN : Hid (Below w.heap.size w wr ∧ Zg w.heap.size wr sa sc zs ∧ Szs (l.map XF.key) (zs.map ZS.sz)) := by
            have hw2 : w.heap.size ≤ w2.heap.size := (HG.out.keep HBW.out).bel.size
            have hpr : (zs.map ZS.sz).map Sz.pr = NS.map bN := by
              rw [List.map_map]
              have := HPR.out
              rw [← HNL.out, List.take_length] at this
              exact this
            refine ⟨((HG.out.keep HBW.out).keep HB.out).bel, ⟨own_lower HZ.out.own hw2, fun z hz => ⟨own_lower (HZ.out.ds z hz).1 hw2, (HZ.out.ds z hz).2⟩⟩, ⟨?_, fun p => ?_, fun z hz => ?_⟩⟩
            · rw [hpr, List.pairwise_map]
              refine HUP.out.imp (fun {a b} hab => ?_)
              show (bN a).data.toList < (bN b).data.toList
              simpa [bN] using hab
            · rw [hpr, List.mem_map]
              constructor
              · rintro ⟨x, hx, rfl⟩
                obtain ⟨g, hg, e⟩ := List.mem_map.1 (HP.out.mem_iff.1 hx)
                have h1 := (HG.out.names g.p).1 (List.mem_map_of_mem hg)
                obtain ⟨y, hy, e2⟩ := List.mem_map.1 h1
                refine ⟨y.vs, ?_⟩
                rw [← e, bN_of, ← e2]
                exact List.mem_map_of_mem hy
              · rintro ⟨t, ht⟩
                obtain ⟨y, hy, e⟩ := List.mem_map.1 ht
                have e1 : y.pr = p := congrArg Prod.fst e
                have h1 := (HG.out.names p).2 (e1 ▸ List.mem_map_of_mem hy)
                obtain ⟨g, hg, e2⟩ := List.mem_map.1 h1
                exact ⟨g.p.data.toList, HP.out.mem_iff.2 (List.mem_map_of_mem hg), by rw [bN_of, e2]⟩
            · obtain ⟨y, hy, rfl⟩ := List.mem_map.1 hz
              exact HOK.out y hy
          clear HB HZ HPR HOK HP HUP HG HCL HGW HLU HSM HBW HZL HNL HSL
          go_wp2
          go_ret
          exact ⟨sa, sc, zs, rfl, HFIN.out⟩
end Go.Proofs.YtoppgalbmijhdaaGreatDoor
