import Derived.Test.YtoagnkbmeafmoaaGreatDoorSoRefTs
namespace Go.Proofs.YtoagnkbmeafmoaaGreatDoor
open Go.RowKit Go.Maps
set_option linter.unusedVariables false
set_option linter.unusedSimpArgs false
attribute [local go_sem ↓] Go.wp_at_zero Go.wp_at_succ

theorem infoTS : (Tryz.prog.info? 26).map (·.size) = some 1 := by kernel_rfl
theorem load_Tup {u : World} {g o : Nat} {a : Option Addr} {n c : Nat} (h : u.cell? ⟨g, o, none⟩ = some (.slice a n c)) : (loadVar 26 ⟨g, o, none⟩).run Tryz.prog u = .ok (.slice a n c) u := by go_simp
theorem store_Tup {u : World} {b o : Nat} {a : Option Addr} {n c : Nat} (h : u.there b o 1) : (storeVar 26 ⟨b, o, none⟩ (.slice a n c)).run Tryz.prog u = .ok () (u.setCells b o [.slice a n c]) := by
  have := run_storeCells_cells (P := Tryz.prog) b o [.slice a n c] 0 u (fun j hj => by simpa using (h j (by simpa using hj)).1) (fun j hj => by simpa using (h j (by simpa using hj)).2) (fun v hv => by simp at hv; subst hv; rfl)
  have hi := infoTS
  cases hq : Tryz.prog.info? 26 with
  | none => simp [hq] at hi
  | some i =>
    have hs : i.size = 1 := by simpa [hq] using hi
    simp only [Nat.add_zero] at this
    simp [storeVar, sizeOf, typeInfo, hq, Value.cells, hs, this]
theorem run_make_Tup (n : Nat) (hn : n ≤ 1048576) (w : World) :
    (Instr.makeSlice 25 (.int .i64 ((n : Int) + 1)) (.int .i64 ((n : Int) + 1))).run Tryz.prog w = .ok (.slice (some ⟨w.heap.size, 0, none⟩) (n + 1) (n + 1)) (w.alloc (.cells (madeCells #[.slice none 0 0] ((n + 1) * 1)) 26)) := by
  obtain ⟨i, hi, h1, h2, h3⟩ := info_partsS infoTs
  have := run_make (P := Tryz.prog) w 25 26 i _ Tryz.underlying25 hi h1 .i64 .i64 ((n : Int) + 1) ((n : Int) + 1) (by omega) (Int.le_refl _) (by rw [h3]; omega) (by omega)
  rw [this, h2, show ((n : Int) + 1).toNat = n + 1 by omega]
  rfl
def mkV : List Value := [.int .i8 99, .int .i64 777777, .string ⟨#[]⟩]
/-- a copy of a list of tuples, with a mark behind it -/
structure TwU (w : World) (lo : Nat) (l : List XF) (a : Option Addr) (c : Nat) : Prop where
  cap : c = l.length + 1
  own : w.ownsRow lo 26 1 (.slice a l.length c) l.length (l.flatMap XF.tcells)
  dj : ∀ g, a = some ⟨g, 0, none⟩ → ∀ i, i < l.length → TwF w (g + 1) (atF l i)
  nd : ∀ i j, i < j → j < l.length → ApX (atF l i) (atF l j)
  lies : ∃ g m, a = some ⟨g, 0, none⟩ ∧ g < w.heap.size ∧ m < w.heap.size ∧ w.rangeAt m 0 mkV ∧ w.cell? ⟨g, l.length, none⟩ = some (.slice (some ⟨m, 0, none⟩) 1 1) ∧ ∀ i, i < l.length → w.cell? ⟨g, i, none⟩ = some (atF l i).tcell
  each : ∀ i, i < l.length → TwF w lo (atF l i)
theorem TwU.below {w w' : World} {lo : Nat} {l : List XF} {a : Option Addr} {c : Nat} (h : TwU w lo l a c) (b : Below w.heap.size w w') : TwU w' lo l a c := by
  obtain ⟨h1, ho, hd, hn, ⟨g, m, h2, h3, h4, h5, h6, h7⟩, h8⟩ := h
  exact ⟨h1, own_below ho b, fun g' hg i hi => (hd g' hg i hi).below b, hn, ⟨g, m, h2, Nat.lt_of_lt_of_le h3 b.size, Nat.lt_of_lt_of_le h4 b.size, range_below h5 b h4, by rw [b.cell (p := ⟨g, l.length, none⟩) h3]; exact h6, fun i hi => by rw [b.cell (p := ⟨g, i, none⟩) h3]; exact h7 i hi⟩, fun i hi => (h8 i hi).below b⟩
set_option maxHeartbeats 1600000 in
theorem markT_any (w : World) : Calls Tryz.prog 28 #[.int .i64 777777] w fun e w' => ∃ m, e = .returned (.slice (some ⟨m, 0, none⟩) 1 1) ∧ Below w.heap.size w w' ∧ m < w'.heap.size ∧ w.heap.size ≤ m ∧ w'.rangeAt m 0 mkV := by
  go_enter Tryz.func28, Tryz.ntmps28
  go_wp2
  go_ret
  exact ⟨_, rfl, belowA _, by simp, Nat.le_refl _, (rl_new w #[.int .i8 99, .int .i64 777777, .string ⟨#[]⟩] _).range⟩
set_option maxHeartbeats 1600000 in
theorem isMarkT_any (w : World) (m : Nat) (h : w.rangeAt m 0 mkV) : Calls Tryz.prog 203 #[.slice (some ⟨m, 0, none⟩) 1 1, .int .i64 777777] w fun e w' => e = .returned (.bool true) ∧ Below w.heap.size w w' := by
  have y0 : w.cell? ⟨m, 0, none⟩ = some (.int .i8 99) := h 0 _ rfl
  have y1 : w.cell? ⟨m, 1, none⟩ = some (.int .i64 777777) := h 1 _ rfl
  have y2 : w.cell? ⟨m, 2, none⟩ = some (.string ⟨#[]⟩) := h 2 _ rfl
  clear h
  go_enter Tryz.func203, Tryz.ntmps203
  go_wp2
  go_ret
  exact ⟨rfl, Below.refl _ _⟩
set_option maxHeartbeats 1600000 in
theorem sameF_same (x y : XF) (w : World) (hx : FIs w x) (hy : FIs w y) (hk : x.key = y.key) :
    Calls Tryz.prog 35 #[.agg #[.string x.pr, .slice x.a x.vs.length x.c], .agg #[.string y.pr, .slice y.a y.vs.length y.c]] w fun e w' => e = .returned (.bool true) ∧ Below w.heap.size w w' := by
  have bel2 : ∀ o o', Below w.heap.size w ((w.alloc o).alloc o') := fun o o' => ((Below.refl _ _).alloc (Nat.le_refl _) _).alloc (by simp) _
  have e1 : x.pr = y.pr := congrArg Prod.fst hk
  have e2 : x.vs = y.vs := congrArg Prod.snd hk
  have hp : (x.pr.toList == y.pr.toList) = true := by rw [e1]; simp
  have HS : Hid (∀ u, Below w.heap.size w u → Calls Tryz.prog 36 #[.slice x.a x.vs.length x.c, .slice y.a y.vs.length y.c] u fun r w' => r = .returned (.bool true) ∧ Below u.heap.size u w') := fun u hu => by
    have h1 := (hx.below hu).vs
    have h2 := (hy.below hu).vs
    rw [← e2] at h2 ⊢
    exact sameV_same _ _ x.vs u h1 h2
  clear hx hy hk e1 e2
  go_enter Tryz.func35, Tryz.ntmps35
  go_wp2_with fail
  refine (HS.out _ (bel2 _ _)).mono ?_
  rintro e w1 ⟨rfl, hb1⟩
  go_wp2
  go_ret
  exact ⟨rfl, (bel2 _ _).trans (hb1.mono (by simp; omega))⟩
theorem keys_at {l m : List XF} (hk : l.map XF.key = m.map XF.key) : m.length = l.length ∧ ∀ i, i < l.length → (atF l i).key = (atF m i).key := by
  have e : m.length = l.length := by have := congrArg List.length hk; simpa using this.symm
  refine ⟨e, fun i hi => ?_⟩
  have := congrArg (fun z => z[i]?) hk
  simp only [List.getElem?_map, List.getElem?_eq_getElem hi, List.getElem?_eq_getElem (show i < m.length by omega), Option.map_some, Option.some.injEq] at this
  rw [atF_eq hi, atF_eq (by omega)]
  exact this
theorem Lu.form {w : World} {v : Value} {l : List XF} (h : Lu w v l) : ∃ a c, v = .slice a l.length c ∧ l.length ≤ c ∧ c ≤ maxLen ∧ (0 < l.length → ∃ g off, a = some ⟨g, off, none⟩ ∧ g < w.heap.size ∧ ∀ i, i < l.length → w.cell? ⟨g, off + i, none⟩ = some (atF l i).tcell) := by
  obtain ⟨a, c, h1, h2, h3, h4⟩ := ls_range (f := XF.tcells) (k := 1) (fun _ => rfl) XF0 h.lies
  refine ⟨a, c, h1, h2, h3, fun h0 => ?_⟩
  obtain ⟨g, off, h5, h6, h7⟩ := h4 h0
  refine ⟨g, off, h5, h6, fun i hi => ?_⟩
  have := h7 i hi 0 _ rfl
  rw [Nat.mul_one] at this
  exact this
theorem Lu.at {w : World} {v : Value} {l : List XF} (h : Lu w v l) {i : Nat} (hi : i < l.length) : FIs w (atF l i) ∧ (atF l i).pr = noS := by
  rw [atF_eq hi]
  exact h.each _ (List.getElem_mem hi)
attribute [-go_sem] loadVar storeVar
set_option maxHeartbeats 3200000 in
theorem twinT_any (v : Value) (l : List XF) (w : World) (hs : l.length ≤ 1048576) (hsm : ∀ i, i < l.length → (atF l i).vs.length ≤ 1048576) (hL : Lu w v l) :
    Calls Tryz.prog 9 #[v] w fun r w' => ∃ a' l', r = .returned (.slice a' l.length (l.length + 1)) ∧ Below w.heap.size w w' ∧ l'.length = l.length ∧ (∀ i, i < l.length → LikeF (atF l i) (atF l' i)) ∧ TwU w' w.heap.size l' a' (l.length + 1) := by
  have HEa : Hid (∀ i, i < l.length → FIs w (atF l i) ∧ (atF l i).vs.length ≤ 1048576) := fun i hi => ⟨(hL.at hi).1, hsm i hi⟩
  obtain ⟨a, c, rfl, hc1, hc2, hk⟩ := hL.form
  have hmk := run_make_Tup l.length hs
  have HK : Hid _ := hk
  clear hk hc2 hL hsm
  go_enter Tryz.func9, Tryz.ntmps9
  go_wp2
  go_loopw [4] (fun i wr => ∃ (k : Nat) (U : Nat → XF), k ≤ l.length ∧ i = .int .i64 k ∧ Below w.heap.size w wr ∧ wr.rowIs w.heap.size 26 ((l.length + 1) * 1) (rowF 1 (upC XF.tcells [.slice none 0 0] U k)) ∧ Hid (∀ i, i < k → LikeF (atF l i) (U i) ∧ TwF wr (w.heap.size + 1) (U i)) ∧ Hid (∀ i j, i < j → j < k → ApX (U i) (U j))) (fun i _ => l.length - (intOf i).toNat)
  case atStart => exact ⟨0, atF l, Nat.zero_le _, rfl, (Below.refl _ _).alloc (Nat.le_refl _) _, by have := made_row w #[.slice none 0 0] 26 (l.length + 1) (by decide); rw [show (l.length + 1) * (#[Value.slice none 0 0] : Array Value).size = l.length + 1 from Nat.mul_one _] at this; rw [Nat.mul_one]; exact this, fun i hi => absurd hi (by omega), fun i j _ hj => absurd hj (by omega)⟩
  case round =>
    obtain ⟨k, U, hk, rfl, bel, hrow, HTW, HND⟩ := hrel
    clear hmk
    have HR : Hid (wr.rowIs w.heap.size 26 ((l.length + 1) * 1) (rowF 1 (upC XF.tcells [.slice none 0 0] U k))) := hrow
    have hwlt : w.heap.size < wr.heap.size := hrow.lt
    clear hrow
    by_cases hlt : k < l.length
    · have hlt' : (k : Int) < (l.length : Int) := by omega
      obtain ⟨g, off, rfl, hg, hKS⟩ := HK.out (by omega)
      obtain ⟨hxL, hxS⟩ := HEa.out k hlt
      have hld : (loadVar 26 ⟨g, off + k, none⟩).run Tryz.prog wr = .ok (.slice (atF l k).a (atF l k).vs.length (atF l k).c) wr := load_Tup (by rw [bel.cell (p := ⟨g, off + k, none⟩) hg]; exact hKS k hlt)
      have HT := Lib.hid (twinV_any (.slice (atF l k).a (atF l k).vs.length (atF l k).c) (atF l k).vs wr hxS (hxL.below bel).vs)
      obtain ⟨x, hx⟩ : ∃ x, x = atF l k := ⟨_, rfl⟩
      rw [← hx] at hld HT hxS
      have HX := Lib.hid hx
      clear hKS hxL hx
      generalize Value.slice x.a x.vs.length x.c = QV at hld HT
      go_wp2_with fail
      refine Calls.mono HT.out ?_
      rintro r w1 ⟨a1, rfl, b1, htw⟩
      have HR1 : Hid (w1.rowIs w.heap.size 26 ((l.length + 1) * 1) (rowF 1 (upC XF.tcells [.slice none 0 0] U k))) := HR.out.of_block (b1.block _ hwlt)
      have bel1 : Below w.heap.size w w1 := bel.trans (b1.mono bel.size)
      have hst := store_Tup (a := a1) (n := x.vs.length) (c := x.vs.length + 1) (rowF_there HR1.out rfl (i := k) (by omega))
      have HN : Hid ((w1.setCells w.heap.size (k * 1) [.slice a1 x.vs.length (x.vs.length + 1)]).rowIs w.heap.size 26 ((l.length + 1) * 1) (rowF 1 (upC XF.tcells [.slice none 0 0] (fun i => if i = k then ⟨x.pr, x.vs, a1, x.vs.length + 1⟩ else U i) (k + 1)))) := by
        have := rowF_set (k := k) (by decide) HR1.out (XF.tcells ⟨x.pr, x.vs, a1, x.vs.length + 1⟩) rfl
        rw [upC_step] at this
        exact this
      have HBn : Hid (Below w.heap.size w (w1.setCells w.heap.size (k * 1) [.slice a1 x.vs.length (x.vs.length + 1)])) := below_setCells (Nat.le_refl _) _ _ _ bel1
      have HTn : Hid (∀ i, i < k + 1 → LikeF (atF l i) ((fun i => if i = k then (⟨x.pr, x.vs, a1, x.vs.length + 1⟩ : XF) else U i) i) ∧ TwF (w1.setCells w.heap.size (k * 1) [.slice a1 x.vs.length (x.vs.length + 1)]) (w.heap.size + 1) ((fun i => if i = k then (⟨x.pr, x.vs, a1, x.vs.length + 1⟩ : XF) else U i) i)) := fun i hi => by
        by_cases e : i = k
        · subst e
          simp only [if_true]
          exact ⟨⟨by rw [HX.out], by rw [HX.out]⟩, twF_setCells (by omega) _ _ _ (TwF.lower hwlt htw)⟩
        · simp only [if_neg e]
          obtain ⟨h1, h2⟩ := HTW.out i (by omega)
          exact ⟨h1, twF_setCells (by omega) _ _ _ (h2.below b1)⟩
      have HNd : Hid (∀ i j, i < j → j < k + 1 → ApX ((fun i => if i = k then (⟨x.pr, x.vs, a1, x.vs.length + 1⟩ : XF) else U i) i) ((fun i => if i = k then (⟨x.pr, x.vs, a1, x.vs.length + 1⟩ : XF) else U i) j)) := fun i j hij hj => by
        by_cases e : j = k
        · subst e
          simp only [if_true, if_neg (show ¬ i = j by omega)]
          intro g hg1 hg2
          have h1 := ((HTW.out i hij).2.lt hg1).2
          have h2 := (TwF.lt (y := ⟨x.pr, x.vs, a1, x.vs.length + 1⟩) htw hg2).1
          omega
        · simp only [if_neg e, if_neg (show ¬ i = k by omega)]
          exact HND.out i j hij (by omega)
      rw [Nat.mul_one] at hst HN HBn HTn
      generalize w1.setCells w.heap.size k [.slice a1 x.vs.length (x.vs.length + 1)] = W2 at hst HN HBn HTn
      have hk1 : (k : Int) < (l.length : Int) + 1 := by omega
      generalize Value.slice a1 x.vs.length (x.vs.length + 1) = RV at hst
      clear HR hld HT b1 htw HR1 HTW HX HND
      go_wp2
      go_roundw
      case rel => exact ⟨k + 1, _, by omega, by go_num, HBn.out, HN.out, HTn.out, HNd.out⟩
      case measure => simp [intOf]; omega
    · obtain rfl : k = l.length := by omega
      go_wp2_with fail
      refine (markT_any _).mono ?_
      rintro r w1 ⟨m, rfl, b1, hm1, hm2, hmr⟩
      have HR1 : Hid (w1.rowIs w.heap.size 26 ((l.length + 1) * 1) (rowF 1 (upC XF.tcells [.slice none 0 0] U l.length))) := HR.out.of_block (b1.block _ hwlt)
      have bel1 : Below w.heap.size w w1 := bel.trans (b1.mono bel.size)
      have hst := store_Tup (a := some ⟨m, 0, none⟩) (n := 1) (c := 1) (rowF_there HR1.out rfl (i := l.length) (by omega))
      have HN : Hid ((w1.setCells w.heap.size (l.length * 1) [.slice (some ⟨m, 0, none⟩) 1 1]).rowIs w.heap.size 26 ((l.length + 1) * 1) (rowF 1 (fun i => if i = l.length then [.slice (some ⟨m, 0, none⟩) 1 1] else upC XF.tcells [.slice none 0 0] U l.length i))) := rowF_set (k := l.length) (by decide) HR1.out [.slice (some ⟨m, 0, none⟩) 1 1] rfl
      have HBn : Hid (Below w.heap.size w (w1.setCells w.heap.size (l.length * 1) [.slice (some ⟨m, 0, none⟩) 1 1])) := below_setCells (Nat.le_refl _) _ _ _ bel1
      have HTn : Hid (∀ i, i < l.length → LikeF (atF l i) (U i) ∧ TwF (w1.setCells w.heap.size (l.length * 1) [.slice (some ⟨m, 0, none⟩) 1 1]) (w.heap.size + 1) (U i)) := fun i hi => by
        obtain ⟨h1, h2⟩ := HTW.out i hi
        exact ⟨h1, twF_setCells (by omega) _ _ _ (h2.below b1)⟩
      have HMR : Hid (m < (w1.setCells w.heap.size (l.length * 1) [.slice (some ⟨m, 0, none⟩) 1 1]).heap.size ∧ (w1.setCells w.heap.size (l.length * 1) [.slice (some ⟨m, 0, none⟩) 1 1]).rangeAt m 0 mkV) := ⟨by rw [size_setCells]; exact hm1, range_block hmr (heap_setCells_other (by omega) _ _ _)⟩
      rw [Nat.mul_one] at hst HN HBn HTn HMR
      generalize w1.setCells w.heap.size l.length [.slice (some ⟨m, 0, none⟩) 1 1] = W2 at hst HN HBn HTn HMR
      have hk1 : (l.length : Int) < (l.length : Int) + 1 := by omega
      clear b1 HR bel HR1 HTW hm1 hm2 hmr
      go_wp2
      go_ret
      have hln : ((List.range l.length).map U).length = l.length := by simp
      refine ⟨some ⟨w.heap.size, 0, none⟩, (List.range l.length).map U, rfl, HBn.out, hln, fun i hi => by rw [atF_map U hi]; exact (HTn.out i hi).1, by rw [hln], ?_, fun g hg i hi => ?_, fun i j hij hj => ?_, ⟨w.heap.size, m, rfl, World.rowIs.lt HN.out, HMR.out.1, HMR.out.2, ?_, fun i hi => ?_⟩, fun i hi => ?_⟩
      · have := own_of_rowF (f := XF.tcells) (k := 1) (l := (List.range l.length).map U) (lo := w.heap.size) (by omega) (fun _ => rfl) XF0 HN.out (fun i hi => by
          have hi' : i < l.length := by rw [hln] at hi; exact hi
          simp only [if_neg (show ¬ i = l.length by omega), upC, if_pos hi']
          exact congrArg XF.tcells (atF_map U hi').symm) (Nat.le_refl _) (by rw [hln]; omega) (by unfold maxLen; omega)
        exact this
      · rw [hln] at hi
        rw [atF_map U hi]
        have : w.heap.size = g := by simpa using congrArg Addr.block (Option.some.inj hg)
        rw [← this]
        exact (HTn.out i hi).2
      · rw [hln] at hj
        rw [atF_map U hj, atF_map U (by omega : i < l.length)]
        exact HND.out i j hij hj
      · rw [hln]
        have := rowF_range HN.out rfl (i := l.length) (by omega) (by rw [if_pos rfl]; rfl) 0 _ (by rw [if_pos rfl]; rfl)
        rw [Nat.mul_one] at this
        exact this
      · rw [hln] at hi
        have := rowF_range HN.out rfl (i := i) (by omega) (by simp only [if_neg (show ¬ i = l.length by omega)]; exact upC_len (f := XF.tcells) (n := 1) (fun _ => rfl) rfl _ _ _) 0 (U i).tcell (by simp only [if_neg (show ¬ i = l.length by omega), upC, if_pos hi]; rfl)
        rw [Nat.mul_one] at this
        rw [atF_map U hi]
        exact this
      · rw [hln] at hi
        rw [atF_map U hi]
        exact (HTn.out i hi).2.lower (by omega)
end Go.Proofs.YtoagnkbmeafmoaaGreatDoor
