import Derived.Test.YtnpmhgjbfkgmdaaDoorOnMap
import Derived.Test.YtnpmhgjbfkgmdaaDoorTermRes
import Derived.Deep.Upon
import Derived.OwnWalk
import Derived.Lib.Hide
namespace Go.Proofs.YtnpmhgjbfkgmdaaDoor
open Go.RowKit Go.Maps
set_option linter.unusedVariables false
set_option linter.unusedSimpArgs false
attribute [local go_sem ↓] Go.wp_at_zero Go.wp_at_succ

theorem infoTm : (Tryd.prog.info? 38).map (fun i => (i.zero, i.size, i.bytes)) = some (some (.agg #[.string ⟨#[]⟩, .int .i8 0, .int .i64 0, .string ⟨#[]⟩]), 4, 48) := by kernel_rfl
theorem info_tm : ∃ i, Tryd.prog.info? 38 = some i ∧ i.zero = some (.agg #[.string ⟨#[]⟩, .int .i8 0, .int .i64 0, .string ⟨#[]⟩]) ∧ i.size = 4 ∧ i.bytes = 48 := by
  have h := infoTm
  cases hi : Tryd.prog.info? 38 with
  | none => rw [hi] at h; simp at h
  | some i =>
    rw [hi] at h
    simp at h
    exact ⟨i, rfl, h.1, h.2.1, h.2.2⟩
theorem tcells_one (ts : List T) : ∀ u ∈ ts.flatMap T.cells, u.oneCell' = true := by
  intro u hu
  rw [List.mem_flatMap] at hu
  obtain ⟨t, _, ht⟩ := hu
  simp [T.cells] at ht
  rcases ht with rfl | rfl | rfl | rfl <;> rfl
/-- append(x, y...) of terms, x a row of the call's own, y any list -/
theorem run_appTm {w : World} {b : Nat} {v : Value} {n : Nat} {xs : List Value} (ty : TypeId) (hown : w.ownsRow b 38 4 v n xs) {a : Option Addr} {c : Nat} {ts : List T} (hl : Lt w (.slice a ts.length c) ts) (h1 : n + ts.length ≤ 1000) (hb : b ≤ w.heap.size) :
    ∃ v' w', (Builtin.append_ #[22, 22] ty #[v, .slice a ts.length c]).run Tryd.prog w = .ok v' w' ∧ w'.ownsRow b 38 4 v' (n + ts.length) (xs ++ ts.flatMap T.cells) ∧ w.grownBy w' v.ownBlock ∧ (v'.ownBlock = v.ownBlock ∨ v'.ownBlock = some w.heap.size) := by
  obtain ⟨i0, hi0, hz0, hz1, hz2⟩ := info_tm
  obtain ⟨_, a', c', e, hc1, hc2, hat⟩ := hl.lies
  by_cases h0 : ts.length = 0
  · obtain rfl : ts = [] := List.length_eq_zero_iff.1 h0
    have hv : ∃ ba sc, v = .slice ba n sc ∧ n ≤ sc := by
      rcases hown.2 with ⟨rfl, rfl⟩ | ⟨g, cap, cur, rfl, _, _, hnc, _, _, _⟩
      · exact ⟨none, 0, rfl, Nat.le_refl _⟩
      · exact ⟨_, _, rfl, hnc⟩
    obtain ⟨ba, sc, rfl, hsc⟩ := hv
    refine ⟨_, _, run_append_nothing w _ _ ty _ i0 Tryd.underlying22 hi0 ba n sc hsc _ ⟨.inl ⟨_, Tryd.underlying22⟩, by intro w'; cases a <;> simp [Builtin.lenOf], by cases a <;> simp [Builtin.firstCells, loadCells, loadCellsFrom], by cases a <;> simp [Builtin.firstCells, loadCells, loadCellsFrom], by simp, by simp⟩, ?_, ⟨rfl, rfl, rfl, Nat.le_refl _, fun _ _ _ => rfl⟩, .inl rfl⟩
    simpa using hown
  · obtain ⟨g, off, rfl, _, hf⟩ := hat (by omega)
    cases e
    obtain ⟨v', w', e1, e2, e3, _, e5⟩ := run_append_own_at (P := Tryd.prog) w b 22 ty 38 i0 _ 4 48 Tryd.underlying22 hi0 hz0 hz1 hz2 rfl (by decide) v n xs hown ⟨g, off, none⟩ ts.length c (ts.flatMap T.cells) (flat_len T.cells 4 (fun _ => rfl) ts) (fun j u hu => by
      obtain ⟨q1, q2⟩ := List.getElem?_eq_some_iff.1 hu
      have := hf j q1
      rw [q2] at this
      rw [show (⟨g, off, none⟩ : Addr).add j = ⟨g, off + j, none⟩ by cases j <;> simp [Addr.add]]
      exact this) (tcells_one _) (by unfold maxLen; omega) (by omega) hb
    exact ⟨v', w', e1, e2, e3, e5⟩
theorem wpList_appTm {ops : Array Oper} {rest : List Oper} {o : Oper} {a : Act} {w : World} {Q : Exit → Act → World → Prop} (hgd : o.guard = none) (s x : Operand)
    (hop : o.op = Op.call { callee := Callee.builtin Builtin.append, args := #[s, x], argTypes := #[22, 22] })
    {b : Nat} {v : Value} {n : Nat} {xs : List Value} (hs : a.eval s = v) (hown : w.ownsRow b 38 4 v n xs)
    {ad : Option Addr} {c : Nat} {ts : List T} (hx : a.eval x = .slice ad ts.length c) (hl : Lt w (.slice ad ts.length c) ts) (h1 : n + ts.length ≤ 1000) (hb : b ≤ w.heap.size)
    (h : ∀ v' w', w'.ownsRow b 38 4 v' (n + ts.length) (xs ++ ts.flatMap T.cells) → w.grownBy w' v.ownBlock → (v'.ownBlock = v.ownBlock ∨ v'.ownBlock = some w.heap.size) → wpList Tryd.prog ops Q rest (a.put o.dst v') w') :
    wpList Tryd.prog ops Q (o :: rest) a w := by
  refine wpList_plain hgd fun KK hK => ?_
  obtain ⟨v', w', hr, r1, r2, r3⟩ := run_appTm (c := c) o.type hown hl h1 hb
  unfold Oper.wp execOp
  simp only [hop, resolve, invoke, builtin, Sem.run_bind, Sem.run_pure, Result.andThen_ok, List.map_toArray, List.map_cons, List.map_nil, hs, hx, hr]
  exact hK _ _ (h v' w' r1 r2 r3)
theorem nil_yes (n c : Nat) (w : World) : (binOp .eql 22 (.slice none n c) (.slice none 0 0)).run Tryd.prog w = .ok (.bool true) w := by kernel_rfl
theorem nil_no (ad : Addr) (n c : Nat) (w : World) : (binOp .eql 22 (.slice (some ad) n c) (.slice none 0 0)).run Tryd.prog w = .ok (.bool false) w := by kernel_rfl
set_option maxHeartbeats 800000 in
set_option maxRecDepth 100000 in
theorem clone_any (v : Value) (ts : List T) (w : World) (hl : Lt w v ts) (h24 : ts.length ≤ 24) : Calls Tryd.prog 23 #[v] w fun e w' => ∃ sv, e = .returned sv ∧ w'.ownsRow w.heap.size 38 4 sv ts.length (ts.flatMap T.cells) ∧ Below w.heap.size w w' := by
  obtain ⟨a, c, rfl, hc1, hc2, hat⟩ := hl.form
  have HL := Lib.hid hl
  cases a with
  | none =>
    have h0 : ts = [] := by
      cases ts with
      | nil => rfl
      | cons t r =>
        obtain ⟨g, off, e, _⟩ := hat (by simp)
        cases e
    subst h0
    have hne := nil_yes 0 c w
    clear hat hl HL
    go_enter Tryd.func23, Tryd.ntmps23
    go_wp2
    go_ret
    exact ⟨_, rfl, World.ownsRow_nil _ _ _ _, Below.refl _ _⟩
  | some ad =>
    have hne := nil_no ad ts.length c w
    have HAL : Hid (∀ o, Below w.heap.size w (w.alloc o)) := fun o => (Below.refl _ _).alloc (Nat.le_refl _) o
    clear hat hl
    go_enter Tryd.func23, Tryd.ntmps23
    go_wp2_with (at_builtin; refine wpList_appTm rfl (.tmp 5) (.tmp 6) rfl (b := w.heap.size) (v := .slice (some ⟨w.heap.size, 0, none⟩) 0 0) (n := 0) (xs := []) (ad := some ad) (c := c) (ts := ts) (by simp [Act.eval, Act.put]) (World.ownsRow_lit w #[] 0 (Nat.le_refl _) (by decide) rfl) (by simp [Act.eval, Act.put]) (HL.out.below (HAL.out _)) (by omega) (by simp) ?_; intro v5 w5 own5 hg5 hl5; have bel5 : Below w.heap.size w w5 := (HAL.out _).grown hg5 (by simp) (fun j hj => by simp [Value.ownBlock] at hj; omega); rw [Nat.zero_add, List.nil_append] at own5)
    go_ret
    exact ⟨_, rfl, own5, bel5⟩
theorem run_makePl (u : World) : (Instr.makeMap 69 none).run Tryd.prog u = .ok (.map (some u.heap.size)) (u.alloc (.map #[] 0)) := by kernel_rfl
set_option maxHeartbeats 1600000 in
set_option maxRecDepth 100000 in
theorem placesOf_any (v : Value) (s : List P) (w : World) (hl : Lp w v s) (h24 : s.length ≤ 24) (hs : Sv s) : Calls Tryd.prog 25 #[v] w fun e w' => e = .returned (.map (some w.heap.size)) ∧ MapT w' w.heap.size s ∧ Below w.heap.size w w' := by
  obtain ⟨a, c, rfl, hc1, hc2, hat⟩ := hl.form
  have HAT := Lib.hid hat
  have HWF := Lib.hid hl.wf
  have HSV := Lib.hid hs
  have HM0 := Lib.hid (MapT.made w)
  have HB0 := Lib.hid ((Below.refl w.heap.size w).alloc (Nat.le_refl _) (.map #[] 0))
  have hmm := run_makePl w
  clear hat hl hs
  go_enter Tryd.func25, Tryd.ntmps25
  go_wp2
  go_loopw [11] (fun i wr => ∃ k : Nat, k ≤ s.length ∧ i = .int .i64 k ∧ Hid (Below w.heap.size w wr ∧ MapT wr w.heap.size (s.take k))) (fun i _ => s.length - (intOf i).toNat)
  case atStart => exact ⟨0, Nat.zero_le _, rfl, HB0.out, by rw [List.take_zero]; exact HM0.out⟩
  case round =>
    obtain ⟨k, hk, rfl, HI⟩ := hrel
    clear HM0 HB0
    by_cases hlt : k < s.length
    · have hlt' : (k : Int) < (s.length : Int) := by omega
      obtain ⟨g, off, rfl, hg, hP⟩ := HAT.out (by omega)
      have hgw : g < wr.heap.size := Nat.lt_of_lt_of_le hg HI.out.1.size
      have hpa := hP k hlt
      have hpw := HWF.out (atP s k) (by rw [atP_eq hlt]; exact List.getElem_mem _)
      have hpk := HSV.out.nk (atP s k) (by rw [atP_eq hlt]; exact List.getElem_mem _)
      have htk : s.take (k + 1) = s.take k ++ [atP s k] := by rw [List.take_add_one, List.getElem?_eq_getElem hlt, atP_eq hlt]; rfl
      have hfr : ∀ q ∈ s.take k, q.v ≠ (atP s k).v := fun q hq => by
        have nd := HSV.out.nd
        have e : s.map P.v = (s.take k).map P.v ++ (atP s k).v :: (s.drop (k + 1)).map P.v := by
          conv => lhs; rw [← List.take_append_drop k s, List.drop_eq_getElem_cons hlt]
          rw [List.map_append, List.map_cons, atP_eq hlt]
        rw [e, List.nodup_append] at nd
        exact nd.2.2 _ (List.mem_map.2 ⟨q, hq, rfl⟩) _ (by simp)
      generalize atP s k = p at hpa hpw hpk htk hfr
      obtain ⟨pv, tv, ak, an, sx⟩ := p
      have HPW := Lib.hid hpw
      have x0 : wr.cell? ⟨g, off + k * 5, none⟩ = some (.string pv) := by rw [HI.out.1.cell (p := ⟨g, off + k * 5, none⟩) hg]; exact hpa.c0
      have x1 : wr.cell? ⟨g, off + k * 5 + 1, none⟩ = some (.string tv) := by rw [HI.out.1.cell (p := ⟨g, off + k * 5 + 1, none⟩) hg]; exact hpa.c1
      have x2 : wr.cell? ⟨g, off + k * 5 + 2, none⟩ = some (.int .i8 ak) := by rw [HI.out.1.cell (p := ⟨g, off + k * 5 + 2, none⟩) hg]; exact hpa.c2
      have x3 : wr.cell? ⟨g, off + k * 5 + 3, none⟩ = some (.int .i64 an) := by rw [HI.out.1.cell (p := ⟨g, off + k * 5 + 3, none⟩) hg]; exact hpa.c3
      have x4 : wr.cell? ⟨g, off + k * 5 + 4, none⟩ = some (.string sx) := by rw [HI.out.1.cell (p := ⟨g, off + k * 5 + 4, none⟩) hg]; exact hpa.c4
      have hk0 : (0 : Int) ≤ (k : Int) := by omega
      have he := some_iff pv hpk.1
      have hbk := blank_iff hpk.2
      have ha1 : Below wr.heap.size wr (wr.alloc (.cells #[.string pv, .string tv, .int .i8 ak, .int .i64 an, .string sx] 40)) := (Below.refl _ _).alloc (Nat.le_refl _) _
      have HR1 := Lib.hid (rl_new wr #[.string pv, .string tv, .int .i8 ak, .int .i64 an, .string sx] 40)
      have HM1 := Lib.hid (HI.out.2.below ha1)
      have b1 := HI.out.1.trans (ha1.mono HI.out.1.size)
      have HF := Lib.hid (And.intro htk hfr)
      clear HI hpa hpw hpk htk hfr ha1 hg hP
      go_upto_region 5 with fail
      generalize wr.alloc (.cells #[.string pv, .string tv, .int .i8 ak, .int .i64 an, .string sx] 40) = W1 at HR1 HM1 b1 ⊢
      clear x0 x1 x2 x3 x4
      have y0 := HR1.out.at (j := 0) rfl
      have hlk := HM1.out.look (n := pv) (by
        have := HSV.out.nd
        rw [← List.take_append_drop k s, List.map_append, List.nodup_append] at this
        exact this.1) HPW.out.text
      rw [lookP_no HF.out.2] at hlk
      have ha2 : Below W1.heap.size W1 (W1.alloc (.cells #[.string ⟨#[]⟩, .int .i8 0, .int .i64 0, .string ⟨#[]⟩] 38)) := (Below.refl _ _).alloc (Nat.le_refl _) _
      have HR2 := Lib.hid (HR1.out.below ha2)
      have HM2 := Lib.hid (HM1.out.below ha2)
      have b2 := b1.trans (ha2.mono b1.size)
      clear HR1 HM1 b1 ha2
      go_upto_region 6 with fail
      generalize W1.alloc (.cells #[.string ⟨#[]⟩, .int .i8 0, .int .i64 0, .string ⟨#[]⟩] 38) = W2 at HR2 HM2 b2 ⊢
      clear hlk y0
      have y0 := HR2.out.at (j := 0) rfl
      have y1 := HR2.out.at (j := 1) rfl
      have y2 := HR2.out.at (j := 2) rfl
      have y3 := HR2.out.at (j := 3) rfl
      have y4 := HR2.out.at (j := 4) rfl
      obtain ⟨w3, hput, hm3, ht3⟩ := HM2.out.put (p := ⟨pv, tv, ak, an, sx⟩) HPW.out.text HF.out.2
      have hput' : (Instr.mapUpdate 69 (.map (some w.heap.size)) (.string pv) (.agg #[.string tv, .int .i8 ak, .int .i64 an, .string sx])).run Tryd.prog W2 = .ok () w3 := hput
      have HN : Hid (Below w.heap.size w w3 ∧ MapT w3 w.heap.size (s.take (k + 1))) := ⟨b2.grown ht3.grown b2.size (fun j hj => by cases hj; exact Nat.le_refl _), by rw [HF.out.1]; exact hm3⟩
      clear hput hm3 ht3 HR2 HM2 HF b2 HPW
      go_wp2
      go_roundw
      case rel => exact ⟨k + 1, by omega, by go_num, HN⟩
      case measure => simp [intOf]; omega
    · obtain rfl : k = s.length := by omega
      have HM := Lib.hid HI.out.2
      rw [List.take_length] at HM
      have HB := Lib.hid HI.out.1
      clear HI
      go_wp2
      go_ret
      exact ⟨rfl, HM.out, HB.out⟩
/-- what Apply keeps: the row of the copy's terms (block g), the map (bm), all of its own from B on -/
structure Ast (B : Nat) (W : World) (g cap bm : Nat) (s : List P) (us : List T) (w : World) : Prop where
  bel : Below B W w
  bz : B ≤ w.heap.size
  own : w.ownsRow B 38 4 (.slice (some ⟨g, 0, none⟩) us.length cap) us.length (us.flatMap T.cells)
  map : MapT w bm s
  lo : B ≤ bm
  ne : g ≠ bm
theorem Ast.keep {B : Nat} {W : World} {g cap bm : Nat} {s : List P} {us : List T} {w w' : World} (h : Ast B W g cap bm s us w) (hb : Below w.heap.size w w') : Ast B W g cap bm s us w' :=
  ⟨h.bel.trans (hb.mono h.bz), Nat.le_trans h.bz hb.size, own_below h.own hb, h.map.below hb, h.lo, h.ne⟩
theorem tset4 (u : T) : ∀ (vs : List T) (j : Nat), j < vs.length → ((((vs.flatMap T.cells).set (j * 4) (.string u.v)).set (j * 4 + 1) (.int .i8 u.a.k)).set (j * 4 + 2) (.int .i64 u.a.n)).set (j * 4 + 3) (.string u.a.s) = (vs.set j u).flatMap T.cells
  | [], j, h => absurd h (by simp)
  | t :: r, 0, h => by simp [T.cells]
  | t :: r, j + 1, h => by
    have e : ∀ i, (j + 1) * 4 + i = j * 4 + i + 4 := fun i => by omega
    have e0 : (j + 1) * 4 = j * 4 + 4 := by omega
    simp only [List.flatMap_cons, List.set_cons_succ, e, e0, T.cells, List.cons_append, List.nil_append]
    have := tset4 u r j (by simpa using h)
    rw [← this]
def putT4 (w : World) (g j : Nat) (u : T) : World := (((w.setCell ⟨g, j * 4, none⟩ (.string u.v)).setCell ⟨g, j * 4 + 1, none⟩ (.int .i8 u.a.k)).setCell ⟨g, j * 4 + 2, none⟩ (.int .i64 u.a.n)).setCell ⟨g, j * 4 + 3, none⟩ (.string u.a.s)
theorem Ast.put {B : Nat} {W : World} {g cap bm : Nat} {s : List P} {us : List T} {w : World} (h : Ast B W g cap bm s us w) {j : Nat} (hj : j < us.length) (u : T) : Ast B W g cap bm s (us.set j u) (putT4 w g j u) := by
  have hl := flat_len T.cells 4 (fun _ => rfl) us
  have hg : B ≤ g := (own_cell h.own (i := j * 4) (by rw [List.getElem?_eq_getElem (by omega)])).2.2.2
  have o1 := own_set h.own (i := j * 4) (by omega) (.string u.v)
  have o2 := own_set o1 (i := j * 4 + 1) (by simp only [List.length_set]; omega) (.int .i8 u.a.k)
  have o3 := own_set o2 (i := j * 4 + 2) (by simp only [List.length_set]; omega) (.int .i64 u.a.n)
  have o4 := own_set o3 (i := j * 4 + 3) (by simp only [List.length_set]; omega) (.string u.a.s)
  rw [tset4 u us j hj] at o4
  refine ⟨(((h.bel.setCell (p := ⟨g, _, none⟩) hg _).setCell (p := ⟨g, _, none⟩) hg _).setCell (p := ⟨g, _, none⟩) hg _).setCell (p := ⟨g, _, none⟩) hg _, by unfold putT4; simp; exact h.bz, by rw [List.length_set]; exact o4, ?_, h.lo, h.ne⟩
  refine h.map.of_block ?_
  unfold putT4
  rw [heap_setCell_other _ _ bm _ (by exact Ne.symm h.ne), heap_setCell_other _ _ bm _ (by exact Ne.symm h.ne), heap_setCell_other _ _ bm _ (by exact Ne.symm h.ne), heap_setCell_other _ _ bm _ (by exact Ne.symm h.ne)]
set_option maxHeartbeats 1600000 in
set_option maxRecDepth 100000 in
theorem put_any {B : Nat} {W : World} {g cap bm : Nat} {s : List P} {us : List T} {w : World} (h : Ast B W g cap bm s us w) (nd : (s.map P.v).Nodup) {j : Nat} (hj : j < us.length) (hw : ∀ t ∈ us, t.wf) :
    Calls Tryd.prog 26 #[.map (some bm), .pointer (some ⟨g, j * 4, none⟩)] w fun e w' => (∃ u, e = .returned u) ∧ Ast B W g cap bm s (us.set j (res s (atT us j))) w' := by
  have hxw := hw (atT us j) (by rw [atT_eq hj]; exact List.getElem_mem _)
  have hx0 : (us.flatMap T.cells)[j * 4]? = some (.string (atT us j).v) := by
    have := flat_at T.cells 4 (fun _ => rfl) T0 us j 0 hj (by omega)
    rw [Nat.add_zero] at this
    rw [this]; rfl
  have x0 := (own_cell h.own hx0).1
  have hgl := (own_cell h.own hx0).2.2.1
  have hlk := h.map.look nd hxw.text
  unfold lookP at hlk
  have hset : us.set j (atT us j) = us := by
    rw [atT_eq hj]
    exact List.set_getElem_self hj
  have hc4 : ∀ (i : Nat) (v : Value), (atT us j).cells[i]? = some v → i < 4 → (us.flatMap T.cells)[j * 4 + i]? = some v := fun i v h1 h2 => by
    rw [flat_at T.cells 4 (fun _ => rfl) T0 us j i hj h2]; exact h1
  have hres : res s (atT us j) = match s.find? (fun p => decide (p.v = (atT us j).v)) with | some p => p.t | none => atT us j := rfl
  cases hf : s.find? (fun p => decide (p.v = (atT us j).v)) with
  | none =>
    rw [hf] at hlk hres
    simp only at hlk hres
    rw [hres, hset]
    have HK := fun o => Lib.hid (h.keep ((Below.refl _ _).alloc (Nat.le_refl _) o))
    generalize (atT us j).v = tv at x0 hlk
    clear h hres hf hset hc4 hx0 hxw hw nd
    go_enter Tryd.func26, Tryd.ntmps26
    go_wp2
    go_end0
    exact ⟨⟨_, rfl⟩, (HK _).out⟩
  | some p =>
    rw [hf] at hlk hres
    simp only at hlk hres
    rw [hres]
    obtain ⟨pv, tv, ak, an, sx⟩ := p
    have hk := h.keep ((Below.refl _ _).alloc (Nat.le_refl _) (.cells #[.string tv, .int .i8 ak, .int .i64 an, .string sx] 38))
    have HR := Lib.hid (rl_new w #[.string tv, .int .i8 ak, .int .i64 an, .string sx] 38)
    have HF := Lib.hid (hk.put hj ⟨tv, ak, an, sx⟩)
    have HX := Lib.hid (And.intro (own_cell hk.own (hc4 0 _ rfl (by omega))) (And.intro (own_cell hk.own (hc4 1 _ rfl (by omega))) (And.intro (own_cell hk.own (hc4 2 _ rfl (by omega))) (own_cell hk.own (hc4 3 _ rfl (by omega))))))
    generalize hq : (atT us j).v = qv at x0 hlk
    clear h hk hres hf hset hc4 hx0 hxw hw nd
    unfold T.val at hlk
    simp only at hlk
    go_enter Tryd.func26, Tryd.ntmps26
    go_upto_region 1 with fail
    generalize w.alloc (.cells #[.string tv, .int .i8 ak, .int .i64 an, .string sx] 38) = W1 at HR HF HX ⊢
    clear x0 hlk
    obtain ⟨⟨c0, f0, _, _⟩, ⟨c1, f1, _, _⟩, ⟨c2, f2, _, _⟩, ⟨c3, f3, _, _⟩⟩ := HX.out
    rw [Nat.add_zero] at c0 f0
    have y0 := HR.out.at (j := 0) rfl
    have y1 := HR.out.at (j := 1) rfl
    have y2 := HR.out.at (j := 2) rfl
    have y3 := HR.out.at (j := 3) rfl
    clear HR HX hq
    go_wp2
    go_end0
    exact ⟨⟨_, rfl⟩, HF.out⟩
end Go.Proofs.YtnpmhgjbfkgmdaaDoor
