import Derived.Test.YtnlcnplihjhlfaaDoorTermPut
import Derived.Test.YtnlcnplihjhlfaaDoorTermUni
namespace Go.Proofs.YtnlcnplihjhlfaaDoor
open Go.RowKit Go.Maps
set_option linter.unusedVariables false
set_option linter.unusedSimpArgs false
attribute [local go_sem ↓] Go.wp_at_zero Go.wp_at_succ

theorem lp_nil (w : World) : Lp w (.slice none 0 0) [] := ⟨⟨by show 0 ≤ _; omega, none, 0, rfl, Nat.le_refl _, by decide, fun h => absurd (show (0 : Nat) < 0 from h) (by omega)⟩, fun t ht => by cases ht⟩
/-- what either Unify answers: the pairs, or nothing -/
def ToldP (r : Option (List P)) (e : Ending) (w' : World) : Prop := ∃ sv, e = .returned (.tuple #[sv, .bool r.isSome]) ∧ Lp w' sv (r.getD [])
theorem toldP_of {B : Nat} {r : Option (List P)} {e : Ending} {w' : World} (h : UniPost B r e w') : ToldP r e w' := by
  obtain ⟨sv, he, h1, h2⟩ := h
  refine ⟨sv, he, ?_⟩
  cases r with
  | none => rw [h1 rfl]; exact lp_nil w'
  | some s =>
    obtain ⟨ho, hwf, -⟩ := h2 s rfl
    exact ⟨ls_own ho, hwf⟩
set_option maxHeartbeats 1600000 in
set_option maxRecDepth 100000 in
theorem runify_no (pa pb : ByteArray) (va vb : Value) (la lb : List T) (w : World) (hpa : pa.size ≤ maxLen) (hpb : pb.size ≤ maxLen) (ha : Lt w va la) (hb : Lt w vb lb) (hno : ¬ (pa = pb ∧ la.length = lb.length ∧ atomB pa la = true ∧ atomB pb lb = true)) :
    Calls Tryd.prog 4 #[.agg #[.string pa, va], .agg #[.string pb, vb]] w fun e w' => e = .returned (.tuple #[.slice none 0 0, .bool false]) ∧ Below w.heap.size w w' := by
  obtain ⟨aa, ca, rfl, hc1, hc2, -⟩ := ha.form
  obtain ⟨ab, cb, rfl, hd1, hd2, -⟩ := hb.form
  have hm1 : la.length ≤ maxLen := Nat.le_trans hc1 hc2
  have hm2 : lb.length ≤ maxLen := Nat.le_trans hd1 hd2
  unfold maxLen at hm1 hm2
  have B0 : Hid _ := ((Below.refl w.heap.size w).alloc (Nat.le_refl _) (.cells #[.string pa, .slice aa la.length ca] 24)).alloc (by simp) (.cells #[.string pb, .slice ab lb.length cb] 24)
  have HA : Hid (Lt w (.slice aa la.length ca) la) := ha
  have HB : Hid (Lt w (.slice ab lb.length cb) lb) := hb
  have HPA : Hid (pa.size ≤ maxLen) := hpa
  have HPB : Hid (pb.size ≤ maxLen) := hpb
  have HNO : Hid _ := hno
  clear ha hb hc1 hc2 hd1 hd2 hpa hpb hno
  go_enter Tryd.func4, Tryd.ntmps4
  go_wp2_with fail
  refine (ratom_any pa _ la _ HPA.out (HA.out.below B0.out)).mono ?_
  rintro e w1 ⟨rfl, b1⟩
  have B1 : Hid (Below w.heap.size w w1) := B0.out.trans (b1.mono B0.out.size)
  have A0 : w1.cell? ⟨w.heap.size, 0, none⟩ = some (.string pa) := by rw [b1.cell (p := ⟨w.heap.size, 0, none⟩) (by simp; omega)]; go_simp
  have A1 : w1.cell? ⟨w.heap.size, 1, none⟩ = some (.slice aa la.length ca) := by rw [b1.cell (p := ⟨w.heap.size, 1, none⟩) (by simp; omega)]; go_simp
  have C0 : w1.cell? ⟨w.heap.size + 1, 0, none⟩ = some (.string pb) := by rw [b1.cell (p := ⟨w.heap.size + 1, 0, none⟩) (by simp)]; go_simp
  have C1 : w1.cell? ⟨w.heap.size + 1, 1, none⟩ = some (.slice ab lb.length cb) := by rw [b1.cell (p := ⟨w.heap.size + 1, 1, none⟩) (by simp)]; go_simp
  have hz1 : w.heap.size + 1 < w1.heap.size := by have := b1.size; simp at this; omega
  clear b1 B0 HA
  cases h3 : atomB pa la
  · clear h3
    go_wp2
    go_ret2
    exact ⟨rfl, B1.out⟩
  · have H3 : Hid _ := h3
    clear h3
    go_wp2_with fail
    refine (ratom_any pb _ lb _ HPB.out (HB.out.below B1.out)).mono ?_
    rintro e w2 ⟨rfl, b2⟩
    have B2 : Hid (Below w.heap.size w w2) := B1.out.trans (b2.mono B1.out.size)
    have A0' : w2.cell? ⟨w.heap.size, 0, none⟩ = some (.string pa) := by rw [b2.cell (p := ⟨w.heap.size, 0, none⟩) (by show w.heap.size < _; omega)]; exact A0
    have A1' : w2.cell? ⟨w.heap.size, 1, none⟩ = some (.slice aa la.length ca) := by rw [b2.cell (p := ⟨w.heap.size, 1, none⟩) (by show w.heap.size < _; omega)]; exact A1
    have C0' : w2.cell? ⟨w.heap.size + 1, 0, none⟩ = some (.string pb) := by rw [b2.cell (p := ⟨w.heap.size + 1, 0, none⟩) hz1]; exact C0
    have C1' : w2.cell? ⟨w.heap.size + 1, 1, none⟩ = some (.slice ab lb.length cb) := by rw [b2.cell (p := ⟨w.heap.size + 1, 1, none⟩) hz1]; exact C1
    clear b2 A0 A1 C0 C1
    cases h4 : atomB pb lb
    · clear h4
      go_wp2
      go_ret2
      exact ⟨rfl, B2.out⟩
    · by_cases h1 : pa = pb
      · have hN : (pa.toList == pb.toList) = true := by rw [eq_bytes, decide_eq_true h1]
        by_cases h2 : la.length = lb.length
        · exact absurd ⟨h1, h2, H3.out, h4⟩ HNO.out
        · have h2' : ((la.length : Int) != (lb.length : Int)) = true := by simp; omega
          clear h1 h2 h4
          go_wp2
          go_ret2
          exact ⟨rfl, B2.out⟩
      · have hN : (pa.toList == pb.toList) = false := by rw [eq_bytes, decide_eq_false h1]
        clear h1 h4
        go_wp2
        go_ret2
        exact ⟨rfl, B2.out⟩
set_option maxHeartbeats 3200000 in
set_option maxRecDepth 100000 in
theorem runify_yes (p : ByteArray) (va vb : Value) (la lb : List T) (w : World) (hp : p.size ≤ maxLen) (ha : Lt w va la) (hb : Lt w vb lb) (hn : la.length = lb.length) (h3 : atomB p la = true) (h4 : atomB p lb = true) :
    Calls Tryd.prog 4 #[.agg #[.string p, va], .agg #[.string p, vb]] w fun e w' => ToldP (uni [] la lb) e w' ∧ Below w.heap.size w w' := by
  obtain ⟨aa, ca, rfl, hc1, hc2, hta⟩ := ha.form
  obtain ⟨ab, cb, rfl, hd1, hd2, htb⟩ := hb.form
  have h24 : la.length ≤ 24 := by
    unfold atomB at h3
    simp only [Bool.and_eq_true, decide_eq_true_eq] at h3
    exact h3.1.2
  obtain ⟨m, hm⟩ : ∃ m, la.length = m := ⟨_, rfl⟩
  have hm' : lb.length = m := by omega
  have B0 : Hid _ := ((Below.refl w.heap.size w).alloc (Nat.le_refl _) (.cells #[.string p, .slice aa la.length ca] 24)).alloc (by simp) (.cells #[.string p, .slice ab lb.length cb] 24)
  have hN : (p.toList == p.toList) = true := by simp
  have h2' : ((la.length : Int) != (lb.length : Int)) = false := by simp; omega
  obtain ⟨r, HR⟩ : ∃ r, Hid (uni [] la lb = r) := ⟨_, rfl⟩
  rw [HR.out]
  have HA : Hid (Lt w (.slice aa la.length ca) la) := ha
  have HB : Hid (Lt w (.slice ab lb.length cb) lb) := hb
  have HTA : Hid _ := hta
  have HTB : Hid _ := htb
  have H3 : Hid _ := h3
  have H4 : Hid _ := h4
  have HWA : Hid (∀ t ∈ la, t.wf) := ha.wf
  have HWB : Hid (∀ t ∈ lb, t.wf) := hb.wf
  have HP : Hid _ := hp
  clear ha hb hta htb h3 h4 hc1 hc2 hd1 hd2 hp
  have HM : Hid (la.length = m ∧ lb.length = m) := ⟨hm, hm'⟩
  have h24' : Hid (m ≤ 24) := by show m ≤ 24; omega
  clear hm hm' hn h24
  go_enter Tryd.func4, Tryd.ntmps4
  go_wp2_with fail
  refine (ratom_any p _ la _ HP.out (HA.out.below B0.out)).mono ?_
  rw [H3.out]
  rintro e w1 ⟨rfl, b1⟩
  have B1 : Hid (Below w.heap.size w w1) := B0.out.trans (b1.mono B0.out.size)
  have A0 : w1.cell? ⟨w.heap.size, 0, none⟩ = some (.string p) := by rw [b1.cell (p := ⟨w.heap.size, 0, none⟩) (by simp; omega)]; go_simp
  have A1 : w1.cell? ⟨w.heap.size, 1, none⟩ = some (.slice aa la.length ca) := by rw [b1.cell (p := ⟨w.heap.size, 1, none⟩) (by simp; omega)]; go_simp
  have C0 : w1.cell? ⟨w.heap.size + 1, 0, none⟩ = some (.string p) := by rw [b1.cell (p := ⟨w.heap.size + 1, 0, none⟩) (by simp)]; go_simp
  have C1 : w1.cell? ⟨w.heap.size + 1, 1, none⟩ = some (.slice ab lb.length cb) := by rw [b1.cell (p := ⟨w.heap.size + 1, 1, none⟩) (by simp)]; go_simp
  have hz1 : w.heap.size + 1 < w1.heap.size := by have := b1.size; simp at this; omega
  clear b1 B0 H3
  go_wp2_with fail
  refine (ratom_any p _ lb _ HP.out (HB.out.below B1.out)).mono ?_
  rw [H4.out]
  rintro e W ⟨rfl, b2⟩
  have BW : Hid (Below w.heap.size w W) := B1.out.trans (b2.mono B1.out.size)
  have A0' : W.cell? ⟨w.heap.size, 0, none⟩ = some (.string p) := by rw [b2.cell (p := ⟨w.heap.size, 0, none⟩) (by show w.heap.size < _; omega)]; exact A0
  have A1' : W.cell? ⟨w.heap.size, 1, none⟩ = some (.slice aa la.length ca) := by rw [b2.cell (p := ⟨w.heap.size, 1, none⟩) (by show w.heap.size < _; omega)]; exact A1
  have C0' : W.cell? ⟨w.heap.size + 1, 0, none⟩ = some (.string p) := by rw [b2.cell (p := ⟨w.heap.size + 1, 0, none⟩) hz1]; exact C0
  have C1' : W.cell? ⟨w.heap.size + 1, 1, none⟩ = some (.slice ab lb.length cb) := by rw [b2.cell (p := ⟨w.heap.size + 1, 1, none⟩) hz1]; exact C1
  have hzW : w.heap.size + 1 < W.heap.size := Nat.lt_of_lt_of_le hz1 b2.size
  clear b2 A0 A1 C0 C1 B1 H4 HA HB HP hz1
  go_wp2
  clear A0' C0' hN h2'
  obtain ⟨hm, hm'⟩ := HM.out
  have HTA' : Hid (0 < m → ∃ g off, aa = some ⟨g, off, none⟩ ∧ g < w.heap.size ∧ ∀ i, i < m → TAt w g (off + i * 4) (atT la i)) := by rw [← hm]; exact HTA.out
  have HTB' : Hid (0 < m → ∃ g off, ab = some ⟨g, off, none⟩ ∧ g < w.heap.size ∧ ∀ i, i < m → TAt w g (off + i * 4) (atT lb i)) := by rw [← hm']; exact HTB.out
  rw [hm] at A1'
  rw [hm'] at C1'
  rw [hm, hm']
  have HAC : Hid (∀ u, Below W.heap.size W u → u.cell? ⟨w.heap.size, 1, none⟩ = some (.slice aa m ca) ∧ u.cell? ⟨w.heap.size + 1, 1, none⟩ = some (.slice ab m cb)) := fun u hu => ⟨by rw [hu.cell (p := ⟨w.heap.size, 1, none⟩) (by show w.heap.size < _; omega)]; exact A1', by rw [hu.cell (p := ⟨w.heap.size + 1, 1, none⟩) hzW]; exact C1'⟩
  have BW3 : Hid (∀ u, Below W.heap.size W u → Below w.heap.size w u) := fun u hu => BW.out.trans (hu.mono BW.out.size)
  clear HTA HTB hm hm' A1' C1' BW
  go_loopw [6, 7] (fun sv i wr => ∃ k : Nat, k ≤ m ∧ i = .int .i64 k ∧ Below W.heap.size W wr ∧ ∃ (s : List P) (ao : Option Addr) (co : Nat), sv = .slice ao s.length co ∧ Hid (Lp wr (.slice ao s.length co) s) ∧ s.length ≤ k ∧ Hid (G s) ∧ Hid (uni s (la.drop k) (lb.drop k) = r)) (fun _ i _ => m - (intOf i).toNat)
  case atStart => exact ⟨0, Nat.zero_le _, rfl, Below.refl _ _, [], none, 0, rfl, lp_nil W, Nat.zero_le _, (show G [] from fun p hp => (by cases hp)), HR⟩
  case round =>
    obtain ⟨k, hk, rfl, bel, s, ao, co, rfl, HLs, hsl, HG, HS⟩ := hrel
    have hm24 := h24'.out
    obtain ⟨A2, C2⟩ := HAC.out wr bel
    by_cases hlt : k < m
    · have hlt' : (k : Int) < (m : Int) := by omega
      have hk0 : (0 : Int) ≤ (k : Int) := by omega
      obtain ⟨g, off, rfl, hg, hT⟩ := HTA'.out (by omega)
      obtain ⟨g', off', rfl, hg', hT'⟩ := HTB'.out (by omega)
      obtain ⟨x0, x1, x2, x3⟩ := (hT k hlt).below (BW3.out _ bel) hg
      have HYT : Hid (∀ u, Below W.heap.size W u → TAt u g' (off' + k * 4) (atT lb k)) := fun u hu => (hT' k hlt).below (BW3.out u hu) hg'
      have hxw := atT_wf HWA.out k
      have hyw := atT_wf HWB.out k
      have hka : k < la.length := by rw [HM.out.1]; exact hlt
      have hkb : k < lb.length := by rw [HM.out.2]; exact hlt
      have e1 : la.drop k = atT la k :: la.drop (k + 1) := by rw [atT_eq hka]; exact List.drop_eq_getElem_cons hka
      have e2 : lb.drop k = atT lb k :: lb.drop (k + 1) := by rw [atT_eq hkb]; exact List.drop_eq_getElem_cons hkb
      have HS' : Hid (uni s (atT la k :: la.drop (k + 1)) (atT lb k :: lb.drop (k + 1)) = r) := by show _ = r; rw [← e1, ← e2]; exact HS.out
      clear HS e1 e2 hT hT' hka hkb
      generalize atT la k = x at x0 x1 x2 x3 hxw HS'
      generalize atT lb k = y at HYT hyw HS'
      obtain ⟨X, hX⟩ : ∃ X, X = res s x := ⟨_, rfl⟩
      obtain ⟨Y, hY⟩ : ∃ Y, Y = res s y := ⟨_, rfl⟩
      have HX : Hid (X = res s x ∧ X.wf) := ⟨hX, by rw [hX]; exact res_wf HLs.out.wf hxw⟩
      have HY : Hid (Y = res s y ∧ Y.wf) := ⟨hY, by rw [hY]; exact res_wf HLs.out.wf hyw⟩
      have HPX : Hid (putT s x = X) := by show _ = _; rw [hX]; exact put_res HG.out x
      have HPY : Hid (putT s y = Y) := by show _ = _; rw [hY]; exact put_res HG.out y
      have HXW : Hid (x.wf) := hxw
      have HYW : Hid (y.wf) := hyw
      clear hX hY hxw hyw
      have HLu : Hid (∀ u, Below wr.heap.size wr u → Lp u (.slice ao s.length co) s) := fun u hu => HLs.out.below hu
      have HBu : Hid (∀ u, Below wr.heap.size wr u → Below W.heap.size W u) := fun u hu => bel.trans (hu.mono bel.size)
      clear bel
      go_wp2_with fail
      refine (put_any _ s x wr HLs.out HXW.out).mono ?_
      rw [HPX.out]
      rintro e w3 ⟨rfl, b3⟩
      have B4 : Hid (Below wr.heap.size wr (w3.alloc (.cells #[.string X.v, .int .i8 X.a.k, .int .i64 X.a.n, .string X.a.s] 37))) := b3.alloc b3.size _
      have T8 : Hid (TAt (w3.alloc (.cells #[.string X.v, .int .i8 X.a.k, .int .i64 X.a.n, .string X.a.s] 37)) w3.heap.size 0 X) := by refine ⟨?_, ?_, ?_, ?_⟩ <;> go_simp
      clear b3 x0 x1 x2 x3 A2 C2
      go_upto_region 8 with fail
      generalize w3.alloc (.cells #[.string X.v, .int .i8 X.a.k, .int .i64 X.a.n, .string X.a.s] 37) = W4 at B4 T8 ⊢
      obtain ⟨-, C2⟩ := HAC.out W4 (HBu.out _ B4.out)
      obtain ⟨y0, y1, y2, y3⟩ := HYT.out W4 (HBu.out _ B4.out)
      go_wp2_with fail
      refine (put_any _ s y W4 (HLu.out _ B4.out) HYW.out).mono ?_
      rw [HPY.out]
      rintro e w5 ⟨rfl, b5⟩
      have h8 : w3.heap.size < W4.heap.size := World.block_lt_of_cell? _ _ T8.out.c0
      have h85 : w3.heap.size < w5.heap.size := Nat.lt_of_lt_of_le h8 b5.size
      have B6 : Hid (Below wr.heap.size wr (w5.alloc (.cells #[.string Y.v, .int .i8 Y.a.k, .int .i64 Y.a.n, .string Y.a.s] 37))) := (B4.out.trans (b5.mono B4.out.size)).alloc (Nat.le_trans B4.out.size b5.size) _
      have T9 : Hid (TAt (w5.alloc (.cells #[.string Y.v, .int .i8 Y.a.k, .int .i64 Y.a.n, .string Y.a.s] 37)) w5.heap.size 0 Y) := by refine ⟨?_, ?_, ?_, ?_⟩ <;> go_simp
      have T8' : Hid (TAt (w5.alloc (.cells #[.string Y.v, .int .i8 Y.a.k, .int .i64 Y.a.n, .string Y.a.s] 37)) w3.heap.size 0 X) := (T8.out.below b5 h8).below ((Below.refl _ _).alloc (Nat.le_refl _) _) h85
      clear b5 y0 y1 y2 y3 C2 T8 B4
      go_upto_region 10 with fail
      generalize w5.alloc (.cells #[.string Y.v, .int .i8 Y.a.k, .int .i64 Y.a.n, .string Y.a.s] 37) = W6 at B6 T9 T8' ⊢
      obtain ⟨p0, p1, p2, p3⟩ := T8'.out
      obtain ⟨q0, q1, q2, q3⟩ := T9.out
      simp only [Nat.zero_add] at p1 p2 p3 q1 q2 q3
      have HBW6 : Hid (Below W.heap.size W W6) := HBu.out _ B6.out
      have HL6 : Hid (Lp W6 (.slice ao s.length co) s) := HLu.out _ B6.out
      clear T9 T8' HYT HLu HBu B6
      by_cases bx : X.v = blankS
      · have hB : (X.v.toList == [95]) = true := by rw [bx, ByteArray.toList_eq]; rfl
        have HN : Hid (uni s (la.drop (k + 1)) (lb.drop (k + 1)) = r) := by
          show _ = r
          rw [← uni_blank (x := x) (y := y) (.inl ((res_blank HG.out x).1 (by rw [← HX.out.1]; exact bx)))]
          exact HS'.out
        clear bx HS'
        go_wp2
        go_roundw
        case rel => exact ⟨k + 1, by omega, by go_num, HBW6.out, s, ao, co, rfl, HL6, by omega, HG, HN⟩
        case measure => simp [intOf]; omega
      · have hB := blank_iff bx
        by_cases by' : Y.v = blankS
        · have hB' : (Y.v.toList == [95]) = true := by rw [by', ByteArray.toList_eq]; rfl
          have HN : Hid (uni s (la.drop (k + 1)) (lb.drop (k + 1)) = r) := by
            show _ = r
            rw [← uni_blank (x := x) (y := y) (.inr ((res_blank HG.out y).1 (by rw [← HY.out.1]; exact by')))]
            exact HS'.out
          clear bx by' HS'
          go_wp2
          go_roundw
          case rel => exact ⟨k + 1, by omega, by go_num, HBW6.out, s, ao, co, rfl, HL6, by omega, HG, HN⟩
          case measure => simp [intOf]; omega
        · have hB' := blank_iff by'
          have HE : Hid (¬ (x.v = blankS ∨ y.v = blankS)) := fun h => h.elim (fun h => bx (by rw [HX.out.1]; exact (res_blank HG.out x).2 h)) (fun h => by' (by rw [HY.out.1]; exact (res_blank HG.out y).2 h))
          have HBX : Hid (X.v ≠ blankS) := bx
          have HBY : Hid (Y.v ≠ blankS) := by'
          have hE := run_eqT5 X.v X.a.k X.a.n X.a.s Y.v Y.a.k Y.a.n Y.a.s
          clear bx by'
          by_cases e : X = Y
          · have hd : decide ((⟨X.v, X.a.k, X.a.n, X.a.s⟩ : T) = ⟨Y.v, Y.a.k, Y.a.n, Y.a.s⟩) = true := decide_eq_true e
            rw [hd] at hE
            have HN : Hid (uni s (la.drop (k + 1)) (lb.drop (k + 1)) = r) := by
              show _ = r
              rw [← uni_same (x := x) (y := y) (by rw [← HX.out.1, ← HY.out.1]; exact e)]
              exact HS'.out
            clear hd e HS'
            go_wp2
            go_roundw
            case rel => exact ⟨k + 1, by omega, by go_num, HBW6.out, s, ao, co, rfl, HL6, by omega, HG, HN⟩
            case measure => simp [intOf]; omega
          · have hd : decide ((⟨X.v, X.a.k, X.a.n, X.a.s⟩ : T) = ⟨Y.v, Y.a.k, Y.a.n, Y.a.s⟩) = false := decide_eq_false e
            rw [hd] at hE
            by_cases ev : X.v = noS
            · have hv : X.v.toList.isEmpty = true := by rw [ev, ByteArray.toList_eq]; rfl
              by_cases ey : Y.v = noS
              · have hv' : Y.v.toList.isEmpty = true := by rw [ey, ByteArray.toList_eq]; rfl
                have HN : Hid (none = r) := by
                  show none = r
                  rw [← HS'.out, uni_none HE.out (by rw [← HX.out.1, ← HY.out.1]; exact e) (by rw [← HX.out.1]; exact ev) (by rw [← HY.out.1]; exact ey)]
                clear hd e ev ey HS'
                go_wp2
                go_ret2
                refine ⟨⟨.slice none 0 0, ?_, ?_⟩, BW3.out _ HBW6.out⟩
                · rw [← HN.out]; rfl
                · rw [← HN.out]; exact lp_nil _
              · have hv' := some_iff Y.v ey
                have HN : Hid (uni (bindP s Y.v X) (la.drop (k + 1)) (lb.drop (k + 1)) = r) := by
                  show _ = r
                  rw [← HS'.out, uni_right HE.out (by rw [← HX.out.1, ← HY.out.1]; exact e) (by rw [← HX.out.1]; exact ev) (by rw [← HY.out.1]; exact ey), ← HX.out.1, ← HY.out.1]
                have HGB : Hid (G (bindP s Y.v X)) := G_bind HG.out ey HBY.out HBX.out
                clear hd e ev ey HS'
                go_wp2_with fail
                refine (takes_any _ s Y.v X W6 (by omega) HL6.out).mono ?_
                rintro e w2 ⟨sv', rfl, ho', hb'⟩
                have HL7 : Hid (Lp w2 sv' (bindP s Y.v X)) := ⟨ls_own ho', bind_wf HL6.out.wf HY.out.2.text HX.out.2⟩
                obtain ⟨a2, c2, rfl, _⟩ := own_form ho'
                clear ho'
                go_wp2
                go_roundw
                case rel => exact ⟨k + 1, by omega, by go_num, HBW6.out.trans (hb'.mono HBW6.out.size), bindP s Y.v X, a2, c2, rfl, HL7, by rw [bind_length]; omega, HGB, HN⟩
                case measure => simp [intOf]; omega
            · have hv := some_iff X.v ev
              have HN : Hid (uni (bindP s X.v Y) (la.drop (k + 1)) (lb.drop (k + 1)) = r) := by
                show _ = r
                rw [← HS'.out, uni_left HE.out (by rw [← HX.out.1, ← HY.out.1]; exact e) (by rw [← HX.out.1]; exact ev), ← HX.out.1, ← HY.out.1]
              have HGB : Hid (G (bindP s X.v Y)) := G_bind HG.out ev HBX.out HBY.out
              clear hd e ev HS'
              go_wp2_with fail
              refine (takes_any _ s X.v Y W6 (by omega) HL6.out).mono ?_
              rintro e w2 ⟨sv', rfl, ho', hb'⟩
              have HL7 : Hid (Lp w2 sv' (bindP s X.v Y)) := ⟨ls_own ho', bind_wf HL6.out.wf HX.out.2.text HY.out.2⟩
              obtain ⟨a2, c2, rfl, _⟩ := own_form ho'
              clear ho'
              go_wp2
              go_roundw
              case rel => exact ⟨k + 1, by omega, by go_num, HBW6.out.trans (hb'.mono HBW6.out.size), bindP s X.v Y, a2, c2, rfl, HL7, by rw [bind_length]; omega, HGB, HN⟩
              case measure => simp [intOf]; omega
    · obtain rfl : k = m := by omega
      have HV : Hid (some s = r) := by
        show some s = r
        rw [← HS.out, List.drop_of_length_le (by rw [HM.out.1]; exact Nat.le_refl _), List.drop_of_length_le (by rw [HM.out.2]; exact Nat.le_refl _)]
        simp [uni]
      go_wp2
      go_ret2
      refine ⟨⟨.slice ao s.length co, ?_, ?_⟩, BW3.out _ bel⟩
      · rw [← HV.out]; rfl
      · rw [← HV.out]; exact HLs.out
end Go.Proofs.YtnlcnplihjhlfaaDoor
