import Derived.Test.YtnpmhgjbfkgmdaaDoorTermReg
import Derived.Lib.SmallJoins
import Derived.Deep.CutRange
namespace Go.Proofs.YtnpmhgjbfkgmdaaDoor
open Go.RowKit Go.Maps
set_option linter.unusedVariables false
set_option linter.unusedSimpArgs false
attribute [local go_sem ↓] Go.wp_at_zero Go.wp_at_succ

theorem run_eqT5 (v1 : ByteArray) (k1 n1 : Int) (s1 : ByteArray) (v2 : ByteArray) (k2 n2 : Int) (s2 : ByteArray) (w : World) :
    (binOp .eql 38 (.agg #[.string v1, .int .i8 k1, .int .i64 n1, .string s1]) (.agg #[.string v2, .int .i8 k2, .int .i64 n2, .string s2])).run Tryd.prog w = .ok (.bool (decide ((⟨v1, k1, n1, s1⟩ : T) = ⟨v2, k2, n2, s2⟩))) w := by
  by_cases hv : v1.toList = v2.toList
  · have := toList_inj hv
    subst this
    by_cases hk : k1 = k2
    · by_cases hn : n1 = n2
      · by_cases hs : s1.toList = s2.toList
        · have := toList_inj hs
          subst hk hn this
          go_simp
        · have e : decide ((⟨v1, k1, n1, s1⟩ : T) = ⟨v1, k2, n2, s2⟩) = false := decide_eq_false (fun h => hs (by cases h; rfl))
          rw [e]
          go_simp
      · have e : decide ((⟨v1, k1, n1, s1⟩ : T) = ⟨v1, k2, n2, s2⟩) = false := decide_eq_false (fun h => hn (by cases h; rfl))
        rw [e]
        go_simp
    · have e : decide ((⟨v1, k1, n1, s1⟩ : T) = ⟨v1, k2, n2, s2⟩) = false := decide_eq_false (fun h => hk (by cases h; rfl))
      rw [e]
      go_simp
  · have e : decide ((⟨v1, k1, n1, s1⟩ : T) = ⟨v2, k2, n2, s2⟩) = false := decide_eq_false (fun h => hv (by cases h; rfl))
    rw [e]
    go_simp
theorem neq_bytes (a b : ByteArray) : (a.toList != b.toList) = !decide (a = b) := by
  rw [bne, eq_bytes]

/-- what Unify finds -/
def uniA (pa pb : ByteArray) (la lb : List T) : Option (List P) := if pa = pb ∧ la.length = lb.length ∧ atomB pa la = true ∧ atomB pb lb = true then uni [] la lb else none
/-- what Unify answers, as it lies in memory -/
def UniPost (B : Nat) (r : Option (List P)) (e : Ending) (w' : World) : Prop :=
  ∃ sv, e = .returned (.tuple #[sv, .bool r.isSome]) ∧ (r = none → sv = .slice none 0 0) ∧ (∀ s, r = some s → w'.ownsRow B 40 5 sv s.length (s.flatMap P.cells) ∧ (∀ p ∈ s, p.wf) ∧ s.length ≤ 24)
theorem uniA_no {pa pb : ByteArray} {la lb : List T} (h : ¬ (pa = pb ∧ la.length = lb.length ∧ atomB pa la = true ∧ atomB pb lb = true)) : uniA pa pb la lb = none := if_neg h

set_option maxHeartbeats 1600000 in
set_option maxRecDepth 100000 in
theorem unify_no (pa pb : ByteArray) (va vb : Value) (la lb : List T) (w : World) (hpa : pa.size ≤ maxLen) (hpb : pb.size ≤ maxLen) (ha : Lt w va la) (hb : Lt w vb lb) (hno : ¬ (pa = pb ∧ la.length = lb.length ∧ atomB pa la = true ∧ atomB pb lb = true)) :
    Calls Tryd.prog 5 #[.agg #[.string pa, va], .agg #[.string pb, vb]] w fun e w' => e = .returned (.tuple #[.slice none 0 0, .bool false]) ∧ Below w.heap.size w w' := by
  obtain ⟨aa, ca, rfl, hc1, hc2, -⟩ := ha.form
  obtain ⟨ab, cb, rfl, hd1, hd2, -⟩ := hb.form
  have hm1 : la.length ≤ maxLen := Nat.le_trans hc1 hc2
  have hm2 : lb.length ≤ maxLen := Nat.le_trans hd1 hd2
  unfold maxLen at hm1 hm2
  have b0 := ((Below.refl w.heap.size w).alloc (Nat.le_refl _) (.cells #[.string pa, .slice aa la.length ca] 24)).alloc (by simp) (.cells #[.string pb, .slice ab lb.length cb] 24)
  have B0 : Hid _ := b0
  have HA : Hid (Lt w (.slice aa la.length ca) la) := ha
  have HB : Hid (Lt w (.slice ab lb.length cb) lb) := hb
  have HPA : Hid (pa.size ≤ maxLen) := hpa
  have HPB : Hid (pb.size ≤ maxLen) := hpb
  clear ha hb hc1 hc2 hd1 hd2 b0 hpa hpb
  by_cases h1 : pa = pb
  · have hN : (pa.toList == pb.toList) = true := by rw [eq_bytes, decide_eq_true h1]
    by_cases h2 : la.length = lb.length
    · have h2' : ((la.length : Int) != (lb.length : Int)) = false := by simp; omega
      cases h3 : atomB pa la
      · have H3 : Hid _ := h3
        clear hno h1 h2 h3
        go_enter Tryd.func5, Tryd.ntmps5
        go_wp2_with fail
        refine (isAtom_any pa _ la _ HPA.out (HA.out.below B0.out)).mono ?_
        rw [H3.out]
        rintro e w1 ⟨rfl, b1⟩
        go_wp2
        go_ret2
        exact ⟨rfl, B0.out.trans (b1.mono B0.out.size)⟩
      · have h4 : atomB pb lb = false := by
          rw [← Bool.not_eq_true]
          exact fun h => hno ⟨h1, h2, h3, h⟩
        have H3 : Hid _ := h3
        have H4 : Hid _ := h4
        clear hno h1 h2 h3 h4
        go_enter Tryd.func5, Tryd.ntmps5
        go_wp2_with fail
        refine (isAtom_any pa _ la _ HPA.out (HA.out.below B0.out)).mono ?_
        rw [H3.out]
        rintro e w1 ⟨rfl, b1⟩
        have B1 : Hid _ := B0.out.trans (b1.mono B0.out.size)
        have c0 : w1.cell? ⟨w.heap.size + 1, 0, none⟩ = some (.string pb) := by rw [b1.cell (p := ⟨w.heap.size + 1, 0, none⟩) (by simp)]; go_simp
        have c1 : w1.cell? ⟨w.heap.size + 1, 1, none⟩ = some (.slice ab lb.length cb) := by rw [b1.cell (p := ⟨w.heap.size + 1, 1, none⟩) (by simp)]; go_simp
        clear b1
        go_wp2_with fail
        refine (isAtom_any pb _ lb _ HPB.out (HB.out.below B1.out)).mono ?_
        rw [H4.out]
        rintro e w2 ⟨rfl, b2⟩
        go_wp2
        go_ret2
        exact ⟨rfl, B1.out.trans (b2.mono B1.out.size)⟩
    · have h2' : ((la.length : Int) != (lb.length : Int)) = true := by simp; omega
      clear hno h1 h2
      go_enter Tryd.func5, Tryd.ntmps5
      go_wp2
      go_ret2
      exact ⟨rfl, B0.out⟩
  · have hN : (pa.toList == pb.toList) = false := by rw [eq_bytes, decide_eq_false h1]
    clear hno h1
    go_enter Tryd.func5, Tryd.ntmps5
    go_wp2
    go_ret2
    exact ⟨rfl, B0.out⟩

set_option maxHeartbeats 3200000 in
set_option maxRecDepth 100000 in
theorem unify_yes (p : ByteArray) (va vb : Value) (la lb : List T) (w : World) (hp : p.size ≤ maxLen) (ha : Lt w va la) (hb : Lt w vb lb) (hn : la.length = lb.length) (h3 : atomB p la = true) (h4 : atomB p lb = true) :
    Calls Tryd.prog 5 #[.agg #[.string p, va], .agg #[.string p, vb]] w fun e w' => UniPost w.heap.size (uni [] la lb) e w' ∧ Below w.heap.size w w' := by
  obtain ⟨aa, ca, rfl, hc1, hc2, hta⟩ := ha.form
  obtain ⟨ab, cb, rfl, hd1, hd2, htb⟩ := hb.form
  have h24 : la.length ≤ 24 := by
    unfold atomB at h3
    simp only [Bool.and_eq_true, decide_eq_true_eq] at h3
    exact h3.1.2
  obtain ⟨m, hm⟩ : ∃ m, la.length = m := ⟨_, rfl⟩
  have hm' : lb.length = m := by omega
  have B0 : Hid _ := ((Below.refl w.heap.size w).alloc (Nat.le_refl _) (.cells #[.string p, .slice aa la.length ca] 24)).alloc (by simp) (.cells #[.string p, .slice ab lb.length cb] 24)
  have hN : (p.toList == p.toList) = true := by simp
  have h2' : ((la.length : Int) != (lb.length : Int)) = false := by simp; omega
  obtain ⟨r, HR⟩ : ∃ r, Hid (uni [] la lb = r) := ⟨_, rfl⟩
  rw [HR.out]
  have HA : Hid (Lt w (.slice aa la.length ca) la) := ha
  have HB : Hid (Lt w (.slice ab lb.length cb) lb) := hb
  have HTA : Hid _ := hta
  have HTB : Hid _ := htb
  have H3 : Hid _ := h3
  have H4 : Hid _ := h4
  have HWA : Hid (∀ t ∈ la, t.wf) := ha.wf
  have HWB : Hid (∀ t ∈ lb, t.wf) := hb.wf
  clear ha hb hta htb h3 h4 hc1 hc2 hd1 hd2
  have HM : Hid (la.length = m ∧ lb.length = m) := ⟨hm, hm'⟩
  have h24' : Hid (m ≤ 24) := by show m ≤ 24; omega
  clear hm hm' hn h24
  go_enter Tryd.func5, Tryd.ntmps5
  go_wp2_with fail
  refine (isAtom_any p _ la _ hp (HA.out.below B0.out)).mono ?_
  rw [H3.out]
  rintro e w1 ⟨rfl, b1⟩
  have B1 : Hid _ := B0.out.trans (b1.mono B0.out.size)
  have c0 : w1.cell? ⟨w.heap.size + 1, 0, none⟩ = some (.string p) := by rw [b1.cell (p := ⟨w.heap.size + 1, 0, none⟩) (by simp)]; go_simp
  have c1 : w1.cell? ⟨w.heap.size + 1, 1, none⟩ = some (.slice ab lb.length cb) := by rw [b1.cell (p := ⟨w.heap.size + 1, 1, none⟩) (by simp)]; go_simp
  have a1 : w1.cell? ⟨w.heap.size, 1, none⟩ = some (.slice aa la.length ca) := by rw [b1.cell (p := ⟨w.heap.size, 1, none⟩) (by simp; omega)]; go_simp
  have hz1 : w.heap.size + 1 < w1.heap.size := by have := b1.size; simp at this; omega
  clear b1
  go_wp2_with fail
  refine (isAtom_any p _ lb _ hp (HB.out.below B1.out)).mono ?_
  rw [H4.out]
  rintro e W ⟨rfl, b2⟩
  have BW : Hid (Below w.heap.size w W) := B1.out.trans (b2.mono B1.out.size)
  have C1 : W.cell? ⟨w.heap.size + 1, 1, none⟩ = some (.slice ab lb.length cb) := by rw [b2.cell (p := ⟨w.heap.size + 1, 1, none⟩) hz1]; exact c1
  have A1 : W.cell? ⟨w.heap.size, 1, none⟩ = some (.slice aa la.length ca) := by rw [b2.cell (p := ⟨w.heap.size, 1, none⟩) (by show w.heap.size < _; omega)]; exact a1
  have hzW : w.heap.size + 1 < W.heap.size := Nat.lt_of_lt_of_le hz1 b2.size
  clear b2 c0 c1 a1 hz1 B1 B0 h2' hN HA HB H3 H4
  go_wp2
  obtain ⟨hm, hm'⟩ := HM.out
  have HTA' : Hid (0 < m → ∃ g off, aa = some ⟨g, off, none⟩ ∧ g < w.heap.size ∧ ∀ i, i < m → TAt w g (off + i * 4) (atT la i)) := by rw [← hm]; exact HTA.out
  have HTB' : Hid (0 < m → ∃ g off, ab = some ⟨g, off, none⟩ ∧ g < w.heap.size ∧ ∀ i, i < m → TAt w g (off + i * 4) (atT lb i)) := by rw [← hm']; exact HTB.out
  rw [hm] at A1
  rw [hm'] at C1
  rw [hm, hm']
  clear HTA HTB hm hm'
  go_loopw [6, 37] (fun sv i wr => ∃ k : Nat, k ≤ m ∧ i = .int .i64 k ∧ Below W.heap.size W wr ∧ ∃ s, wr.ownsRow W.heap.size 40 5 sv s.length (s.flatMap P.cells) ∧ s.length ≤ k ∧ (∀ p ∈ s, p.wf) ∧ Hid (uni s (la.drop k) (lb.drop k) = r)) (fun _ i _ => m - (intOf i).toNat)
  case atStart => exact ⟨0, Nat.zero_le _, rfl, Below.refl _ _, [], World.ownsRow_nil _ _ _ _, by simp, by simp, HR⟩
  case round =>
    obtain ⟨k, hk, rfl, bel, s, ho, hsl, hsw, HS⟩ := hrel
    have A2 : wr.cell? ⟨w.heap.size, 1, none⟩ = some (.slice aa m ca) := by rw [bel.cell (p := ⟨w.heap.size, 1, none⟩) (by show w.heap.size < _; omega)]; exact A1
    have C2 : wr.cell? ⟨w.heap.size + 1, 1, none⟩ = some (.slice ab m cb) := by rw [bel.cell (p := ⟨w.heap.size + 1, 1, none⟩) hzW]; exact C1
    have bwr := BW.out.trans (bel.mono BW.out.size)
    have hzr : w.heap.size + 1 < wr.heap.size := Nat.lt_of_lt_of_le hzW bel.size
    have h24 := h24'.out
    obtain ⟨ao, co, rfl, hlo⟩ := own_form ho
    by_cases hlt : k < m
    · have hlt' : (k : Int) < (m : Int) := by omega
      obtain ⟨hm, hm'⟩ := HM.out
      obtain ⟨g, off, rfl, hg, hT⟩ := HTA'.out (by omega)
      obtain ⟨g', off', rfl, hg', hT'⟩ := HTB'.out (by omega)
      obtain ⟨x0, x1, x2, x3⟩ := (hT k (by omega)).below bwr hg
      obtain ⟨y0, y1, y2, y3⟩ := (hT' k (by omega)).below bwr hg'
      have hxw := atT_wf HWA.out k
      have hyw := atT_wf HWB.out k
      have e1 : la.drop k = atT la k :: la.drop (k + 1) := by rw [atT_eq (by omega)]; exact List.drop_eq_getElem_cons (by omega)
      have e2 : lb.drop k = atT lb k :: lb.drop (k + 1) := by rw [atT_eq (by omega)]; exact List.drop_eq_getElem_cons (by omega)
      have HS' : Hid (uni s (atT la k :: la.drop (k + 1)) (atT lb k :: lb.drop (k + 1)) = r) := by show _ = r; rw [← e1, ← e2]; exact HS.out
      clear HS e1 e2 hT hT' HTA' HTB' hm hm'
      generalize atT la k = x at x0 x1 x2 x3 hxw HS'
      generalize atT lb k = y at y0 y1 y2 y3 hyw HS'
      by_cases ex : x.v = blankS
      · have hB : (x.v.toList == [95]) = true := by rw [ex, ByteArray.toList_eq]; rfl
        have HN : Hid (uni s (la.drop (k + 1)) (lb.drop (k + 1)) = r) := by show _ = r; rw [← uni_blank (.inl ex)]; exact HS'.out
        clear ex HS'
        go_wp2
        go_roundw
        case rel => exact ⟨k + 1, by omega, by go_num, bel, s, ho, by omega, hsw, HN⟩
        case measure => simp [intOf]; omega
      · have hB := blank_iff ex
        by_cases ey : y.v = blankS
        · have hB' : (y.v.toList == [95]) = true := by rw [ey, ByteArray.toList_eq]; rfl
          have HN : Hid (uni s (la.drop (k + 1)) (lb.drop (k + 1)) = r) := by show _ = r; rw [← uni_blank (.inr ey)]; exact HS'.out
          clear ex ey HS'
          go_wp2
          go_roundw
          case rel => exact ⟨k + 1, by omega, by go_num, bel, s, ho, by omega, hsw, HN⟩
          case measure => simp [intOf]; omega
        · have hB' := blank_iff ey
          have KA : Hid (∀ w', Below wr.heap.size wr w' → w'.cell? ⟨w.heap.size, 1, none⟩ = some (.slice (some ⟨g, off, none⟩) m ca)) := fun w' hb => by rw [hb.cell (p := ⟨w.heap.size, 1, none⟩) (by show w.heap.size < _; omega)]; exact A2
          have KC : Hid (∀ w', Below wr.heap.size wr w' → w'.cell? ⟨w.heap.size + 1, 1, none⟩ = some (.slice (some ⟨g', off', none⟩) m cb)) := fun w' hb => by rw [hb.cell (p := ⟨w.heap.size + 1, 1, none⟩) hzr]; exact C2
          have KX0 : Hid (∀ w', Below wr.heap.size wr w' → TAt w' g (off + k * 4) x) := fun w' hb => TAt.below ⟨x0, x1, x2, x3⟩ hb (by omega)
          have KY0 : Hid (∀ w', Below wr.heap.size wr w' → TAt w' g' (off' + k * 4) y) := fun w' hb => TAt.below ⟨y0, y1, y2, y3⟩ hb (by omega)
          have KL : Hid (∀ w', Below wr.heap.size wr w' → Lp w' (.slice ao s.length co) s) := fun w' hb => ⟨(ls_own ho).below hb, hsw⟩
          have KX : Hid (x.wf ∧ y.wf) := ⟨hxw, hyw⟩
          have HO : Hid _ := ho
          have HSW : Hid (∀ p ∈ s, p.wf) := hsw
          obtain ⟨X, hX⟩ : ∃ X, X = res s x := ⟨_, rfl⟩
          obtain ⟨Y, hY⟩ : ∃ Y, Y = res s y := ⟨_, rfl⟩
          have HX : Hid (X = res s x ∧ X.wf) := ⟨hX, by rw [hX]; exact res_wf hsw hxw⟩
          have HY : Hid (Y = res s y ∧ Y.wf) := ⟨hY, by rw [hY]; exact res_wf hsw hyw⟩
          have HE : Hid (¬ (x.v = blankS ∨ y.v = blankS)) := fun h => h.elim ex ey
          have KR : Hid (∀ w', Below wr.heap.size wr w' → Calls Tryd.prog 17 #[.slice ao s.length co, .agg #[.string x.v, .int .i8 x.a.k, .int .i64 x.a.n, .string x.a.s]] w' fun e w2 => e = .returned (.agg #[.string X.v, .int .i8 X.a.k, .int .i64 X.a.n, .string X.a.s]) ∧ Below w'.heap.size w' w2) := by
            intro w' hb; rw [hX]; exact resolve_any _ s x w' (KL.out w' hb) hxw
          have KR' : Hid (∀ w', Below wr.heap.size wr w' → Calls Tryd.prog 17 #[.slice ao s.length co, .agg #[.string y.v, .int .i8 y.a.k, .int .i64 y.a.n, .string y.a.s]] w' fun e w2 => e = .returned (.agg #[.string Y.v, .int .i8 Y.a.k, .int .i64 Y.a.n, .string Y.a.s]) ∧ Below w'.heap.size w' w2) := by
            intro w' hb; rw [hY]; exact resolve_any _ s y w' (KL.out w' hb) hyw
          have hge : (0 : Int) ≤ (k : Int) := by omega
          clear hxw hyw hsw ho hX hY ex ey
          have HBEL : Hid (Below W.heap.size W wr ∧ Below w.heap.size w wr) := ⟨bel, bwr⟩
          clear HR HWA HWB HM h24' BW bwr bel A1 C1
          go_upto_region 8 with fail
          go_cut [8, 9, 37] from 37 to 92 (fun p8 p9 i wc => i = .int .i64 k ∧ ∃ b8 b9, p8 = .pointer (some ⟨b8, 0, none⟩) ∧ p9 = .pointer (some ⟨b9, 0, none⟩) ∧ Below wr.heap.size wr wc ∧ TAt wc b8 0 X ∧ TAt wc b9 0 Y)
          case first =>
            refine wp_region_noPanic ?_
            refine wp_region_held (S := fun w' => Below wr.heap.size wr w') (by kernel_rfl) ?_
            refine region8 (X := X) (Y := Y) (sv := .slice ao s.length co) (x := x) (y := y) (wr := wr) (ts := #[26, 38]) (ba := w.heap.size) (bb := w.heap.size + 1) (g := g) (off := off) (g' := g') (off' := off') (n := m) (ca := ca) (cb := cb) (k := k) (by show _ = _; kernel_rfl) (by show _ = _; kernel_rfl) (by show _ = _; kernel_rfl) (by show _ = _; kernel_rfl) (by show _ = _; kernel_rfl) (by show _ = _; kernel_rfl) (by show _ = _; kernel_rfl) (by show _ = _; kernel_rfl) (by show _ = _; kernel_rfl) (by show _ = _; kernel_rfl) (by show _ = _; kernel_rfl) (by show _ = _; kernel_rfl) (by show _ = _; kernel_rfl) (by show _ = _; kernel_rfl) (by show _ = _; kernel_rfl) (by show _ = _; kernel_rfl) (by show _ = _; kernel_rfl) (by show _ = _; kernel_rfl) (by kernel_rfl) (by kernel_rfl)
              (by kernel_rfl) (by kernel_rfl) (by kernel_rfl) (by kernel_rfl) (by kernel_rfl) (by kernel_rfl) (by kernel_rfl) (by kernel_rfl) (by kernel_rfl) (by kernel_rfl) (by kernel_rfl) (by kernel_rfl) (by kernel_rfl) (by kernel_rfl)
              (fun _ _ _ _ _ h => h) (by simp) rfl rfl rfl rfl hlt KA.out KC.out KX0.out KY0.out KR.out KR'.out ?_
            intro b8 b9 wc hb t8 t9
            refine NoPanic.normal ?_
            rename_i hJ hK
            refine hK _ _ (Met.intro (hJ _ _ ?_))
            clear hJ hK
            simp only [Act.put, List.setIfInBounds_toArray, List.set_cons_succ, List.set_cons_zero]
            (repeat apply Exists.intro)
            refine ⟨?rel, rfl⟩
            case rel => exact ⟨rfl, b8, b9, rfl, rfl, hb, t8, t9⟩
          case rest =>
            obtain ⟨rfl, b8, b9, rfl, rfl, hbc, t8, t9⟩ := hcut
            have HSO : Hid (wc.ownsRow W.heap.size 40 5 (.slice ao s.length co) s.length (s.flatMap P.cells)) := own_below HO.out hbc
            have HBC : Hid (Below W.heap.size W wc ∧ Below w.heap.size w wc) := ⟨HBEL.out.1.trans (hbc.mono HBEL.out.1.size), HBEL.out.2.trans (hbc.mono HBEL.out.2.size)⟩
            obtain ⟨p0, p1, p2, p3⟩ := t8
            obtain ⟨q0, q1, q2, q3⟩ := t9
            simp only [Nat.zero_add] at p1 p2 p3 q1 q2 q3
            have hE := run_eqT5 X.v X.a.k X.a.n X.a.s Y.v Y.a.k Y.a.n Y.a.s
            have HXY : Hid (uni s (x :: la.drop (k + 1)) (y :: lb.drop (k + 1)) = r ∧ ¬ (x.v = blankS ∨ y.v = blankS) ∧ X = res s x ∧ Y = res s y ∧ X.wf ∧ Y.wf) := ⟨HS'.out, HE.out, HX.out.1, HY.out.1, HX.out.2, HY.out.2⟩
            clear HS' HE HX HY KA KC KX0 KY0 KL KX KR KR' hbc A2 C2 x0 x1 x2 x3 y0 y1 y2 y3 hB hB' HO HBEL
            have hzc := HBC.out.1.size
            by_cases e : X = Y
            · have hd : decide ((⟨X.v, X.a.k, X.a.n, X.a.s⟩ : T) = ⟨Y.v, Y.a.k, Y.a.n, Y.a.s⟩) = true := decide_eq_true e
              rw [hd] at hE
              have HN : Hid (uni s (la.drop (k + 1)) (lb.drop (k + 1)) = r) := by
                obtain ⟨h1, h2, h3, h4, _⟩ := HXY.out
                show _ = r
                rw [← uni_same (x := x) (y := y) (by rw [← h3, ← h4]; exact e)]
                exact h1
              clear hd e
              go_wp2
              go_roundw
              case rel => exact ⟨k + 1, by omega, by go_num, HBC.out.1, s, HSO.out, by omega, HSW.out, HN⟩
              case measure => simp [intOf]; omega
            · have hd : decide ((⟨X.v, X.a.k, X.a.n, X.a.s⟩ : T) = ⟨Y.v, Y.a.k, Y.a.n, Y.a.s⟩) = false := decide_eq_false e
              rw [hd] at hE
              by_cases ev : X.v = noS
              · have hv : X.v.toList.isEmpty = true := by rw [ev, ByteArray.toList_eq]; rfl
                by_cases ey : Y.v = noS
                · have hv' : Y.v.toList.isEmpty = true := by rw [ey, ByteArray.toList_eq]; rfl
                  have HN : Hid (none = r) := by
                    obtain ⟨h1, h2, h3, h4, _⟩ := HXY.out
                    show none = r
                    rw [← h1, uni_none h2 (by rw [← h3, ← h4]; exact e) (by rw [← h3]; exact ev) (by rw [← h4]; exact ey)]
                  clear hd e ev ey
                  go_wp2
                  go_ret2
                  refine ⟨⟨.slice none 0 0, ?_, fun _ => rfl, fun s' h => ?_⟩, HBC.out.2⟩
                  · rw [← HN.out]; rfl
                  · rw [← HN.out] at h; cases h
                · have hv' := some_iff Y.v ey
                  have HN : Hid (uni (bindP s Y.v X) (la.drop (k + 1)) (lb.drop (k + 1)) = r) := by
                    obtain ⟨h1, h2, h3, h4, _⟩ := HXY.out
                    show _ = r
                    rw [← h1, uni_right h2 (by rw [← h3, ← h4]; exact e) (by rw [← h3]; exact ev) (by rw [← h4]; exact ey), h3, h4]
                  clear hd e ev ey
                  go_wp2_with fail
                  refine (bind_any W.heap.size _ s Y.v X wc hzc HSO.out (by omega)).mono ?_
                  rintro e w2 ⟨sv', rfl, ho', hb'⟩
                  obtain ⟨a2, c2, rfl, _⟩ := own_form ho'
                  go_wp2
                  go_roundw
                  case rel => exact ⟨k + 1, by omega, by go_num, HBC.out.1.trans hb', bindP s Y.v X, ho', by rw [bind_length]; omega, bind_wf HSW.out HXY.out.2.2.2.2.2.text HXY.out.2.2.2.2.1, HN⟩
                  case measure => simp [intOf]; omega
              · have hv := some_iff X.v ev
                have HN : Hid (uni (bindP s X.v Y) (la.drop (k + 1)) (lb.drop (k + 1)) = r) := by
                  obtain ⟨h1, h2, h3, h4, _⟩ := HXY.out
                  show _ = r
                  rw [← h1, uni_left h2 (by rw [← h3, ← h4]; exact e) (by rw [← h3]; exact ev), h3, h4]
                clear hd e ev
                go_wp2_with fail
                refine (bind_any W.heap.size _ s X.v Y wc hzc HSO.out (by omega)).mono ?_
                rintro e w2 ⟨sv', rfl, ho', hb'⟩
                obtain ⟨a2, c2, rfl, _⟩ := own_form ho'
                go_wp2
                go_roundw
                case rel => exact ⟨k + 1, by omega, by go_num, HBC.out.1.trans hb', bindP s X.v Y, ho', by rw [bind_length]; omega, bind_wf HSW.out HXY.out.2.2.2.2.1.text HXY.out.2.2.2.2.2, HN⟩
                case measure => simp [intOf]; omega
    · obtain rfl : k = m := by omega
      obtain ⟨hm, hm'⟩ := HM.out
      have HV : Hid (some s = r) := by
        show some s = r
        rw [← HS.out, List.drop_of_length_le (by omega), List.drop_of_length_le (by omega)]
        simp [uni]
      clear hm hm'
      go_wp2
      go_ret2
      refine ⟨⟨.slice ao s.length co, ?_, fun h => ?_, fun s' h => ?_⟩, bwr⟩
      · rw [← HV.out]; rfl
      · rw [← HV.out] at h; cases h
      · rw [← HV.out] at h
        cases h
        exact ⟨Go.Joins.ownsRow_le ho BW.out.size, hsw, by omega⟩
end Go.Proofs.YtnpmhgjbfkgmdaaDoor
