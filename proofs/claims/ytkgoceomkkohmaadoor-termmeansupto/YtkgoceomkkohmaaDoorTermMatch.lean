import Derived.Test.YtkgoceomkkohmaaDoorTermVal
import Derived.Lib.SmallJoins
namespace Go.Proofs.YtkgoceomkkohmaaDoor
open Go.RowKit Go.Maps
set_option linter.unusedVariables false
set_option linter.unusedSimpArgs false
attribute [local go_sem ↓] Go.wp_at_zero Go.wp_at_succ

theorem run_neqV (k1 n1 : Int) (s1 : ByteArray) (k2 n2 : Int) (s2 : ByteArray) (w : World) :
    (binOp .neq 26 (.agg #[.int .i8 k1, .int .i64 n1, .string s1]) (.agg #[.int .i8 k2, .int .i64 n2, .string s2])).run Tryd.prog w = .ok (.bool (!decide ((⟨k1, n1, s1⟩ : V) = ⟨k2, n2, s2⟩))) w := by
  by_cases hk : k1 = k2
  · by_cases hn : n1 = n2
    · by_cases hs : s1.toList = s2.toList
      · have := toList_inj hs
        subst hk hn this
        go_simp
      · have e : decide ((⟨k1, n1, s1⟩ : V) = ⟨k2, n2, s2⟩) = false := decide_eq_false (fun h => hs (by cases h; rfl))
        rw [e]
        go_simp
    · have e : decide ((⟨k1, n1, s1⟩ : V) = ⟨k2, n2, s2⟩) = false := decide_eq_false (fun h => hn (by cases h; rfl))
      rw [e]
      go_simp
  · have e : decide ((⟨k1, n1, s1⟩ : V) = ⟨k2, n2, s2⟩) = false := decide_eq_false (fun h => hk (by cases h; rfl))
    rw [e]
    go_simp
def matA (pa pf : ByteArray) (la : List T) (lf : List V) : Option (List B) := if pa = pf ∧ la.length = lf.length ∧ atomB pa la = true then mat [] la lf else none
def MatPost (B0 : Nat) (r : Option (List B)) (e : Ending) (w' : World) : Prop :=
  ∃ sv, e = .returned (.tuple #[sv, .bool r.isSome]) ∧ (r = none → sv = .slice none 0 0) ∧ (∀ s, r = some s → w'.ownsRow B0 41 4 sv s.length (s.flatMap B.cells) ∧ (∀ p ∈ s, p.wf) ∧ s.length ≤ 24)
theorem atV_wf {l : List V} (h : ∀ t ∈ l, t.wf) (i : Nat) : (atV l i).wf := by
  by_cases hi : i < l.length
  · rw [atV_eq hi]; exact h _ (List.getElem_mem hi)
  · unfold atV
    rw [List.getD, List.getElem?_eq_none (by omega)]
    exact V0.ok
theorem mat_bad {out : List B} {t : T} {v : V} {ts : List T} {vs : List V} (h : okV v = false) : mat out (t :: ts) (v :: vs) = none := by rw [mat, if_neg (by rw [h]; decide)]
theorem mat_blank {out : List B} {t : T} {v : V} {ts : List T} {vs : List V} (h : okV v = true) (hb : t.v = blankS) : mat out (t :: ts) (v :: vs) = mat out ts vs := by rw [mat, if_pos h, if_pos hb]
theorem mat_new {out : List B} {t : T} {v : V} {ts : List T} {vs : List V} (h : okV v = true) (hb : ¬ t.v = blankS) (hn : valOf t out = none) : mat out (t :: ts) (v :: vs) = mat (out ++ [⟨t.v, v⟩]) ts vs := by rw [mat, if_pos h, if_neg hb, hn]
theorem mat_old {out : List B} {t : T} {v a : V} {ts : List T} {vs : List V} (h : okV v = true) (hb : ¬ t.v = blankS) (hn : valOf t out = some a) : mat out (t :: ts) (v :: vs) = if a = v then mat out ts vs else none := by rw [mat, if_pos h, if_neg hb, hn]

theorem infoB : (Tryd.prog.info? 41).map (fun i => (i.zero, i.size, i.bytes)) = some (some (.agg #[.string ⟨#[]⟩, .int .i8 0, .int .i64 0, .string ⟨#[]⟩]), 4, 48) := by kernel_rfl
set_option maxHeartbeats 1600000 in
set_option maxRecDepth 100000 in
theorem match_yes (p : ByteArray) (va vf : Value) (la : List T) (lf : List V) (w : World) (hp : p.size ≤ maxLen) (ha : Lt w va la) (hf : Lv w vf lf) (hn : la.length = lf.length) (h3 : atomB p la = true) :
    Calls Tryd.prog 18 #[.agg #[.string p, va], .agg #[.string p, vf]] w fun e w' => MatPost w.heap.size (mat [] la lf) e w' ∧ Below w.heap.size w w' := by
  obtain ⟨i0, hi0, hz0, hz1, hz2⟩ := info_parts infoB
  obtain ⟨aa, ca, rfl, hc1, hc2, hta⟩ := ha.form
  obtain ⟨ab, cb, rfl, hd1, hd2, htb⟩ := hf.form
  have h24 : la.length ≤ 24 := by
    unfold atomB at h3
    simp only [Bool.and_eq_true, decide_eq_true_eq] at h3
    exact h3.1.2
  obtain ⟨m, hm⟩ : ∃ m, la.length = m := ⟨_, rfl⟩
  have hm' : lf.length = m := by omega
  have B0 : Hid _ := ((Below.refl w.heap.size w).alloc (Nat.le_refl _) (.cells #[.string p, .slice aa la.length ca] 55)).alloc (by simp) (.cells #[.string p, .slice ab lf.length cb] 58)
  have hN : (p.toList == p.toList) = true := by simp
  have h2' : ((la.length : Int) != (lf.length : Int)) = false := by simp; omega
  obtain ⟨r, HR⟩ : ∃ r, Hid (mat [] la lf = r) := ⟨_, rfl⟩
  rw [HR.out]
  have HA : Hid (Lt w (.slice aa la.length ca) la) := ha
  have HTA : Hid _ := hta
  have HTB : Hid _ := htb
  have H3 : Hid _ := h3
  have HWA : Hid (∀ t ∈ la, t.wf) := ha.wf
  have HWB : Hid (∀ t ∈ lf, t.wf) := hf.wf
  clear ha hf hta htb h3 hc1 hc2 hd1 hd2
  have HM : Hid (la.length = m ∧ lf.length = m) := ⟨hm, hm'⟩
  have h24' : Hid (m ≤ 24) := by show m ≤ 24; omega
  clear hm hm' hn h24
  go_enter Tryd.func18, Tryd.ntmps18
  go_wp2_with fail
  refine (isAtom_any p _ la _ hp (HA.out.below B0.out)).mono ?_
  rw [H3.out]
  rintro e W ⟨rfl, b1⟩
  have BW : Hid (Below w.heap.size w W) := B0.out.trans (b1.mono B0.out.size)
  have C1 : W.cell? ⟨w.heap.size + 1, 1, none⟩ = some (.slice ab lf.length cb) := by rw [b1.cell (p := ⟨w.heap.size + 1, 1, none⟩) (by simp)]; go_simp
  have A1 : W.cell? ⟨w.heap.size, 1, none⟩ = some (.slice aa la.length ca) := by rw [b1.cell (p := ⟨w.heap.size, 1, none⟩) (by simp; omega)]; go_simp
  have hzW : w.heap.size + 1 < W.heap.size := by have := b1.size; simp at this; omega
  clear b1 B0 h2' hN HA H3
  go_wp2
  obtain ⟨hm, hm'⟩ := HM.out
  have HTA' : Hid (0 < m → ∃ g off, aa = some ⟨g, off, none⟩ ∧ g < w.heap.size ∧ ∀ i, i < m → TAt w g (off + i * 4) (atT la i)) := by rw [← hm]; exact HTA.out
  have HTB' : Hid (0 < m → ∃ g off, ab = some ⟨g, off, none⟩ ∧ g < w.heap.size ∧ ∀ i, i < m → VAt w g (off + i * 3) (atV lf i)) := by rw [← hm']; exact HTB.out
  rw [hm] at A1
  rw [hm'] at C1
  rw [hm, hm']
  clear HTA HTB hm hm'
  go_loopw [6, 34] (fun sv i wr => ∃ k : Nat, k ≤ m ∧ i = .int .i64 k ∧ Below W.heap.size W wr ∧ ∃ s, wr.ownsRow W.heap.size 41 4 sv s.length (s.flatMap B.cells) ∧ s.length ≤ k ∧ (∀ p ∈ s, p.wf) ∧ Hid (mat s (la.drop k) (lf.drop k) = r)) (fun _ i _ => m - (intOf i).toNat)
  case atStart => exact ⟨0, Nat.zero_le _, rfl, Below.refl _ _, [], World.ownsRow_nil _ _ _ _, by simp, by simp, HR⟩
  case round =>
    obtain ⟨k, hk, rfl, bel, s, ho, hsl, hsw, HS⟩ := hrel
    have A2 : wr.cell? ⟨w.heap.size, 1, none⟩ = some (.slice aa m ca) := by rw [bel.cell (p := ⟨w.heap.size, 1, none⟩) (by show w.heap.size < _; omega)]; exact A1
    have C2 : wr.cell? ⟨w.heap.size + 1, 1, none⟩ = some (.slice ab m cb) := by rw [bel.cell (p := ⟨w.heap.size + 1, 1, none⟩) hzW]; exact C1
    have BWR : Hid (Below w.heap.size w wr) := BW.out.trans (bel.mono BW.out.size)
    have hzr : w.heap.size + 1 < wr.heap.size := Nat.lt_of_lt_of_le hzW bel.size
    have h24 := h24'.out
    have HO : Hid _ := ho
    have HSW : Hid (∀ b ∈ s, b.wf) := hsw
    have HBEL : Hid (Below W.heap.size W wr) := bel
    obtain ⟨ao, co, rfl, hlo⟩ := own_form ho
    by_cases hlt : k < m
    · have hlt' : (k : Int) < (m : Int) := by omega
      obtain ⟨hm, hm'⟩ := HM.out
      obtain ⟨g, off, rfl, hg, hT⟩ := HTA'.out (by omega)
      obtain ⟨g', off', rfl, hg', hT'⟩ := HTB'.out (by omega)
      obtain ⟨x0, x1, x2, x3⟩ := (hT k (by omega)).below BWR.out hg
      have BA := (Below.refl wr.heap.size wr).alloc (Nat.le_refl _) (.cells #[.string (atT la k).v, .int .i8 (atT la k).a.k, .int .i64 (atT la k).a.n, .string (atT la k).a.s] 28)
      have hgz : g' < wr.heap.size := Nat.lt_of_lt_of_le hg' BWR.out.size
      obtain ⟨y0, y1, y2⟩ := ((hT' k (by omega)).below BWR.out hg').below BA hgz
      have C3 : (wr.alloc (.cells #[.string (atT la k).v, .int .i8 (atT la k).a.k, .int .i64 (atT la k).a.n, .string (atT la k).a.s] 28)).cell? ⟨w.heap.size + 1, 1, none⟩ = some (.slice (some ⟨g', off', none⟩) m cb) := by rw [BA.cell (p := ⟨w.heap.size + 1, 1, none⟩) hzr]; exact C2
      have hxw := atT_wf HWA.out k
      have hyw := atV_wf HWB.out k
      have e1 : la.drop k = atT la k :: la.drop (k + 1) := by rw [atT_eq (by omega)]; exact List.drop_eq_getElem_cons (by omega)
      have e2 : lf.drop k = atV lf k :: lf.drop (k + 1) := by rw [atV_eq (by omega)]; exact List.drop_eq_getElem_cons (by omega)
      have HS' : Hid (mat s (atT la k :: la.drop (k + 1)) (atV lf k :: lf.drop (k + 1)) = r) := by show _ = r; rw [← e1, ← e2]; exact HS.out
      clear HS e1 e2 hT hT' HTA' HTB' hm hm' BA ho hsw bel
      generalize atT la k = x at *
      generalize atV lf k = y at *
      have HYW : Hid _ := hyw
      have HXW : Hid _ := hxw
      clear hyw hxw
      have hB2 := ((Below.refl wr.heap.size wr).alloc (Nat.le_refl _) (.cells #[.string x.v, .int .i8 x.a.k, .int .i64 x.a.n, .string x.a.s] 28)).alloc (by simp) (.cells #[.int .i8 y.k, .int .i64 y.n, .string y.s] 26)
      have hT8 : TAt ((wr.alloc (.cells #[.string x.v, .int .i8 x.a.k, .int .i64 x.a.n, .string x.a.s] 28)).alloc (.cells #[.int .i8 y.k, .int .i64 y.n, .string y.s] 26)) wr.heap.size 0 x := by refine ⟨?_, ?_, ?_, ?_⟩ <;> go_simp
      have hV9 : VAt ((wr.alloc (.cells #[.string x.v, .int .i8 x.a.k, .int .i64 x.a.n, .string x.a.s] 28)).alloc (.cells #[.int .i8 y.k, .int .i64 y.n, .string y.s] 26)) (wr.heap.size + 1) 0 y := by refine ⟨?_, ?_, ?_⟩ <;> go_simp
      have HB2 : Hid _ := hB2
      have HT8 : Hid _ := hT8
      have HV9 : Hid _ := hV9
      clear hB2 hT8 hV9
      go_wp2_with fail
      refine (vcheck_any y.k y.n y.s _ HYW.out.text).mono ?_
      rintro e w3 ⟨rfl, b3⟩
      have hl8 : wr.heap.size < w3.heap.size := by have := b3.size; simp at this; omega
      have hl9 : wr.heap.size + 1 < w3.heap.size := by have := b3.size; simp at this; omega
      have T3 := HT8.out.below b3 (by simp; omega)
      have V3 := HV9.out.below b3 (by simp)
      have B3 : Hid (Below wr.heap.size wr w3) := HB2.out.trans (b3.mono HB2.out.size)
      clear b3 x0 x1 x2 x3 y0 y1 y2 C3
      obtain ⟨p0, p1, p2, p3⟩ := id T3
      obtain ⟨q0, q1, q2⟩ := id V3
      simp only [Nat.zero_add] at p1 p2 p3 q1 q2
      have HT3 : Hid _ := T3
      have HV3 : Hid _ := V3
      clear T3 V3 A2 C2
      have HWB3 : Hid (Below W.heap.size W w3 ∧ Below w.heap.size w w3) := ⟨HBEL.out.trans (B3.out.mono HBEL.out.size), BWR.out.trans (B3.out.mono BWR.out.size)⟩
      have HO3 : Hid (w3.ownsRow W.heap.size 41 4 (.slice ao s.length co) s.length (s.flatMap B.cells)) := own_below HO.out B3.out
      by_cases hc : chk y.k y.n y.s = 0
      · rw [hc]
        have HOK : Hid (okV y = true) := by show okV y = true; unfold okV chkV; rw [hc]; rfl
        clear hc
        by_cases ex : x.v = blankS
        · have hB : (x.v.toList == [95]) = true := by rw [ex, ByteArray.toList_eq]; rfl
          have HN : Hid (mat s (la.drop (k + 1)) (lf.drop (k + 1)) = r) := by show _ = r; rw [← HS'.out, mat_blank HOK.out ex]
          clear ex HS'
          go_wp2
          go_roundw
          case rel => exact ⟨k + 1, by omega, by go_num, HWB3.out.1, s, HO3.out, by omega, HSW.out, HN⟩
          case measure => simp [intOf]; omega
        · have hB := blank_iff ex
          have HEX : Hid (¬ x.v = blankS) := ex
          clear ex
          go_wp2_with fail
          refine (valueOf_any x _ s w3 HXW.out ⟨(ls_own HO.out).below B3.out, HSW.out⟩).mono ?_
          rintro e w4 ⟨rfl, b4⟩
          have HB4 : Hid (Below W.heap.size W w4 ∧ Below w.heap.size w w4) := ⟨HWB3.out.1.trans (b4.mono HWB3.out.1.size), HWB3.out.2.trans (b4.mono HWB3.out.2.size)⟩
          have HO4 : Hid (w4.ownsRow W.heap.size 41 4 (.slice ao s.length co) s.length (s.flatMap B.cells)) := own_below HO3.out b4
          have hz4 := b4.size
          cases hv : valOf x s with
          | none =>
            have HN : Hid (mat (s ++ [⟨x.v, y⟩]) (la.drop (k + 1)) (lf.drop (k + 1)) = r) := by show _ = r; rw [← HS'.out, mat_new HOK.out HEX.out hv]
            have BA4 := (Below.refl w4.heap.size w4).alloc (Nat.le_refl _) (.cells #[.int .i8 0, .int .i64 0, .string ⟨#[]⟩] 26)
            have HO5 : Hid ((w4.alloc (.cells #[.int .i8 0, .int .i64 0, .string ⟨#[]⟩] 26)).ownsRow W.heap.size 41 4 (.slice ao s.length co) s.length (s.flatMap B.cells)) := own_below HO4.out BA4
            obtain ⟨t0, t1, t2, t3⟩ := (HT3.out.below b4 hl8).below BA4 (by omega)
            obtain ⟨u0, u1, u2⟩ := (HV3.out.below b4 hl9).below BA4 (by omega)
            simp only [Nat.zero_add] at t1 t2 t3 u1 u2
            clear p0 p1 p2 p3 q0 q1 q2 hv b4 HS'
            unfold optV
            dsimp only
            have HB5 : Hid _ := BA4
            clear BA4
            go_upto_region 13 with fail
            have HB6 : Hid (Below W.heap.size W (w4.alloc (.cells #[.int .i8 0, .int .i64 0, .string ⟨#[]⟩] 26))) := HB4.out.1.alloc HB4.out.1.size _
            generalize w4.alloc (.cells #[.int .i8 0, .int .i64 0, .string ⟨#[]⟩] 26) = W5 at t0 t1 t2 t3 u0 u1 u2 HO5 HB5 HB6 ⊢
            go_wp2_with (at_builtin; refine wpList_append_own_at _ rfl _ _ 32 rfl W.heap.size 41 i0 _ 4 48 Tryd.underlying32 hi0 hz0 hz1 hz2 rfl (by decide) _ _ _ rfl (own_below HO5.out ((Below.refl _ _).alloc (Nat.le_refl _) _)) ⟨_, 0, none⟩ 1 1 [.string x.v, .int .i8 y.k, .int .i64 y.n, .string y.s] rfl rfl (lit_news _ #[.string x.v, .int .i8 y.k, .int .i64 y.n, .string y.s] _) (by simp [Value.oneCell']) (by unfold maxLen; omega) (by omega) (by have := HB6.out.size; simp; omega) ?_; intro v' w5 hown' hgrow hnil hloc; obtain ⟨a5, c5, rfl, _⟩ := own_form hown')
            go_roundw
            case rel =>
              refine ⟨k + 1, by omega, by go_num, ?_, s ++ [⟨x.v, y⟩], ?_, by simp; omega, ?_, HN⟩
              · exact (HB6.out.alloc HB6.out.size _).grown hgrow (by have := HB6.out.size; simp; omega) (fun j hj => (HO4.out.lt j hj).1)
              · rw [List.flatMap_append, List.length_append]
                exact hown'
              · intro b hb
                rcases List.mem_append.1 hb with h | h
                · exact HSW.out b h
                · rw [List.mem_singleton.1 h]; exact ⟨HXW.out.text, HYW.out⟩
            case measure => simp [intOf]; omega
          | some a =>
            have hE := run_neqV a.k a.n a.s y.k y.n y.s
            have BA4 := (Below.refl w4.heap.size w4).alloc (Nat.le_refl _) (.cells #[.int .i8 a.k, .int .i64 a.n, .string a.s] 26)
            have HO5 : Hid ((w4.alloc (.cells #[.int .i8 a.k, .int .i64 a.n, .string a.s] 26)).ownsRow W.heap.size 41 4 (.slice ao s.length co) s.length (s.flatMap B.cells)) := own_below HO4.out BA4
            obtain ⟨u0, u1, u2⟩ := (HV3.out.below b4 hl9).below BA4 (by omega)
            simp only [Nat.zero_add] at u1 u2
            have HB5 : Hid (Below W.heap.size W (w4.alloc (.cells #[.int .i8 a.k, .int .i64 a.n, .string a.s] 26)) ∧ Below w.heap.size w (w4.alloc (.cells #[.int .i8 a.k, .int .i64 a.n, .string a.s] 26))) := ⟨HB4.out.1.alloc HB4.out.1.size _, HB4.out.2.alloc HB4.out.2.size _⟩
            have HM2 : Hid _ := mat_old (ts := la.drop (k + 1)) (vs := lf.drop (k + 1)) HOK.out HEX.out hv
            clear p0 p1 p2 p3 q0 q1 q2 hv b4 BA4
            unfold optV
            dsimp only
            by_cases e : a = y
            · have hd : decide ((⟨a.k, a.n, a.s⟩ : V) = ⟨y.k, y.n, y.s⟩) = true := decide_eq_true e
              rw [hd] at hE
              have HN : Hid (mat s (la.drop (k + 1)) (lf.drop (k + 1)) = r) := by
                have := HM2.out
                rw [if_pos e] at this
                show _ = r
                rw [← HS'.out, this]
              clear hd e HM2 HS'
              go_wp2
              go_roundw
              case rel => exact ⟨k + 1, by omega, by go_num, HB5.out.1, s, HO5.out, by omega, HSW.out, HN⟩
              case measure => simp [intOf]; omega
            · have hd : decide ((⟨a.k, a.n, a.s⟩ : V) = ⟨y.k, y.n, y.s⟩) = false := decide_eq_false e
              rw [hd] at hE
              have HN : Hid (none = r) := by
                have := HM2.out
                rw [if_neg e] at this
                show none = r
                rw [← HS'.out, this]
              clear hd e HM2 HS'
              go_wp2
              go_ret2
              refine ⟨⟨.slice none 0 0, ?_, fun _ => rfl, fun s' h => ?_⟩, HB5.out.2⟩
              · rw [← HN.out]; rfl
              · rw [← HN.out] at h; cases h
      · rw [chk_ten hc]
        have HN : Hid (none = r) := by
          show none = r
          rw [← HS'.out, mat_bad (by unfold okV chkV; simpa using hc)]
        clear hc HS'
        go_wp2
        go_ret2
        refine ⟨⟨.slice none 0 0, ?_, fun _ => rfl, fun s' h => ?_⟩, HWB3.out.2⟩
        · rw [← HN.out]; rfl
        · rw [← HN.out] at h; cases h
    · obtain rfl : k = m := by omega
      obtain ⟨hm, hm'⟩ := HM.out
      have HV : Hid (some s = r) := by
        show some s = r
        rw [← HS.out, List.drop_of_length_le (by omega), List.drop_of_length_le (by omega)]
        simp [mat]
      clear hm hm'
      go_wp2
      go_ret2
      refine ⟨⟨.slice ao s.length co, ?_, fun h => ?_, fun s' h => ?_⟩, BWR.out⟩
      · rw [← HV.out]; rfl
      · rw [← HV.out] at h; cases h
      · rw [← HV.out] at h
        cases h
        exact ⟨Go.Joins.ownsRow_le ho BW.out.size, hsw, by omega⟩
set_option maxHeartbeats 1600000 in
set_option maxRecDepth 100000 in
theorem match_no (pa pb : ByteArray) (va vb : Value) (la : List T) (lb : List V) (w : World) (hpa : pa.size ≤ maxLen) (hpb : pb.size ≤ maxLen) (ha : Lt w va la) (hb : Lv w vb lb) (hno : ¬ (pa = pb ∧ la.length = lb.length ∧ atomB pa la = true)) :
    Calls Tryd.prog 18 #[.agg #[.string pa, va], .agg #[.string pb, vb]] w fun e w' => e = .returned (.tuple #[.slice none 0 0, .bool false]) ∧ Below w.heap.size w w' := by
  obtain ⟨aa, ca, rfl, hc1, hc2, -⟩ := ha.form
  obtain ⟨ab, cb, rfl, hd1, hd2, -⟩ := hb.form
  have hm1 : la.length ≤ maxLen := Nat.le_trans hc1 hc2
  have hm2 : lb.length ≤ maxLen := Nat.le_trans hd1 hd2
  unfold maxLen at hm1 hm2
  have b0 := ((Below.refl w.heap.size w).alloc (Nat.le_refl _) (.cells #[.string pa, .slice aa la.length ca] 55)).alloc (by simp) (.cells #[.string pb, .slice ab lb.length cb] 58)
  have B0 : Hid _ := b0
  have HA : Hid (Lt w (.slice aa la.length ca) la) := ha
  have HB : Hid (Lv w (.slice ab lb.length cb) lb) := hb
  have HPA : Hid (pa.size ≤ maxLen) := hpa
  have HPB : Hid (pb.size ≤ maxLen) := hpb
  clear ha hb hc1 hc2 hd1 hd2 b0 hpa hpb
  by_cases h1 : pa = pb
  · have hN : (pa.toList == pb.toList) = true := by rw [eq_bytes, decide_eq_true h1]
    by_cases h2 : la.length = lb.length
    · have h2' : ((la.length : Int) != (lb.length : Int)) = false := by simp; omega
      cases h3 : atomB pa la
      · have H3 : Hid _ := h3
        clear hno h1 h2 h3
        go_enter Tryd.func18, Tryd.ntmps18
        go_wp2_with fail
        refine (isAtom_any pa _ la _ HPA.out (HA.out.below B0.out)).mono ?_
        rw [H3.out]
        rintro e w1 ⟨rfl, b1⟩
        go_wp2
        go_ret2
        exact ⟨rfl, B0.out.trans (b1.mono B0.out.size)⟩
      · exact absurd ⟨h1, h2, h3⟩ hno
    · have h2' : ((la.length : Int) != (lb.length : Int)) = true := by simp; omega
      clear hno h1 h2
      go_enter Tryd.func18, Tryd.ntmps18
      go_wp2
      go_ret2
      exact ⟨rfl, B0.out⟩
  · have hN : (pa.toList == pb.toList) = false := by rw [eq_bytes, decide_eq_false h1]
    clear hno h1
    go_enter Tryd.func18, Tryd.ntmps18
    go_wp2
    go_ret2
    exact ⟨rfl, B0.out⟩

theorem checkAtom_any (pred : ByteArray) (v : Value) (l : List T) (w : World) (hp : pred.size ≤ maxLen) (hl : Lt w v l) : Calls Tryd.prog 19 #[.agg #[.string pred, v]] w fun e w' => e = .returned (.int .i64 (errB (atomB pred l))) ∧ Below w.heap.size w w' := by
  obtain ⟨a, c, rfl, hc1, hc2, -⟩ := hl.form
  have b0 := (Below.refl w.heap.size w).alloc (Nat.le_refl _) (.cells #[.string pred, .slice a l.length c] 55)
  go_enter Tryd.func19, Tryd.ntmps19
  go_wp2_with fail
  refine (isAtom_any pred _ l _ hp (hl.below b0)).mono ?_
  rintro e w1 ⟨rfl, b1⟩
  go_wp2_with fail
  refine (verdict_any _ _).mono ?_
  rintro e w2 ⟨rfl, rfl⟩
  go_wp2
  go_ret
  exact ⟨rfl, b0.trans (b1.mono b0.size)⟩
end Go.Proofs.YtkgoceomkkohmaaDoor
