import Derived.Test.YtifbbhgihdmhjaaDoorLexJoinR
import Derived.Deep.RegionLaw
namespace Go.Proofs.YtifbbhgihdmhjaaDoor
open Go.RowKit Go.Maps
set_option linter.unusedVariables false
set_option linter.unusedSimpArgs false
attribute [local go_sem ↓] Go.wp_at_zero Go.wp_at_succ

theorem own_set {w : World} {B : Nat} {e : TypeId} {k g n cap : Nat} {xs : List Value} (h : w.ownsRow B e k (.slice (some ⟨g, 0, none⟩) n cap) n xs) {i : Nat} (hi : i < xs.length) (u : Value) : (w.setCell ⟨g, i, none⟩ u).ownsRow B e k (.slice (some ⟨g, 0, none⟩) n cap) n (xs.set i u) := by
  obtain ⟨hl, ⟨h1, _⟩ | ⟨g', cap', cur, hv, h0, hb, hn, hc, hs, ht⟩⟩ := h
  · cases h1
  · cases hv
    refine ⟨by simp [hl], .inr ⟨g, cap, cur.setIfInBounds i u, rfl, h0, heap_setCell_same w g i cur e u hb, hn, hc, by simp [hs], ?_⟩⟩
    rw [Array.toList_setIfInBounds, List.take_set, ht]
theorem own_cell {w : World} {B : Nat} {e : TypeId} {k g n cap : Nat} {xs : List Value} (h : w.ownsRow B e k (.slice (some ⟨g, 0, none⟩) n cap) n xs) {i : Nat} {u : Value} (hi : xs[i]? = some u) : w.cell? ⟨g, i, none⟩ = some u ∧ w.frozen? ⟨g, i, none⟩ = false ∧ g < w.heap.size ∧ B ≤ g := by
  obtain ⟨hl, ⟨h1, _⟩ | ⟨g', cap', cur, hv, h0, hb, hn, hc, hs, ht⟩⟩ := h
  · cases h1
  · cases hv
    refine ⟨?_, ?_, (Array.getElem?_eq_some_iff.1 hb).1, h0⟩
    · rw [← ht, List.getElem?_take] at hi
      split at hi
      · unfold World.cell?
        simp only [hb]
        simpa using hi
      · cases hi
    · unfold World.frozen?
      simp only [hb]
      simp
theorem set4 (u : Tk) : ∀ (vs : List Tk) (j : Nat), j < vs.length → ((((vs.flatMap Tk.cells).set (j * 4) (.int .i8 u.k)).set (j * 4 + 1) (.string ⟨u.s.toArray⟩)).set (j * 4 + 2) (.int .i64 u.n)).set (j * 4 + 3) (.int .i64 u.a) = (vs.set j u).flatMap Tk.cells
  | [], j, h => absurd h (by simp)
  | t :: r, 0, h => by simp [Tk.cells]
  | t :: r, j + 1, h => by
    have ih := set4 u r j (by simpa using h)
    have hc : t.cells.length = 4 := rfl
    rw [List.set_cons_succ, List.flatMap_cons, List.flatMap_cons, ← ih]
    rw [List.set_append_right _ _ (by rw [hc]; omega), List.set_append_right _ _ (by rw [hc]; omega), List.set_append_right _ _ (by rw [hc]; omega), List.set_append_right _ _ (by rw [hc]; omega), hc]
    rw [show (j + 1) * 4 - 4 = j * 4 by omega, show (j + 1) * 4 + 1 - 4 = j * 4 + 1 by omega, show (j + 1) * 4 + 2 - 4 = j * 4 + 2 by omega, show (j + 1) * 4 + 3 - 4 = j * 4 + 3 by omega]
def put4 (w : World) (g j : Nat) (u : Tk) : World := (((w.setCell ⟨g, j * 4, none⟩ (.int .i8 u.k)).setCell ⟨g, j * 4 + 1, none⟩ (.string ⟨u.s.toArray⟩)).setCell ⟨g, j * 4 + 2, none⟩ (.int .i64 u.n)).setCell ⟨g, j * 4 + 3, none⟩ (.int .i64 u.a)
theorem own_put {w : World} {B g n cap : Nat} {vs : List Tk} {j : Nat} (u : Tk) (hj : j < vs.length) (h : w.ownsRow B 32 4 (.slice (some ⟨g, 0, none⟩) n cap) n (vs.flatMap Tk.cells)) : (put4 w g j u).ownsRow B 32 4 (.slice (some ⟨g, 0, none⟩) n cap) n ((vs.set j u).flatMap Tk.cells) := by
  have hl := cells_len4 vs
  rw [← set4 u vs j hj]
  have o1 := own_set h (i := j * 4) (by omega) (.int .i8 u.k)
  have o2 := own_set o1 (i := j * 4 + 1) (by simp only [List.length_set]; omega) (.string ⟨u.s.toArray⟩)
  have o3 := own_set o2 (i := j * 4 + 2) (by simp only [List.length_set]; omega) (.int .i64 u.n)
  exact own_set o3 (i := j * 4 + 3) (by simp only [List.length_set]; omega) (.int .i64 u.a)
theorem put4_below {w w' : World} {B g j : Nat} {u : Tk} (h : Below B w w') (hg : B ≤ g) : Below B w (put4 w' g j u) :=
  (((h.setCell (p := ⟨g, _, none⟩) hg _).setCell (p := ⟨g, _, none⟩) hg _).setCell (p := ⟨g, _, none⟩) hg _).setCell (p := ⟨g, _, none⟩) hg _
theorem tok_at {w : World} {B g n cap : Nat} {vs : List Tk} {j : Nat} {t : Tk} (h : w.ownsRow B 32 4 (.slice (some ⟨g, 0, none⟩) n cap) n (vs.flatMap Tk.cells)) (hj : vs[j]? = some t) :
    (w.cell? ⟨g, j * 4, none⟩ = some (.int .i8 t.k) ∧ w.cell? ⟨g, j * 4 + 1, none⟩ = some (.string ⟨t.s.toArray⟩) ∧ w.cell? ⟨g, j * 4 + 2, none⟩ = some (.int .i64 t.n) ∧ w.cell? ⟨g, j * 4 + 3, none⟩ = some (.int .i64 t.a)) ∧
    (w.frozen? ⟨g, j * 4, none⟩ = false ∧ w.frozen? ⟨g, j * 4 + 1, none⟩ = false ∧ w.frozen? ⟨g, j * 4 + 2, none⟩ = false ∧ w.frozen? ⟨g, j * 4 + 3, none⟩ = false) ∧ B ≤ g := by
  have k : ∀ i v, t.cells[i]? = some v → i < 4 → w.cell? ⟨g, j * 4 + i, none⟩ = some v ∧ w.frozen? ⟨g, j * 4 + i, none⟩ = false ∧ g < w.heap.size ∧ B ≤ g := fun i v h1 h2 => by
    have := cells_get vs j i t v hj h1 h2
    rw [show 4 * j + i = j * 4 + i by omega] at this
    exact own_cell h this
  exact ⟨⟨(k 0 _ rfl (by omega)).1, (k 1 _ rfl (by omega)).1, (k 2 _ rfl (by omega)).1, (k 3 _ rfl (by omega)).1⟩, ⟨(k 0 _ rfl (by omega)).2.1, (k 1 _ rfl (by omega)).2.1, (k 2 _ rfl (by omega)).2.1, (k 3 _ rfl (by omega)).2.1⟩, (k 0 _ rfl (by omega)).2.2.2⟩
theorem TL_row {w : World} {B g n cap : Nat} {vs : List Tk} (hn : vs.length = n) (h : w.ownsRow B 32 4 (.slice (some ⟨g, 0, none⟩) n cap) n (vs.flatMap Tk.cells)) : TL w (some ⟨g, 0, none⟩) vs := by
  subst hn
  obtain ⟨a, c, e, _, ht⟩ := TL_of_own h
  simp at e
  rw [e.1]
  exact ht

theorem swap_in {ts vs : List Tk} {n j k : Nat} {t u : Tk} (hvl : vs.length = ts.length + n) (hj : j < ts.length) (hk : k < ts.length) (ht : vs[j]? = some t) (hu : vs[k]? = some u) (hin : ∀ x ∈ vs.take ts.length, x ∈ ts) : ∀ x ∈ ((vs.set j u).set k t).take ts.length, x ∈ ts := by
  have h1 : t ∈ ts := hin t (by
    rw [List.mem_iff_getElem?]
    exact ⟨j, by rw [List.getElem?_take, if_pos hj]; exact ht⟩)
  have h2 : u ∈ ts := hin u (by
    rw [List.mem_iff_getElem?]
    exact ⟨k, by rw [List.getElem?_take, if_pos hk]; exact hu⟩)
  intro x hx
  rw [List.take_set, List.take_set] at hx
  rcases List.mem_or_eq_of_mem_set hx with hx | rfl
  · rcases List.mem_or_eq_of_mem_set hx with hx | rfl
    · exact hin x hx
    · exact h2
  · exact h1
set_option maxHeartbeats 6400000 in
set_option maxRecDepth 100000 in
theorem LexJoins_any (ts : List Tk) (a : Option Addr) (c : Nat) (w : World) (hg : Gl w) (hlen : ts.length ≤ maxLen) (hl : TL w a ts) (hts : ∀ t ∈ ts, t.ok) :
    Calls Tryd.prog 3 #[.slice a ts.length c] w fun e w' => e = .returned (.bool true) ∧ Below w.heap.size w w' := by
  have HB : Hid _ := beyond_any ts w a c hlen hl hts
  have HG : Hid (Gl w) := hg
  have HL : Hid (TL w a ts) := hl
  have HTS : Hid (∀ t ∈ ts, t.ok) := hts
  have HB : Hid (Calls Tryd.prog 4 #[.slice a ts.length c] w fun e w' => (∃ b, e = .returned (.bool b) ∧ (b = false → ts.length ≤ 2147483647)) ∧ w' = w) := beyond_any ts w a c hlen hl hts
  have HJ : Hid (∀ (u : World) (us : List Tk) (a : Option Addr) (c : Nat), Gl u → TL u a us → us.length ≤ 2147483647 → (∀ t ∈ us, t ∈ ts) → Calls Tryd.prog 6 #[.slice a us.length c] u fun e u' => e = .returned (.tuple #[.string ⟨(joinT fullT 0 [] us).1.toArray⟩, .int .i64 (joinT fullT 0 [] us).2]) ∧ Below u.heap.size u u') :=
    fun u us a c hg htl hlen hin => Join_any fullT u a c us hg htl (by unfold maxLen; omega) (fun t ht => text_ok (hts t (hin t ht))) (fun t ht s hs => full_len (hts t (hin t ht)) hs)
  have HR : Hid (∀ (u : World) (us : List Tk) (a : Option Addr) (c : Nat), TL u a us → us.length ≤ 2147483647 → (∀ t ∈ us, t ∈ ts) → Calls Tryd.prog 7 #[.slice a us.length c] u fun e u' => e = .returned (.tuple #[.string ⟨(joinT fullT 0 [] us).1.toArray⟩, .int .i64 (joinT fullT 0 [] us).2]) ∧ Below u.heap.size u u') :=
    fun u us a c htl hlen hin => rJoin_any us u a c hlen htl (fun t ht => hts t (hin t ht))
  clear hg hl hts hlen
  go_enter Tryd.func3, Tryd.ntmps3
  go_wp2_with fail
  refine HB.out.mono ?_
  rintro e w0 ⟨⟨b, rfl, hbf⟩, rfl⟩
  clear HB
  cases b with
  | true =>
    go_wp2
    go_ret
    exact ⟨rfl, Below.refl _ _⟩
  | false =>
    have hlen := hbf rfl
    clear hbf
    have HLT : Hid _ := lent_any ts w0 a c hlen HL.out
    have HLT : Hid (Calls Tryd.prog 5 #[.slice a ts.length c] w0 fun e w' => ∃ g c', e = .returned (.slice (some ⟨g, 0, none⟩) ts.length c') ∧ w'.ownsRow w0.heap.size 32 4 (.slice (some ⟨g, 0, none⟩) (ts.length + 9) c') (ts.length + 9) ((ts ++ marks 9).flatMap Tk.cells) ∧ Below w0.heap.size w0 w') := lent_any ts w0 a c hlen HL.out
    go_wp2_with fail
    refine HLT.out.mono ?_
    rintro e w1 ⟨g, c', rfl, own1, bel1⟩
    clear HLT
    have hml : (ts ++ marks 9).length = ts.length + 9 := by rw [List.length_append, marks_len]
    go_wp2_with fail
    refine (HJ.out w1 ts _ _ (HG.out.below bel1) (TL.app (TL_row hml own1)) hlen (fun t h => h)).mono ?_
    rintro e w2 ⟨rfl, hb2⟩
    have own2 := own_below own1 hb2
    have bel2 := bel1.trans (hb2.mono bel1.size)
    clear hb2 own1 bel1
    go_wp2_with fail
    refine (HR.out w2 ts _ _ (HL.out.below bel2) hlen (fun t h => h)).mono ?_
    rintro e w3 ⟨rfl, hb3⟩
    have own3 := own_below own2 hb3
    have bel3 := bel2.trans (hb3.mono bel2.size)
    clear hb3 own2 bel2
    obtain ⟨cap, hcap⟩ : ∃ cap, cap = c' := ⟨_, rfl⟩
    have hcc : ts.length + 9 ≤ c' ∧ c' ≤ maxLen := by
      rcases own3.2 with ⟨h, _⟩ | ⟨g', cap', cur, h, _, _, h1, h2, _, _⟩
      · cases h
      · cases h; exact ⟨h1, h2⟩
    have HLF : Hid (Calls Tryd.prog 8 #[.slice (some ⟨g, 0, none⟩) ts.length c', .slice a ts.length c] w3 fun e w' => e = .returned (.bool true) ∧ Below w3.heap.size w3 w') := left_true ts w3 a g c c' hlen hcc.1 hcc.2 (TL_row hml own3) (HL.out.below bel3)
    generalize (⟨(joinT fullT 0 [] ts).1.toArray⟩ : ByteArray) = jx
    generalize (joinT fullT 0 [] ts).2 = jy
    go_wp2_with fail
    refine HLF.out.mono ?_
    rintro e w4 ⟨rfl, hb4⟩
    have own4 := own_below own3 hb4
    have bel4 := bel3.trans (hb4.mono bel3.size)
    clear hb4 own3 bel3 HLF hcap
    go_wp2
    go_loopw [8] (fun i wr => ∃ (j : Nat) (vs : List Tk), j ≤ ts.length ∧ i = .int .i64 j ∧ Below w0.heap.size w0 wr ∧ vs.length = ts.length + 9 ∧ Hid (∀ t ∈ vs.take ts.length, t ∈ ts) ∧ wr.ownsRow w0.heap.size 32 4 (.slice (some ⟨g, 0, none⟩) (ts.length + 9) c') (ts.length + 9) (vs.flatMap Tk.cells)) (fun i _ => ts.length - (intOf i).toNat)
    case atStart => exact ⟨0, ts ++ marks 9, by omega, rfl, bel4, hml, fun t ht => by rw [List.take_append_of_le_length (Nat.le_refl _), List.take_length] at ht; exact ht, own4⟩
    case round =>
      clear own4 bel4
      obtain ⟨j, vs, hj, rfl, bel, hvl, HIN, hown⟩ := hrel
      by_cases hlt : j < ts.length / 2
      · obtain ⟨kk, hkk⟩ : ∃ kk, kk = ts.length - 1 - j := ⟨_, rfl⟩
        have hkk' : (ts.length : Int) - 1 - (j : Int) = (kk : Int) := by omega
        have hjk : j < kk := by omega
        have hkt : kk < ts.length := by omega
        have hjt : j < ts.length := by omega
        have hkt' : (kk : Int) < (ts.length : Int) := by omega
        have hjt' : (j : Int) < (ts.length : Int) := by omega
        have hjk4 : j * 4 + 3 < kk * 4 := by omega
        obtain ⟨t, ht⟩ : ∃ t, vs[j]? = some t := ⟨_, List.getElem?_eq_getElem (by omega)⟩
        obtain ⟨u, hu⟩ : ∃ u, vs[kk]? = some u := ⟨_, List.getElem?_eq_getElem (by omega)⟩
        obtain ⟨⟨p0, p1, p2, p3⟩, ⟨f0, f1, f2, f3⟩, hBg⟩ := tok_at hown ht
        obtain ⟨⟨q0, q1, q2, q3⟩, ⟨e0, e1, e2, e3⟩, _⟩ := tok_at hown hu
        have hq : ((ts.length : Int).tdiv 2) = ((ts.length / 2 : Nat) : Int) := by rw [Int.tdiv_eq_ediv_of_nonneg (by omega)]; omega
        have hlt' : (j : Int) < ((ts.length / 2 : Nat) : Int) := by omega
        have HOWN : Hid (wr.ownsRow w0.heap.size 32 4 (.slice (some ⟨g, 0, none⟩) (ts.length + 9) c') (ts.length + 9) (vs.flatMap Tk.cells)) := hown
        have HNW : Hid ((put4 (put4 wr g j u) g kk t).drew.ownsRow w0.heap.size 32 4 (.slice (some ⟨g, 0, none⟩) (ts.length + 9) c') (ts.length + 9) (((vs.set j u).set kk t).flatMap Tk.cells)) :=
          (own_put t (by rw [List.length_set]; omega) (own_put u (by omega) hown)).drew
        have HBW : Hid (Below w0.heap.size w0 (put4 (put4 wr g j u) g kk t).drew) := (put4_below (put4_below bel hBg) hBg).drew
        have HIN2 : Hid (∀ x ∈ ((vs.set j u).set kk t).take ts.length, x ∈ ts) := swap_in hvl (by omega) hkt ht hu HIN.out
        clear hown bel HIN HL HG HJ HR ht hu hkk
        unfold put4 at HNW HBW
        generalize (⟨t.s.toArray⟩ : ByteArray) = tb at *
        generalize (⟨u.s.toArray⟩ : ByteArray) = ub at *
        go_wp2_with fail
        go_region
        all_goals
          go_wp2
          go_roundw
          case rel => exact ⟨j + 1, (vs.set j u).set kk t, by omega, by go_num, HBW.out, by rw [List.length_set, List.length_set]; exact hvl, HIN2, HNW.out⟩
          case measure => simp [intOf]; omega
      · have hq : ((ts.length : Int).tdiv 2) = ((ts.length / 2 : Nat) : Int) := by rw [Int.tdiv_eq_ediv_of_nonneg (by omega)]; omega
        have hlt' : ¬ (j : Int) < ((ts.length / 2 : Nat) : Int) := by omega
        have hul : (vs.take ts.length).length = ts.length := by rw [List.length_take]; omega
        have HTV : Hid (TL wr (some ⟨g, 0, none⟩) (vs.take ts.length)) := by
          have h := TL_row hvl hown
          rw [← List.take_append_drop ts.length vs] at h
          exact TL.app h
        have HIN2 : Hid (∀ t ∈ vs.take ts.length, t ∈ ts) := HIN
        obtain ⟨us, hus⟩ : ∃ us, us = vs.take ts.length := ⟨_, rfl⟩
        rw [← hus] at hul HTV HIN2
        clear hown hus HIN HL
        have hle : us.length ≤ 2147483647 := by omega
        have hal : ∀ o, Below wr.heap.size wr (wr.alloc o) := fun o => (Below.refl _ _).alloc (Nat.le_refl _) _
        have HAL : Hid (∀ o, Below wr.heap.size wr (wr.alloc o)) := hal
        clear hal
        go_wp2_with (at_builtin; refine wpList_appT rfl (.tmp 65) (.tmp 66) rfl (b := wr.heap.size) (v := .slice (some ⟨wr.heap.size, 0, none⟩) 0 0) (n := 0) (xs := []) (ad := some ⟨g, 0, none⟩) (c := c') (ts := us) (by simp [Act.eval, Act.put]) (World.ownsRow_lit wr #[] 0 (Nat.le_refl _) (by decide) rfl) (by simp [Act.eval, Act.put, hul]) (HTV.out.below (HAL.out _)) (by omega) (by simp) ?_; intro v5 w5 own5 hg5 hl5; have bel5 : Below wr.heap.size wr w5 := (HAL.out _).grown hg5 (by simp) (fun j hj => by simp [Value.ownBlock] at hj; omega); rw [Nat.zero_add, List.nil_append] at own5; obtain ⟨a5, c5, rfl, _, htl5⟩ := TL_of_own own5; clear own5 hg5 hl5)
        have HR2 := HR.out w5 us a5 c5 htl5 hle HIN2.out
        rw [hul] at HR2
        refine HR2.mono ?_
        clear HR2
        rintro e w6 ⟨rfl, hb6⟩
        have bel6 : Below wr.heap.size wr w6 := bel5.trans (hb6.mono bel5.size)
        have HJ2 : Hid (Calls Tryd.prog 6 #[.slice (some ⟨g, 0, none⟩) ts.length c'] w6 fun e u' => e = .returned (.tuple #[.string ⟨(joinT fullT 0 [] us).1.toArray⟩, .int .i64 (joinT fullT 0 [] us).2]) ∧ Below w6.heap.size w6 u') := by
          have h := HJ.out w6 us (some ⟨g, 0, none⟩) c' ((HG.out.below bel).below bel6) (HTV.out.below bel6) hle HIN2.out
          rw [hul] at h
          exact h
        clear hb6 bel5 htl5 HR HJ HTV
        generalize (⟨(joinT fullT 0 [] us).1.toArray⟩ : ByteArray) = jx2 at HJ2 ⊢
        generalize (joinT fullT 0 [] us).2 = jy2 at HJ2 ⊢
        go_wp2_with fail
        refine HJ2.out.mono ?_
        rintro e w7 ⟨rfl, hb7⟩
        have bel7 := (bel.trans (bel6.mono bel.size)).trans (hb7.mono (Nat.le_trans bel.size bel6.size))
        clear HJ2 hb7 bel6
        go_wp2_with fail
        refine (lives_any _ (HG.out.below bel7)).mono ?_
        rintro e w8 ⟨rfl, hb8⟩
        go_wp2
        go_ret
        exact ⟨rfl, bel7.trans (hb8.mono bel7.size)⟩
end Go.Proofs.YtifbbhgihdmhjaaDoor
