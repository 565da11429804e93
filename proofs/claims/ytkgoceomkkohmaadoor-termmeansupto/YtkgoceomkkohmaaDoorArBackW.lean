import Derived.Test.YtkgoceomkkohmaaDoorArBack
import Derived.Test.YtkgoceomkkohmaaDoorArBackM
namespace Go.Proofs.YtkgoceomkkohmaaDoor.AR
open Go.RowKit Go.Maps Go.Shelf
set_option linter.unusedVariables false
set_option linter.unusedSimpArgs false
attribute [local go_sem] Oper.semAt_some

theorem infoByte : (Tryd.prog.info? 5).map (fun i => (i.zero, i.size, i.bytes)) = some (some (.int .u8 0), 1, 1) := by kernel_rfl
theorem run_make_bytes (n : Nat) (hn : n ≤ 1000000) (w : World) :
    (Instr.makeSlice 90 (.int .i64 0) (.int .i64 (n : Int))).run Tryd.prog w = .ok (.slice (some ⟨w.heap.size, 0, none⟩) 0 n) (w.alloc (.cells (madeCells #[.int .u8 0] n) 5)) := by
  obtain ⟨i, hi, h1, h2, h3⟩ := info_parts infoByte
  have := run_make (P := Tryd.prog) w 90 5 i _ Tryd.underlying90 hi h1 .i64 .i64 0 (n : Int) (by omega) (by omega) (by rw [h3]; omega) (by omega)
  rw [this, h2, Nat.mul_one]
  rfl
/-- one character more -/
theorem bk_append {W : World} {B : Nat} {s : ByteArray} {k : Nat} (h : BkSt W B s k) (hk : k < (starts s).length) (ty : TypeId) :
    ∃ w', (Builtin.append_ #[90, 9] ty #[.slice (some ⟨B + 1, 0, none⟩) (backL s k).length s.size, .string (chunk s k)]).run Tryd.prog W = .ok (.slice (some ⟨B + 1, 0, none⟩) (backL s (k + 1)).length s.size) w' ∧
      w'.ownsRow (B + 1) 5 1 (.slice (some ⟨B + 1, 0, none⟩) (backL s (k + 1)).length s.size) (backL s (k + 1)).length (Lib.byteCells (backL s (k + 1))) ∧ W.grownBy w' (some (B + 1)) := by
  obtain ⟨i, hi, h1, h2, h3⟩ := info_parts infoByte
  have hse := start_end s hk
  have hel := endAt_le s (Nat.le_of_lt hk)
  have hcs := chunk_size s hk
  have hbl := backL_len s k (Nat.le_of_lt hk)
  have hlen : (backL s (k + 1)).length = (backL s k).length + (chunk s k).size := by rw [backL, List.length_append, len_toList]
  obtain ⟨w', hr, hown, hg⟩ := Lib.run_append_fits_string (P := Tryd.prog) W (B + 1) 90 9 ty 5 i Tryd.underlying90 Tryd.underlying9 hi h2 _ _ _ _ h.row (chunk s k) (by omega) (by omega)
  refine ⟨w', by rw [hlen]; exact hr, ?_, hg⟩
  rw [hlen]
  have e : Lib.byteCells (backL s (k + 1)) = Lib.byteCells (backL s k) ++ Lib.strCells (chunk s k) := by
    rw [backL]
    simp [Lib.byteCells, Lib.strCells]
  rw [e]
  exact hown
theorem bk_next {W w' : World} {B : Nat} {s : ByteArray} {k : Nat} (h : BkSt W B s k) (hk : k < (starts s).length)
    (hown : w'.ownsRow (B + 1) 5 1 (.slice (some ⟨B + 1, 0, none⟩) (backL s (k + 1)).length s.size) (backL s (k + 1)).length (Lib.byteCells (backL s (k + 1)))) (hg : W.grownBy w' (some (B + 1))) :
    Boxed w' B 9 (.string s) ∧ Boxed w' (B + 1 + 1) 90 (.slice (some ⟨B + 1, 0, none⟩) (backL s k).length s.size) ∧ Boxed w' (B + 1 + 1 + 1) 3 (.int .i64 (endAt s k : Int)) ∧
    BkSt ((w'.setCell ⟨B + 1 + 1, 0, none⟩ (.slice (some ⟨B + 1, 0, none⟩) (backL s (k + 1)).length s.size)).setCell ⟨B + 1 + 1 + 1, 0, none⟩ (.int .i64 (startAt s k : Int))) B s (k + 1) := by
  have h1 := h.bs.kept hg (fun e => by have := Option.some.inj e; omega)
  have h2 := h.bo.kept hg (fun e => by have := Option.some.inj e; omega)
  have h3 := h.be.kept hg (fun e => by have := Option.some.inj e; omega)
  refine ⟨h1, h2, h3, ⟨(h1.other (B' := B + 1 + 1) (by omega) _).other (B' := B + 1 + 1 + 1) (by omega) _, ?_, (h2.set _).other (B' := B + 1 + 1 + 1) (by omega) _, by rw [endAt_succ]; exact (h3.other (B' := B + 1 + 1) (by omega) _).set _⟩⟩
  refine own_of_block hown (fun g hgg => ?_)
  have hgb : B + 1 = g := by simpa [Value.ownBlock] using hgg
  subst hgb
  rw [heap_setCell_other _ _ _ _ (by show B + 1 ≠ B + 1 + 1 + 1; omega), heap_setCell_other _ _ _ _ (by show B + 1 ≠ B + 1 + 1; omega)]
theorem seq_of_own {w5 : World} {B : Nat} {sv : Value} {zs : List Nat} (hown : w5.ownsRow B 3 1 sv zs.length (zs.map intC)) (hz : zs.length ≤ 1000000) (hB : B ≤ w5.heap.size) (n : Nat) :
    ∃ b, B ≤ b ∧ b ≤ w5.heap.size ∧ SeqTells Fence.wide n Tryd.prog 54 #[.pointer (some ⟨w5.heap.size, 0, none⟩)] (backAt zs) (Keeps2 b w5.heap.size) zs.length (w5.alloc (.cells #[sv] 83)) := by
  have hbx := (Boxed.new w5 83 sv).cell
  rcases hown.2 with ⟨rfl, h0⟩ | ⟨g, cap, cur, rfl, hg0, hgb, hnc, hcm, hcs, htk⟩
  · have : zs = [] := List.eq_nil_of_length_eq_zero h0
    subst this
    exact ⟨w5.heap.size, hB, Nat.le_refl _, backward_nil n w5.heap.size w5.heap.size _ (by simp) hbx⟩
  · have hlt : g < w5.heap.size := (Array.getElem?_eq_some_iff.1 hgb).1
    refine ⟨g, hg0, Nat.le_of_lt hlt, backward_tells n w5.heap.size g cap zs hz _ (by simp) (by simp; omega) hbx (fun j hj => ?_)⟩
    have hx : (cur.toList.take (zs.length * 1))[j]? = some (.int .i64 ((zs[j]?.getD 0 : Nat) : Int)) := by
      rw [htk, List.getElem?_map, List.getElem?_eq_getElem hj]
      simp [intC]
    rw [List.getElem?_take] at hx
    split at hx
    · unfold World.cell?
      simp only [Below.heap_alloc w5 _ g hlt, hgb]
      simpa using hx
    · cases hx
attribute [-go_sem] Builtin.append_
set_option maxRecDepth 100000 in
set_option maxHeartbeats 3200000 in
theorem backwards_any (s : ByteArray) (hs : s.size ≤ 1000000) (w : World) : Calls Tryd.prog 43 #[.string s] w fun e w' => e = .returned (.string (backB s)) ∧ Below w.heap.size w w' := by
  refine (callsIn_wide (n := 8)).1 ?_
  refine callsIn_of_wp_marks Tryd.func43 rfl trivial ?_ rfl
  simp only [Tryd.ntmps43, List.size_toArray, List.length_cons, List.length_nil, Nat.reduceAdd, Nat.reduceSub, Array.replicate_succ, Array.replicate_zero, List.push_toArray, List.append_toArray, List.nil_append, List.cons_append]
  have hmk := run_make_bytes s.size hs (w.alloc (.cells #[.string s] 9))
  have HS4 := Lib.hid (bkSt_start w s hs)
  have HB4 := Lib.hid (((((Below.refl w.heap.size w).alloc (Nat.le_refl _) (.cells #[.string s] 9)).alloc (by simp) (.cells (madeCells #[.int .u8 0] s.size) 5)).alloc (by simp; omega) (.cells #[.slice (some ⟨w.heap.size + 1, 0, none⟩) 0 s.size] 90)).alloc (by simp; omega) (.cells #[.int .i64 (s.size : Int)] 3))
  have HZ4 : Hid ((((((w.alloc (.cells #[.string s] 9)).alloc (.cells (madeCells #[.int .u8 0] s.size) 5)).alloc (.cells #[.slice (some ⟨w.heap.size + 1, 0, none⟩) 0 s.size] 90)).alloc (.cells #[.int .i64 (s.size : Int)] 3))).heap.size = w.heap.size + 4) := by show _ = _; simp
  gi_wp2_with fail
  clear hmk
  generalize ((((w.alloc (.cells #[.string s] 9)).alloc (.cells (madeCells #[.int .u8 0] s.size) 5)).alloc (.cells #[.slice (some ⟨w.heap.size + 1, 0, none⟩) 0 s.size] 90)).alloc (.cells #[.int .i64 (s.size : Int)] 3)) = W4 at HS4 HB4 HZ4 ⊢
  refine ⟨trivial, (callsIn_wide.2 (characterStarts_any s hs _)).mono ?_⟩
  rintro e w5 ⟨sv, rfl, hown, b5⟩
  obtain ⟨a5, c5, hsv, _⟩ := own_form hown
  subst hsv
  have hz5 := b5.size
  obtain ⟨b, hb1, hb2, hseq⟩ := seq_of_own hown (Nat.le_trans (starts_le s) hs) hz5 7
  have HSQ := Lib.hid hseq
  have HB5 := Lib.hid (HB4.out.trans (b5.mono HB4.out.size))
  have HS5 := Lib.hid (HS4.out.below b5)
  clear hown b5 hseq HS4 HB4
  gi_wp2_with fail
  refine ⟨trivial, (backward_in _ _ _ _ _).mono ?_⟩
  rintro e w6 ⟨rfl, rfl⟩
  gi_wp2_with fail
  have HI6 : Hid (BkSt (w5.alloc (.cells #[.slice a5 (starts s).length c5] 83)) w.heap.size s 0 ∧ Below w.heap.size w (w5.alloc (.cells #[.slice a5 (starts s).length c5] 83))) :=
    ⟨HS5.out.below ((Below.refl _ _).alloc (Nat.le_refl _) _), HB5.out.alloc HB5.out.size _⟩
  have hz6 : (w5.alloc (.cells #[.slice a5 (starts s).length c5] 83)).heap.size = w5.heap.size + 1 := by simp
  have hz4 := HZ4.out
  have hmo : Tryd.prog.follows .mixedOrders = true := by kernel_rfl
  refine wpIn_rangeTells rfl (by omega) (gf := 54) (lb := #[.pointer (some ⟨w5.heap.size, 0, none⟩)]) rfl trivial (enters_of Tryd.func54 (by kernel_rfl) rfl) HSQ.out (fun h k => h.trans k)
    (fun W l o o' hl _ _ _ => ⟨World.putObj_heap_other (by omega), World.putObj_heap_other (by omega)⟩) (Below.refl _ _) (fun _ => rfl)
    (fun k W => BkSt W w.heap.size s k ∧ (Below w.heap.size w W ∧ w5.heap.size + 1 ≤ W.heap.size)) (fun _ _ _ => False)
    (OwnFrom.and (fun k X Y row hs hg hr => hs.kept hg (fun r e => (hr r e).2)) (OwnFrom.and (ownFrom_below (Nat.le_refl _) (by omega)) (fun _ X Y row hs hg _ => Nat.le_trans hs hg.size)))
    (fun _ _ _ _ _ hs _ _ => hs) ⟨HI6.out.1, HI6.out.2, by simp⟩
    (fun k a' _ => a' = { tmps := #[.string s, .pointer (some ⟨w.heap.size, 0, none⟩), .string ⟨#[]⟩, .pointer (some ⟨w.heap.size + 1 + 1, 0, none⟩), .pointer (some ⟨w.heap.size + 1 + 1 + 1, 0, none⟩), undef, .int .i64 (startAt s k : Int), .string s, .int .i64 (s.size : Int), .slice (some ⟨w.heap.size + 1, 0, none⟩) 0 s.size, .string s, .int .i64 (s.size : Int), .string s, .slice a5 (starts s).length c5, .func (.func 54) #[] #[.pointer (some ⟨w5.heap.size, 0, none⟩)], .int .i64 (((starts s).length - 1 - k : Nat) : Int), .int .i64 (startAt s k : Int), undef, undef, undef, undef, undef, undef, undef, undef, undef], defers := [] })
    (fun _ _ _ _ _ _ hs _ _ => hs) ?assign ?body ?done ?stop
  case assign =>
    intro l k W K hk hi hK
    have hK' := hK _ W (KeepsFrom.refl _ _) (Keeps2.refl _ _ _) hi rfl
    clear hK hi HSQ HI6 HS5 HB5
    unfold startAt at hK'
    unfold backAt
    gi_wp2
    exact hK'
  case body =>
    rintro l k a' W hk ⟨hst, hbw, hlw⟩ rfl
    have hse := start_end s hk
    have hel := endAt_le s (Nat.le_of_lt hk)
    have hst' : BkSt W.drew w.heap.size s k := hst.below (Below.refl _ _).drew
    obtain ⟨w', hap, hown, hg⟩ := bk_append hst' hk 90
    obtain ⟨n1, n2, n3, hnext⟩ := bk_next hst' hk hown hg
    have c1 := hst'.bs.cell
    have c2 := hst'.bo.cell
    have c3 := hst'.be.cell
    have d2 := n2.cell
    have f2 := n2.frozen
    have d3 := (n3.other (B' := w.heap.size + 1 + 1) (by omega) (.slice (some ⟨w.heap.size + 1, 0, none⟩) (backL s (k + 1)).length s.size)).cell
    have f3 := (n3.other (B' := w.heap.size + 1 + 1) (by omega) (.slice (some ⟨w.heap.size + 1, 0, none⟩) (backL s (k + 1)).length s.size)).frozen
    have hKF : KeepsFrom (w5.alloc (.cells #[.slice a5 (starts s).length c5] 83)).heap.size W ((w'.setCell ⟨w.heap.size + 1 + 1, 0, none⟩ (.slice (some ⟨w.heap.size + 1, 0, none⟩) (backL s (k + 1)).length s.size)).setCell ⟨w.heap.size + 1 + 1 + 1, 0, none⟩ (.int .i64 (startAt s k : Int))) :=
      ((((KeepsOthers.drew W).from _).trans (KeepsFrom.of_grownBy hg (fun j hj => by have := Option.some.inj hj; omega))).trans ((KeepsOthers.setCell _ _ _).from _)).trans ((KeepsOthers.setCell _ _ _).from _)
    have hK2 : Keeps2 b w5.heap.size W ((w'.setCell ⟨w.heap.size + 1 + 1, 0, none⟩ (.slice (some ⟨w.heap.size + 1, 0, none⟩) (backL s (k + 1)).length s.size)).setCell ⟨w.heap.size + 1 + 1 + 1, 0, none⟩ (.int .i64 (startAt s k : Int))) := by
      have hx : ∀ g, w.heap.size + 4 ≤ g → g < W.heap.size → ((w'.setCell ⟨w.heap.size + 1 + 1, 0, none⟩ (.slice (some ⟨w.heap.size + 1, 0, none⟩) (backL s (k + 1)).length s.size)).setCell ⟨w.heap.size + 1 + 1 + 1, 0, none⟩ (.int .i64 (startAt s k : Int))).heap[g]? = W.heap[g]? := fun g h1 h2 => by
        rw [heap_setCell_other _ _ _ _ (by show g ≠ w.heap.size + 1 + 1 + 1; omega), heap_setCell_other _ _ _ _ (by show g ≠ w.heap.size + 1 + 1; omega)]
        exact hg.block g h2 (fun e => by have := Option.some.inj e; omega)
      exact ⟨hx b (by omega) (by omega), hx w5.heap.size (by omega) (by omega)⟩
    have hBW : Below w.heap.size w ((w'.setCell ⟨w.heap.size + 1 + 1, 0, none⟩ (.slice (some ⟨w.heap.size + 1, 0, none⟩) (backL s (k + 1)).length s.size)).setCell ⟨w.heap.size + 1 + 1 + 1, 0, none⟩ (.int .i64 (startAt s k : Int))) :=
      ((hbw.drew.grown hg hbw.size (fun j hj => by have := Option.some.inj hj; omega)).setCell (p := ⟨w.heap.size + 1 + 1, 0, none⟩) (by show w.heap.size ≤ w.heap.size + 1 + 1; omega) _).setCell (p := ⟨w.heap.size + 1 + 1 + 1, 0, none⟩) (by show w.heap.size ≤ w.heap.size + 1 + 1 + 1; omega) _
    have HN := Lib.hid (And.intro hKF (And.intro hK2 (And.intro hnext (And.intro hBW (show w5.heap.size + 1 ≤ ((w'.setCell ⟨w.heap.size + 1 + 1, 0, none⟩ (.slice (some ⟨w.heap.size + 1, 0, none⟩) (backL s (k + 1)).length s.size)).setCell ⟨w.heap.size + 1 + 1 + 1, 0, none⟩ (.int .i64 (startAt s k : Int))).heap.size from Nat.le_trans hlw hKF.size)))))
    unfold chunk at hap
    clear hst hst' hown hg n1 n2 n3 hnext hbw hKF hK2 hBW hlw HSQ HI6 HS5 HB5
    generalize (backL s (k + 1)).length = L1 at hap d3 f3 HN
    generalize (backL s k).length = L0 at hap c2 d2
    generalize startAt s k = p at hap hse HN ⊢
    generalize endAt s k = q at hap c3 d3 hse hel
    have h1 : (0 : Int) ≤ (p : Int) := by omega
    have h2 : (p : Int) ≤ (q : Int) := by omega
    have h3 : (q : Int) ≤ (s.size : Int) := by omega
    have h4 : (0 : Int) ≤ (q : Int) := by omega
    gi_wp2_with fail
    gi_region_with_o (fail)
    all_goals
      gi_wp2
      exact HN.out
  case done =>
    rintro D W hD ⟨hst, hbw, _⟩ hK
    have hcv := bytes_string hst.row
    have c2 := hst.bo.cell
    have HBW := Lib.hid (hbw.trans (belowK_b (w := w) (Nat.le_refl _) W D _ (.deferred none) (by omega) hK rfl rfl))
    clear hst hbw HSQ HI6 HS5 HB5
    gi_wp2
    refine ⟨by simp, .inl ⟨_, _, rfl, run_takeDeferred hK, ?_⟩⟩
    exact ⟨_, results_tmp rfl _ _ _, rfl, HBW.out⟩
  case stop =>
    rintro D c k W _ _ h _
    exact h.elim
end Go.Proofs.YtkgoceomkkohmaaDoor.AR
