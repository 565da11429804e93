import Derived.Test.YthdcgikhcghigaaSpTell
import Derived.Deep.Upon
namespace Go.Proofs.Ythdcgikhcghigaa
open Go.RowKit Go.Maps Go.ChangeMaps
set_option linter.unusedVariables false
set_option linter.unusedSimpArgs false
attribute [local go_sem ↓] Go.wp_at_zero Go.wp_at_succ

/-- the marks behind a list that is lent -/
def mark (i : Nat) : V := ⟨77, i, ⟨#[]⟩⟩
def marks (k : Nat) : List V := (List.range k).map mark
theorem marks_len (k : Nat) : (marks k).length = k := by simp [marks]
theorem marks_succ (k : Nat) : marks (k + 1) = marks k ++ [mark k] := by simp [marks, List.range_succ]
theorem atV_mark {us : List V} {k : Nat} (h : k < 70) : atV (us ++ marks 70) (us.length + k) = mark k := by
  unfold atV
  simp [marks, List.getD, List.getElem?_append_right, h]
theorem atV_first {us ms : List V} {i : Nat} (h : i < us.length) : atV (us ++ ms) i = atV us i := by
  unfold atV
  simp [List.getD, List.getElem?_append_left h]
theorem own_belowV {w w' : World} {base : Nat} {e : TypeId} {k : Nat} {sv : Value} {n : Nat} {xs : List Value} (h : w.ownsRow base e k sv n xs) (hb : Below w.heap.size w w') : w'.ownsRow base e k sv n xs :=
  ownsRow_of_block h (fun g hg => hb.block g (h.lt g hg).2)
/-- append of one value -/
theorem app_one {w0 w : World} {B : Nat} {o : Value} {n : Nat} {vs : List V} (hn : n = vs.length) (hown : w.ownsRow B 39 3 o n (vs.flatMap V.cells)) (hB : Below B w0 w) (hw : B ≤ w.heap.size) (hl : n ≤ 2000000) (u : V) (ty : TypeId) :
    ∃ o' w', (Builtin.append_ #[40, 40] ty #[o, .slice (some ⟨w.heap.size, 0, none⟩) 1 1]).run Try.prog (w.alloc (.cells #[.int .i8 u.k, .int .i64 u.n, .string u.s] 39)) = .ok o' w' ∧ w'.ownsRow B 39 3 o' (n + 1) ((vs ++ [u]).flatMap V.cells) ∧ Below B w0 w' ∧ B ≤ w'.heap.size := by
  obtain ⟨i0, hi0, hz0, hz1, hz2⟩ := info_parts infoVal
  obtain ⟨o', w', h1, h2, h3, _, _⟩ := run_append_own_at (P := Try.prog) (w.alloc (.cells #[.int .i8 u.k, .int .i64 u.n, .string u.s] 39)) B 40 ty 39 i0 _ 3 32 Try.underlying40 hi0 hz0 hz1 hz2 rfl (by decide) o n _ (own_belowV hown (belowA _)) ⟨w.heap.size, 0, none⟩ 1 1 [.int .i8 u.k, .int .i64 u.n, .string u.s] rfl (one_news w u) (by intro v hv; simp at hv; rcases hv with rfl | rfl | rfl <;> rfl) (by unfold maxLen; omega) (by omega) (by simp; omega)
  refine ⟨o', w', h1, by rw [flat_snoc]; exact h2, (hB.alloc hw _).grown h3 (by simp; omega) (fun j hj => (hown.lt j hj).1), ?_⟩
  exact Nat.le_trans (by simp; omega) h3.size
/-- append(nil, l...) -/
theorem app_all {w : World} {a : Option Addr} {c : Nat} {us : List V} (hv : Lv w (.slice a us.length c) us) (hl : us.length ≤ 1048576) (ty : TypeId) :
    ∃ o' w', (Builtin.append_ #[40, 40] ty #[.slice none 0 0, .slice a us.length c]).run Try.prog w = .ok o' w' ∧ w'.ownsRow w.heap.size 39 3 o' us.length (us.flatMap V.cells) ∧ Below w.heap.size w w' := by
  obtain ⟨i0, hi0, hz0, hz1, hz2⟩ := info_parts infoVal
  have hnil : w.ownsRow w.heap.size 39 3 (.slice none 0 0) 0 [] := World.ownsRow_nil _ _ _ _
  by_cases h0 : us.length = 0
  · have hu : us = [] := List.eq_nil_of_length_eq_zero h0
    subst hu
    refine ⟨.slice none 0 0, w, ?_, hnil, Below.refl _ _⟩
    exact run_append_nothing w _ _ ty _ i0 Try.underlying40 hi0 none 0 0 (Nat.le_refl _) _ ⟨.inl ⟨_, Try.underlying40⟩, by intro w'; cases a <;> simp [Builtin.lenOf], by cases a <;> simp [Builtin.firstCells, loadCells, loadCellsFrom], by cases a <;> simp [Builtin.firstCells, loadCells, loadCellsFrom], by simp, by simp⟩
  · obtain ⟨g, off, rfl, hg, _⟩ := hv.at (i := 0) (by omega)
    obtain ⟨o', w', h1, h2, h3, _, _⟩ := run_append_own_at (P := Try.prog) w w.heap.size 40 ty 39 i0 _ 3 32 Try.underlying40 hi0 hz0 hz1 hz2 rfl (by decide) (.slice none 0 0) 0 [] hnil ⟨g, off, none⟩ us.length c (us.flatMap V.cells) (cells_length us) (by
      intro j u hu
      have hj : j < us.length * 3 := by rw [← cells_length us]; exact (List.getElem?_eq_some_iff.1 hu).1
      have hi : j / 3 < us.length := by omega
      obtain ⟨e0, e1, e2⟩ := cells_at hi
      obtain ⟨g', off', e, _, c0, c1, c2⟩ := hv.at hi
      cases e
      rw [show (⟨g, off, none⟩ : Addr).add j = ⟨g, off + j, none⟩ from by simp [Addr.add]]
      obtain h | h | h : j % 3 = 0 ∨ j % 3 = 1 ∨ j % 3 = 2 := by omega
      · rw [show j / 3 * 3 = j by omega] at e0; rw [hu] at e0; rw [show off + j / 3 * 3 = off + j by omega] at c0; rw [c0, Option.some.inj e0]
      · rw [show j / 3 * 3 + 1 = j by omega] at e1; rw [hu] at e1; rw [show off + j / 3 * 3 + 1 = off + j by omega] at c1; rw [c1, Option.some.inj e1]
      · rw [show j / 3 * 3 + 2 = j by omega] at e2; rw [hu] at e2; rw [show off + j / 3 * 3 + 2 = off + j by omega] at c2; rw [c2, Option.some.inj e2]) (by
      intro v hv'
      simp only [List.mem_flatMap, V.cells] at hv'
      obtain ⟨x, _, hx⟩ := hv'
      simp at hx
      rcases hx with rfl | rfl | rfl <;> rfl) (by unfold maxLen; omega) (by omega) (Nat.le_refl _)
    refine ⟨o', w', h1, by simpa using h2, (Below.refl _ _).grown h3 (Nat.le_refl _) (fun j hj => by simp [Value.ownBlock] at hj)⟩
/-- what is lent: a list of its own, the marks in the room behind it -/
def LentAt (w : World) (B g cap : Nat) (us : List V) : Prop := us.length + 70 ≤ cap ∧ cap ≤ maxLen ∧ w.ownsRow B 39 3 (.slice (some ⟨g, 0, none⟩) (us.length + 70) cap) (us.length + 70) ((us ++ marks 70).flatMap V.cells)
theorem LentAt.below {w w' : World} {B g cap : Nat} {us : List V} (h : LentAt w B g cap us) (hb : Below w.heap.size w w') : LentAt w' B g cap us := ⟨h.1, h.2.1, own_belowV h.2.2 hb⟩
theorem LentAt.at {w : World} {B g cap : Nat} {us : List V} (h : LentAt w B g cap us) {i : Nat} (hi : i < us.length + 70) : g < w.heap.size ∧ w.cell? ⟨g, i * 3, none⟩ = some (.int .i8 (atV (us ++ marks 70) i).k) ∧ w.cell? ⟨g, i * 3 + 1, none⟩ = some (.int .i64 (atV (us ++ marks 70) i).n) ∧ w.cell? ⟨g, i * 3 + 2, none⟩ = some (.string (atV (us ++ marks 70) i).s) := by
  have hl : (us ++ marks 70).length = us.length + 70 := by rw [List.length_append, marks_len]
  have h2 := h.2.2
  rw [← hl] at h2
  obtain ⟨g', c', e, h0, h1, h3⟩ := row_at h2 (i := i) (by omega)
  cases e
  exact ⟨(h.2.2.lt g rfl).2, h0, h1, h3⟩
theorem LentAt.lv {w : World} {B g cap : Nat} {us : List V} (h : LentAt w B g cap us) (hw : ∀ u ∈ us, u.wf) (hl : us.length ≤ 1048576) : Lv w (.slice (some ⟨g, 0, none⟩) us.length cap) us := by
  refine ⟨hw, by unfold maxLen; omega, _, _, rfl, fun i hi => ?_⟩
  obtain ⟨hg, h0, h1, h2⟩ := h.at (i := i) (by omega)
  rw [atV_first hi] at h0 h1 h2
  exact ⟨g, 0, rfl, hg, by simpa using h0, by simpa using h1, by simpa using h2⟩
theorem LentAt.block {w w' : World} {B g cap : Nat} {us : List V} (h : LentAt w B g cap us) (hb : w'.heap[g]? = w.heap[g]?) : LentAt w' B g cap us := ⟨h.1, h.2.1, ownsRow_of_block h.2.2 (fun q hq => by
  have : g = q := by simpa [Value.ownBlock] using hq
  subst this
  exact hb)⟩
theorem LentAt.lt {w : World} {B g cap : Nat} {us : List V} (h : LentAt w B g cap us) : g < w.heap.size := (h.2.2.lt g rfl).2
attribute [-go_sem] Builtin.append_
set_option maxHeartbeats 1600000 in
set_option maxRecDepth 100000 in
theorem lent_any (w : World) (a : Option Addr) (c : Nat) (us : List V) (hv : Lv w (.slice a us.length c) us) (hl : us.length ≤ 1048576) :
    Calls Try.prog 30 #[.slice a us.length c] w fun e w' => ∃ g cap, e = .returned (.slice (some ⟨g, 0, none⟩) us.length cap) ∧ LentAt w' w.heap.size g cap us ∧ w.heap.size ≤ g ∧ Below w.heap.size w w' := by
  obtain ⟨o1, w1, ha, hown, hb⟩ := app_all hv hl 40
  have HO := Lib.hid hown
  have HB := Lib.hid hb
  clear hv hown hb
  go_enter Try.func30, Try.ntmps30
  go_wp2
  clear ha
  go_loopw [3, 4] (fun o i wr => ∃ k : Nat, k ≤ 70 ∧ i = .int .i64 k ∧ Hid (wr.ownsRow w.heap.size 39 3 o (us.length + k) ((us ++ marks k).flatMap V.cells) ∧ Below w.heap.size w wr)) (fun _ i _ => 70 - (intOf i).toNat)
  case atStart => exact ⟨0, by omega, rfl, by simpa [marks] using HO.out, HB.out⟩
  case round =>
    obtain ⟨k, hk, rfl, HI⟩ := hrel
    clear HO HB
    by_cases hlt : k < 70
    · have hlt' : (k : Int) < 70 := by omega
      obtain ⟨o', w', h1, h2, h3, _⟩ := app_one (vs := us ++ marks k) (by rw [List.length_append, marks_len]) HI.out.1 HI.out.2 HI.out.2.size (by omega) (mark k) 40
      have HN : Hid (w'.ownsRow w.heap.size 39 3 o' (us.length + (k + 1)) ((us ++ marks (k + 1)).flatMap V.cells) ∧ Below w.heap.size w w') := ⟨by rw [marks_succ, ← List.append_assoc]; exact h2, h3⟩
      clear h2 h3 HI
      unfold mark at h1
      go_wp2
      go_roundw
      case rel => exact ⟨k + 1, by omega, by go_num, HN⟩
      case measure => simp [intOf]; omega
    · obtain rfl : k = 70 := by omega
      obtain ⟨_, h0 | ⟨g, cap, cur, rfl, hg, hgb, hnc, hcm, _, _⟩⟩ := HI.out.1
      · omega
      have HL : Hid (LentAt wr w.heap.size g cap us) := ⟨hnc, hcm, HI.out.1⟩
      have HB2 := Lib.hid HI.out.2
      have i1 : (0 : Int) ≤ (us.length : Int) := by omega
      have i2 : (us.length : Int) ≤ (cap : Int) := by omega
      clear HI hgb
      go_wp2
      go_ret
      exact ⟨g, cap, rfl, HL.out, hg, HB2.out⟩
set_option maxHeartbeats 1600000 in
set_option maxRecDepth 100000 in
theorem left_any {w : World} {B g cap : Nat} {us : List V} (h : LentAt w B g cap us) (b : Option Addr) (d : Nat) (hb : Lv w (.slice b us.length d) us) (hl : us.length ≤ 1048576) :
    Calls Try.prog 38 #[.slice (some ⟨g, 0, none⟩) us.length cap, .slice b us.length d] w fun e w' => e = .returned (.bool true) ∧ Below w.heap.size w w' := by
  have HS := Lib.hid (same_self w (some ⟨g, 0, none⟩) b cap d us (h.lv hb.1 hl) hb hl)
  have HL := Lib.hid h
  have i1 : (us.length : Int) + 70 ≤ (cap : Int) := by have := h.1; omega
  have i0 : (0 : Int) ≤ (us.length : Int) + 70 := by omega
  have iw : IntKind.i64.wrap ((us.length : Int) + 70) = (us.length : Int) + 70 := by rw [IntKind.wrap_i64]; omega
  clear h hb
  go_enter Try.func38, Try.ntmps38
  go_wp2_with fail
  refine HS.out.mono ?_
  rintro e w1 ⟨rfl, b1⟩
  have HL1 := Lib.hid (HL.out.below b1)
  have HB1 := Lib.hid b1
  clear HS HL b1
  go_wp2
  go_loopw [6] (fun i wr => ∃ k : Nat, k ≤ 70 ∧ i = .int .i64 k ∧ wr = w1) (fun i _ => 70 - (intOf i).toNat)
  case atStart => exact ⟨0, by omega, rfl, rfl⟩
  case round =>
    obtain ⟨k, hk, rfl, hwr⟩ := hrel
    subst hwr
    by_cases hlt : k < 70
    · have hlt' : (k : Int) < 70 := by omega
      obtain ⟨_, c0, c1, c2⟩ := HL1.out.at (i := us.length + k) (by omega)
      rw [atV_mark hlt] at c0 c1 c2
      have j0 : (0 : Int) ≤ (us.length : Int) + (k : Int) := by omega
      have j1 : (us.length : Int) + (k : Int) < (us.length : Int) + 70 := by omega
      have jw : IntKind.i64.wrap ((us.length : Int) + (k : Int)) = (us.length : Int) + (k : Int) := by rw [IntKind.wrap_i64]; omega
      have jn : ((us.length : Int) + (k : Int)).toNat = us.length + k := by omega
      have hq := fun W => run_neq (mark k) (mark k) W
      simp only [mark, decide_true, Bool.not_true] at c0 c1 c2 hq
      go_wp2
      go_roundw
      case rel => exact ⟨k + 1, by omega, by go_num, by first | rfl | trivial⟩
      case measure => simp [intOf]; omega
    · obtain rfl : k = 70 := by omega
      go_wp2
      go_ret
      exact ⟨rfl, HB1.out⟩
end Go.Proofs.Ythdcgikhcghigaa
