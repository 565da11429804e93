import Derived.Test.YthdcgikhcghigaaSpPa
import Derived.Deep.Upon
namespace Go.Proofs.Ythdcgikhcghigaa
open Go.RowKit Go.Maps Go.ChangeMaps Go.Shelf
set_option linter.unusedVariables false
set_option linter.unusedSimpArgs false
attribute [local go_sem ↓] Go.wp_at_zero Go.wp_at_succ
attribute [local go_sem] Oper.semAt_some

/-- append(s, l...) where s is a row of one's own that has nothing -/
theorem app_vals {w : World} {B : Nat} {ad : Addr} (hown : w.ownsRow B 39 3 (.slice (some ad) 0 0) 0 []) (hB : B ≤ w.heap.size) {a : Option Addr} {c : Nat} {us : List V} (hv : Lv w (.slice a us.length c) us) (hl : us.length ≤ 1000000000) (ty : TypeId) :
    ∃ o' w', (Builtin.append_ #[40, 40] ty #[.slice (some ad) 0 0, .slice a us.length c]).run Try.prog w = .ok o' w' ∧ w'.ownsRow B 39 3 o' us.length (us.flatMap V.cells) ∧ Below B w w' := by
  obtain ⟨i0, hi0, hz0, hz1, hz2⟩ := info_parts infoVal
  by_cases h0 : us.length = 0
  · have hu : us = [] := List.eq_nil_of_length_eq_zero h0
    subst hu
    refine ⟨.slice (some ad) 0 0, w, ?_, hown, Below.refl _ _⟩
    exact run_append_nothing w _ _ ty _ i0 Try.underlying40 hi0 (some ad) 0 0 (Nat.le_refl _) _ ⟨.inl ⟨_, Try.underlying40⟩, by intro w'; cases a <;> simp [Builtin.lenOf], by cases a <;> simp [Builtin.firstCells, loadCells, loadCellsFrom], by cases a <;> simp [Builtin.firstCells, loadCells, loadCellsFrom], by simp, by simp⟩
  · obtain ⟨g, off, rfl, hg, _⟩ := hv.at (i := 0) (by omega)
    obtain ⟨o', w', h1, h2, h3, _, _⟩ := run_append_own_at (P := Try.prog) w B 40 ty 39 i0 _ 3 32 Try.underlying40 hi0 hz0 hz1 hz2 rfl (by decide) (.slice (some ad) 0 0) 0 [] hown ⟨g, off, none⟩ us.length c (us.flatMap V.cells) (cells_length us) (by
      intro j u hu
      have hj : j < us.length * 3 := by rw [← cells_length us]; exact (List.getElem?_eq_some_iff.1 hu).1
      have hi : j / 3 < us.length := by omega
      obtain ⟨e0, e1, e2⟩ := cells_at hi
      obtain ⟨g', off', e, _, c0, c1, c2⟩ := hv.at hi
      cases e
      rw [show (⟨g, off, none⟩ : Addr).add j = ⟨g, off + j, none⟩ from by simp [Addr.add]]
      obtain h | h | h : j % 3 = 0 ∨ j % 3 = 1 ∨ j % 3 = 2 := by omega
      · rw [show j / 3 * 3 = j by omega] at e0; rw [hu] at e0; rw [show off + j / 3 * 3 = off + j by omega] at c0; rw [c0, Option.some.inj e0]
      · rw [show j / 3 * 3 + 1 = j by omega] at e1; rw [hu] at e1; rw [show off + j / 3 * 3 + 1 = off + j by omega] at c1; rw [c1, Option.some.inj e1]
      · rw [show j / 3 * 3 + 2 = j by omega] at e2; rw [hu] at e2; rw [show off + j / 3 * 3 + 2 = off + j by omega] at c2; rw [c2, Option.some.inj e2]) (by
      intro v hv'
      simp only [List.mem_flatMap, V.cells] at hv'
      obtain ⟨x, _, hx⟩ := hv'
      simp at hx
      rcases hx with rfl | rfl | rfl <;> rfl) (by unfold maxLen; omega) (by omega) hB
    exact ⟨o', w', h1, by simpa using h2, (Below.refl _ _).grown h3 hB (fun j hj => (hown.lt j hj).1)⟩
theorem vals_some (ad : Addr) (n c : Nat) (w : World) : (binOp .eql 40 (.slice (some ad) n c) (.slice none 0 0)).run Try.prog w = .ok (.bool false) w := by kernel_rfl
theorem vals_none (w : World) : (binOp .eql 40 (.slice none 0 0) (.slice none 0 0)).run Try.prog w = .ok (.bool true) w := by kernel_rfl
section
attribute [-go_sem] Builtin.append_
set_option maxHeartbeats 1600000 in
set_option maxRecDepth 100000 in
theorem clone_any {w : World} {a : Option Addr} {c : Nat} {us : List V} (hx : Lv w (.slice a us.length c) us) (hnil : a = none → us = [] ∧ c = 0) (hl : us.length ≤ 1000000000) :
    Calls Try.prog 24 #[.slice a us.length c] w fun e w' => ∃ a2 c2, e = .returned (.slice a2 us.length c2) ∧ w'.ownsRow w.heap.size 39 3 (.slice a2 us.length c2) us.length (us.flatMap V.cells) ∧ Below w.heap.size w w' := by
  cases a with
  | none =>
    obtain ⟨rfl, rfl⟩ := hnil rfl
    have hq := fun w => vals_none w
    clear hx hnil
    go_enter Try.func24, Try.ntmps24
    go_wp2
    go_ret
    exact ⟨_, _, rfl, World.ownsRow_nil _ _ _ _, Below.refl _ _⟩
  | some ad =>
    have hq := fun w => vals_some ad us.length c w
    have hb := belowA (w := w) (.cells #[] 39)
    have ho : (w.alloc (.cells #[] 39)).ownsRow w.heap.size 39 3 (.slice (some ⟨w.heap.size, 0, none⟩) 0 0) 0 [] := ⟨rfl, .inr ⟨_, _, _, rfl, Nat.le_refl _, heap_alloc_new w _, Nat.le_refl _, Nat.zero_le _, rfl, rfl⟩⟩
    obtain ⟨o', w', h1, h2, h3⟩ := app_vals ho hb.size (hx.below hb) hl 40
    obtain ⟨a2, c2, rfl, _⟩ := ownsRow_form h2
    have HF : Hid (w'.ownsRow w.heap.size 39 3 (.slice a2 us.length c2) us.length (us.flatMap V.cells) ∧ Below w.heap.size w w') := ⟨h2, hb.trans h3⟩
    clear hx hb ho h2 h3 hnil
    go_enter Try.func24, Try.ntmps24
    go_wp2
    go_ret
    exact ⟨_, _, rfl, HF.out⟩
end
/-- the closure of All and its box -/
def seqOf (b0 : Nat) : Value := .func (.func 23) #[] #[.pointer (some ⟨b0, 0, none⟩)]
set_option maxHeartbeats 1600000 in
set_option maxRecDepth 100000 in
theorem all_calls {p : Value} (hp : p = .pointer none ∨ ∃ t, p = .pointer (some ⟨t, 0, none⟩)) (w : World) : Calls Try.prog 10 #[p] w fun e w' => ∃ b0, e = .returned (seqOf b0) ∧ w'.cell? ⟨b0, 0, none⟩ = some p ∧ b0 < w'.heap.size ∧ w.heap.size ≤ b0 ∧ Below w.heap.size w w' := by
  obtain rfl | ⟨t, rfl⟩ := hp
  all_goals
    go_enter Try.func10, Try.ntmps10
    go_wp2
    go_ret
    exact ⟨_, rfl, (Boxed.new w _ _).cell, by simp, Nat.le_refl _, belowA _⟩
/-- amid a range: cells that were laid since B stay -/
def KpF (B : Nat) (W W' : World) : Prop := ∀ k c t, B ≤ k → W.heap[k]? = some (.cells c t (0, 0)) → W'.heap[k]? = W.heap[k]?
theorem KpF.trans {B : Nat} {X Y Z : World} (h : KpF B X Y) (k : KpF B Y Z) : KpF B X Z := fun q c t hq hc => (k q c t hq ((h q c t hq hc).trans hc)).trans (h q c t hq hc)
theorem KpF.of {B : Nat} {X Y : World} (h : Below X.heap.size X Y) : KpF B X Y := fun q c t hq hc => h.block q (Array.getElem?_eq_some_iff.1 hc).1
theorem KpF.put {B : Nat} {W : World} {l : Nat} {o o' : Obj} (h : W.heap[l]? = some o) (hc : o.isCells = false) : KpF B W (W.putObj l o') := fun q c t hq hk => World.putObj_heap_other (fun e => by
  subst e
  rw [h] at hk
  cases hk
  simp [Obj.isCells] at hc)
theorem KpF.mono {B B' : Nat} {X Y : World} (h : KpF B X Y) (hB : B ≤ B') : KpF B' X Y := fun q c t hq hc => h q c t (Nat.le_trans hB hq) hc
/-- the k-th thing that All tells -/
def valsAt (vs : List V) (k : Nat) : Array Value := #[.int .i32 (k : Int), .agg #[.int .i8 (atV vs k).k, .int .i64 (atV vs k).n, .string (atV vs k).s]]
theorem run_loadTabR {w : World} {a : Addr} {v : Value} (h : w.cell? a = some v) : (loadVar 24 a).run Try.prog w = .ok v w := run_loadTab h
set_option maxRecDepth 100000 in
set_option maxHeartbeats 3200000 in
theorem all1_tells (n : Nat) {w : World} {t m : Nat} {sv : Value} {vs : List V} {most : Int} (h : Tbl w t m sv vs most) (hlen : vs.length ≤ 1000000000) {b0 : Nat} (h0 : w.cell? ⟨b0, 0, none⟩ = some (.pointer (some ⟨t, 0, none⟩))) (hb : b0 < w.heap.size) :
    SeqTells Fence.wide n Try.prog 23 #[.pointer (some ⟨b0, 0, none⟩)] (valsAt vs) (KpF w.heap.size) vs.length w := by
  intro l J Jx W hW hAJ _ hY hJ0
  have hR := h.below hW
  have c0 := (hW.cell (p := ⟨b0, 0, none⟩) hb).trans h0
  have HT := Lib.hid (there_any hR)
  have hLv : Lv W sv vs := lv_of_row hR.own hR.wf
  obtain ⟨asv, csv, rfl, _⟩ := ownsRow_form hR.own
  have c1 : W.cell? ⟨t, 1, none⟩ = some (.slice asv vs.length csv) := hR.row.cell (i := 1) (by omega)
  have HC := Lib.hid (clone_any hLv (fun e => by
    subst e
    rcases hR.own.2 with ⟨e, hz⟩ | ⟨g', cap, cur, e, _⟩
    · injection e with _ e2 e3
      exact ⟨List.eq_nil_of_length_eq_zero hz, e3⟩
    · cases e) hlen)
  have HY := Lib.hid hY
  have HAJ := Lib.hid hAJ
  have HJ := Lib.hid hJ0
  have HZ : Hid (w.heap.size ≤ W.heap.size) := hW.size
  clear h h0 hW hY hR hJ0 hLv hAJ
  refine callsIn_of_wp Try.func23 rfl trivial ?_ rfl
  simp only [Try.ntmps23, List.size_toArray, List.length_cons, List.length_nil, Nat.reduceAdd, Nat.reduceSub, Array.replicate_succ, Array.replicate_zero, List.push_toArray, List.append_toArray, List.nil_append, List.cons_append]
  gi_wp2_with fail
  refine ⟨trivial, fun h => (nomatch h), (callsIn_wide.2 HT.out).mono ?_⟩
  rintro e w1 ⟨rfl, rfl⟩
  clear HT
  gi_wp2_with fail
  refine ⟨trivial, fun h => (nomatch h), (callsIn_wide.2 HC.out).mono ?_⟩
  rintro e w2 ⟨a2, c2, rfl, hown, hb2⟩
  clear HC c0 c1
  have HJ2 : Hid (J 0 w2) := HAJ.out 0 _ _ none HJ.out ⟨hb2.os, hb2.tape, hb2.output, hb2.size, fun k hk _ => hb2.block k hk⟩ (fun r e => by cases e)
  have HO := Lib.hid hown
  have HA2 : Hid (0 < vs.length → ∃ g cur, a2 = some ⟨g, 0, none⟩ ∧ w1.heap.size ≤ g ∧ w2.heap[g]? = some (.cells cur 39 (0, 0))) := fun hp => by
    rcases hown.2 with ⟨e, hz⟩ | ⟨g', cap, cur, e, hg, hbk, _⟩
    · omega
    · cases e
      exact ⟨g', cur, rfl, hg, hbk⟩
  clear hown hb2 HJ
  gi_wp2
  gi_loopw [14] (fun i wr => ∃ k : Nat, k ≤ vs.length ∧ i = .int .i64 (k : Int) ∧ J k wr ∧ Hid (∀ g, a2 = some ⟨g, 0, none⟩ → 0 < vs.length → wr.heap[g]? = w2.heap[g]?)) (fun i _ => vs.length - (intOf i).toNat)
  case atStart => exact ⟨0, Nat.zero_le _, rfl, HJ2.out, fun g _ _ => rfl⟩
  case round =>
    obtain ⟨k, hk, rfl, hJs, HG⟩ := hrel
    by_cases hlt : k < vs.length
    · obtain ⟨g, cur, rfl, hg, hcur⟩ := HA2.out (by omega)
      have hblk := HG.out g rfl (by omega)
      obtain ⟨g', c', e, x0, x1, x2⟩ := row_at HO.out hlt
      cases e
      have y0 := (World.cell?_of_block (a := ⟨g, _, none⟩) hblk).trans x0
      have y1 := (World.cell?_of_block (a := ⟨g, _, none⟩) hblk).trans x1
      have y2 := (World.cell?_of_block (a := ⟨g, _, none⟩) hblk).trans x2
      have HJa : Hid (∀ o, J k (wr.alloc o)) := fun o => HAJ.out k _ _ none hJs (World.grownBy_alloc _ _ _) (fun r e => by cases e)
      obtain ⟨fn, tmps, assign, body, hy, hR⟩ := HY.out k (wr.alloc (.cells #[.int .i8 (atV vs k).k, .int .i64 (atV vs k).n, .string (atV vs k).s] 39)) hlt (HJa.out _)
      unfold valsAt at hy
      have hgwr : g < wr.heap.size := (Array.getElem?_eq_some_iff.1 (hblk.trans hcur)).1
      have hkeep : ∀ W3, KpF w.heap.size (wr.alloc (.cells #[.int .i8 (atV vs k).k, .int .i64 (atV vs k).n, .string (atV vs k).s] 39)) W3 → W3.heap[g]? = w2.heap[g]? := fun W3 hk3 => by
        have e1 : (wr.alloc (.cells #[.int .i8 (atV vs k).k, .int .i64 (atV vs k).n, .string (atV vs k).s] 39)).heap[g]? = wr.heap[g]? := Below.heap_alloc _ _ _ hgwr
        exact (hk3 g cur 39 (Nat.le_trans HZ.out hg) (e1.trans (hblk.trans hcur))).trans (e1.trans hblk)
      have HKE := Lib.hid hkeep
      generalize atV vs k = x at y0 y1 y2 hy hR HKE
      have hlt' : (k : Int) < (vs.length : Int) := by omega
      have iw : IntKind.i64.wrap ((k : Int) + 1) = (k : Int) + 1 := by rw [IntKind.wrap_i64]; omega
      have iw2 : IntKind.i32.wrap (k : Int) = (k : Int) := by rw [IntKind.wrap_i32]; omega
      have HCU := Lib.hid hgwr
      clear hkeep x0 x1 x2 hJs HG HY HJ2 hblk hcur hgwr
      gi_wp2
      refine ⟨fun h => (nomatch h), hR.mono ?_⟩
      rintro e W3 (⟨rfl, hJ3, hk3⟩ | ⟨rfl, hJx3⟩)
      · gi_wp2
        go_roundw
        case rel => exact ⟨k + 1, by omega, by first | rfl | (simp), hJ3, fun g2 e _ => by cases e; exact HKE.out W3 hk3⟩
        case measure => simp [intOf]; omega
      · gi_wp2
        refine bodyPost_ret (results_none rfl _ _ _) rfl ?_
        exact ⟨⟨_, rfl⟩, .inr ⟨k + 1, by omega, hJx3⟩⟩
    · obtain rfl : k = vs.length := by omega
      have HJS := Lib.hid hJs
      clear hJs HY HG HO HA2
      gi_wp2
      go_end0
      exact ⟨⟨_, rfl⟩, .inl HJS.out⟩
set_option maxRecDepth 100000 in
set_option maxHeartbeats 3200000 in
theorem all1_tellsN (n : Nat) {w : World} {b0 : Nat} (h0 : w.cell? ⟨b0, 0, none⟩ = some (.pointer none)) (hb : b0 < w.heap.size) (encs : Nat → Array Value) (Kp : World → World → Prop) :
    SeqTells Fence.wide n Try.prog 23 #[.pointer (some ⟨b0, 0, none⟩)] encs Kp 0 w := by
  intro l J Jx W hW _ _ hY hJ0
  have c0 := (hW.cell (p := ⟨b0, 0, none⟩) hb).trans h0
  have HT := Lib.hid (there_no (w := W) .nil)
  have HJ := Lib.hid hJ0
  clear h0 hW hY hJ0
  refine callsIn_of_wp Try.func23 rfl trivial ?_ rfl
  simp only [Try.ntmps23, List.size_toArray, List.length_cons, List.length_nil, Nat.reduceAdd, Nat.reduceSub, Array.replicate_succ, Array.replicate_zero, List.push_toArray, List.append_toArray, List.nil_append, List.cons_append]
  gi_wp2_with fail
  refine ⟨trivial, fun h => (nomatch h), (callsIn_wide.2 HT.out).mono ?_⟩
  rintro e w1 ⟨rfl, rfl⟩
  gi_wp2
  refine bodyPost_ret (results_none rfl _ _ _) rfl ?_
  exact ⟨⟨_, rfl⟩, .inl HJ.out⟩
/-- an iterator that a table gave: its box holds the table's pointer -/
def SeqV (w : World) (sq pT : Value) : Prop := ∃ b0, sq = seqOf b0 ∧ w.cell? ⟨b0, 0, none⟩ = some pT ∧ b0 < w.heap.size
theorem SeqV.below {w w' : World} {sq pT : Value} (h : SeqV w sq pT) (b : Below w.heap.size w w') : SeqV w' sq pT := by
  obtain ⟨b0, e, h0, l0⟩ := h
  exact ⟨b0, e, (b.cell (p := ⟨b0, 0, none⟩) l0).trans h0, Nat.lt_of_lt_of_le l0 b.size⟩
theorem pa_seq {w : World} {pT pR : Value} {mo : Option Int} {mb : Nat} {vs us : List V} {E : Nat → Prop} (h : Pa w pT pR mo mb vs us E) (hlen : vs.length ≤ 1000000000) {b0 : Nat} (h0 : w.cell? ⟨b0, 0, none⟩ = some pT) (hb : b0 < w.heap.size) :
    SeqTells Fence.wide 7 Try.prog 23 #[.pointer (some ⟨b0, 0, none⟩)] (valsAt vs) (KpF w.heap.size) vs.length w := by
  cases h with
  | nil => exact all1_tellsN 7 h0 hb _ _
  | live tb rt dj => exact all1_tells 7 tb hlen h0 hb
end Go.Proofs.Ythdcgikhcghigaa
