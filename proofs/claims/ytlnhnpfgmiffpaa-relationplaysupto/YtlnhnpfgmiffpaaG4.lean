import Derived.Test.YtlnhnpfgmiffpaaG3
import Derived.Deep.RegionWith
section
namespace Go.Proofs.Ytlnhnpfgmiffpaa
open Go.RowKit Go.Maps
set_option linter.unusedVariables false
set_option linter.unusedSimpArgs false
attribute [local go_sem ↓] Go.wp_at_zero Go.wp_at_succ

/-- what a call on a relation may have turned: its own blocks alone -/
structure RTouch (w w' : World) (t m : Nat) (sv : Value) : Prop where
  os : w'.os = w.os
  tape : w'.tape = w.tape
  output : w'.output = w.output
  size : w.heap.size ≤ w'.heap.size
  block : ∀ k, k < w.heap.size → k ≠ t → k ≠ m → sv.ownBlock ≠ some k → w'.heap[k]? = w.heap[k]?
theorem RTouch.of {w w' : World} {t m : Nat} {sv : Value} (h : Below w.heap.size w w') : RTouch w w' t m sv := ⟨h.os, h.tape, h.output, h.size, fun k hk _ _ _ => h.block k hk⟩
theorem RTouch.below {w w' : World} {t m : Nat} {sv : Value} (h : RTouch w w' t m sv) {B : Nat} (hB : B ≤ w.heap.size) (ht : B ≤ t) (hm : B ≤ m) (hs : ∀ g, sv.ownBlock = some g → B ≤ g) : Below B w w' :=
  ⟨h.os, h.tape, h.output, h.size, fun k hk => h.block k (by omega) (by omega) (by omega) (fun e => by have := hs k e; omega)⟩
/-- the two parts of a list without its i-th row, one behind the other -/
theorem cut_concat {w : World} {B g cap : Nat} {rows : List (List Int)} (own : w.ownsRow B 40 24 (.slice (some ⟨g, 0, none⟩) rows.length cap) rows.length (flatR rows)) (ok : ∀ r ∈ rows, r.length = 24) {i : Nat} (hi : i < rows.length) (hlen : rows.length ≤ 1000000000) {q : Nat} (hq : q < w.heap.size)
    (h1 : w.cell? ⟨q, 0, none⟩ = some (.slice (some ⟨g, 0, none⟩) i cap)) (h2 : w.cell? ⟨q, 1, none⟩ = some (.slice (if cap = i + 1 then some ⟨g, 0, none⟩ else some ⟨g, (i + 1) * 24, none⟩) (rows.length - (i + 1)) (cap - (i + 1)))) (cq : Nat) :
    Calls Try.prog 55 #[.slice (some ⟨q, 0, none⟩) 2 cq] w fun e w' => ∃ sv, e = .returned sv ∧ w'.ownsRow w.heap.size 40 24 sv (rows.eraseIdx i).length (flatR (rows.eraseIdx i)) ∧ Below w.heap.size w w' := by
  have hl1 : (rows.take i).length = i := by simp; omega
  have hl2 : (rows.drop (i + 1)).length = rows.length - (i + 1) := by simp
  have hcap : rows.length ≤ cap := by
    obtain ⟨_, ⟨e, h0⟩ | ⟨g', cap', cur, e, _, _, hnc, _⟩⟩ := own
    · cases e
    · cases e; exact hnc
  have hg : g < w.heap.size := (own.lt g rfl).2
  have hfl := flatR_len rows ok
  have hcell : ∀ j u, (flatR rows)[j]? = some u → w.cell? ⟨g, j, none⟩ = some u := fun j u hu => by
    have hj : j < (flatR rows).length := (List.getElem?_eq_some_iff.1 hu).1
    rw [own.cellAt j (by omega)]
    exact hu
  have x1 : LrC w (.slice (some ⟨g, 0, none⟩) (rows.take i).length cap) (rows.take i) := by
    refine ⟨fun r hr => ok r (List.mem_of_mem_take hr), _, _, rfl, fun _ => ⟨g, 0, rfl, hg, fun j u hu => ?_⟩⟩
    rw [Nat.zero_add]
    refine hcell j u ?_
    have e : flatR rows = flatR (rows.take i) ++ flatR (rows.drop i) := by
      simp only [flatR]
      rw [← List.flatMap_append, List.take_append_drop]
    rw [e, List.getElem?_append_left (List.getElem?_eq_some_iff.1 hu).1]
    exact hu
  have x2 : LrC w (.slice (if cap = i + 1 then some ⟨g, 0, none⟩ else some ⟨g, (i + 1) * 24, none⟩) (rows.drop (i + 1)).length (cap - (i + 1))) (rows.drop (i + 1)) := by
    refine ⟨fun r hr => ok r (List.mem_of_mem_drop hr), _, _, rfl, fun hp => ⟨g, (i + 1) * 24, ?_, hg, fun j u hu => ?_⟩⟩
    · rw [if_neg (by omega)]
    · refine hcell _ u ?_
      have e : flatR rows = flatR (rows.take (i + 1)) ++ flatR (rows.drop (i + 1)) := by
        simp only [flatR]
        rw [← List.flatMap_append, List.take_append_drop]
      have ht : (flatR (rows.take (i + 1))).length = (i + 1) * 24 := by
        rw [flatR_len _ (fun r hr => ok r (List.mem_of_mem_take hr))]
        congr 1
        simp; omega
      rw [e, List.getElem?_append_right (by omega), ht, show (i + 1) * 24 + j - (i + 1) * 24 = j by omega]
      exact hu
  have hc := concat2 (q := q) (cq := cq) (rows1 := rows.take i) (rows2 := rows.drop (i + 1)) (by rw [hl1]; exact h1) (by rw [hl2]; exact h2) hq x1 x2 (by rw [hl1, hl2]; omega)
  have he : rows.take i ++ rows.drop (i + 1) = rows.eraseIdx i := (List.eraseIdx_eq_take_drop_succ rows i).symm
  have hn : (rows.take i).length + (rows.drop (i + 1)).length = (rows.eraseIdx i).length := by rw [← he, List.length_append]
  rw [hn, he] at hc
  exact hc
attribute [-go_sem] loadVar
set_option maxHeartbeats 3200000 in
set_option maxRecDepth 100000 in
theorem take_yes {w : World} {B t m : Nat} {sv : Value} {rows : List (List Int)} {ar gone : Int} (h : Rel w B t m sv rows ar gone) (hB : B ≤ w.heap.size) (hlen : rows.length ≤ 1000000000) (r : List Int) (hr : RowOk r) {i : Nat} (hi : rows[i]? = some r) :
    Calls Try.prog 44 #[.pointer (some ⟨t, 0, none⟩), rowV r] w fun e w' => e = .returned (.bool true) ∧ (∃ sv', Rel w' B t m sv' (rows.eraseIdx i) ar gone ∧ ∀ g, sv'.ownBlock = some g → w.heap.size ≤ g) ∧ RTouch w w' t m sv := by
  have hb := belowA (w := w) (.cells (rowC r) 40)
  have hil : i < rows.length := (List.getElem?_eq_some_iff.1 hi).1
  have h1 := (h.keep hb).keep (Below.refl _ _).drew
  have HB := Lib.hid hb
  have l1 := run_loadMap (h1.rl.at (j := 1) rfl)
  have l2 := run_loadRow (RowAt.below (rowAt_new w r) (Below.refl _ (w.alloc (.cells (rowC r) 40))).drew) hr.len
  have hlk := h1.map.look_yes h1.nd hi
  have HR := Lib.hid h1
  have H0 := Lib.hid h
  clear h hb h1
  unfold rowV at *
  go_enter Try.func44, Try.ntmps44
  go_upto_region 1 with fail
  generalize w.alloc (.cells (rowC r) 40) = W at HB l1 l2 hlk HR ⊢
  refine region_once ?_
  apply Exists.intro
  apply Exists.intro
  refine ⟨?_, ?_⟩
  · go_region
    all_goals exact ⟨rfl, rfl, rfl⟩
  clear l1 l2 hlk
  obtain ⟨g, cap, rfl, hcap⟩ : ∃ g cap, sv = .slice (some ⟨g, 0, none⟩) rows.length cap ∧ rows.length ≤ cap := by
    obtain ⟨_, ⟨_, h0⟩ | ⟨g, cap, cur, e, _, _, hnc, _⟩⟩ := HR.out.own
    · omega
    · exact ⟨g, cap, e, hnc⟩
  have l0 := run_loadRows ((HR.out.keep (Below.refl _ _).drew).rl.at (j := 0) rfl)
  have j0 : (0 : Int) ≤ (i : Int) := by omega
  have j1 : (i : Int) ≤ (cap : Int) := by omega
  have jw : IntKind.i64.wrap ((i : Int) + 1) = (i : Int) + 1 := by rw [IntKind.wrap_i64]; omega
  have j2 : (0 : Int) ≤ (i : Int) + 1 := by omega
  have j3 : (i : Int) + 1 ≤ (rows.length : Int) := by omega
  obtain ⟨ad, had⟩ : ∃ ad, (if cap = i + 1 then some (⟨g, 0, none⟩ : Addr) else some ⟨g, (i + 1) * 24, none⟩) = ad := ⟨_, rfl⟩
  have hbE : Below W.heap.size W (W.alloc (.cells #[.slice (some ⟨g, 0, none⟩) i cap, .slice ad (rows.length - (i + 1)) (cap - (i + 1))] 49)).drew.drew := ((belowA _).drew).drew
  have hrE : Rel (W.alloc (.cells #[.slice (some ⟨g, 0, none⟩) i cap, .slice ad (rows.length - (i + 1)) (cap - (i + 1))] 49)).drew.drew B t m (.slice (some ⟨g, 0, none⟩) rows.length cap) rows ar gone := (H0.out.keep HB.out).keep hbE
  have rlE : RL (W.alloc (.cells #[.slice (some ⟨g, 0, none⟩) i cap, .slice ad (rows.length - (i + 1)) (cap - (i + 1))] 49)).drew.drew W.heap.size 49 [.slice (some ⟨g, 0, none⟩) i cap, .slice ad (rows.length - (i + 1)) (cap - (i + 1))] := ((rl_new W #[.slice (some ⟨g, 0, none⟩) i cap, .slice ad (rows.length - (i + 1)) (cap - (i + 1))] 49).below (Below.refl _ _).drew).below (Below.refl _ _).drew
  have HCC := Lib.hid (cut_concat hrE.own (fun r hr => (hrE.ok r hr).len) hil hlen (World.rowIs.lt rlE) (rlE.at (j := 0) rfl) (by rw [had]; exact rlE.at (j := 1) rfl) 2)
  have HRE := Lib.hid hrE
  have HBE := Lib.hid hbE
  have HCT : Hid (∀ u, Below (W.alloc (.cells #[.slice (some ⟨g, 0, none⟩) i cap, .slice ad (rows.length - (i + 1)) (cap - (i + 1))] 49)).drew.drew.heap.size (W.alloc (.cells #[.slice (some ⟨g, 0, none⟩) i cap, .slice ad (rows.length - (i + 1)) (cap - (i + 1))] 49)).drew.drew u → u.cell? ⟨t, 0, none⟩ = some (.slice (some ⟨g, 0, none⟩) rows.length cap) ∧ u.frozen? ⟨t, 0, none⟩ = false) := fun u hu => ⟨(HRE.out.keep hu).rl.at (j := 0) rfl, World.rowIs.frozen (HRE.out.keep hu).rl 0⟩
  clear hbE hrE rlE
  go_upto_region 4 with fail
  refine wp_region_noPanic ?_
  go_region_with (go_at_call 55; refine HCC.out.mono ?_; rintro ee w2 ⟨sv2, rfl, hown2, b2⟩; obtain ⟨d0, f0⟩ := HCT.out w2 b2; obtain ⟨a2, c2, hsv2, _⟩ := own_form hown2; subst hsv2)
  all_goals
    refine NoPanic.normal ?_
    simp only [Exit.then]
    go_at_K
    have rE := HRE.out.keep b2
    have r5 := rE.rl.set 0 (.slice a2 (rows.eraseIdx i).length c2)
    have hg2 : ∀ g', (Value.slice a2 (rows.eraseIdx i).length c2).ownBlock = some g' → W.heap.size < g' := fun g' hg' => by
      have h1 := (hown2.lt g' hg').1
      simp at h1
      omega
    have hWw := HB.out.size
    have htl := World.rowIs.lt (H0.out.keep HB.out).rl
    have hml := (H0.out.keep HB.out).map.lt
    have hmw : m < w.heap.size := H0.out.map.lt
    have htw : t < w.heap.size := World.rowIs.lt H0.out.rl
    have own5 : (w2.setCell ⟨t, 0, none⟩ (.slice a2 (rows.eraseIdx i).length c2)).ownsRow B 40 24 (.slice a2 (rows.eraseIdx i).length c2) (rows.eraseIdx i).length (flatR (rows.eraseIdx i)) := by
      have h1 := own_of_block hown2 (w' := w2.setCell ⟨t, 0, none⟩ (.slice a2 (rows.eraseIdx i).length c2)) (fun g' hg' => Below.heap_setCell _ _ _ _ (by have := hg2 g' hg'; show g' ≠ t; omega))
      obtain ⟨e1, e2 | ⟨g', cap', cur, e, hbase, rest⟩⟩ := h1
      · exact ⟨e1, .inl e2⟩
      · exact ⟨e1, .inr ⟨g', cap', cur, e, by have := hg2 g' (by rw [e]; rfl); omega, rest⟩⟩
    have ok5 : ∀ x ∈ rows.eraseIdx i, RowOk x := fun x hx => H0.out.ok x (List.mem_of_mem_eraseIdx hx)
    have nd5 : (rows.eraseIdx i).Nodup := H0.out.nd.sublist (List.eraseIdx_sublist rows i)
    have map5 : MapR (w2.setCell ⟨t, 0, none⟩ (.slice a2 (rows.eraseIdx i).length c2)) m rows := rE.map.of_block (Below.heap_setCell _ _ _ _ (by exact fun e => H0.out.ne.1 e.symm))
    have ne5 : t ≠ m ∧ ∀ g', (Value.slice a2 (rows.eraseIdx i).length c2).ownBlock = some g' → g' ≠ m := ⟨H0.out.ne.1, fun g' hg' => by have := hg2 g' hg'; omega⟩
    have hlen5 : (rows.eraseIdx i).length ≤ 1000000000 := Nat.le_trans (List.length_eraseIdx_le rows i) hlen
    have HNUM := Lib.hid (number_any (r5.at (j := 0) rfl) (r5.at (j := 1) rfl) (World.rowIs.lt r5) own5 ok5 nd5 map5 ne5 hlen5)
    have HT5 : Hid (RTouch w (w2.setCell ⟨t, 0, none⟩ (.slice a2 (rows.eraseIdx i).length c2)) t m (.slice (some ⟨g, 0, none⟩) rows.length cap)) := by
      have hb := (HB.out.trans (HBE.out.mono HB.out.size)).trans (b2.mono (Nat.le_trans HB.out.size HBE.out.size))
      exact ⟨hb.os, hb.tape, hb.output, Nat.le_trans hb.size (by simp [World.setCell]), fun k hk hkt _ _ => (Below.heap_setCell _ _ _ _ hkt).trans (hb.block k hk)⟩
    have HFIN : Hid (∀ u, Beside m (w2.setCell ⟨t, 0, none⟩ (.slice a2 (rows.eraseIdx i).length c2)) u → MapR u m (rows.eraseIdx i) → Rel u B t m (.slice a2 (rows.eraseIdx i).length c2) (rows.eraseIdx i) ar gone) := fun u hu hmu =>
      ⟨r5.beside hu H0.out.ne.1, own_of_block own5 (fun g' hg' => hu.block g' (own5.lt g' hg').2 (ne5.2 g' hg')), hmu, nd5, ok5, H0.out.lo, ⟨H0.out.ne.1, fun g' hg' => ⟨by have := hg2 g' hg'; omega, ne5.2 g' hg'⟩⟩⟩
    have HG2 : Hid (∀ g', (Value.slice a2 (rows.eraseIdx i).length c2).ownBlock = some g' → w.heap.size ≤ g') := fun g' hg' => by have := hg2 g' hg'; omega
    clear rE r5 hg2 own5 ok5 nd5 map5 ne5 hown2 b2 d0 f0 hlen5 HCC HRE HBE HCT H0 HR l0
    go_wp2_with fail
    refine HNUM.out.mono ?_
    rintro e w7 ⟨⟨uu, rfl⟩, hm7, s7⟩
    have HF := Lib.hid (HFIN.out w7 s7 hm7)
    have HTT : Hid (RTouch w w7 t m (.slice (some ⟨g, 0, none⟩) rows.length cap)) :=
      ⟨s7.os.trans HT5.out.os, s7.tape.trans HT5.out.tape, s7.output.trans HT5.out.output, Nat.le_trans HT5.out.size s7.size, fun k hk h1 h2 h3 => (s7.block k (Nat.lt_of_lt_of_le hk HT5.out.size) h2).trans (HT5.out.block k hk h1 h2 h3)⟩
    clear HFIN HNUM HT5 hm7 s7
    go_wp2
    go_ret
    exact ⟨rfl, ⟨_, HF.out, HG2.out⟩, HTT.out⟩
end Go.Proofs.Ytlnhnpfgmiffpaa
end
section
namespace Go.Proofs.Ytlnhnpfgmiffpaa
open Go.RowKit Go.Maps
set_option linter.unusedVariables false
set_option linter.unusedSimpArgs false
attribute [local go_sem ↓] Go.wp_at_zero Go.wp_at_succ
attribute [-go_sem] loadVar
set_option maxHeartbeats 1600000 in
set_option maxRecDepth 100000 in
theorem take_not {w : World} {B t m : Nat} {sv : Value} {rows : List (List Int)} {ar gone : Int} (h : Rel w B t m sv rows ar gone) (r : List Int) (hr : RowOk r) (hx : r ∉ rows) :
    Calls Try.prog 44 #[.pointer (some ⟨t, 0, none⟩), rowV r] w fun e w' => e = .returned (.bool false) ∧ Below w.heap.size w w' := by
  have hb := belowA (w := w) (.cells (rowC r) 40)
  have h1 := (h.keep hb).keep (Below.refl _ _).drew
  have HB := Lib.hid hb
  have l1 := run_loadMap (h1.rl.at (j := 1) rfl)
  have l2 := run_loadRow (RowAt.below (rowAt_new w r) (Below.refl _ (w.alloc (.cells (rowC r) 40))).drew) hr.len
  have hlk := h1.map.look_no hr hx
  clear h hb h1 hx
  unfold rowV at *
  go_enter Try.func44, Try.ntmps44
  go_upto_region 1 with fail
  generalize w.alloc (.cells (rowC r) 40) = W at HB l1 l2 hlk ⊢
  refine region_once ?_
  apply Exists.intro
  apply Exists.intro
  refine ⟨?_, ?_⟩
  · go_region
    all_goals exact ⟨rfl, rfl, rfl⟩
  clear l1 l2 hlk
  go_wp2
  go_ret
  exact ⟨rfl, HB.out.drew⟩
set_option maxHeartbeats 3200000 in
set_option maxRecDepth 100000 in
theorem remove_not {w : World} {B t m : Nat} {sv : Value} {rows : List (List Int)} {ar gone : Int} (h : Rel w B t m sv rows ar gone) (r : List Int) (hr : RowOk r) (hx : r ∉ rows) :
    Calls Try.prog 22 #[.pointer (some ⟨t, 0, none⟩), rowV r] w fun e w' => e = .returned (.bool false) ∧ Below w.heap.size w w' := by
  have hb := belowA (w := w) (.cells (rowC r) 40)
  have HR0 := Lib.hid (h.keep hb)
  have HB := Lib.hid hb
  have HA := Lib.hid (rowAt_new w r)
  have HS : Hid (∀ u, Below (w.alloc (.cells (rowC r) 40)).heap.size (w.alloc (.cells (rowC r) 40)) u →
      u.rangeAt w.heap.size 0 (List.map cellI r) ∧
      Calls Try.prog 14 #[.pointer (some ⟨t, 0, none⟩)] u (fun e w' => e = .returned (.bool true) ∧ w' = u) ∧
      Calls Try.prog 44 #[.pointer (some ⟨t, 0, none⟩), .agg (List.map cellI r).toArray] u (fun e w' => e = .returned (.bool false) ∧ Below u.heap.size u w')) :=
    fun u hu => ⟨(RowAt.below HA.out hu).range, there_yes (HR0.out.keep hu), take_not (HR0.out.keep hu) r hr hx⟩
  have hur := Try.underlying40
  have hir : (Try.prog.info? 40).map (·.size) = some (List.map cellI r).length := by rw [List.length_map, hr.len]; exact infoRow
  clear HA HR0 h hb
  unfold rowV
  go_enter Try.func22, Try.ntmps22
  go_upto_region 1 with fail
  generalize w.alloc (.cells (rowC r) 40) = W at HB HS ⊢
  have hB0 : Below W.heap.size W W := Below.refl _ _
  go_region_held3 (fun u => (Below W.heap.size W u) ∧ u.rangeAt w.heap.size 0 (List.map cellI r))
    (first | assumption | exact ⟨hB0.drew, (HS.out _ hB0.drew).1⟩ | exact ⟨(by assumption), (HS.out _ (by assumption)).1⟩)
    (first
      | (go_at_call 14; refine ((HS.out _ (by first | exact hB0.drew | assumption)).2.1).mono ?_; rintro ee w2 ⟨rfl, rfl⟩)
      | (go_at_call 44; refine ((HS.out _ (by first | exact hB0.drew | assumption)).2.2).mono ?_; rintro ee w3 ⟨rfl, b3⟩; have b3' : Below W.heap.size W w3 := hB0.drew.trans b3)
      | fail)
  go_wp2
  go_ret
  exact ⟨rfl, HB.out.trans (b3'.mono HB.out.size)⟩
set_option maxHeartbeats 3200000 in
set_option maxRecDepth 100000 in
theorem remove_yes {w : World} {B t m : Nat} {sv : Value} {rows : List (List Int)} {ar gone : Int} (h : Rel w B t m sv rows ar gone) (hB : B ≤ w.heap.size) (hlen : rows.length ≤ 1000000000) (r : List Int) (hr : RowOk r) {i : Nat} (hi : rows[i]? = some r) (hw : IntKind.i64.wrap (gone + 1) = gone + 1) :
    Calls Try.prog 22 #[.pointer (some ⟨t, 0, none⟩), rowV r] w fun e w' => e = .returned (.bool true) ∧ (∃ sv', Rel w' B t m sv' (rows.eraseIdx i) ar (gone + 1) ∧ ∀ g, sv'.ownBlock = some g → w.heap.size ≤ g) ∧ RTouch w w' t m sv := by
  have hb := belowA (w := w) (.cells (rowC r) 40)
  have HB := Lib.hid hb
  have hD : Below (w.alloc (.cells (rowC r) 40)).heap.size (w.alloc (.cells (rowC r) 40)) (w.alloc (.cells (rowC r) 40)).drew := (Below.refl _ _).drew
  have hRD := (h.keep hb).keep hD
  have hAD := RowAt.below (rowAt_new w r) hD
  have HTH := Lib.hid (there_yes hRD)
  have HTK := Lib.hid (take_yes hRD (by have := hb.size; simp at this ⊢; omega) hlen r hr hi)
  have RG0 := Lib.hid hAD.range
  have HNE : Hid (w.heap.size ≠ t ∧ w.heap.size ≠ m ∧ sv.ownBlock ≠ some w.heap.size) := by
    have h1 := World.rowIs.lt h.rl
    have h2 := h.map.lt
    refine ⟨by omega, by omega, fun e => ?_⟩
    have := (h.own.lt _ e).2
    omega
  have RK : Hid (∀ u, RTouch (w.alloc (.cells (rowC r) 40)).drew u t m sv → u.rangeAt w.heap.size 0 (List.map cellI r)) := fun u hu => RowAt.range ((hu.block _ hAD.lt HNE.out.1 HNE.out.2.1 HNE.out.2.2).trans hAD)
  have hur := Try.underlying40
  have hir : (Try.prog.info? 40).map (·.size) = some (List.map cellI r).length := by rw [List.length_map, hr.len]; exact infoRow
  have H0 := Lib.hid h
  clear h hb hD hRD hAD
  unfold rowV at HTK ⊢
  go_enter Try.func22, Try.ntmps22
  go_upto_region 1 with fail
  generalize w.alloc (.cells (rowC r) 40) = W at HB HTH HTK RG0 RK ⊢
  go_region_held3 (fun u => u.rangeAt w.heap.size 0 (List.map cellI r))
    (first | assumption | exact RG0.out | exact RK.out _ (by assumption))
    (first
      | (go_at_call 14; refine HTH.out.mono ?_; rintro ee w2 ⟨rfl, rfl⟩)
      | (go_at_call 44; refine HTK.out.mono ?_; rintro ee w3 ⟨rfl, ⟨sv', hR3, hg3⟩, t3⟩)
      | fail)
  have c3 := hR3.rl.at (j := 3) rfl
  have l3 := run_loadInt c3
  have f3 := World.rowIs.frozen hR3.rl 3
  have HF : Hid (Rel (w3.setCell ⟨t, 3, none⟩ (.int .i64 (gone + 1))) B t m sv' (rows.eraseIdx i) ar (gone + 1)) :=
    ⟨hR3.rl.set 3 (.int .i64 (gone + 1)), own_of_block hR3.own (fun g hg => Below.heap_setCell _ _ _ _ (hR3.ne.2 g hg).1), hR3.map.of_block (Below.heap_setCell _ _ _ _ (by exact fun e => hR3.ne.1 e.symm)), hR3.nd, hR3.ok, hR3.lo, hR3.ne⟩
  have HTT : Hid (RTouch w (w3.setCell ⟨t, 3, none⟩ (.int .i64 (gone + 1))) t m sv) :=
    ⟨t3.os.trans HB.out.os, t3.tape.trans HB.out.tape, t3.output.trans HB.out.output, Nat.le_trans HB.out.size (Nat.le_trans t3.size (by simp [World.setCell])), fun k hk h1 h2 h3 => (Below.heap_setCell _ _ _ _ h1).trans ((t3.block k (Nat.lt_of_lt_of_le hk HB.out.size) h1 h2 h3).trans (HB.out.block k hk))⟩
  have HG3 : Hid (∀ g, sv'.ownBlock = some g → w.heap.size ≤ g) := fun g hg => Nat.le_trans HB.out.size (hg3 g hg)
  clear hR3 t3 hg3 HB HTH HTK RG0 RK HNE H0
  go_wp2
  go_ret
  exact ⟨rfl, ⟨sv', HF.out, HG3.out⟩, HTT.out⟩
end Go.Proofs.Ytlnhnpfgmiffpaa
end
section
namespace Go.Proofs.Ytlnhnpfgmiffpaa
open Go.RowKit Go.Maps
set_option linter.unusedVariables false
set_option linter.unusedSimpArgs false
attribute [local go_sem ↓] Go.wp_at_zero Go.wp_at_succ

theorem RTouch.trans {a b c : World} {t m : Nat} {sv : Value} (h : RTouch a b t m sv) (k : RTouch b c t m sv) : RTouch a c t m sv :=
  ⟨k.os.trans h.os, k.tape.trans h.tape, k.output.trans h.output, Nat.le_trans h.size k.size, fun i hi h1 h2 h3 => (k.block i (Nat.lt_of_lt_of_le hi h.size) h1 h2 h3).trans (h.block i hi h1 h2 h3)⟩
theorem RTouch.mapTurned {a b c : World} {t m : Nat} {sv : Value} (h : RTouch a b t m sv) (ht : b.mapTurned c m) : RTouch a c t m sv := by
  have s := Beside.mapTurned ht
  exact ⟨s.os.trans h.os, s.tape.trans h.tape, s.output.trans h.output, Nat.le_trans h.size s.size, fun i hi h1 h2 h3 => (s.block i (Nat.lt_of_lt_of_le hi h.size) h2).trans (h.block i hi h1 h2 h3)⟩
theorem rel_growT {W u w3 : World} {B t m : Nat} {sv v' : Value} {rows : List (List Int)} {r : List Int} {ar gone : Int}
    (rl : RL W t 55 [sv, .map (some m), .int .i64 ar, .int .i64 gone]) (own : W.ownsRow B 40 24 sv rows.length (rows.flatMap (fun r => r.map cellI))) (map : MapR W m (rows ++ [r])) (hWu : Below W.heap.size W u)
    (hown : w3.ownsRow B 40 24 v' (rows.length + 1) (rows.flatMap (fun r => r.map cellI) ++ r.map cellI)) (hg : u.grownBy w3 sv.ownBlock) (hloc : v'.ownBlock = sv.ownBlock ∨ v'.ownBlock = some u.heap.size)
    (nd : (rows ++ [r]).Nodup) (ok : ∀ x ∈ rows ++ [r], RowOk x) (lo : B ≤ t ∧ B ≤ m) (ne : t ≠ m ∧ ∀ g, sv.ownBlock = some g → g ≠ t ∧ g ≠ m) (hB : B ≤ W.heap.size) :
    Rel (w3.setCell ⟨t, 0, none⟩ v') B t m v' (rows ++ [r]) ar gone ∧ w3.cell? ⟨t, 0, none⟩ = some sv ∧ w3.frozen? ⟨t, 0, none⟩ = false ∧ RTouch W (w3.setCell ⟨t, 0, none⟩ v') t m sv := by
  obtain ⟨h1, h2, h3, h4⟩ := rel_grow rl own map hWu hown hg hloc nd ok lo ne hB
  refine ⟨h1, h2, h3, h4.os, h4.tape, h4.output, h4.size, fun k hk hkt _ hks => ?_⟩
  exact (Below.heap_setCell _ _ _ _ hkt).trans ((hg.block k (Nat.lt_of_lt_of_le hk hWu.size) (fun e => hks e.symm)).trans (hWu.block k hk))
attribute [-go_sem] loadVar
set_option maxHeartbeats 3200000 in
set_option maxRecDepth 100000 in
theorem put_newT {w : World} {B t m : Nat} {sv : Value} {rows : List (List Int)} {ar gone : Int} (h : Rel w B t m sv rows ar gone) (hB : B ≤ w.heap.size) (hlen : rows.length ≤ 1000000000) (r : List Int) (hr : RowOk r) (hx : r ∉ rows) : Calls Try.prog 40 #[.pointer (some ⟨t, 0, none⟩), rowV r] w fun e w' => e = .returned (.bool true) ∧ RTouch w w' t m sv ∧ ∃ sv', Rel w' B t m sv' (rows ++ [r]) ar gone ∧ ∀ g, sv'.ownBlock = some g → sv.ownBlock = some g ∨ w.heap.size ≤ g := by
  obtain ⟨i0, hi0, hz0, hz1, hz2⟩ := info_parts infoRowB
  have hb := (Below.refl w.heap.size w).alloc (Nat.le_refl _) (.cells (rowC r) 40)
  have HB := Lib.hid hb
  have HA := Lib.hid (rowAt_new w r)
  have l2 := run_loadRow (rowAt_new w r) hr.len
  have HR := Lib.hid (h.keep hb)
  have HH := Lib.hid (has_any (h.keep hb) r hr false ⟨fun e => (by cases e), fun e => absurd e hx⟩)
  have HX := Lib.hid (And.intro hr hx)
  have HTM := Lib.hid (And.intro (World.rowIs.lt h.rl) h.map.lt)
  clear h hb hx
  unfold rowV at l2 HH ⊢
  go_enter Try.func40, Try.ntmps40
  go_upto_region 1 with fail
  generalize w.alloc (.cells (rowC r) 40) = W at HB HA l2 HR HH ⊢
  go_wp2_with fail
  refine HH.out.mono ?_
  rintro e w1 ⟨rfl, b1⟩
  have HR1 := Lib.hid ((HR.out.keep b1).keep (Below.refl _ _).drew)
  have HA1 := Lib.hid ((HA.out.below b1).below (Below.refl _ _).drew)
  have HB1 := Lib.hid ((HB.out.trans (b1.mono HB.out.size)).drew)
  clear HR HA HB HH b1 l2
  obtain ⟨ao, co, hsv, _⟩ := own_form HR1.out.own
  subst hsv
  have l0 := run_loadRows (HR1.out.rl.at (j := 0) rfl)
  have l1 := run_loadMap (HR1.out.rl.at (j := 1) rfl)
  have l2 := run_loadRow HA1.out HX.out.1.len
  obtain ⟨w2, hput, hm2, ht2⟩ := HR1.out.map.put HX.out.1 HX.out.2
  have HM2 := Lib.hid hm2
  have HT2 := Lib.hid (HR1.out.turned ht2)
  unfold rowV at l2 hput
  have HA2 : Hid (RowAt w2 w.heap.size r) := (ht2.grown.block w.heap.size HA1.out.lt (fun e => by have := HTM.out.2; have := Option.some.inj e; omega)).trans HA1.out
  have HB2 : Hid (RTouch w w2 t m (.slice ao rows.length co)) := (RTouch.of HB1.out).mapTurned ht2
  have HNE := Lib.hid (And.intro HR1.out.lo HR1.out.ne)
  have HND : Hid ((rows ++ [r]).Nodup ∧ ∀ x ∈ rows ++ [r], RowOk x) := by
    refine ⟨?_, fun x hx => ?_⟩
    · rw [List.nodup_append]
      exact ⟨HR1.out.nd, by simp, fun a ha b hb => by rw [List.mem_singleton.1 hb]; exact fun e => HX.out.2 (e ▸ ha)⟩
    · rcases List.mem_append.1 hx with hx | hx
      · exact HR1.out.ok x hx
      · rw [List.mem_singleton.1 hx]; exact HX.out.1
  have HBZ : Hid (B ≤ w2.heap.size) := by show _ ≤ _; have := HB2.out.size; omega
  clear hm2 ht2 HTM
  go_upto_region 3 with fail
  go_cut [8] (fun _ wc => wc = w2)
  case first =>
    go_region
    all_goals
      go_wp2_with fail
      go_meet
      exact rfl
  case rest =>
    subst hcut
    have hd : Below wc.heap.size wc wc.drew := (Below.refl _ _).drew
    have hau : Below wc.drew.heap.size wc.drew (wc.drew.alloc (.cells (rowC r) 40)) := (Below.refl _ _).alloc (Nat.le_refl _) _
    have HRL := Lib.hid (HT2.out.1.below hd)
    have HOW := Lib.hid (own_below HT2.out.2 hd)
    have HOWN := Lib.hid (own_below (own_below HT2.out.2 hd) hau)
    have HMP := Lib.hid (HM2.out.below hd)
    have HAU := Lib.hid hau
    have HSZ : Hid (B ≤ (wc.drew.alloc (.cells (rowC r) 40)).heap.size) := by show _ ≤ _; have := HBZ.out; simp; omega
    have HBZ' : Hid (B ≤ wc.drew.heap.size) := HBZ.out
    have HBW : Hid (RTouch w wc.drew t m (.slice ao rows.length co)) := HB2.out.trans (RTouch.of (Below.refl _ _).drew)
    have l0' := run_loadRows (HRL.out.at (j := 0) rfl)
    have l0'' : (loadVar 49 ⟨t, 0, none⟩).run Try.prog (wc.alloc (.cells (List.map cellI r).toArray 40)).drew = .ok (.slice ao rows.length co) (wc.alloc (.cells (List.map cellI r).toArray 40)).drew := run_loadRows ((HRL.out.below hau).at (j := 0) rfl)
    have l2' := run_loadRow (HA2.out.below hd) HX.out.1.len
    have hrl : (r.map cellI).length = 1 * 24 := by rw [List.length_map, HX.out.1.len]
    have HC : Hid (∀ (j : Nat) (u : Value), (r.map cellI)[j]? = some u → (wc.drew.alloc (.cells (rowC r) 40)).cell? ((⟨wc.heap.size, 0, none⟩ : Addr).add j) = some u) := fun j u hu => lit_news wc.drew (rowC r) 40 j u (by simpa using hu)
    have HONE : Hid (∀ u ∈ r.map cellI, u.oneCell' = true) := fun u hu => by
      obtain ⟨x, _, rfl⟩ := List.mem_map.1 hu
      rfl
    have hfold := fold_row HX.out.1.len (A := #[.int .i32 0, .int .i32 0, .int .i32 0, .int .i32 0, .int .i32 0, .int .i32 0, .int .i32 0, .int .i32 0, .int .i32 0, .int .i32 0, .int .i32 0, .int .i32 0, .int .i32 0, .int .i32 0, .int .i32 0, .int .i32 0, .int .i32 0, .int .i32 0, .int .i32 0, .int .i32 0, .int .i32 0, .int .i32 0, .int .i32 0, .int .i32 0]) rfl
    unfold rowV at l2'
    clear hd hau l0 l1 l2 hput HM2 HT2 HA2 HB2 HBZ HA1 HB1 HR1
    go_upto_region 4 with fail
    go_region_law (
      refine step_append_own rfl (.tmp 22) (.tmp 24) 49 rfl 40 i0 _ 24 96 Try.underlying49 hi0 hz0 hz1 hz2 rfl (by decide) B (.slice ao rows.length co) rows.length _ (by simp [Act.eval, Act.put]) HOWN.out ⟨wc.heap.size, 0, none⟩ 1 1 (r.map cellI) (by simp [Act.eval, Act.put]) hrl HC.out HONE.out (by unfold maxLen; omega) (by omega) HSZ.out ?_
      intro v' w3 hown' hgrow hloc
      obtain ⟨hfin, m4, f4, hbf⟩ := rel_growT HRL.out HOW.out HMP.out HAU.out hown' hgrow hloc HND.out.1 HND.out.2 HNE.out.1 HNE.out.2 HBZ'.out
      obtain ⟨a2, c2, hv', _⟩ := own_form hown'
      subst hv'
      have HFIN := Lib.hid hfin
      have HBF := Lib.hid hbf
      have HLOC := Lib.hid hloc
      clear hown' hgrow hloc hfin hbf)
    all_goals
      go_wp2
      go_ret
      refine ⟨rfl, HBW.out.trans HBF.out, _, HFIN.out, fun g hg => ?_⟩
      rcases HLOC.out with e | e
      · exact .inl (e ▸ hg)
      · rw [e] at hg
        have h1 := Option.some.inj hg
        have h2 := HBW.out.size
        simp at h1 h2
        exact .inr (by omega)
set_option maxHeartbeats 3200000 in
set_option maxRecDepth 100000 in
theorem add_anyT {w : World} {B t m : Nat} {sv : Value} {rows : List (List Int)} {ar gone : Int} (h : Rel w B t m sv rows ar gone) (hB : B ≤ w.heap.size) (hlen : rows.length ≤ 1000000000) (r : List Int) (hr : RowOk r) :
    Calls Try.prog 16 #[.pointer (some ⟨t, 0, none⟩), rowV r] w fun e w' =>
      (fitB r ar = false ∧ e = .returned (.tuple #[.bool false, .int .i64 100]) ∧ Below w.heap.size w w') ∨
      (fitB r ar = true ∧ r ∈ rows ∧ e = .returned (.tuple #[.bool false, .int .i64 0]) ∧ Below w.heap.size w w') ∨
      (fitB r ar = true ∧ r ∉ rows ∧ e = .returned (.tuple #[.bool true, .int .i64 0]) ∧ RTouch w w' t m sv ∧ ∃ sv', Rel w' B t m sv' (rows ++ [r]) ar gone ∧ ∀ g, sv'.ownBlock = some g → sv.ownBlock = some g ∨ w.heap.size ≤ g) := by
  have hb := (Below.refl w.heap.size w).alloc (Nat.le_refl _) (.cells (rowC r) 40)
  have HB := Lib.hid hb
  have HA := Lib.hid (rowAt_new w r)
  have HR := Lib.hid (h.keep hb)
  have HT := Lib.hid (there_yes (h.keep hb))
  have HX := Lib.hid hr
  have hzW : w.heap.size ≤ (w.alloc (.cells (rowC r) 40)).heap.size := by simp
  clear h hb
  unfold rowV
  go_enter Try.func16, Try.ntmps16
  go_upto_region 1 with fail
  generalize w.alloc (.cells (rowC r) 40) = W at HB HA HR HT hzW ⊢
  go_wp2_with fail
  refine HT.out.mono ?_
  rintro e w1 ⟨rfl, rfl⟩
  have HR1 := Lib.hid (HR.out.keep (Below.refl _ _).drew)
  have HA1 := Lib.hid (HA.out.below (Below.refl _ _).drew)
  have l1 := run_loadInt (HR1.out.rl.at (j := 2) rfl)
  have l2 := run_loadRow HA1.out HX.out.len
  unfold rowV at l2
  have HF := fun u => Lib.hid (fits_any r HX.out.len ar u)
  unfold rowV at HF
  clear HT
  go_upto_region 3 with fail
  go_region_law (
    refine step_call rfl 39 Try.func39 (by kernel_rfl) (by kernel_rfl) #[.tmp 9, .tmp 13] _ rfl #[.agg (List.map cellI r).toArray, .int .i64 ar] (by simp [Act.eval, Act.put]) (HF _).out ?_
    rintro ee w2 ⟨rfl, b2⟩
    refine ⟨_, rfl, ?_⟩
    have HB2 := Lib.hid b2
    clear b2)
  all_goals
    have HR2 := Lib.hid ((HR1.out.keep HB2.out).keep (Below.refl _ _).drew)
    have HA2 := Lib.hid ((HA1.out.below HB2.out).below (Below.refl _ _).drew)
    have HBW := Lib.hid (HB.out.drew.trans (HB2.out.mono HB.out.drew.size))
    have hzz : Hid (B ≤ w2.drew.heap.size) := by show _ ≤ _; have := HBW.out.size; show B ≤ w2.heap.size; omega
    have l2' := run_loadRow HA2.out HX.out.len
    unfold rowV at l2'
    clear l1 l2 HR1 HA1 HB2 HF HB HA HR
    cases hf : fitB r ar with
    | false =>
      go_wp2
      go_ret2
      exact .inl ⟨hf, rfl, HBW.out⟩
    | true =>
      by_cases hm : r ∈ rows
      · have HP := Lib.hid (put_old HR2.out r HX.out hm)
        unfold rowV at HP
        have HM := Lib.hid hm
        clear HR2 HA2 hm
        go_upto_region 5 with fail
        go_region_law (
          refine step_call rfl 40 Try.func40 (by kernel_rfl) (by kernel_rfl) #[.tmp 18, .tmp 19] _ rfl #[.pointer (some ⟨t, 0, none⟩), .agg (List.map cellI r).toArray] (by simp [Act.eval, Act.put]) HP.out ?_
          rintro ee w3 ⟨rfl, b3⟩
          refine ⟨_, rfl, ?_⟩
          have HB3 := Lib.hid (HBW.out.drew.trans (b3.mono HBW.out.drew.size))
          clear b3)
        all_goals
          go_wp2
          go_ret2
          exact .inr (.inl ⟨hf, HM.out, rfl, HB3.out⟩)
      · have HP := Lib.hid (put_newT HR2.out hzz.out hlen r HX.out hm)
        unfold rowV at HP
        have HM := Lib.hid hm
        clear HR2 HA2 hm
        go_upto_region 5 with fail
        go_region_law (
          refine step_call rfl 40 Try.func40 (by kernel_rfl) (by kernel_rfl) #[.tmp 18, .tmp 19] _ rfl #[.pointer (some ⟨t, 0, none⟩), .agg (List.map cellI r).toArray] (by simp [Act.eval, Act.put]) HP.out ?_
          rintro ee w3 ⟨rfl, b3, sv', hrel, hloc⟩
          refine ⟨_, rfl, ?_⟩
          have HB3 : Hid (RTouch w w3 t m sv) := (RTouch.of HBW.out.drew).trans b3
          have HRL := Lib.hid hrel
          have HLC := Lib.hid hloc
          clear b3 hrel hloc)
        all_goals
          go_wp2
          go_ret2
          exact .inr (.inr ⟨hf, HM.out, rfl, HB3.out, sv', HRL.out, fun g hg => (HLC.out g hg).imp id (fun h => Nat.le_trans HBW.out.size h)⟩)
end Go.Proofs.Ytlnhnpfgmiffpaa
end
