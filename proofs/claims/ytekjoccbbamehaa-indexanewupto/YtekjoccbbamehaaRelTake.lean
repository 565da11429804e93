import Derived.Test.YtekjoccbbamehaaRelCat
import Derived.Deep.RegionWith
namespace Go.Proofs.Ytekjoccbbamehaa
open Go.RowKit Go.Maps
set_option linter.unusedVariables false
set_option linter.unusedSimpArgs false
attribute [local go_sem ↓] Go.wp_at_zero Go.wp_at_succ

/-- what a call on a relation may have turned: its own blocks alone -/
structure RTouch (w w' : World) (t m : Nat) (sv : Value) : Prop where
  os : w'.os = w.os
  tape : w'.tape = w.tape
  output : w'.output = w.output
  size : w.heap.size ≤ w'.heap.size
  block : ∀ k, k < w.heap.size → k ≠ t → k ≠ m → sv.ownBlock ≠ some k → w'.heap[k]? = w.heap[k]?
theorem RTouch.of {w w' : World} {t m : Nat} {sv : Value} (h : Below w.heap.size w w') : RTouch w w' t m sv := ⟨h.os, h.tape, h.output, h.size, fun k hk _ _ _ => h.block k hk⟩
theorem RTouch.below {w w' : World} {t m : Nat} {sv : Value} (h : RTouch w w' t m sv) {B : Nat} (hB : B ≤ w.heap.size) (ht : B ≤ t) (hm : B ≤ m) (hs : ∀ g, sv.ownBlock = some g → B ≤ g) : Below B w w' :=
  ⟨h.os, h.tape, h.output, h.size, fun k hk => h.block k (by omega) (by omega) (by omega) (fun e => by have := hs k e; omega)⟩
/-- the two parts of a list without its i-th row, one behind the other -/
theorem cut_concat {w : World} {B g cap : Nat} {rows : List (List Int)} (own : w.ownsRow B 34 24 (.slice (some ⟨g, 0, none⟩) rows.length cap) rows.length (flatR rows)) (ok : ∀ r ∈ rows, r.length = 24) {i : Nat} (hi : i < rows.length) (hlen : rows.length ≤ 1000000000) {q : Nat} (hq : q < w.heap.size)
    (h1 : w.cell? ⟨q, 0, none⟩ = some (.slice (some ⟨g, 0, none⟩) i cap)) (h2 : w.cell? ⟨q, 1, none⟩ = some (.slice (if cap = i + 1 then some ⟨g, 0, none⟩ else some ⟨g, (i + 1) * 24, none⟩) (rows.length - (i + 1)) (cap - (i + 1)))) (cq : Nat) :
    Calls Try.prog 37 #[.slice (some ⟨q, 0, none⟩) 2 cq] w fun e w' => ∃ sv, e = .returned sv ∧ w'.ownsRow w.heap.size 34 24 sv (rows.eraseIdx i).length (flatR (rows.eraseIdx i)) ∧ Below w.heap.size w w' := by
  have hl1 : (rows.take i).length = i := by simp; omega
  have hl2 : (rows.drop (i + 1)).length = rows.length - (i + 1) := by simp
  have hcap : rows.length ≤ cap := by
    obtain ⟨_, ⟨e, h0⟩ | ⟨g', cap', cur, e, _, _, hnc, _⟩⟩ := own
    · cases e
    · cases e; exact hnc
  have hg : g < w.heap.size := (own.lt g rfl).2
  have hfl := flatR_len rows ok
  have hcell : ∀ j u, (flatR rows)[j]? = some u → w.cell? ⟨g, j, none⟩ = some u := fun j u hu => by
    have hj : j < (flatR rows).length := (List.getElem?_eq_some_iff.1 hu).1
    rw [own.cellAt j (by omega)]
    exact hu
  have x1 : LrC w (.slice (some ⟨g, 0, none⟩) (rows.take i).length cap) (rows.take i) := by
    refine ⟨fun r hr => ok r (List.mem_of_mem_take hr), _, _, rfl, fun _ => ⟨g, 0, rfl, hg, fun j u hu => ?_⟩⟩
    rw [Nat.zero_add]
    refine hcell j u ?_
    have e : flatR rows = flatR (rows.take i) ++ flatR (rows.drop i) := by
      simp only [flatR]
      rw [← List.flatMap_append, List.take_append_drop]
    rw [e, List.getElem?_append_left (List.getElem?_eq_some_iff.1 hu).1]
    exact hu
  have x2 : LrC w (.slice (if cap = i + 1 then some ⟨g, 0, none⟩ else some ⟨g, (i + 1) * 24, none⟩) (rows.drop (i + 1)).length (cap - (i + 1))) (rows.drop (i + 1)) := by
    refine ⟨fun r hr => ok r (List.mem_of_mem_drop hr), _, _, rfl, fun hp => ⟨g, (i + 1) * 24, ?_, hg, fun j u hu => ?_⟩⟩
    · rw [if_neg (by omega)]
    · refine hcell _ u ?_
      have e : flatR rows = flatR (rows.take (i + 1)) ++ flatR (rows.drop (i + 1)) := by
        simp only [flatR]
        rw [← List.flatMap_append, List.take_append_drop]
      have ht : (flatR (rows.take (i + 1))).length = (i + 1) * 24 := by
        rw [flatR_len _ (fun r hr => ok r (List.mem_of_mem_take hr))]
        congr 1
        simp; omega
      rw [e, List.getElem?_append_right (by omega), ht, show (i + 1) * 24 + j - (i + 1) * 24 = j by omega]
      exact hu
  have hc := concat2 (q := q) (cq := cq) (rows1 := rows.take i) (rows2 := rows.drop (i + 1)) (by rw [hl1]; exact h1) (by rw [hl2]; exact h2) hq x1 x2 (by rw [hl1, hl2]; omega)
  have he : rows.take i ++ rows.drop (i + 1) = rows.eraseIdx i := (List.eraseIdx_eq_take_drop_succ rows i).symm
  have hn : (rows.take i).length + (rows.drop (i + 1)).length = (rows.eraseIdx i).length := by rw [← he, List.length_append]
  rw [hn, he] at hc
  exact hc
attribute [-go_sem] loadVar
set_option maxHeartbeats 3200000 in
set_option maxRecDepth 100000 in
theorem take_yes {w : World} {B t m : Nat} {sv : Value} {rows : List (List Int)} {ar gone : Int} (h : Rel w B t m sv rows ar gone) (hB : B ≤ w.heap.size) (hlen : rows.length ≤ 1000000000) (r : List Int) (hr : RowOk r) {i : Nat} (hi : rows[i]? = some r) :
    Calls Try.prog 28 #[.pointer (some ⟨t, 0, none⟩), rowV r] w fun e w' => e = .returned (.bool true) ∧ (∃ sv', Rel w' B t m sv' (rows.eraseIdx i) ar gone ∧ ∀ g, sv'.ownBlock = some g → w.heap.size ≤ g) ∧ RTouch w w' t m sv := by
  have hb := belowA (w := w) (.cells (rowC r) 34)
  have hil : i < rows.length := (List.getElem?_eq_some_iff.1 hi).1
  have h1 := (h.keep hb).keep (Below.refl _ _).drew
  have HB := Lib.hid hb
  have l1 := run_loadMap (h1.rl.at (j := 1) rfl)
  have l2 := run_loadRow (RowAt.below (rowAt_new w r) (Below.refl _ (w.alloc (.cells (rowC r) 34))).drew) hr.len
  have hlk := h1.map.look_yes h1.nd hi
  have HR := Lib.hid h1
  have H0 := Lib.hid h
  clear h hb h1
  unfold rowV at *
  go_enter Try.func28, Try.ntmps28
  go_upto_region 1 with fail
  generalize w.alloc (.cells (rowC r) 34) = W at HB l1 l2 hlk HR ⊢
  refine region_once ?_
  apply Exists.intro
  apply Exists.intro
  refine ⟨?_, ?_⟩
  · go_region
    all_goals exact ⟨rfl, rfl, rfl⟩
  clear l1 l2 hlk
  obtain ⟨g, cap, rfl, hcap⟩ : ∃ g cap, sv = .slice (some ⟨g, 0, none⟩) rows.length cap ∧ rows.length ≤ cap := by
    obtain ⟨_, ⟨_, h0⟩ | ⟨g, cap, cur, e, _, _, hnc, _⟩⟩ := HR.out.own
    · omega
    · exact ⟨g, cap, e, hnc⟩
  have l0 := run_loadRows ((HR.out.keep (Below.refl _ _).drew).rl.at (j := 0) rfl)
  have j0 : (0 : Int) ≤ (i : Int) := by omega
  have j1 : (i : Int) ≤ (cap : Int) := by omega
  have jw : IntKind.i64.wrap ((i : Int) + 1) = (i : Int) + 1 := by rw [IntKind.wrap_i64]; omega
  have j2 : (0 : Int) ≤ (i : Int) + 1 := by omega
  have j3 : (i : Int) + 1 ≤ (rows.length : Int) := by omega
  obtain ⟨ad, had⟩ : ∃ ad, (if cap = i + 1 then some (⟨g, 0, none⟩ : Addr) else some ⟨g, (i + 1) * 24, none⟩) = ad := ⟨_, rfl⟩
  have hbE : Below W.heap.size W (W.alloc (.cells #[.slice (some ⟨g, 0, none⟩) i cap, .slice ad (rows.length - (i + 1)) (cap - (i + 1))] 22)).drew.drew := ((belowA _).drew).drew
  have hrE : Rel (W.alloc (.cells #[.slice (some ⟨g, 0, none⟩) i cap, .slice ad (rows.length - (i + 1)) (cap - (i + 1))] 22)).drew.drew B t m (.slice (some ⟨g, 0, none⟩) rows.length cap) rows ar gone := (H0.out.keep HB.out).keep hbE
  have rlE : RL (W.alloc (.cells #[.slice (some ⟨g, 0, none⟩) i cap, .slice ad (rows.length - (i + 1)) (cap - (i + 1))] 22)).drew.drew W.heap.size 22 [.slice (some ⟨g, 0, none⟩) i cap, .slice ad (rows.length - (i + 1)) (cap - (i + 1))] := ((rl_new W #[.slice (some ⟨g, 0, none⟩) i cap, .slice ad (rows.length - (i + 1)) (cap - (i + 1))] 22).below (Below.refl _ _).drew).below (Below.refl _ _).drew
  have HCC := Lib.hid (cut_concat hrE.own (fun r hr => (hrE.ok r hr).len) hil hlen (World.rowIs.lt rlE) (rlE.at (j := 0) rfl) (by rw [had]; exact rlE.at (j := 1) rfl) 2)
  have HRE := Lib.hid hrE
  have HBE := Lib.hid hbE
  have HCT : Hid (∀ u, Below (W.alloc (.cells #[.slice (some ⟨g, 0, none⟩) i cap, .slice ad (rows.length - (i + 1)) (cap - (i + 1))] 22)).drew.drew.heap.size (W.alloc (.cells #[.slice (some ⟨g, 0, none⟩) i cap, .slice ad (rows.length - (i + 1)) (cap - (i + 1))] 22)).drew.drew u → u.cell? ⟨t, 0, none⟩ = some (.slice (some ⟨g, 0, none⟩) rows.length cap) ∧ u.frozen? ⟨t, 0, none⟩ = false) := fun u hu => ⟨(HRE.out.keep hu).rl.at (j := 0) rfl, World.rowIs.frozen (HRE.out.keep hu).rl 0⟩
  clear hbE hrE rlE
  go_upto_region 4 with fail
  refine wp_region_noPanic ?_
  go_region_with (go_at_call 37; refine HCC.out.mono ?_; rintro ee w2 ⟨sv2, rfl, hown2, b2⟩; obtain ⟨d0, f0⟩ := HCT.out w2 b2; obtain ⟨a2, c2, hsv2, _⟩ := own_form hown2; subst hsv2)
  all_goals
    refine NoPanic.normal ?_
    simp only [Exit.then]
    go_at_K
    have rE := HRE.out.keep b2
    have r5 := rE.rl.set 0 (.slice a2 (rows.eraseIdx i).length c2)
    have hg2 : ∀ g', (Value.slice a2 (rows.eraseIdx i).length c2).ownBlock = some g' → W.heap.size < g' := fun g' hg' => by
      have h1 := (hown2.lt g' hg').1
      simp at h1
      omega
    have hWw := HB.out.size
    have htl := World.rowIs.lt (H0.out.keep HB.out).rl
    have hml := (H0.out.keep HB.out).map.lt
    have hmw : m < w.heap.size := H0.out.map.lt
    have htw : t < w.heap.size := World.rowIs.lt H0.out.rl
    have own5 : (w2.setCell ⟨t, 0, none⟩ (.slice a2 (rows.eraseIdx i).length c2)).ownsRow B 34 24 (.slice a2 (rows.eraseIdx i).length c2) (rows.eraseIdx i).length (flatR (rows.eraseIdx i)) := by
      have h1 := own_of_block hown2 (w' := w2.setCell ⟨t, 0, none⟩ (.slice a2 (rows.eraseIdx i).length c2)) (fun g' hg' => Below.heap_setCell _ _ _ _ (by have := hg2 g' hg'; show g' ≠ t; omega))
      obtain ⟨e1, e2 | ⟨g', cap', cur, e, hbase, rest⟩⟩ := h1
      · exact ⟨e1, .inl e2⟩
      · exact ⟨e1, .inr ⟨g', cap', cur, e, by have := hg2 g' (by rw [e]; rfl); omega, rest⟩⟩
    have ok5 : ∀ x ∈ rows.eraseIdx i, RowOk x := fun x hx => H0.out.ok x (List.mem_of_mem_eraseIdx hx)
    have nd5 : (rows.eraseIdx i).Nodup := H0.out.nd.sublist (List.eraseIdx_sublist rows i)
    have map5 : MapR (w2.setCell ⟨t, 0, none⟩ (.slice a2 (rows.eraseIdx i).length c2)) m rows := rE.map.of_block (Below.heap_setCell _ _ _ _ (by exact fun e => H0.out.ne.1 e.symm))
    have ne5 : t ≠ m ∧ ∀ g', (Value.slice a2 (rows.eraseIdx i).length c2).ownBlock = some g' → g' ≠ m := ⟨H0.out.ne.1, fun g' hg' => by have := hg2 g' hg'; omega⟩
    have hlen5 : (rows.eraseIdx i).length ≤ 1000000000 := Nat.le_trans (List.length_eraseIdx_le rows i) hlen
    have HNUM := Lib.hid (number_any (r5.at (j := 0) rfl) (r5.at (j := 1) rfl) (World.rowIs.lt r5) own5 ok5 nd5 map5 ne5 hlen5)
    have HT5 : Hid (RTouch w (w2.setCell ⟨t, 0, none⟩ (.slice a2 (rows.eraseIdx i).length c2)) t m (.slice (some ⟨g, 0, none⟩) rows.length cap)) := by
      have hb := (HB.out.trans (HBE.out.mono HB.out.size)).trans (b2.mono (Nat.le_trans HB.out.size HBE.out.size))
      exact ⟨hb.os, hb.tape, hb.output, Nat.le_trans hb.size (by simp [World.setCell]), fun k hk hkt _ _ => (Below.heap_setCell _ _ _ _ hkt).trans (hb.block k hk)⟩
    have HFIN : Hid (∀ u, Beside m (w2.setCell ⟨t, 0, none⟩ (.slice a2 (rows.eraseIdx i).length c2)) u → MapR u m (rows.eraseIdx i) → Rel u B t m (.slice a2 (rows.eraseIdx i).length c2) (rows.eraseIdx i) ar gone) := fun u hu hmu =>
      ⟨r5.beside hu H0.out.ne.1, own_of_block own5 (fun g' hg' => hu.block g' (own5.lt g' hg').2 (ne5.2 g' hg')), hmu, nd5, ok5, H0.out.lo, ⟨H0.out.ne.1, fun g' hg' => ⟨by have := hg2 g' hg'; omega, ne5.2 g' hg'⟩⟩⟩
    have HG2 : Hid (∀ g', (Value.slice a2 (rows.eraseIdx i).length c2).ownBlock = some g' → w.heap.size ≤ g') := fun g' hg' => by have := hg2 g' hg'; omega
    clear rE r5 hg2 own5 ok5 nd5 map5 ne5 hown2 b2 d0 f0 hlen5 HCC HRE HBE HCT H0 HR l0
    go_wp2_with fail
    refine HNUM.out.mono ?_
    rintro e w7 ⟨⟨uu, rfl⟩, hm7, s7⟩
    have HF := Lib.hid (HFIN.out w7 s7 hm7)
    have HTT : Hid (RTouch w w7 t m (.slice (some ⟨g, 0, none⟩) rows.length cap)) :=
      ⟨s7.os.trans HT5.out.os, s7.tape.trans HT5.out.tape, s7.output.trans HT5.out.output, Nat.le_trans HT5.out.size s7.size, fun k hk h1 h2 h3 => (s7.block k (Nat.lt_of_lt_of_le hk HT5.out.size) h2).trans (HT5.out.block k hk h1 h2 h3)⟩
    clear HFIN HNUM HT5 hm7 s7
    go_wp2
    go_ret
    exact ⟨rfl, ⟨_, HF.out, HG2.out⟩, HTT.out⟩
end Go.Proofs.Ytekjoccbbamehaa
