import Derived.Test.YtlnhnpfgmiffpaaG8
import Derived.Deep.RegionWith
import Derived.Test.YtlnhnpfgmiffpaaG7
section
namespace Go.Proofs.Ytlnhnpfgmiffpaa
open Go.RowKit Go.Maps
set_option linter.unusedVariables false
set_option linter.unusedSimpArgs false
attribute [local go_sem ↓] Go.wp_at_zero Go.wp_at_succ
attribute [-go_sem] loadVar
set_option maxHeartbeats 3200000 in
set_option maxRecDepth 100000 in
theorem take_yesP {w : World} {B t m : Nat} {sv : Value} {rows : List (List Int)} {ar gone : Int} (h : Rel w B t m sv rows ar gone) (hB : B ≤ w.heap.size) (hlen : rows.length ≤ 1000000000) (r : List Int) (hr : RowOk r) {i : Nat} (hi : rows[i]? = some r) :
    Calls Try.prog 44 #[.pointer (some ⟨t, 0, none⟩), rowV r] w fun e w' => e = .returned (.bool true) ∧ (∃ sv', Rel w' B t m sv' (rows.eraseIdx i) ar gone ∧ ∀ g, sv'.ownBlock = some g → w.heap.size ≤ g) ∧ RTouch w w' t m (.pointer none) := by
  have hb := belowA (w := w) (.cells (rowC r) 40)
  have hil : i < rows.length := (List.getElem?_eq_some_iff.1 hi).1
  have h1 := (h.keep hb).keep (Below.refl _ _).drew
  have HB := Lib.hid hb
  have l1 := run_loadMap (h1.rl.at (j := 1) rfl)
  have l2 := run_loadRow (RowAt.below (rowAt_new w r) (Below.refl _ (w.alloc (.cells (rowC r) 40))).drew) hr.len
  have hlk := h1.map.look_yes h1.nd hi
  have HR := Lib.hid h1
  have H0 := Lib.hid h
  clear h hb h1
  unfold rowV at *
  go_enter Try.func44, Try.ntmps44
  go_upto_region 1 with fail
  generalize w.alloc (.cells (rowC r) 40) = W at HB l1 l2 hlk HR ⊢
  refine region_once ?_
  apply Exists.intro
  apply Exists.intro
  refine ⟨?_, ?_⟩
  · go_region
    all_goals exact ⟨rfl, rfl, rfl⟩
  clear l1 l2 hlk
  obtain ⟨g, cap, rfl, hcap⟩ : ∃ g cap, sv = .slice (some ⟨g, 0, none⟩) rows.length cap ∧ rows.length ≤ cap := by
    obtain ⟨_, ⟨_, h0⟩ | ⟨g, cap, cur, e, _, _, hnc, _⟩⟩ := HR.out.own
    · omega
    · exact ⟨g, cap, e, hnc⟩
  have l0 := run_loadRows ((HR.out.keep (Below.refl _ _).drew).rl.at (j := 0) rfl)
  have j0 : (0 : Int) ≤ (i : Int) := by omega
  have j1 : (i : Int) ≤ (cap : Int) := by omega
  have jw : IntKind.i64.wrap ((i : Int) + 1) = (i : Int) + 1 := by rw [IntKind.wrap_i64]; omega
  have j2 : (0 : Int) ≤ (i : Int) + 1 := by omega
  have j3 : (i : Int) + 1 ≤ (rows.length : Int) := by omega
  obtain ⟨ad, had⟩ : ∃ ad, (if cap = i + 1 then some (⟨g, 0, none⟩ : Addr) else some ⟨g, (i + 1) * 24, none⟩) = ad := ⟨_, rfl⟩
  have hbE : Below W.heap.size W (W.alloc (.cells #[.slice (some ⟨g, 0, none⟩) i cap, .slice ad (rows.length - (i + 1)) (cap - (i + 1))] 49)).drew.drew := ((belowA _).drew).drew
  have hrE : Rel (W.alloc (.cells #[.slice (some ⟨g, 0, none⟩) i cap, .slice ad (rows.length - (i + 1)) (cap - (i + 1))] 49)).drew.drew B t m (.slice (some ⟨g, 0, none⟩) rows.length cap) rows ar gone := (H0.out.keep HB.out).keep hbE
  have rlE : RL (W.alloc (.cells #[.slice (some ⟨g, 0, none⟩) i cap, .slice ad (rows.length - (i + 1)) (cap - (i + 1))] 49)).drew.drew W.heap.size 49 [.slice (some ⟨g, 0, none⟩) i cap, .slice ad (rows.length - (i + 1)) (cap - (i + 1))] := ((rl_new W #[.slice (some ⟨g, 0, none⟩) i cap, .slice ad (rows.length - (i + 1)) (cap - (i + 1))] 49).below (Below.refl _ _).drew).below (Below.refl _ _).drew
  have HCC := Lib.hid (cut_concat hrE.own (fun r hr => (hrE.ok r hr).len) hil hlen (World.rowIs.lt rlE) (rlE.at (j := 0) rfl) (by rw [had]; exact rlE.at (j := 1) rfl) 2)
  have HRE := Lib.hid hrE
  have HBE := Lib.hid hbE
  have HCT : Hid (∀ u, Below (W.alloc (.cells #[.slice (some ⟨g, 0, none⟩) i cap, .slice ad (rows.length - (i + 1)) (cap - (i + 1))] 49)).drew.drew.heap.size (W.alloc (.cells #[.slice (some ⟨g, 0, none⟩) i cap, .slice ad (rows.length - (i + 1)) (cap - (i + 1))] 49)).drew.drew u → u.cell? ⟨t, 0, none⟩ = some (.slice (some ⟨g, 0, none⟩) rows.length cap) ∧ u.frozen? ⟨t, 0, none⟩ = false) := fun u hu => ⟨(HRE.out.keep hu).rl.at (j := 0) rfl, World.rowIs.frozen (HRE.out.keep hu).rl 0⟩
  clear hbE hrE rlE
  go_upto_region 4 with fail
  refine wp_region_noPanic ?_
  go_region_with (go_at_call 55; refine HCC.out.mono ?_; rintro ee w2 ⟨sv2, rfl, hown2, b2⟩; obtain ⟨d0, f0⟩ := HCT.out w2 b2; obtain ⟨a2, c2, hsv2, _⟩ := own_form hown2; subst hsv2)
  all_goals
    refine NoPanic.normal ?_
    simp only [Exit.then]
    go_at_K
    have rE := HRE.out.keep b2
    have r5 := rE.rl.set 0 (.slice a2 (rows.eraseIdx i).length c2)
    have hg2 : ∀ g', (Value.slice a2 (rows.eraseIdx i).length c2).ownBlock = some g' → W.heap.size < g' := fun g' hg' => by
      have h1 := (hown2.lt g' hg').1
      simp at h1
      omega
    have hWw := HB.out.size
    have htl := World.rowIs.lt (H0.out.keep HB.out).rl
    have hml := (H0.out.keep HB.out).map.lt
    have hmw : m < w.heap.size := H0.out.map.lt
    have htw : t < w.heap.size := World.rowIs.lt H0.out.rl
    have own5 : (w2.setCell ⟨t, 0, none⟩ (.slice a2 (rows.eraseIdx i).length c2)).ownsRow B 40 24 (.slice a2 (rows.eraseIdx i).length c2) (rows.eraseIdx i).length (flatR (rows.eraseIdx i)) := by
      have h1 := own_of_block hown2 (w' := w2.setCell ⟨t, 0, none⟩ (.slice a2 (rows.eraseIdx i).length c2)) (fun g' hg' => Below.heap_setCell _ _ _ _ (by have := hg2 g' hg'; show g' ≠ t; omega))
      obtain ⟨e1, e2 | ⟨g', cap', cur, e, hbase, rest⟩⟩ := h1
      · exact ⟨e1, .inl e2⟩
      · exact ⟨e1, .inr ⟨g', cap', cur, e, by have := hg2 g' (by rw [e]; rfl); omega, rest⟩⟩
    have ok5 : ∀ x ∈ rows.eraseIdx i, RowOk x := fun x hx => H0.out.ok x (List.mem_of_mem_eraseIdx hx)
    have nd5 : (rows.eraseIdx i).Nodup := H0.out.nd.sublist (List.eraseIdx_sublist rows i)
    have map5 : MapR (w2.setCell ⟨t, 0, none⟩ (.slice a2 (rows.eraseIdx i).length c2)) m rows := rE.map.of_block (Below.heap_setCell _ _ _ _ (by exact fun e => H0.out.ne.1 e.symm))
    have ne5 : t ≠ m ∧ ∀ g', (Value.slice a2 (rows.eraseIdx i).length c2).ownBlock = some g' → g' ≠ m := ⟨H0.out.ne.1, fun g' hg' => by have := hg2 g' hg'; omega⟩
    have hlen5 : (rows.eraseIdx i).length ≤ 1000000000 := Nat.le_trans (List.length_eraseIdx_le rows i) hlen
    have HNUM := Lib.hid (number_any (r5.at (j := 0) rfl) (r5.at (j := 1) rfl) (World.rowIs.lt r5) own5 ok5 nd5 map5 ne5 hlen5)
    have HT5 : Hid (RTouch w (w2.setCell ⟨t, 0, none⟩ (.slice a2 (rows.eraseIdx i).length c2)) t m (.pointer none)) := by
      have hb := (HB.out.trans (HBE.out.mono HB.out.size)).trans (b2.mono (Nat.le_trans HB.out.size HBE.out.size))
      exact ⟨hb.os, hb.tape, hb.output, Nat.le_trans hb.size (by simp [World.setCell]), fun k hk hkt _ _ => (Below.heap_setCell _ _ _ _ hkt).trans (hb.block k hk)⟩
    have HFIN : Hid (∀ u, Beside m (w2.setCell ⟨t, 0, none⟩ (.slice a2 (rows.eraseIdx i).length c2)) u → MapR u m (rows.eraseIdx i) → Rel u B t m (.slice a2 (rows.eraseIdx i).length c2) (rows.eraseIdx i) ar gone) := fun u hu hmu =>
      ⟨r5.beside hu H0.out.ne.1, own_of_block own5 (fun g' hg' => hu.block g' (own5.lt g' hg').2 (ne5.2 g' hg')), hmu, nd5, ok5, H0.out.lo, ⟨H0.out.ne.1, fun g' hg' => ⟨by have := hg2 g' hg'; omega, ne5.2 g' hg'⟩⟩⟩
    have HG2 : Hid (∀ g', (Value.slice a2 (rows.eraseIdx i).length c2).ownBlock = some g' → w.heap.size ≤ g') := fun g' hg' => by have := hg2 g' hg'; omega
    clear rE r5 hg2 own5 ok5 nd5 map5 ne5 hown2 b2 d0 f0 hlen5 HCC HRE HBE HCT H0 HR l0
    go_wp2_with fail
    refine HNUM.out.mono ?_
    rintro e w7 ⟨⟨uu, rfl⟩, hm7, s7⟩
    have HF := Lib.hid (HFIN.out w7 s7 hm7)
    have HTT : Hid (RTouch w w7 t m (.pointer none)) :=
      ⟨s7.os.trans HT5.out.os, s7.tape.trans HT5.out.tape, s7.output.trans HT5.out.output, Nat.le_trans HT5.out.size s7.size, fun k hk h1 h2 h3 => (s7.block k (Nat.lt_of_lt_of_le hk HT5.out.size) h2).trans (HT5.out.block k hk h1 h2 h3)⟩
    clear HFIN HNUM HT5 hm7 s7
    go_wp2
    go_ret
    exact ⟨rfl, ⟨_, HF.out, HG2.out⟩, HTT.out⟩
set_option maxHeartbeats 3200000 in
set_option maxRecDepth 100000 in
theorem remove_yesP {w : World} {B t m : Nat} {sv : Value} {rows : List (List Int)} {ar gone : Int} (h : Rel w B t m sv rows ar gone) (hB : B ≤ w.heap.size) (hlen : rows.length ≤ 1000000000) (r : List Int) (hr : RowOk r) {i : Nat} (hi : rows[i]? = some r) (hw : IntKind.i64.wrap (gone + 1) = gone + 1) :
    Calls Try.prog 22 #[.pointer (some ⟨t, 0, none⟩), rowV r] w fun e w' => e = .returned (.bool true) ∧ (∃ sv', Rel w' B t m sv' (rows.eraseIdx i) ar (gone + 1) ∧ ∀ g, sv'.ownBlock = some g → w.heap.size ≤ g) ∧ RTouch w w' t m (.pointer none) := by
  have hb := belowA (w := w) (.cells (rowC r) 40)
  have HB := Lib.hid hb
  have hD : Below (w.alloc (.cells (rowC r) 40)).heap.size (w.alloc (.cells (rowC r) 40)) (w.alloc (.cells (rowC r) 40)).drew := (Below.refl _ _).drew
  have hRD := (h.keep hb).keep hD
  have hAD := RowAt.below (rowAt_new w r) hD
  have HTH := Lib.hid (there_yes hRD)
  have HTK := Lib.hid (take_yesP hRD (by have := hb.size; simp at this ⊢; omega) hlen r hr hi)
  have RG0 := Lib.hid hAD.range
  have HNE : Hid (w.heap.size ≠ t ∧ w.heap.size ≠ m ∧ sv.ownBlock ≠ some w.heap.size) := by
    have h1 := World.rowIs.lt h.rl
    have h2 := h.map.lt
    refine ⟨by omega, by omega, fun e => ?_⟩
    have := (h.own.lt _ e).2
    omega
  have RK : Hid (∀ u, RTouch (w.alloc (.cells (rowC r) 40)).drew u t m (.pointer none) → u.rangeAt w.heap.size 0 (List.map cellI r)) := fun u hu => RowAt.range ((hu.block _ hAD.lt HNE.out.1 HNE.out.2.1 (fun e => by cases e)).trans hAD)
  have hur := Try.underlying40
  have hir : (Try.prog.info? 40).map (·.size) = some (List.map cellI r).length := by rw [List.length_map, hr.len]; exact infoRow
  have H0 := Lib.hid h
  clear h hb hD hRD hAD
  unfold rowV at HTK ⊢
  go_enter Try.func22, Try.ntmps22
  go_upto_region 1 with fail
  generalize w.alloc (.cells (rowC r) 40) = W at HB HTH HTK RG0 RK ⊢
  go_region_held3 (fun u => u.rangeAt w.heap.size 0 (List.map cellI r))
    (first | assumption | exact RG0.out | exact RK.out _ (by assumption))
    (first
      | (go_at_call 14; refine HTH.out.mono ?_; rintro ee w2 ⟨rfl, rfl⟩)
      | (go_at_call 44; refine HTK.out.mono ?_; rintro ee w3 ⟨rfl, ⟨sv', hR3, hg3⟩, t3⟩)
      | fail)
  have c3 := hR3.rl.at (j := 3) rfl
  have l3 := run_loadInt c3
  have f3 := World.rowIs.frozen hR3.rl 3
  have HF : Hid (Rel (w3.setCell ⟨t, 3, none⟩ (.int .i64 (gone + 1))) B t m sv' (rows.eraseIdx i) ar (gone + 1)) :=
    ⟨hR3.rl.set 3 (.int .i64 (gone + 1)), own_of_block hR3.own (fun g hg => Below.heap_setCell _ _ _ _ (hR3.ne.2 g hg).1), hR3.map.of_block (Below.heap_setCell _ _ _ _ (by exact fun e => hR3.ne.1 e.symm)), hR3.nd, hR3.ok, hR3.lo, hR3.ne⟩
  have HTT : Hid (RTouch w (w3.setCell ⟨t, 3, none⟩ (.int .i64 (gone + 1))) t m (.pointer none)) :=
    ⟨t3.os.trans HB.out.os, t3.tape.trans HB.out.tape, t3.output.trans HB.out.output, Nat.le_trans HB.out.size (Nat.le_trans t3.size (by simp [World.setCell])), fun k hk h1 h2 h3 => (Below.heap_setCell _ _ _ _ h1).trans ((t3.block k (Nat.lt_of_lt_of_le hk HB.out.size) h1 h2 h3).trans (HB.out.block k hk))⟩
  have HG3 : Hid (∀ g, sv'.ownBlock = some g → w.heap.size ≤ g) := fun g hg => Nat.le_trans HB.out.size (hg3 g hg)
  clear hR3 t3 hg3 HB HTH HTK RG0 RK HNE H0
  go_wp2
  go_ret
  exact ⟨rfl, ⟨sv', HF.out, HG3.out⟩, HTT.out⟩
theorem remove_oneP {w : World} {B t m : Nat} {sv : Value} {rows : List (List Int)} {ar gone : Int} (h : Rel w B t m sv rows ar gone) (hB : B ≤ w.heap.size) (hlen : rows.length ≤ 1000000000) (r : List Int) (hr : RowOk r) (hw : IntKind.i64.wrap (gone + 1) = gone + 1) :
    Calls Try.prog 22 #[.pointer (some ⟨t, 0, none⟩), rowV r] w fun e w' =>
      e = .returned (.bool (decide (r ∈ rows))) ∧ RTouch w w' t m (.pointer none) ∧ ∃ sv', Rel w' B t m sv' (remRows rows r) ar (remG rows r gone) ∧ ∀ g, sv'.ownBlock = some g → sv.ownBlock = some g ∨ w.heap.size ≤ g := by
  by_cases hm : r ∈ rows
  · refine (remove_yesP h hB hlen r hr (rem_at hm) hw).mono ?_
    rintro e w' ⟨rfl, ⟨sv', h1, h2⟩, h3⟩
    exact ⟨by simp [hm], h3, sv', by simpa [remRows, remG, hm] using h1, fun g hg => .inr (h2 g hg)⟩
  · refine (remove_not h r hr hm).mono ?_
    rintro e w' ⟨rfl, b⟩
    exact ⟨by simp [hm], RTouch.of b, sv, by simpa [remRows, remG, hm] using h.keep b, fun g hg => .inl hg⟩
end Go.Proofs.Ytlnhnpfgmiffpaa
end
section
namespace Go.Proofs.Ytlnhnpfgmiffpaa
open Go.RowKit Go.Maps
set_option linter.unusedVariables false
set_option linter.unusedSimpArgs false
attribute [local go_sem ↓] Go.wp_at_zero Go.wp_at_succ

theorem Rel.blocks {w w' : World} {B t m : Nat} {sv : Value} {rows : List (List Int)} {ar gone : Int} (h : Rel w B t m sv rows ar gone) (h1 : w'.heap[t]? = w.heap[t]?) (h2 : w'.heap[m]? = w.heap[m]?) (h3 : ∀ g, sv.ownBlock = some g → w'.heap[g]? = w.heap[g]?) : Rel w' B t m sv rows ar gone :=
  ⟨World.rowIs.of_block h.rl h1, own_of_block h.own h3, h.map.of_block h2, h.nd, h.ok, h.lo, h.ne⟩
theorem Rf.blocks {w w' : World} {B p : Nat} {sv : Value} {rows : List (List Int)} {ar tk : Int} (h : Rf w B p sv rows ar tk) (h1 : w'.heap[p]? = w.heap[p]?) (h3 : ∀ g, sv.ownBlock = some g → w'.heap[g]? = w.heap[g]?) : Rf w' B p sv rows ar tk :=
  ⟨World.rowIs.of_block h.rl h1, own_of_block h.own h3, h.ok, h.lo, h.ne⟩
/-- the program's relation beside the reference's, of the same rows: the pair lies in block b from o on -/
structure Bo (w : World) (b o B t m : Nat) (sv : Value) (p : Nat) (sv' : Value) (rows : List (List Int)) (n : Nat) (gn : Int) : Prop where
  bl : b < w.heap.size
  cT : w.cell? ⟨b, o, none⟩ = some (.pointer (some ⟨t, 0, none⟩))
  cR : w.cell? ⟨b, o + 1, none⟩ = some (.pointer (some ⟨p, 0, none⟩))
  rel : Rel w B t m sv rows (n : Int) gn
  rf : Rf w B p sv' rows (n : Int) gn
  na : n ≤ 24
  ap : p ≠ t ∧ p ≠ m ∧ (∀ g, sv.ownBlock = some g → g ≠ p ∧ sv'.ownBlock ≠ some g) ∧ ∀ g, sv'.ownBlock = some g → g ≠ t ∧ g ≠ m
  nb : b ≠ t ∧ b ≠ m ∧ b ≠ p ∧ sv.ownBlock ≠ some b ∧ sv'.ownBlock ≠ some b
/-- the blocks of the two relations -/
def BoE (t m : Nat) (sv : Value) (p : Nat) (sv' : Value) : Nat → Prop := fun k => k = t ∨ k = m ∨ k = p ∨ sv.ownBlock = some k ∨ sv'.ownBlock = some k
theorem Bo.keep {w w' : World} {b o B t m p n : Nat} {sv sv' : Value} {rows : List (List Int)} {gn : Int} (h : Bo w b o B t m sv p sv' rows n gn) (hb : Below w.heap.size w w') : Bo w' b o B t m sv p sv' rows n gn :=
  ⟨Nat.lt_of_lt_of_le h.bl hb.size, (hb.cell (p := ⟨b, o, none⟩) h.bl).trans h.cT, (hb.cell (p := ⟨b, o + 1, none⟩) h.bl).trans h.cR, h.rel.keep hb, h.rf.keep hb, h.na, h.ap, h.nb⟩
/-- a call on the program's relation, then the same on the reference's -/
theorem Bo.both {w w1 w2 : World} {b o B t m p n : Nat} {sv sv' sv2 sv2' : Value} {rows rows2 : List (List Int)} {gn gn2 : Int} (h : Bo w b o B t m sv p sv' rows n gn)
    (r1 : RTouch w w1 t m sv) (h1 : Rel w1 B t m sv2 rows2 (n : Int) gn2) (l1 : ∀ g, sv2.ownBlock = some g → sv.ownBlock = some g ∨ w.heap.size ≤ g)
    (r2 : RTouch w1 w2 p p sv') (h2 : Rf w2 B p sv2' rows2 (n : Int) gn2) (l2 : ∀ g, sv2'.ownBlock = some g → sv'.ownBlock = some g ∨ w1.heap.size ≤ g) :
    Bo w2 b o B t m sv2 p sv2' rows2 n gn2 ∧ BK.Tch (BoE t m sv p sv') w w2 := by
  have tl := World.rowIs.lt h.rel.rl
  have ml := h.rel.map.lt
  have pl := World.rowIs.lt h.rf.rl
  have z1 := r1.size
  have z2 := r2.size
  have hpt := h.ap.1
  have hpm := h.ap.2.1
  have nbt := h.nb
  have bb : w2.heap[b]? = w.heap[b]? := (r2.block b (Nat.lt_of_lt_of_le h.bl z1) nbt.2.2.1 nbt.2.2.1 nbt.2.2.2.2).trans (r1.block b h.bl nbt.1 nbt.2.1 nbt.2.2.2.1)
  have s2 : ∀ g, sv2.ownBlock = some g → g < w1.heap.size ∧ g ≠ p ∧ sv'.ownBlock ≠ some g := fun g hg => by
    refine ⟨(h1.own.lt g hg).2, ?_⟩
    rcases l1 g hg with e | e
    · exact ⟨(h.ap.2.2.1 g e).1, (h.ap.2.2.1 g e).2⟩
    · exact ⟨by omega, fun e2 => by have := (h.rf.own.lt g e2).2; omega⟩
  have s2' : ∀ g, sv2'.ownBlock = some g → g ≠ t ∧ g ≠ m ∧ g ≠ b := fun g hg => by
    rcases l2 g hg with e | e
    · exact ⟨(h.ap.2.2.2 g e).1, (h.ap.2.2.2 g e).2, fun eb => nbt.2.2.2.2 (by rw [← eb]; exact e)⟩
    · have := h.bl
      exact ⟨by omega, by omega, by omega⟩
  refine ⟨⟨by have := h.bl; omega, (World.cell?_of_block (w := w) bb).trans h.cT, (World.cell?_of_block (w := w) bb).trans h.cR, ?_, h2, h.na, ⟨hpt, hpm, fun g hg => ⟨(s2 g hg).2.1, fun e => ?_⟩, fun g hg => ⟨(s2' g hg).1, (s2' g hg).2.1⟩⟩, nbt.1, nbt.2.1, nbt.2.2.1, fun e => ?_, fun e => (s2' b e).2.2 rfl⟩, ?_⟩
  · exact h1.blocks (r2.block t (by omega) (Ne.symm hpt) (Ne.symm hpt) (fun e => (h.ap.2.2.2 t e).1 rfl)) (r2.block m (by omega) (Ne.symm hpm) (Ne.symm hpm) (fun e => (h.ap.2.2.2 m e).2 rfl)) (fun g hg => r2.block g (s2 g hg).1 (s2 g hg).2.1 (s2 g hg).2.1 (s2 g hg).2.2)
  · rcases l2 g e with q | q
    · exact (s2 g hg).2.2 q
    · have := (s2 g hg).1; omega
  · rcases l1 b e with q | q
    · exact nbt.2.2.2.1 q
    · have := h.bl; omega
  · exact ⟨r2.os.trans r1.os, r2.tape.trans r1.tape, r2.output.trans r1.output, Nat.le_trans z1 z2, fun k hk hn => by
      have n1 : k ≠ t := fun e => hn (.inl e)
      have n2 : k ≠ m := fun e => hn (.inr (.inl e))
      have n3 : k ≠ p := fun e => hn (.inr (.inr (.inl e)))
      have n4 : sv.ownBlock ≠ some k := fun e => hn (.inr (.inr (.inr (.inl e))))
      have n5 : sv'.ownBlock ≠ some k := fun e => hn (.inr (.inr (.inr (.inr e))))
      exact (r2.block k (Nat.lt_of_lt_of_le hk z1) n3 n3 n5).trans (r1.block k hk n1 n2 n4)⟩
/-- the row's block is the old one, or new -/
def LocB (w : World) (sv sv2 : Value) : Prop := ∀ g, sv2.ownBlock = some g → sv.ownBlock = some g ∨ w.heap.size ≤ g
theorem LocB.up {w w' : World} {sv sv2 : Value} (h : LocB w' sv sv2) (hz : w.heap.size ≤ w'.heap.size) : LocB w sv sv2 := fun g hg => (h g hg).imp id (fun e => Nat.le_trans hz e)
theorem LocB.trans {w w' : World} {sv sv2 sv3 : Value} (h : LocB w sv sv2) (h' : LocB w' sv2 sv3) (hz : w.heap.size ≤ w'.heap.size) : LocB w sv sv3 := fun g hg => by
  rcases h' g hg with e | e
  · exact h g e
  · exact .inr (Nat.le_trans hz e)
/-- the reference's relation behind a call on the program's -/
theorem Bo.rf1 {w w1 : World} {b o B t m p n : Nat} {sv sv' : Value} {rows : List (List Int)} {gn : Int} (h : Bo w b o B t m sv p sv' rows n gn) (r1 : RTouch w w1 t m sv) : Rf w1 B p sv' rows (n : Int) gn :=
  h.rf.blocks (r1.block p (World.rowIs.lt h.rf.rl) h.ap.1 h.ap.2.1 (fun e => (h.ap.2.2.1 p e).1 rfl)) (fun g hg => r1.block g (h.rf.own.lt g hg).2 (h.ap.2.2.2 g hg).1 (h.ap.2.2.2 g hg).2 (fun e => (h.ap.2.2.1 g e).2 hg))
end Go.Proofs.Ytlnhnpfgmiffpaa
end
