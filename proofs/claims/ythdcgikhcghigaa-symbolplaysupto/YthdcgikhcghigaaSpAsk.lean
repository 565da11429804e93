import Derived.Test.YthdcgikhcghigaaSpReg8
namespace Go.Proofs.Ythdcgikhcghigaa
open Go.RowKit Go.Maps Go.Shelf
set_option linter.unusedVariables false
set_option linter.unusedSimpArgs false
attribute [local go_sem ↓] Go.wp_at_zero Go.wp_at_succ

/-- what a pair keeps: no iterator, or that of All; K: its box -/
inductive Kpt (w : World) (pT : Value) : Value → (Nat → Prop) → Prop
  | nil : Kpt w pT .nilFunc (fun _ => False)
  | seq (b0 : Nat) (h0 : w.cell? ⟨b0, 0, none⟩ = some pT) (l0 : b0 < w.heap.size) : Kpt w pT (seqOf b0) (fun k => k = b0)
theorem Kpt.blocks {w w' : World} {pT kv : Value} {K : Nat → Prop} (h : Kpt w pT kv K) (hz : w.heap.size ≤ w'.heap.size) (hb : ∀ k, K k → w'.heap[k]? = w.heap[k]?) : Kpt w' pT kv K := by
  cases h with
  | nil => exact .nil
  | seq b0 h0 l0 => exact .seq b0 ((World.cell?_of_block (w := w) (hb _ rfl)).trans h0) (by omega)
theorem Kpt.lt {w : World} {pT kv : Value} {K : Nat → Prop} (h : Kpt w pT kv K) {k : Nat} (hk : K k) : k < w.heap.size := by
  cases h with
  | nil => exact hk.elim
  | seq b0 h0 l0 => rw [hk]; exact l0
/-- the law's pair in block b from o on, with what it keeps -/
structure St (w : World) (b : Nat) (ty : TypeId) (l : List Value) (o : Nat) (pT pR kv : Value) (mo : Option Int) (mb : Nat) (vs : List V) (E K : Nat → Prop) : Prop where
  rl : RL w b ty l
  i0 : l[o]? = some pT
  i1 : l[o + 1]? = some pR
  i2 : l[o + 2]? = some kv
  pa : Pa w pT pR mo mb vs vs E
  kp : Kpt w pT kv K
  dj : ∀ k, E k → ¬ K k
  nb : ¬ E b ∧ ¬ K b
  ml : mb < w.heap.size
section
variable {w w' : World} {b o : Nat} {ty : TypeId} {l : List Value} {pT pR kv : Value} {mo : Option Int} {mb : Nat} {vs : List V} {E K : Nat → Prop}
theorem St.bx (h : St w b ty l o pT pR kv mo mb vs E K) : Bx w b o pT pR := ⟨World.rowIs.lt h.rl, h.rl.at h.i0, h.rl.at h.i1⟩
theorem St.keep (h : St w b ty l o pT pR kv mo mb vs E K) (hb : Below w.heap.size w w') : St w' b ty l o pT pR kv mo mb vs E K :=
  ⟨h.rl.below hb, h.i0, h.i1, h.i2, h.pa.keep hb, h.kp.blocks hb.size (fun k hk => hb.block k (h.kp.lt hk)), h.dj, h.nb, Nat.lt_of_lt_of_le h.ml hb.size⟩
theorem St.step {E' : Nat → Prop} {vs' : List V} (h : St w b ty l o pT pR kv mo mb vs E K) (hp : Pa w' pT pR mo mb vs' vs' E') (hg : Gs E E' w w') : St w' b ty l o pT pR kv mo mb vs' E' K :=
  ⟨World.rowIs.of_block h.rl (hg.1.block b (World.rowIs.lt h.rl) h.nb.1), h.i0, h.i1, h.i2, hp, h.kp.blocks hg.1.size (fun k hk => hg.1.block k (h.kp.lt hk) (fun e => h.dj k e hk)), fun k hk hk2 => (hg.2 k hk).elim (fun e => h.dj k e hk2) (fun e => by have := h.kp.lt hk2; omega), ⟨fun e => (hg.2 b e).elim h.nb.1 (fun e => by have := World.rowIs.lt h.rl; omega), h.nb.2⟩, Nat.lt_of_lt_of_le h.ml hg.1.size⟩
set_option maxHeartbeats 6400000 in
set_option maxRecDepth 100000 in
theorem asks_8 (hx : Bx w b o pT pR) (hp : Pa w pT pR mo mb vs vs E) (hlen : vs.length ≤ 800000000) (on n m : Int) (v : V) (lv : Value) (r : List Int) : Calls Try.prog 20 #[.pointer (some ⟨b, o, none⟩), .agg (opL on 8 n m v lv r).toArray] w fun e w' => e = .returned (.bool true) ∧ Below w.heap.size w w' := by
  have O := Lib.hid (opAt_new w on 8 n m v lv r)
  have HB := Lib.hid (belowA (w := w) (.cells (opL on 8 n m v lv r).toArray 45))
  have HN := Lib.hid (hx.keep HB.out)
  have HP := Lib.hid (hp.keep HB.out)
  have HLN : Hid (vs.length ≤ 1000000000) := by show _ ≤ _; omega
  clear hx hp hlen
  go_enter Try.func20, Try.ntmps20
  go_upto_region 1 with fail
  generalize w.alloc (.cells (opL on 8 n m v lv r).toArray 45) = W at O HB HN HP ⊢
  have hc1 := O.out.c1
  have hc0 := HN.out.cT
  go_wp2_with fail
  refine (all_calls HP.out.form _).mono ?_
  rintro e w4 ⟨b0, rfl, h0, l0, _, b4⟩
  have HSQ : Hid (SeqV w4 (seqOf b0) pT) := ⟨b0, rfl, h0, l0⟩
  have HB4 := Lib.hid b4
  have HS4 : Hid (∀ u, Below w4.heap.size w4 u → u.cell? ⟨b, o + 1, none⟩ = some pR ∧ u.cell? ⟨w.heap.size, 2, none⟩ = some (.int .i64 n)) := fun u hu => by
    have hb := HB4.out.trans (hu.mono HB4.out.size)
    exact ⟨(HN.out.keep hb).cR, (O.out.below hb).c2⟩
  have HPA : Hid (∀ u, Below w4.heap.size w4 u → Pa u pT pR mo mb vs vs E) := fun u hu => HP.out.keep (HB4.out.trans (hu.mono HB4.out.size))
  generalize seqOf b0 = sq at HSQ ⊢
  clear b4 hc0 hc1 h0 l0
  go_upto_region 4 with fail
  have hB0 : Below w4.heap.size w4 w4.drew := (Below.refl _ _).drew
  go_region_held3 (fun u => Below w4.heap.size w4 u ∧ u.cell? ⟨b, o + 1, none⟩ = some pR ∧ u.cell? ⟨w.heap.size, 2, none⟩ = some (.int .i64 n))
    (first | assumption | exact ⟨hB0, HS4.out _ hB0⟩ | exact ⟨(by assumption), HS4.out _ (by assumption)⟩)
    (first
      | (go_at_call 11; refine (pa_rall (HPA.out _ (by first | assumption | exact hB0)) HLN.out).mono ?_; rintro ee w5 ⟨la, lc, rfl, hwl, _, b5⟩; have b5' : Below w4.heap.size w4 w5 := Below.trans (by first | assumption | exact hB0) (b5.mono (Below.size (by first | assumption | exact hB0))); clear b5)
      | (go_at_call 9; refine (pa_tells (HPA.out _ b5') HLN.out (HSQ.out.below b5') _ _ hwl _).mono ?_; rintro ee w6 ⟨rfl, b6⟩; have b6' : Below w4.heap.size w4 w6 := b5'.trans (b6.mono b5'.size); clear b6 hwl b5')
      | fail)
  all_goals
    go_wp2
    go_ret
    exact ⟨rfl, HB.out.trans ((HB4.out.trans (Below.mono (by assumption) HB4.out.size)).mono HB.out.size)⟩
set_option maxHeartbeats 6400000 in
set_option maxRecDepth 100000 in
theorem asks_7 (hx : Bx w b o pT pR) (hp : Pa w pT pR mo mb vs vs E) (hnb : ¬ E b) (on n m : Int) (v : V) (lv : Value) (r : List Int) : Calls Try.prog 20 #[.pointer (some ⟨b, o, none⟩), .agg (opL on 7 n m v lv r).toArray] w fun e w' => e = .returned (.bool true) ∧ ∃ E', Pa w' pT pR mo mb (ctV mo vs n) (ctV mo vs n) E' ∧ Gs E E' w w' := by
  have O := Lib.hid (opAt_new w on 7 n m v lv r)
  have HB := Lib.hid (belowA (w := w) (.cells (opL on 7 n m v lv r).toArray 45))
  have HN := Lib.hid (hx.keep HB.out)
  have HP := Lib.hid (hp.keep HB.out)
  have HOE : Hid (¬ E w.heap.size) := fun e => by have := hp.lt e; omega
  clear hx hp
  go_enter Try.func20, Try.ntmps20
  go_upto_region 1 with fail
  generalize w.alloc (.cells (opL on 7 n m v lv r).toArray 45) = W at O HB HN HP ⊢
  have hc1 := O.out.c1
  go_upto_region 12 with fail
  clear hc1
  have hB0 : Below W.heap.size W W.drew := (Below.refl _ _).drew
  have T0 : Tc E W W.drew := Tc.of hB0
  have HS : Hid (∀ u, Tc E W u → Tc E W u ∧ u.cell? ⟨b, o, none⟩ = some pT ∧ u.cell? ⟨b, o + 1, none⟩ = some pR ∧ u.cell? ⟨w.heap.size, 2, none⟩ = some (.int .i64 n)) := fun u hu => ⟨hu, (HN.out.tc hu hnb).cT, (HN.out.tc hu hnb).cR, (O.out.tc hu HOE.out).c2⟩
  have HCT : Hid (Calls Try.prog 33 #[pT, .int .i64 n] W.drew fun e u => e = .returned (.int .i64 (ctE mo vs n)) ∧ ∃ E', Pa u pT pR mo mb (ctV mo vs n) vs E' ∧ Gs E E' W u) := (pa_cut (HP.out.keep hB0) n).mono fun e u hu => ⟨hu.1, hu.2.choose, hu.2.choose_spec.1, hu.2.choose_spec.2.after hB0⟩
  go_region_held3 (fun u => Tc E W u ∧ u.cell? ⟨b, o, none⟩ = some pT ∧ u.cell? ⟨b, o + 1, none⟩ = some pR ∧ u.cell? ⟨w.heap.size, 2, none⟩ = some (.int .i64 n))
    (first | assumption | exact HS.out _ T0 | exact HS.out _ t4 | exact HS.out _ t3)
    (first
      | (go_at_call 33; refine HCT.out.mono ?_; rintro ee w3 ⟨rfl, E1, hp3, hg3⟩; have HP3 := Lib.hid hp3; have HG3 := Lib.hid hg3; have t3 : Tc E W w3 := hg3.1; clear hp3 hg3)
      | (go_at_call 34; refine (pa_rcut HP3.out n).mono ?_; rintro ee w4 ⟨rfl, E2, hp4, hg4⟩; have HP4 := Lib.hid hp4; have HG4 := Lib.hid (HG3.out.trans hg4); have t4 : Tc E W w4 := HG4.out.1; clear hp4 hg4)
      | fail)
  simp only [Exit.then]
  go_at_K
  generalize ctE mo vs n = er
  clear HS T0 t3 t4 hB0 HCT HP3 HG3
  go_wp2
  go_ret
  exact ⟨rfl, E2, HP4.out, HG4.out.after HB.out⟩
set_option maxHeartbeats 6400000 in
set_option maxRecDepth 100000 in
theorem asks_10 (h : St w b ty l o pT pR kv mo mb vs E K) (hlen : vs.length ≤ 800000000) (on n m : Int) (v : V) (lv : Value) (r : List Int) : Calls Try.prog 20 #[.pointer (some ⟨b, o, none⟩), .agg (opL on 10 n m v lv r).toArray] w fun e w' => e = .returned (.bool true) ∧ Below w.heap.size w w' := by
  have O := Lib.hid (opAt_new w on 10 n m v lv r)
  have HB := Lib.hid (belowA (w := w) (.cells (opL on 10 n m v lv r).toArray 45))
  have HN := Lib.hid (h.keep HB.out)
  have HLN : Hid (vs.length ≤ 1000000000) := by show _ ≤ _; omega
  have hkp := h.kp
  clear h hlen
  cases hkp with
  | nil =>
    go_enter Try.func20, Try.ntmps20
    go_upto_region 1 with fail
    generalize w.alloc (.cells (opL on 10 n m v lv r).toArray 45) = W at O HB HN ⊢
    have hc1 := O.out.c1
    go_upto_region 8 with fail
    clear hc1
    refine wp_region_noPanic ?_
    refine wp_region_held (S := fun u => Below W.heap.size W u) (by kernel_rfl) ?_
    refine regKept (w5 := W) (S := fun u => Below W.heap.size W u) (t := b) (oo := o) rfl rfl rfl rfl rfl rfl rfl rfl rfl rfl rfl rfl rfl rfl rfl rfl rfl rfl rfl rfl (by kernel_rfl) (by kernel_rfl) (by kernel_rfl) (fun _ _ _ _ _ h => h) (by simp) rfl (Below.refl _ _).drew (fun u hu => run_loadSeq ((HN.out.keep hu).rl.at HN.out.i2)) ?_
    intro wf hS
    have HBW := Lib.hid (HB.out.trans (hS.mono HB.out.size))
    clear hS HB HN O
    refine NoPanic.normal ?_
    rename_i hK
    refine hK _ _ ?_
    simp (config := { maxSteps := 8000000 }) only [Act.put, List.setIfInBounds_toArray, List.set_cons_succ, List.set_cons_zero]
    go_wp2
    go_ret
    exact ⟨rfl, HBW.out⟩
  | seq b0 h0 l0 =>
    have HSQ : Hid (∀ u, Below w.heap.size w u → SeqV u (seqOf b0) pT) := fun u hu => SeqV.below ⟨b0, rfl, h0, l0⟩ hu
    clear h0 l0
    unfold seqOf at HN HSQ
    have hft := fun w => fn_there 23 #[.pointer (some ⟨b0, 0, none⟩)] w
    go_enter Try.func20, Try.ntmps20
    go_upto_region 1 with fail
    generalize w.alloc (.cells (opL on 10 n m v lv r).toArray 45) = W at O HB HN ⊢
    have hc1 := O.out.c1
    go_upto_region 8 with fail
    clear hc1
    have hB0 : Below W.heap.size W W.drew := (Below.refl _ _).drew
    have HS : Hid (∀ u, Below W.heap.size W u → u.cell? ⟨b, o + 2, none⟩ = some (.func (.func 23) #[] #[.pointer (some ⟨b0, 0, none⟩)]) ∧ u.cell? ⟨b, o + 1, none⟩ = some pR ∧ u.cell? ⟨w.heap.size, 2, none⟩ = some (.int .i64 n)) :=
      fun u hu => ⟨(HN.out.keep hu).rl.at HN.out.i2, (HN.out.keep hu).rl.at HN.out.i1, (O.out.below hu).c2⟩
    go_region_held3 (fun u => Below W.heap.size W u ∧ u.cell? ⟨b, o + 2, none⟩ = some (.func (.func 23) #[] #[.pointer (some ⟨b0, 0, none⟩)]) ∧ u.cell? ⟨b, o + 1, none⟩ = some pR ∧ u.cell? ⟨w.heap.size, 2, none⟩ = some (.int .i64 n))
      (first | assumption | exact ⟨hB0, HS.out _ hB0⟩ | exact ⟨(by assumption), HS.out _ (by assumption)⟩)
      (first
        | (go_at_call 11; refine (pa_rall (HN.out.keep hB0).pa HLN.out).mono ?_; rintro ee w5 ⟨la, lc, rfl, hwl, _, b5⟩; have b5' : Below W.heap.size W w5 := hB0.trans (b5.mono hB0.size); clear b5)
        | (go_at_call 9; refine (pa_tells (HN.out.keep b5').pa HLN.out (HSQ.out _ (HB.out.trans (b5'.mono HB.out.size))) _ _ hwl _).mono ?_; rintro ee w6 ⟨rfl, b6⟩; have b6' : Below W.heap.size W w6 := b5'.trans (b6.mono b5'.size); clear b6 hwl)
        | fail)
    all_goals
      go_wp2
      go_ret
      exact ⟨rfl, HB.out.trans (b6'.mono HB.out.size)⟩
set_option maxHeartbeats 3200000 in
set_option maxRecDepth 100000 in
theorem asks_other (b o : Nat) (w : World) (on k n m : Int) (v : V) (lv : Value) (r : List Int) (h7 : k ≠ 7) (h8 : k ≠ 8) (h9 : k ≠ 9) (h10 : k ≠ 10) (h11 : k ≠ 11) : Calls Try.prog 20 #[.pointer (some ⟨b, o, none⟩), .agg (opL on k n m v lv r).toArray] w fun e w' => e = .returned (.bool true) ∧ Below w.heap.size w w' := by
  have O := Lib.hid (opAt_new w on k n m v lv r)
  have HB := Lib.hid (belowA (w := w) (.cells (opL on k n m v lv r).toArray 45))
  go_enter Try.func20, Try.ntmps20
  go_upto_region 1 with fail
  generalize w.alloc (.cells (opL on k n m v lv r).toArray 45) = W at O HB ⊢
  have hc1 := O.out.c1
  have e7 : ((k : Int) == 7) = false := by simpa using h7
  have e8 : ((k : Int) == 8) = false := by simpa using h8
  have e9 : ((k : Int) == 9) = false := by simpa using h9
  have e10 : ((k : Int) == 10) = false := by simpa using h10
  have e11 : ((k : Int) == 11) = false := by simpa using h11
  clear h7 h8 h9 h10 h11
  go_wp2
  go_ret
  exact ⟨rfl, HB.out⟩
section
attribute [local go_sem] run_store_func
set_option maxHeartbeats 6400000 in
set_option maxRecDepth 100000 in
theorem asks_9 (h : St w b ty l o pT pR kv mo mb vs E K) (on n m : Int) (v : V) (lv : Value) (r : List Int) : Calls Try.prog 20 #[.pointer (some ⟨b, o, none⟩), .agg (opL on 9 n m v lv r).toArray] w fun e w' => e = .returned (.bool true) ∧ Tc (fun k => k = b) w w' ∧
    ∃ l' kv' K', St w' b ty l' o pT pR kv' mo mb vs E K' ∧ (∀ j, j < o ∨ o + 3 ≤ j → l'[j]? = l[j]?) ∧ l'.length = l.length ∧ ∀ k, K' k → w.heap.size ≤ k := by
  have O := Lib.hid (opAt_new w on 9 n m v lv r)
  have HB := Lib.hid (belowA (w := w) (.cells (opL on 9 n m v lv r).toArray 45))
  have HN := Lib.hid (h.keep HB.out)
  have hbl : b < w.heap.size := World.rowIs.lt h.rl
  have hol : o + 2 < l.length := (List.getElem?_eq_some_iff.1 h.i2).1
  have HI := Lib.hid (And.intro h.i0 h.i1)
  clear h
  go_enter Try.func20, Try.ntmps20
  go_upto_region 1 with fail
  generalize w.alloc (.cells (opL on 9 n m v lv r).toArray 45) = W at O HB HN ⊢
  have hc1 := O.out.c1
  have hc0 := HN.out.bx.cT
  have HC : Hid (∀ u, Below W.heap.size W u → u.cell? ⟨b, o + 2, none⟩ = some kv ∧ u.frozen? ⟨b, o + 2, none⟩ = false) := fun u hu => ⟨(HN.out.keep hu).rl.at HN.out.i2, (HN.out.keep hu).rl.frz _⟩
  go_wp2_with fail
  refine (all_calls HN.out.pa.form _).mono ?_
  rintro e w4 ⟨b0, rfl, h0, l0, hge, b4⟩
  unfold seqOf
  obtain ⟨d2, f2⟩ := HC.out w4 b4
  have HWW := HB.out.size
  have hs4 := HN.out.keep b4
  have r5 := hs4.rl.set (o + 2) (.func (.func 23) #[] #[.pointer (some ⟨b0, 0, none⟩)])
  have hoth : ∀ k, k ≠ b → (w4.setCell ⟨b, o + 2, none⟩ (.func (.func 23) #[] #[.pointer (some ⟨b0, 0, none⟩)])).heap[k]? = w4.heap[k]? := fun k hk => Below.heap_setCell _ _ _ _ hk
  have t5 : Tc (fun k => k = b) w (w4.setCell ⟨b, o + 2, none⟩ (.func (.func 23) #[] #[.pointer (some ⟨b0, 0, none⟩)])) := Tc.setCell (E := fun k => k = b) (Tc.of (HB.out.trans (b4.mono HB.out.size))) (p := ⟨b, o + 2, none⟩) (.inr rfl) _
  have HE : Hid (Tc (fun k => k = b) w (w4.setCell ⟨b, o + 2, none⟩ (.func (.func 23) #[] #[.pointer (some ⟨b0, 0, none⟩)])) ∧ ∃ l' kv' K', St (w4.setCell ⟨b, o + 2, none⟩ (.func (.func 23) #[] #[.pointer (some ⟨b0, 0, none⟩)])) b ty l' o pT pR kv' mo mb vs E K' ∧ (∀ j, j < o ∨ o + 3 ≤ j → l'[j]? = l[j]?) ∧ l'.length = l.length ∧ ∀ k, K' k → w.heap.size ≤ k) := by
    refine ⟨t5, _, seqOf b0, fun k => k = b0, ⟨r5, ?_, ?_, ?_, hs4.pa.blocks (fun k hk => hoth k (fun e => hs4.nb.1 (e ▸ hk))), Kpt.blocks (w := w4) (.seq b0 h0 l0) (by simp [World.setCell]) (fun k hk => hoth k (by rw [hk]; omega)), fun k hk hk2 => ?_, ⟨hs4.nb.1, fun e => by omega⟩, by simpa [World.setCell] using hs4.ml⟩, fun j hj => ?_, by simp, fun k hk => by omega⟩
    · rw [List.getElem?_set_ne (by omega)]; exact HI.out.1
    · rw [List.getElem?_set_ne (by omega)]; exact HI.out.2
    · rw [List.getElem?_set_self (by omega)]; rfl
    · have := HN.out.pa.lt hk; omega
    · rw [List.getElem?_set_ne (by omega)]
  clear r5 t5 hs4 hoth b4 HC HN HB O hc0 h0 l0 hge
  go_wp2
  go_ret
  exact ⟨rfl, HE.out⟩
end
section
attribute [-go_sem] loadVar
set_option maxHeartbeats 3200000 in
set_option maxRecDepth 100000 in
theorem asks_11 {R : World → Prop} (on n m : Int) (v : V) (lv : Value) (r : List Int) (hr : r.length = 24) (HA : Calls Try.prog 32 #[.pointer (some ⟨b, o, none⟩), .agg (opL on 11 n m v lv r).toArray] (w.alloc (.cells (opL on 11 n m v lv r).toArray 45)) fun e w' => e = .returned (.bool true) ∧ R w') : Calls Try.prog 20 #[.pointer (some ⟨b, o, none⟩), .agg (opL on 11 n m v lv r).toArray] w fun e w' => e = .returned (.bool true) ∧ R w' := by
  have O := Lib.hid (opAt_new w on 11 n m v lv r)
  have HC := Lib.hid HA
  clear HA
  go_enter Try.func20, Try.ntmps20
  go_upto_region 1 with fail
  generalize w.alloc (.cells (opL on 11 n m v lv r).toArray 45) = W at O HC ⊢
  have hc1 := run_loadInt O.out.c1
  have hld := O.out.load hr
  go_wp2_with fail
  refine HC.out.mono ?_
  rintro e w2 ⟨rfl, hR⟩
  have HR := Lib.hid hR
  clear hR HC
  go_wp2
  go_ret
  exact ⟨rfl, HR.out⟩
end
end
end Go.Proofs.Ythdcgikhcghigaa
