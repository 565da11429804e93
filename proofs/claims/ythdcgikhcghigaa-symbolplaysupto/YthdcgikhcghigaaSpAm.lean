import Derived.Test.YthdcgikhcghigaaSpAmA
namespace Go.Proofs.Ythdcgikhcghigaa
open Go.RowKit Go.Maps Go.Shelf
set_option linter.unusedVariables false
set_option linter.unusedSimpArgs false
attribute [local go_sem ↓] Go.wp_at_zero Go.wp_at_succ
attribute [local go_sem] Oper.semAt_some run_store_func
theorem run_loadPB {w : World} {a : Addr} {v : Value} (h : w.cell? a = some v) : (loadVar 59 a).run Try.prog w = .ok v w := by
  simp [loadVar, go_sem, h]
theorem neq_err (x : Int) (u : World) : (binOp .neq 31 (.int .i64 x) (.int .i64 x)).run Try.prog u = .ok (.bool false) u := by go_simp
theorem eqg_sym (a b : Operand) (k : Nat) (u : World) : (eqGuard .neq 41 a b (.int .i32 (k : Int)) (.int .i32 (k : Int))).run Try.prog u = .ok () u := by first | rfl | go_simp
theorem eqg_err (a b : Operand) (x : Int) (u : World) : (eqGuard .neq 31 a b (.int .i64 x) (.int .i64 x)).run Try.prog u = .ok () u := by first | rfl | go_simp
attribute [-go_sem] loadVar
set_option maxHeartbeats 25600000 in
set_option maxRecDepth 100000 in
theorem amid_pa {w : World} {b o : Nat} {pT pR : Value} {mo : Option Int} {mb : Nat} {vs : List V} {E : Nat → Prop} (hx : Bx w b o pT pR) (hp : Pa w pT pR mo mb vs vs E) (hnb : ¬ E b) (hm : mb < w.heap.size) (hlen : vs.length ≤ 600000000) (on kk nn mm : Int) (v : V) (hv : v.wf) (la : Option Addr) (lc : Nat) (us : List V) (r : List Int) (hlv : Lv w (.slice la us.length lc) us) (hle : Apt E la us.length) (hul : us.length ≤ 1048576) :
    Calls Try.prog 32 #[.pointer (some ⟨b, o, none⟩), .agg (opL on kk nn mm v (.slice la us.length lc) r).toArray] w fun e w' => e = .returned (.bool true) ∧ ∃ vs' E', Pa w' pT pR mo mb vs' vs' E' ∧ Gs E E' w w' ∧ vs'.length ≤ vs.length + 49 := by
  refine (callsIn_wide (n := 8)).1 ?_
  refine callsIn_of_wp_marks Try.func32 rfl trivial ?_ rfl
  simp only [Try.ntmps32, List.size_toArray, List.length_cons, List.length_nil, Nat.reduceAdd, Nat.reduceSub, Array.replicate_succ, Array.replicate_zero, List.push_toArray, List.append_toArray, List.nil_append, List.cons_append]
  obtain ⟨lv, hlvE⟩ : ∃ lv, lv = Value.slice la us.length lc := ⟨_, rfl⟩
  rw [← hlvE]
  have hb3 := ((((Below.refl w.heap.size w).alloc (Nat.le_refl _) (.cells #[.pointer (some ⟨b, o, none⟩)] 59)).alloc (by simp) (.cells (opL on kk nn mm v lv r).toArray 45)).alloc (by simp; omega) (.cells #[.bool false] 4))
  have HB3 := Lib.hid hb3
  have HX3 := Lib.hid (hx.keep hb3)
  have HP3 := Lib.hid (hp.keep hb3)
  have B1 := Lib.hid (bxB (bxB (Boxed.new w 59 (.pointer (some ⟨b, o, none⟩))) (belowA (.cells (opL on kk nn mm v lv r).toArray 45))) (belowA (.cells #[.bool false] 4)))
  have O2 : Hid (OpAt (((w.alloc (.cells #[.pointer (some ⟨b, o, none⟩)] 59)).alloc (.cells (opL on kk nn mm v lv r).toArray 45)).alloc (.cells #[.bool false] 4)) (w.heap.size + 1) on kk nn mm v lv r) := by
    have := (opAt_new (w.alloc (.cells #[.pointer (some ⟨b, o, none⟩)] 59)) on kk nn mm v lv r).below (belowA (.cells #[.bool false] 4))
    simp only [World.size_alloc] at this
    exact this
  have B3 := Lib.hid (bxN (w := (w.alloc (.cells #[.pointer (some ⟨b, o, none⟩)] 59)).alloc (.cells (opL on kk nn mm v lv r).toArray 45)) (B := w.heap.size + 1 + 1) (by simp) 4 (.bool false))
  have HE : Hid (∀ q, E q → q < w.heap.size) := fun q hq => hp.lt hq
  have HLV := Lib.hid hlv
  have HLE := Lib.hid hle
  have HLL : Hid (0 < us.length → ∀ g off, la = some ⟨g, off, none⟩ → g < w.heap.size) := fun h0 g off e => by
    obtain ⟨g', off', e', hg', _⟩ := hlv.at (i := 0) h0
    rw [e] at e'
    cases e'
    exact hg'
  have HVW := Lib.hid hv
  have HLVE := Lib.hid hlvE
  have hbl : b < w.heap.size := hx.lt
  have HLN : Hid (vs.length ≤ 600000000) := hlen
  have hc := run_loadRef HX3.out.cR
  have hb := run_loadPB B1.out.cell
  clear hb3 hx hp hlv hle hv hlvE hlen
  gi_wp2_with fail
  generalize (((w.alloc (.cells #[.pointer (some ⟨b, o, none⟩)] 59)).alloc (.cells (opL on kk nn mm v lv r).toArray 45)).alloc (.cells #[.bool false] 4)) = W at HB3 HX3 HP3 B1 O2 B3 hc hb ⊢
  have hzw : w.heap.size + 1 + 1 < W.heap.size := Boxed.lt B3.out
  refine ⟨trivial, (callsIn_wide.2 (pa_rall HP3.out (by have := HLN.out; omega))).mono ?_⟩
  rintro e w3 ⟨wa, wc, rfl, hwl, hwg, b3⟩
  clear hc hb
  obtain ⟨N, hN⟩ : ∃ N, N = vs.length := ⟨_, rfl⟩
  rw [← hN]
  have HNN := Lib.hid hN
  have hbN : Below w3.heap.size w3 (w3.alloc (.cells #[.slice wa N wc] 50)) := belowA _
  have B4 := Lib.hid (Boxed.new w3 50 (.slice wa N wc))
  have HB4 := Lib.hid (b3.trans (hbN.mono b3.size))
  have HWL := Lib.hid (And.intro (hwl.keep hbN) hwg)
  have hz3 : W.heap.size ≤ w3.heap.size := b3.size
  have hc := run_loadTab (HX3.out.keep HB4.out).cT
  have hb := run_loadPB (bxB B1.out HB4.out).cell
  have HWL3 : Hid (∀ g, wa = some ⟨g, 0, none⟩ → 0 < vs.length → g < w3.heap.size) := fun g e hp => by
    obtain ⟨g', e2, hg', _⟩ := hwl hp
    rw [e] at e2
    injection e2 with e2
    injection e2 with e2 _ _
    omega
  clear hbN b3 hwl hwg hN
  gi_wp2_with fail
  generalize hz : w3.heap.size = bw at B4 hz3 HWL3 ⊢
  generalize w3.alloc (.cells #[.slice wa N wc] 50) = W4 at B4 HB4 HWL hc hb ⊢
  clear hz
  have hz4 : bw < W4.heap.size := Boxed.lt B4.out
  refine ⟨trivial, (callsIn_wide.2 (all_calls HP3.out.form _)).mono ?_⟩
  rintro e w5 ⟨b0, rfl, h0, l0, hge0, b5⟩
  clear hc hb
  have hz5 : W4.heap.size ≤ w5.heap.size := b5.size
  have hbA := (belowA (w := w5) (.cells #[seqOf b0] 27)).alloc (by simp) (.cells #[.int .i64 0] 3)
  have B5 := Lib.hid (bxB (Boxed.new w5 27 (seqOf b0)) (belowA (.cells #[.int .i64 0] 3)))
  have B6 := Lib.hid (bxN (w := w5.alloc (.cells #[seqOf b0] 27)) (B := w5.heap.size + 1) (by simp) 3 (.int .i64 0))
  have HB8 := Lib.hid (HB4.out.trans ((b5.trans (hbA.mono b5.size)).mono HB4.out.size))
  have HB48 := Lib.hid (b5.trans (hbA.mono b5.size))
  have C0 : Hid (((w5.alloc (.cells #[seqOf b0] 27)).alloc (.cells #[.int .i64 0] 3)).cell? ⟨b0, 0, none⟩ = some pT) := (hbA.cell (p := ⟨b0, 0, none⟩) l0).trans h0
  have hs8 : ((w5.alloc (.cells #[seqOf b0] 27)).alloc (.cells #[.int .i64 0] 3)).heap.size = w5.heap.size + 2 := by simp
  have lq := run_loadSeq (Boxed.new w5 27 (seqOf b0)).cell
  have lq2 := run_loadSeq B5.out.cell
  unfold seqOf at B5 B6 HB8 HB48 C0 hs8 lq lq2 ⊢
  have hft := fun w => fn_there 23 #[.pointer (some ⟨b0, 0, none⟩)] w
  clear hbA b5 h0
  gi_wp2_with fail
  generalize hz : w5.heap.size = bs at B5 B6 hs8 hz5 l0 lq lq2 ⊢
  generalize (w5.alloc (.cells #[.func (.func 23) #[] #[.pointer (some ⟨b0, 0, none⟩)]] 27)).alloc (.cells #[.int .i64 0] 3) = W8 at B5 B6 HB8 HB48 C0 hs8 lq2 ⊢
  clear hz hft lq lq2
  have HW8 : Hid (Below w.heap.size w W8) := HB3.out.trans (HB8.out.mono HB3.out.size)
  have HFX : Hid (∀ V, Tc (fun q => E q ∨ q = bs + 1) W8 V → Boxed V w.heap.size 59 (.pointer (some ⟨b, o, none⟩)) ∧ OpAt V (w.heap.size + 1) on kk nn mm v lv r ∧ Boxed V (w.heap.size + 1 + 1) 4 (.bool false) ∧ Boxed V bw 50 (.slice wa N wc) ∧ Wl V wa vs ∧ Boxed V bs 27 (.func (.func 23) #[] #[.pointer (some ⟨b0, 0, none⟩)]) ∧ V.cell? ⟨b0, 0, none⟩ = some pT ∧ W8.heap.size ≤ V.heap.size ∧ Bx V b o pT pR) := fun V hV => by
    have blk : ∀ q, w.heap.size ≤ q → q < bs + 1 → V.heap[q]? = W8.heap[q]? := fun q h1 h2 => hV.block q (by omega) (by
      rintro (e | e)
      · have := HE.out q e; omega
      · omega)
    refine ⟨(blk _ (Nat.le_refl _) (by omega)).trans (bxB B1.out HB8.out), (blk _ (by omega) (by omega)).trans (O2.out.below HB8.out), (blk _ (by omega) (by omega)).trans (bxB B3.out HB8.out), (blk _ (by omega) (by omega)).trans (bxB B4.out HB48.out), fun hp => ?_, (blk _ (by omega) (by omega)).trans B5.out, (World.cell?_of_block (w := W8) (blk b0 (by omega) (by omega))).trans C0.out, hV.size, (HX3.out.keep HB8.out).tc hV (by
      rintro (e | e)
      · exact hnb e
      · omega)⟩
    obtain ⟨g', eg, hg', hcl⟩ := HWL.out.1 hp
    have hg2 := HWL.out.2 g' eg
    have hg3 := HWL3.out g' eg hp
    refine ⟨g', eg, by have := hV.size; omega, fun j hj => ?_⟩
    exact ((World.cell?_of_block (w := W8) (blk g' (by omega) (by omega))).trans (HB48.out.cell (p := ⟨g', j, none⟩) hg')).trans (hcl j hj)
  have HSQ := Lib.hid (pa_seq (HP3.out.keep HB8.out) (by have := HLN.out; omega) C0.out (by omega))
  rw [← HNN.out] at HSQ
  have HAM : Hid (Am W8 E (bs + 1) pT pR mo mb vs mm 0 W8) := Am.start (HP3.out.keep HB8.out) B6.out
  have hwW8 : w.heap.size ≤ W8.heap.size := HW8.out.size
  have hNl : N ≤ 600000000 := by have := HNN.out; have := HLN.out; omega
  clear B1 O2 B3 B4 B5 B6 HWL HWL3 HB3 HB4 HB8 HB48 C0 HP3 HX3
  refine wpIn_rangeValsX (vs := vs) (N := N) (gf := 23) (lb := #[.pointer (some ⟨b0, 0, none⟩)]) rfl (enters_of Try.func23 (by kernel_rfl) rfl) HSQ.out (fun h k => h.trans k)
    (fun W l o o' hl ho hcl _ => KpF.put ho hcl) (Below.refl _ _) rfl
    (fun k W => Am W8 E (bs + 1) pT pR mo mb vs mm k W) (fun _ _ _ => False)
    (fun k X Y row hs hg hr => hs.kept hg hr (by omega) (by omega)) (fun _ _ _ _ _ hs _ _ => hs) HAM.out
    (fun T k yb => (((T.setIfInBounds 27 (.int .i32 (k : Int))).setIfInBounds 28 (.agg #[.int .i8 (atV vs k).k, .int .i64 (atV vs k).n, .string (atV vs k).s])).setIfInBounds 8 (.int .i32 (k : Int))).setIfInBounds 9 (.pointer (some ⟨yb, 0, none⟩))) ?assign ?body ?done ?stop
  case assign =>
    intro l k W K hk hi hK
    have hA := belowA (w := W) (.cells #[.int .i8 (atV vs k).k, .int .i64 (atV vs k).n, .string (atV vs k).s] 39)
    have hK' := hK _ _ (KeepsFrom.below hA) (KpF.of hA) (hi.keep hA) ⟨W.heap.size, rfl, valAt_new W _, hi.fx.size⟩
    simp (config := { maxSteps := 10000000 }) only [List.setIfInBounds_toArray, List.set_cons_succ, List.set_cons_zero] at hK'
    clear hK hi HSQ hA HAM HFX HW8
    unfold valsAt
    generalize atV vs k = y at hK' ⊢
    gi_wp2
    exact hK'
  case body =>
    intro l k yb W hk hi hy hyl
    simp (config := { maxSteps := 10000000 }) only [List.setIfInBounds_toArray, List.set_cons_succ, List.set_cons_zero]
    obtain ⟨f1, f2, f3, f4, f5, f6, f7, f8, f9⟩ := HFX.out W hi.fx
    have hkl : k < vs.length := by rw [← HNN.out]; exact hk
    obtain ⟨gw, rfl, hgw', hcw⟩ := f5 (by omega)
    have hbM : ∀ q, Below W.heap.size W (W.drewN q) := fun q => below_drewV (Below.refl _ _) q
    have hcD : ∀ q, ∀ j, j < vs.length * 4 → (W.drewN q).cell? ⟨gw, j, none⟩ = (numsC vs)[j]? := fun q j hj => ((hbM q).cell (p := ⟨gw, j, none⟩) hgw').trans (hcw j hj)
    have d7 := fun q => run_loadInt (bxB hi.bk (hbM q)).cell
    have d5 := fun q => run_loadNums (bxB f4 (hbM q)).cell
    have dn := fun q => Wl.num (hcD q) hkl
    have dr := fun q => Wl.val (hcD q) hkl
    have dy := fun q => (hy.below (hbM q)).load
    have hne' : ∀ u : World, (binOp .neq 39 (.agg #[.int .i8 (atV vs k).k, .int .i64 (atV vs k).n, .string (atV vs k).s]) (.agg #[.int .i8 (atV vs k).k, .int .i64 (atV vs k).n, .string (atV vs k).s])).run Try.prog u = .ok (.bool false) u := fun u => by
      rw [run_neq]
      simp
    have HV : Hid (∀ q, Am W8 E (bs + 1) pT pR mo mb vs mm k (W.drewN q) ∧ Below W.heap.size W (W.drewN q)) := fun q => ⟨hi.keep (hbM q), hbM q⟩
    have hkN : ¬ N ≤ k := by omega
    have hkL : k < N := hk
    have hk2 : (k : Int) < (N : Int) := by omega
    have hk0 : (0 : Int) ≤ (k : Int) := by omega
    have iwk : IntKind.i64.wrap ((k : Int) + 1) = (k : Int) + 1 := by rw [IntKind.wrap_i64]; omega
    clear hi hy HSQ HAM hcD hcw hbM f1 f2 f3 f4 f5 f6 f7 f8 f9 hkl
    generalize atV vs k = y at dr dy hne' ⊢
    gi_wp2_with fail
    refine wpIn_region_quiet_round (by kernel_rfl) (by kernel_rfl) (by kernel_rfl) ?_
    repeat (gi_big_quiet_step (fail))
    refine wpQuietIn_nil ?_
    rintro _ ⟨nq, rfl⟩
    have l7 := d7 nq
    obtain ⟨hv1, hv3⟩ := HV.out nq
    have HV1 := Lib.hid hv1
    have HV3 := Lib.hid hv3
    clear d7 d5 dn dr dy HV hv1 hv3
    generalize W.drewN nq = V at l7 HV1 HV3 ⊢
    have lm := run_loadInt (HFX.out V HV1.out.fx).2.1.c3
    have hzV : W8.heap.size ≤ V.heap.size := HV1.out.fx.size
    have hE8 : ∀ q, E q → q < W8.heap.size := fun q hq => by have := HE.out q hq; omega
    have HE8 := Lib.hid hE8
    clear hE8
    by_cases hke : (k : Int) = mm
    · have hke' : ((k : Int) == mm) = true := by simpa using hke
      have hpv : Pa V pT pR mo mb vs vs E := by
        rcases HV1.out.st with ⟨_, h1⟩ | ⟨e, _⟩
        · exact h1
        · exfalso; omega
      have HPV := Lib.hid hpv
      have HKE := Lib.hid hke
      have hVd : Below V.heap.size V V.drew := (Below.refl _ _).drew
      have HVD := Lib.hid hVd
      have T1 : Hid (Tc E V V.drew) := Tc.of hVd
      have HFV : Hid (∀ u, Tc E V u → (loadVar 59 ⟨w.heap.size, 0, none⟩).run Try.prog u = .ok (.pointer (some ⟨b, o, none⟩)) u ∧ (loadVar 27 ⟨bs, 0, none⟩).run Try.prog u = .ok (.func (.func 23) #[] #[.pointer (some ⟨b0, 0, none⟩)]) u ∧ (loadVar 24 ⟨b, o, none⟩).run Try.prog u = .ok pT u ∧ (loadVar 25 ⟨b, o + 1, none⟩).run Try.prog u = .ok pR u ∧ (loadVar 39 ⟨w.heap.size + 1, 4, none⟩).run Try.prog u = .ok (.agg #[.int .i8 v.k, .int .i64 v.n, .string v.s]) u ∧ (loadVar 3 ⟨w.heap.size + 1, 2, none⟩).run Try.prog u = .ok (.int .i64 nn) u ∧ (loadVar 40 ⟨w.heap.size + 1, 7, none⟩).run Try.prog u = .ok (.slice la us.length lc) u ∧ SeqV u (.func (.func 23) #[] #[.pointer (some ⟨b0, 0, none⟩)]) pT ∧ Bx u b o pT pR) := fun u hu => by
        have hf : Tc (fun q => E q ∨ q = bs + 1) W8 u := HV1.out.fx.trans hu (fun _ _ e => .inl e)
        obtain ⟨f1, f2, f3, f4, f5, f6, f7, f8, f9⟩ := HFX.out u hf
        exact ⟨run_loadPB f1.cell, run_loadSeq f6.cell, run_loadTab f9.cT, run_loadRef f9.cR, f2.loadV, run_loadInt f2.c2, run_loadVals (by have := f2.c7; rw [HLVE.out] at this; exact this), ⟨b0, rfl, f7, by omega⟩, f9⟩
      have HK1 : Hid (Calls Try.prog 11 #[pR] V.drew fun e u => ∃ wl, e = .returned wl ∧ ∃ la2 lc2, wl = .slice la2 vs.length lc2 ∧ Wl u la2 vs ∧ Below V.heap.size V u) := (pa_rall (hpv.keep hVd) (by have := HLN.out; omega)).mono fun e u hu => by
        obtain ⟨la2, lc2, he, hwl, _, hb⟩ := hu
        exact ⟨_, he, la2, lc2, rfl, hwl, hVd.trans (hb.mono hVd.size)⟩
      have HK2 : Hid (∀ wl u, (∃ la2 lc2, wl = .slice la2 vs.length lc2 ∧ Wl u la2 vs ∧ Below V.heap.size V u) → Calls Try.prog 9 #[(.func (.func 23) #[] #[.pointer (some ⟨b0, 0, none⟩)]), wl, .int .i64 (-1)] u fun e u' => e = .returned (.bool true) ∧ Below V.heap.size V u') := fun wl u hu => by
        obtain ⟨la2, lc2, rfl, hwl, hb⟩ := hu
        exact (pa_tells (HPV.out.keep hb) (by have := HLN.out; omega) (HFV.out u (Tc.of hb)).2.2.2.2.2.2.2.1 la2 lc2 hwl _).mono fun e u' hu' => ⟨hu'.1, hb.trans (hu'.2.mono hb.size)⟩
      clear hke hpv hVd
      gi_wp2_with fail
      refine wpIn_region_held_round (S := fun u => Tc E V u) (by kernel_rfl) (by kernel_rfl) (fun ⟨_, _, h⟩ => h) ?_
      refine areg12 (w5 := V) (S := fun u => Tc E V u) (t := b) (oo := o) (B0 := w.heap.size) (BS := bs) (fun wl u => ∃ la2 lc2, wl = .slice la2 vs.length lc2 ∧ Wl u la2 vs ∧ Below V.heap.size V u) (fun u => Below V.heap.size V u) rfl rfl rfl rfl rfl rfl rfl rfl (by kernel_rfl) (by kernel_rfl) (by kernel_rfl) (by kernel_rfl) (by kernel_rfl) (fun _ _ _ _ _ h => h) (by simp) rfl rfl T1.out (fun wl u hu => Tc.of hu.choose_spec.choose_spec.2.2) (fun u hu => Tc.of hu) (fun u hu => (HFV.out u hu).1) (fun u hu => (HFV.out u hu).2.2.2.1) (fun u hu => (HFV.out u hu).2.1) HK1.out HK2.out ?_
      intro V1 wl1 hb1
      have hV1d : Below V.heap.size V V1.drew := hb1.trans ((Below.refl _ _).drew.mono hb1.size)
      have HPD := Lib.hid (HPV.out.keep hV1d)
      have T2 : Hid (Tc E V V1.drew) := Tc.of hV1d
      have HADD : Hid (Calls Try.prog 13 #[pT, .agg #[.int .i8 v.k, .int .i64 v.n, .string v.s]] V1.drew fun e u => e = .returned (.tuple #[.int .i32 (adS mo vs v), .int .i64 (adE mo vs v)]) ∧ ∃ E1, Pa u pT pR mo mb (adV mo vs v) vs E1 ∧ Gs E E1 V u) := (pa_add HPD.out (by have := HLN.out; omega) v HVW.out).mono fun e u hu => by
        obtain ⟨he, E1, h1, h2⟩ := hu
        exact ⟨he, E1, h1, h2.after hV1d⟩
      clear hb1 hV1d HK1 HK2 T1
      simp (config := { maxSteps := 8000000 }) only [Act.put, List.setIfInBounds_toArray, List.set_cons_succ, List.set_cons_zero, Exit.then]
      go_at_K
      gi_wp2_with fail
      refine wpIn_region_held_round (S := fun u => Tc E V u) (by kernel_rfl) (by kernel_rfl) (fun ⟨_, _, h⟩ => h) ?_
      refine areg14 (w5 := V1) (S := fun u => Tc E V u) (t := b) (oo := o) (B0 := w.heap.size) (B1 := w.heap.size + 1) (fun u => ∃ E1, Pa u pT pR mo mb (adV mo vs v) vs E1 ∧ Gs E E1 V u) rfl rfl rfl rfl rfl rfl rfl rfl rfl rfl rfl rfl (by kernel_rfl) (by kernel_rfl) (by kernel_rfl) (by kernel_rfl) (fun _ _ _ _ _ h => h) (by simp) rfl rfl T2.out (fun u hu => hu.choose_spec.2.1) (fun u hu => (HFV.out u hu).1) (fun u hu => (HFV.out u hu).2.2.1) (fun u hu => (HFV.out u hu).2.2.2.2.1) HADD.out ?_
      intro V2 hR2
      obtain ⟨E1, hp1, hg1⟩ := hR2
      have hd2 : Below V2.heap.size V2 V2.drew := (Below.refl _ _).drew
      have hg1d := hg1.keep hd2
      have T3 : Hid (Tc E V V2.drew) := hg1d.1
      have HADD2 : Hid (Calls Try.prog 14 #[pR, .agg #[.int .i8 v.k, .int .i64 v.n, .string v.s]] V2.drew fun e u => e = .returned (.tuple #[.int .i32 (adS mo vs v), .int .i64 (adE mo vs v)]) ∧ ∃ E2, Pa u pT pR mo mb (adV mo vs v) (adV mo vs v) E2 ∧ Gs E E2 V u) := (pa_radd (hp1.keep hd2) (by have := HLN.out; omega) v HVW.out).mono fun e u hu => by
        obtain ⟨he, E2, h1, h2⟩ := hu
        exact ⟨he, E2, h1, hg1d.trans h2⟩
      clear hp1 hg1 hd2 hg1d HADD T2 HPD
      simp (config := { maxSteps := 8000000 }) only [Act.put, List.setIfInBounds_toArray, List.set_cons_succ, List.set_cons_zero, Exit.then]
      go_at_K
      gi_wp2_with fail
      refine wpIn_region_held_round (S := fun u => Tc E V u) (by kernel_rfl) (by kernel_rfl) (fun ⟨_, _, h⟩ => h) ?_
      refine areg15 (w5 := V2) (S := fun u => Tc E V u) (t := b) (oo := o) (B0 := w.heap.size) (B1 := w.heap.size + 1) (fun u => ∃ E2, Pa u pT pR mo mb (adV mo vs v) (adV mo vs v) E2 ∧ Gs E E2 V u) rfl rfl rfl rfl rfl rfl rfl rfl rfl rfl rfl rfl (by kernel_rfl) (by kernel_rfl) (by kernel_rfl) (by kernel_rfl) (fun _ _ _ _ _ h => h) (by simp) rfl rfl T3.out (fun u hu => hu.choose_spec.2.1) (fun u hu => (HFV.out u hu).1) (fun u hu => (HFV.out u hu).2.2.2.1) (fun u hu => (HFV.out u hu).2.2.2.2.1) HADD2.out ?_
      intro V3 hR3
      obtain ⟨E2, hp2, hg2⟩ := hR3
      have hd3 : Below V3.heap.size V3 V3.drew := (Below.refl _ _).drew
      have hg2d := hg2.keep hd3
      have hp2d := hp2.keep hd3
      have T4 : Hid (Tc E V V3.drew) := hg2d.1
      have hl1 := adV_len mo vs v
      obtain ⟨vs1, hvs1⟩ : ∃ vs1, vs1 = adV mo vs v := ⟨_, rfl⟩
      rw [← hvs1] at hl1 hp2d
      have hl2 := ctV_len mo vs1 nn
      have HC1 : Hid (Calls Try.prog 33 #[pT, .int .i64 nn] V3.drew fun e u => e = .returned (.int .i64 (ctE mo vs1 nn)) ∧ ∃ E3, Pa u pT pR mo mb (ctV mo vs1 nn) vs1 E3 ∧ Gs E E3 V u) := (pa_cut hp2d nn).mono fun e u hu => by
        obtain ⟨he, E3, h1, h2⟩ := hu
        exact ⟨he, E3, h1, hg2d.trans h2⟩
      have HC2 : Hid (∀ u, (∃ E3, Pa u pT pR mo mb (ctV mo vs1 nn) vs1 E3 ∧ Gs E E3 V u) → Calls Try.prog 34 #[pR, .int .i64 nn] u fun e u' => e = .returned (.int .i64 (ctE mo vs1 nn)) ∧ ∃ E4, Pa u' pT pR mo mb (ctV mo vs1 nn) (ctV mo vs1 nn) E4 ∧ Gs E E4 V u') := fun u hu => by
        obtain ⟨E3, h1, h2⟩ := hu
        exact (pa_rcut h1 nn).mono fun e u' hu' => by
          obtain ⟨he, E4, h3, h4⟩ := hu'
          exact ⟨he, E4, h3, h2.trans h4⟩
      have HC3 : Hid (∀ u, (∃ E4, Pa u pT pR mo mb (ctV mo vs1 nn) (ctV mo vs1 nn) E4 ∧ Gs E E4 V u) → Calls Try.prog 19 #[.pointer (some ⟨b, o, none⟩), .agg (opL 0 4 0 0 V0 (.slice la us.length lc) (List.replicate 24 0)).toArray] u fun e u' => e = .returned (.bool true) ∧ ∃ vs' E5, Pa u' pT pR mo mb vs' vs' E5 ∧ Gs E E5 V u' ∧ vs'.length ≤ vs.length + 49) := fun u hu => by
        obtain ⟨E4, h1, h2⟩ := hu
        have hbu := (HFV.out u h2.1).2.2.2.2.2.2.2.2
        have hzz := HW8.out.size
        have hwV : Tc (fun q => E q ∨ q = bs + 1) w V := ⟨HV1.out.fx.os.trans HW8.out.os, HV1.out.fx.tape.trans HW8.out.tape, HV1.out.fx.output.trans HW8.out.output, by omega, fun q hq hn => (HV1.out.fx.block q (by omega) hn).trans (HW8.out.block q hq)⟩
        have hLu : Lv u (.slice la us.length lc) us := Lv.tc (E := fun q => E q ∨ q = bs + 1) HLV.out rfl (hwV.trans h2.1 (fun _ _ e => .inl e)) (fun h0 g off e => by
          rintro (e2 | e2)
          · exact HLE.out h0 g off e e2
          · have := HLL.out h0 g off e; omega)
        have hA4 : Apt E4 la us.length := HLE.out.gs h2 (fun h0 g off e => by have := HLL.out h0 g off e; omega)
        have hb4 : ¬ E4 b := fun e => (h2.2 b e).elim hnb (fun e => by omega)
        exact (rows_list hbu h1 hb4 (by have := HLN.out; omega) 0 4 0 0 V0 la lc us (List.replicate 24 0) (by decide) hLu hA4 hul).mono fun e u' hu' => by
          obtain ⟨he, vs', E5, h3, h4, h5⟩ := hu'
          exact ⟨he, vs', E5, h3, h2.trans h4, by omega⟩
      have HC4 : Hid (∀ u, (∃ vs' E5, Pa u pT pR mo mb vs' vs' E5 ∧ Gs E E5 V u ∧ vs'.length ≤ vs.length + 49) → Calls Try.prog 11 #[pR] u fun e u' => ∃ wl, e = .returned wl ∧ ∃ vs' E5, (Pa u' pT pR mo mb vs' vs' E5 ∧ Gs E E5 V u' ∧ vs'.length ≤ vs.length + 49) ∧ ∃ la2 lc2, wl = .slice la2 vs'.length lc2 ∧ Wl u' la2 vs') := fun u hu => by
        obtain ⟨vs', E5, h1, h2, h3⟩ := hu
        exact (pa_rall h1 (by have := HLN.out; omega)).mono fun e u' hu' => by
          obtain ⟨la2, lc2, he, hwl, _, hb⟩ := hu'
          exact ⟨_, he, vs', E5, ⟨h1.keep hb, h2.keep hb, h3⟩, la2, lc2, rfl, hwl⟩
      have HC5 : Hid (∀ wl u, (∃ vs' E5, (Pa u pT pR mo mb vs' vs' E5 ∧ Gs E E5 V u ∧ vs'.length ≤ vs.length + 49) ∧ ∃ la2 lc2, wl = .slice la2 vs'.length lc2 ∧ Wl u la2 vs') → Calls Try.prog 9 #[(.func (.func 23) #[] #[.pointer (some ⟨b0, 0, none⟩)]), wl, .int .i64 (-1)] u fun e u' => e = .returned (.bool true) ∧ ∃ vs' E5, Pa u' pT pR mo mb vs' vs' E5 ∧ Gs E E5 V u' ∧ vs'.length ≤ vs.length + 49) := fun wl u hu => by
        obtain ⟨vs', E5, ⟨h1, h2, h3⟩, la2, lc2, rfl, hwl⟩ := hu
        exact (pa_tells h1 (by have := HLN.out; omega) (HFV.out u h2.1).2.2.2.2.2.2.2.1 la2 lc2 hwl _).mono fun e u' hu' => ⟨hu'.1, vs', E5, h1.keep hu'.2, h2.keep hu'.2, h3⟩
      clear hp2 hg2 hd3 hg2d hp2d HADD2 T3 hl1 hl2 hvs1
      simp (config := { maxSteps := 8000000 }) only [Act.put, List.setIfInBounds_toArray, List.set_cons_succ, List.set_cons_zero, Exit.then]
      go_at_K
      gi_wp2_with fail
      refine wpIn_region_held_round (S := fun u => Tc E V u) (by kernel_rfl) (by kernel_rfl) (fun ⟨_, _, h⟩ => h) ?_
      refine areg16 (w5 := V3) (S := fun u => Tc E V u) (t := b) (oo := o) (B0 := w.heap.size) (B1 := w.heap.size + 1) (BS := bs) (fun u => ∃ E3, Pa u pT pR mo mb (ctV mo vs1 nn) vs1 E3 ∧ Gs E E3 V u) (fun u => ∃ E4, Pa u pT pR mo mb (ctV mo vs1 nn) (ctV mo vs1 nn) E4 ∧ Gs E E4 V u) (fun u => ∃ vs' E5, Pa u pT pR mo mb vs' vs' E5 ∧ Gs E E5 V u ∧ vs'.length ≤ vs.length + 49) (fun wl u => ∃ vs' E5, (Pa u pT pR mo mb vs' vs' E5 ∧ Gs E E5 V u ∧ vs'.length ≤ vs.length + 49) ∧ ∃ la2 lc2, wl = .slice la2 vs'.length lc2 ∧ Wl u la2 vs') (fun u => ∃ vs' E5, Pa u pT pR mo mb vs' vs' E5 ∧ Gs E E5 V u ∧ vs'.length ≤ vs.length + 49) rfl rfl rfl rfl rfl rfl rfl rfl rfl rfl rfl rfl rfl rfl rfl rfl rfl rfl rfl rfl rfl rfl rfl rfl rfl rfl rfl rfl rfl rfl rfl rfl rfl rfl rfl rfl rfl rfl rfl rfl rfl rfl rfl (by kernel_rfl) (by kernel_rfl) (by kernel_rfl) (by kernel_rfl) (by kernel_rfl) (by kernel_rfl) (by kernel_rfl) (by kernel_rfl) (fun _ _ _ _ _ h => h) (by simp) rfl rfl rfl rfl rfl rfl rfl T4.out (fun u hu => hu.choose_spec.2.1) (fun u hu => hu.choose_spec.2.1) (fun u hu => hu.choose_spec.choose_spec.2.1.1) (fun wl u hu => hu.choose_spec.choose_spec.1.2.1.1) (fun u hu => hu.choose_spec.choose_spec.2.1.1) (fun u hu => (HFV.out u hu).1) (fun u hu => (HFV.out u hu).2.2.1) (fun u hu => (HFV.out u hu).2.2.2.1) (fun u hu => (HFV.out u hu).2.1) (fun u hu => (HFV.out u hu).2.2.2.2.2.1) (fun u hu => (HFV.out u hu).2.2.2.2.2.2.1) (fun u => neq_sym _ u) (fun u => neq_err _ u) (fun u => neq_err _ u) (fun u => eqg_sym _ _ _ u) (fun u => eqg_err _ _ _ u) (fun u => eqg_err _ _ _ u) HC1.out HC2.out HC3.out HC4.out HC5.out ?_
      intro V6 wl6 hR6
      obtain ⟨vs', E5, hp6, hg6, hl6⟩ := hR6
      have ek : V6.heap[bs + 1]? = V.heap[bs + 1]? := hg6.1.block (bs + 1) (by omega) (fun e => by have := HE.out _ e; omega)
      have bk6 : Boxed V6 (bs + 1) 3 (.int .i64 (k : Int)) := ek.trans HV1.out.bk
      have l7' := run_loadInt bk6.cell
      have c7 := bk6.cell
      have q7 := bk6.frozen
      have HFI : Hid (KeepsFrom W8.heap.size W (V6.setCell ⟨bs + 1, 0, none⟩ (.int .i64 ((k : Int) + 1))) ∧ KpF W8.heap.size W (V6.setCell ⟨bs + 1, 0, none⟩ (.int .i64 ((k : Int) + 1))) ∧ Am W8 E (bs + 1) pT pR mo mb vs mm (k + 1) (V6.setCell ⟨bs + 1, 0, none⟩ (.int .i64 ((k : Int) + 1)))) := by
        refine ⟨(KeepsFrom.below HV3.out).trans ((tc_keepsFrom hg6.1 HE8.out).trans ((KeepsOthers.setCell _ _ _).from _)), kpf_set ((KpF.of HV3.out).trans (tc_kpf hg6.1 HE8.out)) (by omega), .inr ⟨by have := HKE.out; simp; omega, vs', E5, hp6.blocks (fun q hq => heap_setCell_other _ _ _ _ (by
          show q ≠ bs + 1
          rcases hg6.2 q hq with e | e
          · have := HE.out q e; omega
          · omega)), fun q hq => (hg6.2 q hq).imp id (fun e => by omega), hl6⟩, Tc.setCell (HV1.out.fx.trans hg6.1 (fun _ _ e => .inl e)) (p := ⟨bs + 1, 0, none⟩) (.inr (.inr rfl)) _, by rw [Int.natCast_add]; exact bk6.set _⟩
      clear HV1 HV3 HFX HW8 HE HE8 hp6 hg6 ek bk6 HC1 HC2 HC3 HC4 HC5 T4 HFV HPV HKE HVD
      simp (config := { maxSteps := 8000000 }) only [Act.put, List.setIfInBounds_toArray, List.set_cons_succ, List.set_cons_zero, Exit.then]
      go_at_K
      gi_wp2
      exact HFI.out
    · have hke' : ((k : Int) == mm) = false := by simpa using hke
      have c7 := HV1.out.bk.cell
      have q7 := HV1.out.bk.frozen
      have HFI : Hid (KeepsFrom W8.heap.size W (V.setCell ⟨bs + 1, 0, none⟩ (.int .i64 ((k : Int) + 1))) ∧ KpF W8.heap.size W (V.setCell ⟨bs + 1, 0, none⟩ (.int .i64 ((k : Int) + 1))) ∧ Am W8 E (bs + 1) pT pR mo mb vs mm (k + 1) (V.setCell ⟨bs + 1, 0, none⟩ (.int .i64 ((k : Int) + 1)))) := by
        refine ⟨(KeepsFrom.below HV3.out).trans ((KeepsOthers.setCell _ _ _).from _), kpf_set (KpF.of HV3.out) (by omega), ?_, Tc.setCell HV1.out.fx (p := ⟨bs + 1, 0, none⟩) (.inr (.inr rfl)) _, by rw [Int.natCast_add]; exact HV1.out.bk.set _⟩
        rcases HV1.out.st with ⟨e, h1⟩ | ⟨e, vs', E', h1, h2, h3⟩
        · exact .inl ⟨by simp; omega, h1.blocks (fun q hq => heap_setCell_other _ _ _ _ (by show q ≠ bs + 1; have := HE.out q hq; omega))⟩
        · exact .inr ⟨by simp; omega, vs', E', h1.blocks (fun q hq => heap_setCell_other _ _ _ _ (by
            show q ≠ bs + 1
            rcases h2 q hq with e | e
            · have := HE.out q e; omega
            · omega)), h2, h3⟩
      clear HV1 HV3 hke HFX HW8 HE HE8
      gi_wp2
      exact HFI.out
  case done =>
    rintro D W hD hi hKD
    obtain ⟨f1, f2, f3, f4, f5, f6, f7, f8, f9⟩ := HFX.out W hi.fx
    have l1 := run_loadNums f4.cell
    have l4 := run_loadInt hi.bk.cell
    have c3 := f3.cell
    have q3 := f3.frozen
    obtain ⟨hne, HK, HR⟩ := collectedT f3 hKD (.bool true)
    have HFIN := Lib.hid (hi.done (br := w.heap.size + 1 + 1) (x := .bool true) HE.out hm HW8.out ⟨by omega, by omega⟩ (by omega) hD hKD)
    clear hi hKD hD HSQ HAM HFX f1 f2 f3 f4 f5 f6 f7 f8 f9 hne HW8 HE
    gi_wp2
    exact ⟨by simp, .inl ⟨_, _, rfl, run_takeDeferred HK.out, _, rl_results Try.results32 rfl HR.out, rfl, HFIN.out⟩⟩
  case stop =>
    rintro D c k W _ _ h _
    exact h.elim
end Go.Proofs.Ythdcgikhcghigaa
