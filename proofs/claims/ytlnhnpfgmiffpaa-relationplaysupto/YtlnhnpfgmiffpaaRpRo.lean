import Derived.Test.YtlnhnpfgmiffpaaRpRoA
namespace Go.Proofs.Ytlnhnpfgmiffpaa
open Go.RowKit Go.Maps Go.Shelf
set_option linter.unusedVariables false
set_option linter.unusedSimpArgs false
attribute [local go_sem ↓] Go.wp_at_zero Go.wp_at_succ
attribute [local go_sem] run_store_nilFuncP run_store_ptrP
attribute [-go_sem] loadVar
section
variable {w : World} {b o : Nat} {ty : TypeId} {l : List Value} {pT pR kv : Value} {f t : Int} {rows : List (List Int)} {n : Nat} {gn : Int} {E K : Nat → Prop}
set_option maxHeartbeats 25600000 in
set_option maxRecDepth 100000 in
theorem room_x (h : St w b ty l o pT pR kv f t rows n gn E K) (hlen : rows.length ≤ 50000000) (on kk nn m mask : Int) (r : List Int) (hr : RowOk r) : Calls Try.prog 27 #[.pointer (some ⟨b, o, none⟩), .agg (opL on kk nn m mask r).toArray] w fun e w' => e = .returned (.bool true) ∧ Below w.heap.size w w' := by
  have O := Lib.hid (opAt_new w on kk nn m mask r)
  have HB := Lib.hid (belowA (w := w) (.cells (opL on kk nn m mask r).toArray 42))
  have HN := Lib.hid (h.keep HB.out)
  obtain ⟨fl, hct0, hcr0⟩ := pa_clone HN.out.pa (by omega)
  have HCT := Lib.hid hct0
  have HCR := Lib.hid hcr0
  have HX := Lib.hid hr
  have HEK : Hid ((∀ k, E k → k < w.heap.size) ∧ (∀ k, K k → k < w.heap.size) ∧ b < w.heap.size) := ⟨fun k hk => h.pa.lt hk, fun k hk => h.kp.lt hk, World.rowIs.lt h.rl⟩
  clear h hct0 hcr0 hr
  go_enter Try.func27, Try.ntmps27
  go_upto_region 1 with fail
  generalize w.alloc (.cells (opL on kk nn m mask r).toArray 42) = W at O HB HN HCT HCR ⊢
  have hB0 : Below W.heap.size W W.drew := (Below.refl _ _).drew
  have HS : Hid (∀ u, Below W.heap.size W u → Below W.heap.size W u ∧ (loadVar 24 ⟨b, o, none⟩).run Try.prog u = .ok pT u ∧ (loadVar 25 ⟨b, o + 1, none⟩).run Try.prog u = .ok pR u) :=
    fun u hu => ⟨hu, run_loadRel (HN.out.keep hu).bx.cT, run_loadRef (HN.out.keep hu).bx.cR⟩
  have HQA : Hid (∀ u : World, Below (W.alloc (.cells #[.pointer none, .pointer none, .nilFunc, .int .i64 0, .int .i64 0] 29)).drew.heap.size (W.alloc (.cells #[.pointer none, .pointer none, .nilFunc, .int .i64 0, .int .i64 0] 29)).drew u → RL u W.heap.size 29 [.pointer none, .pointer none, .nilFunc, .int .i64 0, .int .i64 0]) := fun u hu => ((rl_new W #[.pointer none, .pointer none, .nilFunc, .int .i64 0, .int .i64 0] 29).below (Below.refl _ _).drew).below hu
  have HQB : Hid (∀ u2 u3 : World, Below (u2.alloc (.cells #[.pointer none, .pointer none, .nilFunc, .int .i64 0, .int .i64 0] 29)).heap.size (u2.alloc (.cells #[.pointer none, .pointer none, .nilFunc, .int .i64 0, .int .i64 0] 29)) u3 → RL u3 u2.heap.size 29 [.pointer none, .pointer none, .nilFunc, .int .i64 0, .int .i64 0]) := fun u2 u3 hu => (rl_new u2 #[.pointer none, .pointer none, .nilFunc, .int .i64 0, .int .i64 0] 29).below hu
  have HQK : Hid (∀ (c : Nat) (u u3 : World), RL u c 29 [.pointer none, .pointer none, .nilFunc, .int .i64 0, .int .i64 0] → Below u.heap.size u u3 → RL u3 c 29 [.pointer none, .pointer none, .nilFunc, .int .i64 0, .int .i64 0]) := fun c u u3 h hu => h.below hu
  go_cut [5] (fun x wc => ∃ c qo qr, x = .pointer (some ⟨c, 0, none⟩) ∧ Hid (Below W.heap.size W wc ∧ W.heap.size ≤ c ∧ RL wc c 29 [.pointer qo, .pointer qr, .nilFunc, .int .i64 0, .int .i64 0] ∧ (∀ u, (binOp .eql 24 (.pointer qo) (.pointer none)).run Try.prog u = .ok (.bool fl) u) ∧ (∀ u, (binOp .eql 25 (.pointer qr) (.pointer none)).run Try.prog u = .ok (.bool fl) u) ∧ ∃ Ec, Pa wc (.pointer qo) (.pointer qr) rows n 0 Ec ∧ ∀ k, Ec k → W.heap.size ≤ k ∧ k ≠ c))
  case first =>
    go_region_held3 (fun u => Below W.heap.size W u ∧ (loadVar 24 ⟨b, o, none⟩).run Try.prog u = .ok pT u ∧ (loadVar 25 ⟨b, o + 1, none⟩).run Try.prog u = .ok pR u)
      (with_reducible first | assumption | exact HS.out _ hB0 | exact HS.out _ (belowA _).drew | exact HS.out _ b2' | exact HS.out _ b3' | exact HS.out _ (b2'.alloc b2'.size _) | exact HS.out _ (b3'.alloc b3'.size _) | exact HS.out _ (((((b3'.setCell (p := ⟨W.heap.size, 0, none⟩) (Nat.le_refl _) _).setCell (p := ⟨W.heap.size, 1, none⟩) (Nat.le_refl _) _).setCell (p := ⟨W.heap.size, 2, none⟩) (Nat.le_refl _) _).setCell (p := ⟨W.heap.size, 3, none⟩) (Nat.le_refl _) _).setCell (p := ⟨W.heap.size, 4, none⟩) (Nat.le_refl _) _) | exact HS.out _ (((((b3'.setCell (p := ⟨w2.heap.size, 0, none⟩) b2'.size _).setCell (p := ⟨w2.heap.size, 1, none⟩) b2'.size _).setCell (p := ⟨w2.heap.size, 2, none⟩) b2'.size _).setCell (p := ⟨w2.heap.size, 3, none⟩) b2'.size _).setCell (p := ⟨w2.heap.size, 4, none⟩) b2'.size _))
      (first
        | (go_at_call 6; refine (HCT.out _ (by first | exact hB0 | exact (belowA _).drew)).mono ?_; rintro ee w2 ⟨qT, rfl, hct, b2⟩; have b2' : Below W.heap.size W w2 := (by first | exact hB0.trans (b2.mono hB0.size) | exact Below.trans (belowA _).drew (b2.mono (Below.size (belowA _).drew))); (first | ((with_reducible have q1 := HQA.out _ b2); have Q1 := Lib.hid q1; clear q1) | skip); obtain ⟨qo, rfl⟩ := hct.form; have HCt := Lib.hid hct; have HZ2 := Lib.hid b2.size; clear hct b2)
        | (go_at_call 7; refine (HCR.out _ (by first | exact b2' | exact b2'.alloc b2'.size _)).mono ?_; rintro ee w3 ⟨qR, rfl, hcr, b3⟩; have b3' : Below W.heap.size W w3 := (by first | exact b2'.trans (b3.mono b2'.size) | exact Below.trans (b2'.alloc b2'.size _) (b3.mono (Below.size (b2'.alloc b2'.size _)))); have HCr := Lib.hid hcr; have HB3 := Lib.hid b3; (first | ((with_reducible have q2 := HQK.out _ _ _ Q1.out b3); have Q2 := Lib.hid q2; have c0 := q2.at (j := 0) rfl; have c1 := q2.at (j := 1) rfl; have c2 := q2.at (j := 2) rfl; have c3 := q2.at (j := 3) rfl; have c4 := q2.at (j := 4) rfl; have f0 := q2.frozenP 0; have f1 := q2.frozenP 1; have f2 := q2.frozenP 2; have f3 := q2.frozenP 3; have f4 := q2.frozenP 4; clear q2) | ((with_reducible have q2 := HQB.out _ _ b3); have Q2 := Lib.hid q2; have c0 := q2.at (j := 0) rfl; have c1 := q2.at (j := 1) rfl; have c2 := q2.at (j := 2) rfl; have c3 := q2.at (j := 3) rfl; have c4 := q2.at (j := 4) rfl; have f0 := q2.frozenP 0; have f1 := q2.frozenP 1; have f2 := q2.frozenP 2; have f3 := q2.frozenP 3; have f4 := q2.frozenP 4; clear q2) | skip); obtain ⟨qo', rfl⟩ := hcr.form; clear hcr b3)
        | fail)
    · rename_i hJ hK hHd
      simp only [Exit.then]
      refine hK _ _ (Met.intro (hJ _ _ ?_))
      (repeat apply Exists.intro)
      refine ⟨?rel, rfl⟩
      case rel =>
        obtain ⟨Ec, hp, hE⟩ := pa_join2 HCt.out HB3.out HCr.out (Nat.le_refl _)
        refine ⟨_, _, _, rfl, b3'.alloc b3'.size _, b3'.size, rl_new w3 #[.pointer qo, .pointer qo', .nilFunc, .int .i64 0, .int .i64 0] 29, fun u => HCt.out.eql u, fun u => HCr.out.eql u, Ec, hp.keep (belowA _), fun k hk => ⟨?_, ?_⟩⟩
        · have := b2'.size
          rcases hE k hk with e | e
          · simp at e; omega
          · omega
        · have := hp.lt hk; omega
    · rename_i hJ hK hHd
      simp only [Exit.then]
      refine hK _ _ (Met.intro (hJ _ _ ?_))
      (repeat apply Exists.intro)
      refine ⟨?rel, rfl⟩
      case rel =>
        have hb2 := (belowA (w := w2) (.cells #[.pointer none, .pointer none, .nilFunc, .int .i64 0, .int .i64 0] 29)).trans (HB3.out.mono (by simp))
        obtain ⟨Ec, hp, hE⟩ := pa_join2 HCt.out hb2 HCr.out (by simp)
        have hne : ∀ k, Ec k → W.heap.size ≤ k ∧ k ≠ w2.heap.size := fun k hk => by
          have := b2'.size
          rcases hE k hk with e | e
          · simp at e; omega
          · simp at e; omega
        obtain ⟨x1, x2, x3⟩ := room_fin Q2.out b3' b2'.size hp (fun k hk => (hne k hk).2)
        exact ⟨_, _, _, rfl, x1, b2'.size, x2, fun u => HCt.out.eql u, fun u => HCr.out.eql u, Ec, x3, hne⟩
    · rename_i hJ hK hHd
      simp only [Exit.then]
      refine hK _ _ (Met.intro (hJ _ _ ?_))
      (repeat apply Exists.intro)
      refine ⟨?rel, rfl⟩
      case rel =>
        obtain ⟨Ec, hp, hE⟩ := pa_join2 HCt.out HB3.out HCr.out (Nat.le_refl _)
        have hne : ∀ k, Ec k → W.heap.size ≤ k ∧ k ≠ W.heap.size := fun k hk => by
          have := b2'.size
          have hz2 := HZ2.out
          simp at hz2
          rcases hE k hk with e | e
          · simp at e; omega
          · omega
        obtain ⟨x1, x2, x3⟩ := room_fin Q2.out b3' (Nat.le_refl _) hp (fun k hk => (hne k hk).2)
        exact ⟨_, _, _, rfl, x1, Nat.le_refl _, x2, fun u => HCt.out.eql u, fun u => HCr.out.eql u, Ec, x3, hne⟩
  case rest =>
    obtain ⟨c, qo, qr, rfl, HC⟩ := hcut
    have HN1 := Lib.hid (HN.out.keep HC.out.1)
    have HCT1 : Hid (∀ u, Below wc.heap.size wc u → Calls Try.prog 6 #[pT] u fun e u' => ∃ q, e = .returned q ∧ Ct u' u.heap.size fl q rows n ∧ Below u.heap.size u u') := fun u hu => HCT.out u (HC.out.1.trans (hu.mono HC.out.1.size))
    have HCR1 : Hid (∀ u, Below wc.heap.size wc u → Calls Try.prog 7 #[pR] u fun e u' => ∃ q, e = .returned q ∧ Cr u' u.heap.size fl q rows n ∧ Below u.heap.size u u') := fun u hu => HCR.out u (HC.out.1.trans (hu.mono HC.out.1.size))
    clear hB0 HS HQA HQB HQK HCT HCR
    obtain ⟨V, hV⟩ : ∃ V, V = wc := ⟨_, rfl⟩
    rw [← hV] at HC HN1 HCT1 HCR1 ⊢
    clear hV
    go_upto_region 2 with fail
    have hB0 : Below V.heap.size V V.drew := (Below.refl _ _).drew
    have HS : Hid (∀ u, Below V.heap.size V u → Below V.heap.size V u ∧ (loadVar 24 ⟨b, o, none⟩).run Try.prog u = .ok pT u ∧ (loadVar 25 ⟨b, o + 1, none⟩).run Try.prog u = .ok pR u) :=
      fun u hu => ⟨hu, run_loadRel (HN1.out.keep hu).bx.cT, run_loadRef (HN1.out.keep hu).bx.cR⟩
    have HQA : Hid (∀ u : World, Below (V.alloc (.cells #[.pointer none, .pointer none, .nilFunc, .int .i64 0, .int .i64 0] 29)).drew.heap.size (V.alloc (.cells #[.pointer none, .pointer none, .nilFunc, .int .i64 0, .int .i64 0] 29)).drew u → RL u V.heap.size 29 [.pointer none, .pointer none, .nilFunc, .int .i64 0, .int .i64 0]) := fun u hu => ((rl_new V #[.pointer none, .pointer none, .nilFunc, .int .i64 0, .int .i64 0] 29).below (Below.refl _ _).drew).below hu
    have HQB : Hid (∀ u2 u3 : World, Below (u2.alloc (.cells #[.pointer none, .pointer none, .nilFunc, .int .i64 0, .int .i64 0] 29)).heap.size (u2.alloc (.cells #[.pointer none, .pointer none, .nilFunc, .int .i64 0, .int .i64 0] 29)) u3 → RL u3 u2.heap.size 29 [.pointer none, .pointer none, .nilFunc, .int .i64 0, .int .i64 0]) := fun u2 u3 hu => (rl_new u2 #[.pointer none, .pointer none, .nilFunc, .int .i64 0, .int .i64 0] 29).below hu
    have HQK : Hid (∀ (c : Nat) (u u3 : World), RL u c 29 [.pointer none, .pointer none, .nilFunc, .int .i64 0, .int .i64 0] → Below u.heap.size u u3 → RL u3 c 29 [.pointer none, .pointer none, .nilFunc, .int .i64 0, .int .i64 0]) := fun c u u3 h hu => h.below hu
    go_cut [6] (fun x wc => ∃ c qo qr, x = .pointer (some ⟨c, 0, none⟩) ∧ Hid (Below V.heap.size V wc ∧ V.heap.size ≤ c ∧ RL wc c 29 [.pointer qo, .pointer qr, .nilFunc, .int .i64 0, .int .i64 0] ∧ (∀ u, (binOp .eql 24 (.pointer qo) (.pointer none)).run Try.prog u = .ok (.bool fl) u) ∧ (∀ u, (binOp .eql 25 (.pointer qr) (.pointer none)).run Try.prog u = .ok (.bool fl) u) ∧ ∃ Ec, Pa wc (.pointer qo) (.pointer qr) rows n 0 Ec ∧ ∀ k, Ec k → V.heap.size ≤ k ∧ k ≠ c))
    case first =>
      go_region_held3 (fun u => Below V.heap.size V u ∧ (loadVar 24 ⟨b, o, none⟩).run Try.prog u = .ok pT u ∧ (loadVar 25 ⟨b, o + 1, none⟩).run Try.prog u = .ok pR u)
        (with_reducible first | assumption | exact HS.out _ hB0 | exact HS.out _ (belowA _).drew | exact HS.out _ b2' | exact HS.out _ b3' | exact HS.out _ (b2'.alloc b2'.size _) | exact HS.out _ (b3'.alloc b3'.size _) | exact HS.out _ (((((b3'.setCell (p := ⟨V.heap.size, 0, none⟩) (Nat.le_refl _) _).setCell (p := ⟨V.heap.size, 1, none⟩) (Nat.le_refl _) _).setCell (p := ⟨V.heap.size, 2, none⟩) (Nat.le_refl _) _).setCell (p := ⟨V.heap.size, 3, none⟩) (Nat.le_refl _) _).setCell (p := ⟨V.heap.size, 4, none⟩) (Nat.le_refl _) _) | exact HS.out _ (((((b3'.setCell (p := ⟨w2.heap.size, 0, none⟩) b2'.size _).setCell (p := ⟨w2.heap.size, 1, none⟩) b2'.size _).setCell (p := ⟨w2.heap.size, 2, none⟩) b2'.size _).setCell (p := ⟨w2.heap.size, 3, none⟩) b2'.size _).setCell (p := ⟨w2.heap.size, 4, none⟩) b2'.size _))
        (first
          | (go_at_call 6; refine (HCT1.out _ (by first | exact hB0 | exact (belowA _).drew)).mono ?_; rintro ee w2 ⟨qT, rfl, hct, b2⟩; have b2' : Below V.heap.size V w2 := (by first | exact hB0.trans (b2.mono hB0.size) | exact Below.trans (belowA _).drew (b2.mono (Below.size (belowA _).drew))); (first | ((with_reducible have q1 := HQA.out _ b2); have Q1 := Lib.hid q1; clear q1) | skip); obtain ⟨qo, rfl⟩ := hct.form; have HCt := Lib.hid hct; have HZ2 := Lib.hid b2.size; clear hct b2)
          | (go_at_call 7; refine (HCR1.out _ (by first | exact b2' | exact b2'.alloc b2'.size _)).mono ?_; rintro ee w3 ⟨qR, rfl, hcr, b3⟩; have b3' : Below V.heap.size V w3 := (by first | exact b2'.trans (b3.mono b2'.size) | exact Below.trans (b2'.alloc b2'.size _) (b3.mono (Below.size (b2'.alloc b2'.size _)))); have HCr := Lib.hid hcr; have HB3 := Lib.hid b3; (first | ((with_reducible have q2 := HQK.out _ _ _ Q1.out b3); have Q2 := Lib.hid q2; have c0 := q2.at (j := 0) rfl; have c1 := q2.at (j := 1) rfl; have c2 := q2.at (j := 2) rfl; have c3 := q2.at (j := 3) rfl; have c4 := q2.at (j := 4) rfl; have f0 := q2.frozenP 0; have f1 := q2.frozenP 1; have f2 := q2.frozenP 2; have f3 := q2.frozenP 3; have f4 := q2.frozenP 4; clear q2) | ((with_reducible have q2 := HQB.out _ _ b3); have Q2 := Lib.hid q2; have c0 := q2.at (j := 0) rfl; have c1 := q2.at (j := 1) rfl; have c2 := q2.at (j := 2) rfl; have c3 := q2.at (j := 3) rfl; have c4 := q2.at (j := 4) rfl; have f0 := q2.frozenP 0; have f1 := q2.frozenP 1; have f2 := q2.frozenP 2; have f3 := q2.frozenP 3; have f4 := q2.frozenP 4; clear q2) | skip); obtain ⟨qo', rfl⟩ := hcr.form; clear hcr b3)
          | fail)
      · rename_i hJ hK hHd
        simp only [Exit.then]
        refine hK _ _ (Met.intro (hJ _ _ ?_))
        (repeat apply Exists.intro)
        refine ⟨?rel, rfl⟩
        case rel =>
          obtain ⟨Ec, hp, hE⟩ := pa_join2 HCt.out HB3.out HCr.out (Nat.le_refl _)
          refine ⟨_, _, _, rfl, b3'.alloc b3'.size _, b3'.size, rl_new w3 #[.pointer qo, .pointer qo', .nilFunc, .int .i64 0, .int .i64 0] 29, fun u => HCt.out.eql u, fun u => HCr.out.eql u, Ec, hp.keep (belowA _), fun k hk => ⟨?_, ?_⟩⟩
          · have := b2'.size
            rcases hE k hk with e | e
            · simp at e; omega
            · omega
          · have := hp.lt hk; omega
      · rename_i hJ hK hHd
        simp only [Exit.then]
        refine hK _ _ (Met.intro (hJ _ _ ?_))
        (repeat apply Exists.intro)
        refine ⟨?rel, rfl⟩
        case rel =>
          have hb2 := (belowA (w := w2) (.cells #[.pointer none, .pointer none, .nilFunc, .int .i64 0, .int .i64 0] 29)).trans (HB3.out.mono (by simp))
          obtain ⟨Ec, hp, hE⟩ := pa_join2 HCt.out hb2 HCr.out (by simp)
          have hne : ∀ k, Ec k → V.heap.size ≤ k ∧ k ≠ w2.heap.size := fun k hk => by
            have := b2'.size
            rcases hE k hk with e | e
            · simp at e; omega
            · simp at e; omega
          obtain ⟨x1, x2, x3⟩ := room_fin Q2.out b3' b2'.size hp (fun k hk => (hne k hk).2)
          exact ⟨_, _, _, rfl, x1, b2'.size, x2, fun u => HCt.out.eql u, fun u => HCr.out.eql u, Ec, x3, hne⟩
      · rename_i hJ hK hHd
        simp only [Exit.then]
        refine hK _ _ (Met.intro (hJ _ _ ?_))
        (repeat apply Exists.intro)
        refine ⟨?rel, rfl⟩
        case rel =>
          obtain ⟨Ec, hp, hE⟩ := pa_join2 HCt.out HB3.out HCr.out (Nat.le_refl _)
          have hne : ∀ k, Ec k → V.heap.size ≤ k ∧ k ≠ V.heap.size := fun k hk => by
            have := b2'.size
            have hz2 := HZ2.out
            simp at hz2
            rcases hE k hk with e | e
            · simp at e; omega
            · omega
          obtain ⟨x1, x2, x3⟩ := room_fin Q2.out b3' (Nat.le_refl _) hp (fun k hk => (hne k hk).2)
          exact ⟨_, _, _, rfl, x1, Nat.le_refl _, x2, fun u => HCt.out.eql u, fun u => HCr.out.eql u, Ec, x3, hne⟩
    case rest =>
      obtain ⟨d, qo2, qr2, rfl, HD⟩ := hcut
      clear hB0 HS HQA HQB HQK HCT1 HCR1
      obtain ⟨hVW, hcW, hrlc, heT, heR, Ec, hpc, hEc⟩ := HC.out
      obtain ⟨hWV, hdV, hrld, heT2, heR2, Ed, hpd, hEd⟩ := HD.out
      have SC := Lib.hid ((st_fresh hrlc hpc (fun e => (hEc c e).2 rfl)).keep hWV)
      have SD := Lib.hid (st_fresh hrld hpd (fun e => (hEd d e).2 rfl))
      have SB := Lib.hid (HN1.out.keep hWV)
      have hcV : c < V.heap.size := World.rowIs.lt hrlc
      have HEL : Hid ((∀ k, Ec k → W.heap.size ≤ k ∧ k ≠ c ∧ k < V.heap.size) ∧ (∀ k, Ed k → V.heap.size ≤ k ∧ k ≠ d ∧ k < wc.heap.size) ∧ (∀ k, E k → k < w.heap.size) ∧ (∀ k, K k → k < w.heap.size) ∧ b < w.heap.size) :=
        ⟨fun k hk => ⟨(hEc k hk).1, (hEc k hk).2, hpc.lt hk⟩, fun k hk => ⟨(hEd k hk).1, (hEd k hk).2, hpd.lt hk⟩, HEK.out⟩
      have HBB := Lib.hid (hVW.trans (hWV.mono hVW.size))
      have hzV := hVW.size
      have hzc := hWV.size
      have hdc : d < wc.heap.size := World.rowIs.lt hrld
      have O2 := Lib.hid (O.out.below HBB.out)
      have HBW := Lib.hid (HB.out.trans (HBB.out.mono HB.out.size))
      have hzw : w.heap.size < W.heap.size := O.out.lt
      clear hVW hrlc hpc hEc hWV hrld hpd hEd HC HD O HN HN1 HB HBB HEK
      have lc0 := run_loadRel SC.out.bx.cT
      have lc1 := run_loadRef SC.out.bx.cR
      have ld0 := run_loadRel SD.out.bx.cT
      have ld1 := run_loadRef SD.out.bx.cR
      have hneF : ∀ u : World, (binOp .neq 4 (.bool fl) (.bool fl)).run Try.prog u = .ok (.bool false) u := fun u => by cases fl <;> kernel_rfl
      have hrow := O2.out.loadRow HX.out.len
      have hl1 : (opL 0 1 0 0 0 r).length = 29 := opL_len _ _ _ _ _ HX.out.len
      have hst1 := store_freshOp wc 0 1 0 0 0 r HX.out.len
      go_upto_region 6 with (refine wpList_buildOp _ rfl 1 49 rfl r HX.out.len rfl ?_)
      clear hrow hst1 hl1 lc0 lc1 ld0 ld1 heT heR heT2 heR2 hneF
      have P1 := Lib.hid (opAt_new wc 0 1 0 0 0 r)
      have HB3 := Lib.hid (belowA (w := wc) (.cells (opL 0 1 0 0 0 r).toArray 42))
      generalize wc.alloc (.cells (opL 0 1 0 0 0 r).toArray 42) = W3 at P1 HB3 ⊢
      have hrow := (O2.out.below HB3.out).loadRow HX.out.len
      have hl4 : (opL 0 4 0 0 0 r).length = 29 := opL_len _ _ _ _ _ HX.out.len
      have hst2 := store_freshOp W3 0 4 0 0 0 r HX.out.len
      go_upto_region 7 with (refine wpList_buildOp _ rfl 4 52 rfl r HX.out.len rfl ?_)
      clear hrow hst2 hl4
      have P2 := Lib.hid (opAt_new W3 0 4 0 0 0 r)
      have HB4 := Lib.hid (belowA (w := W3) (.cells (opL 0 4 0 0 0 r).toArray 42))
      generalize W3.alloc (.cells (opL 0 4 0 0 0 r).toArray 42) = W4 at P2 HB4 ⊢
      have hl6 : (opL 0 6 0 1099511627776 0 zeroL).length = 29 := opL_len _ _ _ _ _ rfl
      have hst3 := store_freshOp W4 0 6 0 1099511627776 0 zeroL rfl
      have P3 := Lib.hid (opAt_new W4 0 6 0 1099511627776 0 zeroL)
      have HB5 := Lib.hid (belowA (w := W4) (.cells (opL 0 6 0 1099511627776 0 zeroL).toArray 42))
      go_upto_region 8 with (refine wpList_buildWhole _ rfl rfl ?_)
      clear hst3 hl6
      generalize W4.alloc (.cells (opL 0 6 0 1099511627776 0 zeroL).toArray 42) = W5 at P3 HB5 ⊢
      have h45 := HB5.out.size
      have h34 := HB4.out.size
      have hc3 := HB3.out.size
      have HB25 : Hid (Below wc.heap.size wc W5) := (HB3.out.trans ((HB4.out.trans (HB5.out.mono HB4.out.size)).mono HB3.out.size))
      have Q1 := Lib.hid ((P1.out.below HB4.out).below HB5.out)
      have Q2 := Lib.hid (P2.out.below HB5.out)
      have SC5 := Lib.hid (SC.out.keep HB25.out)
      have SD5 := Lib.hid (SD.out.keep HB25.out)
      have SB5 := Lib.hid (SB.out.keep HB25.out)
      have HBW5 := Lib.hid (HBW.out.trans (HB25.out.mono HBW.out.size))
      have q1l : wc.heap.size < W3.heap.size := P1.out.lt
      have q2l : W3.heap.size < W4.heap.size := P2.out.lt
      have q3l : W4.heap.size < W5.heap.size := P3.out.lt
      clear HB25 SC SD SB P1 P2 HB3 HB4 HB5 HBW O2
      have hld := Q1.out.load HX.out.len
      go_wp2_with fail
      refine (does_add SC5.out hlen 0 0 0 0 r HX.out).mono ?_
      rintro e v1 ⟨rfl, lc', kvc, fc, tc', rowsc, gnc, Ec', Kc', sc1, _, _, hlc1, _, hec, hkc, t1⟩
      have SC1 := Lib.hid sc1
      have SD1 := Lib.hid (SD5.out.tch t1 (fun k hk e => by have a1 := HEL.out.2.1 k hk; rcases e with e | e; have := HEL.out.1 k e; omega; omega) (fun k hk => hk.elim) (fun e => by rcases e with e | e; have := HEL.out.1 d e; omega; omega))
      have SB1 := Lib.hid (SB5.out.tch t1 (fun k hk e => by have a1 := HEL.out.2.2.1 k hk; rcases e with e | e; have := HEL.out.1 k e; omega; omega) (fun k hk e => by have a1 := HEL.out.2.2.2.1 k hk; rcases e with e | e; have := HEL.out.1 k e; omega; omega) (fun e => by have a1 := HEL.out.2.2.2.2; rcases e with e | e; have := HEL.out.1 b e; omega; omega))
      have Q2' := Lib.hid (Q2.out.tch t1 (fun e => by rcases e with e | e; have := HEL.out.1 _ e; omega; omega))
      have P3' := Lib.hid (P3.out.tch t1 (fun e => by rcases e with e | e; have := HEL.out.1 _ e; omega; omega))
      have HEC : Hid (∀ k, Ec' k → (W.heap.size ≤ k ∧ k < V.heap.size) ∨ W5.heap.size ≤ k) := fun k hk => (hec k hk).imp (fun e => by have := HEL.out.1 k e; exact ⟨by omega, by omega⟩) id
      have HKC : Hid (∀ k, Kc' k → W5.heap.size ≤ k) := fun k hk => (hkc k hk).elim (fun e => e.elim) id
      have T1 := Lib.hid t1
      have z1 := t1.size
      clear hld SC5 SD5 SB5 Q1 Q2 P3 sc1 hec hkc t1
      have hld := Q2'.out.load HX.out.len
      go_wp2_with fail
      refine (does_rem SD1.out hlen ⟨by omega, by omega⟩ 0 0 0 0 r HX.out).mono ?_
      rintro e v2 ⟨rfl, ld', kvd, fd, td', rowsd, gnd, Ed', Kd', sd1, _, _, hld1, _, hed, hkd, t2⟩
      have SD2 := Lib.hid sd1
      have SC2 := Lib.hid (SC1.out.tch t2 (fun k hk e => by
        have a1 := HEC.out k hk
        rcases e with e | e
        · have a2 := HEL.out.2.1 k e
          rcases a1 with q | q <;> omega
        · rcases a1 with q | q <;> omega) (fun k hk e => by
        have a1 := HKC.out k hk
        rcases e with e | e
        · have a2 := HEL.out.2.1 k e; omega
        · omega) (fun e => by
        rcases e with e | e
        · have a2 := HEL.out.2.1 c e; omega
        · omega))
      have SB2 := Lib.hid (SB1.out.tch t2 (fun k hk e => by
        have a1 := HEL.out.2.2.1 k hk
        rcases e with e | e
        · have a2 := HEL.out.2.1 k e; omega
        · omega) (fun k hk e => by
        have a1 := HEL.out.2.2.2.1 k hk
        rcases e with e | e
        · have a2 := HEL.out.2.1 k e; omega
        · omega) (fun e => by
        have a1 := HEL.out.2.2.2.2
        rcases e with e | e
        · have a2 := HEL.out.2.1 b e; omega
        · omega))
      have P32 := Lib.hid (P3'.out.tch t2 (fun e => by
        rcases e with e | e
        · have a2 := HEL.out.2.1 _ e; omega
        · omega))
      have HBV : Hid (Below w.heap.size w v2) := by
        have z5 := HBW5.out.size
        have u1 := T1.out.below (B := w.heap.size) z5 (fun g hg e => by
          rcases e with e | e
          · have a2 := HEL.out.1 g e; omega
          · omega)
        have u2 := t2.below (B := w.heap.size) (by omega) (fun g hg e => by
          rcases e with e | e
          · have a2 := HEL.out.2.1 g e; omega
          · omega)
        exact HBW5.out.trans (u1.trans u2)
      clear hld SC1 SD1 SB1 Q2' P3' sd1 hed hkd t2 T1 HEC HKC HEL HBW5
      have HST : Hid (∀ u, Below v2.heap.size v2 u → OpAt u W4.heap.size 0 6 0 1099511627776 0 zeroL) := fun u hu => P32.out.below hu
      have hx2 : Below v2.heap.size v2 v2 := Below.refl _ _
      have hld := (HST.out v2 hx2).load rfl
      go_wp2_with fail
      refine (does_rng (SC2.out.keep hx2) (by omega) 0 0 1099511627776 0 zeroL rfl).mono ?_
      rintro e v3 ⟨rfl, d3⟩
      clear hld
      have hy3 : Below v2.heap.size v2 v3 := hx2.trans (d3.mono hx2.size)
      clear d3
      have hld := (HST.out v3 hy3).load rfl
      go_wp2_with fail
      refine (does_rng (SD2.out.keep hy3) (by omega) 0 0 1099511627776 0 zeroL rfl).mono ?_
      rintro e v4 ⟨rfl, d4⟩
      clear hld
      have hy4 : Below v2.heap.size v2 v4 := hy3.trans (d4.mono hy3.size)
      clear d4 hy3
      have hld := (HST.out v4 hy4).load rfl
      go_wp2_with fail
      refine (does_rng (SB2.out.keep hy4) (by omega) 0 0 1099511627776 0 zeroL rfl).mono ?_
      rintro e v5 ⟨rfl, d5⟩
      clear hld
      have hy5 : Below v2.heap.size v2 v5 := hy4.trans (d5.mono hy4.size)
      clear d5 hy4
      go_wp2_with fail
      refine (sizes_x (SC2.out.keep hy5).bx).mono ?_
      rintro e v6 ⟨rfl, d6⟩
      have hy6 : Below v2.heap.size v2 v6 := hy5.trans (d6.mono hy5.size)
      clear d6 hy5
      go_wp2_with fail
      refine (sizes_x (SD2.out.keep hy6).bx).mono ?_
      rintro e v7 ⟨rfl, d7⟩
      have hy7 : Below v2.heap.size v2 v7 := hy6.trans (d7.mono hy6.size)
      clear d7 hy6 HST SC2 SD2 SB2 P32
      go_wp2
      go_ret
      exact ⟨rfl, HBV.out.trans (hy7.mono HBV.out.size)⟩
end
end Go.Proofs.Ytlnhnpfgmiffpaa
