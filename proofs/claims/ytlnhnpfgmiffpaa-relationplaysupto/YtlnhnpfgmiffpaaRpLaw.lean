import Derived.Test.YtlnhnpfgmiffpaaRpLaw0
import Derived.Test.YtlnhnpfgmiffpaaRpOpn
namespace Go.Proofs.Ytlnhnpfgmiffpaa
open Go.RowKit Go.Maps Go.Shelf
set_option linter.unusedVariables false
set_option linter.unusedSimpArgs false
attribute [local go_sem ↓] Go.wp_at_zero Go.wp_at_succ
attribute [local go_sem] run_store_nilFuncP run_store_ptrP
attribute [-go_sem] loadVar
set_option maxHeartbeats 25600000 in
set_option maxRecDepth 100000 in
theorem plays_walk (one two : Int) (a : Option Addr) (c : Nat) (ops : List Od) (w : World) (h : LoC w (.slice a ops.length c) ops) (hn : ops.length ≤ 1048576) : Calls Try.prog 3 #[.int .i64 one, .int .i64 two, .slice a ops.length c] w fun e w' => e = .returned (.bool true) ∧ Below w.heap.size w w' := by
  have HL := Lib.hid h
  have HA1 := belowA (w := w) (.cells #[.int .i64 one, .int .i64 two] 23)
  have HA2 := belowA (w := w.alloc (.cells #[.int .i64 one, .int .i64 two] 23)) (.cells #[.pointer none, .pointer none, .nilFunc, .int .i64 0, .int .i64 0, .pointer none, .pointer none, .nilFunc, .int .i64 0, .int .i64 0] 30)
  have HI0 : Hid (Ini w ((w.alloc (.cells #[.int .i64 one, .int .i64 two] 23)).alloc (.cells #[.pointer none, .pointer none, .nilFunc, .int .i64 0, .int .i64 0, .pointer none, .pointer none, .nilFunc, .int .i64 0, .int .i64 0] 30)) w.heap.size (w.heap.size + 1) one two 0) := by
    refine ⟨HA1.trans (HA2.mono HA1.size), (rl_new w #[.int .i64 one, .int .i64 two] 23).below HA2, .inl ⟨rfl, ?_⟩⟩
    have := rl_new (w.alloc (.cells #[.int .i64 one, .int .i64 two] 23)) #[.pointer none, .pointer none, .nilFunc, .int .i64 0, .int .i64 0, .pointer none, .pointer none, .nilFunc, .int .i64 0, .int .i64 0] 30
    simpa using this
  clear HA1 HA2 h
  go_enter Try.func3, Try.ntmps3
  go_upto_region 3 with fail
  generalize (w.alloc (.cells #[.int .i64 one, .int .i64 two] 23)).alloc (.cells #[.pointer none, .pointer none, .nilFunc, .int .i64 0, .int .i64 0, .pointer none, .pointer none, .nilFunc, .int .i64 0, .int .i64 0] 30) = W0 at HI0 ⊢
  go_wp2
  go_loopw [9, 10, 11, 12, 13] (fun i _ _ _ _ wr => ∃ k : Nat, k ≤ 2 ∧ i = .int .i64 k ∧ Hid (Ini w wr w.heap.size (w.heap.size + 1) one two k)) (fun i _ _ _ _ _ => 2 - (intOf i).toNat)
  case atStart => exact ⟨0, by omega, rfl, HI0.out⟩
  case round =>
    obtain ⟨k, hk, rfl, HI⟩ := hrel
    have hkc : k = 0 ∨ k = 1 ∨ k = 2 := by omega
    clear HI0
    rcases hkc with rfl | rfl | rfl
    · obtain ⟨fl, n, er, kT, kR⟩ := pa_new one
      have HT := Lib.hid kT
      have HR := Lib.hid kR
      have hrl : RL wr (w.heap.size + 1) 30 [.pointer none, .pointer none, .nilFunc, .int .i64 0, .int .i64 0, .pointer none, .pointer none, .nilFunc, .int .i64 0, .int .i64 0] := by
        rcases HI.out.2.2 with ⟨_, h⟩ | ⟨e, _⟩ | ⟨e, _⟩
        · exact h
        · omega
        · omega
      have la := run_loadInt (HI.out.2.1.at (j := 0) rfl)
      have HRL := Lib.hid hrl
      clear kT kR hrl
      go_wp2_with fail
      refine (HT.out _).mono ?_
      rintro e w1 ⟨q, rfl, hct, b1⟩
      have la1 := run_loadInt ((HI.out.2.1.below b1).at (j := 0) rfl)
      have heT := fun u => hct.eql u
      have HC1 := Lib.hid (And.intro hct b1)
      clear hct b1 la HT
      go_wp2_with fail
      refine (HR.out _).mono ?_
      rintro e w2 ⟨r, rfl, hcr, b2⟩
      have heR := fun u => hcr.eql u
      have hneF := neq_bb fl
      have rl2 := (HRL.out.below HC1.out.2).below b2
      have c0 := rl2.at (j := 0) rfl
      have f0 := rl2.frozenP 0
      have c1 := rl2.at (j := 1) rfl
      have f1 := rl2.frozenP 1
      have c2 := rl2.at (j := 2) rfl
      have f2 := rl2.frozenP 2
      have c3 := rl2.at (j := 3) rfl
      have f3 := rl2.frozenP 3
      have c4 := rl2.at (j := 4) rfl
      have f4 := rl2.frozenP 4
      have HS := Lib.hid (ini_step0 HI.out HC1.out.1 HC1.out.2 hcr b2)
      clear hcr b2 la1 HR HC1 HRL rl2
      go_wp2
      go_roundw
      case rel => exact ⟨1, by omega, by go_num, HS⟩
      case measure => simp [intOf]
    · obtain ⟨fl, n, er, kT, kR⟩ := pa_new two
      have HT := Lib.hid kT
      have HR := Lib.hid kR
      obtain ⟨q0, r0, hrl⟩ : ∃ q0 r0, RL wr (w.heap.size + 1) 30 [.pointer q0, .pointer r0, .nilFunc, .int .i64 0, .int .i64 0, .pointer none, .pointer none, .nilFunc, .int .i64 0, .int .i64 0] := by
        rcases HI.out.2.2 with ⟨e, _⟩ | ⟨_, q0, r0, _, _, h, _⟩ | ⟨e, _⟩
        · omega
        · exact ⟨q0, r0, h⟩
        · omega
      have la := run_loadInt (HI.out.2.1.at (j := 1) rfl)
      have HRL := Lib.hid hrl
      clear kT kR hrl
      go_wp2_with fail
      refine (HT.out _).mono ?_
      rintro e w1 ⟨q, rfl, hct, b1⟩
      have la1 := run_loadInt ((HI.out.2.1.below b1).at (j := 1) rfl)
      have heT := fun u => hct.eql u
      have HC1 := Lib.hid (And.intro hct b1)
      clear hct b1 la HT
      go_wp2_with fail
      refine (HR.out _).mono ?_
      rintro e w2 ⟨r, rfl, hcr, b2⟩
      have heR := fun u => hcr.eql u
      have hneF := neq_bb fl
      have rl2 := (HRL.out.below HC1.out.2).below b2
      have c0 := rl2.at (j := 5) rfl
      have f0 := rl2.frozenP 5
      have c1 := rl2.at (j := 6) rfl
      have f1 := rl2.frozenP 6
      have c2 := rl2.at (j := 7) rfl
      have f2 := rl2.frozenP 7
      have c3 := rl2.at (j := 8) rfl
      have f3 := rl2.frozenP 8
      have c4 := rl2.at (j := 9) rfl
      have f4 := rl2.frozenP 9
      have HS := Lib.hid (ini_step1 HI.out HC1.out.1 HC1.out.2 hcr b2)
      clear hcr b2 la1 HR HC1 HRL rl2
      go_wp2
      go_roundw
      case rel => exact ⟨2, by omega, by go_num, HS⟩
      case measure => simp [intOf]
    · have HW : Hid (∃ l pT pR qT qR rows rows' E K E' K', Tw w wr (w.heap.size + 1) l 0 5 0 pT pR qT qR rows rows' E K E' K') := by
        obtain ⟨hb, hA, h0⟩ := HI.out
        obtain ⟨q, r, E, n, q', r', E', n', hrl, p1, p2, e1, e2⟩ : ∃ q r E n q' r' E' n', RL wr (w.heap.size + 1) 30 [.pointer q, .pointer r, .nilFunc, .int .i64 0, .int .i64 0, .pointer q', .pointer r', .nilFunc, .int .i64 0, .int .i64 0] ∧ Pa wr (.pointer q) (.pointer r) [] n 0 E ∧ Pa wr (.pointer q') (.pointer r') [] n' 0 E' ∧ (∀ k, E k → w.heap.size ≤ k ∧ k ≠ w.heap.size + 1 ∧ ¬ E' k) ∧ ∀ k, E' k → w.heap.size ≤ k ∧ k ≠ w.heap.size + 1 := by
          rcases h0 with ⟨e, _⟩ | ⟨e, _⟩ | ⟨_, h⟩
          · omega
          · omega
          · exact h
        exact ⟨_, _, _, _, _, _, _, _, _, _, _, ⟨⟨.nilFunc, 0, 0, n, 0, ⟨hrl, rfl, rfl, rfl, rfl, rfl, p1, .nil, fun _ _ h => h, fun e => (e1 _ e).2.1 rfl, fun e => e⟩, by simp, by omega, by omega, fun k hk => (e1 k hk).1, fun k hk => hk.elim⟩, ⟨.nilFunc, 0, 0, n', 0, ⟨hrl, rfl, rfl, rfl, rfl, rfl, p2, .nil, fun _ _ h => h, fun e => (e2 _ e).2 rfl, fun e => e⟩, by simp, by omega, by omega, fun k hk => (e2 k hk).1, fun k hk => hk.elim⟩, fun k hk => (e1 k hk).2.2, fun k _ h => h, fun k h _ => h, hb, by omega⟩⟩
      clear HI
      go_wp2
      go_loopw [14, 15] (fun i _ wr => ∃ k : Nat, k ≤ ops.length ∧ i = .int .i64 k ∧ Hid (∃ l pT pR qT qR rows rows' E K E' K', Tw w wr (w.heap.size + 1) l 0 5 k pT pR qT qR rows rows' E K E' K')) (fun i _ _ => ops.length - (intOf i).toNat)
      case atStart => exact ⟨0, Nat.zero_le _, rfl, HW.out⟩
      case round =>
        obtain ⟨k, hk, rfl, HI⟩ := hrel
        clear HW
        obtain ⟨l, pT, pR, qT, qR, rows, rows', E, K, E', K', t0⟩ := HI.out
        clear HI
        by_cases hlt : k < ops.length
        · obtain ⟨x, hx⟩ : ∃ x, ops[k]? = some x := ⟨ops[k], List.getElem?_eq_getElem hlt⟩
          obtain ⟨b, off, rfl, hbl, hxo, hop⟩ := HL.out.loads hx
          have HOP : Hid (∀ u : World, u.heap[b]? = w.heap[b]? → u.cell? ⟨b, off + k * 29, none⟩ = some (.int .i64 x.on) ∧ u.cell? ⟨b, off + k * 29 + 1, none⟩ = some (.int .i64 x.k) ∧ (loadVar 42 ⟨b, off + k * 29, none⟩).run Try.prog u = .ok (.agg (opL x.on x.k x.nn x.mm (x.M : Int) x.r).toArray) u) := hop
          have HBL : Hid (b < w.heap.size) := hbl
          have HXO := Lib.hid hxo
          have hlt' : (k : Int) < (ops.length : Int) := by omega
          have hk0 : (0 : Int) ≤ (k : Int) := by omega
          have lon := run_loadInt (HOP.out wr (t0.bel.block b hbl)).1
          have lki := run_loadInt (HOP.out wr (t0.bel.block b hbl)).2.1
          clear hx hop hbl hxo
          by_cases hpar : Int.tmod x.on 2 = 0
          · have hod : ((Int.tmod x.on 2 : Int) != 0) = false := by simpa using hpar
            have HT := Lib.hid t0
            clear t0
            by_cases h11 : x.k = 11
            · have hk11 : ((x.k : Int) == 11) = true := by simpa using h11
              clear h11
              obtain ⟨n0, gn0, hpa0⟩ := HT.out.a.pa
              obtain ⟨fl, hct0, hcr0⟩ := pa_clone hpa0 (by have := HT.out.a.len; omega)
              have HCT := Lib.hid hct0
              have HCR := Lib.hid hcr0
              obtain ⟨kv', f', t', i0, i1, i2, i3, i4⟩ := HT.out.b.is
              have HIS := Lib.hid (And.intro i0 (And.intro i1 (And.intro i2 (And.intro i3 i4))))
              have hl10 : 5 + 5 ≤ l.length := by have := (List.getElem?_eq_some_iff.1 i4).1; omega
              have hB0 : Below wr.heap.size wr wr.drew := (Below.refl _ _).drew
              have HSC : Hid (∀ u, Below wr.heap.size wr u → (loadVar 24 ⟨w.heap.size + 1, 0, none⟩).run Try.prog u = .ok pT u ∧ (loadVar 25 ⟨w.heap.size + 1, 1, none⟩).run Try.prog u = .ok pR u) := fun u hu => ⟨run_loadRel (HT.out.keep hu).a.cT, run_loadRef (HT.out.keep hu).a.cR⟩
              have HSF : Hid (∀ (w2 w3 : World) (qo qr : Option Addr), Ct w2 wr.heap.size fl (.pointer qo) rows n0 → Below wr.heap.size wr w2 → Cr w3 w2.heap.size fl (.pointer qr) rows n0 → Below w2.heap.size w2 w3 → ∃ l2 E2, Tw w (((((w3.setCell ⟨w.heap.size + 1, 5, none⟩ (.pointer qo)).setCell ⟨w.heap.size + 1, 6, none⟩ (.pointer qr)).setCell ⟨w.heap.size + 1, 7, none⟩ .nilFunc).setCell ⟨w.heap.size + 1, 8, none⟩ (.int .i64 0)).setCell ⟨w.heap.size + 1, 9, none⟩ (.int .i64 0)) (w.heap.size + 1) l2 0 5 k pT pR (.pointer qo) (.pointer qr) rows rows E K E2 (fun _ => False)) := fun w2 w3 qo qr h1 h2 h3 h4 => let ⟨l2, E2, h5, _⟩ := tw_clone HT.out (by omega) hl10 h1 h2 h3 h4; ⟨l2, E2, h5⟩
              clear hpa0 hct0 hcr0 i0 i1 i2 i3 i4
              have hw1 : IntKind.i64.wrap 1 = 1 := by decide
              have hw0 : IntKind.i64.wrap 0 = 0 := by decide
              go_upto_region 18 with fail
              clear hk11 lki lon
              go_region_held3 (fun u => (loadVar 24 ⟨w.heap.size + 1, 0, none⟩).run Try.prog u = .ok pT u ∧ (loadVar 25 ⟨w.heap.size + 1, 1, none⟩).run Try.prog u = .ok pR u)
                (with_reducible first | assumption | exact HSC.out _ hB0 | exact HSC.out _ b2' | exact HSC.out _ b3' | exact HSS.out)
                (first
                  | (go_at_call 6; refine (HCT.out _ hB0).mono ?_; rintro ee w2 ⟨qT9, rfl, hct, b2⟩; have b2' : Below wr.heap.size wr w2 := hB0.trans (b2.mono hB0.size); obtain ⟨qo, rfl⟩ := hct.form; have HC1 := Lib.hid hct; clear hct b2)
                  | (go_at_call 7; refine (HCR.out _ b2').mono ?_; rintro ee w3 ⟨qR9, rfl, hcr, b3⟩; have b3' : Below wr.heap.size wr w3 := b2'.trans (b3.mono b2'.size); obtain ⟨qr, rfl⟩ := hcr.form; have r3 := (HT.out.keep b3').b.rlL; obtain ⟨i0, i1, i2, i3, i4⟩ := HIS.out; have c0 := r3.at i0; have f0 := r3.frozenP 5; have c1 := r3.at i1; have f1 := r3.frozenP 6; have c2 := r3.at i2; have f2 := r3.frozenP 7; have c3 := r3.at i3; have f3 := r3.frozenP 8; have c4 := r3.at i4; have f4 := r3.frozenP 9; obtain ⟨l3, E3, t3⟩ := HSF.out _ _ _ _ HC1.out b2' hcr b3; have HT3 := Lib.hid t3; have HEQ := Lib.hid (And.intro (fun u => HC1.out.eql u) (fun u => hcr.eql u)); have HSS : Hid ((loadVar 24 ⟨w.heap.size + 1, 0, none⟩).run Try.prog (((((w3.setCell ⟨w.heap.size + 1, 5, none⟩ (.pointer qo)).setCell ⟨w.heap.size + 1, 6, none⟩ (.pointer qr)).setCell ⟨w.heap.size + 1, 7, none⟩ .nilFunc).setCell ⟨w.heap.size + 1, 8, none⟩ (.int .i64 0)).setCell ⟨w.heap.size + 1, 9, none⟩ (.int .i64 0)) = .ok pT (((((w3.setCell ⟨w.heap.size + 1, 5, none⟩ (.pointer qo)).setCell ⟨w.heap.size + 1, 6, none⟩ (.pointer qr)).setCell ⟨w.heap.size + 1, 7, none⟩ .nilFunc).setCell ⟨w.heap.size + 1, 8, none⟩ (.int .i64 0)).setCell ⟨w.heap.size + 1, 9, none⟩ (.int .i64 0)) ∧ (loadVar 25 ⟨w.heap.size + 1, 1, none⟩).run Try.prog (((((w3.setCell ⟨w.heap.size + 1, 5, none⟩ (.pointer qo)).setCell ⟨w.heap.size + 1, 6, none⟩ (.pointer qr)).setCell ⟨w.heap.size + 1, 7, none⟩ .nilFunc).setCell ⟨w.heap.size + 1, 8, none⟩ (.int .i64 0)).setCell ⟨w.heap.size + 1, 9, none⟩ (.int .i64 0)) = .ok pR (((((w3.setCell ⟨w.heap.size + 1, 5, none⟩ (.pointer qo)).setCell ⟨w.heap.size + 1, 6, none⟩ (.pointer qr)).setCell ⟨w.heap.size + 1, 7, none⟩ .nilFunc).setCell ⟨w.heap.size + 1, 8, none⟩ (.int .i64 0)).setCell ⟨w.heap.size + 1, 9, none⟩ (.int .i64 0))) := ⟨run_loadRel t3.a.cT, run_loadRef t3.a.cR⟩; clear t3 hcr b3 r3 i0 i1 i2 i3 i4)
                  | fail)
              simp only [Exit.then]
              go_at_K
              have heT := HEQ.out.1
              have heR := HEQ.out.2
              have hneF := neq_bb fl
              clear HCT HCR HIS HSC HSF HC1 b2' b3' HSS hB0 HEQ hl10
              (try clear c0 c1 c2 c3 c4 f0 f1 f2 f3 f4)
              generalize (((((w3.setCell ⟨w.heap.size + 1, 5, none⟩ (.pointer qo)).setCell ⟨w.heap.size + 1, 6, none⟩ (.pointer qr)).setCell ⟨w.heap.size + 1, 7, none⟩ .nilFunc).setCell ⟨w.heap.size + 1, 8, none⟩ (.int .i64 0)).setCell ⟨w.heap.size + 1, 9, none⟩ (.int .i64 0)) = V at HT3 ⊢
              have lq := fun m => run_loadRel (HT3.out.keep (below_drewN (Below.refl V.heap.size V) m)).b.cT
              have lr := fun m => run_loadRef (HT3.out.keep (below_drewN (Below.refl V.heap.size V) m)).b.cR
              have HKV : Hid (∀ m, Tw w (V.drewN m) (w.heap.size + 1) l3 0 5 k pT pR (.pointer qo) (.pointer qr) rows rows E K E3 (fun _ => False)) := fun m => HT3.out.keep (below_drewN (Below.refl V.heap.size V) m)
              clear HT3
              go_upto_region 19 with fail
              go_quiet (fail)
              have HTV := Lib.hid (HKV.out nq)
              clear lq lr HKV heT heR hneF
              generalize V.drewN nq = V2 at HTV ⊢
              have HS : Hid (∀ (u : World) (l' : List Value) (N' : Nat) (rs rs' : List (List Int)) (E2 K2 E2' K2' : Nat → Prop), Tw w u (w.heap.size + 1) l' 0 5 N' pT pR (.pointer qo) (.pointer qr) rs rs' E2 K2 E2' K2' → (loadVar 24 ⟨w.heap.size + 1, 0, none⟩).run Try.prog u = .ok pT u ∧ (loadVar 25 ⟨w.heap.size + 1, 1, none⟩).run Try.prog u = .ok pR u ∧ (loadVar 24 ⟨w.heap.size + 1, 5, none⟩).run Try.prog u = .ok (.pointer qo) u ∧ (loadVar 25 ⟨w.heap.size + 1, 6, none⟩).run Try.prog u = .ok (.pointer qr) u ∧ (loadVar 42 ⟨b, off + k * 29, none⟩).run Try.prog u = .ok (.agg (opL x.on x.k x.nn x.mm (x.M : Int) x.r).toArray) u) := fun u l' N' rs rs' E2 K2 E2' K2' t => ⟨run_loadRel t.a.cT, run_loadRef t.a.cR, run_loadRel t.b.cT, run_loadRef t.b.cR, (HOP.out u (t.bel.block b HBL.out)).2.2⟩
              have hd0 : Below V2.heap.size V2 V2.drew := (Below.refl _ _).drew
              have HTD := Lib.hid (HTV.out.keep hd0)
              clear hd0
              go_upto_region 21 with fail
              go_region_held3 (fun u => (loadVar 24 ⟨w.heap.size + 1, 0, none⟩).run Try.prog u = .ok pT u ∧ (loadVar 25 ⟨w.heap.size + 1, 1, none⟩).run Try.prog u = .ok pR u ∧ (loadVar 24 ⟨w.heap.size + 1, 5, none⟩).run Try.prog u = .ok (.pointer qo) u ∧ (loadVar 25 ⟨w.heap.size + 1, 6, none⟩).run Try.prog u = .ok (.pointer qr) u ∧ (loadVar 42 ⟨b, off + k * 29, none⟩).run Try.prog u = .ok (.agg (opL x.on x.k x.nn x.mm (x.M : Int) x.r).toArray) u)
                (with_reducible first | assumption | exact HS.out _ _ _ _ _ _ _ _ _ HTD.out | exact HS.out _ _ _ _ _ _ _ _ _ HT2.out)
                (first
                  | (go_at_call 8; refine (tw_does HTD.out (by omega) (by omega) x.on x.k x.nn x.mm x.M HXO.out.msk x.r HXO.out.row).mono ?_; rintro ee w2 ⟨rfl, l2, rows2, E2, K2, t2⟩; have HT2 := Lib.hid t2; obtain ⟨nA, gA, paA⟩ := t2.a.pa; obtain ⟨nB, gB, paB⟩ := t2.b.pa; have HPA := Lib.hid paA; have HPB := Lib.hid paB; clear t2 paA paB)
                  | (go_at_call 9; with_reducible refine (pa_len HPA.out).mono ?_; rintro ee w3 ⟨rfl, rfl⟩)
                  | (go_at_call 9; with_reducible refine (pa_len HPB.out).mono ?_; rintro ee w3 ⟨rfl, rfl⟩)
                  | (go_at_call 10; with_reducible refine (pa_rlen HPA.out).mono ?_; rintro ee w3 ⟨rfl, rfl⟩)
                  | (go_at_call 10; with_reducible refine (pa_rlen HPB.out).mono ?_; rintro ee w3 ⟨rfl, rfl⟩)
                  | fail)
              all_goals
                have HN : Hid (∃ l pT pR qT qR rows rows' E K E' K', Tw w _ (w.heap.size + 1) l 0 5 (k + 1) pT pR qT qR rows rows' E K E' K') := ⟨_, _, _, _, _, _, _, _, _, _, _, HT2.out⟩
                clear HS HTD HT2 HPA HPB
                go_wp2
                go_roundw
                case rel =>
                  (repeat apply Exists.intro)
                  refine ⟨?rel2, rfl⟩
                  case rel2 => exact ⟨k + 1, by omega, by go_num, HN⟩
                case measure => simp [intOf]; omega
            · have hk11 : ((x.k : Int) == 11) = false := by simpa using h11
              have HS : Hid (∀ (u : World) (l' : List Value) (N' : Nat) (rs rs' : List (List Int)) (E2 K2 E2' K2' : Nat → Prop), Tw w u (w.heap.size + 1) l' 0 5 N' pT pR qT qR rs rs' E2 K2 E2' K2' → (loadVar 24 ⟨w.heap.size + 1, 0, none⟩).run Try.prog u = .ok pT u ∧ (loadVar 25 ⟨w.heap.size + 1, 1, none⟩).run Try.prog u = .ok pR u ∧ (loadVar 24 ⟨w.heap.size + 1, 5, none⟩).run Try.prog u = .ok qT u ∧ (loadVar 25 ⟨w.heap.size + 1, 6, none⟩).run Try.prog u = .ok qR u ∧ (loadVar 42 ⟨b, off + k * 29, none⟩).run Try.prog u = .ok (.agg (opL x.on x.k x.nn x.mm (x.M : Int) x.r).toArray) u) := fun u l' N' rs rs' E2 K2 E2' K2' t => ⟨run_loadRel t.a.cT, run_loadRef t.a.cR, run_loadRel t.b.cT, run_loadRef t.b.cR, (HOP.out u (t.bel.block b HBL.out)).2.2⟩
              have hd0 : Below wr.heap.size wr wr.drew := (Below.refl _ _).drew
              have HTD := Lib.hid (HT.out.keep hd0)
              clear hd0
              go_upto_region 21 with fail
              go_region_held3 (fun u => (loadVar 24 ⟨w.heap.size + 1, 0, none⟩).run Try.prog u = .ok pT u ∧ (loadVar 25 ⟨w.heap.size + 1, 1, none⟩).run Try.prog u = .ok pR u ∧ (loadVar 24 ⟨w.heap.size + 1, 5, none⟩).run Try.prog u = .ok qT u ∧ (loadVar 25 ⟨w.heap.size + 1, 6, none⟩).run Try.prog u = .ok qR u ∧ (loadVar 42 ⟨b, off + k * 29, none⟩).run Try.prog u = .ok (.agg (opL x.on x.k x.nn x.mm (x.M : Int) x.r).toArray) u)
                (with_reducible first | assumption | exact HS.out _ _ _ _ _ _ _ _ _ HTD.out | exact HS.out _ _ _ _ _ _ _ _ _ HT2.out)
                (first
                  | (go_at_call 8; refine (tw_does HTD.out (by omega) (by omega) x.on x.k x.nn x.mm x.M HXO.out.msk x.r HXO.out.row).mono ?_; rintro ee w2 ⟨rfl, l2, rows2, E2, K2, t2⟩; have HT2 := Lib.hid t2; obtain ⟨nA, gA, paA⟩ := t2.a.pa; obtain ⟨nB, gB, paB⟩ := t2.b.pa; have HPA := Lib.hid paA; have HPB := Lib.hid paB; clear t2 paA paB)
                  | (go_at_call 9; with_reducible refine (pa_len HPA.out).mono ?_; rintro ee w3 ⟨rfl, rfl⟩)
                  | (go_at_call 9; with_reducible refine (pa_len HPB.out).mono ?_; rintro ee w3 ⟨rfl, rfl⟩)
                  | (go_at_call 10; with_reducible refine (pa_rlen HPA.out).mono ?_; rintro ee w3 ⟨rfl, rfl⟩)
                  | (go_at_call 10; with_reducible refine (pa_rlen HPB.out).mono ?_; rintro ee w3 ⟨rfl, rfl⟩)
                  | fail)
              all_goals
                have HN : Hid (∃ l pT pR qT qR rows rows' E K E' K', Tw w _ (w.heap.size + 1) l 0 5 (k + 1) pT pR qT qR rows rows' E K E' K') := ⟨_, _, _, _, _, _, _, _, _, _, _, HT2.out⟩
                clear HS HTD HT2 HPA HPB
                go_wp2
                go_roundw
                case rel =>
                  (repeat apply Exists.intro)
                  refine ⟨?rel2, rfl⟩
                  case rel2 => exact ⟨k + 1, by omega, by go_num, HN⟩
                case measure => simp [intOf]; omega
          · have hod : ((Int.tmod x.on 2 : Int) != 0) = true := by simpa using hpar
            have HT := Lib.hid t0.swap
            clear t0
            by_cases h11 : x.k = 11
            · have hk11 : ((x.k : Int) == 11) = true := by simpa using h11
              clear h11
              obtain ⟨n0, gn0, hpa0⟩ := HT.out.a.pa
              obtain ⟨fl, hct0, hcr0⟩ := pa_clone hpa0 (by have := HT.out.a.len; omega)
              have HCT := Lib.hid hct0
              have HCR := Lib.hid hcr0
              obtain ⟨kv', f', t', i0, i1, i2, i3, i4⟩ := HT.out.b.is
              have HIS := Lib.hid (And.intro i0 (And.intro i1 (And.intro i2 (And.intro i3 i4))))
              have hl10 : 0 + 5 ≤ l.length := by have := (List.getElem?_eq_some_iff.1 i4).1; omega
              have hB0 : Below wr.heap.size wr wr.drew := (Below.refl _ _).drew
              have HSC : Hid (∀ u, Below wr.heap.size wr u → (loadVar 24 ⟨w.heap.size + 1, 5, none⟩).run Try.prog u = .ok qT u ∧ (loadVar 25 ⟨w.heap.size + 1, 6, none⟩).run Try.prog u = .ok qR u) := fun u hu => ⟨run_loadRel (HT.out.keep hu).a.cT, run_loadRef (HT.out.keep hu).a.cR⟩
              have HSF : Hid (∀ (w2 w3 : World) (qo qr : Option Addr), Ct w2 wr.heap.size fl (.pointer qo) rows' n0 → Below wr.heap.size wr w2 → Cr w3 w2.heap.size fl (.pointer qr) rows' n0 → Below w2.heap.size w2 w3 → ∃ l2 E2, Tw w (((((w3.setCell ⟨w.heap.size + 1, 0, none⟩ (.pointer qo)).setCell ⟨w.heap.size + 1, 1, none⟩ (.pointer qr)).setCell ⟨w.heap.size + 1, 2, none⟩ .nilFunc).setCell ⟨w.heap.size + 1, 3, none⟩ (.int .i64 0)).setCell ⟨w.heap.size + 1, 4, none⟩ (.int .i64 0)) (w.heap.size + 1) l2 5 0 k qT qR (.pointer qo) (.pointer qr) rows' rows' E' K' E2 (fun _ => False)) := fun w2 w3 qo qr h1 h2 h3 h4 => let ⟨l2, E2, h5, _⟩ := tw_clone HT.out (by omega) hl10 h1 h2 h3 h4; ⟨l2, E2, h5⟩
              clear hpa0 hct0 hcr0 i0 i1 i2 i3 i4
              have hw1 : IntKind.i64.wrap 1 = 1 := by decide
              have hw0 : IntKind.i64.wrap 0 = 0 := by decide
              go_upto_region 18 with fail
              clear hk11 lki lon
              go_region_held3 (fun u => (loadVar 24 ⟨w.heap.size + 1, 5, none⟩).run Try.prog u = .ok qT u ∧ (loadVar 25 ⟨w.heap.size + 1, 6, none⟩).run Try.prog u = .ok qR u)
                (with_reducible first | assumption | exact HSC.out _ hB0 | exact HSC.out _ b2' | exact HSC.out _ b3' | exact HSS.out)
                (first
                  | (go_at_call 6; refine (HCT.out _ hB0).mono ?_; rintro ee w2 ⟨qT9, rfl, hct, b2⟩; have b2' : Below wr.heap.size wr w2 := hB0.trans (b2.mono hB0.size); obtain ⟨qo, rfl⟩ := hct.form; have HC1 := Lib.hid hct; clear hct b2)
                  | (go_at_call 7; refine (HCR.out _ b2').mono ?_; rintro ee w3 ⟨qR9, rfl, hcr, b3⟩; have b3' : Below wr.heap.size wr w3 := b2'.trans (b3.mono b2'.size); obtain ⟨qr, rfl⟩ := hcr.form; have r3 := (HT.out.keep b3').b.rlL; obtain ⟨i0, i1, i2, i3, i4⟩ := HIS.out; have c0 := r3.at i0; have f0 := r3.frozenP 0; have c1 := r3.at i1; have f1 := r3.frozenP 1; have c2 := r3.at i2; have f2 := r3.frozenP 2; have c3 := r3.at i3; have f3 := r3.frozenP 3; have c4 := r3.at i4; have f4 := r3.frozenP 4; obtain ⟨l3, E3, t3⟩ := HSF.out _ _ _ _ HC1.out b2' hcr b3; have HT3 := Lib.hid t3; have HEQ := Lib.hid (And.intro (fun u => HC1.out.eql u) (fun u => hcr.eql u)); have HSS : Hid ((loadVar 24 ⟨w.heap.size + 1, 5, none⟩).run Try.prog (((((w3.setCell ⟨w.heap.size + 1, 0, none⟩ (.pointer qo)).setCell ⟨w.heap.size + 1, 1, none⟩ (.pointer qr)).setCell ⟨w.heap.size + 1, 2, none⟩ .nilFunc).setCell ⟨w.heap.size + 1, 3, none⟩ (.int .i64 0)).setCell ⟨w.heap.size + 1, 4, none⟩ (.int .i64 0)) = .ok qT (((((w3.setCell ⟨w.heap.size + 1, 0, none⟩ (.pointer qo)).setCell ⟨w.heap.size + 1, 1, none⟩ (.pointer qr)).setCell ⟨w.heap.size + 1, 2, none⟩ .nilFunc).setCell ⟨w.heap.size + 1, 3, none⟩ (.int .i64 0)).setCell ⟨w.heap.size + 1, 4, none⟩ (.int .i64 0)) ∧ (loadVar 25 ⟨w.heap.size + 1, 6, none⟩).run Try.prog (((((w3.setCell ⟨w.heap.size + 1, 0, none⟩ (.pointer qo)).setCell ⟨w.heap.size + 1, 1, none⟩ (.pointer qr)).setCell ⟨w.heap.size + 1, 2, none⟩ .nilFunc).setCell ⟨w.heap.size + 1, 3, none⟩ (.int .i64 0)).setCell ⟨w.heap.size + 1, 4, none⟩ (.int .i64 0)) = .ok qR (((((w3.setCell ⟨w.heap.size + 1, 0, none⟩ (.pointer qo)).setCell ⟨w.heap.size + 1, 1, none⟩ (.pointer qr)).setCell ⟨w.heap.size + 1, 2, none⟩ .nilFunc).setCell ⟨w.heap.size + 1, 3, none⟩ (.int .i64 0)).setCell ⟨w.heap.size + 1, 4, none⟩ (.int .i64 0))) := ⟨run_loadRel t3.a.cT, run_loadRef t3.a.cR⟩; clear t3 hcr b3 r3 i0 i1 i2 i3 i4)
                  | fail)
              simp only [Exit.then]
              go_at_K
              have heT := HEQ.out.1
              have heR := HEQ.out.2
              have hneF := neq_bb fl
              clear HCT HCR HIS HSC HSF HC1 b2' b3' HSS hB0 HEQ hl10
              (try clear c0 c1 c2 c3 c4 f0 f1 f2 f3 f4)
              generalize (((((w3.setCell ⟨w.heap.size + 1, 0, none⟩ (.pointer qo)).setCell ⟨w.heap.size + 1, 1, none⟩ (.pointer qr)).setCell ⟨w.heap.size + 1, 2, none⟩ .nilFunc).setCell ⟨w.heap.size + 1, 3, none⟩ (.int .i64 0)).setCell ⟨w.heap.size + 1, 4, none⟩ (.int .i64 0)) = V at HT3 ⊢
              have lq := fun m => run_loadRel (HT3.out.keep (below_drewN (Below.refl V.heap.size V) m)).b.cT
              have lr := fun m => run_loadRef (HT3.out.keep (below_drewN (Below.refl V.heap.size V) m)).b.cR
              have HKV : Hid (∀ m, Tw w (V.drewN m) (w.heap.size + 1) l3 5 0 k qT qR (.pointer qo) (.pointer qr) rows' rows' E' K' E3 (fun _ => False)) := fun m => HT3.out.keep (below_drewN (Below.refl V.heap.size V) m)
              clear HT3
              go_upto_region 19 with fail
              go_quiet (fail)
              have HTV := Lib.hid (HKV.out nq)
              clear lq lr HKV heT heR hneF
              generalize V.drewN nq = V2 at HTV ⊢
              have HS : Hid (∀ (u : World) (l' : List Value) (N' : Nat) (rs rs' : List (List Int)) (E2 K2 E2' K2' : Nat → Prop), Tw w u (w.heap.size + 1) l' 5 0 N' qT qR (.pointer qo) (.pointer qr) rs rs' E2 K2 E2' K2' → (loadVar 24 ⟨w.heap.size + 1, 0, none⟩).run Try.prog u = .ok (.pointer qo) u ∧ (loadVar 25 ⟨w.heap.size + 1, 1, none⟩).run Try.prog u = .ok (.pointer qr) u ∧ (loadVar 24 ⟨w.heap.size + 1, 5, none⟩).run Try.prog u = .ok qT u ∧ (loadVar 25 ⟨w.heap.size + 1, 6, none⟩).run Try.prog u = .ok qR u ∧ (loadVar 42 ⟨b, off + k * 29, none⟩).run Try.prog u = .ok (.agg (opL x.on x.k x.nn x.mm (x.M : Int) x.r).toArray) u) := fun u l' N' rs rs' E2 K2 E2' K2' t => ⟨run_loadRel t.b.cT, run_loadRef t.b.cR, run_loadRel t.a.cT, run_loadRef t.a.cR, (HOP.out u (t.bel.block b HBL.out)).2.2⟩
              have hd0 : Below V2.heap.size V2 V2.drew := (Below.refl _ _).drew
              have HTD := Lib.hid (HTV.out.keep hd0)
              clear hd0
              go_upto_region 21 with fail
              go_region_held3 (fun u => (loadVar 24 ⟨w.heap.size + 1, 0, none⟩).run Try.prog u = .ok (.pointer qo) u ∧ (loadVar 25 ⟨w.heap.size + 1, 1, none⟩).run Try.prog u = .ok (.pointer qr) u ∧ (loadVar 24 ⟨w.heap.size + 1, 5, none⟩).run Try.prog u = .ok qT u ∧ (loadVar 25 ⟨w.heap.size + 1, 6, none⟩).run Try.prog u = .ok qR u ∧ (loadVar 42 ⟨b, off + k * 29, none⟩).run Try.prog u = .ok (.agg (opL x.on x.k x.nn x.mm (x.M : Int) x.r).toArray) u)
                (with_reducible first | assumption | exact HS.out _ _ _ _ _ _ _ _ _ HTD.out | exact HS.out _ _ _ _ _ _ _ _ _ HT2.out)
                (first
                  | (go_at_call 8; refine (tw_does HTD.out (by omega) (by omega) x.on x.k x.nn x.mm x.M HXO.out.msk x.r HXO.out.row).mono ?_; rintro ee w2 ⟨rfl, l2, rows2, E2, K2, t2⟩; have HT2 := Lib.hid t2; obtain ⟨nA, gA, paA⟩ := t2.a.pa; obtain ⟨nB, gB, paB⟩ := t2.b.pa; have HPA := Lib.hid paA; have HPB := Lib.hid paB; clear t2 paA paB)
                  | (go_at_call 9; with_reducible refine (pa_len HPA.out).mono ?_; rintro ee w3 ⟨rfl, rfl⟩)
                  | (go_at_call 9; with_reducible refine (pa_len HPB.out).mono ?_; rintro ee w3 ⟨rfl, rfl⟩)
                  | (go_at_call 10; with_reducible refine (pa_rlen HPA.out).mono ?_; rintro ee w3 ⟨rfl, rfl⟩)
                  | (go_at_call 10; with_reducible refine (pa_rlen HPB.out).mono ?_; rintro ee w3 ⟨rfl, rfl⟩)
                  | fail)
              all_goals
                have HN : Hid (∃ l qT qR pT pR rows' rows E' K' E K, Tw w _ (w.heap.size + 1) l 0 5 (k + 1) qT qR pT pR rows' rows E' K' E K) := ⟨_, _, _, _, _, _, _, _, _, _, _, HT2.out.swap⟩
                clear HS HTD HT2 HPA HPB
                go_wp2
                go_roundw
                case rel =>
                  (repeat apply Exists.intro)
                  refine ⟨?rel2, rfl⟩
                  case rel2 => exact ⟨k + 1, by omega, by go_num, HN⟩
                case measure => simp [intOf]; omega
            · have hk11 : ((x.k : Int) == 11) = false := by simpa using h11
              have HS : Hid (∀ (u : World) (l' : List Value) (N' : Nat) (rs rs' : List (List Int)) (E2 K2 E2' K2' : Nat → Prop), Tw w u (w.heap.size + 1) l' 5 0 N' qT qR pT pR rs rs' E2 K2 E2' K2' → (loadVar 24 ⟨w.heap.size + 1, 0, none⟩).run Try.prog u = .ok pT u ∧ (loadVar 25 ⟨w.heap.size + 1, 1, none⟩).run Try.prog u = .ok pR u ∧ (loadVar 24 ⟨w.heap.size + 1, 5, none⟩).run Try.prog u = .ok qT u ∧ (loadVar 25 ⟨w.heap.size + 1, 6, none⟩).run Try.prog u = .ok qR u ∧ (loadVar 42 ⟨b, off + k * 29, none⟩).run Try.prog u = .ok (.agg (opL x.on x.k x.nn x.mm (x.M : Int) x.r).toArray) u) := fun u l' N' rs rs' E2 K2 E2' K2' t => ⟨run_loadRel t.b.cT, run_loadRef t.b.cR, run_loadRel t.a.cT, run_loadRef t.a.cR, (HOP.out u (t.bel.block b HBL.out)).2.2⟩
              have hd0 : Below wr.heap.size wr wr.drew := (Below.refl _ _).drew
              have HTD := Lib.hid (HT.out.keep hd0)
              clear hd0
              go_upto_region 21 with fail
              go_region_held3 (fun u => (loadVar 24 ⟨w.heap.size + 1, 0, none⟩).run Try.prog u = .ok pT u ∧ (loadVar 25 ⟨w.heap.size + 1, 1, none⟩).run Try.prog u = .ok pR u ∧ (loadVar 24 ⟨w.heap.size + 1, 5, none⟩).run Try.prog u = .ok qT u ∧ (loadVar 25 ⟨w.heap.size + 1, 6, none⟩).run Try.prog u = .ok qR u ∧ (loadVar 42 ⟨b, off + k * 29, none⟩).run Try.prog u = .ok (.agg (opL x.on x.k x.nn x.mm (x.M : Int) x.r).toArray) u)
                (with_reducible first | assumption | exact HS.out _ _ _ _ _ _ _ _ _ HTD.out | exact HS.out _ _ _ _ _ _ _ _ _ HT2.out)
                (first
                  | (go_at_call 8; refine (tw_does HTD.out (by omega) (by omega) x.on x.k x.nn x.mm x.M HXO.out.msk x.r HXO.out.row).mono ?_; rintro ee w2 ⟨rfl, l2, rows2, E2, K2, t2⟩; have HT2 := Lib.hid t2; obtain ⟨nA, gA, paA⟩ := t2.a.pa; obtain ⟨nB, gB, paB⟩ := t2.b.pa; have HPA := Lib.hid paA; have HPB := Lib.hid paB; clear t2 paA paB)
                  | (go_at_call 9; with_reducible refine (pa_len HPA.out).mono ?_; rintro ee w3 ⟨rfl, rfl⟩)
                  | (go_at_call 9; with_reducible refine (pa_len HPB.out).mono ?_; rintro ee w3 ⟨rfl, rfl⟩)
                  | (go_at_call 10; with_reducible refine (pa_rlen HPA.out).mono ?_; rintro ee w3 ⟨rfl, rfl⟩)
                  | (go_at_call 10; with_reducible refine (pa_rlen HPB.out).mono ?_; rintro ee w3 ⟨rfl, rfl⟩)
                  | fail)
              all_goals
                have HN : Hid (∃ l qT qR pT pR rows' rows E' K' E K, Tw w _ (w.heap.size + 1) l 0 5 (k + 1) qT qR pT pR rows' rows E' K' E K) := ⟨_, _, _, _, _, _, _, _, _, _, _, HT2.out.swap⟩
                clear HS HTD HT2 HPA HPB
                go_wp2
                go_roundw
                case rel =>
                  (repeat apply Exists.intro)
                  refine ⟨?rel2, rfl⟩
                  case rel2 => exact ⟨k + 1, by omega, by go_num, HN⟩
                case measure => simp [intOf]; omega
        · obtain rfl : k = ops.length := by omega
          obtain ⟨nA, gA, x1⟩ := t0.a.bx
          obtain ⟨nB, gB, x2⟩ := t0.b.bx
          have HA := Lib.hid (whole_x x1 (by have := t0.a.len; omega))
          have HX2 := Lib.hid x2
          have HLB : Hid (rows'.length ≤ 100000000) := by show _ ≤ _; have := t0.b.len; omega
          have HBW := Lib.hid t0.bel
          clear t0 x1 x2
          go_wp2_with fail
          refine HA.out.mono ?_
          rintro e v1 ⟨rfl, d1⟩
          have HB := Lib.hid (whole_x (HX2.out.keep d1) HLB.out)
          have HB1 := Lib.hid (HBW.out.trans (d1.mono HBW.out.size))
          clear d1 HA HX2 HBW
          go_wp2_with fail
          refine HB.out.mono ?_
          rintro e v2 ⟨rfl, d2⟩
          have HB2 := Lib.hid (HB1.out.trans (d2.mono HB1.out.size))
          clear d2 HB HB1
          go_wp2_with fail
          refine (lives10_true _).mono ?_
          rintro e v3 ⟨rfl, d3⟩
          have HB3 := Lib.hid (HB2.out.trans (d3.mono HB2.out.size))
          clear d3 HB2
          go_wp2
          go_ret
          exact ⟨rfl, HB3.out⟩
end Go.Proofs.Ytlnhnpfgmiffpaa
