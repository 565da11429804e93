import Derived.Test.YthdcgikhcghigaaSpNw
import Derived.Test.YthdcgikhcghigaaSpOpn
namespace Go.Proofs.Ythdcgikhcghigaa
open Go.RowKit Go.Maps Go.Shelf
set_option linter.unusedVariables false
set_option linter.unusedSimpArgs false
attribute [local go_sem ↓] Go.wp_at_zero Go.wp_at_succ
attribute [local go_sem] run_store_nilFunc run_store_ptrP
attribute [-go_sem] loadVar
set_option maxHeartbeats 25600000 in
set_option maxRecDepth 100000 in
theorem plays_walk (one two : Int) (a : Option Addr) (c : Nat) (ops : List Od) (w : World) (h : LoC w (.slice a ops.length c) ops) (hn : ops.length ≤ 1048576) (hus : ∀ t ∈ ops, t.us.length ≤ 1048576) : Calls Try.prog 3 #[.int .i64 one, .int .i64 two, .slice a ops.length c] w fun e w' => e = .returned (.bool true) ∧ Below w.heap.size w w' := by
  have HL := Lib.hid h
  have HUS := Lib.hid hus
  have HA1 := belowA (w := w) (.cells #[.int .i64 one, .int .i64 two] 23)
  have HA2 := belowA (w := w.alloc (.cells #[.int .i64 one, .int .i64 two] 23)) (.cells #[.pointer none, .pointer none, .nilFunc, .pointer none, .pointer none, .nilFunc] 30)
  have HI0 : Hid (Ini w ((w.alloc (.cells #[.int .i64 one, .int .i64 two] 23)).alloc (.cells #[.pointer none, .pointer none, .nilFunc, .pointer none, .pointer none, .nilFunc] 30)) w.heap.size (w.heap.size + 1) one two 0) := by
    refine ⟨HA1.trans (HA2.mono HA1.size), (rl_new w #[.int .i64 one, .int .i64 two] 23).below HA2, .inl ⟨rfl, ?_⟩⟩
    have := rl_new (w.alloc (.cells #[.int .i64 one, .int .i64 two] 23)) #[.pointer none, .pointer none, .nilFunc, .pointer none, .pointer none, .nilFunc] 30
    simpa using this
  clear HA1 HA2 h hus
  go_enter Try.func3, Try.ntmps3
  go_upto_region 3 with fail
  generalize (w.alloc (.cells #[.int .i64 one, .int .i64 two] 23)).alloc (.cells #[.pointer none, .pointer none, .nilFunc, .pointer none, .pointer none, .nilFunc] 30) = W0 at HI0 ⊢
  go_wp2
  go_loopw [9, 10, 11, 12, 13] (fun i _ _ _ _ wr => ∃ k : Nat, k ≤ 2 ∧ i = .int .i64 k ∧ Hid (Ini w wr w.heap.size (w.heap.size + 1) one two k)) (fun i _ _ _ _ _ => 2 - (intOf i).toNat)
  case atStart => exact ⟨0, by omega, rfl, HI0.out⟩
  case round =>
    obtain ⟨k, hk, rfl, HI⟩ := hrel
    have hkc : k = 0 ∨ k = 1 ∨ k = 2 := by omega
    clear HI0
    rcases hkc with rfl | rfl | rfl
    · obtain ⟨fl, er, mo, kT, kR⟩ := pa_new one
      have HT := Lib.hid kT
      have HR := Lib.hid kR
      have hrl : RL wr (w.heap.size + 1) 30 [.pointer none, .pointer none, .nilFunc, .pointer none, .pointer none, .nilFunc] := by
        rcases HI.out.2.2 with ⟨_, h⟩ | ⟨e, _⟩ | ⟨e, _⟩
        · exact h
        · omega
        · omega
      have la := run_loadInt (HI.out.2.1.at (j := 0) rfl)
      have HRL := Lib.hid hrl
      clear kT kR hrl
      go_wp2_with fail
      refine (HT.out _).mono ?_
      rintro e w1 ⟨q, mb, rfl, hct, b1⟩
      have la1 := run_loadInt ((HI.out.2.1.below b1).at (j := 0) rfl)
      have heT := fun u => hct.eql u
      have HC1 := Lib.hid (And.intro hct b1)
      clear hct b1 la HT
      go_wp2_with fail
      refine (HR.out _).mono ?_
      rintro e w2 ⟨r, rfl, hcr, b2⟩
      have heR := fun u => hcr.eql u
      have hneF := neq_bb fl
      have rl2 := (HRL.out.below HC1.out.2).below b2
      have c0 := rl2.at (j := 0) rfl
      have f0 := rl2.frz 0
      have c1 := rl2.at (j := 1) rfl
      have f1 := rl2.frz 1
      have c2 := rl2.at (j := 2) rfl
      have f2 := rl2.frz 2
      have HS := Lib.hid (ini_step0 HI.out HC1.out.1 HC1.out.2 hcr b2)
      clear hcr b2 la1 HR HC1 HRL rl2
      go_wp2
      go_roundw
      case rel => exact ⟨1, by omega, by go_num, HS⟩
      case measure => simp [intOf]
    · obtain ⟨fl, er, mo, kT, kR⟩ := pa_new two
      have HT := Lib.hid kT
      have HR := Lib.hid kR
      obtain ⟨q0, r0, hrl⟩ : ∃ q0 r0, RL wr (w.heap.size + 1) 30 [.pointer q0, .pointer r0, .nilFunc, .pointer none, .pointer none, .nilFunc] := by
        rcases HI.out.2.2 with ⟨e, _⟩ | ⟨_, q0, r0, _, _, _, h, _⟩ | ⟨e, _⟩
        · omega
        · exact ⟨q0, r0, h⟩
        · omega
      have la := run_loadInt (HI.out.2.1.at (j := 1) rfl)
      have HRL := Lib.hid hrl
      clear kT kR hrl
      go_wp2_with fail
      refine (HT.out _).mono ?_
      rintro e w1 ⟨q, mb, rfl, hct, b1⟩
      have la1 := run_loadInt ((HI.out.2.1.below b1).at (j := 1) rfl)
      have heT := fun u => hct.eql u
      have HC1 := Lib.hid (And.intro hct b1)
      clear hct b1 la HT
      go_wp2_with fail
      refine (HR.out _).mono ?_
      rintro e w2 ⟨r, rfl, hcr, b2⟩
      have heR := fun u => hcr.eql u
      have hneF := neq_bb fl
      have rl2 := (HRL.out.below HC1.out.2).below b2
      have c0 := rl2.at (j := 3) rfl
      have f0 := rl2.frz 3
      have c1 := rl2.at (j := 4) rfl
      have f1 := rl2.frz 4
      have c2 := rl2.at (j := 5) rfl
      have f2 := rl2.frz 5
      have HS := Lib.hid (ini_step1 HI.out HC1.out.1 HC1.out.2 hcr b2)
      clear hcr b2 la1 HR HC1 HRL rl2
      go_wp2
      go_roundw
      case rel => exact ⟨2, by omega, by go_num, HS⟩
      case measure => simp [intOf]
    · have HW : Hid (∃ l pT pR qT qR vs vs2 E K E2 K2, Tw w wr (w.heap.size + 1) l 0 3 (49 * 0) pT pR qT qR vs vs2 E K E2 K2) := by
        obtain ⟨hb, hA, h0⟩ := HI.out
        obtain ⟨q, r, E, mo, mb, q', r', E', mo', mb', hrl, p1, m1, p2, m2, e1, e2⟩ : ∃ q r E mo mb q' r' E' mo' mb', RL wr (w.heap.size + 1) 30 [.pointer q, .pointer r, .nilFunc, .pointer q', .pointer r', .nilFunc] ∧ Pa wr (.pointer q) (.pointer r) mo mb [] [] E ∧ mb < wr.heap.size ∧ Pa wr (.pointer q') (.pointer r') mo' mb' [] [] E' ∧ mb' < wr.heap.size ∧ (∀ k, E k → w.heap.size ≤ k ∧ k ≠ w.heap.size + 1 ∧ ¬ E' k) ∧ ∀ k, E' k → w.heap.size ≤ k ∧ k ≠ w.heap.size + 1 := by
          rcases h0 with ⟨e, _⟩ | ⟨e, _⟩ | ⟨_, h⟩
          · omega
          · omega
          · exact h
        exact ⟨_, _, _, _, _, _, _, _, _, _, _, ⟨⟨.nilFunc, mo, mb, ⟨hrl, rfl, rfl, rfl, p1, .nil, fun _ _ h => h, ⟨fun e => (e1 _ e).2.1 rfl, fun e => e⟩, m1⟩, by simp, fun k hk => (e1 k hk).1, fun k hk => hk.elim⟩, ⟨.nilFunc, mo', mb', ⟨hrl, rfl, rfl, rfl, p2, .nil, fun _ _ h => h, ⟨fun e => (e2 _ e).2 rfl, fun e => e⟩, m2⟩, by simp, fun k hk => (e2 k hk).1, fun k hk => hk.elim⟩, fun k hk => (e1 k hk).2.2, fun k _ h => h, fun k h _ => h, hb, by omega⟩⟩
      clear HI
      go_wp2
      go_loopw [14, 15] (fun i _ wr => ∃ k : Nat, k ≤ ops.length ∧ i = .int .i64 k ∧ Hid (∃ l pT pR qT qR vs vs2 E K E2 K2, Tw w wr (w.heap.size + 1) l 0 3 (49 * k) pT pR qT qR vs vs2 E K E2 K2)) (fun i _ _ => ops.length - (intOf i).toNat)
      case atStart => exact ⟨0, Nat.zero_le _, rfl, HW.out⟩
      case round =>
        obtain ⟨k, hk, rfl, HI⟩ := hrel
        clear HW
        obtain ⟨l, pT, pR, qT, qR, vs, vs2, E, K, E2, K2, t0⟩ := HI.out
        clear HI
        by_cases hlt : k < ops.length
        · obtain ⟨x, hx⟩ : ∃ x, ops[k]? = some x := ⟨ops[k], List.getElem?_eq_getElem hlt⟩
          obtain ⟨b, off, rfl, hbl, hxo, hop⟩ := HL.out.loads hx
          have HOP : Hid (∀ u : World, u.heap[b]? = w.heap[b]? → u.cell? ⟨b, off + k * 32, none⟩ = some (.int .i64 x.on) ∧ (loadVar 45 ⟨b, off + k * 32, none⟩).run Try.prog u = .ok (.agg (opL x.on x.k x.nn x.mm x.v (.slice x.a x.us.length x.c) x.r).toArray) u) := hop
          have HBL : Hid (b < w.heap.size) := hbl
          have HXO := Lib.hid hxo
          have HXU : Hid (x.us.length ≤ 1048576) := HUS.out x (List.mem_of_getElem? hx)
          have hlt' : (k : Int) < (ops.length : Int) := by omega
          have hk0 : (0 : Int) ≤ (k : Int) := by omega
          have lon := run_loadInt (HOP.out wr (t0.bel.block b hbl)).1
          clear hx hop hbl hxo
          by_cases hpar : Int.tmod x.on 2 = 0
          · have hod : ((Int.tmod x.on 2 : Int) != 0) = false := by simpa using hpar
            have HT := Lib.hid t0
            clear t0
            have HS : Hid (∀ (u : World) (l' : List Value) (N' : Nat) (rs rs' : List V) (E3 K3 E4 K4 : Nat → Prop), Tw w u (w.heap.size + 1) l' 0 3 N' pT pR qT qR rs rs' E3 K3 E4 K4 → (loadVar 24 ⟨w.heap.size + 1, 0, none⟩).run Try.prog u = .ok pT u ∧ (loadVar 25 ⟨w.heap.size + 1, 1, none⟩).run Try.prog u = .ok pR u ∧ (loadVar 24 ⟨w.heap.size + 1, 3, none⟩).run Try.prog u = .ok qT u ∧ (loadVar 25 ⟨w.heap.size + 1, 4, none⟩).run Try.prog u = .ok qR u ∧ (loadVar 45 ⟨b, off + k * 32, none⟩).run Try.prog u = .ok (.agg (opL x.on x.k x.nn x.mm x.v (.slice x.a x.us.length x.c) x.r).toArray) u) := fun u l' N' rs rs' E3 K3 E4 K4 t => ⟨run_loadTab t.a.bx.cT, run_loadRef t.a.bx.cR, run_loadTab t.b.bx.cT, run_loadRef t.b.bx.cR, (HOP.out u (t.bel.block b HBL.out)).2⟩
            have hd0 : Below wr.heap.size wr wr.drew := (Below.refl _ _).drew
            have HTD := Lib.hid (HT.out.keep hd0)
            clear hd0
            go_upto_region 17 with fail
            clear lon
            go_region_held3 (fun u => (loadVar 24 ⟨w.heap.size + 1, 0, none⟩).run Try.prog u = .ok pT u ∧ (loadVar 25 ⟨w.heap.size + 1, 1, none⟩).run Try.prog u = .ok pR u ∧ (loadVar 24 ⟨w.heap.size + 1, 3, none⟩).run Try.prog u = .ok qT u ∧ (loadVar 25 ⟨w.heap.size + 1, 4, none⟩).run Try.prog u = .ok qR u ∧ (loadVar 45 ⟨b, off + k * 32, none⟩).run Try.prog u = .ok (.agg (opL x.on x.k x.nn x.mm x.v (.slice x.a x.us.length x.c) x.r).toArray) u)
              (with_reducible first | assumption | exact HS.out _ _ _ _ _ _ _ _ _ HTD.out | exact HS.out _ _ _ _ _ _ _ _ _ HT2.out)
              (first
                | (go_at_call 6; refine (tw_does HTD.out (by omega) (by omega) x.on x.k x.nn x.mm x.v HXO.out.vw x.a x.c x.us x.r HXO.out.row HXO.out.lv HXU.out).mono ?_; rintro ee w2 ⟨rfl, l2, vs3, E3, K3, t2⟩; have HT2 := Lib.hid t2; obtain ⟨moA, mbA, paA⟩ := t2.a.pa; obtain ⟨moB, mbB, paB⟩ := t2.b.pa; have HPA := Lib.hid paA; have HPB := Lib.hid paB; clear t2 paA paB)
                | (go_at_call 7; with_reducible refine (pa_len HPA.out).mono ?_; rintro ee w3 ⟨rfl, rfl⟩)
                | (go_at_call 7; with_reducible refine (pa_len HPB.out).mono ?_; rintro ee w3 ⟨rfl, rfl⟩)
                | (go_at_call 8; with_reducible refine (pa_rlen HPA.out).mono ?_; rintro ee w3 ⟨rfl, rfl⟩)
                | (go_at_call 8; with_reducible refine (pa_rlen HPB.out).mono ?_; rintro ee w3 ⟨rfl, rfl⟩)
                | fail)
            all_goals
              have HN : Hid (∃ l pT pR qT qR vs vs2 E K E2 K2, Tw w _ (w.heap.size + 1) l 0 3 (49 * k + 49) pT pR qT qR vs vs2 E K E2 K2) := ⟨_, _, _, _, _, _, _, _, _, _, _, HT2.out⟩
              have e49 : 49 * k + 49 = 49 * (k + 1) := by omega
              rw [e49] at HN
              clear e49
              clear HS HTD HT2 HPA HPB
              go_wp2
              go_roundw
              case rel =>
                (repeat apply Exists.intro)
                refine ⟨?rel2, rfl⟩
                case rel2 => exact ⟨k + 1, by omega, by go_num, HN⟩
              case measure => simp [intOf]; omega
          · have hod : ((Int.tmod x.on 2 : Int) != 0) = true := by simpa using hpar
            have HT := Lib.hid t0.swap
            clear t0
            have HS : Hid (∀ (u : World) (l' : List Value) (N' : Nat) (rs rs' : List V) (E3 K3 E4 K4 : Nat → Prop), Tw w u (w.heap.size + 1) l' 3 0 N' qT qR pT pR rs rs' E3 K3 E4 K4 → (loadVar 24 ⟨w.heap.size + 1, 0, none⟩).run Try.prog u = .ok pT u ∧ (loadVar 25 ⟨w.heap.size + 1, 1, none⟩).run Try.prog u = .ok pR u ∧ (loadVar 24 ⟨w.heap.size + 1, 3, none⟩).run Try.prog u = .ok qT u ∧ (loadVar 25 ⟨w.heap.size + 1, 4, none⟩).run Try.prog u = .ok qR u ∧ (loadVar 45 ⟨b, off + k * 32, none⟩).run Try.prog u = .ok (.agg (opL x.on x.k x.nn x.mm x.v (.slice x.a x.us.length x.c) x.r).toArray) u) := fun u l' N' rs rs' E3 K3 E4 K4 t => ⟨run_loadTab t.b.bx.cT, run_loadRef t.b.bx.cR, run_loadTab t.a.bx.cT, run_loadRef t.a.bx.cR, (HOP.out u (t.bel.block b HBL.out)).2⟩
            have hd0 : Below wr.heap.size wr wr.drew := (Below.refl _ _).drew
            have HTD := Lib.hid (HT.out.keep hd0)
            clear hd0
            go_upto_region 17 with fail
            clear lon
            go_region_held3 (fun u => (loadVar 24 ⟨w.heap.size + 1, 0, none⟩).run Try.prog u = .ok pT u ∧ (loadVar 25 ⟨w.heap.size + 1, 1, none⟩).run Try.prog u = .ok pR u ∧ (loadVar 24 ⟨w.heap.size + 1, 3, none⟩).run Try.prog u = .ok qT u ∧ (loadVar 25 ⟨w.heap.size + 1, 4, none⟩).run Try.prog u = .ok qR u ∧ (loadVar 45 ⟨b, off + k * 32, none⟩).run Try.prog u = .ok (.agg (opL x.on x.k x.nn x.mm x.v (.slice x.a x.us.length x.c) x.r).toArray) u)
              (with_reducible first | assumption | exact HS.out _ _ _ _ _ _ _ _ _ HTD.out | exact HS.out _ _ _ _ _ _ _ _ _ HT2.out)
              (first
                | (go_at_call 6; refine (tw_does HTD.out (by omega) (by omega) x.on x.k x.nn x.mm x.v HXO.out.vw x.a x.c x.us x.r HXO.out.row HXO.out.lv HXU.out).mono ?_; rintro ee w2 ⟨rfl, l2, vs3, E3, K3, t2⟩; have HT2 := Lib.hid t2; obtain ⟨moA, mbA, paA⟩ := t2.a.pa; obtain ⟨moB, mbB, paB⟩ := t2.b.pa; have HPA := Lib.hid paA; have HPB := Lib.hid paB; clear t2 paA paB)
                | (go_at_call 7; with_reducible refine (pa_len HPA.out).mono ?_; rintro ee w3 ⟨rfl, rfl⟩)
                | (go_at_call 7; with_reducible refine (pa_len HPB.out).mono ?_; rintro ee w3 ⟨rfl, rfl⟩)
                | (go_at_call 8; with_reducible refine (pa_rlen HPA.out).mono ?_; rintro ee w3 ⟨rfl, rfl⟩)
                | (go_at_call 8; with_reducible refine (pa_rlen HPB.out).mono ?_; rintro ee w3 ⟨rfl, rfl⟩)
                | fail)
            all_goals
              have HN : Hid (∃ l pT pR qT qR vs vs2 E K E2 K2, Tw w _ (w.heap.size + 1) l 0 3 (49 * k + 49) pT pR qT qR vs vs2 E K E2 K2) := ⟨_, _, _, _, _, _, _, _, _, _, _, HT2.out.swap⟩
              have e49 : 49 * k + 49 = 49 * (k + 1) := by omega
              rw [e49] at HN
              clear e49
              clear HS HTD HT2 HPA HPB
              go_wp2
              go_roundw
              case rel =>
                (repeat apply Exists.intro)
                refine ⟨?rel2, rfl⟩
                case rel2 => exact ⟨k + 1, by omega, by go_num, HN⟩
              case measure => simp [intOf]; omega
        · obtain rfl : k = ops.length := by omega
          obtain ⟨moA, mbA, paA⟩ := t0.a.pa
          obtain ⟨moB, mbB, paB⟩ := t0.b.pa
          have HPA := Lib.hid paA
          have HPB := Lib.hid paB
          have HLA : Hid (vs.length ≤ 1000000000) := by show _ ≤ _; have := t0.a.len; omega
          have HLB : Hid (vs2.length ≤ 1000000000) := by show _ ≤ _; have := t0.b.len; omega
          have HBW := Lib.hid t0.bel
          have HBA := Lib.hid t0.a.bx
          have HBB := Lib.hid t0.b.bx
          have hB0 : Below wr.heap.size wr wr.drew := (Below.refl _ _).drew
          have HS : Hid (∀ u, Below wr.heap.size wr u → (loadVar 24 ⟨w.heap.size + 1, 0, none⟩).run Try.prog u = .ok pT u ∧ (loadVar 25 ⟨w.heap.size + 1, 1, none⟩).run Try.prog u = .ok pR u ∧ (loadVar 24 ⟨w.heap.size + 1, 3, none⟩).run Try.prog u = .ok qT u ∧ (loadVar 25 ⟨w.heap.size + 1, 4, none⟩).run Try.prog u = .ok qR u) := fun u hu => ⟨run_loadTab (HBA.out.keep hu).cT, run_loadRef (HBA.out.keep hu).cR, run_loadTab (HBB.out.keep hu).cT, run_loadRef (HBB.out.keep hu).cR⟩
          clear t0 paA paB
          go_upto_region 19 with fail
          go_region_held3 (fun u => (loadVar 24 ⟨w.heap.size + 1, 0, none⟩).run Try.prog u = .ok pT u ∧ (loadVar 25 ⟨w.heap.size + 1, 1, none⟩).run Try.prog u = .ok pR u ∧ (loadVar 24 ⟨w.heap.size + 1, 3, none⟩).run Try.prog u = .ok qT u ∧ (loadVar 25 ⟨w.heap.size + 1, 4, none⟩).run Try.prog u = .ok qR u)
            (with_reducible first | assumption | exact HS.out _ d7' | exact HS.out _ d6' | exact HS.out _ d5' | exact HS.out _ d4' | exact HS.out _ d3' | exact HS.out _ d2' | exact HS.out _ d1' | exact HS.out _ hB0)
            (first
              | (go_at_call 10; (with_reducible refine (all_calls HPA.out.form _).mono ?_); rintro ee u1 ⟨b01, rfl, h01, l01, _, d1⟩; have HQ1 : Hid (SeqV u1 (seqOf b01) pT) := ⟨b01, rfl, h01, l01⟩; generalize seqOf b01 = sq1 at HQ1 ⊢; have d1' : Below wr.heap.size wr u1 := hB0.trans (d1.mono hB0.size); clear d1 h01 l01)
              | (go_at_call 11; (with_reducible refine (pa_rall (HPA.out.keep d1') HLA.out).mono ?_); rintro ee u2 ⟨la1, lc1, rfl, hwl1, _, d2⟩; have HW1 := Lib.hid hwl1; have HQ2 := Lib.hid (HQ1.out.below d2); have d2' : Below wr.heap.size wr u2 := d1'.trans (d2.mono d1'.size); clear d2 hwl1)
              | (go_at_call 9; (with_reducible refine (pa_tells (HPA.out.keep d2') HLA.out HQ2.out _ _ HW1.out _).mono ?_); rintro ee u3 ⟨rfl, d3⟩; have d3' : Below wr.heap.size wr u3 := d2'.trans (d3.mono d2'.size); clear d3)
              | (go_at_call 10; (with_reducible refine (all_calls HPB.out.form _).mono ?_); rintro ee u4 ⟨b02, rfl, h02, l02, _, d4⟩; have HQ3 : Hid (SeqV u4 (seqOf b02) qT) := ⟨b02, rfl, h02, l02⟩; generalize seqOf b02 = sq2 at HQ3 ⊢; have d4' : Below wr.heap.size wr u4 := d3'.trans (d4.mono d3'.size); clear d4 h02 l02)
              | (go_at_call 11; (with_reducible refine (pa_rall (HPB.out.keep d4') HLB.out).mono ?_); rintro ee u5 ⟨la2, lc2, rfl, hwl2, _, d5⟩; have HW2 := Lib.hid hwl2; have HQ4 := Lib.hid (HQ3.out.below d5); have d5' : Below wr.heap.size wr u5 := d4'.trans (d5.mono d4'.size); clear d5 hwl2)
              | (go_at_call 9; (with_reducible refine (pa_tells (HPB.out.keep d5') HLB.out HQ4.out _ _ HW2.out _).mono ?_); rintro ee u6 ⟨rfl, d6⟩; have d6' : Below wr.heap.size wr u6 := d5'.trans (d6.mono d5'.size); clear d6)
              | (go_at_call 12; refine (lives_any _).mono ?_; rintro ee u7 ⟨rfl, d7⟩; have d7' : Below wr.heap.size wr u7 := d6'.trans (d7.mono d6'.size); clear d7)
              | fail)
          all_goals
            go_wp2
            go_ret
            exact ⟨rfl, HBW.out.trans (d7'.mono HBW.out.size)⟩
end Go.Proofs.Ythdcgikhcghigaa
