import Derived.Test.YteabclfhmapabaaDoorA7
import Derived.Test.YteabclfhmapabaaDoorA2
section
namespace Go.Proofs.YteabclfhmapabaaDoor
open Go.RowKit Go.Maps
set_option linter.unusedVariables false
set_option linter.unusedSimpArgs false
attribute [local go_sem ↓] Go.wp_at_zero Go.wp_at_succ

theorem dropA {l : List A5} {k : Nat} (h : k < l.length) : (l.drop k).map A5.t = (atA l k).t :: (l.drop (k + 1)).map A5.t := by rw [List.drop_eq_getElem_cons h, atA_eq h]; rfl
theorem dropL {d : Nat} {l : List XL} {k : Nat} (h : k < l.length) : (l.drop k).flatMap (fun y => termsL d y.x) = termsL d (atL l k).x ++ (l.drop (k + 1)).flatMap (fun y => termsL d y.x) := by rw [List.drop_eq_getElem_cons h, List.flatMap_cons, atL_eq h]
theorem ruRule (v : Value) (w : World) : (Instr.typeAssert (.iface 91 v) 20 91 true).run Tryd.prog w = .ok (.tuple #[v, .bool true]) w := by kernel_rfl
set_option maxHeartbeats 3200000 in
set_option maxRecDepth 100000 in
theorem walkRule_any {B : Nat} {w0 : World} {bo bs bm : Nat} {ns : List ByteArray} {sv : Value} {w : World} (h : Vst B w0 bo bs bm ns sv w) (hB : B = w0.heap.size) (b : Nat) (hb : b < B) (d : Nat) (r : R3) (p : RP) (hx : w0.rangeAt b 0 (r.cells p)) (hR : RIs w0 d r p) (hn : ns.length + (termsR d r).length ≤ 4398046511104) :
    Calls Tryd.prog 29 #[.iface 91 (.pointer (some ⟨b, 0, none⟩)), handV bs bo] w fun e w' => (∃ u, e = .returned u) ∧ ∃ sv', Vst B w0 bo bs bm (vsT ns (termsR d r)) sv' w' := by
  obtain ⟨pr, hd, bd⟩ := r
  obtain ⟨pa, pc, ba, bc⟩ := p
  have hhl := hR.hl
  have hbl := hR.bl
  have h1 := hR.hd
  have h2 := hR.bd
  unfold termsR at hn ⊢
  dsimp only at hhl hbl h1 h2 hn ⊢
  have HEa : Hid (∀ i, i < bd.length → LIs w0 d (atL bd i).x (atL bd i).p) := fun i hi => h2.at_is hi
  have HWa : Hid (∀ i, i < hd.length → (atA hd i).wf) := fun i hi => h1.at_wf hi
  obtain ⟨a1, c1, e1, hc1, hc2, hk1⟩ := h1.form
  cases e1
  obtain ⟨a2, c2, e2, hc3, hc4, hk2⟩ := h2.form
  cases e2
  have HK1 : Hid _ := hk1
  have HK2 : Hid _ := hk2
  have HCC : Hid (∀ u, Below B w0 u → u.cell? ⟨b, 1, none⟩ = some (.slice pa hd.length pc) ∧ u.cell? ⟨b, 2, none⟩ = some (.slice ba bd.length bc)) := fun u hu => ⟨by rw [hu.cell (p := ⟨b, 1, none⟩) hb]; exact hx 1 _ rfl, by rw [hu.cell (p := ⟨b, 2, none⟩) hb]; exact hx 2 _ rfl⟩
  have HV : Hid (Vst B w0 bo bs bm ns sv w) := h
  obtain ⟨c1', c2'⟩ := HCC.out w h.bel
  have t1 := ruRule (.pointer (some ⟨b, 0, none⟩))
  simp only [List.length_append, List.length_map] at hn
  obtain ⟨res, HRS⟩ : ∃ res, Hid (vsT ns (hd.map A5.t ++ bd.flatMap (fun y => termsL d y.x)) = res) := ⟨_, rfl⟩
  rw [HRS.out]
  have HN : Hid _ := hn
  clear hk1 hk2 h1 h2 hR hx h hc2 hc4 hn
  unfold handV
  go_enter Tryd.func29, Tryd.ntmps29
  go_wp2
  clear c1' c2' t1
  go_loopw [21] (fun i wr => ∃ k : Nat, k ≤ hd.length ∧ i = .int .i64 k ∧ ∃ (ns' : List ByteArray) (sv' : Value), Hid (Vst B w0 bo bs bm ns' sv' wr) ∧ ns'.length ≤ ns.length + k ∧ Hid (vsT ns' ((hd.drop k).map A5.t ++ bd.flatMap (fun y => termsL d y.x)) = res)) (fun i _ => hd.length - (intOf i).toNat)
  case atStart => exact ⟨0, Nat.zero_le _, rfl, ns, sv, HV, Nat.le_refl _, HRS⟩
  case round =>
    obtain ⟨k, hk, rfl, ns', sv', HV', hl, HS⟩ := hrel
    obtain ⟨x1, x2⟩ := HCC.out wr HV'.out.bel
    by_cases hlt : k < hd.length
    · have hlt' : (k : Int) < (hd.length : Int) := by omega
      have hk0 : (0 : Int) ≤ (k : Int) := by omega
      obtain ⟨g, off, rfl, hg, hT⟩ := HK1.out (by omega)
      have hgB : g < B := by rw [hB]; exact hg
      have y0 : wr.cell? ⟨g, off + k * 5 + 1, none⟩ = some (.string (atA hd k).t.v) := by rw [HV'.out.bel.cell (p := ⟨g, off + k * 5 + 1, none⟩) hgB]; exact hT k hlt 1 _ rfl
      have hxw := (HWa.out k hlt).t.text
      have HNN : Hid (vsT (stepN ns' (atA hd k).t.v) ((hd.drop (k + 1)).map A5.t ++ bd.flatMap (fun y => termsL d y.x)) = res) := by show _ = res; rw [← HS.out, dropA hlt, List.cons_append, vsT_step]
      have HH : Hid _ := hand_any HV'.out (by have := HN.out; omega) g (off + k * 5 + 1) (atA hd k).t.v hgB hxw y0
      have HLn : Hid _ := stepN_len ns' (atA hd k).t.v
      clear hT hxw y0 HS
      generalize (atA hd k).t.v = t at HNN HH HLn
      go_wp2_with fail
      refine Calls.mono HH.out ?_
      rintro e w2 ⟨⟨u, rfl⟩, sv2, hv2⟩
      go_wp2
      go_roundw
      case rel => exact ⟨k + 1, by omega, by go_num, stepN ns' t, sv2, hv2, by have := HLn.out; omega, HNN⟩
      case measure => simp [intOf]; omega
    · obtain rfl : k = hd.length := by omega
      have HV2 : Hid (vsT ns' (bd.flatMap (fun y => termsL d y.x)) = res) := by show _ = res; rw [← HS.out, List.drop_length]; rfl
      have HVk : Hid _ := HV'.out
      clear HS HV'
      have hnl : ns'.length + (bd.flatMap (fun y => termsL d y.x)).length ≤ 4398046511104 := by have := HN.out; omega
      have HNL : Hid _ := hnl
      clear hnl
      go_wp2
      clear x1 x2
      go_loopw [39] (fun i wr => ∃ k : Nat, k ≤ bd.length ∧ i = .int .i64 k ∧ ∃ (ns1 : List ByteArray) (sv1 : Value), Hid (Vst B w0 bo bs bm ns1 sv1 wr) ∧ Hid (ns1.length + ((bd.drop k).flatMap (fun y => termsL d y.x)).length ≤ 4398046511104) ∧ Hid (vsT ns1 ((bd.drop k).flatMap (fun y => termsL d y.x)) = res)) (fun i _ => bd.length - (intOf i).toNat)
      case atStart => exact ⟨0, Nat.zero_le _, rfl, ns', sv', HVk, HNL, HV2⟩
      case round =>
        obtain ⟨k, hk, rfl, ns1, sv1, HV', HL, HS⟩ := hrel
        obtain ⟨x1, x2⟩ := HCC.out wr HV'.out.bel
        by_cases hlt : k < bd.length
        · have hlt' : (k : Int) < (bd.length : Int) := by omega
          have hk0 : (0 : Int) ≤ (k : Int) := by omega
          obtain ⟨g, off, rfl, hg, hT⟩ := HK2.out (by omega)
          have hgB : g < B := by rw [hB]; exact hg
          have hle := HL.out
          rw [dropL hlt, List.length_append] at hle
          have HH : Hid _ := walkLiteral_any HV'.out hB g (off + k * 16) hgB d (atL bd k).x (atL bd k).p (lat_range (hT k hlt)) (HEa.out k hlt) (by omega)
          have HNN : Hid (vsT (vsT ns1 (termsL d (atL bd k).x)) ((bd.drop (k + 1)).flatMap (fun y => termsL d y.x)) = res) := by show _ = res; rw [← HS.out, dropL hlt, vsT_append]
          have HLn : Hid ((vsT ns1 (termsL d (atL bd k).x)).length + ((bd.drop (k + 1)).flatMap (fun y => termsL d y.x)).length ≤ 4398046511104) := by have := vsT_len (termsL d (atL bd k).x) ns1; show _ ≤ _; omega
          clear hT HS HL hle
          generalize vsT ns1 (termsL d (atL bd k).x) = n2 at HH HNN HLn
          unfold handV at HH
          go_wp2_with fail
          refine Calls.mono HH.out ?_
          rintro e w2 ⟨⟨u, rfl⟩, sv2, hv2⟩
          go_wp2
          go_roundw
          case rel => exact ⟨k + 1, by omega, by go_num, n2, sv2, hv2, HLn, HNN⟩
          case measure => simp [intOf]; omega
        · obtain rfl : k = bd.length := by omega
          have HV3 : Hid (ns1 = res) := by show _ = res; rw [← HS.out, List.drop_length]; rfl
          go_wp2
          go_end0
          rw [← HV3.out]
          exact ⟨⟨_, rfl⟩, _, HV'.out⟩
theorem variablesRule_any (b : Nat) (d : Nat) (r : R3) (p : RP) (w : World) (hb : b < w.heap.size) (hx : w.rangeAt b 0 (r.cells p)) (hR : RIs w d r p) (hn : (termsR d r).length ≤ 4398046511104) :
    Calls Tryd.prog 55 #[.iface 91 (.pointer (some ⟨b, 0, none⟩))] w fun e' w' => ∃ sv, e' = .returned sv ∧ w'.ownsRow w.heap.size 9 1 sv (vsT [] (termsR d r)).length ((vsT [] (termsR d r)).flatMap strB) ∧ Below w.heap.size w w' := by
  have HW : Hid _ := walkRule_any (vst_new w) rfl b hb d r p hx hR (by simpa using hn)
  unfold handV at HW
  have hmk := run_makeSet
  clear hx hR
  go_enter Tryd.func55, Tryd.ntmps55
  go_wp2_with fail
  refine Calls.mono HW.out ?_
  rintro ee w2 ⟨⟨u, rfl⟩, sv2, hv2⟩
  have c0 := hv2.co
  obtain ⟨a2, c2, rfl, _⟩ := own_form hv2.own
  go_wp2
  go_ret
  exact ⟨_, rfl, hv2.own, hv2.bel⟩
theorem vruleVars_any (d : Nat) (r : R3) (p : RP) (w : World) (hR : RIs w d r p) (hn : (termsR d r).length ≤ 4398046511104) : Calls Tryd.prog 44 #[r.val p] w fun e w' => ∃ sv, e = .returned sv ∧ Ls w' sv (vsT [] (termsR d r)).length ((vsT [] (termsR d r)).flatMap strB) ∧ Below w.heap.size w w' := by
  have b0 := (Below.refl w.heap.size w).alloc (Nat.le_refl _) (.cells #[.string r.pr, .slice p.a r.hd.length p.c, .slice p.ba r.bd.length p.bc] 25)
  have HV : Hid _ := variablesRule_any w.heap.size d r p _ (by simp) (RL.range (rl_new w #[.string r.pr, .slice p.a r.hd.length p.c, .slice p.ba r.bd.length p.bc] 25)) (hR.below b0) hn
  clear hR
  unfold R3.val
  go_enter Tryd.func44, Tryd.ntmps44
  go_wp2_with fail
  refine Calls.mono HV.out ?_
  rintro ee w1 ⟨sv, rfl, ho, b1⟩
  go_wp2
  go_ret
  exact ⟨_, rfl, ls_own ho, b0.trans (b1.mono b0.size)⟩
end Go.Proofs.YteabclfhmapabaaDoor
end
section
namespace Go.Proofs.YteabclfhmapabaaDoor
open Go.RowKit Go.Maps
set_option linter.unusedVariables false
set_option linter.unusedSimpArgs false
attribute [local go_sem ↓] Go.wp_at_zero Go.wp_at_succ

end Go.Proofs.YteabclfhmapabaaDoor
end
section
namespace Go.Proofs.YteabclfhmapabaaDoor
open Go.RowKit Go.Maps
set_option linter.unusedVariables false
set_option linter.unusedSimpArgs false
attribute [local go_sem ↓] Go.wp_at_zero Go.wp_at_succ
attribute [-go_sem] loadVar storeVar

theorem termsR_wf {w : World} {d : Nat} {r : R3} {p : RP} (h : RIs w d r p) : ∀ t ∈ termsR d r, t.wf := by
  intro t ht
  unfold termsR at ht
  rcases List.mem_append.1 ht with h1 | h1
  · obtain ⟨x, hx, rfl⟩ := List.mem_map.1 h1
    exact (h.hd.wf x hx).t
  · obtain ⟨y, hy, h2⟩ := List.mem_flatMap.1 h1
    exact termsL_wf (h.bd.each y hy) t h2
end Go.Proofs.YteabclfhmapabaaDoor
end
section
namespace Go.Proofs.YteabclfhmapabaaDoor
open Go.RowKit Go.Maps
set_option linter.unusedVariables false
set_option linter.unusedSimpArgs false
attribute [local go_sem ↓] Go.wp_at_zero Go.wp_at_succ

theorem argB_0 {x : A5} (h : x.g = 0) : argB x = namedB x.t := by unfold argB; rw [if_pos h]
theorem argB_1 {x : A5} (h : x.g = 1) : argB x = decide (x.t = T0) := by unfold argB; rw [if_neg (by omega), if_pos h]
theorem argB_2 {x : A5} (h : x.g = 2 ∨ x.g = 3 ∨ x.g = 4) : argB x = (namedB x.t && !decide (x.t.v = noS)) := by unfold argB; rw [if_neg (by omega), if_neg (by omega), if_pos h]
theorem argB_n {x : A5} (h : x.g ≠ 0 ∧ x.g ≠ 1 ∧ x.g ≠ 2 ∧ x.g ≠ 3 ∧ x.g ≠ 4) : argB x = false := by unfold argB; rw [if_neg (by omega), if_neg (by omega), if_neg (by omega)]
set_option maxHeartbeats 3200000 in
theorem tArg_any (x : A5) (w : World) (hx : x.wf) : Calls Tryd.prog 48 #[.agg #[.int .i8 x.g, .string x.t.v, .int .i8 x.t.a.k, .int .i64 x.t.a.n, .string x.t.a.s]] w fun e w' => e = .returned (.bool (argB x)) ∧ Below w.heap.size w w' := by
  have BA := (Below.refl w.heap.size w).alloc (Nat.le_refl _) (.cells #[.int .i8 x.g, .string x.t.v, .int .i8 x.t.a.k, .int .i64 x.t.a.n, .string x.t.a.s] 99)
  have HRL : Hid (RL (w.alloc (.cells #[.int .i8 x.g, .string x.t.v, .int .i8 x.t.a.k, .int .i64 x.t.a.n, .string x.t.a.s] 99)) w.heap.size 99 [.int .i8 x.g, .string x.t.v, .int .i8 x.t.a.k, .int .i64 x.t.a.n, .string x.t.a.s]) := rl_new w #[.int .i8 x.g, .string x.t.v, .int .i8 x.t.a.k, .int .i64 x.t.a.n, .string x.t.a.s] 99
  have HN : Hid (∀ u, Calls Tryd.prog 67 #[.agg #[.string x.t.v, .int .i8 x.t.a.k, .int .i64 x.t.a.n, .string x.t.a.s]] u fun e w' => e = .returned (.bool (namedB x.t)) ∧ Below u.heap.size u w') := fun u => isNamed_any x.t u hx.t
  have HBA : Hid (Below w.heap.size w _) := BA
  clear hx BA
  by_cases g0 : x.g = 0
  · have f0 : (x.g == 0) = true := by rw [g0]; rfl
    have HF : Hid _ := argB_0 g0
    clear g0
    go_enter Tryd.func48, Tryd.ntmps48
    go_wp2_with (go_at_call 67; refine Calls.mono (HN.out _) ?_; rintro ee w1 ⟨rfl, b1⟩)
    go_ret
    exact ⟨ret_bool HF.out.symm, HBA.out.trans (b1.mono HBA.out.size)⟩
  · have f0 : (x.g == 0) = false := by rw [beq_eq_false_iff_ne]; exact g0
    by_cases g1 : x.g = 1
    · have f1 : (x.g == 1) = true := by rw [g1]; rfl
      have HF : Hid _ := argB_1 g1
      have hQ := run_eqT x.t T0
      unfold T0 V0 noS at hQ
      dsimp only at hQ
      clear g0 g1
      go_enter Tryd.func48, Tryd.ntmps48
      go_wp2
      go_ret
      exact ⟨ret_bool HF.out.symm, HBA.out⟩
    · have f1 : (x.g == 1) = false := by rw [beq_eq_false_iff_ne]; exact g1
      by_cases g2 : x.g = 2 ∨ x.g = 3 ∨ x.g = 4
      · have HF : Hid _ := argB_2 g2
        have F : (x.g == 2) = true ∨ ((x.g == 2) = false ∧ (x.g == 3) = true) ∨ ((x.g == 2) = false ∧ (x.g == 3) = false ∧ (x.g == 4) = true) := by
          rcases g2 with e | e | e
          · exact .inl (by rw [e]; rfl)
          · exact .inr (.inl ⟨by rw [e]; rfl, by rw [e]; rfl⟩)
          · exact .inr (.inr ⟨by rw [e]; rfl, by rw [e]; rfl, by rw [e]; rfl⟩)
        clear g0 g1 g2
        cases hN : namedB x.t
        · rcases F with f2 | ⟨f2, f3⟩ | ⟨f2, f3, f4⟩
          all_goals
            go_enter Tryd.func48, Tryd.ntmps48
            go_wp2_with (go_at_call 67; refine Calls.mono (HN.out _) ?_; rw [hN]; rintro ee w1 ⟨rfl, b1⟩)
            go_ret
            exact ⟨ret_bool (by rw [HF.out, hN]; rfl), HBA.out.trans (b1.mono HBA.out.size)⟩
        · by_cases en : x.t.v = noS
          · have he : x.t.v.toList.isEmpty = true := by rw [en, ByteArray.toList_eq]; rfl
            have HF2 : Hid (argB x = false) := by show _ = _; rw [HF.out, decide_eq_true en]; simp
            clear en
            rcases F with f2 | ⟨f2, f3⟩ | ⟨f2, f3, f4⟩
            all_goals
              go_enter Tryd.func48, Tryd.ntmps48
              go_wp2_with (go_at_call 67; refine Calls.mono (HN.out _) ?_; rw [hN]; rintro ee w1 ⟨rfl, b1⟩; have z1 := (RL.below HRL.out b1).at (j := 1) rfl)
              go_ret
              exact ⟨ret_bool HF2.out.symm, HBA.out.trans (b1.mono HBA.out.size)⟩
          · have he := some_iff x.t.v en
            have HF2 : Hid (argB x = true) := by show _ = _; rw [HF.out, hN, decide_eq_false en]; rfl
            clear en
            rcases F with f2 | ⟨f2, f3⟩ | ⟨f2, f3, f4⟩
            all_goals
              go_enter Tryd.func48, Tryd.ntmps48
              go_wp2_with (go_at_call 67; refine Calls.mono (HN.out _) ?_; rw [hN]; rintro ee w1 ⟨rfl, b1⟩; have z1 := (RL.below HRL.out b1).at (j := 1) rfl)
              go_ret
              exact ⟨ret_bool HF2.out.symm, HBA.out.trans (b1.mono HBA.out.size)⟩
      · have f2 : (x.g == 2) = false := by rw [beq_eq_false_iff_ne]; omega
        have f3 : (x.g == 3) = false := by rw [beq_eq_false_iff_ne]; omega
        have f4 : (x.g == 4) = false := by rw [beq_eq_false_iff_ne]; omega
        have HF : Hid (argB x = false) := argB_n ⟨g0, g1, by omega, by omega, by omega⟩
        clear g0 g1 g2
        go_enter Tryd.func48, Tryd.ntmps48
        go_wp2
        go_ret
        exact ⟨ret_bool HF.out.symm, HBA.out⟩
end Go.Proofs.YteabclfhmapabaaDoor
end
section
namespace Go.Proofs.YteabclfhmapabaaDoor
open Go.RowKit Go.Maps
set_option linter.unusedVariables false
set_option linter.unusedSimpArgs false
attribute [local go_sem ↓] Go.wp_at_zero Go.wp_at_succ
attribute [-go_sem] loadVar storeVar

set_option maxHeartbeats 6400000 in
theorem isRule_any (d : Nat) (r : R3) (p : RP) (w : World) (hT : KT w) (hR : RIs w d r p) (hs : smallR d r) : Calls Tryd.prog 27 #[r.val p] w fun e w' => e = .returned (.bool (ruleB d r)) ∧ Below w.heap.size w w' := by
  obtain ⟨pr, hd, bd⟩ := r
  obtain ⟨pa, pc, ba, bc⟩ := p
  have HA : Hid (ruleB d ⟨pr, hd, bd⟩ = (nameB pr && (decide (hd.length ≤ 24) && (decide (bd.length ≤ 16) && (hd.all argB && (bd.all (fun y => litB y.x) && decide ((vsT [] (termsR d ⟨pr, hd, bd⟩)).length ≤ 24))))))) := rfl
  have HVs : Hid (∀ u, Below w.heap.size w u → Calls Tryd.prog 44 #[.agg #[.string pr, .slice pa hd.length pc, .slice ba bd.length bc]] u fun e w' => ∃ sv, e = .returned sv ∧ Ls w' sv (vsT [] (termsR d ⟨pr, hd, bd⟩)).length ((vsT [] (termsR d ⟨pr, hd, bd⟩)).flatMap strB) ∧ Below u.heap.size u w') := fun u hu => vruleVars_any d ⟨pr, hd, bd⟩ ⟨pa, pc, ba, bc⟩ u (hR.below hu) (by have := hs.terms; omega)
  have hhl := hR.hl
  have hbl := hR.bl
  have hpb := hR.pb
  have h1 := hR.hd
  have h2 := hR.bd
  unfold R3.val
  dsimp only at hhl hbl hpb h1 h2 ⊢
  have HAi : Hid (∀ i, i < hd.length → ∀ u, Calls Tryd.prog 48 #[.agg (atA hd i).cells.toArray] u fun e w' => e = .returned (.bool (argB (atA hd i))) ∧ Below u.heap.size u w') := fun i hi u => tArg_any _ u (h1.at_wf hi)
  have HLi : Hid (∀ i, i < bd.length → ∀ u, Below w.heap.size w u → Calls Tryd.prog 49 #[.agg (atL bd i).cells.toArray] u fun e w' => e = .returned (.bool (litB (atL bd i).x)) ∧ Below u.heap.size u w') := fun i hi => fun u hu => isLiteral_any d _ _ u (hT.below hu) ((h2.at_is hi).below hu) (h2.at_is hi).l.len (h2.at_is hi).r.len
  obtain ⟨a1, c1, e1, hc1, hc2, hk1⟩ := h1.form
  cases e1
  obtain ⟨a2, c2, e2, hc3, hc4, hk2⟩ := h2.form
  cases e2
  have HK1 : Hid _ := hk1
  have HK2 : Hid _ := hk2
  have HBA : Hid (Below w.heap.size w (w.alloc (.cells #[.string pr, .slice pa hd.length pc, .slice ba bd.length bc] 25))) := (Below.refl w.heap.size w).alloc (Nat.le_refl _) _
  have HR0 : Hid (RL (w.alloc (.cells #[.string pr, .slice pa hd.length pc, .slice ba bd.length bc] 25)) w.heap.size 25 [.string pr, .slice pa hd.length pc, .slice ba bd.length bc]) := rl_new w #[.string pr, .slice pa hd.length pc, .slice ba bd.length bc] 25
  have HLD : Hid (∀ u, RL u w.heap.size 25 [.string pr, .slice pa hd.length pc, .slice ba bd.length bc] → (loadVar 25 ⟨w.heap.size, 0, none⟩).run Tryd.prog u = .ok (.agg #[.string pr, .slice pa hd.length pc, .slice ba bd.length bc]) u) := fun u hu => run_loadVar_mid _ _ 0 25 [.string pr, .slice pa hd.length pc, .slice ba bd.length bc] _ (RL.range hu) Tryd.underlying25 rfl (by kernel_rfl)
  have hagg1 := fun q => loadVar.eq_1 23 q
  have hagg2 := fun q => loadVar.eq_1 22 q
  have hagg3 := fun q => loadVar.eq_1 9 q
  obtain ⟨vn, hvn⟩ : ∃ vn, vsT [] (termsR d ⟨pr, hd, bd⟩) = vn := ⟨_, rfl⟩
  rw [hvn] at HA HVs
  obtain ⟨rb, hrb⟩ : ∃ rb, ruleB d ⟨pr, hd, bd⟩ = rb := ⟨_, rfl⟩
  rw [hrb] at HA ⊢
  clear hk1 hk2 h1 h2 hR hs hvn hrb hc2 hc4 hc1 hc3 hT
  go_enter Tryd.func27, Tryd.ntmps27
  go_wp2_with fail
  refine (tName_any pr _ hpb).mono ?_
  rintro e w1 ⟨rfl, b1⟩
  have HB1 : Hid (Below w.heap.size w w1) := HBA.out.trans (b1.mono HBA.out.size)
  have HR1 : Hid (RL w1 w.heap.size 25 [.string pr, .slice pa hd.length pc, .slice ba bd.length bc]) := RL.below HR0.out b1
  clear b1 HR0 HBA
  have r1 := HR1.out.at (j := 1) rfl
  have r2 := HR1.out.at (j := 2) rfl
  cases hn : nameB pr
  · have HF : Hid (rb = false) := by show _ = _; rw [HA.out, hn]; rfl
    go_wp2
    go_ret
    exact ⟨ret_bool HF.out.symm, HB1.out⟩
  · by_cases h24 : hd.length ≤ 24
    · by_cases h16 : bd.length ≤ 16
      · have h24' : (hd.length : Int) ≤ 24 := by omega
        have h16' : (bd.length : Int) ≤ 16 := by omega
        have HB : Hid (rb = (hd.all argB && (bd.all (fun y => litB y.x) && decide (vn.length ≤ 24)))) := by show _ = _; rw [HA.out, hn, decide_eq_true h24, decide_eq_true h16]; rfl
        clear HA hn
        go_wp2
        clear r1 r2
        go_loopw [26] (fun i wr => ∃ k : Nat, k ≤ hd.length ∧ i = .int .i64 k ∧ Below w.heap.size w wr ∧ Hid (RL wr w.heap.size 25 [.string pr, .slice pa hd.length pc, .slice ba bd.length bc]) ∧ Hid ((hd.take k).all argB = true)) (fun i _ => hd.length - (intOf i).toNat)
        case atStart => exact ⟨0, Nat.zero_le _, rfl, HB1.out, HR1, by simp [Hid]⟩
        case round =>
          obtain ⟨k, hk, rfl, bel, HRw, HS⟩ := hrel
          by_cases hlt : k < hd.length
          · have hlt' : (k : Int) < (hd.length : Int) := by omega
            have hk0 : (0 : Int) ≤ (k : Int) := by omega
            obtain ⟨g, off, rfl, hg, hT⟩ := HK1.out (by omega)
            have hld := load_Arg (range_below (hT k hlt) bel hg) rfl
            have HI : Hid _ := HAi.out k hlt
            have HN : Hid (argB (atA hd k) = false → rb = false) := fun h => by rw [HB.out, allA_not hlt h]; rfl
            have HY : Hid (argB (atA hd k) = true → (hd.take (k + 1)).all argB = true) := fun h => by rw [allA_take hlt, HS.out, h]; rfl
            have hst : (storeVar 99 ⟨wr.heap.size, 0, none⟩ (.agg (atA hd k).cells.toArray)).run Tryd.prog (wr.alloc (.cells #[.int .i8 0, .string ⟨#[]⟩, .int .i8 0, .int .i64 0, .string ⟨#[]⟩] 99)) = .ok () (wr.alloc (.cells (atA hd k).cells.toArray 99)) := run_storeVar_new wr 99 #[.int .i8 0, .string ⟨#[]⟩, .int .i8 0, .int .i64 0, .string ⟨#[]⟩] (atA hd k).cells.toArray (by kernel_rfl) rfl (oneCells_arg _)
            have hl2 := load_Arg (RL.range (rl_new wr (atA hd k).cells.toArray 99)) rfl
            have HB2 : Hid (Below w.heap.size w (wr.alloc (.cells (atA hd k).cells.toArray 99))) := bel.alloc bel.size _
            have HBN : Hid (Below wr.heap.size wr (wr.alloc (.cells (atA hd k).cells.toArray 99))) := (Below.refl _ _).alloc (Nat.le_refl _) _
            generalize wr.alloc (.cells (atA hd k).cells.toArray 99) = W2 at hst hl2 HB2 HBN
            have hl2' : (loadVar 99 ⟨wr.heap.size, 0, none⟩).run Tryd.prog W2 = .ok (.agg (atA hd k).cells.toArray) W2 := hl2
            clear hl2
            generalize Value.agg (atA hd k).cells.toArray = QV at hld hst hl2' HI
            generalize argB (atA hd k) = ab at HI HN HY
            clear hT
            go_wp2_with fail
            refine Calls.mono (HI.out _) ?_
            rintro e w2 ⟨rfl, b2⟩
            have bel2 : Below w.heap.size w w2 := HB2.out.trans (b2.mono HB2.out.size)
            have HR2 : Hid (RL w2 w.heap.size 25 _) := RL.below (RL.below HRw.out HBN.out) b2
            clear b2 HI hld hst hl2'
            cases ab
            · go_wp2
              go_ret
              exact ⟨ret_bool (HN.out (by first | rfl | trivial)).symm, bel2⟩
            · go_wp2
              go_roundw
              case rel => exact ⟨k + 1, by omega, by go_num, bel2, HR2, HY.out (by first | rfl | trivial)⟩
              case measure => simp [intOf]; omega
          · obtain rfl : k = hd.length := by omega
            rw [List.take_length] at HS
            have HB2 : Hid (rb = (bd.all (fun y => litB y.x) && decide (vn.length ≤ 24))) := by show _ = _; rw [HB.out, HS.out]; rfl
            have HRx : Hid _ := HRw.out
            have q2 := HRw.out.at (j := 2) rfl
            have HBx : Hid _ := bel
            clear HB HS HRw bel
            go_wp2
            clear q2
            go_loopw [37] (fun i wr => ∃ k : Nat, k ≤ bd.length ∧ i = .int .i64 k ∧ Below w.heap.size w wr ∧ Hid (RL wr w.heap.size 25 [.string pr, .slice pa hd.length pc, .slice ba bd.length bc]) ∧ Hid ((bd.take k).all (fun y => litB y.x) = true)) (fun i _ => bd.length - (intOf i).toNat)
            case atStart => exact ⟨0, Nat.zero_le _, rfl, HBx.out, HRx, by simp [Hid]⟩
            case round =>
              obtain ⟨k, hk, rfl, bel, HRw, HS⟩ := hrel
              by_cases hlt : k < bd.length
              · have hlt' : (k : Int) < (bd.length : Int) := by omega
                have hk0 : (0 : Int) ≤ (k : Int) := by omega
                obtain ⟨g, off, rfl, hg, hT⟩ := HK2.out (by omega)
                have hld := load_Lit (range_below (hT k hlt) bel hg) rfl
                have HI : Hid _ := HLi.out k hlt
                have HN : Hid (litB (atL bd k).x = false → rb = false) := fun h => by rw [HB2.out, allL_not (f := fun y => litB y.x) hlt h]; rfl
                have HY : Hid (litB (atL bd k).x = true → (bd.take (k + 1)).all (fun y => litB y.x) = true) := fun h => by rw [allL_take (f := fun y => litB y.x) hlt, HS.out, h]; rfl
                have hst : (storeVar 56 ⟨wr.heap.size, 0, none⟩ (.agg (atL bd k).cells.toArray)).run Tryd.prog (wr.alloc (.cells #[.int .i8 0, .string ⟨#[]⟩, .slice none 0 0, .int .i8 0, .int .i8 0, .string ⟨#[]⟩, .int .i8 0, .int .i64 0, .string ⟨#[]⟩, .slice none 0 0, .int .i8 0, .string ⟨#[]⟩, .int .i8 0, .int .i64 0, .string ⟨#[]⟩, .slice none 0 0] 56)) = .ok () (wr.alloc (.cells (atL bd k).cells.toArray 56)) := run_storeVar_new wr 56 #[.int .i8 0, .string ⟨#[]⟩, .slice none 0 0, .int .i8 0, .int .i8 0, .string ⟨#[]⟩, .int .i8 0, .int .i64 0, .string ⟨#[]⟩, .slice none 0 0, .int .i8 0, .string ⟨#[]⟩, .int .i8 0, .int .i64 0, .string ⟨#[]⟩, .slice none 0 0] (atL bd k).cells.toArray (by kernel_rfl) rfl (oneCells_lit _)
                have hl2 := load_Lit (RL.range (rl_new wr (atL bd k).cells.toArray 56)) rfl
                have HB3 : Hid (Below w.heap.size w (wr.alloc (.cells (atL bd k).cells.toArray 56))) := bel.alloc bel.size _
                have HBN : Hid (Below wr.heap.size wr (wr.alloc (.cells (atL bd k).cells.toArray 56))) := (Below.refl _ _).alloc (Nat.le_refl _) _
                generalize wr.alloc (.cells (atL bd k).cells.toArray 56) = W2 at hst hl2 HB3 HBN
                have hl2' : (loadVar 56 ⟨wr.heap.size, 0, none⟩).run Tryd.prog W2 = .ok (.agg (atL bd k).cells.toArray) W2 := hl2
                clear hl2
                generalize Value.agg (atL bd k).cells.toArray = QV at hld hst hl2' HI
                generalize litB (atL bd k).x = ab at HI HN HY
                clear hT
                go_wp2_with fail
                refine Calls.mono (HI.out _ HB3.out) ?_
                rintro e w2 ⟨rfl, b2⟩
                have bel2 : Below w.heap.size w w2 := HB3.out.trans (b2.mono HB3.out.size)
                have HR2 : Hid (RL w2 w.heap.size 25 _) := RL.below (RL.below HRw.out HBN.out) b2
                clear b2 HI hld hst hl2'
                cases ab
                · go_wp2
                  go_ret
                  exact ⟨ret_bool (HN.out (by first | rfl | trivial)).symm, bel2⟩
                · go_wp2
                  go_roundw
                  case rel => exact ⟨k + 1, by omega, by go_num, bel2, HR2, HY.out (by first | rfl | trivial)⟩
                  case measure => simp [intOf]; omega
              · obtain rfl : k = bd.length := by omega
                rw [List.take_length] at HS
                have HB4 : Hid (rb = decide (vn.length ≤ 24)) := by show _ = _; rw [HB2.out, HS.out]; rfl
                have hl9 := HLD.out _ HRw.out
                go_wp2_with fail
                refine Calls.mono (HVs.out _ bel) ?_
                rintro e w2 ⟨sv, rfl, hls, b2⟩
                obtain ⟨va, vc, rfl, hv1, hv2, _⟩ := ls_str hls
                have bel2 : Below w.heap.size w w2 := bel.trans (b2.mono bel.size)
                clear hls b2 hl9 HB2 HS
                go_wp2
                go_ret
                exact ⟨ret_bool (by rw [HB4.out]; rw [Bool.eq_iff_iff]; simp only [decide_eq_true_eq]; omega), bel2⟩
      · have h16' : (16 : Int) < (bd.length : Int) := by omega
        have h24' : (hd.length : Int) ≤ 24 := by omega
        have HF : Hid (rb = false) := by show _ = _; rw [HA.out, decide_eq_false h16]; simp
        go_wp2
        go_ret
        exact ⟨ret_bool HF.out.symm, HB1.out⟩
    · have h24' : (24 : Int) < (hd.length : Int) := by omega
      have HF : Hid (rb = false) := by show _ = _; rw [HA.out, decide_eq_false h24]; simp
      go_wp2
      go_ret
      exact ⟨ret_bool HF.out.symm, HB1.out⟩
theorem checkRule_any (d : Nat) (r : R3) (p : RP) (w : World) (hT : KT w) (hR : RIs w d r p) (hs : smallR d r) : Calls Tryd.prog 23 #[r.val p] w fun e w' => e = .returned (.int .i64 (errB (ruleB d r))) ∧ Below w.heap.size w w' := by
  have BA := (Below.refl w.heap.size w).alloc (Nat.le_refl _) (.cells #[.string r.pr, .slice p.a r.hd.length p.c, .slice p.ba r.bd.length p.bc] 25)
  have HL : Hid _ := isRule_any d r p _ (hT.below BA) (hR.below BA) hs
  have hld : (loadVar 25 ⟨w.heap.size, 0, none⟩).run Tryd.prog (w.alloc (.cells #[.string r.pr, .slice p.a r.hd.length p.c, .slice p.ba r.bd.length p.bc] 25)) = .ok (.agg #[.string r.pr, .slice p.a r.hd.length p.c, .slice p.ba r.bd.length p.bc]) _ := run_loadVar_mid _ _ 0 25 [.string r.pr, .slice p.a r.hd.length p.c, .slice p.ba r.bd.length p.bc] _ (RL.range (rl_new w #[.string r.pr, .slice p.a r.hd.length p.c, .slice p.ba r.bd.length p.bc] 25)) Tryd.underlying25 rfl (by kernel_rfl)
  clear hR hs hT
  unfold R3.val at *
  go_enter Tryd.func23, Tryd.ntmps23
  go_wp2_with fail
  refine Calls.mono HL.out ?_
  rintro ee w1 ⟨rfl, b1⟩
  go_wp2_with fail
  refine (verdict_any _ _).mono ?_
  rintro ee w2 ⟨rfl, rfl⟩
  go_wp2
  go_ret
  exact ⟨rfl, BA.trans (b1.mono BA.size)⟩
end Go.Proofs.YteabclfhmapabaaDoor
end
section
namespace Go.Proofs.YteabclfhmapabaaDoor
open Go.RowKit Go.Maps Go.ChangeMaps
set_option linter.unusedVariables false
set_option linter.unusedSimpArgs false

/-- a name and the block of its variable -/
structure Vb where
  v : ByteArray
  b : Nat
def ptrV (x : Vb) : Value := .pointer (some ⟨x.b, 0, none⟩)
def entV (x : Vb) : Value × Value := (.string x.v, ptrV x)
/-- block b is the map from these names to these variables -/
def MapV (w : World) (b : Nat) (s : List Vb) : Prop :=
  ∃ es clock, w.heap[b]? = some (.map es clock) ∧ es.toList.map (fun e => (e.key, e.val)) = s.map entV ∧ ∀ p ∈ s, p.v.size ≤ maxLen
theorem MapV.lt {w : World} {b : Nat} {s : List Vb} (h : MapV w b s) : b < w.heap.size := by
  obtain ⟨es, c, hb, _⟩ := h
  exact (Array.getElem?_eq_some_iff.1 hb).1
theorem MapV.of_block {w w' : World} {b : Nat} {s : List Vb} (h : MapV w b s) (e : w'.heap[b]? = w.heap[b]?) : MapV w' b s := by
  obtain ⟨es, c, hb, r⟩ := h
  exact ⟨es, c, e.trans hb, r⟩
theorem MapV.made (w : World) : MapV (w.alloc (.map #[] 0)) w.heap.size [] := ⟨#[], 0, heap_alloc_new w _, rfl, by simp⟩
theorem vents_at {es : Array MapEntry} {s : List Vb} (h : es.toList.map (fun e => (e.key, e.val)) = s.map entV) {j : Nat} {e : MapEntry} (hj : es.toList[j]? = some e) :
    ∃ p, s[j]? = some p ∧ e.key = .string p.v ∧ e.val = ptrV p := by
  have h1 := congrArg (fun l => l[j]?) h
  simp only [List.getElem?_map, hj, Option.map_some] at h1
  obtain ⟨p, hp, he⟩ := Option.map_eq_some_iff.1 h1.symm
  simp only [entV, Prod.mk.injEq] at he
  exact ⟨p, hp, he.1.symm, he.2.symm⟩
theorem vents_keys {es : Array MapEntry} {s : List Vb} (h : es.toList.map (fun e => (e.key, e.val)) = s.map entV) (hw : ∀ p ∈ s, p.v.size ≤ maxLen) : ∀ e ∈ es.toList, ∃ l, keyOf Tryd.prog 9 e.key = some l := by
  intro e he
  obtain ⟨j, hj⟩ := List.getElem?_of_mem he
  obtain ⟨p, hp, hk, _⟩ := vents_at h hj
  rw [hk]
  exact ⟨_, keyOf_s _ (hw p (List.mem_of_getElem? hp))⟩
theorem vents_no {es : Array MapEntry} {s : List Vb} (h : es.toList.map (fun e => (e.key, e.val)) = s.map entV) {n : ByteArray} (hn : ∀ e ∈ es.toList, e.key ≠ .string n) : ∀ p ∈ s, p.v ≠ n := by
  intro p hp e
  obtain ⟨j, hj⟩ := List.getElem?_of_mem hp
  have h1 := congrArg (fun l => l[j]?) h
  simp only [List.getElem?_map, hj, Option.map_some] at h1
  obtain ⟨x, hx, he⟩ := Option.map_eq_some_iff.1 h1
  simp only [entV, Prod.mk.injEq] at he
  exact hn x (List.mem_of_getElem? hx) (by rw [he.1, e])
theorem zeroPv (w : World) : (zeroValue 143).run Tryd.prog w = .ok (.pointer none) w := by kernel_rfl
/-- where a name's variable lies; none -/
def seekV (s : List Vb) (n : ByteArray) : Option Vb := s.find? (fun p => decide (p.v = n))
def lookV (s : List Vb) (n : ByteArray) : Value := match seekV s n with
  | some p => ptrV p
  | none => .pointer none
theorem MapV.look {w : World} {b : Nat} {s : List Vb} (h : MapV w b s) (nd : (s.map Vb.v).Nodup) {n : ByteArray} (hn : n.size ≤ maxLen) :
    (Instr.lookup 139 (.map (some b)) (.string n) false).run Tryd.prog w = .ok (lookV s n) w := by
  obtain ⟨es, c, hb, hes, hw⟩ := h
  have hl := keyOf_s n hn
  rcases keyedS.find w hl es.toList (vents_keys hes hw) with ⟨h1, h2⟩ | ⟨j, e, h1, h2, h3⟩
  · have : lookV s n = .pointer none := by
      unfold lookV seekV
      rw [List.find?_eq_none.2 (fun p hp => by simpa using vents_no hes h2 p hp)]
    rw [this]
    simp [Instr.lookup, run_underlying Tryd.underlying139, MapKept.run_getObj_map hb, keyedS.check w _ hl, h1, Result.andThen, zeroPv]
  · obtain ⟨p, hp, hk, hval⟩ := vents_at hes h2
    have e : p.v = n := by
      have := hk.symm.trans h3
      injection this
    have hf : s.find? (fun p => decide (p.v = n)) = some p := by
      cases hf : s.find? (fun p => decide (p.v = n)) with
      | none => exact absurd e (by simpa using List.find?_eq_none.1 hf p (List.mem_of_getElem? hp))
      | some q =>
        have hq : q.v = n := by simpa using List.find?_some hf
        obtain ⟨i, hi⟩ := List.getElem?_of_mem (List.mem_of_find?_eq_some hf)
        have e1 : (s.map Vb.v)[i]? = some n := by rw [List.getElem?_map, hi, ← hq]; rfl
        have e2 : (s.map Vb.v)[j]? = some n := by rw [List.getElem?_map, hp, ← e]; rfl
        obtain ⟨i1, i2⟩ := List.getElem?_eq_some_iff.1 e1
        obtain ⟨j1, j2⟩ := List.getElem?_eq_some_iff.1 e2
        have nd' := List.pairwise_iff_getElem.1 nd
        have : i = j := by
          rcases Nat.lt_trichotomy i j with h | h | h
          · exact absurd (i2.trans j2.symm) (nd' i j i1 j1 h)
          · exact h
          · exact absurd (j2.trans i2.symm) (nd' j i j1 i1 h)
        rw [this, hp] at hi
        rw [Option.some.inj hi]
    unfold lookV seekV
    rw [hf]
    simp [Instr.lookup, run_underlying Tryd.underlying139, MapKept.run_getObj_map hb, keyedS.check w _ hl, h1, hval, Result.andThen]
/-- 'm[n] = v' where n is not there -/
theorem MapV.put {w : World} {b : Nat} {s : List Vb} (h : MapV w b s) {p : Vb} (hs : p.v.size ≤ maxLen) (hn : ∀ q ∈ s, q.v ≠ p.v) :
    ∃ w', (Instr.mapUpdate 139 (.map (some b)) (.string p.v) (ptrV p)).run Tryd.prog w = .ok () w' ∧ MapV w' b (s ++ [p]) ∧ w.mapTurned w' b := by
  obtain ⟨es, c, hb, hes, hw⟩ := h
  have hl := keyOf_s p.v hs
  rcases keyedS.find w hl es.toList (vents_keys hes hw) with ⟨h1, h2⟩ | ⟨j, e, h1, h2, h3⟩
  · refine ⟨setBlock w b (.map (es.push ⟨.string p.v, ptrV p, c⟩) (c + 1)), by simp [Instr.mapUpdate, run_underlying Tryd.underlying139, MapKept.run_getObj_map hb, keyedS.check w false hl, h1, MapKept.run_setObj_map _ hb, Result.andThen, setBlock], ⟨_, _, heap_setBlock_same hb _, by simp [hes, entV], ?_⟩, ?_⟩
    · intro q hq
      rcases List.mem_append.1 hq with hq | hq
      · exact hw q hq
      · simp at hq
        subst hq
        exact hs
    · exact ⟨es, c, _, _, hb, rfl⟩
  · obtain ⟨q, hp, hk, hval⟩ := vents_at hes h2
    refine absurd ?_ (hn q (List.mem_of_getElem? hp))
    have := hk.symm.trans h3
    injection this
end Go.Proofs.YteabclfhmapabaaDoor
end
