import Derived.Test.YtlnioaokpmeioaaGreatDoorG17
section
namespace Go.Proofs.YtlnioaokpmeioaaGreatDoor
open Go.RowKit Go.Maps
set_option linter.unusedVariables false
set_option linter.unusedSimpArgs false
attribute [local go_sem ↓] Go.wp_at_zero Go.wp_at_succ

theorem dropA {l : List A5} {k : Nat} (h : k < l.length) : (l.drop k).map A5.t = (atA l k).t :: (l.drop (k + 1)).map A5.t := by rw [List.drop_eq_getElem_cons h, atA_eq h]; rfl
theorem dropL {d : Nat} {l : List XL} {k : Nat} (h : k < l.length) : (l.drop k).flatMap (fun y => termsL d y.x) = termsL d (atL l k).x ++ (l.drop (k + 1)).flatMap (fun y => termsL d y.x) := by rw [List.drop_eq_getElem_cons h, List.flatMap_cons, atL_eq h]
theorem ruRule (v : Value) (w : World) : (Instr.typeAssert (.iface 135 v) 20 135 true).run Tryz.prog w = .ok (.tuple #[v, .bool true]) w := by kernel_rfl
set_option maxHeartbeats 3200000 in
set_option maxRecDepth 100000 in
theorem walkRule_any {B : Nat} {w0 : World} {bo bs bm : Nat} {ns : List ByteArray} {sv : Value} {w : World} (h : Vst B w0 bo bs bm ns sv w) (hB : B = w0.heap.size) (b : Nat) (hb : b < B) (d : Nat) (r : R3) (p : RP) (hx : w0.rangeAt b 0 (r.cells p)) (hR : RIs w0 d r p) (hn : ns.length + (termsR d r).length ≤ 4398046511104) :
    Calls Tryz.prog 71 #[.iface 135 (.pointer (some ⟨b, 0, none⟩)), handV bs bo] w fun e w' => (∃ u, e = .returned u) ∧ ∃ sv', Vst B w0 bo bs bm (vsT ns (termsR d r)) sv' w' := by
  obtain ⟨pr, hd, bd⟩ := r
  obtain ⟨pa, pc, ba, bc⟩ := p
  have hhl := hR.hl
  have hbl := hR.bl
  have h1 := hR.hd
  have h2 := hR.bd
  unfold termsR at hn ⊢
  dsimp only at hhl hbl h1 h2 hn ⊢
  have HEa : Hid (∀ i, i < bd.length → LIs w0 d (atL bd i).x (atL bd i).p) := fun i hi => h2.at_is hi
  have HWa : Hid (∀ i, i < hd.length → (atA hd i).wf) := fun i hi => h1.at_wf hi
  obtain ⟨a1, c1, e1, hc1, hc2, hk1⟩ := h1.form
  cases e1
  obtain ⟨a2, c2, e2, hc3, hc4, hk2⟩ := h2.form
  cases e2
  have HK1 : Hid _ := hk1
  have HK2 : Hid _ := hk2
  have HCC : Hid (∀ u, Below B w0 u → u.cell? ⟨b, 1, none⟩ = some (.slice pa hd.length pc) ∧ u.cell? ⟨b, 2, none⟩ = some (.slice ba bd.length bc)) := fun u hu => ⟨by rw [hu.cell (p := ⟨b, 1, none⟩) hb]; exact hx 1 _ rfl, by rw [hu.cell (p := ⟨b, 2, none⟩) hb]; exact hx 2 _ rfl⟩
  have HV : Hid (Vst B w0 bo bs bm ns sv w) := h
  obtain ⟨c1', c2'⟩ := HCC.out w h.bel
  have t1 := ruRule (.pointer (some ⟨b, 0, none⟩))
  simp only [List.length_append, List.length_map] at hn
  obtain ⟨res, HRS⟩ : ∃ res, Hid (vsT ns (hd.map A5.t ++ bd.flatMap (fun y => termsL d y.x)) = res) := ⟨_, rfl⟩
  rw [HRS.out]
  have HN : Hid _ := hn
  clear hk1 hk2 h1 h2 hR hx h hc2 hc4 hn
  unfold handV
  go_enter Tryz.func71, Tryz.ntmps71
  go_wp2
  clear c1' c2' t1
  go_loopw [21] (fun i wr => ∃ k : Nat, k ≤ hd.length ∧ i = .int .i64 k ∧ ∃ (ns' : List ByteArray) (sv' : Value), Hid (Vst B w0 bo bs bm ns' sv' wr) ∧ ns'.length ≤ ns.length + k ∧ Hid (vsT ns' ((hd.drop k).map A5.t ++ bd.flatMap (fun y => termsL d y.x)) = res)) (fun i _ => hd.length - (intOf i).toNat)
  case atStart => exact ⟨0, Nat.zero_le _, rfl, ns, sv, HV, Nat.le_refl _, HRS⟩
  case round =>
    obtain ⟨k, hk, rfl, ns', sv', HV', hl, HS⟩ := hrel
    obtain ⟨x1, x2⟩ := HCC.out wr HV'.out.bel
    by_cases hlt : k < hd.length
    · have hlt' : (k : Int) < (hd.length : Int) := by omega
      have hk0 : (0 : Int) ≤ (k : Int) := by omega
      obtain ⟨g, off, rfl, hg, hT⟩ := HK1.out (by omega)
      have hgB : g < B := by rw [hB]; exact hg
      have y0 : wr.cell? ⟨g, off + k * 5 + 1, none⟩ = some (.string (atA hd k).t.v) := by rw [HV'.out.bel.cell (p := ⟨g, off + k * 5 + 1, none⟩) hgB]; exact hT k hlt 1 _ rfl
      have hxw := (HWa.out k hlt).t.text
      have HNN : Hid (vsT (stepN ns' (atA hd k).t.v) ((hd.drop (k + 1)).map A5.t ++ bd.flatMap (fun y => termsL d y.x)) = res) := by show _ = res; rw [← HS.out, dropA hlt, List.cons_append, vsT_step]
      have HH : Hid _ := hand_any HV'.out (by have := HN.out; omega) g (off + k * 5 + 1) (atA hd k).t.v hgB hxw y0
      have HLn : Hid _ := stepN_len ns' (atA hd k).t.v
      clear hT hxw y0 HS
      generalize (atA hd k).t.v = t at HNN HH HLn
      go_wp2_with fail
      refine Calls.mono HH.out ?_
      rintro e w2 ⟨⟨u, rfl⟩, sv2, hv2⟩
      go_wp2
      go_roundw
      case rel => exact ⟨k + 1, by omega, by go_num, stepN ns' t, sv2, hv2, by have := HLn.out; omega, HNN⟩
      case measure => simp [intOf]; omega
    · obtain rfl : k = hd.length := by omega
      have HV2 : Hid (vsT ns' (bd.flatMap (fun y => termsL d y.x)) = res) := by show _ = res; rw [← HS.out, List.drop_length]; rfl
      have HVk : Hid _ := HV'.out
      clear HS HV'
      have hnl : ns'.length + (bd.flatMap (fun y => termsL d y.x)).length ≤ 4398046511104 := by have := HN.out; omega
      have HNL : Hid _ := hnl
      clear hnl
      go_wp2
      clear x1 x2
      go_loopw [39] (fun i wr => ∃ k : Nat, k ≤ bd.length ∧ i = .int .i64 k ∧ ∃ (ns1 : List ByteArray) (sv1 : Value), Hid (Vst B w0 bo bs bm ns1 sv1 wr) ∧ Hid (ns1.length + ((bd.drop k).flatMap (fun y => termsL d y.x)).length ≤ 4398046511104) ∧ Hid (vsT ns1 ((bd.drop k).flatMap (fun y => termsL d y.x)) = res)) (fun i _ => bd.length - (intOf i).toNat)
      case atStart => exact ⟨0, Nat.zero_le _, rfl, ns', sv', HVk, HNL, HV2⟩
      case round =>
        obtain ⟨k, hk, rfl, ns1, sv1, HV', HL, HS⟩ := hrel
        obtain ⟨x1, x2⟩ := HCC.out wr HV'.out.bel
        by_cases hlt : k < bd.length
        · have hlt' : (k : Int) < (bd.length : Int) := by omega
          have hk0 : (0 : Int) ≤ (k : Int) := by omega
          obtain ⟨g, off, rfl, hg, hT⟩ := HK2.out (by omega)
          have hgB : g < B := by rw [hB]; exact hg
          have hle := HL.out
          rw [dropL hlt, List.length_append] at hle
          have HH : Hid _ := walkLiteral_any HV'.out hB g (off + k * 16) hgB d (atL bd k).x (atL bd k).p (lat_range (hT k hlt)) (HEa.out k hlt) (by omega)
          have HNN : Hid (vsT (vsT ns1 (termsL d (atL bd k).x)) ((bd.drop (k + 1)).flatMap (fun y => termsL d y.x)) = res) := by show _ = res; rw [← HS.out, dropL hlt, vsT_append]
          have HLn : Hid ((vsT ns1 (termsL d (atL bd k).x)).length + ((bd.drop (k + 1)).flatMap (fun y => termsL d y.x)).length ≤ 4398046511104) := by have := vsT_len (termsL d (atL bd k).x) ns1; show _ ≤ _; omega
          clear hT HS HL hle
          generalize vsT ns1 (termsL d (atL bd k).x) = n2 at HH HNN HLn
          unfold handV at HH
          go_wp2_with fail
          refine Calls.mono HH.out ?_
          rintro e w2 ⟨⟨u, rfl⟩, sv2, hv2⟩
          go_wp2
          go_roundw
          case rel => exact ⟨k + 1, by omega, by go_num, n2, sv2, hv2, HLn, HNN⟩
          case measure => simp [intOf]; omega
        · obtain rfl : k = bd.length := by omega
          have HV3 : Hid (ns1 = res) := by show _ = res; rw [← HS.out, List.drop_length]; rfl
          go_wp2
          go_end0
          rw [← HV3.out]
          exact ⟨⟨_, rfl⟩, _, HV'.out⟩
theorem variablesRule_any (b : Nat) (d : Nat) (r : R3) (p : RP) (w : World) (hb : b < w.heap.size) (hx : w.rangeAt b 0 (r.cells p)) (hR : RIs w d r p) (hn : (termsR d r).length ≤ 4398046511104) :
    Calls Tryz.prog 56 #[.iface 135 (.pointer (some ⟨b, 0, none⟩))] w fun e' w' => ∃ sv, e' = .returned sv ∧ w'.ownsRow w.heap.size 9 1 sv (vsT [] (termsR d r)).length ((vsT [] (termsR d r)).flatMap strB) ∧ Below w.heap.size w w' := by
  have HW : Hid _ := walkRule_any (vst_new w) rfl b hb d r p hx hR (by simpa using hn)
  unfold handV at HW
  have hmk := run_makeSet
  clear hx hR
  go_enter Tryz.func56, Tryz.ntmps56
  go_wp2_with fail
  refine Calls.mono HW.out ?_
  rintro ee w2 ⟨⟨u, rfl⟩, sv2, hv2⟩
  have c0 := hv2.co
  obtain ⟨a2, c2, rfl, _⟩ := own_form hv2.own
  go_wp2
  go_ret
  exact ⟨_, rfl, hv2.own, hv2.bel⟩
theorem vruleVars_any (d : Nat) (r : R3) (p : RP) (w : World) (hR : RIs w d r p) (hn : (termsR d r).length ≤ 4398046511104) : Calls Tryz.prog 38 #[r.val p] w fun e w' => ∃ sv, e = .returned sv ∧ Ls w' sv (vsT [] (termsR d r)).length ((vsT [] (termsR d r)).flatMap strB) ∧ Below w.heap.size w w' := by
  have b0 := (Below.refl w.heap.size w).alloc (Nat.le_refl _) (.cells #[.string r.pr, .slice p.a r.hd.length p.c, .slice p.ba r.bd.length p.bc] 72)
  have HV : Hid _ := variablesRule_any w.heap.size d r p _ (by simp) (RL.range (rl_new w #[.string r.pr, .slice p.a r.hd.length p.c, .slice p.ba r.bd.length p.bc] 72)) (hR.below b0) hn
  clear hR
  unfold R3.val
  go_enter Tryz.func38, Tryz.ntmps38
  go_wp2_with fail
  refine Calls.mono HV.out ?_
  rintro ee w1 ⟨sv, rfl, ho, b1⟩
  go_wp2
  go_ret
  exact ⟨_, rfl, ls_own ho, b0.trans (b1.mono b0.size)⟩
end Go.Proofs.YtlnioaokpmeioaaGreatDoor
end
section
namespace Go.Proofs.YtlnioaokpmeioaaGreatDoor
open Go.RowKit Go.Maps
set_option linter.unusedVariables false
set_option linter.unusedSimpArgs false
attribute [local go_sem ↓] Go.wp_at_zero Go.wp_at_succ

end Go.Proofs.YtlnioaokpmeioaaGreatDoor
end
section
namespace Go.Proofs.YtlnioaokpmeioaaGreatDoor
open Go.RowKit Go.Maps
set_option linter.unusedVariables false
set_option linter.unusedSimpArgs false
attribute [local go_sem ↓] Go.wp_at_zero Go.wp_at_succ
attribute [-go_sem] loadVar storeVar

theorem takeA {l : List A5} {k : Nat} (h : k < l.length) : (l.take (k + 1)).map A5.t = (l.take k).map A5.t ++ [(atA l k).t] := by
  have e : l.take (k + 1) = l.take k ++ [l[k]] := by rw [List.take_add_one, List.getElem?_eq_getElem h]; rfl
  rw [e, List.map_append, atA_eq h]
  rfl
theorem termsR_wf {w : World} {d : Nat} {r : R3} {p : RP} (h : RIs w d r p) : ∀ t ∈ termsR d r, t.wf := by
  intro t ht
  unfold termsR at ht
  rcases List.mem_append.1 ht with h1 | h1
  · obtain ⟨x, hx, rfl⟩ := List.mem_map.1 h1
    exact (h.hd.wf x hx).t
  · obtain ⟨y, hy, h2⟩ := List.mem_flatMap.1 h1
    exact termsL_wf (h.bd.each y hy) t h2
end Go.Proofs.YtlnioaokpmeioaaGreatDoor
end
