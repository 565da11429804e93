import Derived.Test.YtknoffjfhnljcaaDoorFaLines
namespace Go.Proofs.YtknoffjfhnljcaaDoor
open Go.RowKit Go.Maps
set_option linter.unusedVariables false
set_option linter.unusedSimpArgs false
attribute [local go_sem ↓] Go.wp_at_zero Go.wp_at_succ

def strG (t : List UInt8) : List Value := [.string (txt t)]
def preG (p : ByteArray) (tx : List (List UInt8)) (k : Nat) : List UInt8 := p.data.toList ++ [40] ++ upG tx k
def headT (p : ByteArray) (tx : List (List UInt8)) : List UInt8 := p.data.toList ++ colG tx
theorem preG_le (p : ByteArray) {tx : List (List UInt8)} {k : Nat} (h : k ≤ tx.length) (h0 : tx.length ≠ 0) : (preG p tx k).length < (headT p tx).length := by
  have h1 := upG_le tx k (tx.length - k)
  rw [show k + (tx.length - k) = tx.length by omega] at h1
  unfold preG headT colG
  rw [if_neg h0]
  simp only [List.length_append, List.length_cons, List.length_nil]
  omega
theorem preG_end (p : ByteArray) {tx : List (List UInt8)} (h0 : tx.length ≠ 0) : preG p tx tx.length ++ [41] = headT p tx := by
  unfold preG headT colG
  rw [if_neg h0]
  simp only [List.append_assoc]
theorem preG_zero (p : ByteArray) (tx : List (List UInt8)) : p ++ (⟨#[40]⟩ : ByteArray) = txt (preG p tx 0) := by
  conv => lhs; rw [← txt_bytes p, txt_one, txt_app]
  simp [preG, upG]
set_option maxHeartbeats 1600000 in
theorem r6columnsG_any (pr : ByteArray) (v : Value) (tx : List (List UInt8)) (w : World) (hlen : (headT pr tx).length ≤ 1000000000) (hl : Ls w v tx.length (tx.flatMap strG)) :
    Calls Tryd.prog 26 #[.string pr, v] w fun r w' => r = .returned (.string (txt (headT pr tx))) ∧ w' = w := by
  obtain ⟨hmax, a, c, rfl, hc1, hc2, hk⟩ := hl
  unfold maxLen at hmax
  by_cases h0 : tx.length = 0
  · have e0 : txt (headT pr tx) = pr := by unfold headT colG; rw [if_pos h0, List.append_nil, txt_bytes]
    rw [e0]
    have h0' : ((tx.length : Nat) : Int) = 0 := by omega
    clear hk e0
    go_enter Tryd.func26, Tryd.ntmps26
    go_wp2
    go_ret
    exact ⟨rfl, rfl⟩
  · obtain ⟨g, off, rfl, hg, hf⟩ := hk (by omega)
    have hF : Hid (∀ k, k < tx.length → w.cell? ⟨g, off + k, none⟩ = some (.string (txt (tx.getD k [])))) := fun k hk => by
      have := hf.elem (k := 1) (fun _ => rfl) [] (j := 0) hk (by decide) (u := .string (txt (tx.getD k []))) rfl
      simpa using this
    have h0' : ¬ ((tx.length : Nat) : Int) = 0 := by omega
    have HLn : Hid _ := hlen
    have HN0 : Hid (tx.length ≠ 0) := h0
    have hz := preG_zero pr tx
    have hps : pr.size ≤ 1000000000 := by
      have : pr.size ≤ (headT pr tx).length := by unfold headT; rw [List.length_append, len_toList]; omega
      omega
    obtain ⟨S0, hS0⟩ : ∃ S0, txt (preG pr tx 0) = S0 := ⟨_, rfl⟩
    rw [hS0] at hz
    have HS0 : Hid _ := hS0
    obtain ⟨SE, hSE⟩ : ∃ SE, txt (headT pr tx) = SE := ⟨_, rfl⟩
    rw [hSE]
    have HSE : Hid _ := hSE
    clear hf hk hlen h0 hS0 hSE
    go_enter Tryd.func26, Tryd.ntmps26
    go_wp2
    go_loopw [5, 6] (fun s i wr => ∃ k : Nat, k ≤ tx.length ∧ i = .int .i64 k ∧ ∃ S, s = .string S ∧ Hid (txt (preG pr tx k) = S) ∧ Hid (wr = w)) (fun _ i _ => tx.length - (intOf i).toNat)
    case atStart => exact ⟨0, Nat.zero_le _, rfl, S0, rfl, HS0, rfl⟩
    case round =>
      obtain ⟨k, hk, rfl, S, rfl, HS, HW⟩ := hrel
      clear hz HS0 hps
      have hss : S.size ≤ 1000000000 := by
        rw [← HS.out, txt_size]
        have := preG_le pr hk HN0.out
        have := HLn.out
        omega
      by_cases hlt : k < tx.length
      · have hlt' : (k : Int) < (tx.length : Int) := by omega
        have hc : wr.cell? ⟨g, off + k, none⟩ = some (.string (txt (tx.getD k []))) := by rw [HW.out]; exact hF.out k hlt
        have HU : Hid (preG pr tx (k + 1) = preG pr tx k ++ ((if k = 0 then [] else [44, 32]) ++ tx.getD k [])) := by show _ = _; unfold preG; rw [upG]; simp only [List.append_assoc]
        have HLe : Hid _ := preG_le pr (k := k + 1) hlt HN0.out
        generalize tx.getD k [] = t at hc HU
        have hts : (txt t).size ≤ 1000000000 := by
          rw [txt_size]
          have h1 := HLe.out
          have h2 := HLn.out
          have h3 := congrArg List.length HU.out
          rw [List.length_append, List.length_append] at h3
          omega
        by_cases k0 : k = 0
        · have k0' : ¬ (0 : Int) < (k : Int) := by omega
          have hadd : S ++ txt t = txt (preG pr tx (k + 1)) := by rw [HU.out, if_pos k0, List.nil_append, ← HS.out, txt_app]
          obtain ⟨S2, hS2⟩ : ∃ S2, txt (preG pr tx (k + 1)) = S2 := ⟨_, rfl⟩
          rw [hS2] at hadd
          have HS2 : Hid _ := hS2
          clear hS2 k0 HU HLe
          generalize txt t = TS at hc hts hadd
          go_wp2
          go_roundw
          case rel => exact ⟨k + 1, by omega, by go_num, S2, rfl, HS2, HW⟩
          case measure => simp [intOf]; omega
        · have k0' : (0 : Int) < (k : Int) := by omega
          have hadd1 : S ++ (⟨#[44, 32]⟩ : ByteArray) = txt (preG pr tx k ++ [44, 32]) := by rw [← HS.out, show (⟨#[44, 32]⟩ : ByteArray) = txt [44, 32] from rfl, txt_app]
          have hadd : txt (preG pr tx k ++ [44, 32]) ++ txt t = txt (preG pr tx (k + 1)) := by rw [HU.out, if_neg k0, txt_app]; simp only [List.append_assoc]
          obtain ⟨S2, hS2⟩ : ∃ S2, txt (preG pr tx (k + 1)) = S2 := ⟨_, rfl⟩
          obtain ⟨S1, hS1⟩ : ∃ S1, txt (preG pr tx k ++ [44, 32]) = S1 := ⟨_, rfl⟩
          have hs1 : S1.size ≤ 1000000010 := by
            rw [← hS1, txt_size, List.length_append, ← txt_size, HS.out]
            simp only [List.length_cons, List.length_nil]
            omega
          rw [hS2, hS1] at hadd
          rw [hS1] at hadd1
          have HS2 : Hid _ := hS2
          clear hS2 hS1 k0 HU HLe
          generalize txt t = TS at hc hts hadd
          go_wp2
          go_roundw
          case rel => exact ⟨k + 1, by omega, by go_num, S2, rfl, HS2, HW⟩
          case measure => simp [intOf]; omega
      · obtain rfl : k = tx.length := by omega
        have hadd : S ++ (⟨#[41]⟩ : ByteArray) = SE := by rw [← HSE.out, ← preG_end pr HN0.out, ← HS.out, txt_one, txt_app]
        go_wp2
        go_ret
        exact ⟨rfl, HW.out⟩
theorem infoStrF : (Tryd.prog.info? 9).map (fun i => (i.zero, i.size, i.bytes)) = some (some (.string ⟨#[]⟩), 1, 16) := by kernel_rfl
theorem txV_take {vs : List V} {k : Nat} (h : k < vs.length) : (txV (vs.take (k + 1))).flatMap strG = (txV (vs.take k)).flatMap strG ++ [.string (txt (showB (atV vs k)))] := by
  unfold txV
  rw [List.take_succ_eq_append_getElem h, List.map_append, List.flatMap_append, atV_eq h]
  rfl
theorem rshowS_any (t : V) (u : World) (ht : t.wf) (hok : okV t = true) : Calls Tryd.prog 25 #[.agg #[.int .i8 t.k, .int .i64 t.n, .string t.s]] u fun e w' => e = .returned (.tuple #[.string (txt (showB t)), .int .i64 0]) ∧ Below u.heap.size u w' := by
  have hc : chk t.k t.n t.s = 0 := by simpa [okV, chkV] using hok
  have hV : showV t.k t.n t.s = .tuple #[.string (txt (showB t)), .int .i64 0] := by
    rw [← showS_bytes, txt_bytes]
    unfold showV showS
    rw [if_pos hc]
  have := rshow_any t.k t.n t.s u ht.text ht.num0.1 ht.num0.2
  rw [hV] at this
  exact this
set_option maxHeartbeats 1600000 in
theorem r6Fact_any (y : XF) (w : World) (hok : factB y = true) (hF : FIs w y) :
    Calls Tryd.prog 13 #[y.val] w fun r w' => r = .returned (.string (txt (bareT y))) ∧ Below w.heap.size w w' := by
  obtain ⟨i0, hi0, hz0, hz1, hz2⟩ := info_parts infoStrF
  have HLn : Hid (∀ t, bareT y = t → t.length ≤ 30000) := fun t h => by rw [← h]; exact (factT_sz hF hok).1
  obtain ⟨_, h24, hall⟩ := factB_form hok
  obtain ⟨pr, vs, a, c⟩ := y
  have hwf := hF.vs.wf
  obtain ⟨a1, c1, e1, hc1, hc2, hat⟩ := hF.vs.form
  have HB : Hid (bareT ⟨pr, vs, a, c⟩ = headT pr (txV vs)) := rfl
  dsimp only at h24 hall hwf e1 hc1 hc2 hat
  cases e1
  unfold XF.val
  dsimp only
  have HAT : Hid _ := hat
  have HOK : Hid (∀ i, i < vs.length → (atV vs i).wf ∧ okV (atV vs i) = true) := fun i hi => by rw [atV_eq hi]; exact ⟨hwf _ (List.getElem_mem hi), List.all_eq_true.1 hall _ (List.getElem_mem hi)⟩
  obtain ⟨SE, hSE⟩ : ∃ SE, txt (bareT ⟨pr, vs, a, c⟩) = SE := ⟨_, rfl⟩
  rw [hSE]
  have HSE : Hid _ := hSE
  have HBA : Hid (Below w.heap.size w (w.alloc (.cells #[.string pr, .slice a vs.length c] 31))) := (Below.refl w.heap.size w).alloc (Nat.le_refl _) _
  clear hF hat hok hall hwf hSE hc1 hc2
  go_enter Tryd.func13, Tryd.ntmps13
  go_wp2
  go_loopw [3, 4] (fun l i wr => ∃ k : Nat, k ≤ vs.length ∧ i = .int .i64 k ∧ Below (w.heap.size + 1) (w.alloc (.cells #[.string pr, .slice a vs.length c] 31)) wr ∧ wr.ownsRow (w.heap.size + 1) 9 1 l k ((txV (vs.take k)).flatMap strG)) (fun _ i _ => vs.length - (intOf i).toNat)
  case atStart => exact ⟨0, Nat.zero_le _, rfl, Below.refl _ _, World.ownsRow_nil _ _ _ _⟩
  case round =>
    obtain ⟨k, hk, rfl, bel, hown⟩ := hrel
    obtain ⟨ao, co, rfl, hlo⟩ := own_form hown
    have y0 : wr.cell? ⟨w.heap.size, 0, none⟩ = some (.string pr) := by rw [bel.cell (p := ⟨w.heap.size, 0, none⟩) (by simp)]; go_simp
    have y1 : wr.cell? ⟨w.heap.size, 1, none⟩ = some (.slice a vs.length c) := by rw [bel.cell (p := ⟨w.heap.size, 1, none⟩) (by simp)]; go_simp
    have bel' : Below w.heap.size w wr := HBA.out.trans (bel.mono (Nat.le_succ _))
    have hsz : w.heap.size + 1 ≤ wr.heap.size := by have := bel.size; simpa using this
    by_cases hlt : k < vs.length
    · have hlt' : (k : Int) < (vs.length : Int) := by omega
      obtain ⟨g, off, rfl, hg, hT⟩ := HAT.out (by omega)
      obtain ⟨x0, x1, x2⟩ := (hT k hlt).below bel' hg
      obtain ⟨htw, hok⟩ := HOK.out k hlt
      have HTK : Hid _ := txV_take hlt
      generalize atV vs k = t at x0 x1 x2 htw hok HTK
      have HC : Hid (∀ u, Calls Tryd.prog 25 #[.agg #[.int .i8 t.k, .int .i64 t.n, .string t.s]] u fun e w' => e = .returned (.tuple #[.string (txt (showB t)), .int .i64 0]) ∧ Below u.heap.size u w') := fun u => rshowS_any t u htw hok
      clear hT hok bel' htw
      generalize txt (showB t) = S at HTK HC
      go_wp2_with fail
      refine Calls.mono (HC.out _) ?_
      rintro e w1 ⟨rfl, b1⟩
      have own1 := own_below hown b1
      have bel1 := bel.trans (b1.mono hsz)
      have hsz1 : w.heap.size + 1 ≤ w1.heap.size := Nat.le_trans hsz b1.size
      clear b1 x0 x1 x2 y0 y1 hown bel
      go_wp2_with (at_builtin; refine wpList_append_own_at _ rfl _ _ 63 rfl (w.heap.size + 1) 9 i0 _ 1 16 Tryd.underlying63 hi0 hz0 hz1 hz2 rfl (by decide) _ _ _ rfl (own_below own1 ((Below.refl _ _).alloc (Nat.le_refl _) _)) ⟨_, 0, none⟩ 1 1 [.string S] rfl rfl (lit_news _ #[.string S] _) (by simp [Value.oneCell']) (by unfold maxLen; omega) (by omega) (by simp; omega) ?_; intro v' w2 hown' hgrow hnil hloc)
      go_roundw
      case rel => exact ⟨k + 1, by omega, by go_num, (bel1.alloc hsz1 _).grown hgrow (by simp; omega) (fun j hj => (own1.lt j hj).1), by rw [HTK.out]; exact hown'⟩
      case measure => simp [intOf]; omega
    · obtain rfl : k = vs.length := by omega
      rw [List.take_length] at hown
      have HLS : Hid (Ls wr (.slice ao vs.length co) (txV vs).length ((txV vs).flatMap strG)) := by show Ls _ _ _ _; rw [txV_len]; exact ls_own hown
      have HCo : Hid _ := r6columnsG_any pr _ (txV vs) wr (by have := HLn.out _ HB.out; omega) HLS.out
      rw [← HB.out, HSE.out] at HCo
      clear hown
      go_wp2_with fail
      refine Calls.mono HCo.out ?_
      rintro e w1 ⟨rfl, rfl⟩
      go_wp2
      go_ret
      exact ⟨rfl, bel'⟩
theorem txtF_take2 {l : List XF} {k : Nat} (h : k < l.length) : txtF (l.take (k + 1)) = txtF (l.take k) ++ (bareT (atF l k) ++ [46, 10]) := by
  rw [txtF_take h]
  unfold factT
  simp only [List.append_assoc, List.cons_append, List.nil_append]
attribute [-go_sem] loadVar storeVar
set_option maxHeartbeats 3200000 in
set_option maxRecDepth 20000 in
theorem r6Facts_any (v : Value) (l : List XF) (w : World) (hL : Lf w v l) (hs : smallF l) :
    Calls Tryd.prog 6 #[v] w fun e w' => e = .returned (toldF (okF l) (txtF l)) ∧ Below w.heap.size w w' := by
  have hll := hs.len
  have HLn : Hid (∀ k, k ≤ l.length → okF (l.take k) = true → (txtF (l.take k)).length ≤ 1300000000) := fun k hk hok => txtF_len hL hs hk hok
  have HCk : Hid (∀ i, i < l.length → ∀ u, Below w.heap.size w u → Calls Tryd.prog 12 #[.agg (atF l i).cells.toArray] u fun e w' => e = .returned (.bool (factB (atF l i))) ∧ Below u.heap.size u w') := fun i hi u hu => isFact_any (atF l i) u ((hL.each i hi).below hu)
  have HRl : Hid (∀ i, i < l.length → factB (atF l i) = true → ∀ u, Below w.heap.size w u → Calls Tryd.prog 13 #[.agg (atF l i).cells.toArray] u fun e w' => e = .returned (.string (txt (bareT (atF l i)))) ∧ Below u.heap.size u w') := fun i hi hok u hu => r6Fact_any (atF l i) u hok ((hL.each i hi).below hu)
  obtain ⟨a, c, rfl, hc1, hc2, hk⟩ := hL.form
  have HK : Hid _ := hk
  have HTV : Hid (∀ b t, toldF b t = if b then .tuple #[.string ⟨t.toArray⟩, .int .i64 0] else .tuple #[.string ⟨#[]⟩, .int .i64 10]) := fun b t => rfl
  obtain ⟨ov, hov⟩ : ∃ ov, toldF (okF l) (txtF l) = ov := ⟨_, rfl⟩
  rw [hov]
  have HOV : Hid _ := hov
  clear hk hL hs hov hc2
  go_enter Tryd.func6, Tryd.ntmps6
  go_wp2
  go_loopw [4, 5] (fun s i wr => ∃ k : Nat, k ≤ l.length ∧ i = .int .i64 k ∧ ∃ S, s = .string S ∧ Hid (txt (txtF (l.take k)) = S) ∧ Hid (okF (l.take k) = true) ∧ Below w.heap.size w wr) (fun _ i _ => l.length - (intOf i).toNat)
  case atStart => exact ⟨0, Nat.zero_le _, rfl, ⟨#[]⟩, rfl, by simp [Hid, txtF, txt], by simp [Hid, okF], Below.refl _ _⟩
  case round =>
    obtain ⟨k, hk, rfl, S, rfl, HS, HO, bel⟩ := hrel
    by_cases hlt : k < l.length
    · have hlt' : (k : Int) < (l.length : Int) := by omega
      have hk0 : (0 : Int) ≤ (k : Int) := by omega
      obtain ⟨g, off, rfl, hg, hT⟩ := HK.out (by omega)
      have HLd : Hid (∀ u, Below w.heap.size w u → (loadVar 31 ⟨g, off + k * 2, none⟩).run Tryd.prog u = .ok (.agg (atF l k).cells.toArray) u) := fun u hu => load_Fac (range_below (hT k hlt) hu hg) rfl
      have hss : S.size ≤ 1300000000 := by rw [← HS.out, txt_size]; exact HLn.out k hk HO.out
      have HC : Hid _ := HCk.out k hlt
      have HR : Hid _ := HRl.out k hlt
      have HNo : Hid (factB (atF l k) = false → ov = .tuple #[.string ⟨#[]⟩, .int .i64 10]) := fun h => by rw [← HOV.out, okF_not hlt h, HTV.out]; rfl
      have HYe : Hid (factB (atF l k) = true → okF (l.take (k + 1)) = true) := fun h => by rw [okF_take hlt, HO.out, h]; rfl
      have HTk : Hid _ := txtF_take2 hlt
      have HL2 : Hid (okF (l.take (k + 1)) = true → (txtF (l.take (k + 1))).length ≤ 1300000000) := HLn.out (k + 1) hlt
      generalize Value.agg (atF l k).cells.toArray = QV at HLd HC HR
      generalize bareT (atF l k) = rt at HR HTk
      generalize factB (atF l k) = rb at HC HR HNo HYe
      have hld := HLd.out wr bel
      clear hT
      go_wp2_with fail
      refine Calls.mono (HC.out _ bel) ?_
      rintro e w1 ⟨rfl, b1⟩
      have bel1 : Below w.heap.size w w1 := bel.trans (b1.mono bel.size)
      have hld1 := HLd.out w1 bel1
      clear b1 HC hld bel
      cases rb
      · skip
        go_wp2
        go_ret2
        exact ⟨by rw [HNo.out (by first | rfl | trivial)]; rfl, bel1⟩
      · skip
        have HO2 : Hid _ := HYe.out rfl
        have hl2 := HL2.out HO2.out
        rw [HTk.out] at hl2
        have hadd1 : S ++ txt rt = txt (txtF (l.take k) ++ rt) := by rw [← HS.out, txt_app]
        have hadd2 : txt (txtF (l.take k) ++ rt) ++ (⟨#[46, 10]⟩ : ByteArray) = txt (txtF (l.take (k + 1))) := by rw [HTk.out, show (⟨#[46, 10]⟩ : ByteArray) = txt [46, 10] from rfl, txt_app, List.append_assoc]
        obtain ⟨S1, hS1⟩ : ∃ S1, txt (txtF (l.take k) ++ rt) = S1 := ⟨_, rfl⟩
        obtain ⟨S2, hS2⟩ : ∃ S2, txt (txtF (l.take (k + 1))) = S2 := ⟨_, rfl⟩
        have hs1 : S1.size ≤ 1300000000 := by
          rw [← hS1, txt_size, List.length_append]
          simp only [List.length_append] at hl2
          omega
        have hrs : (txt rt).size ≤ 1300000000 := by
          rw [txt_size]
          simp only [List.length_append] at hl2
          omega
        rw [hS1] at hadd1 hadd2
        rw [hS2] at hadd2
        have HS2 : Hid _ := hS2
        have HRx : Hid _ := HR.out rfl
        clear hS1 hS2 hl2 HL2 HTk HR
        generalize txt rt = RS at HRx hrs hadd1
        go_wp2_with fail
        refine Calls.mono (HRx.out _ bel1) ?_
        rintro e w2 ⟨rfl, b2⟩
        have bel2 : Below w.heap.size w w2 := bel1.trans (b2.mono bel1.size)
        clear b2 HRx hld1 bel1
        go_wp2
        go_roundw
        case rel => exact ⟨k + 1, by omega, by go_num, S2, rfl, HS2, HO2, bel2⟩
        case measure => simp [intOf]; omega
    · obtain rfl : k = l.length := by omega
      rw [List.take_length] at HS HO
      have HE : Hid (ov = .tuple #[.string S, .int .i64 0]) := by show _ = _; rw [← HOV.out, HO.out, HTV.out, if_pos rfl, ← HS.out]; rfl
      go_wp2
      go_ret2
      exact ⟨by rw [HE.out]; rfl, bel⟩
end Go.Proofs.YtknoffjfhnljcaaDoor
