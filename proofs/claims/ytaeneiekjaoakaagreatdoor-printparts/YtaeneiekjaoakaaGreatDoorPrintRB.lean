import Derived.Test.YtaeneiekjaoakaaGreatDoorPrintRA
namespace Go.Proofs.YtaeneiekjaoakaaGreatDoor
open Go.RowKit Go.Maps
set_option linter.unusedVariables false
set_option linter.unusedSimpArgs false
attribute [local go_sem ↓] Go.wp_at_zero Go.wp_at_succ

theorem infoStr : (Tryz.prog.info? 9).map (fun i => (i.zero, i.size, i.bytes)) = some (some (.string ⟨#[]⟩), 1, 16) := by kernel_rfl
theorem strT_take {ts : List T} {k : Nat} (h : k < ts.length) : (ts.take (k + 1)).flatMap strT = (ts.take k).flatMap strT ++ [.string (termS (atT ts k))] := by
  rw [List.take_succ_eq_append_getElem h, List.flatMap_append, atT_eq h]
  rfl
set_option maxHeartbeats 1600000 in
theorem r6atom_any (pr : ByteArray) (v : Value) (ts : List T) (w : World) (hok : ts.all termB = true) (h24 : ts.length ≤ 24) (hlen : (atomT pr ts).length ≤ 1000000000) (hl : Lt w v ts) :
    Calls Tryz.prog 20 #[.agg #[.string pr, v]] w fun r w' => r = .returned (.string (txt (atomT pr ts))) ∧ Below w.heap.size w w' := by
  obtain ⟨i0, hi0, hz0, hz1, hz2⟩ := info_parts infoStr
  have hwf := hl.wf
  obtain ⟨a, c, rfl, hc1, hc2, hat⟩ := hl.form
  have BA := (Below.refl w.heap.size w).alloc (Nat.le_refl _) (.cells #[.string pr, .slice a ts.length c] 24)
  have HAT : Hid _ := hat
  have HWF : Hid _ := hwf
  have HLn : Hid _ := hlen
  have HOK : Hid (∀ i, i < ts.length → termB (atT ts i) = true) := fun i hi => by rw [atT_eq hi]; exact List.all_eq_true.1 hok _ (List.getElem_mem hi)
  obtain ⟨SE, hSE⟩ : ∃ SE, txt (atomT pr ts) = SE := ⟨_, rfl⟩
  rw [hSE]
  have HSE : Hid _ := hSE
  have HBA : Hid (Below w.heap.size w _) := BA
  clear hl hat hok hlen hwf hSE BA
  go_enter Tryz.func20, Tryz.ntmps20
  go_wp2
  go_loopw [3, 4] (fun l i wr => ∃ k : Nat, k ≤ ts.length ∧ i = .int .i64 k ∧ Below (w.heap.size + 1) (w.alloc (.cells #[.string pr, .slice a ts.length c] 24)) wr ∧ wr.ownsRow (w.heap.size + 1) 9 1 l k ((ts.take k).flatMap strT)) (fun _ i _ => ts.length - (intOf i).toNat)
  case atStart => exact ⟨0, Nat.zero_le _, rfl, Below.refl _ _, World.ownsRow_nil _ _ _ _⟩
  case round =>
    obtain ⟨k, hk, rfl, bel, hown⟩ := hrel
    obtain ⟨ao, co, rfl, hlo⟩ := own_form hown
    have y0 : wr.cell? ⟨w.heap.size, 0, none⟩ = some (.string pr) := by rw [bel.cell (p := ⟨w.heap.size, 0, none⟩) (by simp)]; go_simp
    have y1 : wr.cell? ⟨w.heap.size, 1, none⟩ = some (.slice a ts.length c) := by rw [bel.cell (p := ⟨w.heap.size, 1, none⟩) (by simp)]; go_simp
    have bel' : Below w.heap.size w wr := HBA.out.trans (bel.mono (Nat.le_succ _))
    have hsz : w.heap.size + 1 ≤ wr.heap.size := by have := bel.size; simpa using this
    by_cases hlt : k < ts.length
    · have hlt' : (k : Int) < (ts.length : Int) := by omega
      obtain ⟨g, off, rfl, hg, hT⟩ := HAT.out (by omega)
      obtain ⟨x0, x1, x2, x3⟩ := (hT k hlt).below bel' hg
      have htw := atT_wf HWF.out k
      have hok := HOK.out k hlt
      have HTK : Hid _ := strT_take hlt
      generalize atT ts k = t at x0 x1 x2 x3 htw hok HTK
      have HK : Hid _ := hok
      clear hT hok bel'
      go_wp2_with fail
      refine (r6term_any t _ htw HK.out).mono ?_
      rintro e w1 ⟨rfl, b1⟩
      have own1 := own_below hown b1
      have bel1 := bel.trans (b1.mono hsz)
      have hsz1 : w.heap.size + 1 ≤ w1.heap.size := Nat.le_trans hsz b1.size
      clear b1 x0 x1 x2 x3 y0 y1 hown bel
      generalize termS t = S at HTK
      go_wp2_with (at_builtin; refine wpList_append_own_at _ rfl _ _ 76 rfl (w.heap.size + 1) 9 i0 _ 1 16 Tryz.underlying76 hi0 hz0 hz1 hz2 rfl (by decide) _ _ _ rfl (own_below own1 ((Below.refl _ _).alloc (Nat.le_refl _) _)) ⟨_, 0, none⟩ 1 1 [.string S] rfl rfl (lit_news _ #[.string S] _) (by simp [Value.oneCell']) (by unfold maxLen; omega) (by omega) (by simp; omega) ?_; intro v' w2 hown' hgrow hnil hloc)
      go_roundw
      case rel => exact ⟨k + 1, by omega, by go_num, (bel1.alloc hsz1 _).grown hgrow (by simp; omega) (fun j hj => (own1.lt j hj).1), by rw [HTK.out]; exact hown'⟩
      case measure => simp [intOf]; omega
    · obtain rfl : k = ts.length := by omega
      rw [List.take_length] at hown
      have HLS : Hid _ := ls_own hown
      clear hown
      go_wp2_with fail
      refine (r6columns_any pr _ ts _ HLn.out HLS.out).mono ?_
      rintro e w1 ⟨rfl, rfl⟩
      rw [HSE.out]
      go_wp2
      go_ret
      exact ⟨rfl, bel'⟩
theorem r4checkAtom_any (pred : ByteArray) (v : Value) (l : List T) (w : World) (hp : pred.size ≤ maxLen) (hl : Lt w v l) : Calls Tryz.prog 19 #[.agg #[.string pred, v]] w fun e w' => e = .returned (.int .i64 (errB (atomB pred l))) ∧ Below w.heap.size w w' := by
  obtain ⟨a, c, rfl, hc1, hc2, -⟩ := hl.form
  have b0 := (Below.refl w.heap.size w).alloc (Nat.le_refl _) (.cells #[.string pred, .slice a l.length c] 24)
  go_enter Tryz.func19, Tryz.ntmps19
  go_wp2_with fail
  refine (ratom_any pred _ l _ hp (hl.below b0)).mono ?_
  rintro e w1 ⟨rfl, b1⟩
  go_wp2_with fail
  refine (said_any _ _).mono ?_
  rintro e w2 ⟨rfl, rfl⟩
  go_wp2
  go_ret
  exact ⟨rfl, b0.trans (b1.mono b0.size)⟩
theorem atomB_len {p : ByteArray} {ts : List T} (h : atomB p ts = true) : ts.length ≤ 24 := by
  unfold atomB at h
  simp only [Bool.and_eq_true, decide_eq_true_eq] at h
  exact h.1.2
set_option maxHeartbeats 1600000 in
theorem r6Atom_any (pr : ByteArray) (v : Value) (ts : List T) (w : World) (hpr : pr.size ≤ maxLen) (hl : Lt w v ts) :
    Calls Tryz.prog 7 #[.agg #[.string pr, v]] w fun r w' => r = .returned (toldV (atomB pr ts) (atomT pr ts)) ∧ Below w.heap.size w w' := by
  have HL : Hid (Lt w v ts) := hl
  have hwf := hl.wf
  obtain ⟨a, c, rfl, hc1, hc2, hat⟩ := hl.form
  have BA := (Below.refl w.heap.size w).alloc (Nat.le_refl _) (.cells #[.string pr, .slice a ts.length c] 24)
  have HL2 : Hid (Lt _ _ ts) := hl.below BA
  clear hat hl
  go_enter Tryz.func7, Tryz.ntmps7
  go_wp2_with fail
  refine (r4checkAtom_any pr _ ts _ hpr HL2.out).mono ?_
  rintro ee w1 ⟨rfl, b1⟩
  have B1 : Hid (Below w.heap.size w w1) := BA.trans (b1.mono BA.size)
  have y0 : w1.cell? ⟨w.heap.size, 0, none⟩ = some (.string pr) := by rw [b1.cell (p := ⟨w.heap.size, 0, none⟩) (by simp)]; go_simp
  have y1 : w1.cell? ⟨w.heap.size, 1, none⟩ = some (.slice a ts.length c) := by rw [b1.cell (p := ⟨w.heap.size, 1, none⟩) (by simp)]; go_simp
  clear b1 BA HL2
  cases hok : atomB pr ts
  · unfold errB
    simp only [Bool.false_eq_true, if_false]
    go_wp2
    go_ret2
    exact ⟨by first | rfl | (rw [hok]; rfl), B1.out⟩
  · unfold errB
    simp only [if_true]
    have HLn : Hid _ := atomT_len hwf hok
    have HOK : Hid _ := atomB_all hok
    have h24 := atomB_len hok
    go_wp2_with fail
    refine (r6atom_any pr _ ts _ HOK.out h24 (by have := HLn.out; omega) (HL.out.below B1.out)).mono ?_
    rintro ee w2 ⟨rfl, b2⟩
    obtain ⟨S, hS⟩ : ∃ S, txt (atomT pr ts) = S := ⟨_, rfl⟩
    rw [hS]
    have HSS : Hid (⟨(atomT pr ts).toArray⟩ = S) := hS
    clear hS
    go_wp2
    go_ret2
    exact ⟨by first | (rw [← HSS.out]; rfl) | (rw [hok, ← HSS.out]; rfl), B1.out.trans (b2.mono B1.out.size)⟩
set_option maxHeartbeats 1600000 in
theorem r6Query_any (pr : ByteArray) (v : Value) (ts : List T) (w : World) (hpr : pr.size ≤ maxLen) (hl : Lt w v ts) :
    Calls Tryz.prog 9 #[.agg #[.string pr, v]] w fun r w' => r = .returned (toldV (atomB pr ts) (atomT pr ts ++ [63])) ∧ Below w.heap.size w w' := by
  have HL : Hid (Lt w v ts) := hl
  have hwf := hl.wf
  obtain ⟨a, c, rfl, hc1, hc2, hat⟩ := hl.form
  have BA := (Below.refl w.heap.size w).alloc (Nat.le_refl _) (.cells #[.string pr, .slice a ts.length c] 24)
  have HL2 : Hid (Lt _ _ ts) := hl.below BA
  clear hat hl
  go_enter Tryz.func9, Tryz.ntmps9
  go_wp2_with fail
  refine (r4checkAtom_any pr _ ts _ hpr HL2.out).mono ?_
  rintro ee w1 ⟨rfl, b1⟩
  have B1 : Hid (Below w.heap.size w w1) := BA.trans (b1.mono BA.size)
  have y0 : w1.cell? ⟨w.heap.size, 0, none⟩ = some (.string pr) := by rw [b1.cell (p := ⟨w.heap.size, 0, none⟩) (by simp)]; go_simp
  have y1 : w1.cell? ⟨w.heap.size, 1, none⟩ = some (.slice a ts.length c) := by rw [b1.cell (p := ⟨w.heap.size, 1, none⟩) (by simp)]; go_simp
  clear b1 BA HL2
  cases hok : atomB pr ts
  · unfold errB
    simp only [Bool.false_eq_true, if_false]
    go_wp2
    go_ret2
    exact ⟨by first | rfl | (rw [hok]; rfl), B1.out⟩
  · unfold errB
    simp only [if_true]
    have HLn : Hid _ := atomT_len hwf hok
    have HOK : Hid _ := atomB_all hok
    have h24 := atomB_len hok
    go_wp2_with fail
    refine (r6atom_any pr _ ts _ HOK.out h24 (by have := HLn.out; omega) (HL.out.below B1.out)).mono ?_
    rintro ee w2 ⟨rfl, b2⟩
    have hadd : txt (atomT pr ts) ++ (⟨#[63]⟩ : ByteArray) = txt (atomT pr ts ++ [63]) := by rw [txt_one, txt_app]
    have hs0 : (txt (atomT pr ts)).size ≤ 30000 := by rw [txt_size]; exact HLn.out.2
    obtain ⟨S, hS⟩ : ∃ S, txt (atomT pr ts) = S := ⟨_, rfl⟩
    obtain ⟨S2, hS2⟩ : ∃ S2, txt (atomT pr ts ++ [63]) = S2 := ⟨_, rfl⟩
    rw [hS] at hs0 ⊢
    rw [hS, hS2] at hadd
    have HSS : Hid (⟨(atomT pr ts ++ [63]).toArray⟩ = S2) := hS2
    clear hS hS2
    go_wp2
    go_ret2
    exact ⟨by first | (rw [← HSS.out]; rfl) | (rw [hok, ← HSS.out]; rfl), B1.out.trans (b2.mono B1.out.size)⟩
end Go.Proofs.YtaeneiekjaoakaaGreatDoor
