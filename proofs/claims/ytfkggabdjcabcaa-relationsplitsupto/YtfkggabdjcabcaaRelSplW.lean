import Derived.Test.YtfkggabdjcabcaaRelSplB
import Derived.Test.YtfkggabdjcabcaaRelLives
import Derived.OwnWalk
namespace Go.Proofs.Ytfkggabdjcabcaa
open Go.RowKit Go.Maps
set_option linter.unusedVariables false
set_option linter.unusedSimpArgs false
attribute [local go_sem ↓] Go.wp_at_zero Go.wp_at_succ
attribute [-go_sem] loadVar Builtin.append_ Instr.build Instr.buildSlice
set_option maxHeartbeats 12800000 in
set_option maxRecDepth 100000 in
theorem splits_walk (a1 a2 a3 : Option Addr) (c1 c2 c3 : Nat) (l mine others : List Tn) (w : World) (h1 : LtC w (.slice a1 l.length c1) l) (h2 : LtC w (.slice a2 mine.length c2) mine) (h3 : LtC w (.slice a3 others.length c3) others) (hn : l.length ≤ 1048576 ∧ mine.length ≤ 1048576 ∧ others.length ≤ 1048576) :
    Calls Try.prog 4 #[.slice a1 l.length c1, .slice a2 mine.length c2, .slice a3 others.length c3] w fun e w' => e = .returned (.bool true) ∧ Below w.heap.size w w' := by
  obtain ⟨n1, n2, n3⟩ := hn
  have HLV := Lib.hid (lives10_true w)
  have HL0 := Lib.hid (And.intro h1 (And.intro h2 h3))
  clear h1 h2 h3
  go_enter Try.func4, Try.ntmps4
  go_wp2_with fail
  refine HLV.out.mono ?_
  rintro e w1 ⟨rfl, b1⟩
  have HB1 := Lib.hid b1
  have HL1 := Lib.hid (HL0.out.1.below b1)
  have HL2 := Lib.hid (HL0.out.2.1.below b1)
  have HL3 := Lib.hid (HL0.out.2.2.below b1)
  have HTU := Lib.hid (turned_any 3 (by omega) (by omega) _ l w1 HL1.out.lt (by omega))
  clear b1 HLV HL0
  go_wp2_with fail
  refine HTU.out.mono ?_
  rintro e w2 ⟨t, m, sv, o, rfl, hts⟩
  obtain ⟨ao, co, rfl, _⟩ := own_form hts.own
  have HSZ := Lib.hid (turnL_size 3 l)
  have HCL := Lib.hid (clone_yes hts.rel (by have := HSZ.out.1; omega))
  have HTS := Lib.hid hts
  have HROK : Hid (∀ r ∈ (turnL 3 l).1, RowOk r) := hts.rel.ok
  clear hts HTU
  go_wp2_with fail
  refine HCL.out.mono ?_
  rintro e w3 ⟨t2, m2, sv2, rfl, hr2, b3⟩
  have HTW := Lib.hid (Tw.start HTS.out hr2 b3)
  have hp := rel_ptr t2 w3
  have HAr := Lib.hid (arity_yes hr2)
  have HGo := Lib.hid (gone_yes hr2)
  have HLe := Lib.hid (len_yes hr2)
  clear hr2 b3 HCL HTS
  go_wp2_with fail
  refine HAr.out.mono ?_
  rintro e w4 ⟨rfl, rfl⟩
  go_wp2_with fail
  refine HGo.out.mono ?_
  rintro e w5 ⟨rfl, rfl⟩
  go_wp2_with fail
  refine HLe.out.mono ?_
  rintro e w6 ⟨rfl, rfl⟩
  clear HAr HGo HLe hp
  go_wp2
  go_loopw [11] (fun i wr => ∃ (k : Nat) (sva svb : Value), k ≤ max mine.length others.length ∧ i = .int .i64 k ∧ Hid (Tw w1 wr t m sva ((mine.take k).foldl (stepT 3) (turnL 3 l)).1 (((mine.take k).foldl (stepT 3) (turnL 3 l)).2 : Nat) t2 m2 svb ((others.take k).foldl (stepT 3) ((turnL 3 l).1, 0)).1 (((others.take k).foldl (stepT 3) ((turnL 3 l).1, 0)).2 : Nat) (.slice ao (turnL 3 l).1.length co) (turnL 3 l).1)) (fun i _ => max mine.length others.length - (intOf i).toNat)
  case atStart => exact ⟨0, _, _, Nat.zero_le _, rfl, HTW.out⟩
  case round =>
    obtain ⟨k, sva, svb, hk, rfl, HT⟩ := hrel
    clear HTW
    have hlm : (∃ off r g f, (k : Int) < (mine.length : Int) ∧ (0 : Int) ≤ (k : Int) ∧ a2 = some ⟨g, f, none⟩ ∧ Hid (RowOk r) ∧ Hid (∀ u, Below w1.heap.size w1 u → (loadVar 4 ⟨g, f + k * 25, none⟩).run Try.prog u = .ok (.bool off) u ∧ (loadVar 27 ⟨g, f + k * 25 + 1, none⟩).run Try.prog u = .ok (rowV r) u) ∧ Hid ((mine.take (k + 1)).foldl (stepT 3) (turnL 3 l) = stepT 3 ((mine.take k).foldl (stepT 3) (turnL 3 l)) (off, r))) ∨ (¬ (k : Int) < (mine.length : Int) ∧ Hid ((mine.take (k + 1)).foldl (stepT 3) (turnL 3 l) = (mine.take k).foldl (stepT 3) (turnL 3 l))) := by
      by_cases hlt : k < mine.length
      · obtain ⟨x, hx⟩ : ∃ x, mine[k]? = some x := ⟨mine[k], List.getElem?_eq_getElem hlt⟩
        obtain ⟨g, f, e, hro, hld⟩ := Lt.loads HL2.out hx
        exact .inl ⟨x.1, x.2, g, f, by omega, by omega, e, hro, hld, fold_take hx⟩
      · exact .inr ⟨by omega, fold_over (by omega)⟩
    have hlo : (∃ off r g f, (k : Int) < (others.length : Int) ∧ (0 : Int) ≤ (k : Int) ∧ a3 = some ⟨g, f, none⟩ ∧ Hid (RowOk r) ∧ Hid (∀ u, Below w1.heap.size w1 u → (loadVar 4 ⟨g, f + k * 25, none⟩).run Try.prog u = .ok (.bool off) u ∧ (loadVar 27 ⟨g, f + k * 25 + 1, none⟩).run Try.prog u = .ok (rowV r) u) ∧ Hid ((others.take (k + 1)).foldl (stepT 3) ((turnL 3 l).1, 0) = stepT 3 ((others.take k).foldl (stepT 3) ((turnL 3 l).1, 0)) (off, r))) ∨ (¬ (k : Int) < (others.length : Int) ∧ Hid ((others.take (k + 1)).foldl (stepT 3) ((turnL 3 l).1, 0) = (others.take k).foldl (stepT 3) ((turnL 3 l).1, 0))) := by
      by_cases hlt : k < others.length
      · obtain ⟨x, hx⟩ : ∃ x, others[k]? = some x := ⟨others[k], List.getElem?_eq_getElem hlt⟩
        obtain ⟨g, f, e, hro, hld⟩ := Lt.loads HL3.out hx
        exact .inl ⟨x.1, x.2, g, f, by omega, by omega, e, hro, hld, fold_take hx⟩
      · exact .inr ⟨by omega, fold_over (by omega)⟩
    by_cases hne : k < mine.length ∨ k < others.length
    · have HZ1 := fold_len (ar := 3) (mine.take k) (turnL 3 l)
      have HZ2 := fold_len (ar := 3) (others.take k) ((turnL 3 l).1, 0)
      have hmk : (mine.take k).length ≤ mine.length := (List.take_sublist _ _).length_le
      have hok : (others.take k).length ≤ others.length := (List.take_sublist _ _).length_le
      have hz := turnL_size 3 l
      have z1 : ((mine.take k).foldl (stepT 3) (turnL 3 l)).1.length ≤ 1000000000 := by omega
      have z2 : ((mine.take k).foldl (stepT 3) (turnL 3 l)).2 ≤ 1000000000 := by omega
      have z3 : ((others.take k).foldl (stepT 3) ((turnL 3 l).1, 0)).1.length ≤ 1000000000 := by simp only at HZ2; omega
      have z4 : ((others.take k).foldl (stepT 3) ((turnL 3 l).1, 0)).2 ≤ 1000000000 := by simp only at HZ2; omega
      clear HZ1 HZ2 hmk hok hz
      generalize (mine.take k).foldl (stepT 3) (turnL 3 l) = S1 at HT hlm z1 z2 ⊢
      generalize (others.take k).foldl (stepT 3) ((turnL 3 l).1, 0) = S2 at HT hlo z3 z4 ⊢
      obtain ⟨rs1, gn1⟩ := S1
      obtain ⟨rs2, gn2⟩ := S2
      simp only at HT z1 z2 z3 z4 hlm hlo ⊢
      rcases hlm with ⟨off1, r1, g1, f1, hlt1, hk01, rfl, HRO1, HLD1, HS1⟩ | ⟨hn1, HS1⟩
      · obtain ⟨lb1, lr1⟩ := HLD1.out _ HT.out.bel
        unfold rowV at lr1
        cases off1 with
        | true =>
          have HRM := Lib.hid (remove_turn HT.out.r1 HT.out.bel.size (by omega) (by omega) r1 HRO1.out)
          unfold rowV at HRM
          go_wp2_with fail
          refine HRM.out.mono ?_
          rintro e w5 ⟨b5, sv5, rfl, hT, hrel, hloc⟩
          have HX1 := Lib.hid (HT.out.turn hT hrel hloc)
          clear hT hrel hloc HT HRM lb1 lr1
          rcases hlo with ⟨off2, r2, g2, f2, hlt2, hk02, rfl, HRO2, HLD2, HS2⟩ | ⟨hn2, HS2⟩
          · obtain ⟨lb2, lr2⟩ := HLD2.out _ HX1.out.bel
            unfold rowV at lr2
            cases off2 with
            | true =>
              have HRM := Lib.hid (remove_turn HX1.out.r2 HX1.out.bel.size (by omega) (by omega) r2 HRO2.out)
              unfold rowV at HRM
              go_wp2_with fail
              refine HRM.out.mono ?_
              rintro e w6 ⟨b6, sv6, rfl, hT, hrel, hloc⟩
              have HX := Lib.hid (HX1.out.swap.turn hT hrel hloc).swap
              clear hT hrel hloc HX1 HRM lb2 lr2
              go_wp2
              go_roundw
              case rel => exact ⟨k + 1, _, _, by omega, by go_num, by rw [HS1.out, HS2.out]; exact HX.out⟩
              case measure => simp [intOf]; omega
            | false =>
              have HRM := Lib.hid (add_turn HX1.out.r2 HX1.out.bel.size (by omega) r2 HRO2.out)
              unfold rowV at HRM
              go_wp2_with fail
              refine HRM.out.mono ?_
              rintro e w6 ⟨b6, c6, sv6, rfl, hT, hrel, hloc⟩
              have HX := Lib.hid (HX1.out.swap.turn hT hrel hloc).swap
              clear hT hrel hloc HX1 HRM lb2 lr2
              go_wp2
              go_roundw
              case rel => exact ⟨k + 1, _, _, by omega, by go_num, by rw [HS1.out, HS2.out]; exact HX.out⟩
              case measure => simp [intOf]; omega
          · have HX := HX1
            clear HX1
            go_wp2
            go_roundw
            case rel => exact ⟨k + 1, _, _, by omega, by go_num, by rw [HS1.out, HS2.out]; exact HX.out⟩
            case measure => simp [intOf]; omega
        | false =>
          have HRM := Lib.hid (add_turn HT.out.r1 HT.out.bel.size (by omega) r1 HRO1.out)
          unfold rowV at HRM
          go_wp2_with fail
          refine HRM.out.mono ?_
          rintro e w5 ⟨b5, c5, sv5, rfl, hT, hrel, hloc⟩
          have HX1 := Lib.hid (HT.out.turn hT hrel hloc)
          clear hT hrel hloc HT HRM lb1 lr1
          rcases hlo with ⟨off2, r2, g2, f2, hlt2, hk02, rfl, HRO2, HLD2, HS2⟩ | ⟨hn2, HS2⟩
          · obtain ⟨lb2, lr2⟩ := HLD2.out _ HX1.out.bel
            unfold rowV at lr2
            cases off2 with
            | true =>
              have HRM := Lib.hid (remove_turn HX1.out.r2 HX1.out.bel.size (by omega) (by omega) r2 HRO2.out)
              unfold rowV at HRM
              go_wp2_with fail
              refine HRM.out.mono ?_
              rintro e w6 ⟨b6, sv6, rfl, hT, hrel, hloc⟩
              have HX := Lib.hid (HX1.out.swap.turn hT hrel hloc).swap
              clear hT hrel hloc HX1 HRM lb2 lr2
              go_wp2
              go_roundw
              case rel => exact ⟨k + 1, _, _, by omega, by go_num, by rw [HS1.out, HS2.out]; exact HX.out⟩
              case measure => simp [intOf]; omega
            | false =>
              have HRM := Lib.hid (add_turn HX1.out.r2 HX1.out.bel.size (by omega) r2 HRO2.out)
              unfold rowV at HRM
              go_wp2_with fail
              refine HRM.out.mono ?_
              rintro e w6 ⟨b6, c6, sv6, rfl, hT, hrel, hloc⟩
              have HX := Lib.hid (HX1.out.swap.turn hT hrel hloc).swap
              clear hT hrel hloc HX1 HRM lb2 lr2
              go_wp2
              go_roundw
              case rel => exact ⟨k + 1, _, _, by omega, by go_num, by rw [HS1.out, HS2.out]; exact HX.out⟩
              case measure => simp [intOf]; omega
          · have HX := HX1
            clear HX1
            go_wp2
            go_roundw
            case rel => exact ⟨k + 1, _, _, by omega, by go_num, by rw [HS1.out, HS2.out]; exact HX.out⟩
            case measure => simp [intOf]; omega
      · have HX1 := HT
        clear HT
        rcases hlo with ⟨off2, r2, g2, f2, hlt2, hk02, rfl, HRO2, HLD2, HS2⟩ | ⟨hn2, HS2⟩
        · obtain ⟨lb2, lr2⟩ := HLD2.out _ HX1.out.bel
          unfold rowV at lr2
          cases off2 with
          | true =>
            have HRM := Lib.hid (remove_turn HX1.out.r2 HX1.out.bel.size (by omega) (by omega) r2 HRO2.out)
            unfold rowV at HRM
            go_wp2_with fail
            refine HRM.out.mono ?_
            rintro e w6 ⟨b6, sv6, rfl, hT, hrel, hloc⟩
            have HX := Lib.hid (HX1.out.swap.turn hT hrel hloc).swap
            clear hT hrel hloc HX1 HRM lb2 lr2
            go_wp2
            go_roundw
            case rel => exact ⟨k + 1, _, _, by omega, by go_num, by rw [HS1.out, HS2.out]; exact HX.out⟩
            case measure => simp [intOf]; omega
          | false =>
            have HRM := Lib.hid (add_turn HX1.out.r2 HX1.out.bel.size (by omega) r2 HRO2.out)
            unfold rowV at HRM
            go_wp2_with fail
            refine HRM.out.mono ?_
            rintro e w6 ⟨b6, c6, sv6, rfl, hT, hrel, hloc⟩
            have HX := Lib.hid (HX1.out.swap.turn hT hrel hloc).swap
            clear hT hrel hloc HX1 HRM lb2 lr2
            go_wp2
            go_roundw
            case rel => exact ⟨k + 1, _, _, by omega, by go_num, by rw [HS1.out, HS2.out]; exact HX.out⟩
            case measure => simp [intOf]; omega
        · exact absurd hne (by omega)
    · have hmk : mine.take k = mine := List.take_of_length_le (by omega)
      have hok : others.take k = others := List.take_of_length_le (by omega)
      have HW : Hid (Tw w1 wr t m sva (turnL 3 (l ++ mine)).1 ((turnL 3 (l ++ mine)).2 : Nat) t2 m2 svb (turnL 3 (againT (turnL 3 l).1 ++ others)).1 ((turnL 3 (againT (turnL 3 l).1 ++ others)).2 : Nat) (.slice ao (turnL 3 l).1.length co) (turnL 3 l).1) := by
        have := HT.out
        rw [hmk, hok] at this
        rw [turnL_append, turnL_clone]
        exact this
      have hk1 : ¬ ((k : Int) < (mine.length : Int)) := by omega
      have hk2 : ¬ ((k : Int) < (others.length : Int)) := by omega
      clear HT hlm hlo hmk hok hk hne
      have hwr := HW.out.bel
      have n0 : wr.ownsRow wr.heap.size 41 25 (.slice none 0 0) 0 (flatT []) := ⟨by simp [flatT, maxLen], .inl ⟨rfl, rfl⟩⟩
      obtain ⟨o1, wa, ra, owa, ba, sa⟩ := app_turns (w0 := wr) (ts1 := []) (n := 0) rfl n0 (Below.refl _ _) (Nat.le_refl _) (HL1.out.below hwr) (by omega) 22
      obtain ⟨aa, ca, rfl, _⟩ := own_form owa
      simp only [Nat.zero_add, List.nil_append] at owa ra
      obtain ⟨o2, wb, rb, owb, bb, sb⟩ := app_turns (w0 := wr) (ts1 := l) rfl owa ba sa (HL2.out.below (hwr.trans (ba.mono hwr.size))) (by omega) 22
      obtain ⟨ab, cb, rfl, _⟩ := own_form owb
      have hLb : LtC wb (.slice ab (l ++ mine).length cb) (l ++ mine) := own_LtC (by rw [List.length_append]; exact owb) (fun x hx => (List.mem_append.1 hx).elim (HL1.out.1 x) (HL2.out.1 x))
      rw [List.length_append] at hLb
      have HTA := Lib.hid (turned_any 3 (by omega) (by omega) _ (l ++ mine) wb hLb.lt (by rw [List.length_append]; omega))
      have HWB := Lib.hid (HW.out.keep bb)
      have hzA := (turnL_size 3 (l ++ mine)).1
      rw [List.length_append] at hzA
      have hzR := HSZ.out.1
      have hzB := (turnL_size 3 (againT (turnL 3 l).1 ++ others)).1
      rw [List.length_append, show (againT (turnL 3 l).1).length = (turnL 3 l).1.length by simp [againT]] at hzB
      clear hwr n0 owa ba sa owb bb sb hLb HW
      go_wp2_with fail
      refine HTA.out.mono ?_
      rintro e wc ⟨t3, m3, sv3, o3, rfl, hts3⟩
      obtain ⟨ac, cc, rfl, _⟩ := own_form hts3.own
      have HWC := Lib.hid (HWB.out.keep hts3.bel)
      have HOA := Lib.hid (And.intro hts3.own hts3.rel.ok)
      have HLa := Lib.hid (len_yes hts3.rel)
      have HGa := Lib.hid (gone_yes hts3.rel)
      have HLr := Lib.hid (len_yes HWC.out.r1)
      have HGr := Lib.hid (gone_yes HWC.out.r1)
      clear hts3 HTA HWB ra rb hk1 hk2
      generalize turnL 3 (l ++ mine) = SA at HWC HOA HLa HGa HLr HGr hzA ⊢
      obtain ⟨rsA, gA⟩ := SA
      simp only at HWC HOA HLa HGa HLr HGr hzA ⊢
      go_wp2_with fail
      refine HLa.out.mono ?_
      rintro e wc ⟨rfl, rfl⟩
      go_wp2_with fail
      refine HLr.out.mono ?_
      rintro e wc ⟨rfl, rfl⟩
      go_wp2_with fail
      refine HGa.out.mono ?_
      rintro e wc ⟨rfl, rfl⟩
      go_wp2_with fail
      refine HGr.out.mono ?_
      rintro e wc ⟨rfl, rfl⟩
      clear HLa HLr HGa HGr
      have HI0 : Hid (wc.ownsRow wc.heap.size 41 25 (.slice none 0 0) 0 (flatT (againT ((turnL 3 l).1.take 0))) ∧ Below wc.heap.size wc wc) := ⟨⟨by simp [flatT, againT, maxLen], .inl ⟨rfl, rfl⟩⟩, Below.refl _ _⟩
      generalize hrow : (turnL 3 l).1 = rows at HWC HI0 hzB hzR HROK ⊢
      have HROW := Lib.hid hrow
      clear hrow
      go_wp2
      go_loopw [14, 15] (fun av iv wr => ∃ (q : Nat) (aq : Option Addr) (cq : Nat), q ≤ rows.length ∧ iv = .int .i64 q ∧ av = .slice aq q cq ∧ Hid (wr.ownsRow wc.heap.size 41 25 (.slice aq q cq) q (flatT (againT (rows.take q))) ∧ Below wc.heap.size wc wr)) (fun _ iv _ => rows.length - (intOf iv).toNat)
      case atStart => exact ⟨0, none, 0, Nat.zero_le _, rfl, rfl, HI0⟩
      case round =>
        obtain ⟨q, aq, cq, hq, rfl, rfl, HI⟩ := hrel
        clear HI0
        by_cases hqt : q < rows.length
        · have hqt' : (q : Int) < (rows.length : Int) := by omega
          have hq0 : (0 : Int) ≤ (q : Int) := by omega
          obtain ⟨y, hy⟩ : ∃ y, rows[q]? = some y := ⟨rows[q], List.getElem?_eq_getElem hqt⟩
          have HWR := Lib.hid (HWC.out.keep HI.out.2)
          obtain ⟨g, rfl⟩ : ∃ g, ao = some ⟨g, 0, none⟩ := by
            obtain ⟨_, h | ⟨g, cap, cur, e, _⟩⟩ := HWR.out.own
            · omega
            · cases e; exact ⟨g, rfl⟩
          have hyo : RowOk y := HROK.out y (List.mem_of_getElem? hy)
          have hl1 := run_loadAtRow rfl HWR.out.own (fun x hx => (HROK.out x hx).len) hy
          have hbd := fun u => run_buildTurn hyo.len u
          have hsl := fun u => run_sliceTurn hyo.len u
          obtain ⟨a', c', w3, hap, hown, hb3⟩ := again_push (by simp; omega) HI.out.1 HI.out.2 hyo (by omega) 22
          have ht : rows.take (q + 1) = rows.take q ++ [y] := by rw [List.take_add_one, hy]; rfl
          rw [← ht] at hown
          have HN := Lib.hid (And.intro hown hb3)
          unfold rowV at hl1 hbd
          clear hown hb3 HI HWR hy hyo ht
          go_wp2
          go_roundw
          case rel => exact ⟨q + 1, a', c', by omega, by go_num, rfl, HN⟩
          case measure => simp [intOf]; omega
        · obtain rfl : q = rows.length := by omega
          simp only [List.take_length] at HI
          have hb2 := HI.out.2
          have hag : (againT rows).length = rows.length := by simp [againT]
          obtain ⟨o4, wd, rd, owd, bd, sd⟩ := app_turns (w0 := wc) (ts1 := againT rows) (n := rows.length) hag.symm HI.out.1 hb2 hb2.size (HL3.out.below (HWC.out.bel.trans (hb2.mono HWC.out.bel.size))) (by omega) 22
          obtain ⟨ad, cd, rfl, _⟩ := own_form owd
          have hLd : LtC wd (.slice ad (againT rows ++ others).length cd) (againT rows ++ others) := own_LtC (by rw [List.length_append, hag]; exact owd) (fun x hx => (List.mem_append.1 hx).elim (fun h => by
            obtain ⟨r, hr, rfl⟩ := List.mem_map.1 h
            exact HROK.out r hr) (HL3.out.1 x))
          rw [List.length_append, hag] at hLd
          have HTB := Lib.hid (turned_any 3 (by omega) (by omega) _ (againT rows ++ others) wd hLd.lt (by rw [List.length_append, hag]; omega))
          have HWD := Lib.hid (HWC.out.keep bd)
          have HOD := Lib.hid (own_below HOA.out.1 bd)
          clear hb2 owd bd sd hLd HI HWC hag
          go_wp2_with fail
          refine HTB.out.mono ?_
          rintro e we ⟨t4, m4, sv4, o4, rfl, hts4⟩
          obtain ⟨ae, ce, rfl, _⟩ := own_form hts4.own
          have HWE := Lib.hid (HWD.out.keep hts4.bel)
          have HOA2 := Lib.hid (And.intro (own_below HOD.out hts4.bel) HOA.out.2)
          have HOB := Lib.hid (And.intro hts4.own hts4.rel.ok)
          have HLa := Lib.hid (len_yes hts4.rel)
          have HGa := Lib.hid (gone_yes hts4.rel)
          have HLr := Lib.hid (len_yes HWE.out.r2)
          have HGr := Lib.hid (gone_yes HWE.out.r2)
          clear hts4 HTB HWD HOD HOA rd
          generalize turnL 3 (againT rows ++ others) = SB at HWE HOB HLa HGa HLr HGr hzB ⊢
          obtain ⟨rsB, gB⟩ := SB
          simp only at HWE HOB HLa HGa HLr HGr hzB ⊢
          go_wp2_with fail
          refine HLa.out.mono ?_
          rintro e we ⟨rfl, rfl⟩
          go_wp2_with fail
          refine HLr.out.mono ?_
          rintro e we ⟨rfl, rfl⟩
          go_wp2_with fail
          refine HGa.out.mono ?_
          rintro e we ⟨rfl, rfl⟩
          go_wp2_with fail
          refine HGr.out.mono ?_
          rintro e we ⟨rfl, rfl⟩
          clear HLa HLr HGa HGr
          have HBE : Hid (Below we.heap.size we we) := Below.refl _ _
          go_wp2
          go_loopw [18] (fun iv wr => ∃ q : Nat, q ≤ rsA.length ∧ iv = .int .i64 q ∧ Hid (Below we.heap.size we wr)) (fun iv _ => rsA.length - (intOf iv).toNat)
          case atStart => exact ⟨0, Nat.zero_le _, rfl, HBE.out⟩
          case round =>
            obtain ⟨q, hq, rfl, HI⟩ := hrel
            by_cases hqt : q < rsA.length
            · have hqt' : (q : Int) < (rsA.length : Int) := by omega
              have hq0 : (0 : Int) ≤ (q : Int) := by omega
              obtain ⟨y, hy⟩ : ∃ y, rsA[q]? = some y := ⟨rsA[q], List.getElem?_eq_getElem hqt⟩
              have hyo : RowOk y := HOA2.out.2 y (List.mem_of_getElem? hy)
              obtain ⟨g, rfl⟩ : ∃ g, ac = some ⟨g, 0, none⟩ := by
                obtain ⟨_, h | ⟨g, cap, cur, e, _⟩⟩ := HOA2.out.1
                · omega
                · cases e; exact ⟨g, rfl⟩
              have HAT := Lib.hid (at_any (HWE.out.keep HI.out).r1 q y hy (by omega))
              have HY := Lib.hid (And.intro hy hyo)
              clear hy hyo
              go_wp2_with fail
              refine HAT.out.mono ?_
              rintro e w5 ⟨rfl, b5⟩
              have hst := store_fresh w5 y HY.out.2.len
              have hA := (Below.refl w5.heap.size w5).alloc (Nat.le_refl _) (.cells (rowC y) 27)
              have HB5 := Lib.hid ((HI.out.trans (b5.mono HI.out.size)).trans (hA.mono (HI.out.trans (b5.mono HI.out.size)).size))
              have HRA := Lib.hid (rowAt_new w5 y)
              have h24 : y.length = 24 := HY.out.2.len
              clear hA b5 HAT HI
              unfold rowV
              go_upto_region 35 with fail
              generalize w5.alloc (.cells (rowC y) 27) = W5 at HB5 HRA hst ⊢
              clear hst
              have l5 := run_loadRow (HRA.out.below (Below.refl _ _).drew) HY.out.2.len
              have hl2 := run_loadAtRow rfl (own_below HOA2.out.1 HB5.out.drew) (fun x hx => (HOA2.out.2 x hx).len) HY.out.1
              have hne := fun u => run_neqRow HY.out.2 HY.out.2 u
              have hne' : ∀ u : World, (binOp .neq 27 (.agg (List.map cellI y).toArray) (.agg (List.map cellI y).toArray)).run Try.prog u = .ok (.bool false) u := fun u => by
                have := hne u
                unfold rowV at this
                rw [this]
                simp
              unfold rowV at l5 hl2
              clear hne HY
              go_wp2_with fail
              refine region_once ?_
              apply Exists.intro
              apply Exists.intro
              refine ⟨?_, ?_⟩
              · go_region
                all_goals exact ⟨rfl, rfl, rfl⟩
              clear l5 hl2 hne'
              go_wp2
              go_roundw
              case rel => exact ⟨q + 1, by omega, by go_num, HB5.out.drew⟩
              case measure => simp [intOf]; omega
            · obtain rfl : q = rsA.length := by omega
              clear HBE
              have HBE := HI
              clear HI hq hqt
              go_wp2
              go_loopw [21] (fun iv wr => ∃ q : Nat, q ≤ rsB.length ∧ iv = .int .i64 q ∧ Hid (Below we.heap.size we wr)) (fun iv _ => rsB.length - (intOf iv).toNat)
              case atStart => exact ⟨0, Nat.zero_le _, rfl, HBE.out⟩
              case round =>
                obtain ⟨q, hq, rfl, HI⟩ := hrel
                by_cases hqt : q < rsB.length
                · have hqt' : (q : Int) < (rsB.length : Int) := by omega
                  have hq0 : (0 : Int) ≤ (q : Int) := by omega
                  obtain ⟨y, hy⟩ : ∃ y, rsB[q]? = some y := ⟨rsB[q], List.getElem?_eq_getElem hqt⟩
                  have hyo : RowOk y := HOB.out.2 y (List.mem_of_getElem? hy)
                  obtain ⟨g, rfl⟩ : ∃ g, ae = some ⟨g, 0, none⟩ := by
                    obtain ⟨_, h | ⟨g, cap, cur, e, _⟩⟩ := HOB.out.1
                    · omega
                    · cases e; exact ⟨g, rfl⟩
                  have HAT := Lib.hid (at_any (HWE.out.keep HI.out).r2 q y hy (by omega))
                  have HY := Lib.hid (And.intro hy hyo)
                  clear hy hyo
                  go_wp2_with fail
                  refine HAT.out.mono ?_
                  rintro e w5 ⟨rfl, b5⟩
                  have hst := store_fresh w5 y HY.out.2.len
                  have hA := (Below.refl w5.heap.size w5).alloc (Nat.le_refl _) (.cells (rowC y) 27)
                  have HB5 := Lib.hid ((HI.out.trans (b5.mono HI.out.size)).trans (hA.mono (HI.out.trans (b5.mono HI.out.size)).size))
                  have HRA := Lib.hid (rowAt_new w5 y)
                  have h24 : y.length = 24 := HY.out.2.len
                  clear hA b5 HAT HI
                  unfold rowV
                  go_upto_region 41 with fail
                  generalize w5.alloc (.cells (rowC y) 27) = W5 at HB5 HRA hst ⊢
                  clear hst
                  have l5 := run_loadRow (HRA.out.below (Below.refl _ _).drew) HY.out.2.len
                  have hl2 := run_loadAtRow rfl (own_below HOB.out.1 HB5.out.drew) (fun x hx => (HOB.out.2 x hx).len) HY.out.1
                  have hne := fun u => run_neqRow HY.out.2 HY.out.2 u
                  have hne' : ∀ u : World, (binOp .neq 27 (.agg (List.map cellI y).toArray) (.agg (List.map cellI y).toArray)).run Try.prog u = .ok (.bool false) u := fun u => by
                    have := hne u
                    unfold rowV at this
                    rw [this]
                    simp
                  unfold rowV at l5 hl2
                  clear hne HY
                  go_wp2_with fail
                  refine region_once ?_
                  apply Exists.intro
                  apply Exists.intro
                  refine ⟨?_, ?_⟩
                  · go_region
                    all_goals exact ⟨rfl, rfl, rfl⟩
                  clear l5 hl2 hne'
                  go_wp2
                  go_roundw
                  case rel => exact ⟨q + 1, by omega, by go_num, HB5.out.drew⟩
                  case measure => simp [intOf]; omega
                · obtain rfl : q = rsB.length := by omega
                  clear HBE
                  have HBE := HI
                  clear HI hq hqt
                  go_wp2
                  go_ret
                  exact ⟨rfl, HB1.out.trans ((HWE.out.bel.trans (HBE.out.mono HWE.out.bel.size)).mono HB1.out.size)⟩
end Go.Proofs.Ytfkggabdjcabcaa
