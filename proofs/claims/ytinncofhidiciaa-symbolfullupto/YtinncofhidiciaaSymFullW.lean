import Derived.Test.YtinncofhidiciaaSymFull
import Derived.Deep.DeepCutAuto
namespace Go.Proofs.Ytinncofhidiciaa
open Go.RowKit Go.Maps Go.ChangeMaps
set_option linter.unusedVariables false
set_option linter.unusedSimpArgs false
attribute [local go_sem ↓] Go.wp_at_zero Go.wp_at_succ

set_option maxHeartbeats 25600000 in
set_option maxRecDepth 100000 in
theorem full_walk (w : World) (a : Option Addr) (c : Nat) (us : List V) (most at_ : Int) (hmo : -9223372036854775808 ≤ most ∧ most ≤ 9223372036854775807) (hat_ : -9223372036854775808 ≤ at_ ∧ at_ ≤ 9223372036854775807) (hl : us.length ≤ 1048576) (hv : Lv w (.slice a us.length c) us) :
    Calls Try.prog 7 #[.slice a us.length c, .int .i64 most, .int .i64 at_] w fun e w' => e = .returned (.bool true) ∧ Below w.heap.size w w' := by
  have HG := goodL_good us.length us
  have hlen := goodL_length us.length us
  generalize hvs : goodL us.length us = vs at HG hlen
  go_enter Try.func7, Try.ntmps7
  go_wp2_with fail
  refine (lives_any _).mono ?_
  rintro e w1 ⟨rfl, hb1⟩
  go_wp2_with fail
  refine (good_any w1 a c us us.length hl (hv.below hb1)).mono ?_
  rintro e w2 ⟨sv, rfl, hown, hb2⟩
  rw [hvs] at hown
  clear hvs
  have bel2 : Below w.heap.size w w2 := hb1.trans (hb2.mono hb1.size)
  have vwf : ∀ v ∈ vs, v.wf := fun v hx => hv.1 v (HG.mem v hx)
  have lv := lv_of_row hown vwf
  obtain ⟨a2, c2, rfl, hm2, _⟩ := ownsRow_form hown
  clear hb1 hb2 hv
  by_cases hL0 : vs.length = 0
  · have hL0' : (vs.length : Int) = 0 := by omega
    rw [hL0] at hown ⊢
    clear lv hown hL0' hL0 hlen hm2
    go_wp2
    go_ret
    exact ⟨rfl, bel2⟩
  obtain ⟨g, off, rfl, _⟩ := lv.at (i := 0) (by omega)
  obtain ⟨r, kk, hr, hkk, hcase⟩ := residue' most vs.length (by omega)
  have hnz : ¬ ((vs.length : Int) = 0) := by omega
  have hL : vs.length ≤ 1048576 := by omega
  have hlk : (vs.take kk).length = kk := by simp; omega
  have hkL : kk ≤ vs.length := by omega
  have hcap : kk ≤ c2 := by
    obtain ⟨_, ⟨e, _⟩ | ⟨g', cap, cur, e, _, _, h1, _⟩⟩ := hown
    · cases e
    · cases e; omega
  have lvk := lv.take hkL
  have ndk := HG.nodup.sublist (List.take_sublist kk vs)
  have okk : ∀ v ∈ vs.take kk, chk v.k v.n v.s = 0 := fun v hx => HG.ok v (List.mem_of_mem_take hx)
  have hfilled := filled_any w2 (some ⟨g, off, none⟩) c2 (vs.take kk) kk (by omega) (by omega) lvk ndk okk
  rw [hlk] at hfilled
  clear hown lvk ndk okk
  go_upto_if 36 with fail
  go_cut [8] (fun x wc => x = .int .i64 kk ∧ wc = w2)
  case first =>
    rcases hcase with ⟨hr0, rfl⟩ | ⟨hr0, hr1, hr2⟩
    all_goals
      go_wp2_with fail
      go_meet
      exact ⟨rfl, rfl⟩
  case rest =>
    obtain ⟨rfl, ewc⟩ := hcut
    have ewc' := ewc.symm
    clear ewc
    subst ewc'
    clear hcase hr
    go_wp2_with fail
    refine hfilled.mono ?_
    rintro e w3 ⟨t, rfl, T3, hb3⟩
    clear hfilled
    go_wp2
    go_loopw [10] (fun i wr => ∃ q : Nat, q ≤ vs.length ∧ i = .int .i64 q ∧ Below w2.heap.size w2 wr ∧ Table wr w2.heap.size t (vs.take kk) kk) (fun i _ => vs.length - (intOf i).toNat)
    case atStart => exact ⟨0, Nat.zero_le _, rfl, hb3, T3⟩
    case round =>
      obtain ⟨q, hq, rfl, bel, T⟩ := hrel
      clear T3 hb3
      by_cases hlt : q < vs.length
      · obtain ⟨g', off', e', hg, x0, x1, x2⟩ := (lv.below bel).at hlt
        cases e'
        have uwf := vwf _ (atV_mem hlt)
        have uok := HG.ok _ (atV_mem hlt)
        have hin := fun h => find_take_in HG.nodup (q := q) h hkL
        have hout := fun h => find_take_out HG.nodup (q := q) (k := kk) h hlt
        generalize atV vs q = u at x0 x1 x2 uwf uok hin hout
        go_wp2_with fail
        by_cases hqk : q < kk
        · obtain ⟨e1, e2⟩ := hin hqk
          refine (tadd_has T uwf uok (of_decide_eq_true e2)).mono ?_
          rintro e w4 ⟨rfl, hb4⟩
          rw [e1]
          have T4 := T.below hb4
          have bel4 := bel.trans (hb4.mono bel.size)
          have hqk' : (q : Int) < (kk : Int) := by omega
          have hqk2 : ¬ (kk : Int) ≤ (q : Int) := by omega
          have hqk3 : ¬ kk ≤ q := by omega
          clear x0 x1 x2 T bel hb4 hg hin hout e1 e2
          go_wp2
          go_roundw
          case rel => exact ⟨q + 1, by omega, by go_num, bel4, T4⟩
          case measure => simp [intOf]; omega
        · obtain ⟨_, e2⟩ := hout hqk
          refine (tadd_full T uwf uok (of_decide_eq_false e2) (by rw [hlk]; omega)).mono ?_
          rintro e w4 ⟨rfl, hb4⟩
          have T4 := T.below hb4
          have bel4 := bel.trans (hb4.mono bel.size)
          have hqk' : ¬ (q : Int) < (kk : Int) := by omega
          have hqk2 : (kk : Int) ≤ (q : Int) := by omega
          have hqk3 : kk ≤ q := by omega
          clear x0 x1 x2 T bel hb4 hg hin hout e2
          go_wp2
          go_roundw
          case rel => exact ⟨q + 1, by omega, by go_num, bel4, T4⟩
          case measure => simp [intOf]; omega
      · obtain ⟨g', off', e', hg, x0, x1, x2⟩ := (lv.below bel).at hkk
        cases e'
        have uwf := vwf _ (atV_mem hkk)
        have herr20 := row_one_full HG.nodup HG.ok hkk
        generalize atV vs kk = u at x0 x1 x2 uwf herr20
        go_wp2_with fail
        have bal := (Below.refl wr.heap.size wr).alloc (Nat.le_refl _) (.cells #[.int .i8 u.k, .int .i64 u.n, .string u.s] 39)
        refine (trow_err T bal [u] (some ⟨wr.heap.size, 0, none⟩) 1 (lv_one wr u uwf) (by simp) (fun g' off' e => by cases e; exact Nat.le_refl _) (by rw [hlk]; omega) (by rw [herr20]; decide)).mono ?_
        rw [herr20]
        rintro e w4 ⟨rfl, T4, hb4⟩
        have bel4 : Below w2.heap.size w2 w4 := (bel.alloc bel.size _).trans hb4
        clear T bal x0 x1 x2 bel hb4 herr20
        have hne := neq_zero_row2
        go_wp2_with (first
          | (refine wpList_storeNew _ rfl (.tmp 13) (.tmp 97) 43 rfl _ zeroRow rfl rfl infoRow rfl (by decide +kernel) ?_)
          | (refine wpList_loadRowG _ (.tmp 13) 43 rfl rfl w4.heap.size 24 41 zeroRow rfl (heap_alloc_new w4 _) Try.underlying43 infoRow ?_)
          | fail)
        have balr := (Below.refl w4.heap.size w4).alloc (Nat.le_refl _) (.cells zeroRow 43)
        have T4' := T4.below balr
        have bel4' := bel4.alloc bel4.size (.cells zeroRow 43)
        refine (tlen T4').mono ?_
        rintro e w5 ⟨rfl, rfl⟩
        rw [hlk]
        obtain ⟨r', nn, hr', hnn, hcase'⟩ := residue at_ kk
        have hnz' : ¬ ((kk : Int) + 1 = 0) := by omega
        have htt : (vs.take kk).take nn = vs.take nn := by
          rw [List.take_take]
          congr 1
          omega
        have hln : (vs.take nn).length = nn := by simp; omega
        clear T4 bel4 balr hne
        go_upto_if 117 with fail
        go_cut [15] (fun x wc => x = .int .i64 nn ∧ wc = w4.alloc (.cells zeroRow 43))
        case first =>
          rcases hcase' with ⟨hs0, rfl⟩ | ⟨hs0, hs1, hs2⟩
          all_goals
            go_wp2_with fail
            go_meet
            exact ⟨rfl, rfl⟩
        case rest =>
          obtain ⟨rfl, rfl⟩ := hcut
          clear hcase' hr'
          go_wp2_with fail
          refine (tcut_ok T4' (n := nn) (by rw [hlk]; exact hnn)).mono ?_
          rintro e w6 ⟨rfl, T6, hb6⟩
          rw [htt] at T6
          have bel6 := bel4'.trans hb6
          clear T4' bel4' hb6 htt
          by_cases hnk : nn = kk
          · subst hnk
            go_wp2
            go_ret
            exact ⟨rfl, bel2.trans (bel6.mono bel2.size)⟩
          · have hnk' : ¬ (nn : Int) = (kk : Int) := by omega
            have hnkb : ((nn : Int) == (kk : Int)) = false := beq_eq_false_iff_ne.2 hnk'
            go_wp2
            go_loopw [16, 17] (fun o i wr => ∃ p j : Nat, p = nn + j ∧ j ≤ 24 ∧ p ≤ kk + 1 ∧ i = .int .i64 p ∧ Below w6.heap.size w6 wr ∧ wr.ownsRow w6.heap.size 39 3 o j (((vs.drop nn).take j).flatMap V.cells)) (fun _ i _ => kk + 1 - (intOf i).toNat)
            case atStart => exact ⟨nn, 0, rfl, Nat.zero_le _, by omega, rfl, Below.refl _ _, World.ownsRow_nil _ _ _ _⟩
            case round =>
              obtain ⟨p, j, hp, hj, hpk, rfl, bel', hown⟩ := hrel
              have HP : Hid (p = nn + j) := hp
              clear hp
              obtain ⟨ao, co, rfl, hlo, _⟩ := ownsRow_form hown
              have belw : Below w2.heap.size w2 wr := bel6.trans (bel'.mono bel6.size)
              by_cases h1 : p ≤ kk
              · by_cases h2 : j < 24
                · obtain ⟨g', off', e', hg, x0, x1, x2⟩ := (lv.below belw).at (i := p) (by omega)
                  cases e'
                  have HT : Hid ((vs.drop nn).take (j + 1) = (vs.drop nn).take j ++ [atV vs p]) := by
                    have hp := HP.out
                    have hl' : j < (vs.drop nn).length := by simp; omega
                    show _ = _
                    rw [take_snoc hl', atV_eq hl', atV_eq (show p < vs.length by omega), List.getElem_drop]
                    subst hp
                    rfl
                  generalize atV vs p = u at x0 x1 x2 HT
                  have h1' : (p : Int) ≤ (kk : Int) := by omega
                  have h2' : (j : Int) < 24 := by omega
                  have hsz := bel'.size
                  obtain ⟨i0, hi0, hz0, hz1, hz2⟩ := info_parts infoVal
                  go_wp2_with (first
                    | (at_builtin; refine wpList_append_own_at _ rfl _ _ 40 rfl w6.heap.size 39 i0 _ 3 32 Try.underlying40 hi0 hz0 hz1 hz2 rfl (by decide) _ _ _ rfl (own_below hown ((Below.refl _ _).alloc (Nat.le_refl _) _)) ⟨wr.heap.size, 0, none⟩ 1 1 [.int .i8 u.k, .int .i64 u.n, .string u.s] rfl rfl (one_news wr u) (by simp [Value.oneCell']) (by unfold maxLen; omega) (by omega) (by simp; omega) ?_; intro v' w7 hown' hgrow hnil hloc)
                    | go_in)
                  go_roundw
                  case rel => exact ⟨p + 1, j + 1, by have := HP.out; omega, by omega, by omega, by go_num, (bel'.alloc bel'.size _).grown hgrow (by simp; omega) (fun k hk => (hown.lt k hk).1), by rw [HT.out, flat_snoc]; exact hown'⟩
                  case measure => simp [intOf]; omega
                · have hxl : ((vs.drop nn).take j).length = j := by have := HP.out; simp; omega
                  have lvx : Lv wr (.slice ao ((vs.drop nn).take j).length co) ((vs.drop nn).take j) := lv_of_row (base := w6.heap.size) (by rw [hxl]; exact hown) (fun v hx => vwf v (List.mem_of_mem_drop (List.mem_of_mem_take hx)))
                  have hfit := row_fits HG.nodup HG.ok (n := nn) hkk j (by have := HP.out; omega)
                  have hrow := trow_ok T6 bel' ((vs.drop nn).take j) ao co lvx (by omega) (fun g' off' e => by subst e; exact (hown.lt g' rfl).1) (by rw [hln]; omega) hfit.2
                  rw [hxl, hfit.1] at hrow
                  have h2' : ¬ (j : Int) < 24 := by omega
                  have h1' : (p : Int) ≤ (kk : Int) := by omega
                  have hnj : (vs.take (nn + j)).length = nn + j := by have := HP.out; simp; omega
                  clear lvx hfit hown
                  go_wp2_with fail
                  refine hrow.mono ?_
                  rintro e w8 ⟨C, rfl, hC1, hC2, T8, hb8⟩
                  have hCo := row_cells_one hC1 hC2
                  have hCi : (Try.prog.info? 43).map (·.size) = some C.size := by rw [hC1]; exact infoRow
                  have T8' := T8.below ((Below.refl w8.heap.size w8).alloc (Nat.le_refl _) (.cells C 43))
                  have bel8 := (belw.trans hb8).alloc (Nat.le_trans belw.size hb8.size) (.cells C 43)
                  have hle : (nn : Int) + (j : Int) ≤ (kk : Int) := by have := HP.out; omega
                  have HCS : Hid (C.size = 24) := hC1
                  have HCO : Hid _ := hCo
                  have HCI : Hid _ := hCi
                  clear hC1 hC2 hCo hCi hrow T8 hb8
                  go_wp2_with (first
                    | (go_at_call 12; refine (tlen T8').mono ?_; rintro e w9 ⟨rfl, rfl⟩; rw [hnj])
                    | (refine wpList_storeNew _ rfl (.tmp 18) (.tmp 151) 43 rfl _ C rfl rfl HCI.out (by rw [HCS.out]; rfl) HCO.out ?_)
                    | fail)
                  go_ret
                  exact ⟨by simp, bel2.trans (bel8.mono bel2.size)⟩
              · have hxl : ((vs.drop nn).take j).length = j := by have := HP.out; simp; omega
                have lvx : Lv wr (.slice ao ((vs.drop nn).take j).length co) ((vs.drop nn).take j) := lv_of_row (base := w6.heap.size) (by rw [hxl]; exact hown) (fun v hx => vwf v (List.mem_of_mem_drop (List.mem_of_mem_take hx)))
                have hov := row_over HG.nodup HG.ok (n := nn) (j := j) hkk (by have := HP.out; omega) hnn
                have hrow := trow_err T6 bel' ((vs.drop nn).take j) ao co lvx (by omega) (fun g' off' e => by subst e; exact (hown.lt g' rfl).1) (by rw [hln]; omega) (by rw [hov]; decide)
                rw [hxl, hov] at hrow
                have h1' : ¬ (p : Int) ≤ (kk : Int) := by omega
                clear lvx hov hown
                go_wp2_with fail
                refine hrow.mono ?_
                rintro e w8 ⟨rfl, T8, hb8⟩
                have T8' := T8.below ((Below.refl w8.heap.size w8).alloc (Nat.le_refl _) (.cells zeroRow 43))
                have bel8 := (belw.trans hb8).alloc (Nat.le_trans belw.size hb8.size) (.cells zeroRow 43)
                have hle : ¬ (nn : Int) + (j : Int) ≤ (kk : Int) := by have := HP.out; omega
                obtain ⟨g', off', e', hg, x0, x1, x2⟩ := (lv.below bel8).at (i := nn) (by omega)
                cases e'
                have uwf := vwf _ (atV_mem (i := nn) (by omega))
                have hfo := find_take_out HG.nodup (q := nn) (k := nn) (Nat.lt_irrefl _) (by omega)
                generalize atV vs nn = u at x0 x1 x2 uwf hfo
                clear hrow T8 hb8
                go_wp2_with (first
                  | (refine wpList_storeNew _ rfl (.tmp 18) (.tmp 151) 43 rfl _ zeroRow rfl rfl infoRow rfl (by decide +kernel) ?_)
                  | fail)
                refine (tfind T8' uwf).mono ?_
                rintro e w9 ⟨rfl, hb9⟩
                rw [hfo.1, hfo.2]
                have T9 := T8'.below hb9
                have bel9 := bel8.trans (hb9.mono bel8.size)
                clear x0 x1 x2 hfo T8' bel8 hb9
                go_wp2_with (go_at_call 12; refine (tlen T9).mono ?_; rintro e w10 ⟨rfl, rfl⟩; rw [hln])
                go_ret
                exact ⟨rfl, bel2.trans (bel9.mono bel2.size)⟩
end Go.Proofs.Ytinncofhidiciaa
