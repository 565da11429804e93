import Derived.Test.YtinncofhidiciaaSymBack
import Derived.Deep.DeepCutAuto
namespace Go.Proofs.Ytinncofhidiciaa
open Go.RowKit Go.Maps Go.ChangeMaps
set_option linter.unusedVariables false
set_option linter.unusedSimpArgs false
attribute [local go_sem ↓] Go.wp_at_zero Go.wp_at_succ

set_option maxHeartbeats 25600000 in
set_option maxRecDepth 100000 in
theorem back_walk (w : World) (a : Option Addr) (c : Nat) (us : List V) (a' : Option Addr) (c' : Nat) (ls : List V) (hl : us.length ≤ 1048576) (hll : ls.length ≤ 1048576) (hv : Lv w (.slice a us.length c) us) (hv' : Lv w (.slice a' ls.length c') ls) :
    Calls Try.prog 5 #[.slice a us.length c, .slice a' ls.length c'] w fun e w' => e = .returned (.bool true) ∧ Below w.heap.size w w' := by
  have HG := goodL_good us.length us
  have hlen := goodL_length us.length us
  generalize hvs : goodL us.length us = hs at HG hlen
  go_enter Try.func5, Try.ntmps5
  go_wp2_with fail
  refine (lives_any _).mono ?_
  rintro e w1 ⟨rfl, hb1⟩
  go_wp2_with fail
  refine (good_any w1 a c us us.length hl (hv.below hb1)).mono ?_
  rintro e w2 ⟨sv, rfl, hown, hb2⟩
  rw [hvs] at hown
  clear hvs
  have bel2 : Below w.heap.size w w2 := hb1.trans (hb2.mono hb1.size)
  have vwf : ∀ v ∈ hs, v.wf := fun v hx => hv.1 v (HG.mem v hx)
  have lv := lv_of_row hown vwf
  obtain ⟨a2, c2, rfl, hm2, _⟩ := ownsRow_form hown
  have lv' := hv'.below bel2
  clear hb1 hb2 hv hown
  go_wp2_with fail
  refine (filled_any w2 a2 c2 hs 2147483647 (Nat.le_refl _) (by omega) lv HG.nodup HG.ok).mono ?_
  rintro e w3 ⟨t, rfl, T3, hb3⟩
  have lv3 := lv.below hb3
  have lv3' := lv'.below hb3
  have bel3 : Below w.heap.size w w3 := bel2.trans (hb3.mono bel2.size)
  obtain ⟨i0, hi0, hz0, hz1, hz2⟩ := info_parts infoVal
  clear lv' lv3 bel3
  go_wp2
  go_loopw [7, 8] (fun o i wr => ∃ k : Nat, k ≤ ls.length ∧ i = .int .i64 k ∧ Below w3.heap.size w3 wr ∧ ∃ n, (okL (ls.take k)).length = n ∧ wr.ownsRow w3.heap.size 39 3 o n ((okL (ls.take k)).flatMap V.cells)) (fun _ i _ => ls.length - (intOf i).toNat)
  case atStart => exact ⟨0, Nat.zero_le _, rfl, Below.refl _ _, 0, rfl, World.ownsRow_nil _ _ _ _⟩
  case round =>
    obtain ⟨k, hk, rfl, bel, n, hn, hownx⟩ := hrel
    obtain ⟨ao, co, rfl, hlo, _⟩ := ownsRow_form hownx
    have HN : Hid ((okL (ls.take k)).length = n) := hn
    have hn24 : n ≤ 24 := by rw [← hn]; exact (okL_facts _).1
    have hrest : (¬ k < ls.length ∨ ¬ n < 24) → okL ls = okL (ls.take k) := fun h => by
      rcases h with h | h
      · rw [List.take_of_length_le (by omega)]
      · exact okL_stop (by rw [hn]; exact h)
    have HREST : Hid _ := hrest
    clear hrest
    by_cases hgo : k < ls.length ∧ n < 24
    · obtain ⟨hlt, hn2⟩ := hgo
      obtain ⟨g, off, rfl, hg, x0, x1, x2⟩ := (lv3'.below bel).at hlt
      have uwf := hv'.1 _ (atV_mem hlt)
      have HT : Hid (okL (ls.take (k + 1)) = okStep (okL (ls.take k)) (atV ls k)) := okL_take hlt
      generalize atV ls k = u at x0 x1 x2 uwf HT
      generalize okL (ls.take k) = out at hn HN hownx HT HREST
      subst hn
      go_wp2_with fail
      refine (rcheck_any _ _ _ _ uwf.text).mono ?_
      rintro e w4 ⟨rfl, hb4⟩
      have hown4 := own_below hownx hb4
      have bel4 := bel.trans (hb4.mono bel.size)
      have y0 : w4.cell? ⟨g, off + k * 3, none⟩ = some (.int .i8 u.k) := by rw [hb4.cell (p := ⟨g, _, none⟩) hg]; exact x0
      have y1 : w4.cell? ⟨g, off + k * 3 + 1, none⟩ = some (.int .i64 u.n) := by rw [hb4.cell (p := ⟨g, _, none⟩) hg]; exact x1
      have y2 : w4.cell? ⟨g, off + k * 3 + 2, none⟩ = some (.string u.s) := by rw [hb4.cell (p := ⟨g, _, none⟩) hg]; exact x2
      have hsz := bel4.size
      by_cases hc : chk u.k u.n u.s = 0
      · rw [hc]
        have HS : Hid (okStep out u = out ++ [u]) := by
          show okStep out u = out ++ [u]
          unfold okStep
          rw [if_pos hn2, if_pos hc]
        clear x0 x1 x2 bel hownx hb4 hc
        go_wp2_with (first
          | (at_builtin; refine wpList_append_own_at _ rfl _ _ 40 rfl w3.heap.size 39 i0 _ 3 32 Try.underlying40 hi0 hz0 hz1 hz2 rfl (by decide) _ _ _ rfl (own_below hown4 ((Below.refl _ _).alloc (Nat.le_refl _) _)) ⟨w4.heap.size, 0, none⟩ 1 1 [.int .i8 u.k, .int .i64 u.n, .string u.s] rfl rfl (one_news w4 u) (by simp [Value.oneCell']) (by unfold maxLen; omega) (by omega) (by simp; omega) ?_; intro v' w5 hown' hgrow hnil hloc)
          | go_in)
        go_roundw
        case rel => exact ⟨k + 1, by omega, by go_num, (bel4.alloc bel4.size _).grown hgrow (by simp; omega) (fun j hj => (hown4.lt j hj).1), out.length + 1, by rw [HT.out, HS.out]; simp, by rw [HT.out, HS.out, flat_snoc]; exact hown'⟩
        case measure => simp [intOf]; omega
      · have hc' : (chk u.k u.n u.s == 0) = false := by simpa using hc
        have HS : Hid (okStep out u = out) := by
          show okStep out u = out
          unfold okStep
          rw [if_pos hn2, if_neg hc]
        clear x0 x1 x2 bel hownx hb4 y0 y1 y2
        go_wp2
        go_roundw
        case rel => exact ⟨k + 1, by omega, by go_num, bel4, out.length, by rw [HT.out, HS.out], by rw [HT.out, HS.out]; exact hown4⟩
        case measure => simp [intOf]; omega
    · have hxs := HREST.out (by omega)
      have okf := okL_facts ls
      have xwf : ∀ v ∈ okL ls, v.wf := fun v hx => hv'.1 v (okf.2.1 v hx)
      rw [← hxs] at hn hownx
      have lvx : Lv wr (.slice ao n co) (okL ls) := lv_of_row (base := w3.heap.size) (by rw [hn]; exact hownx) xwf
      generalize okL ls = xs at hn hownx okf xwf lvx
      subst hn
      clear HN hxs HREST
      have hroom : (hs.length : Int) + xs.length ≤ 2147483647 := by have := okf.1; omega
      have BS := back_st (most := 2147483647) HG.nodup okf.2.2 hroom
      have hrow := trow_ok2 T3 bel xs ao co lvx okf.1 (fun g' off' e => by subst e; exact (hownx.lt g' rfl).1) (by omega) BS.err
      have hstl : (rowAll 2147483647 hs xs).vs.length ≤ 2147483647 := by have := BS.size; have := okf.1; omega
      have hst32 : (rowAll 2147483647 hs xs).vs.length ≤ 1048600 := by have := BS.size; have := okf.1; omega
      generalize rowAll 2147483647 hs xs = st at BS hrow hstl hst32
      have xl := okf.1
      have hxb : ∀ g', (Value.slice ao xs.length co).ownBlock = some g' → w3.heap.size ≤ g' ∧ g' < wr.heap.size := fun g' e => hownx.lt g' e
      clear hownx T3 lv3'
      have hcnd : k < ls.length ∨ ¬ k < ls.length := by omega
      have hlt_or : ¬ (k < ls.length ∧ xs.length < 24) := hgo
      clear hgo
      rcases hcnd with hcnd | hcnd
      all_goals
        first
          | (have hx24 : ¬ (xs.length : Int) < 24 := by omega)
          | skip
        go_wp2_with fail
        refine hrow.mono ?_
        rintro e w4 ⟨C, rfl, hC1, hC2, T4, hb4, hk4⟩
        have hCo := row_cells_one hC1 hC2
        have hCi : (Try.prog.info? 43).map (·.size) = some C.size := by rw [hC1]; exact infoRow
        have hsss : ∀ i, i < xs.length → C[i]? = some (.int .i32 (st.ss.getD i 0)) := fun i hi => by
          rw [hC2 i (by omega)]
          unfold rowN
          rw [if_pos (by rw [BS.len]; exact hi)]
        have hszero : ∀ i, i < 24 → ¬ i < xs.length → C[i]? = some (.int .i32 0) := fun i hi h => by
          rw [hC2 i hi]
          unfold rowN
          rw [if_neg (by rw [BS.len]; exact h)]
        have hCz : ∀ i, i < 24 → ∃ z : Int, C[i]? = some (.int .i32 z) ∧ (Lit.int .i32 z).wf = true := fun i hi => by
          by_cases h : i < xs.length
          · refine ⟨_, hsss i h, ?_⟩
            have := BS.lt h
            simp only [Lit.wf, Bool.and_eq_true, decide_eq_true_eq]
            exact ⟨by show (-2147483648 : Int) ≤ _; omega, by show _ ≤ (2147483647 : Int); omega⟩
          · exact ⟨0, hszero i hi h, by decide⟩
        have hneq := neq_row_self C hC1 hCz
        have belB : Below w2.heap.size w2 w4 := (hb3.trans (bel.mono hb3.size)).trans hb4
        have lvx4 : Lv w4 (.slice ao xs.length co) xs := lvx.blocks (fun g' off' ⟨n', c'', e⟩ => by
          cases e
          obtain ⟨h1, h2⟩ := hxb g' rfl
          exact hk4 g' h1 h2) hb4.size
        have bal5 := (Below.refl w4.heap.size w4).alloc (Nat.le_refl _) (.cells C 43)
        have T5 := T4.below bal5
        have lvx5 := lvx4.below bal5
        have hC5 : (w4.alloc (.cells C 43)).heap[w4.heap.size]? = some (.cells C 43 (0, 0)) := heap_alloc_new w4 _
        have htup := tuple_ok T5 hstl C hC1 xs.length xl (fun i => st.ss.getD i 0) hsss (fun i hi => BS.lt hi)
        have HCS : Hid (C.size = 24) := hC1
        have HCO : Hid _ := hCo
        have HCI : Hid _ := hCi
        have HZ : Hid _ := hszero
        have HSS : Hid _ := hsss
        have HC2 : Hid _ := hC2
        clear lvx hrow T4 hb4 hk4 hC1 hC2 hCo hCi hszero hsss hCz bel hb3 lvx4 hxb
        go_wp2_with (first
          | (refine wpList_storeNew _ rfl (.tmp 9) (.tmp 59) 43 rfl _ C rfl rfl HCI.out (by rw [HCS.out]; rfl) HCO.out ?_)
          | (refine wpList_loadRow _ rfl (.tmp 9) 43 rfl w4.heap.size 24 41 C rfl hC5 Try.underlying43 HCI.out ?_)
          | fail)
        refine htup.mono ?_
        rintro e w6 ⟨bd, rfl, hb6, hr6, hbd⟩
        have T6 := T5.below hb6
        have lvx6 := lvx5.below hb6
        have hC6 : w6.heap[w4.heap.size]? = some (.cells C 43 (0, 0)) := (hb6.block _ (by simp)).trans hC5
        have lvy6 : Lv w6 (.slice (some ⟨bd, 0, none⟩) xs.length xs.length) xs := by
          have h := rowV_lv (c := xs.length) hr6 xl (fun i hi => by
            have h1 : atV st.vs (st.ss.getD i 0) ∈ (List.range xs.length).map (fun i => atV st.vs (st.ss.getD i 0)) := List.mem_map.2 ⟨i, by simpa using hi, rfl⟩
            rw [BS.tuple] at h1
            exact xwf _ h1)
          rw [BS.tuple] at h
          exact h
        have belB6 : Below w2.heap.size w2 w6 := (belB.trans (bal5.mono belB.size)).trans (hb6.mono (by have := belB.size; simp; omega))
        have hin : ∀ x ∈ xs, x ∈ st.vs := fun x hx => by
          obtain ⟨i, hi⟩ := List.getElem?_of_mem hx
          obtain ⟨hlt, e⟩ := List.getElem?_eq_some_iff.1 hi
          have := BS.at_ i hlt
          rw [atV_eq hlt, e] at this
          exact List.mem_of_getElem? this
        have hseek := seek_ok T6 xs ao co lvx6 xl hin
        rw [BS.sym] at hseek
        clear htup hb6 hr6 T5 lvx5 hC5 bal5 belB hin
        go_wp2_with (first
          | (go_at_call 12; refine (tlen T6).mono ?_; rintro e w66 ⟨rfl, rfl⟩)
          | fail)
        refine hseek.mono ?_
        rintro e w7 ⟨C', rfl, hC1', hC2', hb7⟩
        have eC : C' = C := by
          apply Array.ext_getElem?
          intro i
          by_cases h : i < 24
          · rw [hC2' i h, HC2.out i h]
          · rw [Array.getElem?_eq_none (by omega), Array.getElem?_eq_none (by rw [HCS.out]; omega)]
        subst eC
        have hw46 : w4.heap.size < w66.heap.size := (Array.getElem?_eq_some_iff.1 hC6).1
        have hC7 : w7.heap[w4.heap.size]? = some (.cells C' 43 (0, 0)) := (hb7.block _ hw46).trans hC6
        have bal8 := (Below.refl w7.heap.size w7).alloc (Nat.le_refl _) (.cells C' 43)
        have b8 := hb7.trans (bal8.mono hb7.size)
        have T8 := T6.below b8
        have lvx8 := lvx6.below b8
        have lvy8 := lvy6.below b8
        have hC8 : (w7.alloc (.cells C' 43)).heap[w4.heap.size]? = some (.cells C' 43 (0, 0)) := (b8.block _ hw46).trans hC6
        have hQ8 : (w7.alloc (.cells C' 43)).heap[w7.heap.size]? = some (.cells C' 43 (0, 0)) := heap_alloc_new w7 _
        have belB8 : Below w2.heap.size w2 (w7.alloc (.cells C' 43)) := belB6.trans (b8.mono belB6.size)
        have hsame := same_self (w7.alloc (.cells C' 43)) ao (some ⟨bd, 0, none⟩) co xs.length xs lvx8 lvy8 (by omega)
        have hw78 : w4.heap.size < (w7.alloc (.cells C' 43)).heap.size := (Array.getElem?_eq_some_iff.1 hC8).1
        clear hseek hC1' hC2' hb7 T6 lvx6 lvy6 hC6 hC7 bal8 b8 belB6 hw46
        go_wp2_with (first
          | (refine wpList_storeNew _ rfl (.tmp 14) (.tmp 75) 43 rfl _ C' rfl rfl HCI.out (by rw [HCS.out]; rfl) HCO.out ?_)
          | (refine wpList_loadRowG _ (.tmp 14) 43 rfl rfl w7.heap.size 24 41 C' rfl hQ8 Try.underlying43 HCI.out ?_)
          | (refine wpList_loadRowG _ (.tmp 9) 43 rfl rfl w4.heap.size 24 41 C' rfl hC8 Try.underlying43 HCI.out ?_)
          | fail)
        refine hsame.mono ?_
        rintro e w9 ⟨rfl, hb9⟩
        have T9 := T8.below hb9
        have lvx9 := lvx8.below hb9
        have hC9 : w9.heap[w4.heap.size]? = some (.cells C' 43 (0, 0)) := (hb9.block _ hw78).trans hC8
        have belB9 : Below w2.heap.size w2 w9 := belB8.trans (hb9.mono belB8.size)
        have hw9 : w4.heap.size < w9.heap.size := (Array.getElem?_eq_some_iff.1 hC9).1
        clear hsame T8 lvx8 lvy8 hC8 hQ8 belB8 hb9 hw78
        go_wp2_with (first
          | (go_at_call 12; refine (tlen T9).mono ?_; rintro e w99 ⟨rfl, rfl⟩)
          | fail)
        clear hneq
        go_loopw [16] (fun i wr => ∃ q : Nat, q ≤ 24 ∧ i = .int .i64 q ∧ Below w99.heap.size w99 wr) (fun i _ => 24 - (intOf i).toNat)
        case atStart => exact ⟨0, Nat.zero_le _, rfl, Below.refl _ _⟩
        case round =>
          obtain ⟨q, hq, rfl, bq⟩ := hrel
          have hCq : wr.heap[w4.heap.size]? = some (.cells C' 43 (0, 0)) := (bq.block _ hw9).trans hC9
          have cat : ∀ {W : World}, W.heap[w4.heap.size]? = some (.cells C' 43 (0, 0)) → ∀ {i : Nat} {x : Value}, C'[i]? = some x → W.cell? ⟨w4.heap.size, i, none⟩ = some x := fun hW i x hx => by
            simp only [World.cell?]
            rw [hW]
            simpa using hx
          have CAT : Hid _ := @cat
          clear cat
          by_cases hq24 : q < 24
          · have hq24' : (q : Int) < 24 := by omega
            by_cases hqx : q < xs.length
            · have hqx' : (q : Int) < (xs.length : Int) := by omega
              have hqx2 : ¬ (xs.length : Int) ≤ (q : Int) := by omega
              have hqx3 : ¬ xs.length ≤ q := by omega
              go_wp2
              go_loopw [17] (fun j wi => ∃ p : Nat, p ≤ q ∧ j = .int .i64 p ∧ Below w99.heap.size w99 wi) (fun j _ => q - (intOf j).toNat)
              case atStart => exact ⟨0, Nat.zero_le _, rfl, bq⟩
              case round =>
                obtain ⟨p, hp, rfl, bp⟩ := hrel
                by_cases hpq : p < q
                · have hCp : wr.heap[w4.heap.size]? = some (.cells C' 43 (0, 0)) := (bp.block _ hw9).trans hC9
                  have r1 := CAT.out hCp (HSS.out q hqx)
                  have r2 := CAT.out hCp (HSS.out p (by omega))
                  obtain ⟨g, off, e1, hg, x0, x1, x2⟩ := (lvx9.below bp).at hqx
                  obtain ⟨g', off', e2, hg', y0, y1, y2⟩ := (lvx9.below bp).at (i := p) (by omega)
                  subst e1
                  cases e2
                  have hinj := BS.inj hqx (show p < xs.length by omega)
                  have heql := run_eql (atV xs q) (atV xs p)
                  have hpq' : (p : Int) < (q : Int) := by omega
                  have hp24 : (p : Int) < 24 := by omega
                  have hpx : (p : Int) < (xs.length : Int) := by omega
                  generalize st.ss.getD q 0 = s1 at r1 hinj
                  generalize st.ss.getD p 0 = s2 at r2 hinj
                  generalize atV xs q = u at x0 x1 x2 hinj heql
                  generalize atV xs p = u' at y0 y1 y2 hinj heql
                  by_cases he : u = u'
                  · have hs : s1 = s2 := hinj.2 he
                    subst hs he
                    rw [decide_eq_true rfl] at heql
                    clear hinj hCp hCq
                    go_wp2_with fail
                    go_quiet (fail)
                    go_wp2
                    go_roundw
                    case rel => exact ⟨p + 1, by omega, by go_num, bp.trans ⟨rfl, rfl, rfl, Nat.le_refl _, fun _ _ => rfl⟩⟩
                    case measure => simp [intOf]; omega
                  · have hs : ¬ s1 = s2 := fun e => he (hinj.1 e)
                    have hs1 : ((s1 : Int) == (s2 : Int)) = false := beq_eq_false_iff_ne.2 (by omega)
                    rw [decide_eq_false he] at heql
                    clear hinj hCp hCq
                    go_wp2_with fail
                    go_quiet (fail)
                    go_wp2
                    go_roundw
                    case rel => exact ⟨p + 1, by omega, by go_num, bp.trans ⟨rfl, rfl, rfl, Nat.le_refl _, fun _ _ => rfl⟩⟩
                    case measure => simp [intOf]; omega
                · have hpq' : ¬ (p : Int) < (q : Int) := by omega
                  go_wp2
                  go_roundw
                  case rel => exact ⟨q + 1, by omega, by go_num, bp⟩
                  case measure => simp [intOf]; omega
            · have hqx' : ¬ (q : Int) < (xs.length : Int) := by omega
              have hqx2 : (xs.length : Int) ≤ (q : Int) := by omega
              have hqx3 : xs.length ≤ q := by omega
              have r1 := CAT.out hCq (HZ.out q hq24 hqx)
              clear hCq
              go_wp2
              go_loopw [17] (fun j wi => j = .int .i64 0 ∧ Below w99.heap.size w99 wi) (fun _ _ => 0)
              case atStart => exact ⟨rfl, bq⟩
              case round =>
                obtain ⟨rfl, bp⟩ := hrel
                by_cases hq0 : 0 < q
                · have hq0' : (0 : Int) < (q : Int) := by omega
                  go_wp2
                  go_roundw
                  case rel => exact ⟨q + 1, by omega, by go_num, bp⟩
                  case measure => simp [intOf]; omega
                · have hq0' : ¬ (0 : Int) < (q : Int) := by omega
                  go_wp2
                  go_roundw
                  case rel => exact ⟨q + 1, by omega, by go_num, bp⟩
                  case measure => simp [intOf]; omega
          · have hq24' : ¬ (q : Int) < 24 := by omega
            go_wp2
            go_loopw [18] (fun i wi => ∃ p : Nat, p ≤ hs.length ∧ i = .int .i64 p ∧ Below w99.heap.size w99 wi) (fun i _ => hs.length - (intOf i).toNat)
            case atStart => exact ⟨0, Nat.zero_le _, rfl, bq⟩
            case round =>
              obtain ⟨p, hp, rfl, bp⟩ := hrel
              by_cases hpl : p < hs.length
              · have bB : Below w2.heap.size w2 wr := belB9.trans (bp.mono belB9.size)
                obtain ⟨g, off, e1, hg, x0, x1, x2⟩ := (lv.below bB).at hpl
                subst e1
                have uwf := vwf _ (atV_mem hpl)
                have hol := BS.old p hpl
                have hsy := symOf_at BS.nodup hol
                have hme : atV hs p ∈ st.vs := List.mem_of_getElem? hol
                generalize atV hs p = u at x0 x1 x2 uwf hsy hme
                go_wp2_with fail
                refine (tfind (T9.below bp) uwf).mono ?_
                rintro e w10 ⟨rfl, hb10⟩
                rw [hsy, decide_eq_true hme]
                have b10 := bp.trans (hb10.mono bp.size)
                clear x0 x1 x2 hg hb10
                go_wp2
                go_roundw
                case rel => exact ⟨p + 1, by omega, by go_num, b10⟩
                case measure => simp [intOf]; omega
              · go_wp2
                go_ret
                refine ⟨rfl, ?_⟩
                have h1 : Below w.heap.size w w99 := bel2.trans (belB9.mono bel2.size)
                exact h1.trans (bp.mono h1.size)
end Go.Proofs.Ytinncofhidiciaa
