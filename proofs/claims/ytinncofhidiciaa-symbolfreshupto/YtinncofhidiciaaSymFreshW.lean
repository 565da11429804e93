import Derived.Test.YtinncofhidiciaaSymFreshM
import Derived.Deep.DeepCutAuto
import Derived.Deep.RegionWith
import Derived.ArgAppend
namespace Go.Proofs.Ytinncofhidiciaa
open Go.RowKit Go.Maps Go.ChangeMaps
set_option linter.unusedVariables false
set_option linter.unusedSimpArgs false
attribute [local go_sem ↓] Go.wp_at_zero Go.wp_at_succ

set_option maxHeartbeats 25600000 in
set_option maxRecDepth 100000 in
theorem fresh_walk (w : World) (a : Option Addr) (c : Nat) (us : List V) (n : Int) (hn : -9223372036854775808 ≤ n ∧ n ≤ 9223372036854775807) (hl : us.length ≤ 1048576) (hv : Lv w (.slice a us.length c) us) :
    Calls Try.prog 8 #[.slice a us.length c, .int .i64 n] w fun e w' => e = .returned (.bool true) ∧ Below w.heap.size w w' := by
  have HG := goodL_good 24 us
  have h24 : (goodL 24 us).length ≤ 24 := by
    have : ∀ (rest out : List V), out.length ≤ 24 → (rest.foldl (goodStep 24) out).length ≤ 24 := by
      intro rest
      induction rest with
      | nil => intro out h; exact h
      | cons u rest ih =>
        intro out h
        refine ih _ ?_
        unfold goodStep
        split
        · split
          · simp; omega
          · exact h
        · exact h
    exact this us [] (by simp)
  generalize hvs : goodL 24 us = vs at HG h24
  go_enter Try.func8, Try.ntmps8
  go_wp2_with fail
  refine (lives_any _).mono ?_
  rintro e w1 ⟨rfl, hb1⟩
  go_wp2_with fail
  refine (good_any w1 a c us 24 hl (hv.below hb1)).mono ?_
  rintro e w2 ⟨sv, rfl, hown, hb2⟩
  rw [hvs] at hown
  clear hvs
  have bel2 : Below w.heap.size w w2 := hb1.trans (hb2.mono hb1.size)
  have vwf : ∀ v ∈ vs, v.wf := fun v hx => hv.1 v (HG.mem v hx)
  have lv := lv_of_row hown vwf
  obtain ⟨a2, c2, rfl, hm2, _⟩ := ownsRow_form hown
  have hvb : ∀ g off, a2 = some ⟨g, off, none⟩ → g < w2.heap.size := fun g off e => by subst e; exact (hown.lt g rfl).2
  have hvc : vs.length ≤ c2 ∧ (a2 = none → c2 = 0) := by
    obtain ⟨_, ⟨e, h0⟩ | ⟨g', cap, cur, e, _, _, h1, _⟩⟩ := hown
    · injection e with e1 e2 e3
      exact ⟨by omega, fun _ => e3⟩
    · injection e with e1 e2 e3
      exact ⟨by omega, fun h => by rw [h] at e1; cases e1⟩
  clear hb1 hb2 hv hown
  go_wp2_with fail
  refine (filled_any w2 a2 c2 vs vs.length (by omega) (Nat.le_refl _) lv HG.nodup HG.ok).mono ?_
  rintro e w3 ⟨t, rfl, T3, hb3⟩
  have hall := rowAll_in (most := vs.length) (vs := vs) (xs := vs) HG.ok (fun x hx => hx)
  have hrow := trow_ahead T3 vs a2 c2 (lv.below hb3) h24 hvb (by omega) (by rw [hall])
  rw [hall] at hrow
  go_wp2_with fail
  refine hrow.mono ?_
  rintro e w4 ⟨C, rfl, hC1, hC2, T4, hb4⟩
  have belB : Below w2.heap.size w2 w4 := hb3.trans hb4
  have hCo := row_cells_one hC1 hC2
  have hCi : (Try.prog.info? 43).map (·.size) = some C.size := by rw [hC1]; exact infoRow
  have hsss : ∀ i, i < vs.length → C[i]? = some (.int .i32 (i : Nat)) := fun i hi => by
    rw [hC2 i (by omega)]
    unfold rowN
    rw [if_pos (by simpa using hi)]
    have e1 : (vs.map (symOf vs)).getD i 0 = symOf vs (atV vs i) := by
      rw [List.getD_eq_getElem?_getD, List.getElem?_map, List.getElem?_eq_getElem hi, atV_eq hi]
      rfl
    rw [e1, symOf_at HG.nodup (by rw [atV_eq hi]; exact List.getElem?_eq_getElem hi)]
  have HCS : Hid (C.size = 24) := hC1
  have HCO : Hid _ := hCo
  have HCI : Hid _ := hCi
  have HC2 : Hid _ := hC2
  have HSS : Hid _ := hsss
  clear hrow hall hb3 hb4 T3 hC1 hC2 hCo hCi hsss
  obtain ⟨r, kk, hr, hkk, hcase⟩ := residue n vs.length
  have hnz : ¬ ((vs.length : Int) + 1 = 0) := by omega
  go_upto_if 48 with (first
    | (refine wpList_storeNew _ rfl (.tmp 7) (.tmp 40) 43 rfl _ C rfl rfl HCI.out (by rw [HCS.out]; rfl) HCO.out ?_)
    | fail)
  go_cut [9] (fun x wc => x = .int .i64 kk ∧ wc = w4.alloc (.cells C 43))
  case first =>
    rcases hcase with ⟨hs0, rfl⟩ | ⟨hs0, hs1, hs2⟩
    all_goals
      go_wp2_with fail
      go_meet
      exact ⟨rfl, rfl⟩
  case rest =>
    obtain ⟨rfl, rfl⟩ := hcut
    clear hcase hr
    go_wp2
    have hsz := freshWorld_size w4 C vs.length kk
    have bW := freshWorld_below w4 C vs.length kk
    have cW := freshWorld_C w4 C vs.length kk
    have zW := @freshWorld_sizes w4 C vs.length kk
    have lW := freshWorld_lists w4 C vs.length kk
    show Code.wp _ _ _ _ (freshWorld w4 C vs.length kk)
    have ZW : Hid _ := @zW
    have LW : Hid _ := @lW
    clear zW lW
    generalize freshWorld w4 C vs.length kk = W0 at hsz bW cW ZW LW ⊢
    go_loopw [12] (fun i wr => ∃ q : Nat, q ≤ 4 ∧ i = .int .i64 q ∧ Below (w4.heap.size + 2) W0 wr ∧ ∃ bs, wr.rowIs (w4.heap.size + 1 + 1) 77 4 (fourC bs (fourN vs.length kk) q) ∧ Four wr (w4.heap.size + 3) q bs (fourN vs.length kk) (fun _ => atV vs)) (fun i _ => 4 - (intOf i).toNat)
    case atStart => exact ⟨0, Nat.zero_le _, rfl, Below.refl _ _, fun _ => 0, LW.out _ _, ⟨fun i hi => absurd hi (by omega), fun i hi => absurd hi (by omega), fun i j _ hj => absurd hj (by omega)⟩⟩
    case round =>
      obtain ⟨q, hq, rfl, bq, bs, hlq, F⟩ := hrel
      have bq4 : Below w4.heap.size w4 wr := bW.trans (bq.mono (by omega))
      have cq : wr.heap[w4.heap.size]? = some (.cells C 43 (0, 0)) := (bq.block _ (by omega)).trans cW
      by_cases hq4 : q < 4
      · have zq : wr.cell? ⟨w4.heap.size + 1, q, none⟩ = some (.int .i64 (fourN vs.length kk q)) := by
          rw [World.cell?_of_block (a := ⟨w4.heap.size + 1, q, none⟩) (bq.block _ (by simp))]
          exact ZW.out hq4
        have hfn : fourN vs.length kk q ≤ vs.length := by unfold fourN; split <;> omega
        have htup := tuple_ok (w := wr.drew) ((T4.below bq4).below ⟨rfl, rfl, rfl, Nat.le_refl _, fun _ _ => rfl⟩) (by omega) C HCS.out (fourN vs.length kk q) (by omega) (fun i => i) (fun i hi => HSS.out i (by omega)) (fun i hi => by omega)
        have hq4' : (q : Int) < 4 := by omega
        obtain ⟨m, hm⟩ : ∃ m, m = fourN vs.length kk q := ⟨_, rfl⟩
        rw [← hm] at zq htup hfn
        have HM : Hid _ := hm
        clear hm
        go_wp2_with fail
        refine wp_region_any (by kernel_rfl) ?_
        change wpAny _ _ _ _ _ _ _ (World.drew _)
        refine wpAny_take (i := 0) (v := .pointer (some ⟨t, 0, none⟩)) rfl (by kernel_rfl) (by kernel_rfl) (by kernel_rfl) (fun _ _ _ h => h) (Or.inl ⟨by rfl, fun w => by go_simp⟩) ?_
        refine wpAny_take (i := 2) (v := .int .i64 q) rfl (by kernel_rfl) (by kernel_rfl) (by kernel_rfl) (fun _ _ _ h => h) (Or.inl ⟨by rfl, fun w => by go_simp⟩) ?_
        refine wpAny_take (i := 3) (v := .pointer (some ⟨w4.heap.size + 1, q, none⟩)) rfl (by kernel_rfl) (by kernel_rfl) (by kernel_rfl) (fun _ _ _ h => h) (Or.inl ⟨by rfl, fun w => by go_simp⟩) ?_
        refine wpAny_ready (rs := [1, 4]) (by kernel_rfl) (by simp) (AllReady.cons rfl (fun K hK => ?_) (AllReady.cons rfl (fun K hK => ?_) AllReady.nil))
        · refine step_load_row rfl (.tmp 7) 43 rfl w4.heap.size 24 41 C rfl cq Try.underlying43 HCI.out ?_
          refine hK _ _ ?_
          clear hK K
          refine wpAny_ready (rs := [4]) (by kernel_rfl) (by simp) (AllReady.cons rfl (fun K hK => ?_) AllReady.nil)
          go_simp
          refine hK _ _ ?_
          clear hK K
          refine wpAny_ready (rs := [5]) (by kernel_rfl) (by simp) (AllReady.cons rfl (fun K hK => ?_) AllReady.nil)
          go_simp
          go_wp2_with (go_at_call 22; refine htup.mono ?_; rintro e w5 ⟨bd, rfl, hb5, hr5, hbd5⟩)
          refine wpAny_take (i := 6) (v := .tuple #[.slice (some ⟨bd, 0, none⟩) m m, .int .i64 0]) rfl (by kernel_rfl) (by kernel_rfl) (by kernel_rfl) (fun _ _ _ h => h) (Or.inl ⟨by rfl, fun w => by go_simp⟩) ?_
          refine wpAny_take (i := 7) (v := .slice (some ⟨bd, 0, none⟩) m m) rfl (by kernel_rfl) (by kernel_rfl) (by kernel_rfl) (fun _ _ _ h => h) (Or.inl ⟨by rfl, fun w => by go_simp⟩) ?_
          refine wpAny_take (i := 8) (v := .int .i64 0) rfl (by kernel_rfl) (by kernel_rfl) (by kernel_rfl) (fun _ _ _ h => h) (Or.inl ⟨by rfl, fun w => by go_simp⟩) ?_
          refine wpAny_take (i := 9) (v := .slice (some ⟨bd, 0, none⟩) m m) rfl (by kernel_rfl) (by kernel_rfl) (by kernel_rfl) (fun _ _ _ h => h) (Or.inl ⟨by rfl, fun w => by go_simp⟩) ?_
          refine wpAny_take (i := 10) (v := .int .i64 0) rfl (by kernel_rfl) (by kernel_rfl) (by kernel_rfl) (fun _ _ _ h => h) (Or.inl ⟨by rfl, fun w => by go_simp⟩) ?_
          refine wpAny_done (by kernel_rfl) ?_ _
          have b5 : Below wr.heap.size wr w5 := (⟨rfl, rfl, rfl, Nat.le_refl _, fun _ _ => rfl⟩ : Below wr.heap.size wr wr.drew).trans hb5
          have hbd : wr.heap.size ≤ bd := hbd5
          have hl5 := hlq.of_block (b5.block _ hlq.lt)
          have c5 := hl5.cell (i := q) (by omega)
          have f5 := hl5.frozen q
          have hset : (w5.setCell ⟨w4.heap.size + 1 + 1, q, none⟩ (.slice (some ⟨bd, 0, none⟩) m m)).rowIs (w4.heap.size + 1 + 1) 77 4 (fourC (fun i => if i = q then bd else bs i) (fourN vs.length kk) (q + 1)) := (hl5.set q (.slice (some ⟨bd, 0, none⟩) m m)).congr fun i _ => (by
            have := fourC_step bs (fourN vs.length kk) q bd i
            rw [← HM.out] at this
            exact this)
          have bs5 := b5.size
          have bsq : ∀ i, i < q → bs i < wr.heap.size := fun i hi => (F.row i hi).lt
          have F5 : Four (w5.setCell ⟨w4.heap.size + 1 + 1, q, none⟩ (.slice (some ⟨bd, 0, none⟩) m m)) (w4.heap.size + 3) (q + 1) (fun i => if i = q then bd else bs i) (fourN vs.length kk) (fun _ => atV vs) := by
            refine Four.snoc (F.blocks (fun k hk1 hk2 => ?_)) ?_ (by have := bq.size; omega) (fun i hi => by have := bsq i hi; omega)
            · rw [Below.heap_setCell w5 ⟨w4.heap.size + 1 + 1, q, none⟩ _ k (by simp; omega)]
              exact b5.block k hk2
            · rw [← HM.out]
              exact hr5.setOther (by simp; have := bq.size; omega) _
          have belf := (bq.trans (b5.mono (Nat.le_trans (by omega) bq.size))).setCell (p := ⟨w4.heap.size + 1 + 1, q, none⟩) (by simp) (.slice (some ⟨bd, 0, none⟩) m m)
          generalize fourC bs (fourN vs.length kk) q q = zz at c5
          clear hb5 hr5 hl5 F hlq bq bq4 cq htup zq hbd5 hfn b5 bsq bs5
          go_wp2
          go_roundw
          case rel => exact ⟨q + 1, by omega, by go_num, belf, _, hset, F5⟩
          case measure => simp [intOf]; omega
        · go_simp
          refine hK _ _ ?_
          clear hK K
          refine wpAny_ready (rs := [1]) (by kernel_rfl) (by simp) (AllReady.cons rfl (fun K hK => ?_) AllReady.nil)
          refine step_load_row rfl (.tmp 7) 43 rfl w4.heap.size 24 41 C rfl cq Try.underlying43 HCI.out ?_
          refine hK _ _ ?_
          clear hK K
          refine wpAny_ready (rs := [5]) (by kernel_rfl) (by simp) (AllReady.cons rfl (fun K hK => ?_) AllReady.nil)
          go_simp
          go_wp2_with (go_at_call 22; refine htup.mono ?_; rintro e w5 ⟨bd, rfl, hb5, hr5, hbd5⟩)
          refine wpAny_take (i := 6) (v := .tuple #[.slice (some ⟨bd, 0, none⟩) m m, .int .i64 0]) rfl (by kernel_rfl) (by kernel_rfl) (by kernel_rfl) (fun _ _ _ h => h) (Or.inl ⟨by rfl, fun w => by go_simp⟩) ?_
          refine wpAny_take (i := 7) (v := .slice (some ⟨bd, 0, none⟩) m m) rfl (by kernel_rfl) (by kernel_rfl) (by kernel_rfl) (fun _ _ _ h => h) (Or.inl ⟨by rfl, fun w => by go_simp⟩) ?_
          refine wpAny_take (i := 8) (v := .int .i64 0) rfl (by kernel_rfl) (by kernel_rfl) (by kernel_rfl) (fun _ _ _ h => h) (Or.inl ⟨by rfl, fun w => by go_simp⟩) ?_
          refine wpAny_take (i := 9) (v := .slice (some ⟨bd, 0, none⟩) m m) rfl (by kernel_rfl) (by kernel_rfl) (by kernel_rfl) (fun _ _ _ h => h) (Or.inl ⟨by rfl, fun w => by go_simp⟩) ?_
          refine wpAny_take (i := 10) (v := .int .i64 0) rfl (by kernel_rfl) (by kernel_rfl) (by kernel_rfl) (fun _ _ _ h => h) (Or.inl ⟨by rfl, fun w => by go_simp⟩) ?_
          refine wpAny_done (by kernel_rfl) ?_ _
          have b5 : Below wr.heap.size wr w5 := (⟨rfl, rfl, rfl, Nat.le_refl _, fun _ _ => rfl⟩ : Below wr.heap.size wr wr.drew).trans hb5
          have hbd : wr.heap.size ≤ bd := hbd5
          have hl5 := hlq.of_block (b5.block _ hlq.lt)
          have c5 := hl5.cell (i := q) (by omega)
          have f5 := hl5.frozen q
          have hset : (w5.setCell ⟨w4.heap.size + 1 + 1, q, none⟩ (.slice (some ⟨bd, 0, none⟩) m m)).rowIs (w4.heap.size + 1 + 1) 77 4 (fourC (fun i => if i = q then bd else bs i) (fourN vs.length kk) (q + 1)) := (hl5.set q (.slice (some ⟨bd, 0, none⟩) m m)).congr fun i _ => (by
            have := fourC_step bs (fourN vs.length kk) q bd i
            rw [← HM.out] at this
            exact this)
          have bs5 := b5.size
          have bsq : ∀ i, i < q → bs i < wr.heap.size := fun i hi => (F.row i hi).lt
          have F5 : Four (w5.setCell ⟨w4.heap.size + 1 + 1, q, none⟩ (.slice (some ⟨bd, 0, none⟩) m m)) (w4.heap.size + 3) (q + 1) (fun i => if i = q then bd else bs i) (fourN vs.length kk) (fun _ => atV vs) := by
            refine Four.snoc (F.blocks (fun k hk1 hk2 => ?_)) ?_ (by have := bq.size; omega) (fun i hi => by have := bsq i hi; omega)
            · rw [Below.heap_setCell w5 ⟨w4.heap.size + 1 + 1, q, none⟩ _ k (by simp; omega)]
              exact b5.block k hk2
            · rw [← HM.out]
              exact hr5.setOther (by simp; have := bq.size; omega) _
          have belf := (bq.trans (b5.mono (Nat.le_trans (by omega) bq.size))).setCell (p := ⟨w4.heap.size + 1 + 1, q, none⟩) (by simp) (.slice (some ⟨bd, 0, none⟩) m m)
          generalize fourC bs (fourN vs.length kk) q q = zz at c5
          clear hb5 hr5 hl5 F hlq bq bq4 cq htup zq hbd5 hfn b5 bsq bs5
          go_wp2
          go_roundw
          case rel => exact ⟨q + 1, by omega, by go_num, belf, _, hset, F5⟩
          case measure => simp [intOf]; omega
      · obtain rfl : q = 4 := by omega
        rw [show ((4 : Nat) : Int) = (4 : Int) from rfl]
        have hnle : ∀ i, fourN vs.length kk i ≤ vs.length := fun i => by unfold fourN; split <;> omega
        have NLE : Hid _ := hnle
        clear hnle LW
        obtain ⟨wA, hwA⟩ : ∃ x, x = wr := ⟨wr, rfl⟩
        subst hwA
        have zA : ∀ i, i < 4 → wA.cell? ⟨w4.heap.size + 1, i, none⟩ = some (.int .i64 (fourN vs.length kk i)) := fun i hi => by
          rw [World.cell?_of_block (a := ⟨w4.heap.size + 1, i, none⟩) (bq.block _ (by simp))]
          exact ZW.out hi
        have ZA : Hid _ := zA
        have szA : w4.heap.size + 3 ≤ wA.heap.size := by have := bq.size; omega
        clear zA ZW hq4 hq
        go_wp2
        go_loopw [15] (fun i wr => ∃ q : Nat, q ≤ 4 ∧ i = .int .i64 q ∧ Below wA.heap.size wA wr) (fun i _ => 4 - (intOf i).toNat)
        case atStart => exact ⟨0, Nat.zero_le _, rfl, Below.refl _ _⟩
        case round =>
          obtain ⟨q, hq, rfl, bA⟩ := hrel
          by_cases hq4 : q < 4
          · have hm := NLE.out q
            have hmc : fourN vs.length kk q ≤ c2 := by omega
            have zq : wr.cell? ⟨w4.heap.size + 1, q, none⟩ = some (.int .i64 (fourN vs.length kk q)) := by
              rw [bA.cell (p := ⟨w4.heap.size + 1, q, none⟩) (by simp; omega)]
              exact ZA.out q hq4
            have lq : wr.cell? ⟨w4.heap.size + 1 + 1, q, none⟩ = some (.slice (some ⟨bs q, 0, none⟩) (fourN vs.length kk q) (fourN vs.length kk q)) := by
              rw [bA.cell (p := ⟨w4.heap.size + 1 + 1, q, none⟩) (by simp; omega), hlq.cell (by omega)]
              unfold fourC
              rw [if_pos hq4]
            have hrq := (F.row q hq4).of_block (bA.block _ (F.row q hq4).lt)
            have lvq : Lv wr.drew (.slice (some ⟨bs q, 0, none⟩) (vs.take (fourN vs.length kk q)).length (fourN vs.length kk q)) (vs.take (fourN vs.length kk q)) := by
              have h := rowV_lv (w := wr.drew) (c := fourN vs.length kk q) hrq.drew (by omega) (fun i hi => vwf _ (atV_mem (by omega)))
              rw [range_take hm] at h
              exact h
            have lvt : Lv wr.drew (.slice a2 (vs.take (fourN vs.length kk q)).length c2) (vs.take (fourN vs.length kk q)) := by
              have b0 : Below w2.heap.size w2 wr.drew := (((belB.trans (bq4.mono belB.size)).trans (bA.mono (Nat.le_trans belB.size bq4.size))) : Below w2.heap.size w2 wr).trans ⟨rfl, rfl, rfl, Nat.le_refl _, fun _ _ => rfl⟩
              exact (lv.below b0).take hm
            have hsame := same_self wr.drew (some ⟨bs q, 0, none⟩) a2 (fourN vs.length kk q) c2 _ lvq lvt (by simp; omega)
            have htl : (vs.take (fourN vs.length kk q)).length = fourN vs.length kk q := by simp; omega
            rw [htl] at hsame
            have hq4' : (q : Int) < 4 := by omega
            have hc20 := hvc.2
            have hmL : fourN vs.length kk q ≤ vs.length := hm
            generalize fourN vs.length kk q = m at zq lq hsame hmc hmL
            clear hrq lvq lvt htl hm
            cases a2 with
            | none =>
              have hc0 := hc20 rfl
              subst hc0
              have hm0 : m = 0 := by omega
              subst hm0
              go_wp2_with fail
              go_region_with (go_at_call 24; refine hsame.mono ?_; rintro e w5 ⟨rfl, hb5⟩)
              all_goals
                have bA5 : Below wA.heap.size wA w5 := bA.trans ((⟨rfl, rfl, rfl, Nat.le_refl _, fun _ _ => rfl⟩ : Below wA.heap.size wr wr.drew).trans (hb5.mono bA.size))
                go_wp2
                go_roundw
                case rel => exact ⟨q + 1, by omega, by go_num, bA5⟩
                case measure => simp [intOf]; omega
            | some ad =>
              have hmc' : (m : Int) ≤ (c2 : Int) := by omega
              go_wp2_with fail
              go_region_with (go_at_call 24; refine hsame.mono ?_; rintro e w5 ⟨rfl, hb5⟩)
              all_goals
                have bA5 : Below wA.heap.size wA w5 := bA.trans ((⟨rfl, rfl, rfl, Nat.le_refl _, fun _ _ => rfl⟩ : Below wA.heap.size wr wr.drew).trans (hb5.mono bA.size))
                go_wp2
                go_roundw
                case rel => exact ⟨q + 1, by omega, by go_num, bA5⟩
                case measure => simp [intOf]; omega
          · obtain rfl : q = 4 := by omega
            rw [show ((4 : Nat) : Int) = (4 : Int) from rfl]
            obtain ⟨wB, hwB⟩ : ∃ x, x = wr := ⟨wr, rfl⟩
            subst hwB
            have FB : Four wB (w4.heap.size + 3) 4 bs (fourN vs.length kk) (fillF vs 0 0) := (F.blocks (fun k _ hk => bA.block k hk)).congr (fun i _ j _ => fillF_start vs i j)
            have lB := hlq.of_block (bA.block _ hlq.lt)
            have cB : wB.heap[w4.heap.size]? = some (.cells C 43 (0, 0)) := (bA.block _ (by omega)).trans cq
            have b4B : Below w4.heap.size w4 wB := bq4.trans (bA.mono (by omega))
            have szB : w4.heap.size + 3 ≤ wB.heap.size := Nat.le_trans szA bA.size
            clear F hlq cq bq4 bA ZA hq4 hq bq hsz bW cW
            go_wp2
            go_loopw [16] (fun i wr => ∃ q : Nat, q ≤ 4 ∧ i = .int .i64 q ∧ Below (w4.heap.size + 3) wB wr ∧ Four wr (w4.heap.size + 3) 4 bs (fourN vs.length kk) (fillF vs q 0)) (fun i _ => 4 - (intOf i).toNat)
            case atStart => exact ⟨0, Nat.zero_le _, rfl, Below.refl _ _, FB⟩
            case round =>
              obtain ⟨q, hq, rfl, bB, F⟩ := hrel
              clear FB
              by_cases hq4 : q < 4
              · have hq4' : (q : Int) < 4 := by omega
                go_wp2
                go_loopw [17] (fun j wr => ∃ p : Nat, p ≤ fourN vs.length kk q ∧ j = .int .i64 p ∧ Below (w4.heap.size + 3) wB wr ∧ Four wr (w4.heap.size + 3) 4 bs (fourN vs.length kk) (fillF vs q p)) (fun j _ => fourN vs.length kk q - (intOf j).toNat)
                case atStart => exact ⟨0, Nat.zero_le _, rfl, bB, F⟩
                case round =>
                  obtain ⟨p, hp, rfl, bP, FP⟩ := hrel
                  clear bB F
                  have hm := NLE.out q
                  have lq : wr.cell? ⟨w4.heap.size + 1 + 1, q, none⟩ = some (.slice (some ⟨bs q, 0, none⟩) (fourN vs.length kk q) (fourN vs.length kk q)) := by
                    rw [bP.cell (p := ⟨w4.heap.size + 1 + 1, q, none⟩) (by show w4.heap.size + 1 + 1 < w4.heap.size + 3; omega), lB.cell (by omega)]
                    unfold fourC
                    rw [if_pos hq4]
                  by_cases hpm : p < fourN vs.length kk q
                  · have hr := FP.row q hq4
                    have z0 := hr.cell (i := p * 3) (by omega)
                    have z1 := hr.cell (i := p * 3 + 1) (by omega)
                    have z2 := hr.cell (i := p * 3 + 2) (by omega)
                    have zf := hr.frozen
                    have hlo := FP.lo q hq4
                    have FS := FP.set hq4 hpm
                    have belf := ((bP.setCell (p := ⟨bs q, p * 3, none⟩) hlo (.int .i8 5)).setCell (p := ⟨bs q, p * 3 + 1, none⟩) hlo (.int .i64 q)).setCell (p := ⟨bs q, p * 3 + 2, none⟩) hlo (.string ⟨#[]⟩)
                    generalize rowV (fillF vs q p q) (fourN vs.length kk q) (p * 3) = y0 at z0
                    generalize rowV (fillF vs q p q) (fourN vs.length kk q) (p * 3 + 1) = y1 at z1
                    generalize rowV (fillF vs q p q) (fourN vs.length kk q) (p * 3 + 2) = y2 at z2
                    have hpm' : (p : Int) < (fourN vs.length kk q : Int) := by omega
                    clear hr FP bP
                    go_wp2
                    go_roundw
                    case rel => exact ⟨p + 1, by omega, by go_num, belf, FS⟩
                    case measure => simp [intOf]; omega
                  · obtain rfl : p = fourN vs.length kk q := by omega
                    have FN := FP.congr (fun i _ j hj => fillF_next vs (fourN vs.length kk) q i j hj)
                    clear FP
                    go_wp2
                    go_roundw
                    case rel => exact ⟨q + 1, by omega, by go_num, bP, FN⟩
                    case measure => simp [intOf]; omega
              · obtain rfl : q = 4 := by omega
                rw [show ((4 : Nat) : Int) = (4 : Int) from rfl]
                obtain ⟨wC, hwC⟩ : ∃ x, x = wr := ⟨wr, rfl⟩
                subst hwC
                have FC : Four wC (w4.heap.size + 3) 4 bs (fourN vs.length kk) (fun i _ => mark5 i) := F.congr (fun i hi j _ => fillF_end vs i j hi)
                have szC : w4.heap.size + 3 ≤ wC.heap.size := Nat.le_trans szB bB.size
                clear F hq4 hq
                go_wp2
                obtain ⟨i0, hi0, hz0, hz1, hz2⟩ := info_parts infoVal
                have bD := (Below.refl wC.heap.size wC).alloc (Nat.le_refl _) (.cells #[.slice none 0 0, .slice none 0 0, .slice none 0 0, .slice none 0 0] 77)
                have rD : (wC.alloc (.cells #[.slice none 0 0, .slice none 0 0, .slice none 0 0, .slice none 0 0] 77)).rowIs wC.heap.size 77 4 (longC (fun _ => .slice none 0 0) 0 (.slice none 0 0)) := World.rowIs_alloc wC _ _ _ (fun i hi => by
                  obtain rfl | rfl | rfl | rfl : i = 0 ∨ i = 1 ∨ i = 2 ∨ i = 3 := by simp at hi; omega
                  all_goals rfl)
                have szD : (wC.alloc (.cells #[.slice none 0 0, .slice none 0 0, .slice none 0 0, .slice none 0 0] 77)).heap.size = wC.heap.size + 1 := by simp
                generalize wC.alloc (.cells #[.slice none 0 0, .slice none 0 0, .slice none 0 0, .slice none 0 0] 77) = wD at bD rD szD ⊢
                go_loopw [19] (fun i wr => ∃ q : Nat, q ≤ 4 ∧ i = .int .i64 q ∧ Below wC.heap.size wC wr ∧ wC.heap.size + 1 ≤ wr.heap.size ∧ ∃ lg, wr.rowIs wC.heap.size 77 4 (longC lg q (.slice none 0 0)) ∧ Long wr (wC.heap.size + 1) q (fourN vs.length kk) lg) (fun i _ => 4 - (intOf i).toNat)
                case atStart => exact ⟨0, Nat.zero_le _, rfl, bD, by omega, _, rD, ⟨fun i hi => absurd hi (by omega), fun i j _ hj => absurd hj (by omega)⟩⟩
                case round =>
                  obtain ⟨q, hq, rfl, bE, szE, lg, rE, GE⟩ := hrel
                  clear bD rD szD
                  by_cases hq4 : q < 4
                  · have hq4' : (q : Int) < 4 := by omega
                    have hm := NLE.out q
                    have lq : wr.cell? ⟨w4.heap.size + 1 + 1, q, none⟩ = some (.slice (some ⟨bs q, 0, none⟩) (fourN vs.length kk q) (fourN vs.length kk q)) := by
                      rw [bE.cell (p := ⟨w4.heap.size + 1 + 1, q, none⟩) (by show w4.heap.size + 1 + 1 < wC.heap.size; omega), bB.cell (p := ⟨w4.heap.size + 1 + 1, q, none⟩) (by show w4.heap.size + 1 + 1 < w4.heap.size + 3; omega), lB.cell (by omega)]
                      unfold fourC
                      rw [if_pos hq4]
                    have zE := rE.cell (i := q) (by omega)
                    have zf := rE.frozen q
                    have rS := (rE.set q (.slice (some ⟨bs q, 0, none⟩) (fourN vs.length kk q) (fourN vs.length kk q))).congr fun i _ => longC_set lg q i _ _
                    have belS := bE.setCell (p := ⟨wC.heap.size, q, none⟩) (Nat.le_refl _) (.slice (some ⟨bs q, 0, none⟩) (fourN vs.length kk q) (fourN vs.length kk q))
                    have GS := GE.blocks (w' := wr.setCell ⟨wC.heap.size, q, none⟩ (.slice (some ⟨bs q, 0, none⟩) (fourN vs.length kk q) (fourN vs.length kk q))) (fun i hi g hg => Below.heap_setCell wr ⟨wC.heap.size, q, none⟩ _ g (by have := ((GE.own i hi).lt g hg).1; show g ≠ wC.heap.size; omega))
                    have szS : wC.heap.size + 1 ≤ (wr.setCell ⟨wC.heap.size, q, none⟩ (.slice (some ⟨bs q, 0, none⟩) (fourN vs.length kk q) (fourN vs.length kk q))).heap.size := by simpa [World.setCell] using szE
                    generalize longC lg q (.slice none 0 0) q = zz at zE
                    clear rE GE bE szE
                    go_wp2
                    generalize (wr.setCell ⟨wC.heap.size, q, none⟩ (.slice (some ⟨bs q, 0, none⟩) (fourN vs.length kk q) (fourN vs.length kk q))) = wS at rS belS GS szS ⊢
                    go_loopw [20] (fun j wr => ∃ p : Nat, p ≤ 70 ∧ j = .int .i64 p ∧ Below wC.heap.size wC wr ∧ wC.heap.size + 1 ≤ wr.heap.size ∧ Long wr (wC.heap.size + 1) q (fourN vs.length kk) lg ∧ ∃ cur, wr.rowIs wC.heap.size 77 4 (longC lg q cur) ∧ ((p = 0 ∧ cur = .slice (some ⟨bs q, 0, none⟩) (fourN vs.length kk q) (fourN vs.length kk q)) ∨ (0 < p ∧ wr.ownsRow (wC.heap.size + 1) 39 3 cur (fourN vs.length kk q + p) ((longL (fourN vs.length kk q) q p).flatMap V.cells) ∧ ∀ i, i < q → (lg i).ownBlock ≠ cur.ownBlock))) (fun j _ => 70 - (intOf j).toNat)
                    case atStart => exact ⟨0, Nat.zero_le _, rfl, belS, szS, GS, _, rS, .inl ⟨rfl, rfl⟩⟩
                    case round =>
                      obtain ⟨p, hp, rfl, bP, szP, GP, cur, rP, hcur⟩ := hrel
                      clear belS rS GS szS lq zE zf
                      have zP : wr.cell? ⟨wC.heap.size, q, none⟩ = some cur := by
                        rw [rP.cell (i := q) (by omega)]
                        simp [longC]
                      have zf := rP.frozen q
                      by_cases hp70 : p < 70
                      · have hp70' : (p : Int) < 70 := by omega
                        have htail : ∀ {v' : Value} {w5 : World}, w5.ownsRow (wC.heap.size + 1) 39 3 v' (fourN vs.length kk q + p + 1) ((longL (fourN vs.length kk q) q p).flatMap V.cells ++ [.int .i8 6, .int .i64 q, .string ⟨#[]⟩]) → (wr.alloc (.cells #[.int .i8 6, .int .i64 q, .string ⟨#[]⟩] 39)).heap.size ≤ w5.heap.size → w5.os = wr.os → w5.tape = wr.tape → w5.output = wr.output → (∀ k, k < wr.heap.size → (∀ i, i < q → (lg i).ownBlock = some k → w5.heap[k]? = wr.heap[k]?) ∧ (k ≤ wC.heap.size → w5.heap[k]? = wr.heap[k]?)) → (∀ i, i < q → (lg i).ownBlock ≠ v'.ownBlock) →
                            Below wC.heap.size wC (w5.setCell ⟨wC.heap.size, q, none⟩ v') ∧ wC.heap.size + 1 ≤ (w5.setCell ⟨wC.heap.size, q, none⟩ v').heap.size ∧ Long (w5.setCell ⟨wC.heap.size, q, none⟩ v') (wC.heap.size + 1) q (fourN vs.length kk) lg ∧ ∃ cur, (w5.setCell ⟨wC.heap.size, q, none⟩ v').rowIs wC.heap.size 77 4 (longC lg q cur) ∧ ((p + 1 = 0 ∧ cur = .slice (some ⟨bs q, 0, none⟩) (fourN vs.length kk q) (fourN vs.length kk q)) ∨ (0 < p + 1 ∧ (w5.setCell ⟨wC.heap.size, q, none⟩ v').ownsRow (wC.heap.size + 1) 39 3 cur (fourN vs.length kk q + (p + 1)) ((longL (fourN vs.length kk q) q (p + 1)).flatMap V.cells) ∧ ∀ i, i < q → (lg i).ownBlock ≠ cur.ownBlock)) := by
                          intro v' w5 hown hsz ho1 ho2 ho3 hblk hne
                          have hs5 : wr.heap.size ≤ w5.heap.size := by simp at hsz; omega
                          have b5 : Below wC.heap.size wC w5 := bP.trans ⟨ho1, ho2, ho3, hs5, fun k hk => (hblk k (by omega)).2 (by omega)⟩
                          have r5 := (rP.of_block ((hblk wC.heap.size (by omega)).2 (Nat.le_refl _))).set q v'
                          refine ⟨b5.setCell (Nat.le_refl _) _, by simp [World.setCell]; omega, GP.blocks (fun i hi g hg => ?_), v', r5.congr (fun i _ => longC_set lg q i _ _), .inr ⟨by omega, ?_, hne⟩⟩
                          · have hl := (GP.own i hi).lt g hg
                            rw [Below.heap_setCell w5 ⟨wC.heap.size, q, none⟩ _ g (by show g ≠ wC.heap.size; omega)]
                            exact (hblk g hl.2).1 i hi hg
                          · rw [longL_snoc, flat_snoc]
                            exact ownsRow_of_block hown (fun g hg => Below.heap_setCell w5 ⟨wC.heap.size, q, none⟩ _ g (by have := (hown.lt g hg).1; show g ≠ wC.heap.size; omega))
                        have HTAIL : Hid _ := @htail
                        clear htail
                        rcases hcur with ⟨rfl, rfl⟩ | ⟨hp0, hown, hnec⟩
                        · have hrow := ((FC.row q hq4).of_block (bP.block _ (FC.row q hq4).lt)).alloc (.cells #[.int .i8 6, .int .i64 q, .string ⟨#[]⟩] 39)
                          have hlol : ((longL (fourN vs.length kk q) q 0).flatMap V.cells).length = fourN vs.length kk q * 3 := by rw [cells_length, longL_length]; rfl
                          go_wp2_with (first
                            | (at_builtin; refine wpList_append_grows _ rfl _ _ 40 rfl 39 i0 _ 3 32 Try.underlying40 hi0 hz0 hz1 hz2 rfl (by decide) (some ⟨bs q, 0, none⟩) (fourN vs.length kk q) (fourN vs.length kk q) ((longL (fourN vs.length kk q) q 0).flatMap V.cells) rfl (fun h => by cases h) hlol (mark_cells hrow) ⟨wr.heap.size, 0, none⟩ 1 1 [.int .i8 6, .int .i64 q, .string ⟨#[]⟩] rfl rfl (one_news wr (mark6 q)) (by simp [Value.oneCell']) (by omega) (by unfold maxLen; omega) (by omega) ?_; intro v' w5 hown' hgrow; obtain ⟨a5, c5, rfl, hl5, _⟩ := ownsRow_form hown'; have r5 := rP.of_block ((hgrow.block wC.heap.size (by simp; omega) (by simp)).trans (Below.heap_alloc wr _ wC.heap.size (by omega))); have z5 := r5.cell (i := q) (by omega); have f5 := r5.frozen q)
                            | go_in)
                          go_roundw
                          case rel =>
                            have hT := HTAIL.out (ownsRow_base hown' (by simp; omega)) hgrow.size hgrow.os hgrow.tape hgrow.output (fun k hk => by
                              have e := (hgrow.block k (by simp; omega) (by simp)).trans (Below.heap_alloc wr _ k hk)
                              exact ⟨fun _ _ _ => e, fun _ => e⟩) (fun i hi e => by
                                have h1 : ∃ g, (lg i).ownBlock = some g := by
                                  obtain ⟨_, ⟨e0, h0⟩ | ⟨g, cap, cur, e0, _⟩⟩ := GP.own i hi
                                  · omega
                                  · exact ⟨g, by rw [e0]; rfl⟩
                                obtain ⟨g, hg⟩ := h1
                                have h2 := ((GP.own i hi).lt g hg).2
                                rw [hg] at e
                                have h3 := (hown'.lt g e.symm).1
                                simp at h3
                                omega)
                            exact ⟨0 + 1, by omega, by go_num, hT⟩
                          case measure => simp [intOf]
                        · obtain ⟨ao, co, rfl, hlo, _⟩ := ownsRow_form hown
                          have hbl : ∀ k, (Value.slice ao (fourN vs.length kk q + p) co).ownBlock = some k → wC.heap.size + 1 ≤ k ∧ k < wr.heap.size := fun k hk => hown.lt k hk
                          go_wp2_with (first
                            | (at_builtin; refine wpList_append_own_at _ rfl _ _ 40 rfl (wC.heap.size + 1) 39 i0 _ 3 32 Try.underlying40 hi0 hz0 hz1 hz2 rfl (by decide) _ _ _ rfl (own_below hown ((Below.refl _ _).alloc (Nat.le_refl _) _)) ⟨wr.heap.size, 0, none⟩ 1 1 [.int .i8 6, .int .i64 q, .string ⟨#[]⟩] rfl rfl (one_news wr (mark6 q)) (by simp [Value.oneCell']) (by unfold maxLen; omega) (by omega) (by simp; omega) ?_; intro v' w5 hown' hgrow hnil hloc; obtain ⟨a5, c5, rfl, hl5, _⟩ := ownsRow_form hown'; have r5 := rP.of_block ((hgrow.block wC.heap.size (by simp; omega) (fun e => by have := (hbl _ e.symm).1; omega)).trans (Below.heap_alloc wr _ wC.heap.size (by omega))); have z5 := r5.cell (i := q) (by omega); have f5 := r5.frozen q)
                            | go_in)
                          go_roundw
                          case rel =>
                            have hT := HTAIL.out hown' hgrow.size hgrow.os hgrow.tape hgrow.output (fun k hk => by
                              refine ⟨fun i hi hg => ?_, fun hle => ?_⟩
                              · exact (hgrow.block k (by simp; omega) (fun e => hnec i hi (hg.trans e))).trans (Below.heap_alloc wr _ k hk)
                              · exact (hgrow.block k (by simp; omega) (fun e => by have := (hbl _ e.symm).1; omega)).trans (Below.heap_alloc wr _ k hk)) (fun i hi e => by
                                rcases hloc with h | h
                                · exact hnec i hi (e.trans h)
                                · rw [h] at e
                                  have h2 := ((GP.own i hi).lt _ e).2
                                  have h5 : (wr.alloc (.cells #[.int .i8 6, .int .i64 q, .string ⟨#[]⟩] 39)).heap.size = wr.heap.size + 1 := by simp
                                  omega)
                            exact ⟨p + 1, by omega, by go_num, hT⟩
                          case measure => simp [intOf]; omega
                      · obtain rfl : p = 70 := by omega
                        rcases hcur with ⟨h0, _⟩ | ⟨_, hown, hnec⟩
                        · omega
                        · have GN := GP.snoc hown hnec
                          have rN := rP.congr (fun i _ => longC_next lg q i cur)
                          clear zP zf
                          go_wp2
                          go_roundw
                          case rel => exact ⟨q + 1, by omega, by go_num, bP, szP, _, rN, GN⟩
                          case measure => simp [intOf]; omega
                  · obtain rfl : q = 4 := by omega
                    rw [show ((4 : Nat) : Int) = (4 : Int) from rfl]
                    obtain ⟨wE, hwE⟩ : ∃ x, x = wr := ⟨wr, rfl⟩
                    subst hwE
                    have b4E : Below w4.heap.size w4 wE := (b4B.trans (bB.mono (by omega))).trans (bE.mono (by omega))
                    have cE : wE.heap[w4.heap.size]? = some (.cells C 43 (0, 0)) := ((bE.block _ (by omega)).trans (bB.block _ (by omega))).trans cB
                    have lE := (lB.of_block (bB.block _ (by omega))).of_block (bE.block _ (by omega))
                    have FE : Four wE (w4.heap.size + 3) 4 bs (fourN vs.length kk) (fun i _ => mark5 i) := FC.blocks (fun k _ hk => bE.block k hk)
                    have szE4 : w4.heap.size + 3 ≤ wE.heap.size := Nat.le_trans szC bE.size
                    clear FC cB lB b4B bB bE hq4 hq szA szB
                    go_wp2
                    go_loopw [21] (fun i wr => ∃ q : Nat, q ≤ 4 ∧ i = .int .i64 q ∧ Below wE.heap.size wE wr) (fun i _ => 4 - (intOf i).toNat)
                    case atStart => exact ⟨0, Nat.zero_le _, rfl, Below.refl _ _⟩
                    case round =>
                      obtain ⟨q, hq, rfl, bG⟩ := hrel
                      by_cases hq4 : q < 4
                      · have hq4' : (q : Int) < 4 := by omega
                        have hm := NLE.out q
                        have hlc : longC lg 4 (.slice none 0 0) q = lg q := by unfold longC; rw [if_pos hq4]
                        have hlo := GE.own q hq4
                        rw [← longL_length (fourN vs.length kk q) q 70] at hlo
                        obtain ⟨gl, cl, hlg, _⟩ := row_at hlo (i := 0) (by rw [longL_length]; omega)
                        rw [longL_length] at hlg
                        have glt : gl < wE.heap.size := (hlo.lt gl (by rw [hlg]; rfl)).2
                        have lgE : wE.cell? ⟨wC.heap.size, q, none⟩ = some (.slice (some ⟨gl, 0, none⟩) (fourN vs.length kk q + 70) cl) := by
                          rw [rE.cell (i := q) (by omega), hlc, hlg]
                        have lqE : wE.cell? ⟨w4.heap.size + 1 + 1, q, none⟩ = some (.slice (some ⟨bs q, 0, none⟩) (fourN vs.length kk q) (fourN vs.length kk q)) := by
                          rw [lE.cell (by omega)]
                          unfold fourC
                          rw [if_pos hq4]
                        have hrE := FE.row q hq4
                        go_wp2
                        go_loopw [22] (fun j wr => ∃ p : Nat, p ≤ fourN vs.length kk q + 70 ∧ j = .int .i64 p ∧ Below wE.heap.size wE wr) (fun j _ => fourN vs.length kk q + 70 - (intOf j).toNat)
                        case atStart => exact ⟨0, Nat.zero_le _, rfl, bG⟩
                        case round =>
                          obtain ⟨p, hp, rfl, bP⟩ := hrel
                          have k1 : wr.cell? ⟨wC.heap.size, q, none⟩ = some (.slice (some ⟨gl, 0, none⟩) (fourN vs.length kk q + 70) cl) := by
                            rw [bP.cell (p := ⟨wC.heap.size, q, none⟩) (World.block_lt_of_cell? _ _ lgE)]
                            exact lgE
                          have k2 : wr.cell? ⟨w4.heap.size + 1 + 1, q, none⟩ = some (.slice (some ⟨bs q, 0, none⟩) (fourN vs.length kk q) (fourN vs.length kk q)) := by
                            rw [bP.cell (p := ⟨w4.heap.size + 1 + 1, q, none⟩) (World.block_lt_of_cell? _ _ lqE)]
                            exact lqE
                          have k1l := World.block_lt_of_cell? _ _ k1
                          have k2l := World.block_lt_of_cell? _ _ k2
                          simp only at k1l k2l
                          by_cases hpm : p < fourN vs.length kk q + 70
                          · obtain ⟨gl', cl', hlg', x0, x1, x2⟩ := row_at hlo (i := p) (by rw [longL_length]; exact hpm)
                            rw [longL_length, hlg] at hlg'
                            cases hlg'
                            rw [longL_at _ _ _ _ hpm] at x0 x1 x2
                            have y0 : wr.cell? ⟨gl, p * 3, none⟩ = _ := (bP.cell (p := ⟨gl, p * 3, none⟩) glt).trans x0
                            have y1 : wr.cell? ⟨gl, p * 3 + 1, none⟩ = _ := (bP.cell (p := ⟨gl, p * 3 + 1, none⟩) glt).trans x1
                            have y2 : wr.cell? ⟨gl, p * 3 + 2, none⟩ = _ := (bP.cell (p := ⟨gl, p * 3 + 2, none⟩) glt).trans x2
                            have glt2 : gl < wr.heap.size := Nat.lt_of_lt_of_le glt bP.size
                            have hpm' : (p : Int) < ((fourN vs.length kk q + 70 : Nat) : Int) := by omega
                            have hpm2 : (p : Int) < (fourN vs.length kk q : Int) + 70 := by omega
                            by_cases hpn : p < fourN vs.length kk q
                            · rw [if_pos hpn] at y0 y1 y2
                              have hrP := hrE.of_block (bP.block _ hrE.lt)
                              have z0 : wr.cell? ⟨bs q, p * 3, none⟩ = some (.int .i8 5) := by
                                rw [hrP.cell (by omega)]
                                simp [rowV, compV, hpn, mark5]
                              have z1 : wr.cell? ⟨bs q, p * 3 + 1, none⟩ = some (.int .i64 q) := by
                                rw [hrP.cell (by omega)]
                                simp [rowV, compV, show (p * 3 + 1) / 3 = p by omega, show (p * 3 + 1) % 3 = 1 by omega, hpn, mark5]
                              have z2 : wr.cell? ⟨bs q, p * 3 + 2, none⟩ = some (.string ⟨#[]⟩) := by
                                rw [hrP.cell (by omega)]
                                simp [rowV, compV, show (p * 3 + 2) / 3 = p by omega, show (p * 3 + 2) % 3 = 2 by omega, hpn, mark5]
                              have zl : bs q < wr.heap.size := hrP.lt
                              have y0' : wr.cell? ⟨gl, p * 3, none⟩ = some (.int .i8 5) := y0
                              have y1' : wr.cell? ⟨gl, p * 3 + 1, none⟩ = some (.int .i64 q) := y1
                              have y2' : wr.cell? ⟨gl, p * 3 + 2, none⟩ = some (.string ⟨#[]⟩) := y2
                              have hneq : ∀ W, (binOp .neq 39 (.agg #[.int .i8 5, .int .i64 q, .string ⟨#[]⟩]) (.agg #[.int .i8 5, .int .i64 q, .string ⟨#[]⟩])).run Try.prog W = .ok (.bool false) W := fun W => by
                                have := run_neq (mark5 q) (mark5 q) W
                                rw [decide_eq_true rfl] at this
                                exact this
                              have hpn' : (p : Int) < (fourN vs.length kk q : Int) := by omega
                              have belf := bP.alloc bP.size (.cells #[.int .i8 5, .int .i64 q, .string ⟨#[]⟩] 39)
                              clear x0 x1 x2 y0 y1 y2 hrP hrE hlo GE FE
                              go_wp2_with fail
                              go_quiet (fail)
                              go_wp2
                              go_roundw
                              case rel => exact ⟨p + 1, by omega, by go_num, belf.trans ⟨rfl, rfl, rfl, Nat.le_refl _, fun _ _ => rfl⟩⟩
                              case measure => simp [intOf]; omega
                            · rw [if_neg hpn] at y0 y1 y2
                              have y0' : wr.cell? ⟨gl, p * 3, none⟩ = some (.int .i8 6) := y0
                              have y1' : wr.cell? ⟨gl, p * 3 + 1, none⟩ = some (.int .i64 q) := y1
                              have y2' : wr.cell? ⟨gl, p * 3 + 2, none⟩ = some (.string ⟨#[]⟩) := y2
                              have hneq : ∀ W, (binOp .neq 39 (.agg #[.int .i8 6, .int .i64 q, .string ⟨#[]⟩]) (.agg #[.int .i8 6, .int .i64 q, .string ⟨#[]⟩])).run Try.prog W = .ok (.bool false) W := fun W => by
                                have := run_neq (mark6 q) (mark6 q) W
                                rw [decide_eq_true rfl] at this
                                exact this
                              have hpn' : ¬ (p : Int) < (fourN vs.length kk q : Int) := by omega
                              have belf := bP.alloc bP.size (.cells #[.int .i8 6, .int .i64 q, .string ⟨#[]⟩] 39)
                              clear x0 x1 x2 y0 y1 y2 hrE hlo GE FE
                              go_wp2_with fail
                              go_quiet (fail)
                              go_wp2
                              go_roundw
                              case rel => exact ⟨p + 1, by omega, by go_num, belf.trans ⟨rfl, rfl, rfl, Nat.le_refl _, fun _ _ => rfl⟩⟩
                              case measure => simp [intOf]; omega
                          · have hpm' : ¬ (p : Int) < ((fourN vs.length kk q + 70 : Nat) : Int) := by omega
                            go_wp2
                            go_roundw
                            case rel => exact ⟨q + 1, by omega, by go_num, bP⟩
                            case measure => simp [intOf]; omega
                      · obtain rfl : q = 4 := by omega
                        rw [show ((4 : Nat) : Int) = (4 : Int) from rfl]
                        have b4G : Below w4.heap.size w4 wr := b4E.trans (bG.mono (by omega))
                        have cG : wr.heap[w4.heap.size]? = some (.cells C 43 (0, 0)) := (bG.block _ (by omega)).trans cE
                        have TG := T4.below b4G
                        have htup := tuple_ok TG (by omega) C HCS.out vs.length h24 (fun i => i) HSS.out (fun i hi => hi)
                        have bwG : Below w.heap.size w wr := (bel2.trans (belB.mono bel2.size)).trans (b4G.mono (Nat.le_trans bel2.size belB.size))
                        have lvG := lv.below (belB.trans (b4G.mono belB.size))
                        clear GE FE rE lE cE
                        go_wp2_with (first
                          | (refine wpList_loadRow _ rfl (.tmp 7) 43 rfl w4.heap.size 24 41 C rfl cG Try.underlying43 HCI.out ?_)
                          | fail)
                        refine htup.mono ?_
                        rintro e w8 ⟨bd, rfl, hb8, hr8, hbd⟩
                        have lv8 := lvG.below hb8
                        have lvy : Lv w8 (.slice (some ⟨bd, 0, none⟩) vs.length vs.length) vs := by
                          have h := rowV_lv (c := vs.length) hr8 h24 (fun i hi => vwf _ (atV_mem hi))
                          have e2 : (List.range vs.length).map (fun i => atV vs i) = vs := by
                            have := range_take (vs := vs) (m := vs.length) (Nat.le_refl _)
                            rw [List.take_length] at this
                            exact this
                          rw [e2] at h
                          exact h
                        have hsame := same_self w8 (some ⟨bd, 0, none⟩) a2 vs.length c2 vs lvy lv8 (by omega)
                        have bw8 := bwG.trans (hb8.mono bwG.size)
                        clear htup hr8 lvy lv8 lvG
                        go_wp2_with (first
                          | (go_at_call 24; refine hsame.mono ?_; rintro e w9 ⟨rfl, hb9⟩)
                          | fail)
                        go_ret
                        exact ⟨rfl, bw8.trans (hb9.mono bw8.size)⟩
end Go.Proofs.Ytinncofhidiciaa
