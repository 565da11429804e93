import Derived.Test.YtinncofhidiciaaSymCut
namespace Go.Proofs.Ytinncofhidiciaa
open Go.RowKit Go.Maps Go.ChangeMaps
set_option linter.unusedVariables false
set_option linter.unusedSimpArgs false
attribute [local go_sem ↓] Go.wp_at_zero Go.wp_at_succ

theorem tcut_bad {w : World} {B t : Nat} {vs : List V} {most : Int} (h : Table w B t vs most) (n : Int) (hn : n < 0 ∨ vs.length < n) :
    Calls Try.prog 26 #[.pointer (some ⟨t, 0, none⟩), .int .i64 n] w fun e w' => e = .returned (.int .i64 1) ∧ w' = w := by
  obtain ⟨m, sv, T, r⟩ := h
  exact cut_bad T n hn
theorem tcut_ok {w : World} {B t : Nat} {vs : List V} {most : Int} (h : Table w B t vs most) {n : Nat} (hn : n ≤ vs.length) :
    Calls Try.prog 26 #[.pointer (some ⟨t, 0, none⟩), .int .i64 n] w fun e w' => e = .returned (.int .i64 0) ∧ Table w' B t (vs.take n) most ∧ Below B w w' := by
  have hs := h.size
  obtain ⟨m, sv, T, r1, r2, r3⟩ := h
  have key : Calls Try.prog 26 #[.pointer (some ⟨t, 0, none⟩), .int .i64 n] w fun e w' => e = .returned (.int .i64 0) ∧ ∃ sv', Tbl w' t m sv' (vs.take n) most ∧ Touch w w' t m sv sv' := by
    by_cases h1 : n = vs.length
    · exact cut_all T h1
    · exact cut_some T (by omega)
  refine key.mono ?_
  rintro e w' ⟨rfl, sv', T', U⟩
  refine ⟨rfl, ⟨m, sv', T', r1, r2, fun g hg => ?_⟩, U.below hs r1 r2 r3⟩
  rcases U.new g hg with h | h
  · exact r3 g h
  · omega
theorem tval_in {w : World} {B t : Nat} {vs : List V} {most : Int} (h : Table w B t vs most) {i : Nat} (hi : i < vs.length) (hm : vs.length ≤ 2147483647) :
    Calls Try.prog 27 #[.pointer (some ⟨t, 0, none⟩), .int .i32 i] w fun e w' => e = .returned (.tuple #[.agg #[.int .i8 (atV vs i).k, .int .i64 (atV vs i).n, .string (atV vs i).s], .int .i64 0]) ∧ Below w.heap.size w w' := by
  obtain ⟨m, sv, T, r⟩ := h
  exact value_in T hi hm
theorem tval_out {w : World} {B t : Nat} {vs : List V} {most : Int} (h : Table w B t vs most) {i : Nat} (hi : ¬ i < vs.length) (hm : i ≤ 2147483647) :
    Calls Try.prog 27 #[.pointer (some ⟨t, 0, none⟩), .int .i32 i] w fun e w' => e = .returned (.tuple #[.agg #[.int .i8 0, .int .i64 0, .string ⟨#[]⟩], .int .i64 21]) ∧ Below w.heap.size w w' := by
  obtain ⟨m, sv, T, r⟩ := h
  exact value_out T hi hm

theorem atV_take {vs : List V} {i k : Nat} (h : i < k) (hk : k ≤ vs.length) : atV (vs.take k) i = atV vs i := by
  rw [atV_eq (by simp; omega), atV_eq (by omega), List.getElem_take]

theorem find_take_in {vs : List V} (nd : vs.Nodup) {q k : Nat} (hq : q < k) (hk : k ≤ vs.length) : symOf (vs.take k) (atV vs q) = q ∧ decide (atV vs q ∈ vs.take k) = true := by
  have e : (vs.take k)[q]? = some (atV vs q) := by
    rw [List.getElem?_take, if_pos hq, List.getElem?_eq_getElem (by omega), atV_eq (by omega)]
  exact ⟨symOf_at (nd.sublist (List.take_sublist _ _)) e, decide_eq_true (List.mem_of_getElem? e)⟩

theorem find_take_out {vs : List V} (nd : vs.Nodup) {q k : Nat} (hq : ¬ q < k) (hk : q < vs.length) : symOf (vs.take k) (atV vs q) = 0 ∧ decide (atV vs q ∈ vs.take k) = false := by
  have hn : atV vs q ∉ vs.take k := fun hm => not_mem_take nd hk (by
    have : (vs.take k).Sublist (vs.take q) := by
      rw [show vs.take k = (vs.take q).take k by rw [List.take_take]; congr 1; omega]
      exact List.take_sublist _ _
    exact this.subset hm)
  exact ⟨by rw [symOf, if_neg hn], decide_eq_false hn⟩

theorem residue (n : Int) (L : Nat) : ∃ (r : Int) (kk : Nat), n.tmod ((L : Int) + 1) = r ∧ kk ≤ L ∧ ((¬ r < 0 ∧ r = kk) ∨ (r < 0 ∧ -(L : Int) ≤ r ∧ r + L + 1 = kk)) := by
  have h1 : n.tmod ((L : Int) + 1) < (L : Int) + 1 := Int.tmod_lt_of_pos n (by omega)
  have h2 : -((L : Int) + 1) < n.tmod ((L : Int) + 1) := by
    rcases Int.lt_or_le n 0 with hn | hn
    · have := Int.tmod_lt_of_pos (-n) (b := (L : Int) + 1) (by omega)
      rw [Int.neg_tmod] at this
      omega
    · have := Int.tmod_nonneg ((L : Int) + 1) hn
      omega
  by_cases h : n.tmod ((L : Int) + 1) < 0
  · exact ⟨_, (n.tmod ((L : Int) + 1) + L + 1).toNat, rfl, by omega, .inr ⟨h, by omega, by omega⟩⟩
  · exact ⟨_, (n.tmod ((L : Int) + 1)).toNat, rfl, by omega, .inl ⟨h, by omega⟩⟩

set_option maxHeartbeats 12800000 in
set_option maxRecDepth 100000 in
theorem cuts_walk (w : World) (a : Option Addr) (c : Nat) (us : List V) (n : Int) (hn : -9223372036854775808 ≤ n ∧ n ≤ 9223372036854775807) (hl : us.length ≤ 1048576) (hv : Lv w (.slice a us.length c) us) :
    Calls Try.prog 6 #[.slice a us.length c, .int .i64 n] w fun e w' => e = .returned (.bool true) ∧ Below w.heap.size w w' := by
  have HG := goodL_good us.length us
  have hlen := goodL_length us.length us
  generalize hvs : goodL us.length us = vs at HG hlen
  go_enter Try.func6, Try.ntmps6
  go_wp2_with fail
  refine (lives_any _).mono ?_
  rintro e w1 ⟨rfl, hb1⟩
  go_wp2_with fail
  refine (good_any w1 a c us us.length hl (hv.below hb1)).mono ?_
  rintro e w2 ⟨sv, rfl, hown, hb2⟩
  rw [hvs] at hown
  clear hvs
  have bel2 : Below w.heap.size w w2 := hb1.trans (hb2.mono hb1.size)
  have vwf : ∀ v ∈ vs, v.wf := fun v hx => hv.1 v (HG.mem v hx)
  have lv := lv_of_row hown vwf
  obtain ⟨a2, c2, rfl, hm2, _⟩ := ownsRow_form hown
  clear hb1 hb2 hv hown
  go_wp2_with fail
  refine (filled_any w2 a2 c2 vs vs.length (by omega) (Nat.le_refl _) lv HG.nodup HG.ok).mono ?_
  rintro e w3 ⟨t, rfl, T3, hb3⟩
  obtain ⟨r, kk, hr, hkk, hcase⟩ := residue n vs.length
  have hnz : ¬ ((vs.length : Int) + 1 = 0) := by omega
  have hL : vs.length ≤ 1048576 := by omega
  have hlk : (vs.take kk).length = kk := by simp; omega
  rcases hcase with ⟨hr0, rfl⟩ | ⟨hr0, hr1, hr2⟩
  all_goals
    go_wp2_with fail
    refine (tcut_bad T3 _ (.inr (by omega))).mono ?_
    rintro e w4 ⟨rfl, rfl⟩
    go_wp2_with fail
    refine (tcut_bad T3 _ (.inl (by omega))).mono ?_
    rintro e w5 ⟨rfl, rfl⟩
    go_wp2_with fail
    refine (tlen T3).mono ?_
    rintro e w6 ⟨rfl, rfl⟩
    go_wp2_with fail
    refine (tcut_ok T3 hkk).mono ?_
    rintro e w7 ⟨rfl, T7, hb7⟩
    have bel7 : Below w2.heap.size w2 w7 := hb3.trans hb7
    clear T3 hb3 hb7
    go_wp2_with fail
    refine (tlen T7).mono ?_
    rintro e w8 ⟨rfl, rfl⟩
    rw [hlk]
    go_wp2
    go_loopw [8] (fun i wr => ∃ q : Nat, q ≤ vs.length ∧ i = .int .i64 q ∧ Below w2.heap.size w2 wr ∧ Table wr w2.heap.size t (vs.take kk) vs.length) (fun i _ => vs.length - (intOf i).toNat)
    case atStart => exact ⟨0, Nat.zero_le _, rfl, bel7, T7⟩
    case round =>
      obtain ⟨q, hq, rfl, bel, T⟩ := hrel
      clear T7 bel7
      by_cases hlt : q < vs.length
      · obtain ⟨g, off, rfl, hg, x0, x1, x2⟩ := (lv.below bel).at hlt
        have uwf := vwf _ (atV_mem hlt)
        have hin := fun h => find_take_in HG.nodup (q := q) h hkk
        have hout := fun h => find_take_out HG.nodup (q := q) (k := kk) h hlt
        have hat := fun h => atV_take (vs := vs) (i := q) h hkk
        generalize atV vs q = u at x0 x1 x2 uwf hin hout hat
        go_wp2_with fail
        refine (tfind T uwf).mono ?_
        rintro e w9 ⟨rfl, hb9⟩
        have T9 := T.below hb9
        have bel9 := bel.trans (hb9.mono bel.size)
        have y0 : w9.cell? ⟨g, off + q * 3, none⟩ = some (.int .i8 u.k) := by rw [hb9.cell (p := ⟨g, _, none⟩) hg]; exact x0
        have y1 : w9.cell? ⟨g, off + q * 3 + 1, none⟩ = some (.int .i64 u.n) := by rw [hb9.cell (p := ⟨g, _, none⟩) hg]; exact x1
        have y2 : w9.cell? ⟨g, off + q * 3 + 2, none⟩ = some (.string u.s) := by rw [hb9.cell (p := ⟨g, _, none⟩) hg]; exact x2
        have hg9 := Nat.lt_of_lt_of_le hg hb9.size
        clear x0 x1 x2 T bel hb9 hg
        by_cases hqk : q < kk
        · rw [(hin hqk).1, (hin hqk).2]
          go_wp2_with fail
          refine (tval_in T9 (by rw [hlk]; exact hqk) (by rw [hlk]; omega)).mono ?_
          rintro e w10 ⟨rfl, hb10⟩
          rw [hat hqk]
          have z0 : w10.cell? ⟨g, off + q * 3, none⟩ = some (.int .i8 u.k) := by rw [hb10.cell (p := ⟨g, _, none⟩) hg9]; exact y0
          have z1 : w10.cell? ⟨g, off + q * 3 + 1, none⟩ = some (.int .i64 u.n) := by rw [hb10.cell (p := ⟨g, _, none⟩) hg9]; exact y1
          have z2 : w10.cell? ⟨g, off + q * 3 + 2, none⟩ = some (.string u.s) := by rw [hb10.cell (p := ⟨g, _, none⟩) hg9]; exact y2
          have hg10 := Nat.lt_of_lt_of_le hg9 hb10.size
          have T10 := (T9.below hb10).below ((Below.refl _ _).alloc (Nat.le_refl _) (.cells #[.int .i8 u.k, .int .i64 u.n, .string u.s] 39))
          have bel10 := (bel9.trans (hb10.mono bel9.size)).alloc (Nat.le_trans bel9.size hb10.size) (.cells #[.int .i8 u.k, .int .i64 u.n, .string u.s] 39)
          have hne : ∀ W, (binOp .neq 39 (.agg #[.int .i8 u.k, .int .i64 u.n, .string u.s]) (.agg #[.int .i8 u.k, .int .i64 u.n, .string u.s])).run Try.prog W = .ok (.bool false) W := fun W => by rw [run_neq]; simp
          have hqk' : (q : Int) < (kk : Int) := by omega
          have hlt' : (q : Int) < (vs.length : Int) := by omega
          clear y0 y1 y2 hin hout hat T9 bel9 hb10
          go_wp2_with fail
          go_quiet (fail)
          go_wp2
          go_roundw
          case rel => exact ⟨q + 1, by omega, by go_num, bel10.trans ⟨rfl, rfl, rfl, Nat.le_refl _, fun _ _ => rfl⟩, T10.below ⟨rfl, rfl, rfl, Nat.le_refl _, fun _ _ => rfl⟩⟩
          case measure => simp [intOf]; omega
        · rw [(hout hqk).1, (hout hqk).2]
          go_wp2_with fail
          refine (tval_out T9 (by rw [hlk]; exact hqk) (by omega)).mono ?_
          rintro e w10 ⟨rfl, hb10⟩
          have T10 := (T9.below hb10).below ((Below.refl _ _).alloc (Nat.le_refl _) (.cells #[.int .i8 0, .int .i64 0, .string ⟨#[]⟩] 39))
          have bel10 := (bel9.trans (hb10.mono bel9.size)).alloc (Nat.le_trans bel9.size hb10.size) (.cells #[.int .i8 0, .int .i64 0, .string ⟨#[]⟩] 39)
          have hqk' : ¬ (q : Int) < (kk : Int) := by omega
          clear y0 y1 y2 hin hout hat T9 bel9 hb10
          go_wp2_with fail
          go_quiet (fail)
          go_wp2
          go_roundw
          case rel => exact ⟨q + 1, by omega, by go_num, bel10.trans ⟨rfl, rfl, rfl, Nat.le_refl _, fun _ _ => rfl⟩, T10.below ⟨rfl, rfl, rfl, Nat.le_refl _, fun _ _ => rfl⟩⟩
          case measure => simp [intOf]; omega
      · go_wp2
        go_loopw [13] (fun i wr => ∃ q : Nat, q ≤ vs.length ∧ i = .int .i64 q ∧ Below w2.heap.size w2 wr ∧ Table wr w2.heap.size t (vs.take q) vs.length) (fun i _ => vs.length - (intOf i).toNat)
        case atStart => exact ⟨kk, hkk, rfl, bel, T⟩
        case round =>
          obtain ⟨q2, hq2, rfl, bel', T'⟩ := hrel
          clear T bel
          by_cases hlt2 : q2 < vs.length
          · obtain ⟨g, off, rfl, hg, x0, x1, x2⟩ := (lv.below bel').at hlt2
            have uwf := vwf _ (atV_mem hlt2)
            have uok := HG.ok _ (atV_mem hlt2)
            have hno := not_mem_take HG.nodup hlt2
            have HT : Hid (vs.take (q2 + 1) = vs.take q2 ++ [atV vs q2]) := take_snoc hlt2
            have hlen2 : (vs.take q2).length = q2 := by simp; omega
            generalize atV vs q2 = u at x0 x1 x2 uwf uok hno HT
            go_wp2_with fail
            refine (tadd_new T' uwf uok hno (by rw [hlen2]; omega) (by rw [hlen2]; omega)).mono ?_
            rintro e w9 ⟨rfl, T9, hb9⟩
            rw [hlen2]
            rw [← HT.out] at T9
            have bel9 := bel'.trans hb9
            clear hb9 T' bel' x0 x1 x2
            go_wp2
            go_roundw
            case rel => exact ⟨q2 + 1, by omega, by go_num, bel9, T9⟩
            case measure => simp [intOf]; omega
          · have e : vs.take q2 = vs := List.take_of_length_le (by omega)
            rw [e] at T'
            clear e
            go_wp2_with (go_at_call 12; refine (tlen T').mono ?_; rintro e w' ⟨rfl, rfl⟩)
            go_ret
            exact ⟨by simp, bel2.trans (bel'.mono bel2.size)⟩
end Go.Proofs.Ytinncofhidiciaa
