import Derived.Test.YtheihplldbccpaaGreatDoorTermTree
import Derived.Deep.RegionHeld3
namespace Go.Proofs.YtheihplldbccpaaGreatDoor
open Go.RowKit Go.Maps
set_option linter.unusedVariables false
set_option linter.unusedSimpArgs false
attribute [local go_sem ↓] Go.wp_at_zero Go.wp_at_succ

theorem run_neqT (t u : T) (w : World) :
    (binOp .neq 50 (.agg #[.string t.v, .int .i8 t.a.k, .int .i64 t.a.n, .string t.a.s]) (.agg #[.string u.v, .int .i8 u.a.k, .int .i64 u.a.n, .string u.a.s])).run Tryz.prog w = .ok (.bool (!decide (t = u))) w := by
  obtain ⟨tv, k1, n1, s1⟩ := t
  obtain ⟨uv, k2, n2, s2⟩ := u
  dsimp only
  by_cases hv : tv.toList = uv.toList
  · have ev := toList_inj hv
    subst ev
    by_cases hk : k1 = k2
    · by_cases hn : n1 = n2
      · by_cases hs : s1.toList = s2.toList
        · have := toList_inj hs
          subst hk hn this
          go_simp
        · have e : decide ((⟨tv, k1, n1, s1⟩ : T) = ⟨tv, k2, n2, s2⟩) = false := decide_eq_false (fun h => hs (by cases h; rfl))
          rw [e]
          go_simp
      · have e : decide ((⟨tv, k1, n1, s1⟩ : T) = ⟨tv, k2, n2, s2⟩) = false := decide_eq_false (fun h => hn (by cases h; rfl))
        rw [e]
        go_simp
    · have e : decide ((⟨tv, k1, n1, s1⟩ : T) = ⟨tv, k2, n2, s2⟩) = false := decide_eq_false (fun h => hk (by cases h; rfl))
      rw [e]
      go_simp
  · have e : decide ((⟨tv, k1, n1, s1⟩ : T) = ⟨uv, k2, n2, s2⟩) = false := decide_eq_false (fun h => hv (by cases h; rfl))
    rw [e]
    go_simp
def rkOf (op : Int) : Int := if op = 1 ∨ 8 ≤ op ∧ op ≤ 10 then 1 else if 2 ≤ op ∧ op ≤ 7 then 2 else -1
set_option maxHeartbeats 800000 in
theorem rkids_any (op : Int) (w : World) (hb : -128 ≤ op ∧ op ≤ 127) : Calls Tryz.prog 104 #[.int .i8 op] w fun e w' => e = .returned (.int .i64 (rkOf op)) ∧ w' = w := by
  have HR : Hid (rkOf op = if op = 1 ∨ 8 ≤ op ∧ op ≤ 10 then 1 else if 2 ≤ op ∧ op ≤ 7 then 2 else -1) := rfl
  by_cases h1 : op = 1
  · subst h1
    go_enter Tryz.func104, Tryz.ntmps104
    go_wp2
    all_goals
      go_ret
      exact ⟨rfl, rfl⟩
  · have d1 : (op == 1) = false := by rw [beq_eq_false_iff_ne]; exact h1
    by_cases h8 : 8 ≤ op
    · by_cases h10 : op ≤ 10
      · have HE : Hid (rkOf op = 1) := by show _ = _; rw [HR.out, if_pos (.inr ⟨h8, h10⟩)]
        clear HR
        go_enter Tryz.func104, Tryz.ntmps104
        go_wp2
        all_goals
          go_ret
          exact ⟨ret_int HE.out.symm, rfl⟩
      · have HE : Hid (rkOf op = -1) := by show _ = _; rw [HR.out, if_neg (by omega), if_neg (by omega)]
        have h7 : ¬ op ≤ 7 := by omega
        have h2 : 2 ≤ op := by omega
        clear HR
        go_enter Tryz.func104, Tryz.ntmps104
        go_wp2
        all_goals
          go_ret
          exact ⟨ret_int HE.out.symm, rfl⟩
    · by_cases h2 : 2 ≤ op
      · have HE : Hid (rkOf op = 2) := by show _ = _; rw [HR.out, if_neg (by omega), if_pos (by omega)]
        have h7 : op ≤ 7 := by omega
        clear HR
        go_enter Tryz.func104, Tryz.ntmps104
        go_wp2
        all_goals
          go_ret
          exact ⟨ret_int HE.out.symm, rfl⟩
      · have HE : Hid (rkOf op = -1) := by show _ = _; rw [HR.out, if_neg (by omega), if_neg (by omega)]
        clear HR
        go_enter Tryz.func104, Tryz.ntmps104
        go_wp2
        all_goals
          go_ret
          exact ⟨ret_int HE.out.symm, rfl⟩
theorem rk_kids {op : Int} {n : Nat} (h0 : ¬ op = 0) : (n : Int) = rkOf op ↔ (0 ≤ op ∧ op < 11 ∧ n = kidsOf op.toNat) := by
  by_cases h : 0 ≤ op ∧ op < 11
  · obtain ⟨p, rfl⟩ : ∃ p : Nat, op = p := ⟨op.toNat, by omega⟩
    have : ∀ q : Fin 11, q.val ≠ 0 → rkOf (q.val : Int) = (kidsOf q.val : Int) := by decide
    have e := this ⟨p, by omega⟩ (by show p ≠ 0; omega)
    simp only at e
    rw [e, Int.toNat_natCast]
    omega
  · have e : rkOf op = -1 := by unfold rkOf; rw [if_neg (by omega), if_neg (by omega)]
    rw [e]
    omega
theorem exprB_mk (r : Nat) (op : Int) (t : T) (kids : List E) : exprB (r + 1) (.mk op t kids) = (decide (0 ≤ op) && decide (op < 11) && decide (kids.length = kidsOf op.toNat) && (if op = 0 then namedB t else kids.all (exprB r) && decide (t = T0))) := rfl
set_option maxHeartbeats 3200000 in
theorem rexpr_any : ∀ (room : Nat) (d : Nat) (e : E) (a : Option Addr) (c : Nat) (w : World), room ≤ 1000 → EIs w d e a c →
    Calls Tryz.prog 89 #[e.val a c, .int .i64 room] w fun r w' => r = .returned (.bool (exprB room e)) ∧ Below w.heap.size w w' := by
  intro room
  induction room with
  | zero =>
    intro d e a c w hr hE
    have HF : Hid (exprB 0 e = false) := rfl
    unfold E.val
    go_enter Tryz.func89, Tryz.ntmps89
    go_wp2
    go_ret
    exact ⟨ret_bool HF.out.symm, (Below.refl _ _).alloc (Nat.le_refl _) _⟩
  | succ r ih =>
    intro d e a c w hr hE
    cases d with
    | zero => exact hE.elim
    | succ d =>
    obtain ⟨op, t, kids⟩ := e
    obtain ⟨hop, htw, hc1, hc2, hk⟩ := hE
    simp only [op_mk, t_mk, kids_mk] at hop htw hc1 hk
    obtain ⟨m, hm⟩ : ∃ m : Nat, r + 1 = m := ⟨_, rfl⟩
    have hm1 : ((m : Int) == 0) = false := by rw [beq_eq_false_iff_ne]; omega
    have hmr : (m : Int) - 1 = (r : Int) := by omega
    have hrw : IntKind.i64.wrap (r : Int) = (r : Int) := by simp [IntKind.wrap, IntKind.bits, IntKind.signed]; omega
    have HX : Hid (exprB m (.mk op t kids) = (decide (0 ≤ op) && decide (op < 11) && decide (kids.length = kidsOf op.toNat) && (if op = 0 then namedB t else kids.all (exprB r) && decide (t = T0)))) := by rw [← hm]; exact exprB_mk r op t kids
    have IH : Hid _ := ih
    clear ih
    rw [hm]
    have hlen := hop.2
    have HR : Hid (r ≤ 1000) := by show r ≤ 1000; omega
    clear hm hr
    unfold E.val
    simp only [op_mk, t_mk, kids_mk]
    have HK : Hid _ := hk
    have hob := hop.1
    clear hk hop
    have BA := (Below.refl w.heap.size w).alloc (Nat.le_refl _) (.cells #[.int .i8 op, .string t.v, .int .i8 t.a.k, .int .i64 t.a.n, .string t.a.s, .slice a kids.length c] 53)
    by_cases h0 : op = 0
    · have d0 : (op == 0) = true := by rw [h0]; rfl
      rw [if_pos h0] at HX
      by_cases hl0 : kids.length = 0
      · have dl : ((kids.length : Int) == 0) = true := by rw [hl0]; rfl
        have HF : Hid (exprB m (.mk op t kids) = namedB t) := by
          show _ = _
          rw [HX.out, hl0, h0]
          simp [kidsOf, kidTab]
        by_cases eb : t.v = blankS
        · have db : (t.v.toList == [95]) = true := by rw [eb, ByteArray.toList_eq]; rfl
          have HN : Hid (namedB t = false) := by show _ = _; unfold namedB; simp [eb]
          clear HX h0 hl0 eb IH HK
          go_enter Tryz.func89, Tryz.ntmps89
          go_wp2
          go_ret
          exact ⟨ret_bool (by rw [HF.out, HN.out]), BA⟩
        · have db := blank_iff eb
          have HN : Hid (namedB t = termB t) := by show _ = _; unfold namedB; simp [eb]
          clear HX h0 hl0 eb IH HK
          go_enter Tryz.func89, Tryz.ntmps89
          go_wp2_with (go_at_call 86; refine (rterm_any t _ htw).mono ?_; rintro ee w1 ⟨rfl, b1⟩)
          go_ret
          exact ⟨ret_bool (by rw [HF.out, HN.out]), BA.trans (b1.mono BA.size)⟩
      · have dl : ((kids.length : Int) == 0) = false := by rw [beq_eq_false_iff_ne]; omega
        have HF : Hid (exprB m (.mk op t kids) = false) := by
          show _ = _
          rw [HX.out, h0, decide_eq_false (show ¬ kids.length = kidsOf (0 : Int).toNat by show ¬ kids.length = 0; exact hl0)]
          simp
        clear HX h0 hl0 IH HK
        go_enter Tryz.func89, Tryz.ntmps89
        go_wp2
        go_ret
        exact ⟨ret_bool HF.out.symm, BA⟩
    · have d0 : (op == 0) = false := by rw [beq_eq_false_iff_ne]; exact h0
      rw [if_neg h0] at HX
      have BB := BA.alloc BA.size (.cells #[.string ⟨#[]⟩, .int .i8 0, .int .i64 0, .string ⟨#[]⟩] 50)
      have hQ := run_neqT t T0
      by_cases ht0 : t = T0
      · have hq : (!decide (t = T0)) = false := by rw [decide_eq_true ht0]; rfl
        rw [hq] at hQ
        unfold T0 V0 noS at hQ
        dsimp only at hQ
        by_cases hkn : (kids.length : Int) = rkOf op
        · have dn : ((kids.length : Int) != rkOf op) = false := by rw [hkn]; simp
          have HF : Hid (exprB m (.mk op t kids) = kids.all (exprB r)) := by
            obtain ⟨i1, i2, i3⟩ := (rk_kids h0).1 hkn
            show _ = _
            rw [HX.out, decide_eq_true i1, decide_eq_true i2, decide_eq_true i3, decide_eq_true ht0]
            simp
          have HW : Hid (XAt (((w.alloc (.cells #[.int .i8 op, .string t.v, .int .i8 t.a.k, .int .i64 t.a.n, .string t.a.s, .slice a kids.length c] 53)).alloc (.cells #[.string ⟨#[]⟩, .int .i8 0, .int .i64 0, .string ⟨#[]⟩] 50)).drew) w.heap.size 0 op t (.slice a kids.length c) ∧ Below w.heap.size w (((w.alloc (.cells #[.int .i8 op, .string t.v, .int .i8 t.a.k, .int .i64 t.a.n, .string t.a.s, .slice a kids.length c] 53)).alloc (.cells #[.string ⟨#[]⟩, .int .i8 0, .int .i64 0, .string ⟨#[]⟩] 50)).drew)) := ⟨⟨by go_simp, by go_simp, by go_simp, by go_simp, by go_simp, by go_simp⟩, BB.drew⟩
          clear HX h0 ht0 hq hkn BA BB
          generalize hrk : rkOf op = rk at dn
          have HRK : Hid _ := hrk
          clear hrk
          go_enter Tryz.func89, Tryz.ntmps89
          go_wp2_with fail
          go_region_held3 (fun u => u.cell? ⟨w.heap.size, 0, none⟩ = some (.int .i8 op) ∧ u.cell? ⟨w.heap.size, 1, none⟩ = some (.string t.v) ∧ u.cell? ⟨w.heap.size, 2, none⟩ = some (.int .i8 t.a.k) ∧ u.cell? ⟨w.heap.size, 3, none⟩ = some (.int .i64 t.a.n) ∧ u.cell? ⟨w.heap.size, 4, none⟩ = some (.string t.a.s) ∧ u.cell? ⟨w.heap.size, 5, none⟩ = some (.slice a kids.length c) ∧ u.cell? ⟨w.heap.size + 1, 0, none⟩ = some (.string ⟨#[]⟩) ∧ u.cell? ⟨w.heap.size + 1, 1, none⟩ = some (.int .i8 0) ∧ u.cell? ⟨w.heap.size + 1, 2, none⟩ = some (.int .i64 0) ∧ u.cell? ⟨w.heap.size + 1, 3, none⟩ = some (.string ⟨#[]⟩))
            (first
              | assumption
              | (refine ⟨?_, ?_, ?_, ?_, ?_, ?_, ?_, ?_, ?_, ?_⟩ <;> go_simp))
            (first
              | (go_at_call 104; refine (rkids_any op _ hob).mono ?_; rw [HRK.out]; rintro ee w2 ⟨rfl, rfl⟩)
              | fail)
          generalize hWW : ((w.alloc (.cells #[.int .i8 op, .string t.v, .int .i8 t.a.k, .int .i64 t.a.n, .string t.a.s, .slice a kids.length c] 53)).alloc (.cells #[.string ⟨#[]⟩, .int .i8 0, .int .i64 0, .string ⟨#[]⟩] 50)).drew = W at HW ⊢
          clear hWW
          obtain ⟨hX, hB⟩ := HW.out
          have hWlt : w.heap.size < W.heap.size := World.block_lt_of_cell? _ _ hX.c0
          have HXw : Hid (XAt W w.heap.size 0 op t (.slice a kids.length c)) := hX
          clear HW hX
          go_wp2
          go_loopw [6] (fun i wr => ∃ k : Nat, k ≤ kids.length ∧ i = .int .i64 k ∧ Below W.heap.size W wr ∧ Hid ((kids.take k).all (exprB r) = true)) (fun i _ => kids.length - (intOf i).toNat)
          case atStart => exact ⟨0, Nat.zero_le _, rfl, Below.refl _ _, by simp [Hid]⟩
          case round =>
            obtain ⟨k, hk, rfl, bel, HS⟩ := hrel
            have belw : Below w.heap.size w wr := hB.trans (bel.mono hB.size)
            have x5 := (HXw.out.below bel hWlt).c5
            simp only [Nat.zero_add] at x5
            by_cases hlt : k < kids.length
            · have hlt' : (k : Int) < (kids.length : Int) := by omega
              obtain ⟨g, off, rfl, hg, hKS⟩ := HK.out (by omega)
              obtain ⟨a', c', hx, he⟩ := hKS k hlt
              obtain ⟨y0, y1, y2, y3, y4, y5⟩ := hx.below belw hg
              have he' := he.below belw
              have HN : Hid (exprB r (atE kids k) = false → exprB m (.mk op t kids) = false) := fun h => by rw [HF.out, allE_not hlt h]
              have HY : Hid (exprB r (atE kids k) = true → (kids.take (k + 1)).all (exprB r) = true) := fun h => by rw [allE_take hlt, HS.out, h]; rfl
              generalize atE kids k = x at y0 y1 y2 y3 y4 y5 he' HN HY
              have HEI : Hid _ := he'
              clear hKS hx he he'
              go_wp2_with fail
              refine (IH.out d x a' c' _ HR.out HEI.out).mono ?_
              rintro ee w2 ⟨rfl, b2⟩
              have b2' := bel.trans (b2.mono bel.size)
              cases ht : exprB r x
              · go_wp2
                go_ret
                exact ⟨ret_bool (HN.out ht).symm, hB.trans (b2'.mono hB.size)⟩
              · go_wp2
                go_roundw
                case rel => exact ⟨k + 1, by omega, by go_num, b2', HY.out ht⟩
                case measure => simp [intOf]; omega
            · obtain rfl : k = kids.length := by omega
              go_wp2
              go_ret
              have hs := HS.out
              rw [List.take_length] at hs
              exact ⟨ret_bool (by rw [HF.out, hs]), belw⟩
        · have dn : ((kids.length : Int) != rkOf op) = true := by rw [bne_iff_ne]; exact hkn
          have HF : Hid (exprB m (.mk op t kids) = false) := by
            show _ = _
            rw [HX.out]
            have : ¬ (0 ≤ op ∧ op < 11 ∧ kids.length = kidsOf op.toNat) := fun h => hkn ((rk_kids h0).2 h)
            by_cases j1 : 0 ≤ op
            · by_cases j2 : op < 11
              · rw [decide_eq_false (fun j3 => this ⟨j1, j2, j3⟩)]; simp
              · rw [decide_eq_false j2]; simp
            · rw [decide_eq_false j1]; simp
          clear HX h0 ht0 hq hkn IH HK
          generalize hrk : rkOf op = rk at dn
          have HRK : Hid _ := hrk
          clear hrk
          go_enter Tryz.func89, Tryz.ntmps89
          go_wp2_with fail
          go_region_held3 (fun u => u.cell? ⟨w.heap.size, 0, none⟩ = some (.int .i8 op) ∧ u.cell? ⟨w.heap.size, 1, none⟩ = some (.string t.v) ∧ u.cell? ⟨w.heap.size, 2, none⟩ = some (.int .i8 t.a.k) ∧ u.cell? ⟨w.heap.size, 3, none⟩ = some (.int .i64 t.a.n) ∧ u.cell? ⟨w.heap.size, 4, none⟩ = some (.string t.a.s) ∧ u.cell? ⟨w.heap.size, 5, none⟩ = some (.slice a kids.length c) ∧ u.cell? ⟨w.heap.size + 1, 0, none⟩ = some (.string ⟨#[]⟩) ∧ u.cell? ⟨w.heap.size + 1, 1, none⟩ = some (.int .i8 0) ∧ u.cell? ⟨w.heap.size + 1, 2, none⟩ = some (.int .i64 0) ∧ u.cell? ⟨w.heap.size + 1, 3, none⟩ = some (.string ⟨#[]⟩))
            (first
              | assumption
              | (refine ⟨?_, ?_, ?_, ?_, ?_, ?_, ?_, ?_, ?_, ?_⟩ <;> go_simp))
            (first
              | (go_at_call 104; refine (rkids_any op _ hob).mono ?_; rw [HRK.out]; rintro ee w2 ⟨rfl, rfl⟩)
              | fail)
          go_wp2
          go_ret
          exact ⟨ret_bool HF.out.symm, BB.drew⟩
      · have hq : (!decide (t = T0)) = true := by rw [decide_eq_false ht0]; rfl
        rw [hq] at hQ
        unfold T0 V0 noS at hQ
        dsimp only at hQ
        have HF : Hid (exprB m (.mk op t kids) = false) := by
          show _ = _
          rw [HX.out, decide_eq_false ht0]
          simp
        clear HX h0 ht0 hq IH HK
        go_enter Tryz.func89, Tryz.ntmps89
        go_wp2_with fail
        go_quiet (fail)
        go_wp2
        go_ret
        exact ⟨ret_bool HF.out.symm, below_drewN BB _⟩
end Go.Proofs.YtheihplldbccpaaGreatDoor
