import Derived.Test.YtgfnijhhhgjabaaGreatDoorTermHandQ
import Derived.Deep.RegionHeld3
import Derived.Test.YtgfnijhhhgjabaaGreatDoorG6
import Derived.Deep.RegionWith
import Derived.Test.YtgfnijhhhgjabaaGreatDoorG7
section
namespace Go.Proofs.YtgfnijhhhgjabaaGreatDoor
open Go.RowKit Go.Maps
set_option linter.unusedVariables false
set_option linter.unusedSimpArgs false
attribute [local go_sem ↓] Go.wp_at_zero Go.wp_at_succ

theorem run_neqT (t u : T) (w : World) :
    (binOp .neq 44 (.agg #[.string t.v, .int .i8 t.a.k, .int .i64 t.a.n, .string t.a.s]) (.agg #[.string u.v, .int .i8 u.a.k, .int .i64 u.a.n, .string u.a.s])).run Tryz.prog w = .ok (.bool (!decide (t = u))) w := by
  obtain ⟨tv, k1, n1, s1⟩ := t
  obtain ⟨uv, k2, n2, s2⟩ := u
  dsimp only
  by_cases hv : tv.toList = uv.toList
  · have ev := toList_inj hv
    subst ev
    by_cases hk : k1 = k2
    · by_cases hn : n1 = n2
      · by_cases hs : s1.toList = s2.toList
        · have := toList_inj hs
          subst hk hn this
          go_simp
        · have e : decide ((⟨tv, k1, n1, s1⟩ : T) = ⟨tv, k2, n2, s2⟩) = false := decide_eq_false (fun h => hs (by cases h; rfl))
          rw [e]
          go_simp
      · have e : decide ((⟨tv, k1, n1, s1⟩ : T) = ⟨tv, k2, n2, s2⟩) = false := decide_eq_false (fun h => hn (by cases h; rfl))
        rw [e]
        go_simp
    · have e : decide ((⟨tv, k1, n1, s1⟩ : T) = ⟨tv, k2, n2, s2⟩) = false := decide_eq_false (fun h => hk (by cases h; rfl))
      rw [e]
      go_simp
  · have e : decide ((⟨tv, k1, n1, s1⟩ : T) = ⟨uv, k2, n2, s2⟩) = false := decide_eq_false (fun h => hv (by cases h; rfl))
    rw [e]
    go_simp
def rkOf (op : Int) : Int := if op = 1 ∨ 8 ≤ op ∧ op ≤ 10 then 1 else if 2 ≤ op ∧ op ≤ 7 then 2 else -1
set_option maxHeartbeats 800000 in
theorem rkids_any (op : Int) (w : World) (hb : -128 ≤ op ∧ op ≤ 127) : Calls Tryz.prog 93 #[.int .i8 op] w fun e w' => e = .returned (.int .i64 (rkOf op)) ∧ w' = w := by
  have HR : Hid (rkOf op = if op = 1 ∨ 8 ≤ op ∧ op ≤ 10 then 1 else if 2 ≤ op ∧ op ≤ 7 then 2 else -1) := rfl
  by_cases h1 : op = 1
  · subst h1
    go_enter Tryz.func93, Tryz.ntmps93
    go_wp2
    all_goals
      go_ret
      exact ⟨rfl, rfl⟩
  · have d1 : (op == 1) = false := by rw [beq_eq_false_iff_ne]; exact h1
    by_cases h8 : 8 ≤ op
    · by_cases h10 : op ≤ 10
      · have HE : Hid (rkOf op = 1) := by show _ = _; rw [HR.out, if_pos (.inr ⟨h8, h10⟩)]
        clear HR
        go_enter Tryz.func93, Tryz.ntmps93
        go_wp2
        all_goals
          go_ret
          exact ⟨ret_int HE.out.symm, rfl⟩
      · have HE : Hid (rkOf op = -1) := by show _ = _; rw [HR.out, if_neg (by omega), if_neg (by omega)]
        have h7 : ¬ op ≤ 7 := by omega
        have h2 : 2 ≤ op := by omega
        clear HR
        go_enter Tryz.func93, Tryz.ntmps93
        go_wp2
        all_goals
          go_ret
          exact ⟨ret_int HE.out.symm, rfl⟩
    · by_cases h2 : 2 ≤ op
      · have HE : Hid (rkOf op = 2) := by show _ = _; rw [HR.out, if_neg (by omega), if_pos (by omega)]
        have h7 : op ≤ 7 := by omega
        clear HR
        go_enter Tryz.func93, Tryz.ntmps93
        go_wp2
        all_goals
          go_ret
          exact ⟨ret_int HE.out.symm, rfl⟩
      · have HE : Hid (rkOf op = -1) := by show _ = _; rw [HR.out, if_neg (by omega), if_neg (by omega)]
        clear HR
        go_enter Tryz.func93, Tryz.ntmps93
        go_wp2
        all_goals
          go_ret
          exact ⟨ret_int HE.out.symm, rfl⟩
theorem rk_kids {op : Int} {n : Nat} (h0 : ¬ op = 0) : (n : Int) = rkOf op ↔ (0 ≤ op ∧ op < 11 ∧ n = kidsOf op.toNat) := by
  by_cases h : 0 ≤ op ∧ op < 11
  · obtain ⟨p, rfl⟩ : ∃ p : Nat, op = p := ⟨op.toNat, by omega⟩
    have : ∀ q : Fin 11, q.val ≠ 0 → rkOf (q.val : Int) = (kidsOf q.val : Int) := by decide
    have e := this ⟨p, by omega⟩ (by show p ≠ 0; omega)
    simp only at e
    rw [e, Int.toNat_natCast]
    omega
  · have e : rkOf op = -1 := by unfold rkOf; rw [if_neg (by omega), if_neg (by omega)]
    rw [e]
    omega
theorem exprB_mk (r : Nat) (op : Int) (t : T) (kids : List E) : exprB (r + 1) (.mk op t kids) = (decide (0 ≤ op) && decide (op < 11) && decide (kids.length = kidsOf op.toNat) && (if op = 0 then namedB t else kids.all (exprB r) && decide (t = T0))) := rfl
set_option maxHeartbeats 3200000 in
theorem rexpr_any : ∀ (room : Nat) (d : Nat) (e : E) (a : Option Addr) (c : Nat) (w : World), room ≤ 1000 → EIs w d e a c →
    Calls Tryz.prog 68 #[e.val a c, .int .i64 room] w fun r w' => r = .returned (.bool (exprB room e)) ∧ Below w.heap.size w w' := by
  intro room
  induction room with
  | zero =>
    intro d e a c w hr hE
    have HF : Hid (exprB 0 e = false) := rfl
    unfold E.val
    go_enter Tryz.func68, Tryz.ntmps68
    go_wp2
    go_ret
    exact ⟨ret_bool HF.out.symm, (Below.refl _ _).alloc (Nat.le_refl _) _⟩
  | succ r ih =>
    intro d e a c w hr hE
    cases d with
    | zero => exact hE.elim
    | succ d =>
    obtain ⟨op, t, kids⟩ := e
    obtain ⟨hop, htw, hc1, hc2, hk⟩ := hE
    simp only [op_mk, t_mk, kids_mk] at hop htw hc1 hk
    obtain ⟨m, hm⟩ : ∃ m : Nat, r + 1 = m := ⟨_, rfl⟩
    have hm1 : ((m : Int) == 0) = false := by rw [beq_eq_false_iff_ne]; omega
    have hmr : (m : Int) - 1 = (r : Int) := by omega
    have hrw : IntKind.i64.wrap (r : Int) = (r : Int) := by simp [IntKind.wrap, IntKind.bits, IntKind.signed]; omega
    have HX : Hid (exprB m (.mk op t kids) = (decide (0 ≤ op) && decide (op < 11) && decide (kids.length = kidsOf op.toNat) && (if op = 0 then namedB t else kids.all (exprB r) && decide (t = T0)))) := by rw [← hm]; exact exprB_mk r op t kids
    have IH : Hid _ := ih
    clear ih
    rw [hm]
    have hlen := hop.2
    have HR : Hid (r ≤ 1000) := by show r ≤ 1000; omega
    clear hm hr
    unfold E.val
    simp only [op_mk, t_mk, kids_mk]
    have HK : Hid _ := hk
    have hob := hop.1
    clear hk hop
    have BA := (Below.refl w.heap.size w).alloc (Nat.le_refl _) (.cells #[.int .i8 op, .string t.v, .int .i8 t.a.k, .int .i64 t.a.n, .string t.a.s, .slice a kids.length c] 53)
    by_cases h0 : op = 0
    · have d0 : (op == 0) = true := by rw [h0]; rfl
      rw [if_pos h0] at HX
      by_cases hl0 : kids.length = 0
      · have dl : ((kids.length : Int) == 0) = true := by rw [hl0]; rfl
        have HF : Hid (exprB m (.mk op t kids) = namedB t) := by
          show _ = _
          rw [HX.out, hl0, h0]
          simp [kidsOf, kidTab]
        by_cases eb : t.v = blankS
        · have db : (t.v.toList == [95]) = true := by rw [eb, ByteArray.toList_eq]; rfl
          have HN : Hid (namedB t = false) := by show _ = _; unfold namedB; simp [eb]
          clear HX h0 hl0 eb IH HK
          go_enter Tryz.func68, Tryz.ntmps68
          go_wp2
          go_ret
          exact ⟨ret_bool (by rw [HF.out, HN.out]), BA⟩
        · have db := blank_iff eb
          have HN : Hid (namedB t = termB t) := by show _ = _; unfold namedB; simp [eb]
          clear HX h0 hl0 eb IH HK
          go_enter Tryz.func68, Tryz.ntmps68
          go_wp2_with (go_at_call 65; refine (rterm_any t _ htw).mono ?_; rintro ee w1 ⟨rfl, b1⟩)
          go_ret
          exact ⟨ret_bool (by rw [HF.out, HN.out]), BA.trans (b1.mono BA.size)⟩
      · have dl : ((kids.length : Int) == 0) = false := by rw [beq_eq_false_iff_ne]; omega
        have HF : Hid (exprB m (.mk op t kids) = false) := by
          show _ = _
          rw [HX.out, h0, decide_eq_false (show ¬ kids.length = kidsOf (0 : Int).toNat by show ¬ kids.length = 0; exact hl0)]
          simp
        clear HX h0 hl0 IH HK
        go_enter Tryz.func68, Tryz.ntmps68
        go_wp2
        go_ret
        exact ⟨ret_bool HF.out.symm, BA⟩
    · have d0 : (op == 0) = false := by rw [beq_eq_false_iff_ne]; exact h0
      rw [if_neg h0] at HX
      have BB := BA.alloc BA.size (.cells #[.string ⟨#[]⟩, .int .i8 0, .int .i64 0, .string ⟨#[]⟩] 44)
      have hQ := run_neqT t T0
      by_cases ht0 : t = T0
      · have hq : (!decide (t = T0)) = false := by rw [decide_eq_true ht0]; rfl
        rw [hq] at hQ
        unfold T0 V0 noS at hQ
        dsimp only at hQ
        by_cases hkn : (kids.length : Int) = rkOf op
        · have dn : ((kids.length : Int) != rkOf op) = false := by rw [hkn]; simp
          have HF : Hid (exprB m (.mk op t kids) = kids.all (exprB r)) := by
            obtain ⟨i1, i2, i3⟩ := (rk_kids h0).1 hkn
            show _ = _
            rw [HX.out, decide_eq_true i1, decide_eq_true i2, decide_eq_true i3, decide_eq_true ht0]
            simp
          have HW : Hid (XAt (((w.alloc (.cells #[.int .i8 op, .string t.v, .int .i8 t.a.k, .int .i64 t.a.n, .string t.a.s, .slice a kids.length c] 53)).alloc (.cells #[.string ⟨#[]⟩, .int .i8 0, .int .i64 0, .string ⟨#[]⟩] 44)).drew) w.heap.size 0 op t (.slice a kids.length c) ∧ Below w.heap.size w (((w.alloc (.cells #[.int .i8 op, .string t.v, .int .i8 t.a.k, .int .i64 t.a.n, .string t.a.s, .slice a kids.length c] 53)).alloc (.cells #[.string ⟨#[]⟩, .int .i8 0, .int .i64 0, .string ⟨#[]⟩] 44)).drew)) := ⟨⟨by go_simp, by go_simp, by go_simp, by go_simp, by go_simp, by go_simp⟩, BB.drew⟩
          clear HX h0 ht0 hq hkn BA BB
          generalize hrk : rkOf op = rk at dn
          have HRK : Hid _ := hrk
          clear hrk
          go_enter Tryz.func68, Tryz.ntmps68
          go_wp2_with fail
          go_region_held3 (fun u => u.cell? ⟨w.heap.size, 0, none⟩ = some (.int .i8 op) ∧ u.cell? ⟨w.heap.size, 1, none⟩ = some (.string t.v) ∧ u.cell? ⟨w.heap.size, 2, none⟩ = some (.int .i8 t.a.k) ∧ u.cell? ⟨w.heap.size, 3, none⟩ = some (.int .i64 t.a.n) ∧ u.cell? ⟨w.heap.size, 4, none⟩ = some (.string t.a.s) ∧ u.cell? ⟨w.heap.size, 5, none⟩ = some (.slice a kids.length c) ∧ u.cell? ⟨w.heap.size + 1, 0, none⟩ = some (.string ⟨#[]⟩) ∧ u.cell? ⟨w.heap.size + 1, 1, none⟩ = some (.int .i8 0) ∧ u.cell? ⟨w.heap.size + 1, 2, none⟩ = some (.int .i64 0) ∧ u.cell? ⟨w.heap.size + 1, 3, none⟩ = some (.string ⟨#[]⟩))
            (first
              | assumption
              | (refine ⟨?_, ?_, ?_, ?_, ?_, ?_, ?_, ?_, ?_, ?_⟩ <;> go_simp))
            (first
              | (go_at_call 93; refine (rkids_any op _ hob).mono ?_; rw [HRK.out]; rintro ee w2 ⟨rfl, rfl⟩)
              | fail)
          generalize hWW : ((w.alloc (.cells #[.int .i8 op, .string t.v, .int .i8 t.a.k, .int .i64 t.a.n, .string t.a.s, .slice a kids.length c] 53)).alloc (.cells #[.string ⟨#[]⟩, .int .i8 0, .int .i64 0, .string ⟨#[]⟩] 44)).drew = W at HW ⊢
          clear hWW
          obtain ⟨hX, hB⟩ := HW.out
          have hWlt : w.heap.size < W.heap.size := World.block_lt_of_cell? _ _ hX.c0
          have HXw : Hid (XAt W w.heap.size 0 op t (.slice a kids.length c)) := hX
          clear HW hX
          go_wp2
          go_loopw [6] (fun i wr => ∃ k : Nat, k ≤ kids.length ∧ i = .int .i64 k ∧ Below W.heap.size W wr ∧ Hid ((kids.take k).all (exprB r) = true)) (fun i _ => kids.length - (intOf i).toNat)
          case atStart => exact ⟨0, Nat.zero_le _, rfl, Below.refl _ _, by simp [Hid]⟩
          case round =>
            obtain ⟨k, hk, rfl, bel, HS⟩ := hrel
            have belw : Below w.heap.size w wr := hB.trans (bel.mono hB.size)
            have x5 := (HXw.out.below bel hWlt).c5
            simp only [Nat.zero_add] at x5
            by_cases hlt : k < kids.length
            · have hlt' : (k : Int) < (kids.length : Int) := by omega
              obtain ⟨g, off, rfl, hg, hKS⟩ := HK.out (by omega)
              obtain ⟨a', c', hx, he⟩ := hKS k hlt
              obtain ⟨y0, y1, y2, y3, y4, y5⟩ := hx.below belw hg
              have he' := he.below belw
              have HN : Hid (exprB r (atE kids k) = false → exprB m (.mk op t kids) = false) := fun h => by rw [HF.out, allE_not hlt h]
              have HY : Hid (exprB r (atE kids k) = true → (kids.take (k + 1)).all (exprB r) = true) := fun h => by rw [allE_take hlt, HS.out, h]; rfl
              generalize atE kids k = x at y0 y1 y2 y3 y4 y5 he' HN HY
              have HEI : Hid _ := he'
              clear hKS hx he he'
              go_wp2_with fail
              refine (IH.out d x a' c' _ HR.out HEI.out).mono ?_
              rintro ee w2 ⟨rfl, b2⟩
              have b2' := bel.trans (b2.mono bel.size)
              cases ht : exprB r x
              · go_wp2
                go_ret
                exact ⟨ret_bool (HN.out ht).symm, hB.trans (b2'.mono hB.size)⟩
              · go_wp2
                go_roundw
                case rel => exact ⟨k + 1, by omega, by go_num, b2', HY.out ht⟩
                case measure => simp [intOf]; omega
            · obtain rfl : k = kids.length := by omega
              go_wp2
              go_ret
              have hs := HS.out
              rw [List.take_length] at hs
              exact ⟨ret_bool (by rw [HF.out, hs]), belw⟩
        · have dn : ((kids.length : Int) != rkOf op) = true := by rw [bne_iff_ne]; exact hkn
          have HF : Hid (exprB m (.mk op t kids) = false) := by
            show _ = _
            rw [HX.out]
            have : ¬ (0 ≤ op ∧ op < 11 ∧ kids.length = kidsOf op.toNat) := fun h => hkn ((rk_kids h0).2 h)
            by_cases j1 : 0 ≤ op
            · by_cases j2 : op < 11
              · rw [decide_eq_false (fun j3 => this ⟨j1, j2, j3⟩)]; simp
              · rw [decide_eq_false j2]; simp
            · rw [decide_eq_false j1]; simp
          clear HX h0 ht0 hq hkn IH HK
          generalize hrk : rkOf op = rk at dn
          have HRK : Hid _ := hrk
          clear hrk
          go_enter Tryz.func68, Tryz.ntmps68
          go_wp2_with fail
          go_region_held3 (fun u => u.cell? ⟨w.heap.size, 0, none⟩ = some (.int .i8 op) ∧ u.cell? ⟨w.heap.size, 1, none⟩ = some (.string t.v) ∧ u.cell? ⟨w.heap.size, 2, none⟩ = some (.int .i8 t.a.k) ∧ u.cell? ⟨w.heap.size, 3, none⟩ = some (.int .i64 t.a.n) ∧ u.cell? ⟨w.heap.size, 4, none⟩ = some (.string t.a.s) ∧ u.cell? ⟨w.heap.size, 5, none⟩ = some (.slice a kids.length c) ∧ u.cell? ⟨w.heap.size + 1, 0, none⟩ = some (.string ⟨#[]⟩) ∧ u.cell? ⟨w.heap.size + 1, 1, none⟩ = some (.int .i8 0) ∧ u.cell? ⟨w.heap.size + 1, 2, none⟩ = some (.int .i64 0) ∧ u.cell? ⟨w.heap.size + 1, 3, none⟩ = some (.string ⟨#[]⟩))
            (first
              | assumption
              | (refine ⟨?_, ?_, ?_, ?_, ?_, ?_, ?_, ?_, ?_, ?_⟩ <;> go_simp))
            (first
              | (go_at_call 93; refine (rkids_any op _ hob).mono ?_; rw [HRK.out]; rintro ee w2 ⟨rfl, rfl⟩)
              | fail)
          go_wp2
          go_ret
          exact ⟨ret_bool HF.out.symm, BB.drew⟩
      · have hq : (!decide (t = T0)) = true := by rw [decide_eq_false ht0]; rfl
        rw [hq] at hQ
        unfold T0 V0 noS at hQ
        dsimp only at hQ
        have HF : Hid (exprB m (.mk op t kids) = false) := by
          show _ = _
          rw [HX.out, decide_eq_false ht0]
          simp
        clear HX h0 ht0 hq IH HK
        go_enter Tryz.func68, Tryz.ntmps68
        go_wp2_with fail
        go_quiet (fail)
        go_wp2
        go_ret
        exact ⟨ret_bool HF.out.symm, below_drewN BB _⟩
end Go.Proofs.YtgfnijhhhgjabaaGreatDoor
end
section
namespace Go.Proofs.YtgfnijhhhgjabaaGreatDoor
open Go.RowKit Go.Maps
set_option linter.unusedVariables false
set_option linter.unusedSimpArgs false
attribute [local go_sem ↓] Go.wp_at_zero Go.wp_at_succ

/-- a literal: its kind, its atom, its relation, its sides -/
structure Lit4 where
  k : Int
  pr : ByteArray
  ts : List T
  rel : Int
  l : E
  r : E
/-- where a literal's lists lie -/
structure LP where
  a : Option Addr
  c : Nat
  la : Option Addr
  lc : Nat
  ra : Option Addr
  rc : Nat
def Lit4.val (x : Lit4) (p : LP) : Value := .agg #[.int .i8 x.k, .string x.pr, .slice p.a x.ts.length p.c, .int .i8 x.rel, .int .i8 x.l.op, .string x.l.t.v, .int .i8 x.l.t.a.k, .int .i64 x.l.t.a.n, .string x.l.t.a.s, .slice p.la x.l.kids.length p.lc, .int .i8 x.r.op, .string x.r.t.v, .int .i8 x.r.t.a.k, .int .i64 x.r.t.a.n, .string x.r.t.a.s, .slice p.ra x.r.kids.length p.rc]
/-- a literal in memory -/
structure LIs (w : World) (d : Nat) (x : Lit4) (p : LP) : Prop where
  kb : -128 ≤ x.k ∧ x.k ≤ 127
  rb : -128 ≤ x.rel ∧ x.rel ≤ 127
  pb : x.pr.size ≤ maxLen
  ln : x.ts.length ≤ 281474976710656
  ts : Lt w (.slice p.a x.ts.length p.c) x.ts
  l : EIs w d x.l p.la p.lc
  r : EIs w d x.r p.ra p.rc
theorem LIs.below {w w' : World} {d : Nat} {x : Lit4} {p : LP} (h : LIs w d x p) (b : Below w.heap.size w w') : LIs w' d x p := ⟨h.kb, h.rb, h.pb, h.ln, h.ts.below b, h.l.below b, h.r.below b⟩
/-- is it the zero expression? -/
def noE (e : E) : Bool := decide (e.op = 0) && (decide (e.t = T0) && decide (e.kids.length = 0))
/-- is it a literal as it may be? -/
def litB (x : Lit4) : Bool := if x.k = 1 ∨ x.k = 2 then atomB x.pr x.ts && (decide (x.rel = 0) && (noE x.l && noE x.r)) else if x.k = 3 then decide (x.pr = noS) && (decide (x.ts.length = 0) && (decide (1 ≤ x.rel) && (decide (x.rel ≤ 6) && (exprB 8 x.l && exprB 8 x.r)))) else false

set_option maxHeartbeats 1600000 in
theorem isNoExpr_any (e : E) (a : Option Addr) (c : Nat) (w : World) (hl : e.kids.length ≤ 281474976710656) : Calls Tryz.prog 96 #[e.val a c] w fun r w' => r = .returned (.bool (noE e)) ∧ Below w.heap.size w w' := by
  have BA := (Below.refl w.heap.size w).alloc (Nat.le_refl _) (.cells #[.int .i8 e.op, .string e.t.v, .int .i8 e.t.a.k, .int .i64 e.t.a.n, .string e.t.a.s, .slice a e.kids.length c] 53)
  have HN : Hid (noE e = (decide (e.op = 0) && (decide (e.t = T0) && decide (e.kids.length = 0)))) := rfl
  have hQ := run_eqT e.t T0
  unfold E.val
  by_cases h0 : e.op = 0
  · have d0 : (e.op == 0) = true := by rw [h0]; rfl
    by_cases h1 : e.t = T0
    · rw [decide_eq_true h1] at hQ
      unfold T0 V0 noS at hQ
      dsimp only at hQ
      by_cases h2 : e.kids.length = 0
      · have d2 : ((e.kids.length : Int) == 0) = true := by rw [h2]; rfl
        have HF : Hid (noE e = true) := by show _ = _; rw [HN.out, decide_eq_true h0, decide_eq_true h1, decide_eq_true h2]; rfl
        clear HN h0 h1 h2
        go_enter Tryz.func96, Tryz.ntmps96
        go_wp2
        go_ret
        exact ⟨ret_bool HF.out.symm, BA⟩
      · have d2 : ((e.kids.length : Int) == 0) = false := by rw [beq_eq_false_iff_ne]; omega
        have HF : Hid (noE e = false) := by show _ = _; rw [HN.out, decide_eq_false h2]; simp
        clear HN h0 h1 h2
        go_enter Tryz.func96, Tryz.ntmps96
        go_wp2
        go_ret
        exact ⟨ret_bool HF.out.symm, BA⟩
    · rw [decide_eq_false h1] at hQ
      unfold T0 V0 noS at hQ
      dsimp only at hQ
      have HF : Hid (noE e = false) := by show _ = _; rw [HN.out, decide_eq_false h1]; simp
      clear HN h0 h1
      go_enter Tryz.func96, Tryz.ntmps96
      go_wp2
      go_ret
      exact ⟨ret_bool HF.out.symm, BA⟩
  · have d0 : (e.op == 0) = false := by rw [beq_eq_false_iff_ne]; exact h0
    have HF : Hid (noE e = false) := by show _ = _; rw [HN.out, decide_eq_false h0]; simp
    clear HN h0
    go_enter Tryz.func96, Tryz.ntmps96
    go_wp2
    go_ret
    exact ⟨ret_bool HF.out.symm, BA⟩
set_option maxHeartbeats 1600000 in
theorem nothing_any (e : E) (a : Option Addr) (c : Nat) (w : World) (hl : e.kids.length ≤ 281474976710656) : Calls Tryz.prog 67 #[e.val a c] w fun r w' => r = .returned (.bool (noE e)) ∧ Below w.heap.size w w' := by
  have BA0 := (Below.refl w.heap.size w).alloc (Nat.le_refl _) (.cells #[.int .i8 e.op, .string e.t.v, .int .i8 e.t.a.k, .int .i64 e.t.a.n, .string e.t.a.s, .slice a e.kids.length c] 53)
  have BA := BA0.alloc BA0.size (.cells #[.string ⟨#[]⟩, .int .i8 0, .int .i64 0, .string ⟨#[]⟩] 44)
  clear BA0
  have HN : Hid (noE e = (decide (e.op = 0) && (decide (e.t = T0) && decide (e.kids.length = 0)))) := rfl
  have hQ := run_eqT e.t T0
  unfold E.val
  by_cases h0 : e.op = 0
  · have d0 : (e.op == 0) = true := by rw [h0]; rfl
    by_cases h1 : e.t = T0
    · rw [decide_eq_true h1] at hQ
      unfold T0 V0 noS at hQ
      dsimp only at hQ
      by_cases h2 : e.kids.length = 0
      · have d2 : ((e.kids.length : Int) == 0) = true := by rw [h2]; rfl
        have HF : Hid (noE e = true) := by show _ = _; rw [HN.out, decide_eq_true h0, decide_eq_true h1, decide_eq_true h2]; rfl
        clear HN h0 h1 h2
        go_enter Tryz.func67, Tryz.ntmps67
        go_wp2
        go_ret
        exact ⟨ret_bool HF.out.symm, BA⟩
      · have d2 : ((e.kids.length : Int) == 0) = false := by rw [beq_eq_false_iff_ne]; omega
        have HF : Hid (noE e = false) := by show _ = _; rw [HN.out, decide_eq_false h2]; simp
        clear HN h0 h1 h2
        go_enter Tryz.func67, Tryz.ntmps67
        go_wp2
        go_ret
        exact ⟨ret_bool HF.out.symm, BA⟩
    · rw [decide_eq_false h1] at hQ
      unfold T0 V0 noS at hQ
      dsimp only at hQ
      have HF : Hid (noE e = false) := by show _ = _; rw [HN.out, decide_eq_false h1]; simp
      clear HN h0 h1
      go_enter Tryz.func67, Tryz.ntmps67
      go_wp2
      go_ret
      exact ⟨ret_bool HF.out.symm, BA⟩
  · have d0 : (e.op == 0) = false := by rw [beq_eq_false_iff_ne]; exact h0
    have HF : Hid (noE e = false) := by show _ = _; rw [HN.out, decide_eq_false h0]; simp
    clear HN h0
    go_enter Tryz.func67, Tryz.ntmps67
    go_wp2
    go_ret
    exact ⟨ret_bool HF.out.symm, BA⟩
theorem below_next' {wc u v : World} (h : Below wc.heap.size wc u) (h2 : Below u.heap.size u v) : Below wc.heap.size wc v := h.trans (h2.mono h.size)
set_option maxHeartbeats 3200000 in
theorem isLiteral_any (d : Nat) (x : Lit4) (p : LP) (w : World) (hT : KT w) (h : LIs w d x p) (hl1 : x.l.kids.length ≤ 281474976710656) (hl2 : x.r.kids.length ≤ 281474976710656) : Calls Tryz.prog 71 #[x.val p] w fun r w' => r = .returned (.bool (litB x)) ∧ Below w.heap.size w w' := by
  have BA := (Below.refl w.heap.size w).alloc (Nat.le_refl _) (.cells #[.int .i8 x.k, .string x.pr, .slice p.a x.ts.length p.c, .int .i8 x.rel, .int .i8 x.l.op, .string x.l.t.v, .int .i8 x.l.t.a.k, .int .i64 x.l.t.a.n, .string x.l.t.a.s, .slice p.la x.l.kids.length p.lc, .int .i8 x.r.op, .string x.r.t.v, .int .i8 x.r.t.a.k, .int .i64 x.r.t.a.n, .string x.r.t.a.s, .slice p.ra x.r.kids.length p.rc] 55)
  have hW0 : Below (w.alloc (.cells #[.int .i8 x.k, .string x.pr, .slice p.a x.ts.length p.c, .int .i8 x.rel, .int .i8 x.l.op, .string x.l.t.v, .int .i8 x.l.t.a.k, .int .i64 x.l.t.a.n, .string x.l.t.a.s, .slice p.la x.l.kids.length p.lc, .int .i8 x.r.op, .string x.r.t.v, .int .i8 x.r.t.a.k, .int .i64 x.r.t.a.n, .string x.r.t.a.s, .slice p.ra x.r.kids.length p.rc] 55)).heap.size (w.alloc (.cells #[.int .i8 x.k, .string x.pr, .slice p.a x.ts.length p.c, .int .i8 x.rel, .int .i8 x.l.op, .string x.l.t.v, .int .i8 x.l.t.a.k, .int .i64 x.l.t.a.n, .string x.l.t.a.s, .slice p.la x.l.kids.length p.lc, .int .i8 x.r.op, .string x.r.t.v, .int .i8 x.r.t.a.k, .int .i64 x.r.t.a.n, .string x.r.t.a.s, .slice p.ra x.r.kids.length p.rc] 55)) (w.alloc (.cells #[.int .i8 x.k, .string x.pr, .slice p.a x.ts.length p.c, .int .i8 x.rel, .int .i8 x.l.op, .string x.l.t.v, .int .i8 x.l.t.a.k, .int .i64 x.l.t.a.n, .string x.l.t.a.s, .slice p.la x.l.kids.length p.lc, .int .i8 x.r.op, .string x.r.t.v, .int .i8 x.r.t.a.k, .int .i64 x.r.t.a.n, .string x.r.t.a.s, .slice p.ra x.r.kids.length p.rc] 55)) := Below.refl _ _
  have HNX : Hid (∀ u v, Below (w.alloc (.cells #[.int .i8 x.k, .string x.pr, .slice p.a x.ts.length p.c, .int .i8 x.rel, .int .i8 x.l.op, .string x.l.t.v, .int .i8 x.l.t.a.k, .int .i64 x.l.t.a.n, .string x.l.t.a.s, .slice p.la x.l.kids.length p.lc, .int .i8 x.r.op, .string x.r.t.v, .int .i8 x.r.t.a.k, .int .i64 x.r.t.a.n, .string x.r.t.a.s, .slice p.ra x.r.kids.length p.rc] 55)).heap.size (w.alloc (.cells #[.int .i8 x.k, .string x.pr, .slice p.a x.ts.length p.c, .int .i8 x.rel, .int .i8 x.l.op, .string x.l.t.v, .int .i8 x.l.t.a.k, .int .i64 x.l.t.a.n, .string x.l.t.a.s, .slice p.la x.l.kids.length p.lc, .int .i8 x.r.op, .string x.r.t.v, .int .i8 x.r.t.a.k, .int .i64 x.r.t.a.n, .string x.r.t.a.s, .slice p.ra x.r.kids.length p.rc] 55)) u → Below u.heap.size u v → Below (w.alloc (.cells #[.int .i8 x.k, .string x.pr, .slice p.a x.ts.length p.c, .int .i8 x.rel, .int .i8 x.l.op, .string x.l.t.v, .int .i8 x.l.t.a.k, .int .i64 x.l.t.a.n, .string x.l.t.a.s, .slice p.la x.l.kids.length p.lc, .int .i8 x.r.op, .string x.r.t.v, .int .i8 x.r.t.a.k, .int .i64 x.r.t.a.n, .string x.r.t.a.s, .slice p.ra x.r.kids.length p.rc] 55)).heap.size (w.alloc (.cells #[.int .i8 x.k, .string x.pr, .slice p.a x.ts.length p.c, .int .i8 x.rel, .int .i8 x.l.op, .string x.l.t.v, .int .i8 x.l.t.a.k, .int .i64 x.l.t.a.n, .string x.l.t.a.s, .slice p.la x.l.kids.length p.lc, .int .i8 x.r.op, .string x.r.t.v, .int .i8 x.r.t.a.k, .int .i64 x.r.t.a.n, .string x.r.t.a.s, .slice p.ra x.r.kids.length p.rc] 55)) v) := fun u v h1 h2 => below_next' h1 h2
  have HCE : Hid (∀ u, Below (w.alloc (.cells #[.int .i8 x.k, .string x.pr, .slice p.a x.ts.length p.c, .int .i8 x.rel, .int .i8 x.l.op, .string x.l.t.v, .int .i8 x.l.t.a.k, .int .i64 x.l.t.a.n, .string x.l.t.a.s, .slice p.la x.l.kids.length p.lc, .int .i8 x.r.op, .string x.r.t.v, .int .i8 x.r.t.a.k, .int .i64 x.r.t.a.n, .string x.r.t.a.s, .slice p.ra x.r.kids.length p.rc] 55)).heap.size (w.alloc (.cells #[.int .i8 x.k, .string x.pr, .slice p.a x.ts.length p.c, .int .i8 x.rel, .int .i8 x.l.op, .string x.l.t.v, .int .i8 x.l.t.a.k, .int .i64 x.l.t.a.n, .string x.l.t.a.s, .slice p.la x.l.kids.length p.lc, .int .i8 x.r.op, .string x.r.t.v, .int .i8 x.r.t.a.k, .int .i64 x.r.t.a.n, .string x.r.t.a.s, .slice p.ra x.r.kids.length p.rc] 55)) u → Below w.heap.size w u ∧ u.cell? ⟨w.heap.size, 0, none⟩ = some (.int .i8 x.k) ∧ u.cell? ⟨w.heap.size, 1, none⟩ = some (.string x.pr) ∧ u.cell? ⟨w.heap.size, 2, none⟩ = some (.slice p.a x.ts.length p.c) ∧ u.cell? ⟨w.heap.size, 3, none⟩ = some (.int .i8 x.rel) ∧ u.cell? ⟨w.heap.size, 4, none⟩ = some (.int .i8 x.l.op) ∧ u.cell? ⟨w.heap.size, 5, none⟩ = some (.string x.l.t.v) ∧ u.cell? ⟨w.heap.size, 6, none⟩ = some (.int .i8 x.l.t.a.k) ∧ u.cell? ⟨w.heap.size, 7, none⟩ = some (.int .i64 x.l.t.a.n) ∧ u.cell? ⟨w.heap.size, 8, none⟩ = some (.string x.l.t.a.s) ∧ u.cell? ⟨w.heap.size, 9, none⟩ = some (.slice p.la x.l.kids.length p.lc) ∧ u.cell? ⟨w.heap.size, 10, none⟩ = some (.int .i8 x.r.op) ∧ u.cell? ⟨w.heap.size, 11, none⟩ = some (.string x.r.t.v) ∧ u.cell? ⟨w.heap.size, 12, none⟩ = some (.int .i8 x.r.t.a.k) ∧ u.cell? ⟨w.heap.size, 13, none⟩ = some (.int .i64 x.r.t.a.n) ∧ u.cell? ⟨w.heap.size, 14, none⟩ = some (.string x.r.t.a.s) ∧ u.cell? ⟨w.heap.size, 15, none⟩ = some (.slice p.ra x.r.kids.length p.rc)) := fun u hu => by
    have hc : ∀ (j : Nat), u.cell? ⟨w.heap.size, j, none⟩ = (w.alloc (.cells #[.int .i8 x.k, .string x.pr, .slice p.a x.ts.length p.c, .int .i8 x.rel, .int .i8 x.l.op, .string x.l.t.v, .int .i8 x.l.t.a.k, .int .i64 x.l.t.a.n, .string x.l.t.a.s, .slice p.la x.l.kids.length p.lc, .int .i8 x.r.op, .string x.r.t.v, .int .i8 x.r.t.a.k, .int .i64 x.r.t.a.n, .string x.r.t.a.s, .slice p.ra x.r.kids.length p.rc] 55)).cell? ⟨w.heap.size, j, none⟩ := fun j => hu.cell (p := ⟨w.heap.size, j, none⟩) (by simp)
    refine ⟨BA.trans (hu.mono BA.size), ?_, ?_, ?_, ?_, ?_, ?_, ?_, ?_, ?_, ?_, ?_, ?_, ?_, ?_, ?_, ?_⟩ <;> rw [hc] <;> go_simp
  have HAt : Hid (∀ u, Below w.heap.size w u → Calls Tryz.prog 95 #[.agg #[.string x.pr, .slice p.a x.ts.length p.c]] u fun r w' => r = .returned (.bool (atomB x.pr x.ts)) ∧ Below u.heap.size u w') := fun u hu => isAtom_any x.pr _ x.ts u h.pb (h.ts.below hu)
  have HNl : Hid (∀ u, Calls Tryz.prog 96 #[.agg #[.int .i8 x.l.op, .string x.l.t.v, .int .i8 x.l.t.a.k, .int .i64 x.l.t.a.n, .string x.l.t.a.s, .slice p.la x.l.kids.length p.lc]] u fun r w' => r = .returned (.bool (noE x.l)) ∧ Below u.heap.size u w') := fun u => isNoExpr_any x.l p.la p.lc u hl1
  have HNr : Hid (∀ u, Calls Tryz.prog 96 #[.agg #[.int .i8 x.r.op, .string x.r.t.v, .int .i8 x.r.t.a.k, .int .i64 x.r.t.a.n, .string x.r.t.a.s, .slice p.ra x.r.kids.length p.rc]] u fun r w' => r = .returned (.bool (noE x.r)) ∧ Below u.heap.size u w') := fun u => isNoExpr_any x.r p.ra p.rc u hl2
  have HEl : Hid (∀ u, Below w.heap.size w u → Calls Tryz.prog 47 #[.agg #[.int .i8 x.l.op, .string x.l.t.v, .int .i8 x.l.t.a.k, .int .i64 x.l.t.a.n, .string x.l.t.a.s, .slice p.la x.l.kids.length p.lc], .int .i64 8] u fun r w' => r = .returned (.bool (exprB 8 x.l)) ∧ Below u.heap.size u w') := fun u hu => isExpr_any 8 d x.l p.la p.lc u (by omega) (hT.below hu) (h.l.below hu)
  have HEr : Hid (∀ u, Below w.heap.size w u → Calls Tryz.prog 47 #[.agg #[.int .i8 x.r.op, .string x.r.t.v, .int .i8 x.r.t.a.k, .int .i64 x.r.t.a.n, .string x.r.t.a.s, .slice p.ra x.r.kids.length p.rc], .int .i64 8] u fun r w' => r = .returned (.bool (exprB 8 x.r)) ∧ Below u.heap.size u w') := fun u hu => isExpr_any 8 d x.r p.ra p.rc u (by omega) (hT.below hu) (h.r.below hu)
  have hln := h.ln
  have hkb := h.kb
  have hrb := h.rb
  clear h hT hl1 hl2
  have HB : Hid (litB x = if x.k = 1 ∨ x.k = 2 then atomB x.pr x.ts && (decide (x.rel = 0) && (noE x.l && noE x.r)) else if x.k = 3 then decide (x.pr = noS) && (decide (x.ts.length = 0) && (decide (1 ≤ x.rel) && (decide (x.rel ≤ 6) && (exprB 8 x.l && exprB 8 x.r)))) else false) := rfl
  unfold Lit4.val
  by_cases k12 : x.k = 1 ∨ x.k = 2
  · rw [if_pos k12] at HB
    have F : (x.k == 1) = true ∨ ((x.k == 1) = false ∧ (x.k == 2) = true) := by
      rcases k12 with e | e
      · exact .inl (by rw [e]; rfl)
      · exact .inr ⟨by rw [e]; rfl, by rw [e]; rfl⟩
    clear k12 BA
    cases hA : atomB x.pr x.ts
    · have HF : Hid (litB x = false) := by show _ = _; rw [HB.out, hA]; rfl
      clear HB
      rcases F with f1 | ⟨f1, f2⟩
      all_goals
        go_enter Tryz.func71, Tryz.ntmps71
        go_wp2_with (first | (go_at_call_of 95 (Value.string x.pr); refine Calls.mono (HAt.out _ (HCE.out _ (by assumption)).1) ?_; rw [hA]; rintro ee wn ⟨rfl, bn⟩; have hWn := HNX.out _ _ (by assumption) bn; obtain ⟨hwn, c0, c1, c2, c3, c4, c5, c6, c7, c8, c9, c10, c11, c12, c13, c14, c15⟩ := HCE.out _ hWn))
        all_goals
          go_ret
          exact ⟨ret_bool HF.out.symm, (HCE.out _ (by assumption)).1⟩
    · by_cases hr0 : x.rel = 0
      · have dr : (x.rel == 0) = true := by rw [hr0]; rfl
        cases hNl : noE x.l
        · have HF : Hid (litB x = false) := by show _ = _; rw [HB.out, hNl]; simp
          clear HB hr0
          rcases F with f1 | ⟨f1, f2⟩
          all_goals
            go_enter Tryz.func71, Tryz.ntmps71
            go_wp2_with (first | (go_at_call_of 95 (Value.string x.pr); refine Calls.mono (HAt.out _ (HCE.out _ (by assumption)).1) ?_; rw [hA]; rintro ee wn ⟨rfl, bn⟩; have hWn := HNX.out _ _ (by assumption) bn; obtain ⟨hwn, c0, c1, c2, c3, c4, c5, c6, c7, c8, c9, c10, c11, c12, c13, c14, c15⟩ := HCE.out _ hWn) | (go_at_call_of 96 (Value.string x.l.t.v); refine Calls.mono (HNl.out _) ?_; rw [hNl]; rintro ee wn ⟨rfl, bn⟩; have hWn := HNX.out _ _ (by assumption) bn; obtain ⟨hwn, c0, c1, c2, c3, c4, c5, c6, c7, c8, c9, c10, c11, c12, c13, c14, c15⟩ := HCE.out _ hWn))
            all_goals
              go_ret
              exact ⟨ret_bool HF.out.symm, (HCE.out _ (by assumption)).1⟩
        · cases hNr : noE x.r
          all_goals
            have HF : Hid (litB x = noE x.r) := by show _ = _; rw [HB.out, hA, hNl, hNr, decide_eq_true hr0]; rfl
            rw [hNr] at HF
            clear HB hr0
            rcases F with f1 | ⟨f1, f2⟩
            all_goals
              go_enter Tryz.func71, Tryz.ntmps71
              go_wp2_with (first | (go_at_call_of 95 (Value.string x.pr); refine Calls.mono (HAt.out _ (HCE.out _ (by assumption)).1) ?_; rw [hA]; rintro ee wn ⟨rfl, bn⟩; have hWn := HNX.out _ _ (by assumption) bn; obtain ⟨hwn, c0, c1, c2, c3, c4, c5, c6, c7, c8, c9, c10, c11, c12, c13, c14, c15⟩ := HCE.out _ hWn) | (go_at_call_of 96 (Value.string x.l.t.v); refine Calls.mono (HNl.out _) ?_; rw [hNl]; rintro ee wn ⟨rfl, bn⟩; have hWn := HNX.out _ _ (by assumption) bn; obtain ⟨hwn, c0, c1, c2, c3, c4, c5, c6, c7, c8, c9, c10, c11, c12, c13, c14, c15⟩ := HCE.out _ hWn) | (go_at_call_of 96 (Value.string x.r.t.v); refine Calls.mono (HNr.out _) ?_; rw [hNr]; rintro ee wn ⟨rfl, bn⟩; have hWn := HNX.out _ _ (by assumption) bn; obtain ⟨hwn, c0, c1, c2, c3, c4, c5, c6, c7, c8, c9, c10, c11, c12, c13, c14, c15⟩ := HCE.out _ hWn))
              all_goals
                go_ret
                exact ⟨ret_bool HF.out.symm, (HCE.out _ (by assumption)).1⟩
      · have dr : (x.rel == 0) = false := by rw [beq_eq_false_iff_ne]; exact hr0
        have HF : Hid (litB x = false) := by show _ = _; rw [HB.out, decide_eq_false hr0]; simp
        clear HB hr0
        rcases F with f1 | ⟨f1, f2⟩
        all_goals
          go_enter Tryz.func71, Tryz.ntmps71
          go_wp2_with (first | (go_at_call_of 95 (Value.string x.pr); refine Calls.mono (HAt.out _ (HCE.out _ (by assumption)).1) ?_; rw [hA]; rintro ee wn ⟨rfl, bn⟩; have hWn := HNX.out _ _ (by assumption) bn; obtain ⟨hwn, c0, c1, c2, c3, c4, c5, c6, c7, c8, c9, c10, c11, c12, c13, c14, c15⟩ := HCE.out _ hWn))
          all_goals
            go_ret
            exact ⟨ret_bool HF.out.symm, (HCE.out _ (by assumption)).1⟩
  · rw [if_neg k12] at HB
    have f1 : (x.k == 1) = false := by rw [beq_eq_false_iff_ne]; omega
    have f2 : (x.k == 2) = false := by rw [beq_eq_false_iff_ne]; omega
    by_cases k3 : x.k = 3
    · rw [if_pos k3] at HB
      have f3 : (x.k == 3) = true := by rw [k3]; rfl
      clear k12 k3 BA
      by_cases hp0 : x.pr = noS
      · have dp : x.pr.toList.isEmpty = true := by rw [hp0, ByteArray.toList_eq]; rfl
        by_cases hn0 : x.ts.length = 0
        · have dn : ((x.ts.length : Int) == 0) = true := by rw [hn0]; rfl
          by_cases h1 : 1 ≤ x.rel
          · by_cases h6 : x.rel ≤ 6
            · cases hEl : exprB 8 x.l
              · have HF : Hid (litB x = false) := by show _ = _; rw [HB.out, hEl]; simp
                clear HB hp0 hn0
                go_enter Tryz.func71, Tryz.ntmps71
                go_wp2_with (first | (go_at_call_of 47 (Value.string x.l.t.v); refine Calls.mono (HEl.out _ (HCE.out _ (by assumption)).1) ?_; rw [hEl]; rintro ee wn ⟨rfl, bn⟩; have hWn := HNX.out _ _ (by assumption) bn; obtain ⟨hwn, c0, c1, c2, c3, c4, c5, c6, c7, c8, c9, c10, c11, c12, c13, c14, c15⟩ := HCE.out _ hWn))
                all_goals
                  go_ret
                  exact ⟨ret_bool HF.out.symm, (HCE.out _ (by assumption)).1⟩
              · cases hEr : exprB 8 x.r
                all_goals
                  have HF : Hid (litB x = exprB 8 x.r) := by show _ = _; rw [HB.out, hEl, hEr, decide_eq_true hp0, decide_eq_true hn0, decide_eq_true h1, decide_eq_true h6]; rfl
                  rw [hEr] at HF
                  clear HB hp0 hn0
                  go_enter Tryz.func71, Tryz.ntmps71
                  go_wp2_with (first | (go_at_call_of 47 (Value.string x.l.t.v); refine Calls.mono (HEl.out _ (HCE.out _ (by assumption)).1) ?_; rw [hEl]; rintro ee wn ⟨rfl, bn⟩; have hWn := HNX.out _ _ (by assumption) bn; obtain ⟨hwn, c0, c1, c2, c3, c4, c5, c6, c7, c8, c9, c10, c11, c12, c13, c14, c15⟩ := HCE.out _ hWn) | (go_at_call_of 47 (Value.string x.r.t.v); refine Calls.mono (HEr.out _ (HCE.out _ (by assumption)).1) ?_; rw [hEr]; rintro ee wn ⟨rfl, bn⟩; have hWn := HNX.out _ _ (by assumption) bn; obtain ⟨hwn, c0, c1, c2, c3, c4, c5, c6, c7, c8, c9, c10, c11, c12, c13, c14, c15⟩ := HCE.out _ hWn))
                  all_goals
                    go_ret
                    exact ⟨ret_bool HF.out.symm, (HCE.out _ (by assumption)).1⟩
            · have HF : Hid (litB x = false) := by show _ = _; rw [HB.out, decide_eq_false h6]; simp
              clear HB hp0 hn0
              go_enter Tryz.func71, Tryz.ntmps71
              go_wp2
              all_goals
                go_ret
                exact ⟨ret_bool HF.out.symm, (HCE.out _ (by assumption)).1⟩
          · have HF : Hid (litB x = false) := by show _ = _; rw [HB.out, decide_eq_false h1]; simp
            clear HB hp0 hn0
            go_enter Tryz.func71, Tryz.ntmps71
            go_wp2
            all_goals
              go_ret
              exact ⟨ret_bool HF.out.symm, (HCE.out _ (by assumption)).1⟩
        · have dn : ((x.ts.length : Int) == 0) = false := by rw [beq_eq_false_iff_ne]; omega
          have HF : Hid (litB x = false) := by show _ = _; rw [HB.out, decide_eq_false hn0]; simp
          clear HB hp0 hn0
          go_enter Tryz.func71, Tryz.ntmps71
          go_wp2
          all_goals
            go_ret
            exact ⟨ret_bool HF.out.symm, (HCE.out _ (by assumption)).1⟩
      · have dp := some_iff x.pr hp0
        have HF : Hid (litB x = false) := by show _ = _; rw [HB.out, decide_eq_false hp0]; simp
        clear HB hp0
        go_enter Tryz.func71, Tryz.ntmps71
        go_wp2
        all_goals
          go_ret
          exact ⟨ret_bool HF.out.symm, (HCE.out _ (by assumption)).1⟩
    · rw [if_neg k3] at HB
      have f3 : (x.k == 3) = false := by rw [beq_eq_false_iff_ne]; omega
      have HF : Hid (litB x = false) := HB.out
      clear HB k12 k3 BA
      go_enter Tryz.func71, Tryz.ntmps71
      go_wp2
      all_goals
        go_ret
        exact ⟨ret_bool HF.out.symm, (HCE.out _ (by assumption)).1⟩
set_option maxHeartbeats 3200000 in
theorem rliteral_any (d : Nat) (x : Lit4) (p : LP) (w : World) (h : LIs w d x p) (hl1 : x.l.kids.length ≤ 281474976710656) (hl2 : x.r.kids.length ≤ 281474976710656) : Calls Tryz.prog 41 #[x.val p] w fun r w' => r = .returned (.bool (litB x)) ∧ Below w.heap.size w w' := by
  have BA := (Below.refl w.heap.size w).alloc (Nat.le_refl _) (.cells #[.int .i8 x.k, .string x.pr, .slice p.a x.ts.length p.c, .int .i8 x.rel, .int .i8 x.l.op, .string x.l.t.v, .int .i8 x.l.t.a.k, .int .i64 x.l.t.a.n, .string x.l.t.a.s, .slice p.la x.l.kids.length p.lc, .int .i8 x.r.op, .string x.r.t.v, .int .i8 x.r.t.a.k, .int .i64 x.r.t.a.n, .string x.r.t.a.s, .slice p.ra x.r.kids.length p.rc] 55)
  have hW0 : Below (w.alloc (.cells #[.int .i8 x.k, .string x.pr, .slice p.a x.ts.length p.c, .int .i8 x.rel, .int .i8 x.l.op, .string x.l.t.v, .int .i8 x.l.t.a.k, .int .i64 x.l.t.a.n, .string x.l.t.a.s, .slice p.la x.l.kids.length p.lc, .int .i8 x.r.op, .string x.r.t.v, .int .i8 x.r.t.a.k, .int .i64 x.r.t.a.n, .string x.r.t.a.s, .slice p.ra x.r.kids.length p.rc] 55)).heap.size (w.alloc (.cells #[.int .i8 x.k, .string x.pr, .slice p.a x.ts.length p.c, .int .i8 x.rel, .int .i8 x.l.op, .string x.l.t.v, .int .i8 x.l.t.a.k, .int .i64 x.l.t.a.n, .string x.l.t.a.s, .slice p.la x.l.kids.length p.lc, .int .i8 x.r.op, .string x.r.t.v, .int .i8 x.r.t.a.k, .int .i64 x.r.t.a.n, .string x.r.t.a.s, .slice p.ra x.r.kids.length p.rc] 55)) (w.alloc (.cells #[.int .i8 x.k, .string x.pr, .slice p.a x.ts.length p.c, .int .i8 x.rel, .int .i8 x.l.op, .string x.l.t.v, .int .i8 x.l.t.a.k, .int .i64 x.l.t.a.n, .string x.l.t.a.s, .slice p.la x.l.kids.length p.lc, .int .i8 x.r.op, .string x.r.t.v, .int .i8 x.r.t.a.k, .int .i64 x.r.t.a.n, .string x.r.t.a.s, .slice p.ra x.r.kids.length p.rc] 55)) := Below.refl _ _
  have HNX : Hid (∀ u v, Below (w.alloc (.cells #[.int .i8 x.k, .string x.pr, .slice p.a x.ts.length p.c, .int .i8 x.rel, .int .i8 x.l.op, .string x.l.t.v, .int .i8 x.l.t.a.k, .int .i64 x.l.t.a.n, .string x.l.t.a.s, .slice p.la x.l.kids.length p.lc, .int .i8 x.r.op, .string x.r.t.v, .int .i8 x.r.t.a.k, .int .i64 x.r.t.a.n, .string x.r.t.a.s, .slice p.ra x.r.kids.length p.rc] 55)).heap.size (w.alloc (.cells #[.int .i8 x.k, .string x.pr, .slice p.a x.ts.length p.c, .int .i8 x.rel, .int .i8 x.l.op, .string x.l.t.v, .int .i8 x.l.t.a.k, .int .i64 x.l.t.a.n, .string x.l.t.a.s, .slice p.la x.l.kids.length p.lc, .int .i8 x.r.op, .string x.r.t.v, .int .i8 x.r.t.a.k, .int .i64 x.r.t.a.n, .string x.r.t.a.s, .slice p.ra x.r.kids.length p.rc] 55)) u → Below u.heap.size u v → Below (w.alloc (.cells #[.int .i8 x.k, .string x.pr, .slice p.a x.ts.length p.c, .int .i8 x.rel, .int .i8 x.l.op, .string x.l.t.v, .int .i8 x.l.t.a.k, .int .i64 x.l.t.a.n, .string x.l.t.a.s, .slice p.la x.l.kids.length p.lc, .int .i8 x.r.op, .string x.r.t.v, .int .i8 x.r.t.a.k, .int .i64 x.r.t.a.n, .string x.r.t.a.s, .slice p.ra x.r.kids.length p.rc] 55)).heap.size (w.alloc (.cells #[.int .i8 x.k, .string x.pr, .slice p.a x.ts.length p.c, .int .i8 x.rel, .int .i8 x.l.op, .string x.l.t.v, .int .i8 x.l.t.a.k, .int .i64 x.l.t.a.n, .string x.l.t.a.s, .slice p.la x.l.kids.length p.lc, .int .i8 x.r.op, .string x.r.t.v, .int .i8 x.r.t.a.k, .int .i64 x.r.t.a.n, .string x.r.t.a.s, .slice p.ra x.r.kids.length p.rc] 55)) v) := fun u v h1 h2 => below_next' h1 h2
  have HCE : Hid (∀ u, Below (w.alloc (.cells #[.int .i8 x.k, .string x.pr, .slice p.a x.ts.length p.c, .int .i8 x.rel, .int .i8 x.l.op, .string x.l.t.v, .int .i8 x.l.t.a.k, .int .i64 x.l.t.a.n, .string x.l.t.a.s, .slice p.la x.l.kids.length p.lc, .int .i8 x.r.op, .string x.r.t.v, .int .i8 x.r.t.a.k, .int .i64 x.r.t.a.n, .string x.r.t.a.s, .slice p.ra x.r.kids.length p.rc] 55)).heap.size (w.alloc (.cells #[.int .i8 x.k, .string x.pr, .slice p.a x.ts.length p.c, .int .i8 x.rel, .int .i8 x.l.op, .string x.l.t.v, .int .i8 x.l.t.a.k, .int .i64 x.l.t.a.n, .string x.l.t.a.s, .slice p.la x.l.kids.length p.lc, .int .i8 x.r.op, .string x.r.t.v, .int .i8 x.r.t.a.k, .int .i64 x.r.t.a.n, .string x.r.t.a.s, .slice p.ra x.r.kids.length p.rc] 55)) u → Below w.heap.size w u ∧ u.cell? ⟨w.heap.size, 0, none⟩ = some (.int .i8 x.k) ∧ u.cell? ⟨w.heap.size, 1, none⟩ = some (.string x.pr) ∧ u.cell? ⟨w.heap.size, 2, none⟩ = some (.slice p.a x.ts.length p.c) ∧ u.cell? ⟨w.heap.size, 3, none⟩ = some (.int .i8 x.rel) ∧ u.cell? ⟨w.heap.size, 4, none⟩ = some (.int .i8 x.l.op) ∧ u.cell? ⟨w.heap.size, 5, none⟩ = some (.string x.l.t.v) ∧ u.cell? ⟨w.heap.size, 6, none⟩ = some (.int .i8 x.l.t.a.k) ∧ u.cell? ⟨w.heap.size, 7, none⟩ = some (.int .i64 x.l.t.a.n) ∧ u.cell? ⟨w.heap.size, 8, none⟩ = some (.string x.l.t.a.s) ∧ u.cell? ⟨w.heap.size, 9, none⟩ = some (.slice p.la x.l.kids.length p.lc) ∧ u.cell? ⟨w.heap.size, 10, none⟩ = some (.int .i8 x.r.op) ∧ u.cell? ⟨w.heap.size, 11, none⟩ = some (.string x.r.t.v) ∧ u.cell? ⟨w.heap.size, 12, none⟩ = some (.int .i8 x.r.t.a.k) ∧ u.cell? ⟨w.heap.size, 13, none⟩ = some (.int .i64 x.r.t.a.n) ∧ u.cell? ⟨w.heap.size, 14, none⟩ = some (.string x.r.t.a.s) ∧ u.cell? ⟨w.heap.size, 15, none⟩ = some (.slice p.ra x.r.kids.length p.rc)) := fun u hu => by
    have hc : ∀ (j : Nat), u.cell? ⟨w.heap.size, j, none⟩ = (w.alloc (.cells #[.int .i8 x.k, .string x.pr, .slice p.a x.ts.length p.c, .int .i8 x.rel, .int .i8 x.l.op, .string x.l.t.v, .int .i8 x.l.t.a.k, .int .i64 x.l.t.a.n, .string x.l.t.a.s, .slice p.la x.l.kids.length p.lc, .int .i8 x.r.op, .string x.r.t.v, .int .i8 x.r.t.a.k, .int .i64 x.r.t.a.n, .string x.r.t.a.s, .slice p.ra x.r.kids.length p.rc] 55)).cell? ⟨w.heap.size, j, none⟩ := fun j => hu.cell (p := ⟨w.heap.size, j, none⟩) (by simp)
    refine ⟨BA.trans (hu.mono BA.size), ?_, ?_, ?_, ?_, ?_, ?_, ?_, ?_, ?_, ?_, ?_, ?_, ?_, ?_, ?_, ?_⟩ <;> rw [hc] <;> go_simp
  have HAt : Hid (∀ u, Below w.heap.size w u → Calls Tryz.prog 66 #[.agg #[.string x.pr, .slice p.a x.ts.length p.c]] u fun r w' => r = .returned (.bool (atomB x.pr x.ts)) ∧ Below u.heap.size u w') := fun u hu => ratom_any x.pr _ x.ts u h.pb (h.ts.below hu)
  have HNl : Hid (∀ u, Calls Tryz.prog 67 #[.agg #[.int .i8 x.l.op, .string x.l.t.v, .int .i8 x.l.t.a.k, .int .i64 x.l.t.a.n, .string x.l.t.a.s, .slice p.la x.l.kids.length p.lc]] u fun r w' => r = .returned (.bool (noE x.l)) ∧ Below u.heap.size u w') := fun u => nothing_any x.l p.la p.lc u hl1
  have HNr : Hid (∀ u, Calls Tryz.prog 67 #[.agg #[.int .i8 x.r.op, .string x.r.t.v, .int .i8 x.r.t.a.k, .int .i64 x.r.t.a.n, .string x.r.t.a.s, .slice p.ra x.r.kids.length p.rc]] u fun r w' => r = .returned (.bool (noE x.r)) ∧ Below u.heap.size u w') := fun u => nothing_any x.r p.ra p.rc u hl2
  have HEl : Hid (∀ u, Below w.heap.size w u → Calls Tryz.prog 68 #[.agg #[.int .i8 x.l.op, .string x.l.t.v, .int .i8 x.l.t.a.k, .int .i64 x.l.t.a.n, .string x.l.t.a.s, .slice p.la x.l.kids.length p.lc], .int .i64 8] u fun r w' => r = .returned (.bool (exprB 8 x.l)) ∧ Below u.heap.size u w') := fun u hu => rexpr_any 8 d x.l p.la p.lc u (by omega) (h.l.below hu)
  have HEr : Hid (∀ u, Below w.heap.size w u → Calls Tryz.prog 68 #[.agg #[.int .i8 x.r.op, .string x.r.t.v, .int .i8 x.r.t.a.k, .int .i64 x.r.t.a.n, .string x.r.t.a.s, .slice p.ra x.r.kids.length p.rc], .int .i64 8] u fun r w' => r = .returned (.bool (exprB 8 x.r)) ∧ Below u.heap.size u w') := fun u hu => rexpr_any 8 d x.r p.ra p.rc u (by omega) (h.r.below hu)
  have hln := h.ln
  have hkb := h.kb
  have hrb := h.rb
  clear h hl1 hl2
  have HB : Hid (litB x = if x.k = 1 ∨ x.k = 2 then atomB x.pr x.ts && (decide (x.rel = 0) && (noE x.l && noE x.r)) else if x.k = 3 then decide (x.pr = noS) && (decide (x.ts.length = 0) && (decide (1 ≤ x.rel) && (decide (x.rel ≤ 6) && (exprB 8 x.l && exprB 8 x.r)))) else false) := rfl
  unfold Lit4.val
  by_cases k12 : x.k = 1 ∨ x.k = 2
  · rw [if_pos k12] at HB
    have F : (x.k == 1) = true ∨ ((x.k == 1) = false ∧ (x.k == 2) = true) := by
      rcases k12 with e | e
      · exact .inl (by rw [e]; rfl)
      · exact .inr ⟨by rw [e]; rfl, by rw [e]; rfl⟩
    clear k12 BA
    cases hA : atomB x.pr x.ts
    · have HF : Hid (litB x = false) := by show _ = _; rw [HB.out, hA]; rfl
      clear HB
      rcases F with f1 | ⟨f1, f2⟩
      all_goals
        go_enter Tryz.func41, Tryz.ntmps41
        go_wp2_with (first | (go_at_call_of 66 (Value.string x.pr); refine Calls.mono (HAt.out _ (HCE.out _ (by assumption)).1) ?_; rw [hA]; rintro ee wn ⟨rfl, bn⟩; have hWn := HNX.out _ _ (by assumption) bn; obtain ⟨hwn, c0, c1, c2, c3, c4, c5, c6, c7, c8, c9, c10, c11, c12, c13, c14, c15⟩ := HCE.out _ hWn))
        all_goals
          go_ret
          exact ⟨ret_bool HF.out.symm, (HCE.out _ (by assumption)).1⟩
    · by_cases hr0 : x.rel = 0
      · have dr : (x.rel == 0) = true := by rw [hr0]; rfl
        cases hNl : noE x.l
        · have HF : Hid (litB x = false) := by show _ = _; rw [HB.out, hNl]; simp
          clear HB hr0
          rcases F with f1 | ⟨f1, f2⟩
          all_goals
            go_enter Tryz.func41, Tryz.ntmps41
            go_wp2_with (first | (go_at_call_of 66 (Value.string x.pr); refine Calls.mono (HAt.out _ (HCE.out _ (by assumption)).1) ?_; rw [hA]; rintro ee wn ⟨rfl, bn⟩; have hWn := HNX.out _ _ (by assumption) bn; obtain ⟨hwn, c0, c1, c2, c3, c4, c5, c6, c7, c8, c9, c10, c11, c12, c13, c14, c15⟩ := HCE.out _ hWn) | (go_at_call_of 67 (Value.string x.l.t.v); refine Calls.mono (HNl.out _) ?_; rw [hNl]; rintro ee wn ⟨rfl, bn⟩; have hWn := HNX.out _ _ (by assumption) bn; obtain ⟨hwn, c0, c1, c2, c3, c4, c5, c6, c7, c8, c9, c10, c11, c12, c13, c14, c15⟩ := HCE.out _ hWn))
            all_goals
              go_ret
              exact ⟨ret_bool HF.out.symm, (HCE.out _ (by assumption)).1⟩
        · cases hNr : noE x.r
          all_goals
            have HF : Hid (litB x = noE x.r) := by show _ = _; rw [HB.out, hA, hNl, hNr, decide_eq_true hr0]; rfl
            rw [hNr] at HF
            clear HB hr0
            rcases F with f1 | ⟨f1, f2⟩
            all_goals
              go_enter Tryz.func41, Tryz.ntmps41
              go_wp2_with (first | (go_at_call_of 66 (Value.string x.pr); refine Calls.mono (HAt.out _ (HCE.out _ (by assumption)).1) ?_; rw [hA]; rintro ee wn ⟨rfl, bn⟩; have hWn := HNX.out _ _ (by assumption) bn; obtain ⟨hwn, c0, c1, c2, c3, c4, c5, c6, c7, c8, c9, c10, c11, c12, c13, c14, c15⟩ := HCE.out _ hWn) | (go_at_call_of 67 (Value.string x.l.t.v); refine Calls.mono (HNl.out _) ?_; rw [hNl]; rintro ee wn ⟨rfl, bn⟩; have hWn := HNX.out _ _ (by assumption) bn; obtain ⟨hwn, c0, c1, c2, c3, c4, c5, c6, c7, c8, c9, c10, c11, c12, c13, c14, c15⟩ := HCE.out _ hWn) | (go_at_call_of 67 (Value.string x.r.t.v); refine Calls.mono (HNr.out _) ?_; rw [hNr]; rintro ee wn ⟨rfl, bn⟩; have hWn := HNX.out _ _ (by assumption) bn; obtain ⟨hwn, c0, c1, c2, c3, c4, c5, c6, c7, c8, c9, c10, c11, c12, c13, c14, c15⟩ := HCE.out _ hWn))
              all_goals
                go_ret
                exact ⟨ret_bool HF.out.symm, (HCE.out _ (by assumption)).1⟩
      · have dr : (x.rel == 0) = false := by rw [beq_eq_false_iff_ne]; exact hr0
        have HF : Hid (litB x = false) := by show _ = _; rw [HB.out, decide_eq_false hr0]; simp
        clear HB hr0
        rcases F with f1 | ⟨f1, f2⟩
        all_goals
          go_enter Tryz.func41, Tryz.ntmps41
          go_wp2_with (first | (go_at_call_of 66 (Value.string x.pr); refine Calls.mono (HAt.out _ (HCE.out _ (by assumption)).1) ?_; rw [hA]; rintro ee wn ⟨rfl, bn⟩; have hWn := HNX.out _ _ (by assumption) bn; obtain ⟨hwn, c0, c1, c2, c3, c4, c5, c6, c7, c8, c9, c10, c11, c12, c13, c14, c15⟩ := HCE.out _ hWn))
          all_goals
            go_ret
            exact ⟨ret_bool HF.out.symm, (HCE.out _ (by assumption)).1⟩
  · rw [if_neg k12] at HB
    have f1 : (x.k == 1) = false := by rw [beq_eq_false_iff_ne]; omega
    have f2 : (x.k == 2) = false := by rw [beq_eq_false_iff_ne]; omega
    by_cases k3 : x.k = 3
    · rw [if_pos k3] at HB
      have f3 : (x.k == 3) = true := by rw [k3]; rfl
      clear k12 k3 BA
      by_cases hp0 : x.pr = noS
      · have dp : x.pr.toList.isEmpty = true := by rw [hp0, ByteArray.toList_eq]; rfl
        by_cases hn0 : x.ts.length = 0
        · have dn : ((x.ts.length : Int) == 0) = true := by rw [hn0]; rfl
          by_cases h1 : 1 ≤ x.rel
          · by_cases h6 : x.rel ≤ 6
            · cases hEl : exprB 8 x.l
              · have HF : Hid (litB x = false) := by show _ = _; rw [HB.out, hEl]; simp
                clear HB hp0 hn0
                go_enter Tryz.func41, Tryz.ntmps41
                go_wp2_with (first | (go_at_call_of 68 (Value.string x.l.t.v); refine Calls.mono (HEl.out _ (HCE.out _ (by assumption)).1) ?_; rw [hEl]; rintro ee wn ⟨rfl, bn⟩; have hWn := HNX.out _ _ (by assumption) bn; obtain ⟨hwn, c0, c1, c2, c3, c4, c5, c6, c7, c8, c9, c10, c11, c12, c13, c14, c15⟩ := HCE.out _ hWn))
                all_goals
                  go_ret
                  exact ⟨ret_bool HF.out.symm, (HCE.out _ (by assumption)).1⟩
              · cases hEr : exprB 8 x.r
                all_goals
                  have HF : Hid (litB x = exprB 8 x.r) := by show _ = _; rw [HB.out, hEl, hEr, decide_eq_true hp0, decide_eq_true hn0, decide_eq_true h1, decide_eq_true h6]; rfl
                  rw [hEr] at HF
                  clear HB hp0 hn0
                  go_enter Tryz.func41, Tryz.ntmps41
                  go_wp2_with (first | (go_at_call_of 68 (Value.string x.l.t.v); refine Calls.mono (HEl.out _ (HCE.out _ (by assumption)).1) ?_; rw [hEl]; rintro ee wn ⟨rfl, bn⟩; have hWn := HNX.out _ _ (by assumption) bn; obtain ⟨hwn, c0, c1, c2, c3, c4, c5, c6, c7, c8, c9, c10, c11, c12, c13, c14, c15⟩ := HCE.out _ hWn) | (go_at_call_of 68 (Value.string x.r.t.v); refine Calls.mono (HEr.out _ (HCE.out _ (by assumption)).1) ?_; rw [hEr]; rintro ee wn ⟨rfl, bn⟩; have hWn := HNX.out _ _ (by assumption) bn; obtain ⟨hwn, c0, c1, c2, c3, c4, c5, c6, c7, c8, c9, c10, c11, c12, c13, c14, c15⟩ := HCE.out _ hWn))
                  all_goals
                    go_ret
                    exact ⟨ret_bool HF.out.symm, (HCE.out _ (by assumption)).1⟩
            · have HF : Hid (litB x = false) := by show _ = _; rw [HB.out, decide_eq_false h6]; simp
              clear HB hp0 hn0
              go_enter Tryz.func41, Tryz.ntmps41
              go_wp2
              all_goals
                go_ret
                exact ⟨ret_bool HF.out.symm, (HCE.out _ (by assumption)).1⟩
          · have HF : Hid (litB x = false) := by show _ = _; rw [HB.out, decide_eq_false h1]; simp
            clear HB hp0 hn0
            go_enter Tryz.func41, Tryz.ntmps41
            go_wp2
            all_goals
              go_ret
              exact ⟨ret_bool HF.out.symm, (HCE.out _ (by assumption)).1⟩
        · have dn : ((x.ts.length : Int) == 0) = false := by rw [beq_eq_false_iff_ne]; omega
          have HF : Hid (litB x = false) := by show _ = _; rw [HB.out, decide_eq_false hn0]; simp
          clear HB hp0 hn0
          go_enter Tryz.func41, Tryz.ntmps41
          go_wp2
          all_goals
            go_ret
            exact ⟨ret_bool HF.out.symm, (HCE.out _ (by assumption)).1⟩
      · have dp := some_iff x.pr hp0
        have HF : Hid (litB x = false) := by show _ = _; rw [HB.out, decide_eq_false hp0]; simp
        clear HB hp0
        go_enter Tryz.func41, Tryz.ntmps41
        go_wp2
        all_goals
          go_ret
          exact ⟨ret_bool HF.out.symm, (HCE.out _ (by assumption)).1⟩
    · rw [if_neg k3] at HB
      have f3 : (x.k == 3) = false := by rw [beq_eq_false_iff_ne]; omega
      have HF : Hid (litB x = false) := HB.out
      clear HB k12 k3 BA
      go_enter Tryz.func41, Tryz.ntmps41
      go_wp2
      all_goals
        go_ret
        exact ⟨ret_bool HF.out.symm, (HCE.out _ (by assumption)).1⟩
end Go.Proofs.YtgfnijhhhgjabaaGreatDoor
end
section
namespace Go.Proofs.YtgfnijhhhgjabaaGreatDoor
open Go.RowKit Go.Maps
set_option linter.unusedVariables false
set_option linter.unusedSimpArgs false
attribute [local go_sem ↓] Go.wp_at_zero Go.wp_at_succ

end Go.Proofs.YtgfnijhhhgjabaaGreatDoor
end
