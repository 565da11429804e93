import Derived.Test.YtgplipfebnigiaaGreatDoorG32
import Derived.Test.YtgplipfebnigiaaGreatDoorApR
import Derived.Test.YtgplipfebnigiaaGreatDoorG31
section
namespace Go.Proofs.YtgplipfebnigiaaGreatDoor
open Go.RowKit Go.Maps
set_option linter.unusedVariables false
set_option linter.unusedSimpArgs false
attribute [local go_sem ↓] Go.wp_at_zero Go.wp_at_succ
attribute [-go_sem] loadVar storeVar
variable {dec : Dec}

/-- what term.sameExpr says of two expressions of at most d levels -/
def SameP (dec : Dec) (d : Nat) : Prop := ∀ (e f : E) (a a0 : Option Addr) (c c0 : Nat) (w : World), EIs w d e a c → EIs w d f a0 c0 →
  Calls Tryz.prog 103 #[e.val a c, f.val a0 c0] w fun r w' => r = .returned (.bool (eqB dec e f)) ∧ Below w.heap.size w w'
/-- what term.sameLiteral says of two literals -/
def SamePL (dec : Dec) (d : Nat) : Prop := ∀ (x y : Lit4) (p q : LP) (w : World), LIs w d x p → LIs w d y q →
  Calls Tryz.prog 65 #[x.val p, y.val q] w fun r w' => r = .returned (.bool (eqB dec x y)) ∧ Below w.heap.size w w'
theorem load_Exp {u : World} {g o : Nat} {cs : List Value} (h : u.rangeAt g o cs) (hl : cs.length = 6) : (loadVar 74 ⟨g, o, none⟩).run Tryz.prog u = .ok (.agg cs.toArray) u :=
  run_loadVar_mid u g o _ cs _ h Tryz.underlying74 rfl (by rw [hl]; kernel_rfl)
theorem xat_range {w : World} {g o : Nat} {op : Int} {t : T} {s : Value} (h : XAt w g o op t s) : w.rangeAt g o [.int .i8 op, .string t.v, .int .i8 t.a.k, .int .i64 t.a.n, .string t.a.s, s] := fun j v hj => by
  obtain ⟨c0, c1, c2, c3, c4, c5⟩ := h
  match j, hj with
  | 0, hj => simp at hj; subst hj; exact c0
  | 1, hj => simp at hj; subst hj; exact c1
  | 2, hj => simp at hj; subst hj; exact c2
  | 3, hj => simp at hj; subst hj; exact c3
  | 4, hj => simp at hj; subst hj; exact c4
  | 5, hj => simp at hj; subst hj; exact c5
set_option maxHeartbeats 3200000 in
set_option maxRecDepth 100000 in
theorem equalExprs_any (d : Nat) (hT : SameP dec d) (e f : E) (a a0 : Option Addr) (c c0 : Nat) (w : World) (hW : EIs w (d + 1) e a c) (hE : EIs w (d + 1) f a0 c0) :
    Calls Tryz.prog 129 #[.slice a e.kids.length c, .slice a0 f.kids.length c0, .func (.func 103) #[] #[]] w fun r w' => r = .returned (.bool (eqB dec e.kids f.kids)) ∧ Below w.heap.size w w' := by
  obtain ⟨op, t, kids⟩ := e
  obtain ⟨op', t', kids'⟩ := f
  obtain ⟨hop, htw, hc1, hc2, hk⟩ := hW
  obtain ⟨hop', htw', hc1', hc2', hk'⟩ := hE
  simp only [op_mk, t_mk, kids_mk] at *
  have HC : Hid (∀ i, i < kids.length → i < kids'.length → ∀ a1 c1 a2 c2, EIs w d (atE kids i) a1 c1 → EIs w d (atE kids' i) a2 c2 → ∀ u, Below w.heap.size w u → Calls Tryz.prog 103 #[.agg [.int .i8 (atE kids i).op, .string (atE kids i).t.v, .int .i8 (atE kids i).t.a.k, .int .i64 (atE kids i).t.a.n, .string (atE kids i).t.a.s, .slice a1 (atE kids i).kids.length c1].toArray, .agg [.int .i8 (atE kids' i).op, .string (atE kids' i).t.v, .int .i8 (atE kids' i).t.a.k, .int .i64 (atE kids' i).t.a.n, .string (atE kids' i).t.a.s, .slice a2 (atE kids' i).kids.length c2].toArray] u fun r w' => r = .returned (.bool (eqB dec (atE kids i) (atE kids' i))) ∧ Below u.heap.size u w') := fun i _ _ a1 c1 a2 c2 h1 h2 u hu => hT _ _ a1 a2 c1 c2 u (h1.below hu) (h2.below hu)
  have HK := Lib.hid hk
  have HK' := Lib.hid hk'
  have hlen := hop.2
  have hmax2 := hop'.2
  clear hT hk hk' hop hop' htw htw' hc2 hc2'
  obtain ⟨BB, hBB⟩ : ∃ BB, eqB dec kids kids' = BB := ⟨_, rfl⟩
  rw [hBB]
  have HBB := Lib.hid hBB
  clear hBB
  by_cases hll : kids'.length = kids.length
  · rw [hll] at HK' HC hc1' ⊢
    have HLen := Lib.hid hll
    clear hll hmax2
    go_enter Tryz.func129, Tryz.ntmps129
    go_wp2
    go_loopw [17] (fun i wr => ∃ k : Nat, k ≤ kids.length ∧ i = .int .i64 k ∧ Below w.heap.size w wr ∧ Hid (∀ j, j < k → atE kids j = atE kids' j)) (fun i _ => kids.length - (intOf i).toNat)
    case atStart => exact ⟨0, Nat.zero_le _, rfl, Below.refl _ _, fun j hj => absurd hj (by omega)⟩
    case round =>
    obtain ⟨k, hk, rfl, bel, HS⟩ := hrel
    by_cases hlt : k < kids.length
    · have hlt' : (k : Int) < (kids.length : Int) := by omega
      have hk0 : (0 : Int) ≤ (k : Int) := by omega
      obtain ⟨g, off, rfl, hg, hKS⟩ := HK.out (by omega)
      obtain ⟨g', off', rfl, hg', hKS'⟩ := HK'.out (by omega)
      obtain ⟨a1, c1, hx1, hE1⟩ := hKS k hlt
      have r1 := xat_range (hx1.below bel hg)
      obtain ⟨a2, c2, hx2, hE2⟩ := hKS' k hlt
      have r2 := xat_range hx2
      have HCk := HC.out k hlt hlt a1 c1 a2 c2 hE1 hE2
      clear HC hx1 hx2 hE1 hE2
      have hld1 := load_Exp r1 rfl
      have hst1 : (storeVar 74 ⟨wr.heap.size, 0, none⟩ (.agg [.int .i8 (atE kids k).op, .string (atE kids k).t.v, .int .i8 (atE kids k).t.a.k, .int .i64 (atE kids k).t.a.n, .string (atE kids k).t.a.s, .slice a1 (atE kids k).kids.length c1].toArray)).run Tryz.prog (wr.alloc (.cells #[.int .i8 0, .string ⟨#[]⟩, .int .i8 0, .int .i64 0, .string ⟨#[]⟩, .slice none 0 0] 74)) = .ok () (wr.alloc (.cells [.int .i8 (atE kids k).op, .string (atE kids k).t.v, .int .i8 (atE kids k).t.a.k, .int .i64 (atE kids k).t.a.n, .string (atE kids k).t.a.s, .slice a1 (atE kids k).kids.length c1].toArray 74)) := run_storeVar_new wr 74 #[.int .i8 0, .string ⟨#[]⟩, .int .i8 0, .int .i64 0, .string ⟨#[]⟩, .slice none 0 0] [.int .i8 (atE kids k).op, .string (atE kids k).t.v, .int .i8 (atE kids k).t.a.k, .int .i64 (atE kids k).t.a.n, .string (atE kids k).t.a.s, .slice a1 (atE kids k).kids.length c1].toArray (by kernel_rfl) rfl (by simp [Value.oneCell'])
      have BA1 := belowA (w := wr) (.cells [.int .i8 (atE kids k).op, .string (atE kids k).t.v, .int .i8 (atE kids k).t.a.k, .int .i64 (atE kids k).t.a.n, .string (atE kids k).t.a.s, .slice a1 (atE kids k).kids.length c1].toArray 74)
      have RN1 := rl_new wr [.int .i8 (atE kids k).op, .string (atE kids k).t.v, .int .i8 (atE kids k).t.a.k, .int .i64 (atE kids k).t.a.n, .string (atE kids k).t.a.s, .slice a1 (atE kids k).kids.length c1].toArray 74
      have HC := Lib.hid HCk
      generalize hW1 : wr.alloc (.cells [.int .i8 (atE kids k).op, .string (atE kids k).t.v, .int .i8 (atE kids k).t.a.k, .int .i64 (atE kids k).t.a.n, .string (atE kids k).t.a.s, .slice a1 (atE kids k).kids.length c1].toArray 74) = W1 at hst1 BA1 RN1
      have hld2 := load_Exp (range_below r2 (bel.trans (BA1.mono bel.size)) hg') rfl
      have hst2 : (storeVar 74 ⟨W1.heap.size, 0, none⟩ (.agg [.int .i8 (atE kids' k).op, .string (atE kids' k).t.v, .int .i8 (atE kids' k).t.a.k, .int .i64 (atE kids' k).t.a.n, .string (atE kids' k).t.a.s, .slice a2 (atE kids' k).kids.length c2].toArray)).run Tryz.prog (W1.alloc (.cells #[.int .i8 0, .string ⟨#[]⟩, .int .i8 0, .int .i64 0, .string ⟨#[]⟩, .slice none 0 0] 74)) = .ok () (W1.alloc (.cells [.int .i8 (atE kids' k).op, .string (atE kids' k).t.v, .int .i8 (atE kids' k).t.a.k, .int .i64 (atE kids' k).t.a.n, .string (atE kids' k).t.a.s, .slice a2 (atE kids' k).kids.length c2].toArray 74)) := run_storeVar_new W1 74 #[.int .i8 0, .string ⟨#[]⟩, .int .i8 0, .int .i64 0, .string ⟨#[]⟩, .slice none 0 0] [.int .i8 (atE kids' k).op, .string (atE kids' k).t.v, .int .i8 (atE kids' k).t.a.k, .int .i64 (atE kids' k).t.a.n, .string (atE kids' k).t.a.s, .slice a2 (atE kids' k).kids.length c2].toArray (by kernel_rfl) rfl (by simp [Value.oneCell'])
      have BA2 := belowA (w := W1) (.cells [.int .i8 (atE kids' k).op, .string (atE kids' k).t.v, .int .i8 (atE kids' k).t.a.k, .int .i64 (atE kids' k).t.a.n, .string (atE kids' k).t.a.s, .slice a2 (atE kids' k).kids.length c2].toArray 74)
      have hl2 := load_Exp (RL.range (rl_new W1 [.int .i8 (atE kids' k).op, .string (atE kids' k).t.v, .int .i8 (atE kids' k).t.a.k, .int .i64 (atE kids' k).t.a.n, .string (atE kids' k).t.a.s, .slice a2 (atE kids' k).kids.length c2].toArray 74)) rfl
      have hl1 := load_Exp (RL.range (RN1.below BA2)) rfl
      have hl1' : (loadVar 74 ⟨wr.heap.size, 0, none⟩).run Tryz.prog (W1.alloc (.cells [.int .i8 (atE kids' k).op, .string (atE kids' k).t.v, .int .i8 (atE kids' k).t.a.k, .int .i64 (atE kids' k).t.a.n, .string (atE kids' k).t.a.s, .slice a2 (atE kids' k).kids.length c2].toArray 74)) = .ok (.agg [.int .i8 (atE kids k).op, .string (atE kids k).t.v, .int .i8 (atE kids k).t.a.k, .int .i64 (atE kids k).t.a.n, .string (atE kids k).t.a.s, .slice a1 (atE kids k).kids.length c1].toArray) (W1.alloc (.cells [.int .i8 (atE kids' k).op, .string (atE kids' k).t.v, .int .i8 (atE kids' k).t.a.k, .int .i64 (atE kids' k).t.a.n, .string (atE kids' k).t.a.s, .slice a2 (atE kids' k).kids.length c2].toArray 74)) := hl1
      have hl2' : (loadVar 74 ⟨W1.heap.size, 0, none⟩).run Tryz.prog (W1.alloc (.cells [.int .i8 (atE kids' k).op, .string (atE kids' k).t.v, .int .i8 (atE kids' k).t.a.k, .int .i64 (atE kids' k).t.a.n, .string (atE kids' k).t.a.s, .slice a2 (atE kids' k).kids.length c2].toArray 74)) = .ok (.agg [.int .i8 (atE kids' k).op, .string (atE kids' k).t.v, .int .i8 (atE kids' k).t.a.k, .int .i64 (atE kids' k).t.a.n, .string (atE kids' k).t.a.s, .slice a2 (atE kids' k).kids.length c2].toArray) (W1.alloc (.cells [.int .i8 (atE kids' k).op, .string (atE kids' k).t.v, .int .i8 (atE kids' k).t.a.k, .int .i64 (atE kids' k).t.a.n, .string (atE kids' k).t.a.s, .slice a2 (atE kids' k).kids.length c2].toArray 74)) := hl2
      have HB2 := Lib.hid ((bel.trans (BA1.mono bel.size)).trans (BA2.mono (bel.trans (BA1.mono bel.size)).size))
      clear hl1 hl2 RN1 BA1 BA2 hW1 r1 r2 HCk hKS hKS'
      generalize W1.alloc (.cells [.int .i8 (atE kids' k).op, .string (atE kids' k).t.v, .int .i8 (atE kids' k).t.a.k, .int .i64 (atE kids' k).t.a.n, .string (atE kids' k).t.a.s, .slice a2 (atE kids' k).kids.length c2].toArray 74) = W2 at hst2 hl1' hl2' HB2
      generalize hq : eqB dec (atE kids k) (atE kids' k) = Q at HC
      have HQ := Lib.hid hq
      generalize Value.agg [.int .i8 (atE kids k).op, .string (atE kids k).t.v, .int .i8 (atE kids k).t.a.k, .int .i64 (atE kids k).t.a.n, .string (atE kids k).t.a.s, .slice a1 (atE kids k).kids.length c1].toArray = QV at hld1 hst1 hl1' HC
      generalize Value.agg [.int .i8 (atE kids' k).op, .string (atE kids' k).t.v, .int .i8 (atE kids' k).t.a.k, .int .i64 (atE kids' k).t.a.n, .string (atE kids' k).t.a.s, .slice a2 (atE kids' k).kids.length c2].toArray = RV at hld2 hst2 hl2' HC
      clear hq
      go_wp2_with fail
      refine (HC.out W2 HB2.out).mono ?_
      rintro e w3 ⟨rfl, b3⟩
      have B3 := Lib.hid (HB2.out.trans (b3.mono HB2.out.size))
      clear hld1 hst1 hld2 hst2 hl1' hl2' b3
      cases Q
      · go_wp2
        go_ret
        refine ⟨?_, B3.out⟩
        rw [← HBB.out, eqB_f (fun e => eqB_ne HQ.out (by rw [e]))]
        rfl
      · go_wp2
        go_roundw
        case rel => exact ⟨k + 1, by omega, by go_num, B3.out, fun j hj => by
          by_cases e : j = k
          · rw [e]; exact eqB_eq HQ.out
          · exact HS.out j (by omega)⟩
        case measure => simp [intOf]; omega
    · obtain rfl : k = kids.length := by omega
      go_wp2
      go_ret
      refine ⟨?_, bel⟩
      rw [← HBB.out, eqB_t (by
        refine List.ext_getElem HLen.out.symm fun i h1 h2 => ?_
        have := HS.out i h1
        rw [atE_eq h1, atE_eq h2] at this
        exact this)]
      rfl
  · have hneq : ((kids.length : Int) != (kids'.length : Int)) = true := by simp only [bne_iff_ne, ne_eq]; omega
    have HN := Lib.hid hll
    clear hll
    go_enter Tryz.func129, Tryz.ntmps129
    go_wp2
    go_ret
    refine ⟨?_, Below.refl _ _⟩
    rw [← HBB.out, eqB_f (fun e => HN.out (by rw [e]))]
    rfl
set_option maxHeartbeats 3200000 in
set_option maxRecDepth 100000 in
theorem equalLits_any (d : Nat) (hT : SamePL dec d) (v v' : Value) (l m : List XL) (w : World) (h1 : Lb w v d l) (h2 : Lb w v' d m) :
    Calls Tryz.prog 64 #[v, v', .func (.func 65) #[] #[]] w fun r w' => r = .returned (.bool (eqB dec (l.map XL.x) (m.map XL.x))) ∧ Below w.heap.size w w' := by
  have HC : Hid (∀ i, i < l.length → i < m.length → ∀ u, Below w.heap.size w u → Calls Tryz.prog 65 #[.agg (atL l i).cells.toArray, .agg (atL m i).cells.toArray] u fun r w' => r = .returned (.bool (eqB dec (XL.x (atL l i)) (XL.x (atL m i)))) ∧ Below u.heap.size u w') := fun i hi hj u hu => by
    rw [XL.val_eq, XL.val_eq]
    exact hT _ _ _ _ u ((h1.at_is hi).below hu) ((h2.at_is hj).below hu)
  obtain ⟨a, c, rfl, hc1, hc2, hk⟩ := h1.form
  obtain ⟨a', c', rfl, hc1', hc2', hk'⟩ := h2.form
  have hmax : l.length ≤ maxLen := Nat.le_trans hc1 hc2
  have hmax2 : m.length ≤ maxLen := Nat.le_trans hc1' hc2'
  unfold maxLen at hmax hmax2
  have HK := Lib.hid hk
  have HK' := Lib.hid hk'
  clear hT hk hk' h1 h2 hc2 hc2'
  obtain ⟨BB, hBB⟩ : ∃ BB, eqB dec (l.map XL.x) (m.map XL.x) = BB := ⟨_, rfl⟩
  rw [hBB]
  have HBB := Lib.hid hBB
  clear hBB
  by_cases hll : m.length = l.length
  · rw [hll] at HK' HC hc1' ⊢
    have HLen := Lib.hid hll
    clear hll hmax2
    go_enter Tryz.func64, Tryz.ntmps64
    go_wp2
    go_loopw [17] (fun i wr => ∃ k : Nat, k ≤ l.length ∧ i = .int .i64 k ∧ Below w.heap.size w wr ∧ Hid (∀ j, j < k → XL.x (atL l j) = XL.x (atL m j))) (fun i _ => l.length - (intOf i).toNat)
    case atStart => exact ⟨0, Nat.zero_le _, rfl, Below.refl _ _, fun j hj => absurd hj (by omega)⟩
    case round =>
    obtain ⟨k, hk, rfl, bel, HS⟩ := hrel
    by_cases hlt : k < l.length
    · have hlt' : (k : Int) < (l.length : Int) := by omega
      have hk0 : (0 : Int) ≤ (k : Int) := by omega
      obtain ⟨g, off, rfl, hg, hKS⟩ := HK.out (by omega)
      obtain ⟨g', off', rfl, hg', hKS'⟩ := HK'.out (by omega)
      have r1 := range_below (hKS k hlt) bel hg
      have r2 := hKS' k hlt
      have HCk := HC.out k hlt hlt
      clear HC
      have hld1 := load_Lit r1 rfl
      have hst1 : (storeVar 89 ⟨wr.heap.size, 0, none⟩ (.agg (atL l k).cells.toArray)).run Tryz.prog (wr.alloc (.cells #[.int .i8 0, .string ⟨#[]⟩, .slice none 0 0, .int .i8 0, .int .i8 0, .string ⟨#[]⟩, .int .i8 0, .int .i64 0, .string ⟨#[]⟩, .slice none 0 0, .int .i8 0, .string ⟨#[]⟩, .int .i8 0, .int .i64 0, .string ⟨#[]⟩, .slice none 0 0] 89)) = .ok () (wr.alloc (.cells (atL l k).cells.toArray 89)) := run_storeVar_new wr 89 #[.int .i8 0, .string ⟨#[]⟩, .slice none 0 0, .int .i8 0, .int .i8 0, .string ⟨#[]⟩, .int .i8 0, .int .i64 0, .string ⟨#[]⟩, .slice none 0 0, .int .i8 0, .string ⟨#[]⟩, .int .i8 0, .int .i64 0, .string ⟨#[]⟩, .slice none 0 0] (atL l k).cells.toArray (by kernel_rfl) rfl (oneCells_lit _)
      have BA1 := belowA (w := wr) (.cells (atL l k).cells.toArray 89)
      have RN1 := rl_new wr (atL l k).cells.toArray 89
      have HC := Lib.hid HCk
      generalize hW1 : wr.alloc (.cells (atL l k).cells.toArray 89) = W1 at hst1 BA1 RN1
      have hld2 := load_Lit (range_below r2 (bel.trans (BA1.mono bel.size)) hg') rfl
      have hst2 : (storeVar 89 ⟨W1.heap.size, 0, none⟩ (.agg (atL m k).cells.toArray)).run Tryz.prog (W1.alloc (.cells #[.int .i8 0, .string ⟨#[]⟩, .slice none 0 0, .int .i8 0, .int .i8 0, .string ⟨#[]⟩, .int .i8 0, .int .i64 0, .string ⟨#[]⟩, .slice none 0 0, .int .i8 0, .string ⟨#[]⟩, .int .i8 0, .int .i64 0, .string ⟨#[]⟩, .slice none 0 0] 89)) = .ok () (W1.alloc (.cells (atL m k).cells.toArray 89)) := run_storeVar_new W1 89 #[.int .i8 0, .string ⟨#[]⟩, .slice none 0 0, .int .i8 0, .int .i8 0, .string ⟨#[]⟩, .int .i8 0, .int .i64 0, .string ⟨#[]⟩, .slice none 0 0, .int .i8 0, .string ⟨#[]⟩, .int .i8 0, .int .i64 0, .string ⟨#[]⟩, .slice none 0 0] (atL m k).cells.toArray (by kernel_rfl) rfl (oneCells_lit _)
      have BA2 := belowA (w := W1) (.cells (atL m k).cells.toArray 89)
      have hl2 := load_Lit (RL.range (rl_new W1 (atL m k).cells.toArray 89)) rfl
      have hl1 := load_Lit (RL.range (RN1.below BA2)) rfl
      have hl1' : (loadVar 89 ⟨wr.heap.size, 0, none⟩).run Tryz.prog (W1.alloc (.cells (atL m k).cells.toArray 89)) = .ok (.agg (atL l k).cells.toArray) (W1.alloc (.cells (atL m k).cells.toArray 89)) := hl1
      have hl2' : (loadVar 89 ⟨W1.heap.size, 0, none⟩).run Tryz.prog (W1.alloc (.cells (atL m k).cells.toArray 89)) = .ok (.agg (atL m k).cells.toArray) (W1.alloc (.cells (atL m k).cells.toArray 89)) := hl2
      have HB2 := Lib.hid ((bel.trans (BA1.mono bel.size)).trans (BA2.mono (bel.trans (BA1.mono bel.size)).size))
      clear hl1 hl2 RN1 BA1 BA2 hW1 r1 r2 HCk hKS hKS'
      generalize W1.alloc (.cells (atL m k).cells.toArray 89) = W2 at hst2 hl1' hl2' HB2
      generalize hq : eqB dec (XL.x (atL l k)) (XL.x (atL m k)) = Q at HC
      have HQ := Lib.hid hq
      generalize Value.agg (atL l k).cells.toArray = QV at hld1 hst1 hl1' HC
      generalize Value.agg (atL m k).cells.toArray = RV at hld2 hst2 hl2' HC
      clear hq
      go_wp2_with fail
      refine (HC.out W2 HB2.out).mono ?_
      rintro e w3 ⟨rfl, b3⟩
      have B3 := Lib.hid (HB2.out.trans (b3.mono HB2.out.size))
      clear hld1 hst1 hld2 hst2 hl1' hl2' b3
      cases Q
      · go_wp2
        go_ret
        refine ⟨?_, B3.out⟩
        rw [← HBB.out, eqB_f (fun e => eqB_ne HQ.out (by
          have hm : k < m.length := by rw [HLen.out]; exact hlt
          have := congrArg (fun z => z[k]?) e
          simp only [List.getElem?_map, List.getElem?_eq_getElem hlt, List.getElem?_eq_getElem hm, Option.map_some, Option.some.injEq] at this
          rw [atL_eq hlt, atL_eq hm]
          exact this))]
        rfl
      · go_wp2
        go_roundw
        case rel => exact ⟨k + 1, by omega, by go_num, B3.out, fun j hj => by
          by_cases e : j = k
          · rw [e]; exact eqB_eq HQ.out
          · exact HS.out j (by omega)⟩
        case measure => simp [intOf]; omega
    · obtain rfl : k = l.length := by omega
      go_wp2
      go_ret
      refine ⟨?_, bel⟩
      rw [← HBB.out, eqB_t (by
        refine List.ext_getElem (by rw [List.length_map, List.length_map]; exact HLen.out.symm) fun i h1 h2 => ?_
        rw [List.length_map] at h1 h2
        have := HS.out i h1
        rw [atL_eq h1, atL_eq h2] at this
        rw [List.getElem_map, List.getElem_map]
        exact this)]
      rfl
  · have hneq : ((l.length : Int) != (m.length : Int)) = true := by simp only [bne_iff_ne, ne_eq]; omega
    have HN := Lib.hid hll
    clear hll
    go_enter Tryz.func64, Tryz.ntmps64
    go_wp2
    go_ret
    refine ⟨?_, Below.refl _ _⟩
    rw [← HBB.out, eqB_f (fun e => HN.out (by have := congrArg List.length e; rw [List.length_map, List.length_map] at this; exact this.symm))]
    rfl
end Go.Proofs.YtgplipfebnigiaaGreatDoor
end
section
namespace Go.Proofs.YtgplipfebnigiaaGreatDoor
open Go.RowKit Go.Maps
set_option linter.unusedVariables false
set_option linter.unusedSimpArgs false
attribute [local go_sem ↓] Go.wp_at_zero Go.wp_at_succ
variable {dec : Dec}

set_option maxHeartbeats 3200000 in
theorem eqTerms_any (v v' : Value) (ts us : List T) (w : World) (h1 : Lt w v ts) (h2 : Lt w v' us) :
    Calls Tryz.prog 102 #[v, v'] w fun r w' => r = .returned (.bool (eqB dec ts us)) ∧ Below w.heap.size w w' := by
  obtain ⟨a, c, rfl, hc1, hc2, hk⟩ := h1.form
  obtain ⟨a', c', rfl, hc1', hc2', hk'⟩ := h2.form
  have hmax : ts.length ≤ maxLen := Nat.le_trans hc1 hc2
  have hmax2 : us.length ≤ maxLen := Nat.le_trans hc1' hc2'
  unfold maxLen at hmax hmax2
  have HK : Hid _ := hk
  have HK' : Hid _ := hk'
  obtain ⟨BB, hBB⟩ : ∃ BB, eqB dec ts us = BB := ⟨_, rfl⟩
  rw [hBB]
  have HBB : Hid (eqB dec ts us = BB) := hBB
  clear hk hk' h1 h2 hc2 hc2' hBB
  by_cases hlen : us.length = ts.length
  · rw [hlen] at HK' hc1' ⊢
    have HLen : Hid (us.length = ts.length) := hlen
    clear hmax2 hlen
    go_enter Tryz.func102, Tryz.ntmps102
    go_wp2
    go_loopw [13] (fun i wr => ∃ k : Nat, k ≤ ts.length ∧ i = .int .i64 k ∧ Below w.heap.size w wr ∧ Hid (∀ j, j < k → atT ts j = atT us j)) (fun i _ => ts.length - (intOf i).toNat)
    case atStart => exact ⟨0, Nat.zero_le _, rfl, Below.refl _ _, fun j hj => absurd hj (by omega)⟩
    case round =>
    obtain ⟨k, hk, rfl, bel, HS⟩ := hrel
    by_cases hlt : k < ts.length
    · have hlt' : (k : Int) < (ts.length : Int) := by omega
      obtain ⟨g, off, rfl, hg, hKS⟩ := HK.out (by omega)
      obtain ⟨g2, off2, rfl, hg2, hKS2⟩ := HK'.out (by omega)
      obtain ⟨y0, y1, y2, y3⟩ := (hKS k hlt).below bel hg
      obtain ⟨z0, z1, z2, z3⟩ := (hKS2 k (by omega)).below bel hg2
      generalize hx : atT ts k = x at y0 y1 y2 y3
      generalize hy : atT us k = y at z0 z1 z2 z3
      have HX : Hid (_ = x) := hx
      have HY : Hid (_ = y) := hy
      by_cases hxy : x = y
      · have HXY : Hid (x = y) := hxy
        have hQ : ∀ u, (binOp .neq 46 (.agg #[.string x.v, .int .i8 x.a.k, .int .i64 x.a.n, .string x.a.s]) (.agg #[.string y.v, .int .i8 y.a.k, .int .i64 y.a.n, .string y.a.s])).run Tryz.prog u = .ok (.bool false) u := fun u => neqT hxy u
        clear hKS hKS2 hx hy hxy
        go_wp2_with fail
        go_quiet (fail)
        go_wp2
        go_roundw
        case rel => exact ⟨k + 1, by omega, by go_num, below_drewN bel _, fun j hj => by
          by_cases e : j = k
          · rw [e, HX.out, HY.out, HXY.out]
          · exact HS.out j (by omega)⟩
        case measure => simp [intOf]; omega
      · have HXY : Hid (¬ x = y) := hxy
        have hQ : ∀ u, (binOp .neq 46 (.agg #[.string x.v, .int .i8 x.a.k, .int .i64 x.a.n, .string x.a.s]) (.agg #[.string y.v, .int .i8 y.a.k, .int .i64 y.a.n, .string y.a.s])).run Tryz.prog u = .ok (.bool true) u := fun u => neqTn hxy u
        clear hKS hKS2 hx hy hxy
        go_wp2_with fail
        go_quiet (fail)
        go_wp2
        go_ret
        refine ⟨?_, below_drewN bel _⟩
        rw [← HBB.out, eqB_f (fun e => HXY.out (by rw [← HX.out, ← HY.out, e]))]
        rfl
    · obtain rfl : k = ts.length := by omega
      go_wp2
      go_ret
      refine ⟨?_, bel⟩
      rw [← HBB.out, eqB_t (by
        refine List.ext_getElem HLen.out.symm fun i h1 h2 => ?_
        have := HS.out i h1
        rw [atT_eq h1, atT_eq h2] at this
        exact this)]
      rfl
  · have hneq : ((ts.length : Int) != (us.length : Int)) = true := by simp only [bne_iff_ne, ne_eq]; omega
    have HN : Hid (¬ us.length = ts.length) := hlen
    clear hlen
    go_enter Tryz.func102, Tryz.ntmps102
    go_wp2
    go_ret
    refine ⟨?_, Below.refl _ _⟩
    rw [← HBB.out, eqB_f (fun e => HN.out (by rw [e]))]
    rfl
set_option maxHeartbeats 3200000 in
theorem eqArgs_any (v v' : Value) (ts us : List A5) (w : World) (h1 : La w v ts) (h2 : La w v' us) :
    Calls Tryz.prog 63 #[v, v'] w fun r w' => r = .returned (.bool (eqB dec ts us)) ∧ Below w.heap.size w w' := by
  obtain ⟨a, c, rfl, hc1, hc2, hk⟩ := h1.form
  obtain ⟨a', c', rfl, hc1', hc2', hk'⟩ := h2.form
  have hmax : ts.length ≤ maxLen := Nat.le_trans hc1 hc2
  have hmax2 : us.length ≤ maxLen := Nat.le_trans hc1' hc2'
  unfold maxLen at hmax hmax2
  have HK : Hid _ := hk
  have HK' : Hid _ := hk'
  obtain ⟨BB, hBB⟩ : ∃ BB, eqB dec ts us = BB := ⟨_, rfl⟩
  rw [hBB]
  have HBB : Hid (eqB dec ts us = BB) := hBB
  clear hk hk' h1 h2 hc2 hc2' hBB
  by_cases hlen : us.length = ts.length
  · rw [hlen] at HK' hc1' ⊢
    have HLen : Hid (us.length = ts.length) := hlen
    clear hmax2 hlen
    go_enter Tryz.func63, Tryz.ntmps63
    go_wp2
    go_loopw [13] (fun i wr => ∃ k : Nat, k ≤ ts.length ∧ i = .int .i64 k ∧ Below w.heap.size w wr ∧ Hid (∀ j, j < k → atA ts j = atA us j)) (fun i _ => ts.length - (intOf i).toNat)
    case atStart => exact ⟨0, Nat.zero_le _, rfl, Below.refl _ _, fun j hj => absurd hj (by omega)⟩
    case round =>
    obtain ⟨k, hk, rfl, bel, HS⟩ := hrel
    by_cases hlt : k < ts.length
    · have hlt' : (k : Int) < (ts.length : Int) := by omega
      obtain ⟨g, off, rfl, hg, hKS⟩ := HK.out (by omega)
      obtain ⟨g2, off2, rfl, hg2, hKS2⟩ := HK'.out (by omega)
      have ry := range_below (hKS k hlt) bel hg
      have rz := range_below (hKS2 k (by omega)) bel hg2
      generalize hx : atA ts k = x at ry
      generalize hy : atA us k = y at rz
      have y0 : wr.cell? ⟨g, off + k * 5, none⟩ = some (.int .i8 x.g) := ry 0 _ rfl
      have y1 : wr.cell? ⟨g, off + k * 5 + 1, none⟩ = some (.string x.t.v) := ry 1 _ rfl
      have y2 : wr.cell? ⟨g, off + k * 5 + 2, none⟩ = some (.int .i8 x.t.a.k) := ry 2 _ rfl
      have y3 : wr.cell? ⟨g, off + k * 5 + 3, none⟩ = some (.int .i64 x.t.a.n) := ry 3 _ rfl
      have y4 : wr.cell? ⟨g, off + k * 5 + 4, none⟩ = some (.string x.t.a.s) := ry 4 _ rfl
      have z0 : wr.cell? ⟨g2, off2 + k * 5, none⟩ = some (.int .i8 y.g) := rz 0 _ rfl
      have z1 : wr.cell? ⟨g2, off2 + k * 5 + 1, none⟩ = some (.string y.t.v) := rz 1 _ rfl
      have z2 : wr.cell? ⟨g2, off2 + k * 5 + 2, none⟩ = some (.int .i8 y.t.a.k) := rz 2 _ rfl
      have z3 : wr.cell? ⟨g2, off2 + k * 5 + 3, none⟩ = some (.int .i64 y.t.a.n) := rz 3 _ rfl
      have z4 : wr.cell? ⟨g2, off2 + k * 5 + 4, none⟩ = some (.string y.t.a.s) := rz 4 _ rfl
      have HX : Hid (_ = x) := hx
      have HY : Hid (_ = y) := hy
      by_cases hxy : x = y
      · have HXY : Hid (x = y) := hxy
        have hQ : ∀ u, (binOp .neq 94 (.agg #[.int .i8 x.g, .string x.t.v, .int .i8 x.t.a.k, .int .i64 x.t.a.n, .string x.t.a.s]) (.agg #[.int .i8 y.g, .string y.t.v, .int .i8 y.t.a.k, .int .i64 y.t.a.n, .string y.t.a.s])).run Tryz.prog u = .ok (.bool false) u := fun u => neqA hxy u
        clear hKS hKS2 ry rz hx hy hxy
        go_wp2_with fail
        go_quiet (fail)
        go_wp2
        go_roundw
        case rel => exact ⟨k + 1, by omega, by go_num, below_drewN bel _, fun j hj => by
          by_cases e : j = k
          · rw [e, HX.out, HY.out, HXY.out]
          · exact HS.out j (by omega)⟩
        case measure => simp [intOf]; omega
      · have HXY : Hid (¬ x = y) := hxy
        have hQ : ∀ u, (binOp .neq 94 (.agg #[.int .i8 x.g, .string x.t.v, .int .i8 x.t.a.k, .int .i64 x.t.a.n, .string x.t.a.s]) (.agg #[.int .i8 y.g, .string y.t.v, .int .i8 y.t.a.k, .int .i64 y.t.a.n, .string y.t.a.s])).run Tryz.prog u = .ok (.bool true) u := fun u => neqAn hxy u
        clear hKS hKS2 ry rz hx hy hxy
        go_wp2_with fail
        go_quiet (fail)
        go_wp2
        go_ret
        refine ⟨?_, below_drewN bel _⟩
        rw [← HBB.out, eqB_f (fun e => HXY.out (by rw [← HX.out, ← HY.out, e]))]
        rfl
    · obtain rfl : k = ts.length := by omega
      go_wp2
      go_ret
      refine ⟨?_, bel⟩
      rw [← HBB.out, eqB_t (by
        refine List.ext_getElem HLen.out.symm fun i h1 h2 => ?_
        have := HS.out i h1
        rw [atA_eq h1, atA_eq h2] at this
        exact this)]
      rfl
  · have hneq : ((ts.length : Int) != (us.length : Int)) = true := by simp only [bne_iff_ne, ne_eq]; omega
    have HN : Hid (¬ us.length = ts.length) := hlen
    clear hlen
    go_enter Tryz.func63, Tryz.ntmps63
    go_wp2
    go_ret
    refine ⟨?_, Below.refl _ _⟩
    rw [← HBB.out, eqB_f (fun e => HN.out (by rw [e]))]
    rfl
set_option maxHeartbeats 3200000 in
theorem rsameAtom_any (pr pr' : ByteArray) (ts us : List T) (v v' : Value) (w : World) (h1 : Lt w v ts) (h2 : Lt w v' us) :
    Calls Tryz.prog 104 #[.agg #[.string pr, v], .agg #[.string pr', v']] w fun r w' => r = .returned (.bool (eqB dec (pr, ts) (pr', us))) ∧ Below w.heap.size w w' := by
  obtain ⟨a, c, rfl, hc1, hc2, hk⟩ := h1.form
  obtain ⟨a', c', rfl, hc1', hc2', hk'⟩ := h2.form
  have hmax : ts.length ≤ maxLen := Nat.le_trans hc1 hc2
  have hmax2 : us.length ≤ maxLen := Nat.le_trans hc1' hc2'
  unfold maxLen at hmax hmax2
  have HK := Lib.hid hk
  have HK' := Lib.hid hk'
  have hA1 := belowA (w := w) (.cells #[.string pr, .slice a ts.length c] 61)
  have hA2 := belowA (w := w.alloc (.cells #[.string pr, .slice a ts.length c] 61)) (.cells #[.string pr', .slice a' us.length c'] 61)
  have HB := Lib.hid (hA1.trans (hA2.mono hA1.size))
  have HR0 := Lib.hid ((rl_new w #[.string pr, .slice a ts.length c] 61).below hA2)
  have hR1 := rl_new (w.alloc (.cells #[.string pr, .slice a ts.length c] 61)) #[.string pr', .slice a' us.length c'] 61
  rw [World.size_alloc] at hR1
  have HR1 := Lib.hid hR1
  obtain ⟨R, hR⟩ : ∃ R, eqB dec (pr, ts) (pr', us) = R := ⟨_, rfl⟩
  rw [hR]
  have HR := Lib.hid hR
  clear hk hk' h1 h2 hc2 hc2' hA1 hA2 hR1 hR
  go_enter Tryz.func104, Tryz.ntmps104
  go_upto_region 1 with fail
  generalize (w.alloc (.cells #[.string pr, .slice a ts.length c] 61)).alloc (.cells #[.string pr', .slice a' us.length c'] 61) = W at HB HR0 HR1 ⊢
  have x0 := HR0.out.at (j := 0) rfl
  have x1 := HR0.out.at (j := 1) rfl
  have z0 := HR1.out.at (j := 0) rfl
  have z1 := HR1.out.at (j := 1) rfl
  by_cases hp : pr = pr'
  · have e0 : (pr.toList == pr'.toList) = true := by rw [hp]; simp
    have HP := Lib.hid hp
    clear hp
    by_cases hlen : us.length = ts.length
    · rw [hlen] at HK' hc1' HR1 z1
      have HLen := Lib.hid hlen
      clear hmax2 hlen
      go_wp2
      clear x0 x1 z0 z1
      go_loopw [5] (fun i wr => ∃ k : Nat, k ≤ ts.length ∧ i = .int .i64 k ∧ Below W.heap.size W wr ∧ Hid (∀ j, j < k → atT ts j = atT us j)) (fun i _ => ts.length - (intOf i).toNat)
      case atStart => exact ⟨0, Nat.zero_le _, rfl, Below.refl _ _, fun j hj => absurd hj (by omega)⟩
      case round =>
      obtain ⟨k, hk, rfl, bel, HS⟩ := hrel
      have HBF := Lib.hid (HB.out.trans (bel.mono HB.out.size))
      have x1 := (HR0.out.below bel).at (j := 1) rfl
      have z1 := (HR1.out.below bel).at (j := 1) rfl
      by_cases hlt : k < ts.length
      · have hlt' : (k : Int) < (ts.length : Int) := by omega
        obtain ⟨g, off, rfl, hg, hKS⟩ := HK.out (by omega)
        obtain ⟨g2, off2, rfl, hg2, hKS2⟩ := HK'.out (by omega)
        obtain ⟨y0, y1, y2, y3⟩ := (hKS k hlt).below HBF.out hg
        obtain ⟨q0, q1, q2, q3⟩ := (hKS2 k (by omega)).below HBF.out hg2
        generalize hx : atT ts k = x at y0 y1 y2 y3
        generalize hy : atT us k = y at q0 q1 q2 q3
        have HX : Hid (_ = x) := hx
        have HY : Hid (_ = y) := hy
        by_cases hxy : x = y
        · have HXY : Hid (x = y) := hxy
          have hQ : ∀ u, (binOp .neq 46 (.agg #[.string x.v, .int .i8 x.a.k, .int .i64 x.a.n, .string x.a.s]) (.agg #[.string y.v, .int .i8 y.a.k, .int .i64 y.a.n, .string y.a.s])).run Tryz.prog u = .ok (.bool false) u := fun u => neqT hxy u
          clear hKS hKS2 hx hy hxy
          go_wp2_with fail
          go_quiet (fail)
          go_wp2
          go_roundw
          case rel => exact ⟨k + 1, by omega, by go_num, below_drewN bel _, fun j hj => by
            by_cases e : j = k
            · rw [e, HX.out, HY.out, HXY.out]
            · exact HS.out j (by omega)⟩
          case measure => simp [intOf]; omega
        · have HXY : Hid (¬ x = y) := hxy
          have hQ : ∀ u, (binOp .neq 46 (.agg #[.string x.v, .int .i8 x.a.k, .int .i64 x.a.n, .string x.a.s]) (.agg #[.string y.v, .int .i8 y.a.k, .int .i64 y.a.n, .string y.a.s])).run Tryz.prog u = .ok (.bool true) u := fun u => neqTn hxy u
          clear hKS hKS2 hx hy hxy
          go_wp2_with fail
          go_quiet (fail)
          go_wp2
          go_ret
          refine ⟨?_, below_drewN HBF.out _⟩
          rw [← HR.out, eqB_f (fun e => HXY.out (by injection e with _ e2; rw [← HX.out, ← HY.out, e2]))]
          rfl
      · obtain rfl : k = ts.length := by omega
        go_wp2
        go_ret
        refine ⟨?_, HBF.out⟩
        rw [← HR.out, eqB_t (by
          rw [HP.out]
          congr 1
          refine List.ext_getElem HLen.out.symm fun i h1 h2 => ?_
          have := HS.out i h1
          rw [atT_eq h1, atT_eq h2] at this
          exact this)]
        rfl
    · have hneq : ((ts.length : Int) != (us.length : Int)) = true := by simp only [bne_iff_ne, ne_eq]; omega
      have HN : Hid (R = false) := by show R = _; rw [← HR.out]; exact eqB_f (fun e => hlen (by injection e with _ e2; rw [e2]))
      clear hlen
      go_wp2
      go_ret
      exact ⟨by rw [HN.out]; rfl, HB.out⟩
  · have e0 : (pr.toList == pr'.toList) = false := by
      rw [beq_eq_false_iff_ne]
      exact fun h => hp (toList_inj h)
    have HN : Hid (R = false) := by show R = _; rw [← HR.out]; exact eqB_f (fun q => hp (by injection q))
    clear hp
    go_wp2
    go_ret
    exact ⟨by rw [HN.out]; rfl, HB.out⟩
end Go.Proofs.YtgplipfebnigiaaGreatDoor
end
