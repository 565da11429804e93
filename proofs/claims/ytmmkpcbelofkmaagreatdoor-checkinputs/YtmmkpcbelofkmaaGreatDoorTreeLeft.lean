import Derived.Test.YtmmkpcbelofkmaaGreatDoorG7
import Derived.Deep.RegionHeld3
namespace Go.Proofs.YtmmkpcbelofkmaaGreatDoor
open Go.RowKit Go.Maps
set_option linter.unusedVariables false
set_option linter.unusedSimpArgs false
attribute [local go_sem ↓] Go.wp_at_zero Go.wp_at_succ

set_option maxHeartbeats 1600000 in
theorem isMark_any (w : World) (hp : PWt w) : Calls Tryz.prog 181 #[.agg #[.int .i8 99, .string markW, .int .i8 0, .int .i64 0, .string ⟨#[]⟩, .slice none 0 0], .int .i64 777777] w fun e w' => e = .returned (.bool true) ∧ Below w.heap.size w w' := by
  have BA := (Below.refl w.heap.size w).alloc (Nat.le_refl _) (.cells #[.int .i8 99, .string markW, .int .i8 0, .int .i64 0, .string ⟨#[]⟩, .slice none 0 0] 107)
  have HX0 : Hid (XAt (w.alloc (.cells #[.int .i8 99, .string markW, .int .i8 0, .int .i64 0, .string ⟨#[]⟩, .slice none 0 0] 107)) w.heap.size 0 99 ⟨markW, V0⟩ (.slice none 0 0)) := ⟨by go_simp, by go_simp, by go_simp; rfl, by go_simp; rfl, by go_simp; rfl, by go_simp⟩
  have hE : ∀ u, (binOp .eql 83 (.agg #[.string markW, .int .i8 0, .int .i64 0, .string ⟨#[]⟩]) (.agg #[.string markW, .int .i8 0, .int .i64 0, .string ⟨#[]⟩])).run Tryz.prog u = .ok (.bool true) u := fun u => by
    have := run_eqT ⟨markW, V0⟩ ⟨markW, V0⟩ u
    rw [decide_eq_true rfl] at this
    exact this
  have HS : Hid (∀ u, Below (w.alloc (.cells #[.int .i8 99, .string markW, .int .i8 0, .int .i64 0, .string ⟨#[]⟩, .slice none 0 0] 107)).heap.size (w.alloc (.cells #[.int .i8 99, .string markW, .int .i8 0, .int .i64 0, .string ⟨#[]⟩, .slice none 0 0] 107)) u → Below w.heap.size w u ∧ u.cell? ⟨w.heap.size, 0, none⟩ = some (.int .i8 99) ∧ u.cell? ⟨w.heap.size, 1, none⟩ = some (.string markW) ∧ u.cell? ⟨w.heap.size, 2, none⟩ = some (.int .i8 0) ∧ u.cell? ⟨w.heap.size, 3, none⟩ = some (.int .i64 0) ∧ u.cell? ⟨w.heap.size, 4, none⟩ = some (.string ⟨#[]⟩) ∧ u.cell? ⟨w.heap.size, 5, none⟩ = some (.slice none 0 0)) := fun u hu => by
    obtain ⟨x0, x1, x2, x3, x4, x5⟩ := HX0.out.below hu (by simp)
    exact ⟨BA.trans (hu.mono BA.size), x0, x1, x2, x3, x4, x5⟩
  have HP : Hid (∀ u, Below w.heap.size w u → PWt u) := fun u hu => tab_below hp hu
  have HR : Hid (∀ u, Below w.heap.size w u → w.heap.size ≤ u.heap.size) := fun u hu => hu.size
  obtain ⟨MW, hmw⟩ : ∃ MW, markW = MW := ⟨_, rfl⟩
  have HW : Hid (∀ u, PWt u → Calls Tryz.prog 34 #[.int .i64 777777] u fun e w' => e = .returned (.string MW) ∧ Below u.heap.size u w') := fun u hu => by rw [← hmw]; exact word_any u hu
  rw [hmw] at hE HS ⊢
  clear hp hmw BA HX0
  go_enter Tryz.func181, Tryz.ntmps181
  go_wp2_with fail
  generalize hWW : w.alloc (.cells #[.int .i8 99, .string MW, .int .i8 0, .int .i64 0, .string ⟨#[]⟩, .slice none 0 0] 107) = W at HS ⊢
  clear hWW
  have hB0 : Below W.heap.size W W := Below.refl _ _
  go_region_held3 (fun u => (Below W.heap.size W u) ∧ u.cell? ⟨w.heap.size, 0, none⟩ = some (.int .i8 99) ∧ u.cell? ⟨w.heap.size, 1, none⟩ = some (.string MW) ∧ u.cell? ⟨w.heap.size, 2, none⟩ = some (.int .i8 0) ∧ u.cell? ⟨w.heap.size, 3, none⟩ = some (.int .i64 0) ∧ u.cell? ⟨w.heap.size, 4, none⟩ = some (.string ⟨#[]⟩) ∧ u.cell? ⟨w.heap.size, 5, none⟩ = some (.slice none 0 0))
    (first
      | assumption
      | exact ⟨hB0.drew, (HS.out _ hB0.drew).2⟩
      | exact ⟨(by assumption), (HS.out _ (by assumption)).2⟩)
    (first
      | (go_at_call 34; refine (HW.out _ (HP.out _ (HS.out _ hB0.drew).1)).mono ?_; rintro ee w2 ⟨rfl, b2⟩; have b2' : Below W.heap.size W w2 := hB0.drew.trans b2)
      | fail)
  go_wp2
  go_ret
  exact ⟨rfl, (HS.out _ b2').1⟩
/-- what LeftExpr says of a copy of an expression of at most d levels -/
def LeftOK (d : Nat) : Prop := ∀ (e : E) (a a0 : Option Addr) (c c0 lo : Nat) (w : World), PWt w → TwIs w lo d e a c → EIs w d e a0 c0 →
  Calls Tryz.prog 142 #[e.val a c, e.val a0 c0] w fun r w' => r = .returned (.bool true) ∧ Below w.heap.size w w'
set_option maxHeartbeats 3200000 in
theorem leftExprs_any (d : Nat) (hT : LeftOK d) (e : E) (a a0 : Option Addr) (c c0 lo : Nat) (w : World) (hp : PWt w) (hW : TwIs w lo (d + 1) e a c) (hE : EIs w (d + 1) e a0 c0) :
    Calls Tryz.prog 166 #[.slice a e.kids.length c, .slice a0 e.kids.length c0] w fun r w' => r = .returned (.bool true) ∧ Below w.heap.size w w' := by
  obtain ⟨op, t, kids⟩ := e
  obtain ⟨hop, htw, hc1, hc2, hk⟩ := hE
  obtain ⟨rfl, g, rfl, hlo, hg, hmk, hkt⟩ := hW
  simp only [op_mk, t_mk, kids_mk] at *
  have HT : Hid _ := hT
  have HK : Hid _ := hk
  have HKT : Hid _ := hkt
  have HMK : Hid (XAt w g (kids.length * 6) 99 ⟨markW, V0⟩ (.slice none 0 0)) := hmk
  have HP : Hid (PWt w) := hp
  have hlen := hop.2
  clear hT hk hkt hmk hp hop htw hc2 hlo
  go_enter Tryz.func166, Tryz.ntmps166
  go_wp2
  go_loopw [5] (fun i wr => ∃ k : Nat, k ≤ kids.length ∧ i = .int .i64 k ∧ Below w.heap.size w wr) (fun i _ => kids.length - (intOf i).toNat)
  case atStart => exact ⟨0, Nat.zero_le _, rfl, Below.refl _ _⟩
  case round =>
    obtain ⟨k, hk, rfl, bel⟩ := hrel
    by_cases hlt : k < kids.length
    · have hlt' : (k : Int) < (kids.length : Int) := by omega
      obtain ⟨g', off, rfl, hg', hKS⟩ := HK.out (by omega)
      obtain ⟨a2, c2, hx2, hE2⟩ := hKS k hlt
      obtain ⟨a1, c1, hx1, hW1⟩ := HKT.out k hlt
      have HC : Hid (∀ u, Below w.heap.size w u → (u.cell? ⟨g, k * 6, none⟩ = some (.int .i8 (atE kids k).op) ∧ u.cell? ⟨g, k * 6 + 1, none⟩ = some (.string (atE kids k).t.v) ∧ u.cell? ⟨g, k * 6 + 2, none⟩ = some (.int .i8 (atE kids k).t.a.k) ∧ u.cell? ⟨g, k * 6 + 3, none⟩ = some (.int .i64 (atE kids k).t.a.n) ∧ u.cell? ⟨g, k * 6 + 4, none⟩ = some (.string (atE kids k).t.a.s) ∧ u.cell? ⟨g, k * 6 + 5, none⟩ = some (.slice a1 (atE kids k).kids.length c1)) ∧ (u.cell? ⟨g', off + k * 6, none⟩ = some (.int .i8 (atE kids k).op) ∧ u.cell? ⟨g', off + k * 6 + 1, none⟩ = some (.string (atE kids k).t.v) ∧ u.cell? ⟨g', off + k * 6 + 2, none⟩ = some (.int .i8 (atE kids k).t.a.k) ∧ u.cell? ⟨g', off + k * 6 + 3, none⟩ = some (.int .i64 (atE kids k).t.a.n) ∧ u.cell? ⟨g', off + k * 6 + 4, none⟩ = some (.string (atE kids k).t.a.s) ∧ u.cell? ⟨g', off + k * 6 + 5, none⟩ = some (.slice a2 (atE kids k).kids.length c2))) := fun u hu => by
        obtain ⟨x0, x1, x2, x3, x4, x5⟩ := hx1.below hu hg
        obtain ⟨y0, y1, y2, y3, y4, y5⟩ := hx2.below hu hg'
        exact ⟨⟨x0, x1, x2, x3, x4, x5⟩, ⟨y0, y1, y2, y3, y4, y5⟩⟩
      have HW : Hid (∀ u, Below w.heap.size w u → Calls Tryz.prog 142 #[(atE kids k).val a1 c1, (atE kids k).val a2 c2] u fun r w' => r = .returned (.bool true) ∧ Below u.heap.size u w') := fun u hu => HT.out _ a1 a2 c1 c2 lo u (tab_below HP.out hu) (hW1.below hu) (hE2.below hu)
      generalize atE kids k = x at HC HW
      have hS0 := HC.out _ bel
      clear hKS hx1 hx2 hE2 hW1 hg'
      go_wp2_with fail
      go_region_held3 (fun u => (Below w.heap.size w u) ∧ (u.cell? ⟨g, k * 6, none⟩ = some (.int .i8 x.op) ∧ u.cell? ⟨g, k * 6 + 1, none⟩ = some (.string x.t.v) ∧ u.cell? ⟨g, k * 6 + 2, none⟩ = some (.int .i8 x.t.a.k) ∧ u.cell? ⟨g, k * 6 + 3, none⟩ = some (.int .i64 x.t.a.n) ∧ u.cell? ⟨g, k * 6 + 4, none⟩ = some (.string x.t.a.s) ∧ u.cell? ⟨g, k * 6 + 5, none⟩ = some (.slice a1 x.kids.length c1)) ∧ (u.cell? ⟨g', off + k * 6, none⟩ = some (.int .i8 x.op) ∧ u.cell? ⟨g', off + k * 6 + 1, none⟩ = some (.string x.t.v) ∧ u.cell? ⟨g', off + k * 6 + 2, none⟩ = some (.int .i8 x.t.a.k) ∧ u.cell? ⟨g', off + k * 6 + 3, none⟩ = some (.int .i64 x.t.a.n) ∧ u.cell? ⟨g', off + k * 6 + 4, none⟩ = some (.string x.t.a.s) ∧ u.cell? ⟨g', off + k * 6 + 5, none⟩ = some (.slice a2 x.kids.length c2)))
        (first
          | assumption
          | exact ⟨bel.drew, HC.out _ bel.drew⟩
          | exact ⟨(by assumption), HC.out _ (by assumption)⟩)
        (first
          | (go_at_call 142; refine (HW.out _ bel.drew).mono ?_; rintro ee w2 ⟨rfl, b2⟩; have b2' : Below w.heap.size w w2 := bel.drew.trans (b2.mono bel.size))
          | fail)
      go_wp2
      go_roundw
      case rel => exact ⟨k + 1, by omega, by go_num, b2'⟩
      case measure => simp [intOf]; omega
    · obtain rfl : k = kids.length := by omega
      obtain ⟨z0, z1, z2, z3, z4, z5⟩ := HMK.out.below bel hg
      have hMK : Hid _ := isMark_any wr (tab_below HP.out bel)
      have hk1 : (kids.length : Int) < (kids.length : Int) + 1 := by omega
      have z2' : wr.cell? ⟨g, kids.length * 6 + 2, none⟩ = some (.int .i8 0) := z2
      have z3' : wr.cell? ⟨g, kids.length * 6 + 3, none⟩ = some (.int .i64 0) := z3
      have z4' : wr.cell? ⟨g, kids.length * 6 + 4, none⟩ = some (.string ⟨#[]⟩) := z4
      have z1' : wr.cell? ⟨g, kids.length * 6 + 1, none⟩ = some (.string markW) := z1
      clear z1 z2 z3 z4
      obtain ⟨MW, hmw⟩ : ∃ MW, markW = MW := ⟨_, rfl⟩
      rw [hmw] at z1' hMK
      clear hmw
      go_wp2_with fail
      refine Calls.mono hMK.out ?_
      rintro ee w2 ⟨rfl, b2⟩
      go_wp2
      go_ret
      exact ⟨rfl, bel.trans (b2.mono bel.size)⟩
set_option maxHeartbeats 3200000 in
theorem leftExpr_step (d : Nat) (hT : LeftOK d) : LeftOK (d + 1) := by
  intro e a a0 c c0 lo w hp hW hE
  have BA := (Below.refl w.heap.size w).alloc (Nat.le_refl _) (.cells #[.int .i8 e.op, .string e.t.v, .int .i8 e.t.a.k, .int .i64 e.t.a.n, .string e.t.a.s, .slice a e.kids.length c] 107)
  have BB := BA.alloc BA.size (.cells #[.int .i8 e.op, .string e.t.v, .int .i8 e.t.a.k, .int .i64 e.t.a.n, .string e.t.a.s, .slice a0 e.kids.length c0] 107)
  have HL : Hid _ := leftExprs_any d hT e a a0 c c0 lo _ (tab_below hp BB) (hW.below BB) (hE.below BB)
  have hQ : ∀ u, (binOp .eql 83 (.agg #[.string e.t.v, .int .i8 e.t.a.k, .int .i64 e.t.a.n, .string e.t.a.s]) (.agg #[.string e.t.v, .int .i8 e.t.a.k, .int .i64 e.t.a.n, .string e.t.a.s])).run Tryz.prog u = .ok (.bool true) u := fun u => by
    have := run_eqT e.t e.t u
    rw [decide_eq_true rfl] at this
    exact this
  have HB : Hid (Below w.heap.size w _) := BB
  clear hp hW hE BA BB
  unfold E.val
  go_enter Tryz.func142, Tryz.ntmps142
  go_wp2_with (go_at_call 166; refine Calls.mono HL.out ?_; rintro ee w1 ⟨rfl, b1⟩)
  go_ret
  exact ⟨rfl, HB.out.trans (b1.mono HB.out.size)⟩
theorem leftOK : ∀ d, LeftOK d
  | 0 => fun _ _ _ _ _ _ _ _ h _ => h.elim
  | d + 1 => leftExpr_step d (leftOK d)
end Go.Proofs.YtmmkpcbelofkmaaGreatDoor
