import Derived.Test.YtkgoceomkkohmaaDoorMnAp
import Derived.Test.YtkgoceomkkohmaaDoorTermMatch
import Derived.Deep.RegionHeld3
import Derived.Test.YtkgoceomkkohmaaDoorMnM
import Derived.Deep.Upon
import Derived.Maps.AppendAt
import Derived.OwnWalk
namespace Go.Proofs.YtkgoceomkkohmaaDoor
open Go.RowKit Go.Maps
set_option linter.unusedVariables false
set_option linter.unusedSimpArgs false
attribute [local go_sem ↓] Go.wp_at_zero Go.wp_at_succ

/-! lives of pedigreelaw04, where Eval has its contract at any depth (else TmLives) -/
theorem one_results {fn : Func} {sl : Nat} (hr : fn.results = #[.cell sl 26]) {W : World} {tmps : Array Value} {b : Nat} {x0 x1 x2 : Value} (h2 : tmps.getD sl undef = .pointer (some ⟨b, 0, none⟩))
    (c0 : W.cell? ⟨b, 0, none⟩ = some x0) (c1 : W.cell? ⟨b, 1, none⟩ = some x1) (c2 : W.cell? ⟨b, 2, none⟩ = some x2) :
    (results fn tmps).run Tryd.prog W = .ok (.agg #[x0, x1, x2]) W := by
  have hl : (loadVar 26 ⟨b, 0, none⟩).run Tryd.prog W = .ok (.agg #[x0, x1, x2]) W := by
    refine run_loadVar_mid W b 0 26 [x0, x1, x2] _ (fun j v hj => ?_) Tryd.underlying26 rfl (by kernel_rfl)
    match j, hj with
    | 0, hj => simp at hj; subst hj; exact c0
    | 1, hj => simp at hj; subst hj; exact c1
    | 2, hj => simp at hj; subst hj; exact c2
  have e0 : results fn tmps = (do
      let x ← asAddr (tmps.getD sl undef)
      loadVar 26 x) := by
    simp [results, hr]
  rw [e0, h2]
  simp [asAddr, hl, Result.andThen]
theorem one_done {fn : Func} {sl : Nat} (hr : fn.results = #[.cell sl 26]) {w w1 : World} {tmps : Array Value} {b : Nat} {x0 x1 x2 v : Value}
    (ho : Own3 w1 b) (hB : w.heap.size ≤ b) (hb : Below w.heap.size w w1)
    (h2 : tmps.getD sl undef = .pointer (some ⟨b, 0, none⟩)) (hv : v = .agg #[x0, x1, x2]) :
    bodyPost Tryd.prog fn (fun e w' => e = .returned v ∧ Below w.heap.size w w') .ret { tmps := tmps, defers := [] }
      (((w1.setCell ⟨b, 0, none⟩ x0).setCell ⟨b, 1, none⟩ x1).setCell ⟨b, 2, none⟩ x2) := by
  obtain ⟨⟨y0, y1, y2, c0, c1, c2⟩, f0, f1, f2, hl⟩ := ho
  refine bodyPost_ret (one_results hr (x0 := x0) (x1 := x1) (x2 := x2) h2 ?_ ?_ ?_) rfl ⟨by rw [hv], ?_⟩
  · go_simp
  · go_simp
  · go_simp
  · exact (((hb.setCell (p := ⟨b, 0, none⟩) hB _).setCell (p := ⟨b, 1, none⟩) hB _).setCell (p := ⟨b, 2, none⟩) hB _)

theorem Num_any (n : Int) (w : World) : Calls Tryd.prog 17 #[.int .i64 n] w fun e w' => e = .returned (.agg #[.int .i8 1, .int .i64 n, .string ⟨#[]⟩]) ∧ Below w.heap.size w w' := by
  have HO : Hid (Own3 (w.alloc (.cells #[.int .i8 0, .int .i64 0, .string ⟨#[]⟩] 26)) w.heap.size) := own3 (Below.refl _ _)
  go_enter Tryd.func17, Tryd.ntmps17
  go_wp2
  refine bodyPost_ret (one_results Tryd.results17 (b := w.heap.size) (x0 := .int .i8 1) (x1 := .int .i64 n) (x2 := .string ⟨#[]⟩) ?_ ?_ ?_ ?_) rfl ⟨rfl, ?_⟩
  · rfl
  · go_simp
  · go_simp
  · go_simp
  · exact (Below.refl _ _).alloc (Nat.le_refl _) _
theorem variable_any (s : ByteArray) (w : World) : Calls Tryd.prog 15 #[.string s] w fun e w' => e = .returned (.agg #[.string s, .int .i8 0, .int .i64 0, .string ⟨#[]⟩]) ∧ Below w.heap.size w w' := by
  go_enter Tryd.func15, Tryd.ntmps15
  go_wp2
  exact bodyPost_ret (v := .agg #[.string s, .int .i8 0, .int .i64 0, .string ⟨#[]⟩]) (by simp [results, Tryd.results15, go_sem]) rfl ⟨rfl, (Below.refl _ _).alloc (Nat.le_refl _) _⟩
theorem given_any (n : Int) (w : World) : Calls Tryd.prog 16 #[.int .i64 n] w fun e w' => e = .returned (.agg #[.string ⟨#[]⟩, .int .i8 1, .int .i64 n, .string ⟨#[]⟩]) ∧ Below w.heap.size w w' := by
  have HR : Hid (RL (w.alloc (.cells #[.string ⟨#[]⟩, .int .i8 0, .int .i64 0, .string ⟨#[]⟩] 28)) w.heap.size 28 [.string ⟨#[]⟩, .int .i8 0, .int .i64 0, .string ⟨#[]⟩]) := rl_new w #[.string ⟨#[]⟩, .int .i8 0, .int .i64 0, .string ⟨#[]⟩] 28
  have HB : Hid (Below w.heap.size w (w.alloc (.cells #[.string ⟨#[]⟩, .int .i8 0, .int .i64 0, .string ⟨#[]⟩] 28))) := (Below.refl _ _).alloc (Nat.le_refl _) _
  go_enter Tryd.func16, Tryd.ntmps16
  go_wp2_with fail
  refine (Num_any n _).mono ?_
  rintro e w1 ⟨rfl, b1⟩
  have h1 : RL w1 w.heap.size 28 _ := RL.below HR.out b1
  have B1 : Below w.heap.size w w1 := HB.out.trans (b1.mono HB.out.size)
  have c0 := h1.at (j := 0) rfl
  have c1 := h1.at (j := 1) rfl
  have c2 := h1.at (j := 2) rfl
  have c3 := h1.at (j := 3) rfl
  have f0 := World.rowIs.frozen h1 0
  have f1 := World.rowIs.frozen h1 1
  have f2 := World.rowIs.frozen h1 2
  have f3 := World.rowIs.frozen h1 3
  clear b1 HR HB
  have H1 : Hid (RL w1 w.heap.size 28 _) := h1
  have HB1 : Hid (Below w.heap.size w w1) := B1
  clear h1 B1
  go_wp2
  refine bodyPost_ret (v := .agg #[.string ⟨#[]⟩, .int .i8 1, .int .i64 n, .string ⟨#[]⟩]) (rl_results Tryd.results16 (b := w.heap.size) rfl (run_loadVar_mid _ _ 0 28 [.string ⟨#[]⟩, .int .i8 1, .int .i64 n, .string ⟨#[]⟩] _ (RL.range ((((H1.out.set 0 (.string ⟨#[]⟩)).set 1 (.int .i8 1)).set 2 (.int .i64 n)).set 3 (.string ⟨#[]⟩))) Tryd.underlying28 rfl (by kernel_rfl))) rfl ⟨rfl, ?_⟩
  exact (((HB1.out.setCell (p := ⟨w.heap.size, 0, none⟩) (by simp) _).setCell (p := ⟨w.heap.size, 1, none⟩) (by simp) _).setCell (p := ⟨w.heap.size, 2, none⟩) (by simp) _).setCell (p := ⟨w.heap.size, 3, none⟩) (by simp) _
def addE (t1 t2 : T) : E := .mk 2 T0 [.mk 0 t1 [], .mk 0 t2 []]
def lvA : List T := [⟨⟨#[88]⟩, V0⟩, ⟨blankS, V0⟩, ⟨noS, ⟨1, 5, noS⟩⟩]
def lvF (n : Int) : List V := [⟨1, 1, noS⟩, ⟨1, 2, noS⟩, ⟨1, n, noS⟩]
def lvP : ByteArray := ⟨#[112]⟩
theorem lv_atom : atomB lvP lvA = true := by decide +kernel
theorem lv_mat5 : mat [] lvA (lvF 5) = some [⟨⟨#[88]⟩, ⟨1, 1, noS⟩⟩] := by decide +kernel
theorem lv_mat6 : mat [] lvA (lvF 6) = none := by decide +kernel
theorem lv_wf : ∀ t ∈ lvA, t.wf := by
  intro t ht
  simp only [lvA, List.mem_cons, List.not_mem_nil, or_false] at ht
  rcases ht with rfl | rfl | rfl
  · exact ⟨by decide, ⟨by decide, by decide, by decide⟩⟩
  · exact ⟨by decide, ⟨by decide, by decide, by decide⟩⟩
  · exact ⟨by decide, ⟨by decide, by decide, by decide⟩⟩
theorem lvF_wf {n : Int} (h : n = 5 ∨ n = 6) : ∀ t ∈ lvF n, t.wf := by
  intro t ht
  simp only [lvF, List.mem_cons, List.not_mem_nil, or_false] at ht
  rcases ht with rfl | rfl | rfl
  · exact ⟨by decide, by decide, by decide⟩
  · exact ⟨by decide, by decide, by decide⟩
  · rcases h with rfl | rfl <;> exact ⟨by decide, by decide, by decide⟩
theorem ls_of_rl {w : World} {b n : Nat} {t : TypeId} {xs : List Value} (h : RL w b t xs) (hn : n ≤ maxLen) : Ls w (.slice (some ⟨b, 0, none⟩) n n) n xs :=
  ⟨hn, _, _, rfl, Nat.le_refl _, hn, fun _ => ⟨b, 0, rfl, World.rowIs.lt h, fun i hi => by rw [Nat.zero_add]; exact h.at (List.getElem?_eq_getElem hi)⟩⟩
def cA : List Value := [.string ⟨#[88]⟩, .int .i8 0, .int .i64 0, .string ⟨#[]⟩, .string ⟨#[95]⟩, .int .i8 0, .int .i64 0, .string ⟨#[]⟩, .string ⟨#[]⟩, .int .i8 1, .int .i64 5, .string ⟨#[]⟩]
def cF (n : Int) : List Value := [.int .i8 1, .int .i64 1, .string ⟨#[]⟩, .int .i8 1, .int .i64 2, .string ⟨#[]⟩, .int .i8 1, .int .i64 n, .string ⟨#[]⟩]
/-- what lives keeps: the atom and the fact, each with its list -/
structure LvS (w : World) (bA bF : Nat) (n : Int) (wc : World) : Prop where
  bel : Below w.heap.size w wc
  lo : w.heap.size ≤ bA ∧ bA + 1 < bF
  a : RL wc bA 28 cA
  a1 : RL wc (bA + 1) 55 [.string lvP, .slice (some ⟨bA, 0, none⟩) 3 3]
  f : RL wc bF 26 (cF n)
  f1 : RL wc (bF + 1) 58 [.string lvP, .slice (some ⟨bF, 0, none⟩) 3 3]
theorem LvS.next {w : World} {bA bF : Nat} {n : Int} {u v : World} (h : LvS w bA bF n u) (b : Below u.heap.size u v) : LvS w bA bF n v :=
  ⟨h.bel.trans (b.mono h.bel.size), h.lo, h.a.below b, h.a1.below b, h.f.below b, h.f1.below b⟩
theorem LvS.lt {w : World} {bA bF : Nat} {n : Int} {u : World} (h : LvS w bA bF n u) : Lt u (.slice (some ⟨bA, 0, none⟩) 3 3) lvA := ⟨ls_of_rl h.a (by decide), lv_wf⟩
theorem LvS.lv {w : World} {bA bF : Nat} {n : Int} {u : World} (h : LvS w bA bF n u) (hn : n = 5 ∨ n = 6) : Lv u (.slice (some ⟨bF, 0, none⟩) 3 3) (lvF n) := ⟨ls_of_rl h.f (by decide), lvF_wf hn⟩
theorem lv_next {wc u v : World} (h : Below wc.heap.size wc u) (b : Below u.heap.size u v) : Below wc.heap.size wc v := h.trans (b.mono h.size)
theorem leaf_is (w : World) (t : T) (ht : t.wf) : EIs w 1 (.mk 0 t []) none 0 := ⟨⟨⟨by show (-128 : Int) ≤ 0; omega, by show (0 : Int) ≤ 127; omega⟩, by show 0 ≤ 281474976710656; omega⟩, ht, Nat.le_refl _, by unfold maxLen; omega, fun h => absurd (show (0 : Nat) < 0 from h) (by omega)⟩
theorem ex_is {w : World} {b : Nat} {t1 t2 : T} (r : RL w b 31 [.int .i8 0, .string t1.v, .int .i8 t1.a.k, .int .i64 t1.a.n, .string t1.a.s, .slice none 0 0, .int .i8 0, .string t2.v, .int .i8 t2.a.k, .int .i64 t2.a.n, .string t2.a.s, .slice none 0 0]) (h1 : t1.wf) (h2 : t2.wf) : EIs w 2 (addE t1 t2) (some ⟨b, 0, none⟩) 2 := by
  refine ⟨⟨⟨by show (-128 : Int) ≤ 2; omega, by show (2 : Int) ≤ 127; omega⟩, by show 2 ≤ 281474976710656; omega⟩, T0.ok, Nat.le_refl _, by unfold maxLen; omega, fun _ => ⟨b, 0, rfl, World.rowIs.lt r, fun i hi => ?_⟩⟩
  have : i = 0 ∨ i = 1 := by have : i < 2 := hi; omega
  rcases this with rfl | rfl
  · exact ⟨none, 0, ⟨r.at (j := 0) rfl, r.at (j := 1) rfl, r.at (j := 2) rfl, r.at (j := 3) rfl, r.at (j := 4) rfl, r.at (j := 5) rfl⟩, leaf_is w t1 h1⟩
  · exact ⟨none, 0, ⟨r.at (j := 6) rfl, r.at (j := 7) rfl, r.at (j := 8) rfl, r.at (j := 9) rfl, r.at (j := 10) rfl, r.at (j := 11) rfl⟩, leaf_is w t2 h2⟩
theorem lv_eval : evalV [⟨⟨#[88]⟩, ⟨1, 1, noS⟩⟩] 2 (addE ⟨⟨#[88]⟩, V0⟩ ⟨noS, ⟨1, 2, noS⟩⟩) = some ⟨1, 3, noS⟩ := by decide +kernel
set_option maxHeartbeats 12800000 in
set_option maxRecDepth 100000 in
theorem lives_any (w : World) (ht : AR.Tab w) (hk : KT w) : Calls Tryd.prog 5 #[] w fun e w' => e = .returned (.bool true) ∧ Below w.heap.size w w' := by
  have HTK : Hid (∀ u, Below w.heap.size w u → AR.Tab u ∧ KT u) := fun u hu => ⟨ht.below hu, hk.below hu⟩
  clear ht hk
  go_enter Tryd.func5, Tryd.ntmps5
  go_wp2_with fail
  refine (variable_any _ _).mono ?_
  rintro e w1 ⟨rfl, b1⟩
  go_wp2_with fail
  refine (variable_any _ _).mono ?_
  rintro e w2 ⟨rfl, b2⟩
  go_wp2_with fail
  refine (given_any _ _).mono ?_
  rintro e w3 ⟨rfl, b3⟩
  have B3 : Hid (Below w.heap.size w w3) := b1.trans ((b2.mono b1.size).trans (b3.mono (Nat.le_trans b1.size b2.size)))
  clear b1 b2 b3
  have HA : Hid (RL ((w3.alloc (.cells #[.string ⟨#[88]⟩, .int .i8 0, .int .i64 0, .string ⟨#[]⟩, .string ⟨#[95]⟩, .int .i8 0, .int .i64 0, .string ⟨#[]⟩, .string ⟨#[]⟩, .int .i8 1, .int .i64 5, .string ⟨#[]⟩] 28)).alloc (.cells #[.string ⟨#[112]⟩, .slice (some ⟨w3.heap.size, 0, none⟩) 3 3] 55)) w3.heap.size 28 cA ∧ RL ((w3.alloc (.cells #[.string ⟨#[88]⟩, .int .i8 0, .int .i64 0, .string ⟨#[]⟩, .string ⟨#[95]⟩, .int .i8 0, .int .i64 0, .string ⟨#[]⟩, .string ⟨#[]⟩, .int .i8 1, .int .i64 5, .string ⟨#[]⟩] 28)).alloc (.cells #[.string ⟨#[112]⟩, .slice (some ⟨w3.heap.size, 0, none⟩) 3 3] 55)) (w3.heap.size + 1) 55 [.string lvP, .slice (some ⟨w3.heap.size, 0, none⟩) 3 3] ∧ Below w.heap.size w ((w3.alloc (.cells #[.string ⟨#[88]⟩, .int .i8 0, .int .i64 0, .string ⟨#[]⟩, .string ⟨#[95]⟩, .int .i8 0, .int .i64 0, .string ⟨#[]⟩, .string ⟨#[]⟩, .int .i8 1, .int .i64 5, .string ⟨#[]⟩] 28)).alloc (.cells #[.string ⟨#[112]⟩, .slice (some ⟨w3.heap.size, 0, none⟩) 3 3] 55)) ∧ w.heap.size ≤ w3.heap.size) := by
    have r0 := rl_new w3 #[.string ⟨#[88]⟩, .int .i8 0, .int .i64 0, .string ⟨#[]⟩, .string ⟨#[95]⟩, .int .i8 0, .int .i64 0, .string ⟨#[]⟩, .string ⟨#[]⟩, .int .i8 1, .int .i64 5, .string ⟨#[]⟩] 28
    have r1 := rl_new (w3.alloc (.cells #[.string ⟨#[88]⟩, .int .i8 0, .int .i64 0, .string ⟨#[]⟩, .string ⟨#[95]⟩, .int .i8 0, .int .i64 0, .string ⟨#[]⟩, .string ⟨#[]⟩, .int .i8 1, .int .i64 5, .string ⟨#[]⟩] 28)) #[.string ⟨#[112]⟩, .slice (some ⟨w3.heap.size, 0, none⟩) 3 3] 55
    rw [World.size_alloc] at r1
    exact ⟨r0.below ((Below.refl _ _).alloc (Nat.le_refl _) _), r1, (B3.out.alloc B3.out.size _).alloc (by have := B3.out.size; simp; omega) _, B3.out.size⟩
  go_upto_region 2 with fail
  generalize ((w3.alloc (.cells #[.string ⟨#[88]⟩, .int .i8 0, .int .i64 0, .string ⟨#[]⟩, .string ⟨#[95]⟩, .int .i8 0, .int .i64 0, .string ⟨#[]⟩, .string ⟨#[]⟩, .int .i8 1, .int .i64 5, .string ⟨#[]⟩] 28)).alloc (.cells #[.string ⟨#[112]⟩, .slice (some ⟨w3.heap.size, 0, none⟩) 3 3] 55)) = W4 at HA ⊢
  clear B3
  generalize w3.heap.size = bA at HA ⊢
  go_wp2_with fail
  refine (Num_any _ _).mono ?_
  rintro e w5 ⟨rfl, b5⟩
  go_wp2_with fail
  refine (Num_any _ _).mono ?_
  rintro e w6 ⟨rfl, b6⟩
  go_wp2_with fail
  refine (Num_any _ _).mono ?_
  rintro e w7 ⟨rfl, b7⟩
  have B7 : Hid (Below W4.heap.size W4 w7) := b5.trans ((b6.mono b5.size).trans (b7.mono (Nat.le_trans b5.size b6.size)))
  clear b5 b6 b7
  have HS8 : Hid (LvS w bA w7.heap.size 5 ((w7.alloc (.cells #[.int .i8 1, .int .i64 1, .string ⟨#[]⟩, .int .i8 1, .int .i64 2, .string ⟨#[]⟩, .int .i8 1, .int .i64 5, .string ⟨#[]⟩] 26)).alloc (.cells #[.string ⟨#[112]⟩, .slice (some ⟨w7.heap.size, 0, none⟩) 3 3] 58)) ∧ w7.heap.size + 2 ≤ (((w7.alloc (.cells #[.int .i8 1, .int .i64 1, .string ⟨#[]⟩, .int .i8 1, .int .i64 2, .string ⟨#[]⟩, .int .i8 1, .int .i64 5, .string ⟨#[]⟩] 26)).alloc (.cells #[.string ⟨#[112]⟩, .slice (some ⟨w7.heap.size, 0, none⟩) 3 3] 58))).heap.size) := by
    have r0 := rl_new w7 #[.int .i8 1, .int .i64 1, .string ⟨#[]⟩, .int .i8 1, .int .i64 2, .string ⟨#[]⟩, .int .i8 1, .int .i64 5, .string ⟨#[]⟩] 26
    have r1 := rl_new (w7.alloc (.cells #[.int .i8 1, .int .i64 1, .string ⟨#[]⟩, .int .i8 1, .int .i64 2, .string ⟨#[]⟩, .int .i8 1, .int .i64 5, .string ⟨#[]⟩] 26)) #[.string ⟨#[112]⟩, .slice (some ⟨w7.heap.size, 0, none⟩) 3 3] 58
    rw [World.size_alloc] at r1
    obtain ⟨p1, p2, p3, p4⟩ := HA.out
    have q : Below W4.heap.size W4 ((w7.alloc (.cells #[.int .i8 1, .int .i64 1, .string ⟨#[]⟩, .int .i8 1, .int .i64 2, .string ⟨#[]⟩, .int .i8 1, .int .i64 5, .string ⟨#[]⟩] 26)).alloc (.cells #[.string ⟨#[112]⟩, .slice (some ⟨w7.heap.size, 0, none⟩) 3 3] 58)) := (B7.out.alloc B7.out.size _).alloc (by have := B7.out.size; simp; omega) _
    have hlt : bA + 1 < W4.heap.size := World.rowIs.lt p2
    exact ⟨⟨p3.trans (q.mono p3.size), ⟨p4, Nat.lt_of_lt_of_le hlt B7.out.size⟩, p1.below q, p2.below q, r0.below ((Below.refl _ _).alloc (Nat.le_refl _) _), r1⟩, by simp⟩
  go_upto_region 3 with fail
  generalize ((w7.alloc (.cells #[.int .i8 1, .int .i64 1, .string ⟨#[]⟩, .int .i8 1, .int .i64 2, .string ⟨#[]⟩, .int .i8 1, .int .i64 5, .string ⟨#[]⟩] 26)).alloc (.cells #[.string ⟨#[112]⟩, .slice (some ⟨w7.heap.size, 0, none⟩) 3 3] 58)) = W8 at HS8 ⊢
  clear B7 HA
  generalize w7.heap.size = bF at HS8 ⊢
  have x0 := HS8.out.1.a1.at (j := 0) rfl
  have x1 := HS8.out.1.a1.at (j := 1) rfl
  have y0 := HS8.out.1.f1.at (j := 0) rfl
  have y1 := HS8.out.1.f1.at (j := 1) rfl
  have HM : Hid _ := match_yes lvP _ _ lvA (lvF 5) W8 (by decide) HS8.out.1.lt (HS8.out.1.lv (.inl rfl)) rfl lv_atom
  rw [lv_mat5] at HM
  go_wp2_with fail
  refine Calls.mono HM.out ?_
  rintro e w9 ⟨⟨sv, rfl, _, hs⟩, b9⟩
  obtain ⟨hown, hwf, _⟩ := hs _ rfl
  obtain ⟨a0, c0, rfl, _⟩ := own_form hown
  have HO9 : Hid (w9.ownsRow W8.heap.size 41 4 (.slice a0 1 c0) 1 (([⟨⟨#[88]⟩, ⟨1, 1, noS⟩⟩] : List B).flatMap B.cells)) := hown
  have HWF : Hid (∀ p ∈ ([⟨⟨#[88]⟩, ⟨1, 1, noS⟩⟩] : List B), p.wf) := hwf
  have HS9 : Hid (LvS w bA bF 5 w9 ∧ bF + 2 ≤ W8.heap.size) := ⟨HS8.out.1.next b9, HS8.out.2⟩
  clear hs hown hwf b9 HM x0 x1 y0 y1 HS8
  have y1 := HS9.out.1.f1.at (j := 1) rfl
  go_upto_region 4 with fail
  go_cut [4] from 25 to 28 (fun tt wc => tt = .bool true ∧ Hid (LvS w bA bF 6 wc ∧ wc.ownsRow W8.heap.size 41 4 (.slice a0 1 c0) 1 (([⟨⟨#[88]⟩, ⟨1, 1, noS⟩⟩] : List B).flatMap B.cells)))
  case first =>
    go_region_law (
      refine step_call rfl 17 Tryd.func17 (by kernel_rfl) (by kernel_rfl) #[.const (.int .i64 6)] _ rfl #[.int .i64 6] (by simp [Act.eval, Act.put]) (Num_any 6 _) ?_
      rintro ee wa ⟨rfl, ba⟩
      refine ⟨_, rfl, ?_⟩
      have HSa : Hid (LvS w bA bF 5 wa) := by first | exact (HS9.out.1.next (Below.refl _ _).drew).next ba | exact HS9.out.1.next ba
      have HOa : Hid (wa.ownsRow W8.heap.size 41 4 (.slice a0 1 c0) 1 (([⟨⟨#[88]⟩, ⟨1, 1, noS⟩⟩] : List B).flatMap B.cells)) := by first | exact own_below (own_below HO9.out (Below.refl _ _).drew) ba | exact own_below HO9.out ba
      have z1 := HSa.out.f1.at (j := 1) rfl
      have u6 := HSa.out.f.at (j := 6) rfl
      have u7 := HSa.out.f.at (j := 7) rfl
      have u8 := HSa.out.f.at (j := 8) rfl
      have g6 := World.rowIs.frozen HSa.out.f 6
      have g7 := World.rowIs.frozen HSa.out.f 7
      have g8 := World.rowIs.frozen HSa.out.f 8
      clear ba)
    all_goals
      go_wp2_with fail
      go_meet
      case rel =>
        refine ⟨rfl, ?_, ?_⟩
        · have hlo := HSa.out.lo
          have e : cF 6 = (((cF 5).set 6 (.int .i8 1)).set 7 (.int .i64 6)).set 8 (.string ⟨#[]⟩) := rfl
          refine ⟨((HSa.out.bel.setCell (p := ⟨bF, 6, none⟩) (by show _ ≤ bF; omega) _).setCell (p := ⟨bF, 7, none⟩) (by show _ ≤ bF; omega) _).setCell (p := ⟨bF, 8, none⟩) (by show _ ≤ bF; omega) _, hlo, ?_, ?_, ?_, ?_⟩
          · exact ((HSa.out.a.other (by omega) _).other (by omega) _).other (by omega) _
          · exact ((HSa.out.a1.other (by omega) _).other (by omega) _).other (by omega) _
          · rw [e]; exact ((HSa.out.f.set 6 _).set 7 _).set 8 _
          · exact ((HSa.out.f1.other (by omega) _).other (by omega) _).other (by omega) _
        · refine own_of_block HOa.out (fun g hg => ?_)
          have h1 := (HOa.out.lt g hg).1
          have h2 := HS9.out.2
          rw [heap_setCell_other _ _ _ _ (by show g ≠ bF; omega), heap_setCell_other _ _ _ _ (by show g ≠ bF; omega), heap_setCell_other _ _ _ _ (by show g ≠ bF; omega)]
  case rest =>
    obtain ⟨rfl, HSb⟩ := hcut
    clear HS9 HO9 y1
    have x0 := HSb.out.1.a1.at (j := 0) rfl
    have x1 := HSb.out.1.a1.at (j := 1) rfl
    have y0 := HSb.out.1.f1.at (j := 0) rfl
    have y1 := HSb.out.1.f1.at (j := 1) rfl
    have HM : Hid _ := match_yes lvP _ _ lvA (lvF 6) wc (by decide) HSb.out.1.lt (HSb.out.1.lv (.inr rfl)) rfl lv_atom
    rw [lv_mat6] at HM
    go_wp2_with fail
    refine Calls.mono HM.out ?_
    rintro e wd ⟨⟨sv, rfl, hsv, _⟩, bd⟩
    obtain rfl := hsv rfl
    have HSd : Hid (LvS w bA bF 6 wd ∧ Lb wd (.slice a0 1 c0) [⟨⟨#[88]⟩, ⟨1, 1, noS⟩⟩]) := ⟨HSb.out.1.next bd, ⟨(ls_own HSb.out.2).below bd, HWF.out⟩⟩
    clear bd HSb HM hsv x0 x1 y0 y1 HWF
    go_wp2_with fail
    refine (variable_any _ _).mono ?_
    rintro e we ⟨rfl, be⟩
    go_wp2_with fail
    refine (given_any _ _).mono ?_
    rintro e wf ⟨rfl, bf⟩
    have BF : Below wd.heap.size wd wf := be.trans (bf.mono be.size)
    have HSf : Hid (LvS w bA bF 6 wf ∧ Lb wf (.slice a0 1 c0) [⟨⟨#[88]⟩, ⟨1, 1, noS⟩⟩]) := ⟨HSd.out.1.next BF, HSd.out.2.below BF⟩
    clear be bf BF HSd
    have hal : Below wf.heap.size wf (wf.alloc (.cells #[.int .i8 0, .string ⟨#[88]⟩, .int .i8 0, .int .i64 0, .string ⟨#[]⟩, .slice none 0 0, .int .i8 0, .string ⟨#[]⟩, .int .i8 1, .int .i64 2, .string ⟨#[]⟩, .slice none 0 0] 31)) := (Below.refl _ _).alloc (Nat.le_refl _) _
    have HSg : Hid (LvS w bA bF 6 (wf.alloc (.cells #[.int .i8 0, .string ⟨#[88]⟩, .int .i8 0, .int .i64 0, .string ⟨#[]⟩, .slice none 0 0, .int .i8 0, .string ⟨#[]⟩, .int .i8 1, .int .i64 2, .string ⟨#[]⟩, .slice none 0 0] 31)) ∧ Lb (wf.alloc (.cells #[.int .i8 0, .string ⟨#[88]⟩, .int .i8 0, .int .i64 0, .string ⟨#[]⟩, .slice none 0 0, .int .i8 0, .string ⟨#[]⟩, .int .i8 1, .int .i64 2, .string ⟨#[]⟩, .slice none 0 0] 31)) (.slice a0 1 c0) [⟨⟨#[88]⟩, ⟨1, 1, noS⟩⟩]) := ⟨HSf.out.1.next hal, HSf.out.2.below hal⟩
    have HEv : Hid (Calls Tryd.prog 6 #[.agg #[.int .i8 2, .string ⟨#[]⟩, .int .i8 0, .int .i64 0, .string ⟨#[]⟩, .slice (some ⟨wf.heap.size, 0, none⟩) 2 2], .slice a0 1 c0] (wf.alloc (.cells #[.int .i8 0, .string ⟨#[88]⟩, .int .i8 0, .int .i64 0, .string ⟨#[]⟩, .slice none 0 0, .int .i8 0, .string ⟨#[]⟩, .int .i8 1, .int .i64 2, .string ⟨#[]⟩, .slice none 0 0] 31)) fun e w' => e = .returned (.tuple #[.agg #[.int .i8 1, .int .i64 3, .string ⟨#[]⟩], .bool true]) ∧ Below (wf.alloc (.cells #[.int .i8 0, .string ⟨#[88]⟩, .int .i8 0, .int .i64 0, .string ⟨#[]⟩, .slice none 0 0, .int .i8 0, .string ⟨#[]⟩, .int .i8 1, .int .i64 2, .string ⟨#[]⟩, .slice none 0 0] 31)).heap.size (wf.alloc (.cells #[.int .i8 0, .string ⟨#[88]⟩, .int .i8 0, .int .i64 0, .string ⟨#[]⟩, .slice none 0 0, .int .i8 0, .string ⟨#[]⟩, .int .i8 1, .int .i64 2, .string ⟨#[]⟩, .slice none 0 0] 31)) w') := by
      have r := rl_new wf #[.int .i8 0, .string ⟨#[88]⟩, .int .i8 0, .int .i64 0, .string ⟨#[]⟩, .slice none 0 0, .int .i8 0, .string ⟨#[]⟩, .int .i8 1, .int .i64 2, .string ⟨#[]⟩, .slice none 0 0] 31
      have hh := HTK.out _ HSg.out.1.bel
      have := eval_any 2 (addE ⟨⟨#[88]⟩, V0⟩ ⟨noS, ⟨1, 2, noS⟩⟩) (some ⟨wf.heap.size, 0, none⟩) 2 (.slice a0 1 c0) [⟨⟨#[88]⟩, ⟨1, 1, noS⟩⟩] _ HSg.out.2.wf hh.2 hh.1 (ex_is (t1 := ⟨⟨#[88]⟩, V0⟩) (t2 := ⟨noS, ⟨1, 2, noS⟩⟩) r ⟨by decide, ⟨by decide, by decide, by decide⟩⟩ ⟨by decide, ⟨by decide, by decide, by decide⟩⟩) HSg.out.2
      rw [lv_eval] at this
      exact this
    clear HSf hal
    go_wp2_with fail
    refine Calls.mono HEv.out ?_
    rintro e wh ⟨rfl, bh⟩
    have HSh : Hid (LvS w bA bF 6 wh) := HSg.out.1.next bh
    clear HEv HSg bh
    go_upto_region 7 with fail
    have HSi : Hid (LvS w bA bF 6 (wh.alloc (.cells #[.int .i8 1, .int .i64 3, .string ⟨#[]⟩] 26))) := HSh.out.next ((Below.refl _ _).alloc (Nat.le_refl _) _)
    have HRv : Hid (RL (wh.alloc (.cells #[.int .i8 1, .int .i64 3, .string ⟨#[]⟩] 26)) wh.heap.size 26 [.int .i8 1, .int .i64 3, .string ⟨#[]⟩]) := rl_new wh #[.int .i8 1, .int .i64 3, .string ⟨#[]⟩] 26
    generalize wh.alloc (.cells #[.int .i8 1, .int .i64 3, .string ⟨#[]⟩] 26) = Wi at HSi HRv ⊢
    generalize wh.heap.size = bV at HRv ⊢
    clear HSh
    have HC : Hid (∀ u, Below Wi.heap.size Wi u → LvS w bA bF 6 u ∧ (u.cell? ⟨bV, 0, none⟩ = some (.int .i8 1) ∧ u.cell? ⟨bV, 1, none⟩ = some (.int .i64 3) ∧ u.cell? ⟨bV, 2, none⟩ = some (.string ⟨#[]⟩)) ∧ (u.cell? ⟨bA + 1, 0, none⟩ = some (.string lvP) ∧ u.cell? ⟨bA + 1, 1, none⟩ = some (.slice (some ⟨bA, 0, none⟩) 3 3))) := fun u hu => ⟨HSi.out.next hu, ⟨(RL.below HRv.out hu).at (j := 0) rfl, (RL.below HRv.out hu).at (j := 1) rfl, (RL.below HRv.out hu).at (j := 2) rfl⟩, (HSi.out.next hu).a1.at (j := 0) rfl, (HSi.out.next hu).a1.at (j := 1) rfl⟩
    have HCA : Hid (∀ u, Below Wi.heap.size Wi u → Calls Tryd.prog 19 #[.agg #[.string lvP, .slice (some ⟨bA, 0, none⟩) 3 3]] u fun e w' => e = .returned (.int .i64 0) ∧ Below u.heap.size u w') := fun u hu => by
      have := checkAtom_any lvP _ lvA u (by decide) (HSi.out.next hu).lt
      rw [lv_atom] at this
      exact this
    have HF : Hid (∀ u, Below Wi.heap.size Wi u → Below w.heap.size w u) := fun u hu => HSi.out.bel.trans (hu.mono HSi.out.bel.size)
    have bel : Below Wi.heap.size Wi Wi := Below.refl _ _
    have hS0 := HC.out _ bel
    clear HSi HRv HTK
    go_region_held3 (fun u => (Below Wi.heap.size Wi u) ∧ (u.cell? ⟨bV, 0, none⟩ = some (.int .i8 1) ∧ u.cell? ⟨bV, 1, none⟩ = some (.int .i64 3) ∧ u.cell? ⟨bV, 2, none⟩ = some (.string ⟨#[]⟩)) ∧ (u.cell? ⟨bA + 1, 0, none⟩ = some (.string lvP) ∧ u.cell? ⟨bA + 1, 1, none⟩ = some (.slice (some ⟨bA, 0, none⟩) 3 3)))
      (first
        | assumption
        | exact ⟨bel.drew, (HC.out _ bel.drew).2⟩
        | exact ⟨(by assumption), (HC.out _ (by assumption)).2⟩)
      (first
        | (go_at_call 17; refine (Num_any 3 _).mono ?_; rintro ee w2 ⟨rfl, b2⟩; have b2' : Below Wi.heap.size Wi w2 := lv_next (by first | assumption | exact bel.drew) b2)
        | (go_at_call 19; refine Calls.mono (HCA.out _ (by first | assumption | exact bel.drew)) ?_; rintro ee w3 ⟨rfl, b3⟩; have b3' : Below Wi.heap.size Wi w3 := lv_next (by first | assumption | exact bel.drew) b3)
        | fail)
    all_goals
      go_wp2
      go_ret
      exact ⟨rfl, HF.out _ (by first | assumption | exact bel.drew)⟩
open Go.RowKit Go.Maps
set_option linter.unusedVariables false
set_option linter.unusedSimpArgs false
attribute [local go_sem ↓] Go.wp_at_zero Go.wp_at_succ

theorem infoBd : (Tryd.prog.info? 41).map (fun i => (i.zero, i.size, i.bytes)) = some (some (.agg #[.string ⟨#[]⟩, .int .i8 0, .int .i64 0, .string ⟨#[]⟩]), 4, 48) := by kernel_rfl
theorem cellsB_len (ts : List B) : (ts.flatMap B.cells).length = ts.length * 4 := flat_len B.cells 4 (fun _ => rfl) ts
theorem cellsB_one (ts : List B) : ∀ u ∈ ts.flatMap B.cells, u.oneCell' = true := by
  intro u hu
  rw [List.mem_flatMap] at hu
  obtain ⟨t, _, ht⟩ := hu
  simp [B.cells] at ht
  rcases ht with rfl | rfl | rfl | rfl <;> rfl
theorem own_lb {w : World} {b : Nat} {v : Value} {l : List B} (h : w.ownsRow b 41 4 v l.length (l.flatMap B.cells)) (hw : ∀ x ∈ l, x.wf) : Lb w v l := ⟨ls_own h, hw⟩
/-- append(x, y...) of binds, x a row of the call's own, y any list -/
theorem run_appB {w : World} {b : Nat} {v : Value} {n : Nat} {xs : List Value} (ty : TypeId) (hown : w.ownsRow b 41 4 v n xs) {a : Option Addr} {c : Nat} {ts : List B} (hl : Lb w (.slice a ts.length c) ts) (h1 : n + ts.length ≤ 4294967296) (hb : b ≤ w.heap.size) :
    ∃ v' w', (Builtin.append_ #[32, 32] ty #[v, .slice a ts.length c]).run Tryd.prog w = .ok v' w' ∧ w'.ownsRow b 41 4 v' (n + ts.length) (xs ++ ts.flatMap B.cells) ∧ w.grownBy w' v.ownBlock ∧ (v'.ownBlock = v.ownBlock ∨ v'.ownBlock = some w.heap.size) := by
  obtain ⟨i0, hi0, hz0, hz1, hz2⟩ := info_parts infoBd
  cases ts with
  | nil =>
    have hv : ∃ ba sc, v = .slice ba n sc ∧ n ≤ sc := by
      rcases hown.2 with ⟨rfl, rfl⟩ | ⟨g, cap, cur, rfl, _, _, hnc, _, _, _⟩
      · exact ⟨none, 0, rfl, Nat.le_refl _⟩
      · exact ⟨_, _, rfl, hnc⟩
    obtain ⟨ba, sc, rfl, hsc⟩ := hv
    refine ⟨_, _, run_append_nothing w _ _ ty _ i0 Tryd.underlying32 hi0 ba n sc hsc _ ⟨.inl ⟨_, Tryd.underlying32⟩, by intro w'; cases a <;> simp [Builtin.lenOf], by cases a <;> simp [Builtin.firstCells, loadCells, loadCellsFrom], by cases a <;> simp [Builtin.firstCells, loadCells, loadCellsFrom], by simp, by simp⟩, ?_, ⟨rfl, rfl, rfl, Nat.le_refl _, fun _ _ _ => rfl⟩, .inl rfl⟩
    simpa using hown
  | cons t r =>
    obtain ⟨hn, a', c', hv, _, _, hc⟩ := hl.lies
    cases hv
    obtain ⟨g, off, rfl, _, hf⟩ := hc (by simp)
    obtain ⟨v', w', e1, e2, e3, _, e5⟩ := run_append_own_at (P := Tryd.prog) w b 32 ty 41 i0 _ 4 48 Tryd.underlying32 hi0 hz0 hz1 hz2 rfl (by decide) v n xs hown ⟨g, off, none⟩ (t :: r).length c ((t :: r).flatMap B.cells) (cellsB_len _) (fun j u hu => by
      obtain ⟨hj, he⟩ := List.getElem?_eq_some_iff.1 hu
      have := hf j hj
      rw [he] at this
      rw [show (⟨g, off, none⟩ : Addr).add j = ⟨g, off + j, none⟩ from by simp [Addr.add]]
      exact this) (cellsB_one _) (by unfold maxLen; omega) (by omega) hb
    exact ⟨v', w', e1, e2, e3, e5⟩
theorem wpList_appB {ops : Array Oper} {rest : List Oper} {o : Oper} {a : Act} {w : World} {Q : Exit → Act → World → Prop} (hgd : o.guard = none) (s x : Operand)
    (hop : o.op = Op.call { callee := Callee.builtin Builtin.append, args := #[s, x], argTypes := #[32, 32] })
    {b : Nat} {v : Value} {n : Nat} {xs : List Value} (hs : a.eval s = v) (hown : w.ownsRow b 41 4 v n xs)
    {ad : Option Addr} {c : Nat} {ts : List B} (hx : a.eval x = .slice ad ts.length c) (hl : Lb w (.slice ad ts.length c) ts) (h1 : n + ts.length ≤ 4294967296) (hb : b ≤ w.heap.size)
    (h : ∀ v' w', w'.ownsRow b 41 4 v' (n + ts.length) (xs ++ ts.flatMap B.cells) → w.grownBy w' v.ownBlock → (v'.ownBlock = v.ownBlock ∨ v'.ownBlock = some w.heap.size) → wpList Tryd.prog ops Q rest (a.put o.dst v') w') :
    wpList Tryd.prog ops Q (o :: rest) a w := by
  refine wpList_plain hgd fun KK hK => ?_
  obtain ⟨v', w', hr, r1, r2, r3⟩ := run_appB (c := c) o.type hown hl h1 hb
  unfold Oper.wp execOp
  simp only [hop, resolve, invoke, builtin, Sem.run_bind, Sem.run_pure, Result.andThen_ok, List.map_toArray, List.map_cons, List.map_nil, hs, hx, hr]
  exact hK _ _ (h v' w' r1 r2 r3)
end Go.Proofs.YtkgoceomkkohmaaDoor
