import Derived.Test.YtgplipfebnigiaaGreatDoorG28
import Derived.Deep.RegionHeld3
import Derived.Test.YtgplipfebnigiaaGreatDoorG27
section
namespace Go.Proofs.YtgplipfebnigiaaGreatDoor
open Go.RowKit Go.Maps
set_option linter.unusedVariables false
set_option linter.unusedSimpArgs false
attribute [local go_sem ↓] Go.wp_at_zero Go.wp_at_succ
attribute [-go_sem] loadVar storeVar

/-- a literal whose lists lie in blocks from lo on, but for those of ex: it stays while these stay -/
def Frl (lo : Nat) (wr : World) (ex : Nat → Prop) (d : Nat) (x : Lit4) (p : LP) : Prop :=
  ∀ w'' : World, wr.heap.size ≤ w''.heap.size → (∀ k, lo ≤ k → k < wr.heap.size → ¬ ex k → w''.heap[k]? = wr.heap[k]?) → LIs w'' d x p
theorem Frl.is {lo : Nat} {wr : World} {ex : Nat → Prop} {d : Nat} {x : Lit4} {p : LP} (h : Frl lo wr ex d x p) : LIs wr d x p := h wr (Nat.le_refl _) (fun _ _ _ _ => rfl)
theorem Frl.keep {lo : Nat} {wr wr' : World} {ex ex' : Nat → Prop} {d : Nat} {x : Lit4} {p : LP} (h : Frl lo wr ex d x p) (hs : wr.heap.size ≤ wr'.heap.size) (hag : ∀ k, lo ≤ k → k < wr.heap.size → ¬ ex k → wr'.heap[k]? = wr.heap[k]?) (hex : ∀ k, k < wr.heap.size → ex' k → ex k) : Frl lo wr' ex' d x p :=
  fun w'' h1 h2 => h w'' (Nat.le_trans hs h1) (fun k k1 k2 k3 => (h2 k k1 (Nat.lt_of_lt_of_le k2 hs) (fun e => k3 (hex k k2 e))).trans (hag k k1 k2 k3))
theorem Frl.lower {lo lo' : Nat} {wr : World} {ex ex' : Nat → Prop} {d : Nat} {x : Lit4} {p : LP} (h : Frl lo wr ex d x p) (hl : lo' ≤ lo) (hex : ∀ k, lo ≤ k → k < wr.heap.size → ex' k → ex k) : Frl lo' wr ex' d x p :=
  fun w'' h1 h2 => h w'' h1 (fun k k1 k2 k3 => h2 k (Nat.le_trans hl k1) k2 (fun e => k3 (hex k k1 k2 e)))
/-- a literal's box and the result's, below all else -/
structure BzL (w : World) (R : List Value) (u : World) : Prop where
  bel : Below w.heap.size w u
  box : RL u w.heap.size 89 R
  res : ∃ Z : List Value, Z.length = 16 ∧ RL u (w.heap.size + 1) 89 Z
theorem BzL.next {w : World} {R : List Value} {u v : World} (h : BzL w R u) (b : Below u.heap.size u v) : BzL w R v := by
  obtain ⟨Z, hz, hr⟩ := h.res
  exact ⟨h.bel.trans (b.mono h.bel.size), h.box.below b, Z, hz, hr.below b⟩
theorem BzL.sz {w : World} {R : List Value} {u : World} (h : BzL w R u) : w.heap.size + 2 ≤ u.heap.size := by
  obtain ⟨Z, hz, hr⟩ := h.res
  exact World.rowIs.lt hr
theorem BzL.drew {w : World} {R : List Value} {u : World} (h : BzL w R u) : BzL w R u.drew := h.next (Below.refl _ _).drew
theorem BzL.put {w : World} {R : List Value} {u : World} (h : BzL w R u) (l : List Value) (hl : l.length = 16) : BzL w R (u.setCells (w.heap.size + 1) 0 l) := by
  obtain ⟨Z, hz, hr⟩ := h.res
  exact ⟨below_setCells (by omega) _ _ _ h.bel, World.rowIs.of_block h.box (heap_setCells_other (by omega) _ _ _), l, hl, rl_setAll hr l (by omega)⟩
theorem next_ofA {wc u v : World} (h : Below wc.heap.size wc u) (b : Below u.heap.size u v) : Below wc.heap.size wc v := h.trans (b.mono h.size)
set_option maxHeartbeats 6400000 in
set_option maxRecDepth 100000 in
theorem rApplyLiteral_any (ps : List P) (d : Nat) (x : Lit4) (p : LP) (sv : Value) (w : World) (hX : LIs w d x p) (hsm : smallL d x) (hp : Lp w sv ps) :
    Calls Tryz.prog 53 #[sv, x.val p] w fun q w' => ∃ p', q = .returned ((apL (putT ps) d x).val p') ∧ Below w.heap.size w w' ∧ Frl w.heap.size w' (fun _ => False) d (apL (putT ps) d x) p' := by
  obtain ⟨a0, c0, rfl, _, _, _⟩ := hp.form
  have hA1 := belowA (w := w) (.cells #[.int .i8 x.k, .string x.pr, .slice p.a x.ts.length p.c, .int .i8 x.rel, .int .i8 x.l.op, .string x.l.t.v, .int .i8 x.l.t.a.k, .int .i64 x.l.t.a.n, .string x.l.t.a.s, .slice p.la x.l.kids.length p.lc, .int .i8 x.r.op, .string x.r.t.v, .int .i8 x.r.t.a.k, .int .i64 x.r.t.a.n, .string x.r.t.a.s, .slice p.ra x.r.kids.length p.rc] 89)
  have hA2 := belowA (w := w.alloc (.cells #[.int .i8 x.k, .string x.pr, .slice p.a x.ts.length p.c, .int .i8 x.rel, .int .i8 x.l.op, .string x.l.t.v, .int .i8 x.l.t.a.k, .int .i64 x.l.t.a.n, .string x.l.t.a.s, .slice p.la x.l.kids.length p.lc, .int .i8 x.r.op, .string x.r.t.v, .int .i8 x.r.t.a.k, .int .i64 x.r.t.a.n, .string x.r.t.a.s, .slice p.ra x.r.kids.length p.rc] 89)) (.cells #[.int .i8 0, .string ⟨#[]⟩, .slice none 0 0, .int .i8 0, .int .i8 0, .string ⟨#[]⟩, .int .i8 0, .int .i64 0, .string ⟨#[]⟩, .slice none 0 0, .int .i8 0, .string ⟨#[]⟩, .int .i8 0, .int .i64 0, .string ⟨#[]⟩, .slice none 0 0] 89)
  have HB0 := Lib.hid (hA1.trans (hA2.mono hA1.size))
  have HR0 := Lib.hid ((rl_new w #[.int .i8 x.k, .string x.pr, .slice p.a x.ts.length p.c, .int .i8 x.rel, .int .i8 x.l.op, .string x.l.t.v, .int .i8 x.l.t.a.k, .int .i64 x.l.t.a.n, .string x.l.t.a.s, .slice p.la x.l.kids.length p.lc, .int .i8 x.r.op, .string x.r.t.v, .int .i8 x.r.t.a.k, .int .i64 x.r.t.a.n, .string x.r.t.a.s, .slice p.ra x.r.kids.length p.rc] 89).below hA2)
  have hR1 := rl_new (w.alloc (.cells #[.int .i8 x.k, .string x.pr, .slice p.a x.ts.length p.c, .int .i8 x.rel, .int .i8 x.l.op, .string x.l.t.v, .int .i8 x.l.t.a.k, .int .i64 x.l.t.a.n, .string x.l.t.a.s, .slice p.la x.l.kids.length p.lc, .int .i8 x.r.op, .string x.r.t.v, .int .i8 x.r.t.a.k, .int .i64 x.r.t.a.n, .string x.r.t.a.s, .slice p.ra x.r.kids.length p.rc] 89)) #[.int .i8 0, .string ⟨#[]⟩, .slice none 0 0, .int .i8 0, .int .i8 0, .string ⟨#[]⟩, .int .i8 0, .int .i64 0, .string ⟨#[]⟩, .slice none 0 0, .int .i8 0, .string ⟨#[]⟩, .int .i8 0, .int .i64 0, .string ⟨#[]⟩, .slice none 0 0] 89
  rw [World.size_alloc] at hR1
  have HR1 := Lib.hid hR1
  have HSZ : Hid (((w.alloc (.cells #[.int .i8 x.k, .string x.pr, .slice p.a x.ts.length p.c, .int .i8 x.rel, .int .i8 x.l.op, .string x.l.t.v, .int .i8 x.l.t.a.k, .int .i64 x.l.t.a.n, .string x.l.t.a.s, .slice p.la x.l.kids.length p.lc, .int .i8 x.r.op, .string x.r.t.v, .int .i8 x.r.t.a.k, .int .i64 x.r.t.a.n, .string x.r.t.a.s, .slice p.ra x.r.kids.length p.rc] 89)).alloc (.cells #[.int .i8 0, .string ⟨#[]⟩, .slice none 0 0, .int .i8 0, .int .i8 0, .string ⟨#[]⟩, .int .i8 0, .int .i64 0, .string ⟨#[]⟩, .slice none 0 0, .int .i8 0, .string ⟨#[]⟩, .int .i8 0, .int .i64 0, .string ⟨#[]⟩, .slice none 0 0] 89)).heap.size = w.heap.size + 2) := by show _ = _; simp
  have HLP := Lib.hid hp
  have HX := Lib.hid hX
  have HSM := Lib.hid hsm
  have HRES : Hid (apL (putT ps) d x = ⟨x.k, x.pr, x.ts.map (putT ps), x.rel, apD (putT ps) d x.l, apD (putT ps) d x.r⟩) := rfl
  rw [HRES.out]
  have HPOS : Hid (d ≠ 0) := fun e => by subst e; exact hX.l
  clear hA1 hA2 hR1 hp hX hsm
  unfold Lit4.val
  have hagg := @loadVar.eq_1
  go_enter Tryz.func53, Tryz.ntmps53
  go_upto_region 1 with fail
  clear hagg
  generalize (w.alloc (.cells #[.int .i8 x.k, .string x.pr, .slice p.a x.ts.length p.c, .int .i8 x.rel, .int .i8 x.l.op, .string x.l.t.v, .int .i8 x.l.t.a.k, .int .i64 x.l.t.a.n, .string x.l.t.a.s, .slice p.la x.l.kids.length p.lc, .int .i8 x.r.op, .string x.r.t.v, .int .i8 x.r.t.a.k, .int .i64 x.r.t.a.n, .string x.r.t.a.s, .slice p.ra x.r.kids.length p.rc] 89)).alloc (.cells #[.int .i8 0, .string ⟨#[]⟩, .slice none 0 0, .int .i8 0, .int .i8 0, .string ⟨#[]⟩, .int .i8 0, .int .i64 0, .string ⟨#[]⟩, .slice none 0 0, .int .i8 0, .string ⟨#[]⟩, .int .i8 0, .int .i64 0, .string ⟨#[]⟩, .slice none 0 0] 89) = W at HB0 HR0 HR1 HSZ ⊢
  obtain ⟨BR, hBR⟩ : ∃ BR : List Value, BR = [.int .i8 x.k, .string x.pr, .slice p.a x.ts.length p.c, .int .i8 x.rel, .int .i8 x.l.op, .string x.l.t.v, .int .i8 x.l.t.a.k, .int .i64 x.l.t.a.n, .string x.l.t.a.s, .slice p.la x.l.kids.length p.lc, .int .i8 x.r.op, .string x.r.t.v, .int .i8 x.r.t.a.k, .int .i64 x.r.t.a.n, .string x.r.t.a.s, .slice p.ra x.r.kids.length p.rc] := ⟨_, rfl⟩
  have HBR := Lib.hid hBR
  have HS0 : BzL w BR W := ⟨HB0.out, by rw [hBR]; exact HR0.out, _, rfl, HR1.out⟩
  clear hBR
  have HBX : ∀ u, BzL w BR u → RL u w.heap.size 89 [.int .i8 x.k, .string x.pr, .slice p.a x.ts.length p.c, .int .i8 x.rel, .int .i8 x.l.op, .string x.l.t.v, .int .i8 x.l.t.a.k, .int .i64 x.l.t.a.n, .string x.l.t.a.s, .slice p.la x.l.kids.length p.lc, .int .i8 x.r.op, .string x.r.t.v, .int .i8 x.r.t.a.k, .int .i64 x.r.t.a.n, .string x.r.t.a.s, .slice p.ra x.r.kids.length p.rc] := fun u hu => by rw [← HBR.out]; exact hu.box
  have HC1 : Hid (∀ u, BzL w BR u → Calls Tryz.prog 90 #[.slice a0 ps.length c0, .agg #[.string x.pr, .slice p.a x.ts.length p.c]] u fun e w' => ∃ a c, e = .returned (.agg #[.string x.pr, .slice a x.ts.length c]) ∧ Lt w' (.slice a x.ts.length c) (x.ts.map (putT ps)) ∧ Below u.heap.size u w' ∧ w'.ownsRow (w.heap.size + 2) 46 4 (.slice a x.ts.length c) x.ts.length ((x.ts.map (putT ps)).flatMap T.cells)) := fun u hu => by
    have bu := hu.bel
    refine (rApply_any _ ps x.pr _ x.ts u (HLP.out.below bu) (HX.out.ts.below bu) HSM.out.1).mono ?_
    rintro e w' ⟨a, c, h1, h2, h3, h4⟩
    exact ⟨a, c, h1, h2, h3, own_low h4 hu.sz⟩
  have HC2 : Hid (∀ u, BzL w BR u → Calls Tryz.prog 91 #[.slice a0 ps.length c0, x.l.val p.la p.lc] u fun q w' => ∃ a' c', q = .returned ((apD (putT ps) d x.l).val a' c') ∧ Below u.heap.size u w' ∧ Frs (w.heap.size + 2) w' (fun _ => False) d (apD (putT ps) d x.l) a' c') := fun u hu => by
    have bu := hu.bel
    refine (rApplyExpr_any ps d _ _ _ _ u (HX.out.l.below bu) HSM.out.2.1.1 (HLP.out.below bu)).mono ?_
    rintro e w' ⟨a, c, h1, h3, h4⟩
    exact ⟨a, c, h1, h3, h4.lower hu.sz (fun _ _ _ h => h)⟩
  have HC3 : Hid (∀ u, BzL w BR u → Calls Tryz.prog 91 #[.slice a0 ps.length c0, x.r.val p.ra p.rc] u fun q w' => ∃ a' c', q = .returned ((apD (putT ps) d x.r).val a' c') ∧ Below u.heap.size u w' ∧ Frs (w.heap.size + 2) w' (fun _ => False) d (apD (putT ps) d x.r) a' c') := fun u hu => by
    have bu := hu.bel
    refine (rApplyExpr_any ps d _ _ _ _ u (HX.out.r.below bu) HSM.out.2.2.1 (HLP.out.below bu)).mono ?_
    rintro e w' ⟨a, c, h1, h3, h4⟩
    exact ⟨a, c, h1, h3, h4.lower hu.sz (fun _ _ _ h => h)⟩
  have HG0 : Hid (∀ u, BzL w BR u → (loadVar 86 ⟨w.heap.size, 0, none⟩).run Tryz.prog u = .ok (.int .i8 x.k) u) := fun u hu => by
    have h0 := ((HBX u hu)).at (j := 0) rfl
    rw [loadVar.eq_1]
    go_simp
  have HG1 : Hid (∀ u, BzL w BR u → (loadVar 61 ⟨w.heap.size, 1, none⟩).run Tryz.prog u = .ok (.agg #[.string x.pr, .slice p.a x.ts.length p.c]) u) := fun u hu => run_loadVar_mid u w.heap.size 1 61 [.string x.pr, .slice p.a x.ts.length p.c] _ (fun j v hv => ((HBX u hu)).at (j := 1 + j) (by
    have hj : j < 2 := (List.getElem?_eq_some_iff.1 hv).1
    obtain rfl | rfl : j = 0 ∨ j = 1 := by omega
    · exact hv
    · exact hv)) Tryz.underlying61 rfl (by kernel_rfl)
  have HG2 : Hid (∀ u, BzL w BR u → (loadVar 87 ⟨w.heap.size, 3, none⟩).run Tryz.prog u = .ok (.int .i8 x.rel) u) := fun u hu => by
    have h0 := ((HBX u hu)).at (j := 3) rfl
    rw [loadVar.eq_1]
    go_simp
  have HG3 : Hid (∀ u, BzL w BR u → (loadVar 74 ⟨w.heap.size, 4, none⟩).run Tryz.prog u = .ok (x.l.val p.la p.lc) u) := fun u hu => run_loadVar_mid u w.heap.size 4 74 [.int .i8 x.l.op, .string x.l.t.v, .int .i8 x.l.t.a.k, .int .i64 x.l.t.a.n, .string x.l.t.a.s, .slice p.la x.l.kids.length p.lc] _ (fun j v hv => ((HBX u hu)).at (j := 4 + j) (by
    have hj : j < 6 := (List.getElem?_eq_some_iff.1 hv).1
    obtain rfl | rfl | rfl | rfl | rfl | rfl : j = 0 ∨ j = 1 ∨ j = 2 ∨ j = 3 ∨ j = 4 ∨ j = 5 := by omega
    all_goals exact hv)) Tryz.underlying74 rfl (by kernel_rfl)
  have HG4 : Hid (∀ u, BzL w BR u → (loadVar 74 ⟨w.heap.size, 10, none⟩).run Tryz.prog u = .ok (x.r.val p.ra p.rc) u) := fun u hu => run_loadVar_mid u w.heap.size 10 74 [.int .i8 x.r.op, .string x.r.t.v, .int .i8 x.r.t.a.k, .int .i64 x.r.t.a.n, .string x.r.t.a.s, .slice p.ra x.r.kids.length p.rc] _ (fun j v hv => ((HBX u hu)).at (j := 10 + j) (by
    have hj : j < 6 := (List.getElem?_eq_some_iff.1 hv).1
    obtain rfl | rfl | rfl | rfl | rfl | rfl : j = 0 ∨ j = 1 ∨ j = 2 ∨ j = 3 ∨ j = 4 ∨ j = 5 := by omega
    all_goals exact hv)) Tryz.underlying74 rfl (by kernel_rfl)
  have g0 := HG0.out
  have g1 := HG1.out
  have g2 := HG2.out
  have g3 := HG3.out
  have g4 := HG4.out
  have HWFT : Hid (∀ t ∈ x.ts.map (putT ps), t.wf) := fun t ht => by
    obtain ⟨y, hy, rfl⟩ := List.mem_map.1 ht
    exact putT_wf HLP.out.wf (HX.out.ts.wf y hy)
  have HBASE : Hid ((-128 ≤ x.k ∧ x.k ≤ 127) ∧ (-128 ≤ x.rel ∧ x.rel ≤ 127) ∧ x.pr.size ≤ maxLen ∧ x.ts.length ≤ 281474976710656) := ⟨HX.out.kb, HX.out.rb, HX.out.pb, HX.out.ln⟩
  generalize x.l.val p.la p.lc = LV at HC2 g3
  generalize x.r.val p.ra p.rc = RV at HC3 g4
  obtain ⟨le, hle⟩ : ∃ le, apD (putT ps) d x.l = le := ⟨_, rfl⟩
  obtain ⟨re, hre⟩ : ∃ re, apD (putT ps) d x.r = re := ⟨_, rfl⟩
  have HLE := Lib.hid hle
  have HRE := Lib.hid hre
  rw [hle] at HC2
  rw [hre] at HC3
  clear hle hre
  unfold E.val at HC2 HC3
  have hst : ∀ u, BzL w BR u → ∀ (a3 : Option Addr) (c3 : Nat) (a4 : Option Addr) (c4 : Nat) (a5 : Option Addr) (c5 : Nat), (storeVar 89 ⟨w.heap.size + 1, 0, none⟩ (.agg #[.int .i8 x.k, .string x.pr, .slice a3 x.ts.length c3, .int .i8 x.rel, .int .i8 le.op, .string le.t.v, .int .i8 le.t.a.k, .int .i64 le.t.a.n, .string le.t.a.s, .slice a4 le.kids.length c4, .int .i8 re.op, .string re.t.v, .int .i8 re.t.a.k, .int .i64 re.t.a.n, .string re.t.a.s, .slice a5 re.kids.length c5])).run Tryz.prog u = .ok () (u.setCells (w.heap.size + 1) 0 [.int .i8 x.k, .string x.pr, .slice a3 x.ts.length c3, .int .i8 x.rel, .int .i8 le.op, .string le.t.v, .int .i8 le.t.a.k, .int .i64 le.t.a.n, .string le.t.a.s, .slice a4 le.kids.length c4, .int .i8 re.op, .string re.t.v, .int .i8 re.t.a.k, .int .i64 re.t.a.n, .string re.t.a.s, .slice a5 re.kids.length c5]) := fun u hu a3 c3 a4 c4 a5 c5 => store_Lit (cs := [.int .i8 x.k, .string x.pr, .slice a3 x.ts.length c3, .int .i8 x.rel, .int .i8 le.op, .string le.t.v, .int .i8 le.t.a.k, .int .i64 le.t.a.n, .string le.t.a.s, .slice a4 le.kids.length c4, .int .i8 re.op, .string re.t.v, .int .i8 re.t.a.k, .int .i64 re.t.a.n, .string re.t.a.s, .slice a5 re.kids.length c5]) (by obtain ⟨Z, hz, hr⟩ := hu.res; have := rl_there hr; rw [hz] at this; exact this) rfl (by simp [Value.oneCell'])
  have hB0 : BzL w BR W.drew := HS0.drew
  clear HG0 HG1 HG2 HG3 HG4 HR0 HR1 HX HLP HSM HRES HPOS HBX HB0 HS0 HBR
  go_region_held3 (fun u => BzL w BR u)
    (first
      | (with_reducible assumption)
      | (with_reducible exact hB0)
      | (with_reducible exact BzL.put (by assumption) _ rfl))
    (first
      | (go_at_call 90; (with_reducible refine Calls.mono (HC1.out _ (by assumption)) ?_); rintro ee w3 ⟨a3, c3, rfl, hlt3, b3, ho3⟩; have b3' : BzL w BR w3 := BzL.next (by assumption) b3; have HO3 := Lib.hid ho3; clear hlt3 ho3)
      | (go_at_call 91; (with_reducible refine Calls.mono (HC2.out _ (by assumption)) ?_); rintro ee w4 ⟨a4, c4, rfl, b4, hf4⟩; have b4' : BzL w BR w4 := BzL.next (by assumption) b4; have HF4 := Lib.hid hf4; clear hf4)
      | (go_at_call 91; (with_reducible refine Calls.mono (HC3.out _ (by assumption)) ?_); rintro ee w5 ⟨a5, c5, rfl, b5, hf5⟩; have b5' : BzL w BR w5 := BzL.next (by assumption) b5; have HF5 := Lib.hid hf5; clear hf5)
      | fail)
  go_wp2
  obtain ⟨Z, hz, hr⟩ := b5'.res
  have hrl := rl_setAll hr [.int .i8 x.k, .string x.pr, .slice a3 x.ts.length c3, .int .i8 x.rel, .int .i8 le.op, .string le.t.v, .int .i8 le.t.a.k, .int .i64 le.t.a.n, .string le.t.a.s, .slice a4 le.kids.length c4, .int .i8 re.op, .string re.t.v, .int .i8 re.t.a.k, .int .i64 re.t.a.n, .string re.t.a.s, .slice a5 re.kids.length c5] (by rw [hz]; rfl)
  refine bodyPost_ret (rl_results Tryz.results53 (v := .agg #[.int .i8 x.k, .string x.pr, .slice a3 x.ts.length c3, .int .i8 x.rel, .int .i8 le.op, .string le.t.v, .int .i8 le.t.a.k, .int .i64 le.t.a.n, .string le.t.a.s, .slice a4 le.kids.length c4, .int .i8 re.op, .string re.t.v, .int .i8 re.t.a.k, .int .i64 re.t.a.n, .string re.t.a.s, .slice a5 re.kids.length c5]) rfl (run_loadVar_mid _ _ 0 89 [.int .i8 x.k, .string x.pr, .slice a3 x.ts.length c3, .int .i8 x.rel, .int .i8 le.op, .string le.t.v, .int .i8 le.t.a.k, .int .i64 le.t.a.n, .string le.t.a.s, .slice a4 le.kids.length c4, .int .i8 re.op, .string re.t.v, .int .i8 re.t.a.k, .int .i64 re.t.a.n, .string re.t.a.s, .slice a5 re.kids.length c5] _ hrl.range Tryz.underlying89 rfl (by kernel_rfl))) rfl ⟨⟨a3, c3, a4, c4, a5, c5⟩, ?_, below_setCells (by omega) _ _ _ b5'.bel, ?_⟩
  · simp only [List.length_map, HLE.out, HRE.out]
  · intro w'' s1 s2
    rw [size_setCells] at s1 s2
    have ag : ∀ k, w.heap.size + 2 ≤ k → k < w5.heap.size → w''.heap[k]? = w5.heap[k]? := fun k k1 k2 => by
      rw [s2 k (by omega) k2 (fun h => h), heap_setCells_other (by omega)]
    have hs4 := b4.size
    have hs5 := b5.size
    refine ⟨HBASE.out.1, HBASE.out.2.1, HBASE.out.2.2.1, by show (x.ts.map (putT ps)).length ≤ _; rw [List.length_map]; exact HBASE.out.2.2.2, ⟨?_, HWFT.out⟩, ?_, by show EIs w'' d (apD (putT ps) d x.r) _ _; rw [HRE.out]; exact HF5.out w'' (by omega) (fun k k1 k2 _ => ag k k1 k2)⟩
    · have := ls_own (own_of_block (w' := w'') HO3.out (fun g hg => by
        have hb := HO3.out.lt g hg
        rw [ag g hb.1 (by omega), b5.block g (by omega), b4.block g hb.2]))
      show Ls w'' (.slice a3 (x.ts.map (putT ps)).length c3) (x.ts.map (putT ps)).length _
      rw [List.length_map]
      exact this
    · show EIs w'' d (apD (putT ps) d x.l) _ _
      rw [HLE.out]
      refine HF4.out w'' (by omega) (fun k k1 k2 _ => ?_)
      rw [ag k k1 (by omega)]
      exact b5.block k k2
end Go.Proofs.YtgplipfebnigiaaGreatDoor
end
section
namespace Go.Proofs.YtgplipfebnigiaaGreatDoor
open Go.RowKit Go.Maps
set_option linter.unusedVariables false
set_option linter.unusedSimpArgs false
attribute [local go_sem ↓] Go.wp_at_zero Go.wp_at_succ

/-- what replaced keeps while the head grows -/
structure ReS (w : World) (R : List Value) (pr : ByteArray) (us : List A5) (a' : Option Addr) (c' : Nat) (wr : World) : Prop where
  bel : Below w.heap.size w wr
  bz : w.heap.size + 3 ≤ wr.heap.size
  r0 : RL wr w.heap.size 25 R
  r1 : RL wr (w.heap.size + 1) 25 [.string ⟨#[]⟩, .slice none 0 0, .slice none 0 0]
  r2 : RL wr (w.heap.size + 2) 25 [.string pr, .slice a' us.length c', .slice none 0 0]
  own : wr.ownsRow (w.heap.size + 3) 94 5 (.slice a' us.length c') us.length (us.flatMap A5.cells)
theorem ReS.keep {w : World} {R : List Value} {pr : ByteArray} {us : List A5} {a' : Option Addr} {c' : Nat} {wr wr' : World} (h : ReS w R pr us a' c' wr) (hb : Below wr.heap.size wr wr') : ReS w R pr us a' c' wr' :=
  ⟨h.bel.trans (hb.mono h.bel.size), Nat.le_trans h.bz hb.size, h.r0.below hb, h.r1.below hb, h.r2.below hb, own_below h.own hb⟩
theorem ReS.step {w : World} {R : List Value} {pr : ByteArray} {us : List A5} {a' : Option Addr} {c' : Nat} {U w3 : World} (h : ReS w R pr us a' c' U) (t : A5) {v' : Value}
    (hown' : w3.ownsRow (w.heap.size + 3) 94 5 v' (us.length + 1) (us.flatMap A5.cells ++ A5.cells t)) (hgrow : U.grownBy w3 (Value.slice a' us.length c').ownBlock) :
    ∃ a2 c2, v' = .slice a2 (us.length + 1) c2 ∧ ReS w R pr (us ++ [t]) a2 c2 (w3.setCell ⟨w.heap.size + 2, 1, none⟩ (.slice a2 (us.length + 1) c2)) ∧ w3.cell? ⟨w.heap.size + 2, 1, none⟩ = some (.slice a' us.length c') ∧ w3.frozen? ⟨w.heap.size + 2, 1, none⟩ = false := by
  obtain ⟨a2, c2, rfl, _⟩ := own_form hown'
  have hlt := fun g (hg : (Value.slice a' us.length c').ownBlock = some g) => (h.own.lt g hg).1
  have hs3 := hgrow.size
  have hz := h.bz
  have kl : ∀ j, j < w.heap.size + 3 → w3.heap[j]? = U.heap[j]? := fun j hj => hgrow.block j (by omega) (fun e => by have := hlt j e.symm; omega)
  have q0 : RL w3 w.heap.size 25 R := World.rowIs.of_block h.r0 (kl _ (by omega))
  have q1 : RL w3 (w.heap.size + 1) 25 [.string ⟨#[]⟩, .slice none 0 0, .slice none 0 0] := World.rowIs.of_block h.r1 (kl _ (by omega))
  have q2 : RL w3 (w.heap.size + 2) 25 [.string pr, .slice a' us.length c', .slice none 0 0] := World.rowIs.of_block h.r2 (kl _ (by omega))
  have hl1 : (us ++ [t]).length = us.length + 1 := by simp
  refine ⟨a2, c2, rfl, ⟨?_, by simp only [World.size_setCell]; omega, q0.other (by omega) _, q1.other (by omega) _, ?_, ?_⟩, q2.at (j := 1) rfl, World.rowIs.frozen q2 1⟩
  · refine Below.setCell (p := ⟨w.heap.size + 2, 1, none⟩) ?_ (by show _ ≤ w.heap.size + 2; omega) _
    exact h.bel.grown hgrow h.bel.size (fun j hj => by have := hlt j hj; omega)
  · rw [hl1]; exact q2.set 1 _
  · rw [hl1, List.flatMap_append]
    refine own_of_block (sv := .slice a2 (us.length + 1) c2) ?_ (fun g hg => heap_setCell_other _ _ _ _ (by have := (hown'.lt g hg).1; show g ≠ w.heap.size + 2; omega))
    simpa using hown'
/-- what replaced keeps while the body grows -/
structure RfS (w : World) (R : List Value) (pr : ByteArray) (us : List A5) (ha : Option Addr) (hc : Nat) (d : Nat) (xs : List XL) (a' : Option Addr) (c' : Nat) (wr : World) : Prop where
  bel : Below w.heap.size w wr
  bz : w.heap.size + 3 ≤ wr.heap.size
  r0 : RL wr w.heap.size 25 R
  r1 : RL wr (w.heap.size + 1) 25 [.string ⟨#[]⟩, .slice none 0 0, .slice none 0 0]
  r2 : RL wr (w.heap.size + 2) 25 [.string pr, .slice ha us.length hc, .slice a' xs.length c']
  ownh : wr.ownsRow (w.heap.size + 3) 94 5 (.slice ha us.length hc) us.length (us.flatMap A5.cells)
  own : wr.ownsRow (w.heap.size + 3) 89 16 (.slice a' xs.length c') xs.length (xs.flatMap XL.cells)
  dj : ∀ g, (Value.slice ha us.length hc).ownBlock = some g → (Value.slice a' xs.length c').ownBlock ≠ some g
  fr : ∀ y ∈ xs, Frl (w.heap.size + 3) wr (fun k => (Value.slice a' xs.length c').ownBlock = some k) d y.x y.p
theorem RfS.keep {w : World} {R : List Value} {pr : ByteArray} {us : List A5} {ha : Option Addr} {hc d : Nat} {xs : List XL} {a' : Option Addr} {c' : Nat} {wr wr' : World} (h : RfS w R pr us ha hc d xs a' c' wr) (hb : Below wr.heap.size wr wr') : RfS w R pr us ha hc d xs a' c' wr' :=
  ⟨h.bel.trans (hb.mono h.bel.size), Nat.le_trans h.bz hb.size, h.r0.below hb, h.r1.below hb, h.r2.below hb, own_below h.ownh hb, own_below h.own hb, h.dj, fun y hy => (h.fr y hy).keep hb.size (fun k _ hk _ => hb.block k hk) (fun _ _ e => e)⟩
theorem ReS.start {w : World} {R : List Value} {pr : ByteArray} {us : List A5} {a' : Option Addr} {c' : Nat} {wr : World} (h : ReS w R pr us a' c' wr) (d : Nat) : RfS w R pr us a' c' d [] none 0 wr :=
  ⟨h.bel, h.bz, h.r0, h.r1, h.r2, h.own, World.ownsRow_nil _ _ _ _, fun g _ e => (by cases e), fun y hy => (by cases hy)⟩
theorem RfS.step {w : World} {R : List Value} {pr : ByteArray} {us : List A5} {ha : Option Addr} {hc d : Nat} {xs : List XL} {a' : Option Addr} {c' : Nat} {U w2 w3 : World} (h : RfS w R pr us ha hc d xs a' c' U) (b2 : Below U.heap.size U w2) (y : XL) (hy : Frl U.heap.size w2 (fun _ => False) d y.x y.p) {o : Obj} {v' : Value}
    (hown' : w3.ownsRow (w.heap.size + 3) 89 16 v' (xs.length + 1) (xs.flatMap XL.cells ++ XL.cells y)) (hgrow : (w2.alloc o).grownBy w3 (Value.slice a' xs.length c').ownBlock) (hloc : v'.ownBlock = (Value.slice a' xs.length c').ownBlock ∨ v'.ownBlock = some (w2.alloc o).heap.size) :
    ∃ a2 c2, v' = .slice a2 (xs.length + 1) c2 ∧ RfS w R pr us ha hc d (xs ++ [y]) a2 c2 (w3.setCell ⟨w.heap.size + 2, 2, none⟩ (.slice a2 (xs.length + 1) c2)) ∧ w3.cell? ⟨w.heap.size + 2, 2, none⟩ = some (.slice a' xs.length c') ∧ w3.frozen? ⟨w.heap.size + 2, 2, none⟩ = false := by
  obtain ⟨a2, c2, rfl, _⟩ := own_form hown'
  have hA := belowA (w := w2) o
  have hb2 := b2.trans (hA.mono b2.size)
  have hlt := fun g (hg : (Value.slice a' xs.length c').ownBlock = some g) => h.own.lt g hg
  have hlh := fun g (hg : (Value.slice ha us.length hc).ownBlock = some g) => h.ownh.lt g hg
  have hz := h.bz
  have hs3 := hgrow.size
  have hs2 := hb2.size
  have kb : ∀ j, j < U.heap.size → (Value.slice a' xs.length c').ownBlock ≠ some j → w3.heap[j]? = U.heap[j]? := fun j hj hn => (hgrow.block j (by omega) (fun e => hn e.symm)).trans (hb2.block j hj)
  have kl : ∀ j, j < w.heap.size + 3 → w3.heap[j]? = U.heap[j]? := fun j hj => kb j (by omega) (fun e => by have := (hlt j e).1; omega)
  have q0 : RL w3 w.heap.size 25 R := World.rowIs.of_block h.r0 (kl _ (by omega))
  have q1 : RL w3 (w.heap.size + 1) 25 [.string ⟨#[]⟩, .slice none 0 0, .slice none 0 0] := World.rowIs.of_block h.r1 (kl _ (by omega))
  have q2 : RL w3 (w.heap.size + 2) 25 [.string pr, .slice ha us.length hc, .slice a' xs.length c'] := World.rowIs.of_block h.r2 (kl _ (by omega))
  have hl1 : (xs ++ [y]).length = xs.length + 1 := by simp
  have hnew : ∀ k, (Value.slice a2 (xs.length + 1) c2).ownBlock = some k → (Value.slice a' xs.length c').ownBlock = some k ∨ k = (w2.alloc o).heap.size := fun k hk => by
    rcases hloc with l | l
    · rw [l] at hk; exact .inl hk
    · rw [l] at hk; exact .inr (Option.some.inj hk).symm
  refine ⟨a2, c2, rfl, ⟨?_, by simp only [World.size_setCell]; omega, q0.other (by omega) _, q1.other (by omega) _, ?_, ?_, ?_, fun g hg => ?_, ?_⟩, q2.at (j := 2) rfl, World.rowIs.frozen q2 2⟩
  · refine Below.setCell (p := ⟨w.heap.size + 2, 2, none⟩) ?_ (by show _ ≤ w.heap.size + 2; omega) _
    exact (h.bel.trans (hb2.mono h.bel.size)).grown hgrow (by have := h.bel.size; omega) (fun j hj => by have := (hlt j hj).1; omega)
  · rw [hl1]; exact q2.set 2 _
  · refine own_of_block h.ownh (fun g hg => ?_)
    have := hlh g hg
    rw [heap_setCell_other _ _ _ _ (by show g ≠ w.heap.size + 2; omega)]
    exact kb g this.2 (h.dj g hg)
  · rw [hl1, List.flatMap_append]
    refine own_of_block (sv := .slice a2 (xs.length + 1) c2) ?_ (fun g hg => heap_setCell_other _ _ _ _ (by have := (hown'.lt g hg).1; show g ≠ w.heap.size + 2; omega))
    simpa using hown'
  · rw [hl1]
    intro e
    rcases hnew g e with e | e
    · exact h.dj g hg e
    · have := (hlh g hg).2; omega
  · intro z hz'
    rw [hl1]
    rcases List.mem_append.1 hz' with hz' | hz'
    · refine (h.fr z hz').keep (by simp only [World.size_setCell]; omega) (fun k k1 k2 k3 => ?_) (fun k hk e => ?_)
      · rw [heap_setCell_other _ _ _ _ (by show k ≠ w.heap.size + 2; omega)]
        exact kb k k2 k3
      · rcases hnew k e with e | e
        · exact e
        · omega
    · obtain rfl := List.mem_singleton.1 hz'
      have hsz : w2.heap.size + 1 = (w2.alloc o).heap.size := by simp
      intro w'' s1 s2
      simp only [World.size_setCell] at s1 s2
      refine hy w'' (by omega) (fun k k1 k2 _ => ?_)
      have hne : (Value.slice a' xs.length c').ownBlock ≠ some k := fun e => by have := (hlt k e).2; omega
      rw [s2 k (by omega) (by omega) (fun e => ?_), heap_setCell_other _ _ _ _ (by show k ≠ w.heap.size + 2; omega), hgrow.block k (by omega) (fun e => hne e.symm), hA.block k k2]
      rcases hnew k e with e | e
      · exact hne e
      · omega
/-- a rule whose lists lie in blocks from lo on: it stays while these stay -/
def Frr (lo : Nat) (wr : World) (d : Nat) (r : R3) (p : RP) : Prop :=
  ∀ w'' : World, wr.heap.size ≤ w''.heap.size → (∀ k, lo ≤ k → k < wr.heap.size → w''.heap[k]? = wr.heap[k]?) → RIs w'' d r p
theorem Frr.is {lo : Nat} {wr : World} {d : Nat} {r : R3} {p : RP} (h : Frr lo wr d r p) : RIs wr d r p := h wr (Nat.le_refl _) (fun _ _ _ => rfl)
theorem Frr.lower {lo lo' : Nat} {wr : World} {d : Nat} {r : R3} {p : RP} (h : Frr lo wr d r p) (hl : lo' ≤ lo) : Frr lo' wr d r p := fun w'' h1 h2 => h w'' h1 (fun k k1 k2 => h2 k (Nat.le_trans hl k1) k2)
theorem Frr.keep {lo : Nat} {wr wr' : World} {d : Nat} {r : R3} {p : RP} (h : Frr lo wr d r p) (hs : wr.heap.size ≤ wr'.heap.size) (hag : ∀ k, lo ≤ k → k < wr.heap.size → wr'.heap[k]? = wr.heap[k]?) : Frr lo wr' d r p := fun w'' h1 h2 => h w'' (Nat.le_trans hs h1) (fun k k1 k2 => (h2 k k1 (Nat.lt_of_lt_of_le k2 hs)).trans (hag k k1 k2))
theorem RfS.done {w : World} {R : List Value} {pr : ByteArray} {us : List A5} {ha : Option Addr} {hc d : Nat} {xs : List XL} {a' : Option Addr} {c' : Nat} {wr : World} (h : RfS w R pr us ha hc d xs a' c' wr) (hpr : pr.size ≤ maxLen) (hh : us.length ≤ 1048576) (hb : xs.length ≤ 1048576) (hw : ∀ t ∈ us, t.wf) :
    RL (res3 wr (w.heap.size + 1) pr (.slice ha us.length hc) (.slice a' xs.length c')) (w.heap.size + 1) 25 [.string pr, .slice ha us.length hc, .slice a' xs.length c'] ∧ Below w.heap.size w (res3 wr (w.heap.size + 1) pr (.slice ha us.length hc) (.slice a' xs.length c')) ∧ Frr w.heap.size (res3 wr (w.heap.size + 1) pr (.slice ha us.length hc) (.slice a' xs.length c')) d ⟨pr, us, xs⟩ ⟨ha, hc, a', c'⟩ := by
  refine ⟨res3_rl h.r1 _ _ _, res3_below (g := w.heap.size + 1) h.bel (by omega) _ _ _, fun w'' s1 s2 => ?_⟩
  rw [res3_size] at s1 s2
  have ag : ∀ k, w.heap.size + 3 ≤ k → k < wr.heap.size → w''.heap[k]? = wr.heap[k]? := fun k k1 k2 => by
    rw [s2 k (by omega) k2]
    exact res3_other _ _ _ _ _ (by omega)
  refine ⟨hpr, by show us.length ≤ _; omega, by show xs.length ≤ _; omega, ⟨?_, hw⟩, ⟨?_, fun y hy => ?_⟩⟩
  · exact ls_own (own_of_block h.ownh (fun g hg => ag g (h.ownh.lt g hg).1 (h.ownh.lt g hg).2))
  · exact ls_own (own_of_block h.own (fun g hg => ag g (h.own.lt g hg).1 (h.own.lt g hg).2))
  · exact h.fr y hy _ s1 (fun k k1 k2 _ => ag k k1 k2)
end Go.Proofs.YtgplipfebnigiaaGreatDoor
end
section
namespace Go.Proofs.YtgplipfebnigiaaGreatDoor
open Go.RowKit Go.Maps
set_option linter.unusedVariables false
set_option linter.unusedSimpArgs false
attribute [local go_sem ↓] Go.wp_at_zero Go.wp_at_succ

set_option maxHeartbeats 3200000 in
set_option maxRecDepth 100000 in
theorem applyRule_fr (sv : Value) (s : List P) (d : Nat) (r : R3) (p : RP) (w : World) (hT : KT w) (hR : RIs w d r p) (hs : smallR d r) (hp : Lp w sv s) (hn : s.length ≤ 1048576) :
    Calls Tryz.prog 16 #[sv, r.val p] w fun e w' => ∃ r' p', e = .returned (.tuple #[r'.val p', .int .i64 (errB (okR s d r))]) ∧ Below w.heap.size w w' ∧ LikeR (resR s d r) r' ∧ Frr w.heap.size w' d r' p' := by
  obtain ⟨a0, c0, rfl, _, _, _⟩ := hp.form
  have HLP := Lib.hid hp
  have HT := Lib.hid hT
  have HRI := Lib.hid hR
  have HSM := Lib.hid hs
  have HOKP := Lib.hid (fstP_ok s)
  have HFW : Hid (∀ q ∈ fstP s, q.wf) := fun q hq => hp.wf q (fstP_mem q hq)
  obtain ⟨ok, hok⟩ : ∃ ok, ok = okR s d r := ⟨_, rfl⟩
  have HOK := Lib.hid hok
  rw [← hok]
  have hA1 := belowA (w := w) (.cells #[.string r.pr, .slice p.a r.hd.length p.c, .slice p.ba r.bd.length p.bc] 25)
  have hA2 := belowA (w := w.alloc (.cells #[.string r.pr, .slice p.a r.hd.length p.c, .slice p.ba r.bd.length p.bc] 25)) (.cells #[.string ⟨#[]⟩, .slice none 0 0, .slice none 0 0] 25)
  have HB0 := Lib.hid (hA1.trans (hA2.mono hA1.size))
  have HR0 := Lib.hid ((rl_new w #[.string r.pr, .slice p.a r.hd.length p.c, .slice p.ba r.bd.length p.bc] 25).below hA2)
  have hR1 := rl_new (w.alloc (.cells #[.string r.pr, .slice p.a r.hd.length p.c, .slice p.ba r.bd.length p.bc] 25)) #[.string ⟨#[]⟩, .slice none 0 0, .slice none 0 0] 25
  rw [World.size_alloc] at hR1
  have HR1 := Lib.hid hR1
  have HSZ : Hid (((w.alloc (.cells #[.string r.pr, .slice p.a r.hd.length p.c, .slice p.ba r.bd.length p.bc] 25)).alloc (.cells #[.string ⟨#[]⟩, .slice none 0 0, .slice none 0 0] 25)).heap.size = w.heap.size + 2) := by show _ = _; simp
  clear hA1 hA2 hR1 hok hp hT hR hs
  unfold R3.val
  go_enter Tryz.func16, Tryz.ntmps16
  go_upto_region 1 with fail
  generalize (w.alloc (.cells #[.string r.pr, .slice p.a r.hd.length p.c, .slice p.ba r.bd.length p.bc] 25)).alloc (.cells #[.string ⟨#[]⟩, .slice none 0 0, .slice none 0 0] 25) = W at HB0 HR0 HR1 HSZ ⊢
  have y0 := HR0.out.at (j := 0) rfl
  have y1 := HR0.out.at (j := 1) rfl
  have y2 := HR0.out.at (j := 2) rfl
  have HIR := Lib.hid (isRule_any d r p W (HT.out.below HB0.out) (HRI.out.below HB0.out) HSM.out)
  unfold R3.val at HIR
  go_wp2_with fail
  refine HIR.out.mono ?_
  rintro e w1 ⟨rfl, b1⟩
  have HB1 := Lib.hid (HB0.out.trans (b1.mono HB0.out.size))
  have HR0' := Lib.hid (HR0.out.below b1)
  have HR1' := Lib.hid (HR1.out.below b1)
  have HSZ1 : Hid (w.heap.size + 2 ≤ w1.heap.size) := by show _ ≤ _; rw [← HSZ.out]; exact b1.size
  clear HIR HR0 HR1 HB0 HSZ y0 y1 y2 b1
  cases hrb : ruleB d r
  · have HF : Hid (ok = false) := by show _ = _; rw [HOK.out]; unfold okR; rw [hrb]; rfl
    have HRES : Hid (resR s d r = noR) := by show _ = _; unfold resR; rw [← HOK.out, HF.out]; rfl
    have o0 := HR1'.out.at (j := 0) rfl
    have o1 := HR1'.out.at (j := 1) rfl
    have o2 := HR1'.out.at (j := 2) rfl
    have f0 := World.rowIs.frozen HR1'.out 0
    have f1 := World.rowIs.frozen HR1'.out 1
    have f2 := World.rowIs.frozen HR1'.out 2
    have HD1 := Lib.hid (res3_rl HR1'.out ⟨#[]⟩ (.slice none 0 0) (.slice none 0 0))
    have HD2 := Lib.hid (res3_below (g := w.heap.size + 1) HB1.out (by omega) ⟨#[]⟩ (.slice none 0 0) (.slice none 0 0))
    unfold res3 at HD1 HD2
    clear HR0' HR1' HB1 hrb
    go_wp2
    refine bodyPost_ret (rl_resAB Tryz.results16 (v := .agg #[.string ⟨#[]⟩, .slice none 0 0, .slice none 0 0]) (u := .int .i64 40) rfl rfl (run_loadVar_mid _ _ 0 25 [.string ⟨#[]⟩, .slice none 0 0, .slice none 0 0] _ HD1.out.range Tryz.underlying25 rfl (by kernel_rfl))) rfl ?_
    refine ⟨noR, ⟨none, 0, none, 0⟩, by rw [HF.out]; rfl, HD2.out, ?_, fun u _ _ => noR_is u d⟩
    rw [HRES.out]
    exact LikeR.refl _
  · have HRB := Lib.hid hrb
    have y0 := HR0'.out.at (j := 0) rfl
    have y1 := HR0'.out.at (j := 1) rfl
    have y2 := HR0'.out.at (j := 2) rfl
    have HCR := Lib.hid (cloneRule_any d r p w1 (HRI.out.below HB1.out) HSM.out)
    unfold R3.val at HCR
    clear hrb
    go_wp2_with fail
    refine HCR.out.mono ?_
    rintro e w2 ⟨xs, q, l1, l2, rfl, hxs, b2, hAB, hBB, hnd, hlo⟩
    have hxl : r.bd.length = xs.length := by have := congrArg List.length hxs; simpa using this.symm
    rw [hxl]
    have hA3 := belowA (w := w2) (.cells #[.string r.pr, .slice q.a r.hd.length q.c, .slice q.ba xs.length q.bc] 25)
    have HW3 := Lib.hid hA3
    have HB2 := Lib.hid (HB1.out.trans (b2.mono HB1.out.size))
    have HB3 := Lib.hid (HB2.out.trans (hA3.mono HB2.out.size))
    have HQ1 := Lib.hid ((HR1'.out.below b2).below hA3)
    have HQ6 := Lib.hid (rl_new w2 #[.string r.pr, .slice q.a r.hd.length q.c, .slice q.ba xs.length q.bc] 25)
    have HSZ3 : Hid ((w2.alloc (.cells #[.string r.pr, .slice q.a r.hd.length q.c, .slice q.ba xs.length q.bc] 25)).heap.size = w2.heap.size + 1) := by show _ = _; simp
    have HSZ2 : Hid (w.heap.size + 2 ≤ w2.heap.size) := Nat.le_trans HSZ1.out b2.size
    have HLO : Hid (∀ b ∈ l1 ++ l2, w.heap.size + 2 ≤ b) := fun b hb => Nat.le_trans HSZ1.out (hlo b hb)
    have HLT : Hid (∀ b ∈ l1 ++ l2, b < w2.heap.size) := fun b hb => by
      rcases List.mem_append.1 hb with hb | hb
      · exact hAB.lt b hb
      · exact hBB.lt b hb
    have HAB := Lib.hid (hAB.keep hA3.size (fun b hb => hA3.block b (hAB.lt b hb)))
    have HBB := Lib.hid (hBB.keep hA3.size (fun b hb => hA3.block b (hBB.lt b hb)))
    have HND := Lib.hid hnd
    have HXS := Lib.hid hxs
    have HXL := Lib.hid hxl
    clear hxl hA3 hAB hBB hnd hxs hlo b2 HCR HR0' HR1' HB1 y0 y1 y2 HSZ1 HB2
    go_upto_region 4 with fail
    generalize w2.alloc (.cells #[.string r.pr, .slice q.a r.hd.length q.c, .slice q.ba xs.length q.bc] 25) = W3 at HW3 HB3 HQ1 HQ6 HSZ3 HAB HBB ⊢
    have HPL := Lib.hid (placesOf_all _ s W3 (HLP.out.below HB3.out) hn)
    go_wp2_with fail
    refine HPL.out.mono ?_
    rintro e w4 ⟨rfl, hm, b4⟩
    have HB4 := Lib.hid (HB3.out.trans (b4.mono HB3.out.size))
    have HQ1' := Lib.hid (HQ1.out.below b4)
    have HQ6' := Lib.hid (HQ6.out.below b4)
    have HSZ4 : Hid (w2.heap.size + 1 ≤ w4.heap.size) := by show _ ≤ _; rw [← HSZ3.out]; exact b4.size
    have hab := HAB.out.keep b4.size (fun b hb => b4.block b (HAB.out.lt b hb))
    have hbb := HBB.out.keep b4.size (fun b hb => b4.block b (HBB.out.lt b hb))
    have hxsm : xs.length ≤ 1048576 := by rw [← HXL.out]; exact HSM.out.bd
    have HW := Lib.hid (walkRuleP HOKP.out.nd HFW.out d w4 r.hd xs q.a q.c q.ba q.bc w2.heap.size l1 l2 hm (HQ6'.out.at (j := 1) rfl) (HQ6'.out.at (j := 2) rfl) hab hbb HND.out (fun h => Nat.lt_irrefl _ (HLT.out _ h)) (fun h => by have := HLT.out _ h; have := HSZ3.out; omega) (by have := HSM.out.hd; omega) (by omega))
    unfold putF at HW
    have hmf : ∀ (fn : Fn) (first cap : Array Value) (w : World), (Instr.makeFunc fn first cap).run Tryz.prog w = .ok (.func fn first cap) w := fun _ _ _ _ => rfl
    clear HPL HQ1 HQ6 HB3 HAB HBB hab hbb hm b4 HSZ3 hxsm
    go_wp2_with fail
    refine HW.out.mono ?_
    rintro e w5 ⟨⟨u, rfl⟩, t5, hab5, hbb5⟩
    have hB45 : Below (w.heap.size + 2) w4 w5 := ⟨t5.os, t5.tape, t5.output, t5.size, fun b hb => t5.block b (by have := HSZ4.out; have := HSZ2.out; omega) (fun h => by have := HLO.out b h; omega)⟩
    have HB5 := Lib.hid (HB4.out.trans (hB45.mono (by omega)))
    have HQ15 : Hid (RL w5 (w.heap.size + 1) 25 [.string ⟨#[]⟩, .slice none 0 0, .slice none 0 0]) := World.rowIs.of_block HQ1'.out (hB45.block _ (by omega))
    have HQ65 : Hid (RL w5 w2.heap.size 25 [.string r.pr, .slice q.a r.hd.length q.c, .slice q.ba xs.length q.bc]) := World.rowIs.of_block HQ6'.out (t5.block _ (by have := HSZ4.out; omega) (fun h => Nat.lt_irrefl _ (HLT.out _ h)))
    have HSZ5 : Hid (w2.heap.size + 1 ≤ w5.heap.size) := Nat.le_trans HSZ4.out t5.size
    have hla := hab5.la
    have hlb := hbb5.lb
    have hpb := HRI.out.pb
    obtain ⟨R, hRd⟩ : ∃ R : R3, R = ⟨r.pr, r.hd.map (apA (res (fstP s))), xs.map (apX (res (fstP s)) d)⟩ := ⟨_, rfl⟩
    have HIS : Hid (RIs w5 d R q) := by
      show RIs w5 d R q
      rw [hRd]
      exact ⟨hpb, by show (r.hd.map _).length ≤ _; rw [List.length_map]; have := HSM.out.hd; omega, by show (xs.map _).length ≤ _; rw [List.length_map, ← HXL.out]; have := HSM.out.bd; omega, hla, hlb⟩
    have HAL : Hid (∀ u : World, w5.heap.size ≤ u.heap.size → (∀ b, w.heap.size + 2 ≤ b → b < w5.heap.size → u.heap[b]? = w5.heap[b]?) → RIs u d R q) := fun u hu hk => by
      rw [hRd]
      exact ⟨hpb, by show (r.hd.map _).length ≤ _; rw [List.length_map]; have := HSM.out.hd; omega, by show (xs.map _).length ≤ _; rw [List.length_map, ← HXL.out]; have := HSM.out.bd; omega, (hab5.keep hu (fun b hb => hk b (HLO.out b (by simp [hb])) (hab5.lt b hb))).la, (hbb5.keep hu (fun b hb => hk b (HLO.out b (by simp [hb])) (hbb5.lt b hb))).lb⟩
    have HLIKE : Hid (LikeR (apR (putT s) d r) R) := by
      show LikeR _ _
      rw [hRd, putT_fun]
      exact like_apR HXS.out
    have HVAL : Hid (R.val q = .agg #[.string r.pr, .slice q.a r.hd.length q.c, .slice q.ba xs.length q.bc]) := by
      show _ = _
      rw [hRd]
      unfold R3.val
      simp only [List.length_map]
    clear hRd hla hlb hpb hab5 hbb5 t5 hB45 HW HQ1' HQ6' HB4 hmf HXS HXL HND HLO HLT
    have z0 := HQ65.out.at (j := 0) rfl
    have z1 := HQ65.out.at (j := 1) rfl
    have z2 := HQ65.out.at (j := 2) rfl
    have HI2 := Lib.hid (isRule_any d R q w5 (HT.out.below HB5.out) HIS.out (HLIKE.out.small (apR_small _ HSM.out)))
    rw [HVAL.out] at HI2
    go_wp2_with fail
    refine HI2.out.mono ?_
    rintro e w6 ⟨rfl, b6⟩
    have HB6 := Lib.hid (HB5.out.trans (b6.mono HB5.out.size))
    have HK1 := Lib.hid (HQ15.out.below b6)
    have HK6 := Lib.hid (HQ65.out.below b6)
    have HB65 := Lib.hid b6
    have HOK2 : Hid (ok = ruleB d R) := by show _ = _; rw [HOK.out, HLIKE.out.ruleB d]; unfold okR; rw [HRB.out]; rfl
    have o0 := HK1.out.at (j := 0) rfl
    have o1 := HK1.out.at (j := 1) rfl
    have o2 := HK1.out.at (j := 2) rfl
    have f0 := World.rowIs.frozen HK1.out 0
    have f1 := World.rowIs.frozen HK1.out 1
    have f2 := World.rowIs.frozen HK1.out 2
    have x0 := HK6.out.at (j := 0) rfl
    have x1 := HK6.out.at (j := 1) rfl
    have x2 := HK6.out.at (j := 2) rfl
    clear HI2 HB5 HQ15 HQ65 z0 z1 z2 b6 HIS
    cases hrb2 : ruleB d R
    · rw [hrb2] at HOK2
      have HRES : Hid (resR s d r = noR) := by show _ = _; unfold resR; rw [← HOK.out, HOK2.out]; rfl
      have HD1 := Lib.hid (res3_rl HK1.out ⟨#[]⟩ (.slice none 0 0) (.slice none 0 0))
      have HD2 := Lib.hid (res3_below (g := w.heap.size + 1) HB6.out (by omega) ⟨#[]⟩ (.slice none 0 0) (.slice none 0 0))
      unfold res3 at HD1 HD2
      clear hrb2 HK1 HK6 HB6
      go_wp2
      refine bodyPost_ret (rl_resAB Tryz.results16 (v := .agg #[.string ⟨#[]⟩, .slice none 0 0, .slice none 0 0]) (u := .int .i64 40) rfl rfl (run_loadVar_mid _ _ 0 25 [.string ⟨#[]⟩, .slice none 0 0, .slice none 0 0] _ HD1.out.range Tryz.underlying25 rfl (by kernel_rfl))) rfl ?_
      refine ⟨noR, ⟨none, 0, none, 0⟩, by rw [HOK2.out]; rfl, HD2.out, ?_, fun u _ _ => noR_is u d⟩
      rw [HRES.out]
      exact LikeR.refl _
    · rw [hrb2] at HOK2
      have HRES : Hid (resR s d r = apR (putT s) d r) := by show _ = _; unfold resR; rw [← HOK.out, HOK2.out]; rfl
      have HD1 := Lib.hid (res3_rl HK1.out r.pr (.slice q.a r.hd.length q.c) (.slice q.ba xs.length q.bc))
      have HD2 := Lib.hid (res3_below (g := w.heap.size + 1) HB6.out (by omega) r.pr (.slice q.a r.hd.length q.c) (.slice q.ba xs.length q.bc))
      have HD3 : Hid (Frr w.heap.size (res3 w6 (w.heap.size + 1) r.pr (.slice q.a r.hd.length q.c) (.slice q.ba xs.length q.bc)) d R q) := fun u h1 h2 => HAL.out u (by rw [res3_size] at h1; exact Nat.le_trans HB65.out.size h1) (fun b hb1 hb2 => by rw [h2 b (by omega) (by rw [res3_size]; exact Nat.lt_of_lt_of_le hb2 HB65.out.size), res3_other _ _ _ _ _ (by omega)]; exact HB65.out.block b hb2)
      unfold res3 at HD1 HD2 HD3
      clear hrb2 HK1 HK6 HB6
      go_wp2
      refine bodyPost_ret (rl_resAB Tryz.results16 (v := .agg #[.string r.pr, .slice q.a r.hd.length q.c, .slice q.ba xs.length q.bc]) (u := .int .i64 0) rfl rfl (run_loadVar_mid _ _ 0 25 [.string r.pr, .slice q.a r.hd.length q.c, .slice q.ba xs.length q.bc] _ HD1.out.range Tryz.underlying25 rfl (by kernel_rfl))) rfl ?_
      refine ⟨R, q, by rw [HOK2.out]; exact congrArg (fun v => Ending.returned (.tuple #[v, .int .i64 0])) HVAL.out.symm, HD2.out, ?_, HD3.out⟩
      rw [HRES.out]
      exact HLIKE.out
end Go.Proofs.YtgplipfebnigiaaGreatDoor
end
