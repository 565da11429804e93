import Derived.Test.YtklflppgaciifaaGreatDoorG28
import Derived.Deep.RegionHeld3
section
namespace Go.Proofs.YtklflppgaciifaaGreatDoor
open Go.RowKit Go.Maps
set_option linter.unusedVariables false
set_option linter.unusedSimpArgs false
attribute [local go_sem ↓] Go.wp_at_zero Go.wp_at_succ
attribute [-go_sem] loadVar storeVar

/-- a literal whose lists lie in blocks from lo on, but for those of ex: it stays while these stay -/
def Frl (lo : Nat) (wr : World) (ex : Nat → Prop) (d : Nat) (x : Lit4) (p : LP) : Prop :=
  ∀ w'' : World, wr.heap.size ≤ w''.heap.size → (∀ k, lo ≤ k → k < wr.heap.size → ¬ ex k → w''.heap[k]? = wr.heap[k]?) → LIs w'' d x p
theorem Frl.is {lo : Nat} {wr : World} {ex : Nat → Prop} {d : Nat} {x : Lit4} {p : LP} (h : Frl lo wr ex d x p) : LIs wr d x p := h wr (Nat.le_refl _) (fun _ _ _ _ => rfl)
theorem Frl.keep {lo : Nat} {wr wr' : World} {ex ex' : Nat → Prop} {d : Nat} {x : Lit4} {p : LP} (h : Frl lo wr ex d x p) (hs : wr.heap.size ≤ wr'.heap.size) (hag : ∀ k, lo ≤ k → k < wr.heap.size → ¬ ex k → wr'.heap[k]? = wr.heap[k]?) (hex : ∀ k, k < wr.heap.size → ex' k → ex k) : Frl lo wr' ex' d x p :=
  fun w'' h1 h2 => h w'' (Nat.le_trans hs h1) (fun k k1 k2 k3 => (h2 k k1 (Nat.lt_of_lt_of_le k2 hs) (fun e => k3 (hex k k2 e))).trans (hag k k1 k2 k3))
theorem Frl.lower {lo lo' : Nat} {wr : World} {ex ex' : Nat → Prop} {d : Nat} {x : Lit4} {p : LP} (h : Frl lo wr ex d x p) (hl : lo' ≤ lo) (hex : ∀ k, lo ≤ k → k < wr.heap.size → ex' k → ex k) : Frl lo' wr ex' d x p :=
  fun w'' h1 h2 => h w'' h1 (fun k k1 k2 k3 => h2 k (Nat.le_trans hl k1) k2 (fun e => k3 (hex k k1 k2 e)))
/-- a literal's box and the result's, below all else -/
structure BzL (w : World) (R : List Value) (u : World) : Prop where
  bel : Below w.heap.size w u
  box : RL u w.heap.size 76 R
  res : ∃ Z : List Value, Z.length = 16 ∧ RL u (w.heap.size + 1) 76 Z
theorem BzL.next {w : World} {R : List Value} {u v : World} (h : BzL w R u) (b : Below u.heap.size u v) : BzL w R v := by
  obtain ⟨Z, hz, hr⟩ := h.res
  exact ⟨h.bel.trans (b.mono h.bel.size), h.box.below b, Z, hz, hr.below b⟩
theorem BzL.sz {w : World} {R : List Value} {u : World} (h : BzL w R u) : w.heap.size + 2 ≤ u.heap.size := by
  obtain ⟨Z, hz, hr⟩ := h.res
  exact World.rowIs.lt hr
theorem BzL.drew {w : World} {R : List Value} {u : World} (h : BzL w R u) : BzL w R u.drew := h.next (Below.refl _ _).drew
theorem BzL.put {w : World} {R : List Value} {u : World} (h : BzL w R u) (l : List Value) (hl : l.length = 16) : BzL w R (u.setCells (w.heap.size + 1) 0 l) := by
  obtain ⟨Z, hz, hr⟩ := h.res
  exact ⟨below_setCells (by omega) _ _ _ h.bel, World.rowIs.of_block h.box (heap_setCells_other (by omega) _ _ _), l, hl, rl_setAll hr l (by omega)⟩
theorem next_ofA {wc u v : World} (h : Below wc.heap.size wc u) (b : Below u.heap.size u v) : Below wc.heap.size wc v := h.trans (b.mono h.size)
set_option maxHeartbeats 6400000 in
set_option maxRecDepth 100000 in
theorem rApplyLiteral_any (ps : List P) (d : Nat) (x : Lit4) (p : LP) (sv : Value) (w : World) (hX : LIs w d x p) (hsm : smallL d x) (hp : Lp w sv ps) :
    Calls Tryz.prog 49 #[sv, x.val p] w fun q w' => ∃ p', q = .returned ((apL (putT ps) d x).val p') ∧ Below w.heap.size w w' ∧ Frl w.heap.size w' (fun _ => False) d (apL (putT ps) d x) p' := by
  obtain ⟨a0, c0, rfl, _, _, _⟩ := hp.form
  have hA1 := belowA (w := w) (.cells #[.int .i8 x.k, .string x.pr, .slice p.a x.ts.length p.c, .int .i8 x.rel, .int .i8 x.l.op, .string x.l.t.v, .int .i8 x.l.t.a.k, .int .i64 x.l.t.a.n, .string x.l.t.a.s, .slice p.la x.l.kids.length p.lc, .int .i8 x.r.op, .string x.r.t.v, .int .i8 x.r.t.a.k, .int .i64 x.r.t.a.n, .string x.r.t.a.s, .slice p.ra x.r.kids.length p.rc] 76)
  have hA2 := belowA (w := w.alloc (.cells #[.int .i8 x.k, .string x.pr, .slice p.a x.ts.length p.c, .int .i8 x.rel, .int .i8 x.l.op, .string x.l.t.v, .int .i8 x.l.t.a.k, .int .i64 x.l.t.a.n, .string x.l.t.a.s, .slice p.la x.l.kids.length p.lc, .int .i8 x.r.op, .string x.r.t.v, .int .i8 x.r.t.a.k, .int .i64 x.r.t.a.n, .string x.r.t.a.s, .slice p.ra x.r.kids.length p.rc] 76)) (.cells #[.int .i8 0, .string ⟨#[]⟩, .slice none 0 0, .int .i8 0, .int .i8 0, .string ⟨#[]⟩, .int .i8 0, .int .i64 0, .string ⟨#[]⟩, .slice none 0 0, .int .i8 0, .string ⟨#[]⟩, .int .i8 0, .int .i64 0, .string ⟨#[]⟩, .slice none 0 0] 76)
  have HB0 := Lib.hid (hA1.trans (hA2.mono hA1.size))
  have HR0 := Lib.hid ((rl_new w #[.int .i8 x.k, .string x.pr, .slice p.a x.ts.length p.c, .int .i8 x.rel, .int .i8 x.l.op, .string x.l.t.v, .int .i8 x.l.t.a.k, .int .i64 x.l.t.a.n, .string x.l.t.a.s, .slice p.la x.l.kids.length p.lc, .int .i8 x.r.op, .string x.r.t.v, .int .i8 x.r.t.a.k, .int .i64 x.r.t.a.n, .string x.r.t.a.s, .slice p.ra x.r.kids.length p.rc] 76).below hA2)
  have hR1 := rl_new (w.alloc (.cells #[.int .i8 x.k, .string x.pr, .slice p.a x.ts.length p.c, .int .i8 x.rel, .int .i8 x.l.op, .string x.l.t.v, .int .i8 x.l.t.a.k, .int .i64 x.l.t.a.n, .string x.l.t.a.s, .slice p.la x.l.kids.length p.lc, .int .i8 x.r.op, .string x.r.t.v, .int .i8 x.r.t.a.k, .int .i64 x.r.t.a.n, .string x.r.t.a.s, .slice p.ra x.r.kids.length p.rc] 76)) #[.int .i8 0, .string ⟨#[]⟩, .slice none 0 0, .int .i8 0, .int .i8 0, .string ⟨#[]⟩, .int .i8 0, .int .i64 0, .string ⟨#[]⟩, .slice none 0 0, .int .i8 0, .string ⟨#[]⟩, .int .i8 0, .int .i64 0, .string ⟨#[]⟩, .slice none 0 0] 76
  rw [World.size_alloc] at hR1
  have HR1 := Lib.hid hR1
  have HSZ : Hid (((w.alloc (.cells #[.int .i8 x.k, .string x.pr, .slice p.a x.ts.length p.c, .int .i8 x.rel, .int .i8 x.l.op, .string x.l.t.v, .int .i8 x.l.t.a.k, .int .i64 x.l.t.a.n, .string x.l.t.a.s, .slice p.la x.l.kids.length p.lc, .int .i8 x.r.op, .string x.r.t.v, .int .i8 x.r.t.a.k, .int .i64 x.r.t.a.n, .string x.r.t.a.s, .slice p.ra x.r.kids.length p.rc] 76)).alloc (.cells #[.int .i8 0, .string ⟨#[]⟩, .slice none 0 0, .int .i8 0, .int .i8 0, .string ⟨#[]⟩, .int .i8 0, .int .i64 0, .string ⟨#[]⟩, .slice none 0 0, .int .i8 0, .string ⟨#[]⟩, .int .i8 0, .int .i64 0, .string ⟨#[]⟩, .slice none 0 0] 76)).heap.size = w.heap.size + 2) := by show _ = _; simp
  have HLP := Lib.hid hp
  have HX := Lib.hid hX
  have HSM := Lib.hid hsm
  have HRES : Hid (apL (putT ps) d x = ⟨x.k, x.pr, x.ts.map (putT ps), x.rel, apD (putT ps) d x.l, apD (putT ps) d x.r⟩) := rfl
  rw [HRES.out]
  have HPOS : Hid (d ≠ 0) := fun e => by subst e; exact hX.l
  clear hA1 hA2 hR1 hp hX hsm
  unfold Lit4.val
  have hagg := @loadVar.eq_1
  go_enter Tryz.func49, Tryz.ntmps49
  go_upto_region 1 with fail
  clear hagg
  generalize (w.alloc (.cells #[.int .i8 x.k, .string x.pr, .slice p.a x.ts.length p.c, .int .i8 x.rel, .int .i8 x.l.op, .string x.l.t.v, .int .i8 x.l.t.a.k, .int .i64 x.l.t.a.n, .string x.l.t.a.s, .slice p.la x.l.kids.length p.lc, .int .i8 x.r.op, .string x.r.t.v, .int .i8 x.r.t.a.k, .int .i64 x.r.t.a.n, .string x.r.t.a.s, .slice p.ra x.r.kids.length p.rc] 76)).alloc (.cells #[.int .i8 0, .string ⟨#[]⟩, .slice none 0 0, .int .i8 0, .int .i8 0, .string ⟨#[]⟩, .int .i8 0, .int .i64 0, .string ⟨#[]⟩, .slice none 0 0, .int .i8 0, .string ⟨#[]⟩, .int .i8 0, .int .i64 0, .string ⟨#[]⟩, .slice none 0 0] 76) = W at HB0 HR0 HR1 HSZ ⊢
  obtain ⟨BR, hBR⟩ : ∃ BR : List Value, BR = [.int .i8 x.k, .string x.pr, .slice p.a x.ts.length p.c, .int .i8 x.rel, .int .i8 x.l.op, .string x.l.t.v, .int .i8 x.l.t.a.k, .int .i64 x.l.t.a.n, .string x.l.t.a.s, .slice p.la x.l.kids.length p.lc, .int .i8 x.r.op, .string x.r.t.v, .int .i8 x.r.t.a.k, .int .i64 x.r.t.a.n, .string x.r.t.a.s, .slice p.ra x.r.kids.length p.rc] := ⟨_, rfl⟩
  have HBR := Lib.hid hBR
  have HS0 : BzL w BR W := ⟨HB0.out, by rw [hBR]; exact HR0.out, _, rfl, HR1.out⟩
  clear hBR
  have HBX : ∀ u, BzL w BR u → RL u w.heap.size 76 [.int .i8 x.k, .string x.pr, .slice p.a x.ts.length p.c, .int .i8 x.rel, .int .i8 x.l.op, .string x.l.t.v, .int .i8 x.l.t.a.k, .int .i64 x.l.t.a.n, .string x.l.t.a.s, .slice p.la x.l.kids.length p.lc, .int .i8 x.r.op, .string x.r.t.v, .int .i8 x.r.t.a.k, .int .i64 x.r.t.a.n, .string x.r.t.a.s, .slice p.ra x.r.kids.length p.rc] := fun u hu => by rw [← HBR.out]; exact hu.box
  have HC1 : Hid (∀ u, BzL w BR u → Calls Tryz.prog 12 #[.slice a0 ps.length c0, .agg #[.string x.pr, .slice p.a x.ts.length p.c]] u fun e w' => ∃ a c, e = .returned (.agg #[.string x.pr, .slice a x.ts.length c]) ∧ Lt w' (.slice a x.ts.length c) (x.ts.map (putT ps)) ∧ Below u.heap.size u w' ∧ w'.ownsRow (w.heap.size + 2) 48 4 (.slice a x.ts.length c) x.ts.length ((x.ts.map (putT ps)).flatMap T.cells)) := fun u hu => by
    have bu := hu.bel
    refine (rApply_any _ ps x.pr _ x.ts u (HLP.out.below bu) (HX.out.ts.below bu) HSM.out.1).mono ?_
    rintro e w' ⟨a, c, h1, h2, h3, h4⟩
    exact ⟨a, c, h1, h2, h3, own_low h4 hu.sz⟩
  have HC2 : Hid (∀ u, BzL w BR u → Calls Tryz.prog 73 #[.slice a0 ps.length c0, x.l.val p.la p.lc] u fun q w' => ∃ a' c', q = .returned ((apD (putT ps) d x.l).val a' c') ∧ Below u.heap.size u w' ∧ Frs (w.heap.size + 2) w' (fun _ => False) d (apD (putT ps) d x.l) a' c') := fun u hu => by
    have bu := hu.bel
    refine (rApplyExpr_any ps d _ _ _ _ u (HX.out.l.below bu) HSM.out.2.1.1 (HLP.out.below bu)).mono ?_
    rintro e w' ⟨a, c, h1, h3, h4⟩
    exact ⟨a, c, h1, h3, h4.lower hu.sz (fun _ _ _ h => h)⟩
  have HC3 : Hid (∀ u, BzL w BR u → Calls Tryz.prog 73 #[.slice a0 ps.length c0, x.r.val p.ra p.rc] u fun q w' => ∃ a' c', q = .returned ((apD (putT ps) d x.r).val a' c') ∧ Below u.heap.size u w' ∧ Frs (w.heap.size + 2) w' (fun _ => False) d (apD (putT ps) d x.r) a' c') := fun u hu => by
    have bu := hu.bel
    refine (rApplyExpr_any ps d _ _ _ _ u (HX.out.r.below bu) HSM.out.2.2.1 (HLP.out.below bu)).mono ?_
    rintro e w' ⟨a, c, h1, h3, h4⟩
    exact ⟨a, c, h1, h3, h4.lower hu.sz (fun _ _ _ h => h)⟩
  have HG0 : Hid (∀ u, BzL w BR u → (loadVar 69 ⟨w.heap.size, 0, none⟩).run Tryz.prog u = .ok (.int .i8 x.k) u) := fun u hu => by
    have h0 := ((HBX u hu)).at (j := 0) rfl
    rw [loadVar.eq_1]
    go_simp
  have HG1 : Hid (∀ u, BzL w BR u → (loadVar 25 ⟨w.heap.size, 1, none⟩).run Tryz.prog u = .ok (.agg #[.string x.pr, .slice p.a x.ts.length p.c]) u) := fun u hu => run_loadVar_mid u w.heap.size 1 25 [.string x.pr, .slice p.a x.ts.length p.c] _ (fun j v hv => ((HBX u hu)).at (j := 1 + j) (by
    have hj : j < 2 := (List.getElem?_eq_some_iff.1 hv).1
    obtain rfl | rfl : j = 0 ∨ j = 1 := by omega
    · exact hv
    · exact hv)) Tryz.underlying25 rfl (by kernel_rfl)
  have HG2 : Hid (∀ u, BzL w BR u → (loadVar 70 ⟨w.heap.size, 3, none⟩).run Tryz.prog u = .ok (.int .i8 x.rel) u) := fun u hu => by
    have h0 := ((HBX u hu)).at (j := 3) rfl
    rw [loadVar.eq_1]
    go_simp
  have HG3 : Hid (∀ u, BzL w BR u → (loadVar 74 ⟨w.heap.size, 4, none⟩).run Tryz.prog u = .ok (x.l.val p.la p.lc) u) := fun u hu => run_loadVar_mid u w.heap.size 4 74 [.int .i8 x.l.op, .string x.l.t.v, .int .i8 x.l.t.a.k, .int .i64 x.l.t.a.n, .string x.l.t.a.s, .slice p.la x.l.kids.length p.lc] _ (fun j v hv => ((HBX u hu)).at (j := 4 + j) (by
    have hj : j < 6 := (List.getElem?_eq_some_iff.1 hv).1
    obtain rfl | rfl | rfl | rfl | rfl | rfl : j = 0 ∨ j = 1 ∨ j = 2 ∨ j = 3 ∨ j = 4 ∨ j = 5 := by omega
    all_goals exact hv)) Tryz.underlying74 rfl (by kernel_rfl)
  have HG4 : Hid (∀ u, BzL w BR u → (loadVar 74 ⟨w.heap.size, 10, none⟩).run Tryz.prog u = .ok (x.r.val p.ra p.rc) u) := fun u hu => run_loadVar_mid u w.heap.size 10 74 [.int .i8 x.r.op, .string x.r.t.v, .int .i8 x.r.t.a.k, .int .i64 x.r.t.a.n, .string x.r.t.a.s, .slice p.ra x.r.kids.length p.rc] _ (fun j v hv => ((HBX u hu)).at (j := 10 + j) (by
    have hj : j < 6 := (List.getElem?_eq_some_iff.1 hv).1
    obtain rfl | rfl | rfl | rfl | rfl | rfl : j = 0 ∨ j = 1 ∨ j = 2 ∨ j = 3 ∨ j = 4 ∨ j = 5 := by omega
    all_goals exact hv)) Tryz.underlying74 rfl (by kernel_rfl)
  have g0 := HG0.out
  have g1 := HG1.out
  have g2 := HG2.out
  have g3 := HG3.out
  have g4 := HG4.out
  have HWFT : Hid (∀ t ∈ x.ts.map (putT ps), t.wf) := fun t ht => by
    obtain ⟨y, hy, rfl⟩ := List.mem_map.1 ht
    exact putT_wf HLP.out.wf (HX.out.ts.wf y hy)
  have HBASE : Hid ((-128 ≤ x.k ∧ x.k ≤ 127) ∧ (-128 ≤ x.rel ∧ x.rel ≤ 127) ∧ x.pr.size ≤ maxLen ∧ x.ts.length ≤ 281474976710656) := ⟨HX.out.kb, HX.out.rb, HX.out.pb, HX.out.ln⟩
  generalize x.l.val p.la p.lc = LV at HC2 g3
  generalize x.r.val p.ra p.rc = RV at HC3 g4
  obtain ⟨le, hle⟩ : ∃ le, apD (putT ps) d x.l = le := ⟨_, rfl⟩
  obtain ⟨re, hre⟩ : ∃ re, apD (putT ps) d x.r = re := ⟨_, rfl⟩
  have HLE := Lib.hid hle
  have HRE := Lib.hid hre
  rw [hle] at HC2
  rw [hre] at HC3
  clear hle hre
  unfold E.val at HC2 HC3
  have hst : ∀ u, BzL w BR u → ∀ (a3 : Option Addr) (c3 : Nat) (a4 : Option Addr) (c4 : Nat) (a5 : Option Addr) (c5 : Nat), (storeVar 76 ⟨w.heap.size + 1, 0, none⟩ (.agg #[.int .i8 x.k, .string x.pr, .slice a3 x.ts.length c3, .int .i8 x.rel, .int .i8 le.op, .string le.t.v, .int .i8 le.t.a.k, .int .i64 le.t.a.n, .string le.t.a.s, .slice a4 le.kids.length c4, .int .i8 re.op, .string re.t.v, .int .i8 re.t.a.k, .int .i64 re.t.a.n, .string re.t.a.s, .slice a5 re.kids.length c5])).run Tryz.prog u = .ok () (u.setCells (w.heap.size + 1) 0 [.int .i8 x.k, .string x.pr, .slice a3 x.ts.length c3, .int .i8 x.rel, .int .i8 le.op, .string le.t.v, .int .i8 le.t.a.k, .int .i64 le.t.a.n, .string le.t.a.s, .slice a4 le.kids.length c4, .int .i8 re.op, .string re.t.v, .int .i8 re.t.a.k, .int .i64 re.t.a.n, .string re.t.a.s, .slice a5 re.kids.length c5]) := fun u hu a3 c3 a4 c4 a5 c5 => store_Lit (cs := [.int .i8 x.k, .string x.pr, .slice a3 x.ts.length c3, .int .i8 x.rel, .int .i8 le.op, .string le.t.v, .int .i8 le.t.a.k, .int .i64 le.t.a.n, .string le.t.a.s, .slice a4 le.kids.length c4, .int .i8 re.op, .string re.t.v, .int .i8 re.t.a.k, .int .i64 re.t.a.n, .string re.t.a.s, .slice a5 re.kids.length c5]) (by obtain ⟨Z, hz, hr⟩ := hu.res; have := rl_there hr; rw [hz] at this; exact this) rfl (by simp [Value.oneCell'])
  have hB0 : BzL w BR W.drew := HS0.drew
  clear HG0 HG1 HG2 HG3 HG4 HR0 HR1 HX HLP HSM HRES HPOS HBX HB0 HS0 HBR
  go_region_held3 (fun u => BzL w BR u)
    (first
      | (with_reducible assumption)
      | (with_reducible exact hB0)
      | (with_reducible exact BzL.put (by assumption) _ rfl))
    (first
      | (go_at_call 12; (with_reducible refine Calls.mono (HC1.out _ (by assumption)) ?_); rintro ee w3 ⟨a3, c3, rfl, hlt3, b3, ho3⟩; have b3' : BzL w BR w3 := BzL.next (by assumption) b3; have HO3 := Lib.hid ho3; clear hlt3 ho3)
      | (go_at_call 73; (with_reducible refine Calls.mono (HC2.out _ (by assumption)) ?_); rintro ee w4 ⟨a4, c4, rfl, b4, hf4⟩; have b4' : BzL w BR w4 := BzL.next (by assumption) b4; have HF4 := Lib.hid hf4; clear hf4)
      | (go_at_call 73; (with_reducible refine Calls.mono (HC3.out _ (by assumption)) ?_); rintro ee w5 ⟨a5, c5, rfl, b5, hf5⟩; have b5' : BzL w BR w5 := BzL.next (by assumption) b5; have HF5 := Lib.hid hf5; clear hf5)
      | fail)
  go_wp2
  obtain ⟨Z, hz, hr⟩ := b5'.res
  have hrl := rl_setAll hr [.int .i8 x.k, .string x.pr, .slice a3 x.ts.length c3, .int .i8 x.rel, .int .i8 le.op, .string le.t.v, .int .i8 le.t.a.k, .int .i64 le.t.a.n, .string le.t.a.s, .slice a4 le.kids.length c4, .int .i8 re.op, .string re.t.v, .int .i8 re.t.a.k, .int .i64 re.t.a.n, .string re.t.a.s, .slice a5 re.kids.length c5] (by rw [hz]; rfl)
  refine bodyPost_ret (rl_results Tryz.results49 (v := .agg #[.int .i8 x.k, .string x.pr, .slice a3 x.ts.length c3, .int .i8 x.rel, .int .i8 le.op, .string le.t.v, .int .i8 le.t.a.k, .int .i64 le.t.a.n, .string le.t.a.s, .slice a4 le.kids.length c4, .int .i8 re.op, .string re.t.v, .int .i8 re.t.a.k, .int .i64 re.t.a.n, .string re.t.a.s, .slice a5 re.kids.length c5]) rfl (run_loadVar_mid _ _ 0 76 [.int .i8 x.k, .string x.pr, .slice a3 x.ts.length c3, .int .i8 x.rel, .int .i8 le.op, .string le.t.v, .int .i8 le.t.a.k, .int .i64 le.t.a.n, .string le.t.a.s, .slice a4 le.kids.length c4, .int .i8 re.op, .string re.t.v, .int .i8 re.t.a.k, .int .i64 re.t.a.n, .string re.t.a.s, .slice a5 re.kids.length c5] _ hrl.range Tryz.underlying76 rfl (by kernel_rfl))) rfl ⟨⟨a3, c3, a4, c4, a5, c5⟩, ?_, below_setCells (by omega) _ _ _ b5'.bel, ?_⟩
  · simp only [List.length_map, HLE.out, HRE.out]
  · intro w'' s1 s2
    rw [size_setCells] at s1 s2
    have ag : ∀ k, w.heap.size + 2 ≤ k → k < w5.heap.size → w''.heap[k]? = w5.heap[k]? := fun k k1 k2 => by
      rw [s2 k (by omega) k2 (fun h => h), heap_setCells_other (by omega)]
    have hs4 := b4.size
    have hs5 := b5.size
    refine ⟨HBASE.out.1, HBASE.out.2.1, HBASE.out.2.2.1, by show (x.ts.map (putT ps)).length ≤ _; rw [List.length_map]; exact HBASE.out.2.2.2, ⟨?_, HWFT.out⟩, ?_, by show EIs w'' d (apD (putT ps) d x.r) _ _; rw [HRE.out]; exact HF5.out w'' (by omega) (fun k k1 k2 _ => ag k k1 k2)⟩
    · have := ls_own (own_of_block (w' := w'') HO3.out (fun g hg => by
        have hb := HO3.out.lt g hg
        rw [ag g hb.1 (by omega), b5.block g (by omega), b4.block g hb.2]))
      show Ls w'' (.slice a3 (x.ts.map (putT ps)).length c3) (x.ts.map (putT ps)).length _
      rw [List.length_map]
      exact this
    · show EIs w'' d (apD (putT ps) d x.l) _ _
      rw [HLE.out]
      refine HF4.out w'' (by omega) (fun k k1 k2 _ => ?_)
      rw [ag k k1 (by omega)]
      exact b5.block k k2
end Go.Proofs.YtklflppgaciifaaGreatDoor
end
section
namespace Go.Proofs.YtklflppgaciifaaGreatDoor
open Go.RowKit Go.Maps
set_option linter.unusedVariables false
set_option linter.unusedSimpArgs false
attribute [local go_sem ↓] Go.wp_at_zero Go.wp_at_succ

/-- what replaced keeps while the head grows -/
structure ReS (w : World) (R : List Value) (pr : ByteArray) (us : List A5) (a' : Option Addr) (c' : Nat) (wr : World) : Prop where
  bel : Below w.heap.size w wr
  bz : w.heap.size + 3 ≤ wr.heap.size
  r0 : RL wr w.heap.size 29 R
  r1 : RL wr (w.heap.size + 1) 29 [.string ⟨#[]⟩, .slice none 0 0, .slice none 0 0]
  r2 : RL wr (w.heap.size + 2) 29 [.string pr, .slice a' us.length c', .slice none 0 0]
  own : wr.ownsRow (w.heap.size + 3) 81 5 (.slice a' us.length c') us.length (us.flatMap A5.cells)
theorem ReS.keep {w : World} {R : List Value} {pr : ByteArray} {us : List A5} {a' : Option Addr} {c' : Nat} {wr wr' : World} (h : ReS w R pr us a' c' wr) (hb : Below wr.heap.size wr wr') : ReS w R pr us a' c' wr' :=
  ⟨h.bel.trans (hb.mono h.bel.size), Nat.le_trans h.bz hb.size, h.r0.below hb, h.r1.below hb, h.r2.below hb, own_below h.own hb⟩
theorem ReS.step {w : World} {R : List Value} {pr : ByteArray} {us : List A5} {a' : Option Addr} {c' : Nat} {U w3 : World} (h : ReS w R pr us a' c' U) (t : A5) {v' : Value}
    (hown' : w3.ownsRow (w.heap.size + 3) 81 5 v' (us.length + 1) (us.flatMap A5.cells ++ A5.cells t)) (hgrow : U.grownBy w3 (Value.slice a' us.length c').ownBlock) :
    ∃ a2 c2, v' = .slice a2 (us.length + 1) c2 ∧ ReS w R pr (us ++ [t]) a2 c2 (w3.setCell ⟨w.heap.size + 2, 1, none⟩ (.slice a2 (us.length + 1) c2)) ∧ w3.cell? ⟨w.heap.size + 2, 1, none⟩ = some (.slice a' us.length c') ∧ w3.frozen? ⟨w.heap.size + 2, 1, none⟩ = false := by
  obtain ⟨a2, c2, rfl, _⟩ := own_form hown'
  have hlt := fun g (hg : (Value.slice a' us.length c').ownBlock = some g) => (h.own.lt g hg).1
  have hs3 := hgrow.size
  have hz := h.bz
  have kl : ∀ j, j < w.heap.size + 3 → w3.heap[j]? = U.heap[j]? := fun j hj => hgrow.block j (by omega) (fun e => by have := hlt j e.symm; omega)
  have q0 : RL w3 w.heap.size 29 R := World.rowIs.of_block h.r0 (kl _ (by omega))
  have q1 : RL w3 (w.heap.size + 1) 29 [.string ⟨#[]⟩, .slice none 0 0, .slice none 0 0] := World.rowIs.of_block h.r1 (kl _ (by omega))
  have q2 : RL w3 (w.heap.size + 2) 29 [.string pr, .slice a' us.length c', .slice none 0 0] := World.rowIs.of_block h.r2 (kl _ (by omega))
  have hl1 : (us ++ [t]).length = us.length + 1 := by simp
  refine ⟨a2, c2, rfl, ⟨?_, by simp only [World.size_setCell]; omega, q0.other (by omega) _, q1.other (by omega) _, ?_, ?_⟩, q2.at (j := 1) rfl, World.rowIs.frozen q2 1⟩
  · refine Below.setCell (p := ⟨w.heap.size + 2, 1, none⟩) ?_ (by show _ ≤ w.heap.size + 2; omega) _
    exact h.bel.grown hgrow h.bel.size (fun j hj => by have := hlt j hj; omega)
  · rw [hl1]; exact q2.set 1 _
  · rw [hl1, List.flatMap_append]
    refine own_of_block (sv := .slice a2 (us.length + 1) c2) ?_ (fun g hg => heap_setCell_other _ _ _ _ (by have := (hown'.lt g hg).1; show g ≠ w.heap.size + 2; omega))
    simpa using hown'
/-- what replaced keeps while the body grows -/
structure RfS (w : World) (R : List Value) (pr : ByteArray) (us : List A5) (ha : Option Addr) (hc : Nat) (d : Nat) (xs : List XL) (a' : Option Addr) (c' : Nat) (wr : World) : Prop where
  bel : Below w.heap.size w wr
  bz : w.heap.size + 3 ≤ wr.heap.size
  r0 : RL wr w.heap.size 29 R
  r1 : RL wr (w.heap.size + 1) 29 [.string ⟨#[]⟩, .slice none 0 0, .slice none 0 0]
  r2 : RL wr (w.heap.size + 2) 29 [.string pr, .slice ha us.length hc, .slice a' xs.length c']
  ownh : wr.ownsRow (w.heap.size + 3) 81 5 (.slice ha us.length hc) us.length (us.flatMap A5.cells)
  own : wr.ownsRow (w.heap.size + 3) 76 16 (.slice a' xs.length c') xs.length (xs.flatMap XL.cells)
  dj : ∀ g, (Value.slice ha us.length hc).ownBlock = some g → (Value.slice a' xs.length c').ownBlock ≠ some g
  fr : ∀ y ∈ xs, Frl (w.heap.size + 3) wr (fun k => (Value.slice a' xs.length c').ownBlock = some k) d y.x y.p
theorem RfS.keep {w : World} {R : List Value} {pr : ByteArray} {us : List A5} {ha : Option Addr} {hc d : Nat} {xs : List XL} {a' : Option Addr} {c' : Nat} {wr wr' : World} (h : RfS w R pr us ha hc d xs a' c' wr) (hb : Below wr.heap.size wr wr') : RfS w R pr us ha hc d xs a' c' wr' :=
  ⟨h.bel.trans (hb.mono h.bel.size), Nat.le_trans h.bz hb.size, h.r0.below hb, h.r1.below hb, h.r2.below hb, own_below h.ownh hb, own_below h.own hb, h.dj, fun y hy => (h.fr y hy).keep hb.size (fun k _ hk _ => hb.block k hk) (fun _ _ e => e)⟩
theorem ReS.start {w : World} {R : List Value} {pr : ByteArray} {us : List A5} {a' : Option Addr} {c' : Nat} {wr : World} (h : ReS w R pr us a' c' wr) (d : Nat) : RfS w R pr us a' c' d [] none 0 wr :=
  ⟨h.bel, h.bz, h.r0, h.r1, h.r2, h.own, World.ownsRow_nil _ _ _ _, fun g _ e => (by cases e), fun y hy => (by cases hy)⟩
theorem RfS.step {w : World} {R : List Value} {pr : ByteArray} {us : List A5} {ha : Option Addr} {hc d : Nat} {xs : List XL} {a' : Option Addr} {c' : Nat} {U w2 w3 : World} (h : RfS w R pr us ha hc d xs a' c' U) (b2 : Below U.heap.size U w2) (y : XL) (hy : Frl U.heap.size w2 (fun _ => False) d y.x y.p) {o : Obj} {v' : Value}
    (hown' : w3.ownsRow (w.heap.size + 3) 76 16 v' (xs.length + 1) (xs.flatMap XL.cells ++ XL.cells y)) (hgrow : (w2.alloc o).grownBy w3 (Value.slice a' xs.length c').ownBlock) (hloc : v'.ownBlock = (Value.slice a' xs.length c').ownBlock ∨ v'.ownBlock = some (w2.alloc o).heap.size) :
    ∃ a2 c2, v' = .slice a2 (xs.length + 1) c2 ∧ RfS w R pr us ha hc d (xs ++ [y]) a2 c2 (w3.setCell ⟨w.heap.size + 2, 2, none⟩ (.slice a2 (xs.length + 1) c2)) ∧ w3.cell? ⟨w.heap.size + 2, 2, none⟩ = some (.slice a' xs.length c') ∧ w3.frozen? ⟨w.heap.size + 2, 2, none⟩ = false := by
  obtain ⟨a2, c2, rfl, _⟩ := own_form hown'
  have hA := belowA (w := w2) o
  have hb2 := b2.trans (hA.mono b2.size)
  have hlt := fun g (hg : (Value.slice a' xs.length c').ownBlock = some g) => h.own.lt g hg
  have hlh := fun g (hg : (Value.slice ha us.length hc).ownBlock = some g) => h.ownh.lt g hg
  have hz := h.bz
  have hs3 := hgrow.size
  have hs2 := hb2.size
  have kb : ∀ j, j < U.heap.size → (Value.slice a' xs.length c').ownBlock ≠ some j → w3.heap[j]? = U.heap[j]? := fun j hj hn => (hgrow.block j (by omega) (fun e => hn e.symm)).trans (hb2.block j hj)
  have kl : ∀ j, j < w.heap.size + 3 → w3.heap[j]? = U.heap[j]? := fun j hj => kb j (by omega) (fun e => by have := (hlt j e).1; omega)
  have q0 : RL w3 w.heap.size 29 R := World.rowIs.of_block h.r0 (kl _ (by omega))
  have q1 : RL w3 (w.heap.size + 1) 29 [.string ⟨#[]⟩, .slice none 0 0, .slice none 0 0] := World.rowIs.of_block h.r1 (kl _ (by omega))
  have q2 : RL w3 (w.heap.size + 2) 29 [.string pr, .slice ha us.length hc, .slice a' xs.length c'] := World.rowIs.of_block h.r2 (kl _ (by omega))
  have hl1 : (xs ++ [y]).length = xs.length + 1 := by simp
  have hnew : ∀ k, (Value.slice a2 (xs.length + 1) c2).ownBlock = some k → (Value.slice a' xs.length c').ownBlock = some k ∨ k = (w2.alloc o).heap.size := fun k hk => by
    rcases hloc with l | l
    · rw [l] at hk; exact .inl hk
    · rw [l] at hk; exact .inr (Option.some.inj hk).symm
  refine ⟨a2, c2, rfl, ⟨?_, by simp only [World.size_setCell]; omega, q0.other (by omega) _, q1.other (by omega) _, ?_, ?_, ?_, fun g hg => ?_, ?_⟩, q2.at (j := 2) rfl, World.rowIs.frozen q2 2⟩
  · refine Below.setCell (p := ⟨w.heap.size + 2, 2, none⟩) ?_ (by show _ ≤ w.heap.size + 2; omega) _
    exact (h.bel.trans (hb2.mono h.bel.size)).grown hgrow (by have := h.bel.size; omega) (fun j hj => by have := (hlt j hj).1; omega)
  · rw [hl1]; exact q2.set 2 _
  · refine own_of_block h.ownh (fun g hg => ?_)
    have := hlh g hg
    rw [heap_setCell_other _ _ _ _ (by show g ≠ w.heap.size + 2; omega)]
    exact kb g this.2 (h.dj g hg)
  · rw [hl1, List.flatMap_append]
    refine own_of_block (sv := .slice a2 (xs.length + 1) c2) ?_ (fun g hg => heap_setCell_other _ _ _ _ (by have := (hown'.lt g hg).1; show g ≠ w.heap.size + 2; omega))
    simpa using hown'
  · rw [hl1]
    intro e
    rcases hnew g e with e | e
    · exact h.dj g hg e
    · have := (hlh g hg).2; omega
  · intro z hz'
    rw [hl1]
    rcases List.mem_append.1 hz' with hz' | hz'
    · refine (h.fr z hz').keep (by simp only [World.size_setCell]; omega) (fun k k1 k2 k3 => ?_) (fun k hk e => ?_)
      · rw [heap_setCell_other _ _ _ _ (by show k ≠ w.heap.size + 2; omega)]
        exact kb k k2 k3
      · rcases hnew k e with e | e
        · exact e
        · omega
    · obtain rfl := List.mem_singleton.1 hz'
      have hsz : w2.heap.size + 1 = (w2.alloc o).heap.size := by simp
      intro w'' s1 s2
      simp only [World.size_setCell] at s1 s2
      refine hy w'' (by omega) (fun k k1 k2 _ => ?_)
      have hne : (Value.slice a' xs.length c').ownBlock ≠ some k := fun e => by have := (hlt k e).2; omega
      rw [s2 k (by omega) (by omega) (fun e => ?_), heap_setCell_other _ _ _ _ (by show k ≠ w.heap.size + 2; omega), hgrow.block k (by omega) (fun e => hne e.symm), hA.block k k2]
      rcases hnew k e with e | e
      · exact hne e
      · omega
/-- a rule whose lists lie in blocks from lo on: it stays while these stay -/
def Frr (lo : Nat) (wr : World) (d : Nat) (r : R3) (p : RP) : Prop :=
  ∀ w'' : World, wr.heap.size ≤ w''.heap.size → (∀ k, lo ≤ k → k < wr.heap.size → w''.heap[k]? = wr.heap[k]?) → RIs w'' d r p
theorem Frr.is {lo : Nat} {wr : World} {d : Nat} {r : R3} {p : RP} (h : Frr lo wr d r p) : RIs wr d r p := h wr (Nat.le_refl _) (fun _ _ _ => rfl)
theorem Frr.lower {lo lo' : Nat} {wr : World} {d : Nat} {r : R3} {p : RP} (h : Frr lo wr d r p) (hl : lo' ≤ lo) : Frr lo' wr d r p := fun w'' h1 h2 => h w'' h1 (fun k k1 k2 => h2 k (Nat.le_trans hl k1) k2)
theorem Frr.keep {lo : Nat} {wr wr' : World} {d : Nat} {r : R3} {p : RP} (h : Frr lo wr d r p) (hs : wr.heap.size ≤ wr'.heap.size) (hag : ∀ k, lo ≤ k → k < wr.heap.size → wr'.heap[k]? = wr.heap[k]?) : Frr lo wr' d r p := fun w'' h1 h2 => h w'' (Nat.le_trans hs h1) (fun k k1 k2 => (h2 k k1 (Nat.lt_of_lt_of_le k2 hs)).trans (hag k k1 k2))
theorem RfS.done {w : World} {R : List Value} {pr : ByteArray} {us : List A5} {ha : Option Addr} {hc d : Nat} {xs : List XL} {a' : Option Addr} {c' : Nat} {wr : World} (h : RfS w R pr us ha hc d xs a' c' wr) (hpr : pr.size ≤ maxLen) (hh : us.length ≤ 1048576) (hb : xs.length ≤ 1048576) (hw : ∀ t ∈ us, t.wf) :
    RL (res3 wr (w.heap.size + 1) pr (.slice ha us.length hc) (.slice a' xs.length c')) (w.heap.size + 1) 29 [.string pr, .slice ha us.length hc, .slice a' xs.length c'] ∧ Below w.heap.size w (res3 wr (w.heap.size + 1) pr (.slice ha us.length hc) (.slice a' xs.length c')) ∧ Frr w.heap.size (res3 wr (w.heap.size + 1) pr (.slice ha us.length hc) (.slice a' xs.length c')) d ⟨pr, us, xs⟩ ⟨ha, hc, a', c'⟩ := by
  refine ⟨res3_rl h.r1 _ _ _, res3_below (g := w.heap.size + 1) h.bel (by omega) _ _ _, fun w'' s1 s2 => ?_⟩
  rw [res3_size] at s1 s2
  have ag : ∀ k, w.heap.size + 3 ≤ k → k < wr.heap.size → w''.heap[k]? = wr.heap[k]? := fun k k1 k2 => by
    rw [s2 k (by omega) k2]
    exact res3_other _ _ _ _ _ (by omega)
  refine ⟨hpr, by show us.length ≤ _; omega, by show xs.length ≤ _; omega, ⟨?_, hw⟩, ⟨?_, fun y hy => ?_⟩⟩
  · exact ls_own (own_of_block h.ownh (fun g hg => ag g (h.ownh.lt g hg).1 (h.ownh.lt g hg).2))
  · exact ls_own (own_of_block h.own (fun g hg => ag g (h.own.lt g hg).1 (h.own.lt g hg).2))
  · exact h.fr y hy _ s1 (fun k k1 k2 _ => ag k k1 k2)
end Go.Proofs.YtklflppgaciifaaGreatDoor
end
