import Derived.Test.YteabclfhmapabaaGreatDoorA6
section
namespace Go.Proofs.YteabclfhmapabaaGreatDoor
open Go.RowKit Go.Maps
set_option linter.unusedVariables false
set_option linter.unusedSimpArgs false
attribute [local go_sem ↓] Go.wp_at_zero Go.wp_at_succ

set_option maxHeartbeats 3200000 in
theorem literalPartsT_any (d : Nat) (x : Lit4) (p : LP) (w : World) (h : LIs w d x p) (lf : Nat) (hlf : lf ≤ 1048576) :
    Calls Tryz.prog 29 #[x.val p, .int .i64 (lf : Int)] w fun r w' => ∃ n : Int, r = .returned (.int .i64 n) ∧ Below w.heap.size w w' ∧ (0 ≤ n ∧ n ≤ (lf : Int) + 1) ∧ (n ≤ (lf : Int) → smallL d x ∧ 1 + ((termsL d x).length : Int) ≤ n) := by
  have HE1 : Hid (∀ u, Below w.heap.size w u → Calls Tryz.prog 58 #[x.l.val p.la p.lc, .int .i64 (lf : Int)] u fun r w' => ∃ n : Int, r = .returned (.int .i64 n) ∧ Below u.heap.size u w' ∧ (0 ≤ n ∧ n ≤ (lf : Int) + 1) ∧ (n ≤ (lf : Int) → smallE d x.l ∧ (szD d x.l : Int) ≤ n)) := fun u hu => exprPartsS_any d x.l p.la p.lc u (h.l.below hu) lf hlf
  have HE2 : Hid (∀ u (z : Int), 0 ≤ z → z ≤ 1048576 → Below w.heap.size w u → Calls Tryz.prog 58 #[x.r.val p.ra p.rc, .int .i64 z] u fun r w' => ∃ n : Int, r = .returned (.int .i64 n) ∧ Below u.heap.size u w' ∧ (0 ≤ n ∧ n ≤ z + 1) ∧ (n ≤ z → smallE d x.r ∧ (szD d x.r : Int) ≤ n)) := fun u z h0 h1 hu => by
    obtain ⟨m, rfl⟩ : ∃ m : Nat, z = m := ⟨z.toNat, by omega⟩
    exact exprPartsS_any d x.r p.ra p.rc u (h.r.below hu) m (by omega)
  have BA := (Below.refl w.heap.size w).alloc (Nat.le_refl _) (.cells #[.int .i8 x.k, .string x.pr, .slice p.a x.ts.length p.c, .int .i8 x.rel, .int .i8 x.l.op, .string x.l.t.v, .int .i8 x.l.t.a.k, .int .i64 x.l.t.a.n, .string x.l.t.a.s, .slice p.la x.l.kids.length p.lc, .int .i8 x.r.op, .string x.r.t.v, .int .i8 x.r.t.a.k, .int .i64 x.r.t.a.n, .string x.r.t.a.s, .slice p.ra x.r.kids.length p.rc] 53)
  have HR0 : Hid (RL (w.alloc (.cells #[.int .i8 x.k, .string x.pr, .slice p.a x.ts.length p.c, .int .i8 x.rel, .int .i8 x.l.op, .string x.l.t.v, .int .i8 x.l.t.a.k, .int .i64 x.l.t.a.n, .string x.l.t.a.s, .slice p.la x.l.kids.length p.lc, .int .i8 x.r.op, .string x.r.t.v, .int .i8 x.r.t.a.k, .int .i64 x.r.t.a.n, .string x.r.t.a.s, .slice p.ra x.r.kids.length p.rc] 53)) w.heap.size 53 [.int .i8 x.k, .string x.pr, .slice p.a x.ts.length p.c, .int .i8 x.rel, .int .i8 x.l.op, .string x.l.t.v, .int .i8 x.l.t.a.k, .int .i64 x.l.t.a.n, .string x.l.t.a.s, .slice p.la x.l.kids.length p.lc, .int .i8 x.r.op, .string x.r.t.v, .int .i8 x.r.t.a.k, .int .i64 x.r.t.a.n, .string x.r.t.a.s, .slice p.ra x.r.kids.length p.rc]) := rl_new w #[.int .i8 x.k, .string x.pr, .slice p.a x.ts.length p.c, .int .i8 x.rel, .int .i8 x.l.op, .string x.l.t.v, .int .i8 x.l.t.a.k, .int .i64 x.l.t.a.n, .string x.l.t.a.s, .slice p.la x.l.kids.length p.lc, .int .i8 x.r.op, .string x.r.t.v, .int .i8 x.r.t.a.k, .int .i64 x.r.t.a.n, .string x.r.t.a.s, .slice p.ra x.r.kids.length p.rc] 53
  have HBA : Hid (Below w.heap.size w _) := BA
  have hln := h.ln
  have hlen1 : IntKind.i64.wrap (1 + (x.ts.length : Int)) = 1 + (x.ts.length : Int) := wrap_mid (by omega) (by omega)
  clear h BA
  unfold Lit4.val E.val at *
  go_enter Tryz.func29, Tryz.ntmps29
  go_upto_region 1 with fail
  generalize hWW : w.alloc (.cells #[.int .i8 x.k, .string x.pr, .slice p.a x.ts.length p.c, .int .i8 x.rel, .int .i8 x.l.op, .string x.l.t.v, .int .i8 x.l.t.a.k, .int .i64 x.l.t.a.n, .string x.l.t.a.s, .slice p.la x.l.kids.length p.lc, .int .i8 x.r.op, .string x.r.t.v, .int .i8 x.r.t.a.k, .int .i64 x.r.t.a.n, .string x.r.t.a.s, .slice p.ra x.r.kids.length p.rc] 53) = W at HR0 HBA ⊢
  clear hWW
  have HC : Hid (∀ u, Below W.heap.size W u → Below w.heap.size w u ∧ u.cell? ⟨w.heap.size, 2, none⟩ = some (.slice p.a x.ts.length p.c) ∧ u.cell? ⟨w.heap.size, 4, none⟩ = some (.int .i8 x.l.op) ∧ u.cell? ⟨w.heap.size, 5, none⟩ = some (.string x.l.t.v) ∧ u.cell? ⟨w.heap.size, 6, none⟩ = some (.int .i8 x.l.t.a.k) ∧ u.cell? ⟨w.heap.size, 7, none⟩ = some (.int .i64 x.l.t.a.n) ∧ u.cell? ⟨w.heap.size, 8, none⟩ = some (.string x.l.t.a.s) ∧ u.cell? ⟨w.heap.size, 9, none⟩ = some (.slice p.la x.l.kids.length p.lc)) := fun u hu => by
    have hr := RL.below HR0.out hu
    exact ⟨HBA.out.trans (hu.mono HBA.out.size), (hr.at (j := 2) rfl), (hr.at (j := 4) rfl), (hr.at (j := 5) rfl), (hr.at (j := 6) rfl), (hr.at (j := 7) rfl), (hr.at (j := 8) rfl), (hr.at (j := 9) rfl)⟩
  have hB0 : Below W.heap.size W W.drew := (Below.refl _ _).drew
  have hS0 := HC.out _ (Below.refl _ _)
  go_region_held3 (fun u => (Below W.heap.size W u) ∧ u.cell? ⟨w.heap.size, 2, none⟩ = some (.slice p.a x.ts.length p.c) ∧ u.cell? ⟨w.heap.size, 4, none⟩ = some (.int .i8 x.l.op) ∧ u.cell? ⟨w.heap.size, 5, none⟩ = some (.string x.l.t.v) ∧ u.cell? ⟨w.heap.size, 6, none⟩ = some (.int .i8 x.l.t.a.k) ∧ u.cell? ⟨w.heap.size, 7, none⟩ = some (.int .i64 x.l.t.a.n) ∧ u.cell? ⟨w.heap.size, 8, none⟩ = some (.string x.l.t.a.s) ∧ u.cell? ⟨w.heap.size, 9, none⟩ = some (.slice p.la x.l.kids.length p.lc))
    (first
      | assumption
      | exact ⟨hB0, (HC.out _ hB0).2⟩
      | exact ⟨(by assumption), (HC.out _ (by assumption)).2⟩)
    (first
      | (go_at_call 58; refine Calls.mono (HE1.out _ (HC.out _ (by assumption)).1) ?_; rintro ee wf ⟨n1, rfl, bf, ⟨hn0, hn1⟩, hsm⟩; have HSM : Hid _ := hsm; clear hsm; have bf' := next_below (wc := W) (by assumption) bf; have hw2 : IntKind.i64.wrap (1 + (x.ts.length : Int) + n1) = 1 + (x.ts.length : Int) + n1 := wrap_mid (by omega) (by omega))
      | fail)
  have H1 : Hid (RL wf w.heap.size 53 [.int .i8 x.k, .string x.pr, .slice p.a x.ts.length p.c, .int .i8 x.rel, .int .i8 x.l.op, .string x.l.t.v, .int .i8 x.l.t.a.k, .int .i64 x.l.t.a.n, .string x.l.t.a.s, .slice p.la x.l.kids.length p.lc, .int .i8 x.r.op, .string x.r.t.v, .int .i8 x.r.t.a.k, .int .i64 x.r.t.a.n, .string x.r.t.a.s, .slice p.ra x.r.kids.length p.rc]) := RL.below HR0.out bf'
  have B1 : Hid (Below w.heap.size w wf) := (HC.out _ bf').1
  clear HC hB0 hS0 HR0 HBA bf bf' HE1
  by_cases hbig : (lf : Int) < 1 + (x.ts.length : Int) + n1
  · have hw3 : IntKind.i64.wrap ((lf : Int) + 1) = (lf : Int) + 1 := wrap_mid (by omega) (by omega)
    go_wp2
    go_ret
    exact ⟨_, rfl, B1.out, ⟨by omega, by omega⟩, fun h => absurd h (by omega)⟩
  · have hw3 : IntKind.i64.wrap ((lf : Int) - (1 + (x.ts.length : Int) + n1)) = (lf : Int) - (1 + (x.ts.length : Int) + n1) := wrap_mid (by omega) (by omega)
    have z10 := H1.out.at (j := 10) rfl
    have z11 := H1.out.at (j := 11) rfl
    have z12 := H1.out.at (j := 12) rfl
    have z13 := H1.out.at (j := 13) rfl
    have z14 := H1.out.at (j := 14) rfl
    have z15 := H1.out.at (j := 15) rfl
    go_wp2_with fail
    refine Calls.mono (HE2.out _ _ (by omega) (by omega) B1.out) ?_
    rintro ee w2 ⟨n2, rfl, b2, ⟨hm0, hm1⟩, hsm⟩
    have HS2 : Hid _ := hsm
    have hw4 : IntKind.i64.wrap (1 + (x.ts.length : Int) + n1 + n2) = 1 + (x.ts.length : Int) + n1 + n2 := wrap_mid (by omega) (by omega)
    clear hsm
    go_wp2
    go_ret
    exact ⟨_, rfl, B1.out.trans (b2.mono B1.out.size), ⟨by omega, by omega⟩, fun h => ⟨⟨by omega, ⟨(HSM.out (by omega)).1, by have := (HSM.out (by omega)).2; omega⟩, ⟨(HS2.out (by omega)).1, by have := (HS2.out (by omega)).2; omega⟩⟩, by have e1 := (HSM.out (by omega)).2; have e2 := (HS2.out (by omega)).2; unfold szD at e1 e2; unfold termsL; simp only [List.length_append]; omega⟩⟩
end Go.Proofs.YteabclfhmapabaaGreatDoor
end
section
namespace Go.Proofs.YteabclfhmapabaaGreatDoor
open Go.RowKit Go.Maps
set_option linter.unusedVariables false
set_option linter.unusedSimpArgs false
attribute [local go_sem ↓] Go.wp_at_zero Go.wp_at_succ
attribute [-go_sem] loadVar storeVar

/-- a rule that is not beyond the bound -/
structure smallR (d : Nat) (r : R3) : Prop where
  hd : r.hd.length ≤ 1048576
  bd : r.bd.length ≤ 1048576
  each : ∀ y ∈ r.bd, smallL d y.x
  terms : (termsR d r).length ≤ 1048576
theorem takeL {l : List XL} {k : Nat} (h : k < l.length) : l.take (k + 1) = l.take k ++ [atL l k] := by rw [List.take_add_one, List.getElem?_eq_getElem h, atL_eq h]; rfl
set_option maxHeartbeats 3200000 in
theorem rulePartsR_any (d : Nat) (r : R3) (p : RP) (w : World) (hR : RIs w d r p) :
    Calls Tryz.prog 11 #[r.val p, .int .i64 1048576] w fun e w' => ∃ n : Int, e = .returned (.int .i64 n) ∧ Below w.heap.size w w' ∧ (n ≤ 1048576 → smallR d r) := by
  obtain ⟨pr, hd, bd⟩ := r
  obtain ⟨pa, pc, ba, bc⟩ := p
  have hhl := hR.hl
  have hbl := hR.bl
  have h2 := hR.bd
  unfold R3.val
  dsimp only at hhl hbl h2 ⊢
  have HEa : Hid (∀ i, i < bd.length → LIs w d (atL bd i).x (atL bd i).p) := fun i hi => h2.at_is hi
  obtain ⟨a1, c1, e1, hc1, hc2, hk⟩ := h2.form
  cases e1
  have HK : Hid _ := hk
  have HBA : Hid (Below w.heap.size w (w.alloc (.cells #[.string pr, .slice pa hd.length pc, .slice ba bd.length bc] 25))) := (Below.refl w.heap.size w).alloc (Nat.le_refl _) _
  have HR0 : Hid (RL (w.alloc (.cells #[.string pr, .slice pa hd.length pc, .slice ba bd.length bc] 25)) w.heap.size 25 [.string pr, .slice pa hd.length pc, .slice ba bd.length bc]) := rl_new w #[.string pr, .slice pa hd.length pc, .slice ba bd.length bc] 25
  have hagg1 := fun q => loadVar.eq_1 23 q
  have hagg2 := fun q => loadVar.eq_1 22 q
  have hw0 : IntKind.i64.wrap (1 + (hd.length : Int)) = 1 + (hd.length : Int) := wrap_mid (by omega) (by omega)
  clear hk h2 hR hc2
  go_enter Tryz.func11, Tryz.ntmps11
  go_wp2
  clear hw0
  go_loopw [5, 6] (fun n i wr => ∃ (k : Nat) (m : Int), k ≤ bd.length ∧ i = .int .i64 k ∧ n = .int .i64 m ∧ 0 ≤ m ∧ m ≤ 281474976710657 ∧ Below w.heap.size w wr ∧ Hid (RL wr w.heap.size 25 [.string pr, .slice pa hd.length pc, .slice ba bd.length bc]) ∧ Hid (m ≤ 1048576 → 1 + (hd.length : Int) + (k : Int) + (((bd.take k).flatMap (fun y => termsL d y.x)).length : Int) ≤ m ∧ ∀ y ∈ bd.take k, smallL d y.x)) (fun _ i _ => bd.length - (intOf i).toNat)
  case atStart => exact ⟨0, 1 + (hd.length : Int), Nat.zero_le _, rfl, rfl, by omega, by omega, HBA.out, HR0, fun _ => ⟨by simp, fun y hy => by simp at hy⟩⟩
  case round =>
    obtain ⟨k, m, hk, rfl, rfl, hm0, hm1, bel, HR, HS⟩ := hrel
    have r2 := HR.out.at (j := 2) rfl
    clear HR0 HBA
    by_cases hlt : k < bd.length
    · have hlt' : (k : Int) < (bd.length : Int) := by omega
      by_cases hmm : m ≤ 1048576
      · obtain ⟨g, off, rfl, hg, hKS⟩ := HK.out (by omega)
        have hld := load_Lit (range_below (hKS k hlt) bel hg) rfl
        rw [XL.val_eq] at hld
        have hXk := (HEa.out k hlt).below bel
        have hw1 : IntKind.i64.wrap (1048576 - m) = 1048576 - m := wrap_mid (by omega) (by omega)
        have HP : Hid (∀ z : Int, 0 ≤ z → z ≤ 1048576 → Calls Tryz.prog 29 #[(atL bd k).x.val (atL bd k).p, .int .i64 z] wr fun r w' => ∃ n : Int, r = .returned (.int .i64 n) ∧ Below wr.heap.size wr w' ∧ (0 ≤ n ∧ n ≤ z + 1) ∧ (n ≤ z → smallL d (atL bd k).x ∧ 1 + ((termsL d (atL bd k).x).length : Int) ≤ n)) := fun z h0 h1 => by
          obtain ⟨q, rfl⟩ : ∃ q : Nat, z = q := ⟨z.toNat, by omega⟩
          exact literalPartsT_any d _ _ wr hXk q (by omega)
        have HTk : Hid _ := takeL hlt
        generalize (atL bd k).x.val (atL bd k).p = QV at hld HP
        clear hKS hXk
        go_wp2_with fail
        refine Calls.mono (HP.out _ (by omega) (by omega)) ?_
        rintro ee w1 ⟨n1, rfl, b1, ⟨hn0, hn1⟩, hsm⟩
        have HR1 : Hid (RL w1 w.heap.size 25 _) := RL.below HR.out b1
        have bel1 := bel.trans (b1.mono bel.size)
        have HSM : Hid _ := hsm
        have hw2 : IntKind.i64.wrap (m + n1) = m + n1 := wrap_mid (by omega) (by omega)
        clear hsm b1 bel r2 HR HP hld
        go_wp2
        go_roundw
        case rel =>
          refine ⟨k + 1, m + n1, by omega, by go_num, rfl, by omega, by omega, bel1, HR1, fun h => ?_⟩
          obtain ⟨h1, h2⟩ := HS.out (by omega)
          obtain ⟨h3, h4⟩ := HSM.out (by omega)
          rw [HTk.out, List.flatMap_append, List.length_append]
          refine ⟨by simp only [List.flatMap_cons, List.flatMap_nil, List.append_nil]; omega, fun y hy => ?_⟩
          rcases List.mem_append.1 hy with h5 | h5
          · exact h2 y h5
          · rw [List.mem_singleton.1 h5]; exact h3
        case measure => simp [intOf]; omega
      · have hmm' : ¬ m ≤ 1048576 := hmm
        go_wp2
        go_ret
        exact ⟨_, rfl, bel, fun h => absurd h (by omega)⟩
    · obtain rfl : k = bd.length := by omega
      rw [List.take_length] at HS
      go_wp2
      go_ret
      refine ⟨_, rfl, bel, fun h => ?_⟩
      obtain ⟨h1, h2⟩ := HS.out h
      exact ⟨by show hd.length ≤ _; omega, by show bd.length ≤ _; omega, h2, by unfold termsR; rw [List.length_append, List.length_map]; show hd.length + (bd.flatMap _).length ≤ _; omega⟩
theorem beyondRule_any (d : Nat) (r : R3) (p : RP) (w : World) (hR : RIs w d r p) :
    Calls Tryz.prog 4 #[r.val p] w fun e w' => ∃ b : Bool, e = .returned (.bool b) ∧ Below w.heap.size w w' ∧ (b = false → smallR d r) := by
  have BA := (Below.refl w.heap.size w).alloc (Nat.le_refl _) (.cells #[.string r.pr, .slice p.a r.hd.length p.c, .slice p.ba r.bd.length p.bc] 25)
  have HP : Hid _ := rulePartsR_any d r p _ (hR.below BA)
  have HR0 : RL (w.alloc (.cells #[.string r.pr, .slice p.a r.hd.length p.c, .slice p.ba r.bd.length p.bc] 25)) w.heap.size 25 [.string r.pr, .slice p.a r.hd.length p.c, .slice p.ba r.bd.length p.bc] := rl_new w #[.string r.pr, .slice p.a r.hd.length p.c, .slice p.ba r.bd.length p.bc] 25
  have hld : (loadVar 25 ⟨w.heap.size, 0, none⟩).run Tryz.prog (w.alloc (.cells #[.string r.pr, .slice p.a r.hd.length p.c, .slice p.ba r.bd.length p.bc] 25)) = .ok (.agg #[.string r.pr, .slice p.a r.hd.length p.c, .slice p.ba r.bd.length p.bc]) _ := run_loadVar_mid _ _ 0 25 [.string r.pr, .slice p.a r.hd.length p.c, .slice p.ba r.bd.length p.bc] _ (RL.range HR0) Tryz.underlying25 rfl (by kernel_rfl)
  clear hR HR0
  unfold R3.val at *
  go_enter Tryz.func4, Tryz.ntmps4
  go_wp2_with fail
  refine Calls.mono HP.out ?_
  rintro e w1 ⟨n, rfl, b1, hs⟩
  have HS : Hid _ := hs
  clear hs HP hld
  go_wp2
  go_ret
  exact ⟨_, rfl, BA.trans (b1.mono BA.size), fun h => HS.out (by simpa using h)⟩
end Go.Proofs.YteabclfhmapabaaGreatDoor
end
section
namespace Go.Proofs.YteabclfhmapabaaGreatDoor
open Go.RowKit Go.Maps
set_option linter.unusedVariables false
set_option linter.unusedSimpArgs false
attribute [local go_sem ↓] Go.wp_at_zero Go.wp_at_succ

theorem dropA {l : List A5} {k : Nat} (h : k < l.length) : (l.drop k).map A5.t = (atA l k).t :: (l.drop (k + 1)).map A5.t := by rw [List.drop_eq_getElem_cons h, atA_eq h]; rfl
theorem dropL {d : Nat} {l : List XL} {k : Nat} (h : k < l.length) : (l.drop k).flatMap (fun y => termsL d y.x) = termsL d (atL l k).x ++ (l.drop (k + 1)).flatMap (fun y => termsL d y.x) := by rw [List.drop_eq_getElem_cons h, List.flatMap_cons, atL_eq h]
theorem ruRule (v : Value) (w : World) : (Instr.typeAssert (.iface 95 v) 20 95 true).run Tryz.prog w = .ok (.tuple #[v, .bool true]) w := by kernel_rfl
set_option maxHeartbeats 3200000 in
set_option maxRecDepth 100000 in
theorem walkRule_any {B : Nat} {w0 : World} {bo bs bm : Nat} {ns : List ByteArray} {sv : Value} {w : World} (h : Vst B w0 bo bs bm ns sv w) (hB : B = w0.heap.size) (b : Nat) (hb : b < B) (d : Nat) (r : R3) (p : RP) (hx : w0.rangeAt b 0 (r.cells p)) (hR : RIs w0 d r p) (hn : ns.length + (termsR d r).length ≤ 4398046511104) :
    Calls Tryz.prog 35 #[.iface 95 (.pointer (some ⟨b, 0, none⟩)), handV bs bo] w fun e w' => (∃ u, e = .returned u) ∧ ∃ sv', Vst B w0 bo bs bm (vsT ns (termsR d r)) sv' w' := by
  obtain ⟨pr, hd, bd⟩ := r
  obtain ⟨pa, pc, ba, bc⟩ := p
  have hhl := hR.hl
  have hbl := hR.bl
  have h1 := hR.hd
  have h2 := hR.bd
  unfold termsR at hn ⊢
  dsimp only at hhl hbl h1 h2 hn ⊢
  have HEa : Hid (∀ i, i < bd.length → LIs w0 d (atL bd i).x (atL bd i).p) := fun i hi => h2.at_is hi
  have HWa : Hid (∀ i, i < hd.length → (atA hd i).wf) := fun i hi => h1.at_wf hi
  obtain ⟨a1, c1, e1, hc1, hc2, hk1⟩ := h1.form
  cases e1
  obtain ⟨a2, c2, e2, hc3, hc4, hk2⟩ := h2.form
  cases e2
  have HK1 : Hid _ := hk1
  have HK2 : Hid _ := hk2
  have HCC : Hid (∀ u, Below B w0 u → u.cell? ⟨b, 1, none⟩ = some (.slice pa hd.length pc) ∧ u.cell? ⟨b, 2, none⟩ = some (.slice ba bd.length bc)) := fun u hu => ⟨by rw [hu.cell (p := ⟨b, 1, none⟩) hb]; exact hx 1 _ rfl, by rw [hu.cell (p := ⟨b, 2, none⟩) hb]; exact hx 2 _ rfl⟩
  have HV : Hid (Vst B w0 bo bs bm ns sv w) := h
  obtain ⟨c1', c2'⟩ := HCC.out w h.bel
  have t1 := ruRule (.pointer (some ⟨b, 0, none⟩))
  simp only [List.length_append, List.length_map] at hn
  obtain ⟨res, HRS⟩ : ∃ res, Hid (vsT ns (hd.map A5.t ++ bd.flatMap (fun y => termsL d y.x)) = res) := ⟨_, rfl⟩
  rw [HRS.out]
  have HN : Hid _ := hn
  clear hk1 hk2 h1 h2 hR hx h hc2 hc4 hn
  unfold handV
  go_enter Tryz.func35, Tryz.ntmps35
  go_wp2
  clear c1' c2' t1
  go_loopw [21] (fun i wr => ∃ k : Nat, k ≤ hd.length ∧ i = .int .i64 k ∧ ∃ (ns' : List ByteArray) (sv' : Value), Hid (Vst B w0 bo bs bm ns' sv' wr) ∧ ns'.length ≤ ns.length + k ∧ Hid (vsT ns' ((hd.drop k).map A5.t ++ bd.flatMap (fun y => termsL d y.x)) = res)) (fun i _ => hd.length - (intOf i).toNat)
  case atStart => exact ⟨0, Nat.zero_le _, rfl, ns, sv, HV, Nat.le_refl _, HRS⟩
  case round =>
    obtain ⟨k, hk, rfl, ns', sv', HV', hl, HS⟩ := hrel
    obtain ⟨x1, x2⟩ := HCC.out wr HV'.out.bel
    by_cases hlt : k < hd.length
    · have hlt' : (k : Int) < (hd.length : Int) := by omega
      have hk0 : (0 : Int) ≤ (k : Int) := by omega
      obtain ⟨g, off, rfl, hg, hT⟩ := HK1.out (by omega)
      have hgB : g < B := by rw [hB]; exact hg
      have y0 : wr.cell? ⟨g, off + k * 5 + 1, none⟩ = some (.string (atA hd k).t.v) := by rw [HV'.out.bel.cell (p := ⟨g, off + k * 5 + 1, none⟩) hgB]; exact hT k hlt 1 _ rfl
      have hxw := (HWa.out k hlt).t.text
      have HNN : Hid (vsT (stepN ns' (atA hd k).t.v) ((hd.drop (k + 1)).map A5.t ++ bd.flatMap (fun y => termsL d y.x)) = res) := by show _ = res; rw [← HS.out, dropA hlt, List.cons_append, vsT_step]
      have HH : Hid _ := hand_any HV'.out (by have := HN.out; omega) g (off + k * 5 + 1) (atA hd k).t.v hgB hxw y0
      have HLn : Hid _ := stepN_len ns' (atA hd k).t.v
      clear hT hxw y0 HS
      generalize (atA hd k).t.v = t at HNN HH HLn
      go_wp2_with fail
      refine Calls.mono HH.out ?_
      rintro e w2 ⟨⟨u, rfl⟩, sv2, hv2⟩
      go_wp2
      go_roundw
      case rel => exact ⟨k + 1, by omega, by go_num, stepN ns' t, sv2, hv2, by have := HLn.out; omega, HNN⟩
      case measure => simp [intOf]; omega
    · obtain rfl : k = hd.length := by omega
      have HV2 : Hid (vsT ns' (bd.flatMap (fun y => termsL d y.x)) = res) := by show _ = res; rw [← HS.out, List.drop_length]; rfl
      have HVk : Hid _ := HV'.out
      clear HS HV'
      have hnl : ns'.length + (bd.flatMap (fun y => termsL d y.x)).length ≤ 4398046511104 := by have := HN.out; omega
      have HNL : Hid _ := hnl
      clear hnl
      go_wp2
      clear x1 x2
      go_loopw [39] (fun i wr => ∃ k : Nat, k ≤ bd.length ∧ i = .int .i64 k ∧ ∃ (ns1 : List ByteArray) (sv1 : Value), Hid (Vst B w0 bo bs bm ns1 sv1 wr) ∧ Hid (ns1.length + ((bd.drop k).flatMap (fun y => termsL d y.x)).length ≤ 4398046511104) ∧ Hid (vsT ns1 ((bd.drop k).flatMap (fun y => termsL d y.x)) = res)) (fun i _ => bd.length - (intOf i).toNat)
      case atStart => exact ⟨0, Nat.zero_le _, rfl, ns', sv', HVk, HNL, HV2⟩
      case round =>
        obtain ⟨k, hk, rfl, ns1, sv1, HV', HL, HS⟩ := hrel
        obtain ⟨x1, x2⟩ := HCC.out wr HV'.out.bel
        by_cases hlt : k < bd.length
        · have hlt' : (k : Int) < (bd.length : Int) := by omega
          have hk0 : (0 : Int) ≤ (k : Int) := by omega
          obtain ⟨g, off, rfl, hg, hT⟩ := HK2.out (by omega)
          have hgB : g < B := by rw [hB]; exact hg
          have hle := HL.out
          rw [dropL hlt, List.length_append] at hle
          have HH : Hid _ := walkLiteral_any HV'.out hB g (off + k * 16) hgB d (atL bd k).x (atL bd k).p (lat_range (hT k hlt)) (HEa.out k hlt) (by omega)
          have HNN : Hid (vsT (vsT ns1 (termsL d (atL bd k).x)) ((bd.drop (k + 1)).flatMap (fun y => termsL d y.x)) = res) := by show _ = res; rw [← HS.out, dropL hlt, vsT_append]
          have HLn : Hid ((vsT ns1 (termsL d (atL bd k).x)).length + ((bd.drop (k + 1)).flatMap (fun y => termsL d y.x)).length ≤ 4398046511104) := by have := vsT_len (termsL d (atL bd k).x) ns1; show _ ≤ _; omega
          clear hT HS HL hle
          generalize vsT ns1 (termsL d (atL bd k).x) = n2 at HH HNN HLn
          unfold handV at HH
          go_wp2_with fail
          refine Calls.mono HH.out ?_
          rintro e w2 ⟨⟨u, rfl⟩, sv2, hv2⟩
          go_wp2
          go_roundw
          case rel => exact ⟨k + 1, by omega, by go_num, n2, sv2, hv2, HLn, HNN⟩
          case measure => simp [intOf]; omega
        · obtain rfl : k = bd.length := by omega
          have HV3 : Hid (ns1 = res) := by show _ = res; rw [← HS.out, List.drop_length]; rfl
          go_wp2
          go_end0
          rw [← HV3.out]
          exact ⟨⟨_, rfl⟩, _, HV'.out⟩
theorem variablesRule_any (b : Nat) (d : Nat) (r : R3) (p : RP) (w : World) (hb : b < w.heap.size) (hx : w.rangeAt b 0 (r.cells p)) (hR : RIs w d r p) (hn : (termsR d r).length ≤ 4398046511104) :
    Calls Tryz.prog 41 #[.iface 95 (.pointer (some ⟨b, 0, none⟩))] w fun e' w' => ∃ sv, e' = .returned sv ∧ w'.ownsRow w.heap.size 9 1 sv (vsT [] (termsR d r)).length ((vsT [] (termsR d r)).flatMap strB) ∧ Below w.heap.size w w' := by
  have HW : Hid _ := walkRule_any (vst_new w) rfl b hb d r p hx hR (by simpa using hn)
  unfold handV at HW
  have hmk := run_makeSet
  clear hx hR
  go_enter Tryz.func41, Tryz.ntmps41
  go_wp2_with fail
  refine Calls.mono HW.out ?_
  rintro ee w2 ⟨⟨u, rfl⟩, sv2, hv2⟩
  have c0 := hv2.co
  obtain ⟨a2, c2, rfl, _⟩ := own_form hv2.own
  go_wp2
  go_ret
  exact ⟨_, rfl, hv2.own, hv2.bel⟩
theorem vruleVars_any (d : Nat) (r : R3) (p : RP) (w : World) (hR : RIs w d r p) (hn : (termsR d r).length ≤ 4398046511104) : Calls Tryz.prog 18 #[r.val p] w fun e w' => ∃ sv, e = .returned sv ∧ Ls w' sv (vsT [] (termsR d r)).length ((vsT [] (termsR d r)).flatMap strB) ∧ Below w.heap.size w w' := by
  have b0 := (Below.refl w.heap.size w).alloc (Nat.le_refl _) (.cells #[.string r.pr, .slice p.a r.hd.length p.c, .slice p.ba r.bd.length p.bc] 25)
  have HV : Hid _ := variablesRule_any w.heap.size d r p _ (by simp) (RL.range (rl_new w #[.string r.pr, .slice p.a r.hd.length p.c, .slice p.ba r.bd.length p.bc] 25)) (hR.below b0) hn
  clear hR
  unfold R3.val
  go_enter Tryz.func18, Tryz.ntmps18
  go_wp2_with fail
  refine Calls.mono HV.out ?_
  rintro ee w1 ⟨sv, rfl, ho, b1⟩
  go_wp2
  go_ret
  exact ⟨_, rfl, ls_own ho, b0.trans (b1.mono b0.size)⟩
end Go.Proofs.YteabclfhmapabaaGreatDoor
end
section
namespace Go.Proofs.YteabclfhmapabaaGreatDoor
open Go.RowKit Go.Maps
set_option linter.unusedVariables false
set_option linter.unusedSimpArgs false
attribute [local go_sem ↓] Go.wp_at_zero Go.wp_at_succ

end Go.Proofs.YteabclfhmapabaaGreatDoor
end
section
namespace Go.Proofs.YteabclfhmapabaaGreatDoor
open Go.RowKit Go.Maps
set_option linter.unusedVariables false
set_option linter.unusedSimpArgs false
attribute [local go_sem ↓] Go.wp_at_zero Go.wp_at_succ
attribute [-go_sem] loadVar storeVar

theorem termsR_wf {w : World} {d : Nat} {r : R3} {p : RP} (h : RIs w d r p) : ∀ t ∈ termsR d r, t.wf := by
  intro t ht
  unfold termsR at ht
  rcases List.mem_append.1 ht with h1 | h1
  · obtain ⟨x, hx, rfl⟩ := List.mem_map.1 h1
    exact (h.hd.wf x hx).t
  · obtain ⟨y, hy, h2⟩ := List.mem_flatMap.1 h1
    exact termsL_wf (h.bd.each y hy) t h2
end Go.Proofs.YteabclfhmapabaaGreatDoor
end
section
namespace Go.Proofs.YteabclfhmapabaaGreatDoor
open Go.RowKit Go.Maps
set_option linter.unusedVariables false
set_option linter.unusedSimpArgs false
attribute [local go_sem ↓] Go.wp_at_zero Go.wp_at_succ

theorem argB_0 {x : A5} (h : x.g = 0) : argB x = namedB x.t := by unfold argB; rw [if_pos h]
theorem argB_1 {x : A5} (h : x.g = 1) : argB x = decide (x.t = T0) := by unfold argB; rw [if_neg (by omega), if_pos h]
theorem argB_2 {x : A5} (h : x.g = 2 ∨ x.g = 3 ∨ x.g = 4) : argB x = (namedB x.t && !decide (x.t.v = noS)) := by unfold argB; rw [if_neg (by omega), if_neg (by omega), if_pos h]
theorem argB_n {x : A5} (h : x.g ≠ 0 ∧ x.g ≠ 1 ∧ x.g ≠ 2 ∧ x.g ≠ 3 ∧ x.g ≠ 4) : argB x = false := by unfold argB; rw [if_neg (by omega), if_neg (by omega), if_neg (by omega)]
set_option maxHeartbeats 3200000 in
theorem tArg_any (x : A5) (w : World) (hx : x.wf) : Calls Tryz.prog 63 #[.agg #[.int .i8 x.g, .string x.t.v, .int .i8 x.t.a.k, .int .i64 x.t.a.n, .string x.t.a.s]] w fun e w' => e = .returned (.bool (argB x)) ∧ Below w.heap.size w w' := by
  have BA := (Below.refl w.heap.size w).alloc (Nat.le_refl _) (.cells #[.int .i8 x.g, .string x.t.v, .int .i8 x.t.a.k, .int .i64 x.t.a.n, .string x.t.a.s] 125)
  have HRL : Hid (RL (w.alloc (.cells #[.int .i8 x.g, .string x.t.v, .int .i8 x.t.a.k, .int .i64 x.t.a.n, .string x.t.a.s] 125)) w.heap.size 125 [.int .i8 x.g, .string x.t.v, .int .i8 x.t.a.k, .int .i64 x.t.a.n, .string x.t.a.s]) := rl_new w #[.int .i8 x.g, .string x.t.v, .int .i8 x.t.a.k, .int .i64 x.t.a.n, .string x.t.a.s] 125
  have HN : Hid (∀ u, Calls Tryz.prog 80 #[.agg #[.string x.t.v, .int .i8 x.t.a.k, .int .i64 x.t.a.n, .string x.t.a.s]] u fun e w' => e = .returned (.bool (namedB x.t)) ∧ Below u.heap.size u w') := fun u => isNamed_any x.t u hx.t
  have HBA : Hid (Below w.heap.size w _) := BA
  clear hx BA
  by_cases g0 : x.g = 0
  · have f0 : (x.g == 0) = true := by rw [g0]; rfl
    have HF : Hid _ := argB_0 g0
    clear g0
    go_enter Tryz.func63, Tryz.ntmps63
    go_wp2_with (go_at_call 80; refine Calls.mono (HN.out _) ?_; rintro ee w1 ⟨rfl, b1⟩)
    go_ret
    exact ⟨ret_bool HF.out.symm, HBA.out.trans (b1.mono HBA.out.size)⟩
  · have f0 : (x.g == 0) = false := by rw [beq_eq_false_iff_ne]; exact g0
    by_cases g1 : x.g = 1
    · have f1 : (x.g == 1) = true := by rw [g1]; rfl
      have HF : Hid _ := argB_1 g1
      have hQ := run_eqT x.t T0
      unfold T0 V0 noS at hQ
      dsimp only at hQ
      clear g0 g1
      go_enter Tryz.func63, Tryz.ntmps63
      go_wp2
      go_ret
      exact ⟨ret_bool HF.out.symm, HBA.out⟩
    · have f1 : (x.g == 1) = false := by rw [beq_eq_false_iff_ne]; exact g1
      by_cases g2 : x.g = 2 ∨ x.g = 3 ∨ x.g = 4
      · have HF : Hid _ := argB_2 g2
        have F : (x.g == 2) = true ∨ ((x.g == 2) = false ∧ (x.g == 3) = true) ∨ ((x.g == 2) = false ∧ (x.g == 3) = false ∧ (x.g == 4) = true) := by
          rcases g2 with e | e | e
          · exact .inl (by rw [e]; rfl)
          · exact .inr (.inl ⟨by rw [e]; rfl, by rw [e]; rfl⟩)
          · exact .inr (.inr ⟨by rw [e]; rfl, by rw [e]; rfl, by rw [e]; rfl⟩)
        clear g0 g1 g2
        cases hN : namedB x.t
        · rcases F with f2 | ⟨f2, f3⟩ | ⟨f2, f3, f4⟩
          all_goals
            go_enter Tryz.func63, Tryz.ntmps63
            go_wp2_with (go_at_call 80; refine Calls.mono (HN.out _) ?_; rw [hN]; rintro ee w1 ⟨rfl, b1⟩)
            go_ret
            exact ⟨ret_bool (by rw [HF.out, hN]; rfl), HBA.out.trans (b1.mono HBA.out.size)⟩
        · by_cases en : x.t.v = noS
          · have he : x.t.v.toList.isEmpty = true := by rw [en, ByteArray.toList_eq]; rfl
            have HF2 : Hid (argB x = false) := by show _ = _; rw [HF.out, decide_eq_true en]; simp
            clear en
            rcases F with f2 | ⟨f2, f3⟩ | ⟨f2, f3, f4⟩
            all_goals
              go_enter Tryz.func63, Tryz.ntmps63
              go_wp2_with (go_at_call 80; refine Calls.mono (HN.out _) ?_; rw [hN]; rintro ee w1 ⟨rfl, b1⟩; have z1 := (RL.below HRL.out b1).at (j := 1) rfl)
              go_ret
              exact ⟨ret_bool HF2.out.symm, HBA.out.trans (b1.mono HBA.out.size)⟩
          · have he := some_iff x.t.v en
            have HF2 : Hid (argB x = true) := by show _ = _; rw [HF.out, hN, decide_eq_false en]; rfl
            clear en
            rcases F with f2 | ⟨f2, f3⟩ | ⟨f2, f3, f4⟩
            all_goals
              go_enter Tryz.func63, Tryz.ntmps63
              go_wp2_with (go_at_call 80; refine Calls.mono (HN.out _) ?_; rw [hN]; rintro ee w1 ⟨rfl, b1⟩; have z1 := (RL.below HRL.out b1).at (j := 1) rfl)
              go_ret
              exact ⟨ret_bool HF2.out.symm, HBA.out.trans (b1.mono HBA.out.size)⟩
      · have f2 : (x.g == 2) = false := by rw [beq_eq_false_iff_ne]; omega
        have f3 : (x.g == 3) = false := by rw [beq_eq_false_iff_ne]; omega
        have f4 : (x.g == 4) = false := by rw [beq_eq_false_iff_ne]; omega
        have HF : Hid (argB x = false) := argB_n ⟨g0, g1, by omega, by omega, by omega⟩
        clear g0 g1 g2
        go_enter Tryz.func63, Tryz.ntmps63
        go_wp2
        go_ret
        exact ⟨ret_bool HF.out.symm, HBA.out⟩
end Go.Proofs.YteabclfhmapabaaGreatDoor
end
