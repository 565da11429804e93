import Derived.Test.YtaeneiekjaoakaaGreatDoorPrintRegP
namespace Go.Proofs.YtaeneiekjaoakaaGreatDoor
open Go.RowKit Go.Maps
set_option linter.unusedVariables false
set_option linter.unusedSimpArgs false
attribute [local go_sem ↓] Go.wp_at_zero Go.wp_at_succ

/-- what the law holds behind its copies: the two boxes, the two copies -/
structure PS (w : World) (d : Nat) (pr : ByteArray) (ts : List T) (a : Option Addr) (c : Nat) (x : Lit4) (p : LP) (b5 b6 : Nat) (a1 : Option Addr) (c1 : Nat) (q : LP) (lo : Nat) (u : World) : Prop where
  bel : Below w.heap.size w u
  ra : RL u w.heap.size 24 [.string pr, .slice a ts.length c]
  rx : RL u (w.heap.size + 1) 38 [.int .i8 x.k, .string x.pr, .slice p.a x.ts.length p.c, .int .i8 x.rel, .int .i8 x.l.op, .string x.l.t.v, .int .i8 x.l.t.a.k, .int .i64 x.l.t.a.n, .string x.l.t.a.s, .slice p.la x.l.kids.length p.lc, .int .i8 x.r.op, .string x.r.t.v, .int .i8 x.r.t.a.k, .int .i64 x.r.t.a.n, .string x.r.t.a.s, .slice p.ra x.r.kids.length p.rc]
  r5 : RL u b5 24 [.string pr, .slice a1 ts.length c1]
  r6 : RL u b6 38 [.int .i8 x.k, .string x.pr, .slice q.a x.ts.length q.c, .int .i8 x.rel, .int .i8 x.l.op, .string x.l.t.v, .int .i8 x.l.t.a.k, .int .i64 x.l.t.a.n, .string x.l.t.a.s, .slice q.la x.l.kids.length q.lc, .int .i8 x.r.op, .string x.r.t.v, .int .i8 x.r.t.a.k, .int .i64 x.r.t.a.n, .string x.r.t.a.s, .slice q.ra x.r.kids.length q.rc]
  tt : TwT u lo ts a1 c1
  tl : TwL u lo d x q
theorem PS.below {w : World} {d : Nat} {pr : ByteArray} {ts : List T} {a : Option Addr} {c : Nat} {x : Lit4} {p : LP} {b5 b6 : Nat} {a1 : Option Addr} {c1 : Nat} {q : LP} {lo : Nat} {u v : World} (h : PS w d pr ts a c x p b5 b6 a1 c1 q lo u) (b : Below u.heap.size u v) : PS w d pr ts a c x p b5 b6 a1 c1 q lo v :=
  ⟨h.bel.trans (b.mono h.bel.size), h.ra.below b, h.rx.below b, h.r5.below b, h.r6.below b, h.tt.below b, h.tl.below b⟩
theorem TwL.is {w w0 : World} {lo d : Nat} {x : Lit4} {p q : LP} (h : TwL w lo d x q) (h0 : LIs w0 d x p) (hs : x.ts.length ≤ 1048576) : LIs w d x q :=
  ⟨h0.kb, h0.rb, h0.pb, h0.ln, h.ts.lt h0.ts hs, h.l.eis h0.l, h.r.eis h0.r⟩
set_option maxHeartbeats 3200000 in
theorem printParts_walk (pr : ByteArray) (ts : List T) (a : Option Addr) (c : Nat) (d : Nat) (x : Lit4) (p : LP) (w : World) (hG : Gq w) (hpr : pr.size ≤ maxLen) (hl : ts.length ≤ 281474976710656) (hL : Lt w (.slice a ts.length c) ts) (hX : LIs w (d + 1) x p) :
    Calls Tryz.prog 3 #[.agg #[.string pr, .slice a ts.length c], x.val p] w fun r w' => r = .returned (.bool true) ∧ Below w.heap.size w w' := by
  have BA := (Below.refl w.heap.size w).alloc (Nat.le_refl _) (.cells #[.string pr, .slice a ts.length c] 24)
  have BB := BA.alloc BA.size (.cells #[.int .i8 x.k, .string x.pr, .slice p.a x.ts.length p.c, .int .i8 x.rel, .int .i8 x.l.op, .string x.l.t.v, .int .i8 x.l.t.a.k, .int .i64 x.l.t.a.n, .string x.l.t.a.s, .slice p.la x.l.kids.length p.lc, .int .i8 x.r.op, .string x.r.t.v, .int .i8 x.r.t.a.k, .int .i64 x.r.t.a.n, .string x.r.t.a.s, .slice p.ra x.r.kids.length p.rc] 38)
  have BC := BB.alloc BB.size (.cells #[.int .i8 x.k, .string x.pr, .slice p.a x.ts.length p.c, .int .i8 x.rel, .int .i8 x.l.op, .string x.l.t.v, .int .i8 x.l.t.a.k, .int .i64 x.l.t.a.n, .string x.l.t.a.s, .slice p.la x.l.kids.length p.lc, .int .i8 x.r.op, .string x.r.t.v, .int .i8 x.r.t.a.k, .int .i64 x.r.t.a.n, .string x.r.t.a.s, .slice p.ra x.r.kids.length p.rc, .int .i8 0, .string pr, .slice a ts.length c, .int .i8 0, .int .i8 0, .string ⟨#[]⟩, .int .i8 0, .int .i64 0, .string ⟨#[]⟩, .slice none 0 0, .int .i8 0, .string ⟨#[]⟩, .int .i8 0, .int .i64 0, .string ⟨#[]⟩, .slice none 0 0] 38)
  have HBC : Hid (Below w.heap.size w _) := BC
  have HBY : Hid _ := printParts_beyond d pr ts a c x p w hpr hl hL hX
  have HRA : Hid (RL (((w.alloc (.cells #[.string pr, .slice a ts.length c] 24)).alloc (.cells #[.int .i8 x.k, .string x.pr, .slice p.a x.ts.length p.c, .int .i8 x.rel, .int .i8 x.l.op, .string x.l.t.v, .int .i8 x.l.t.a.k, .int .i64 x.l.t.a.n, .string x.l.t.a.s, .slice p.la x.l.kids.length p.lc, .int .i8 x.r.op, .string x.r.t.v, .int .i8 x.r.t.a.k, .int .i64 x.r.t.a.n, .string x.r.t.a.s, .slice p.ra x.r.kids.length p.rc] 38)).alloc (.cells #[.int .i8 x.k, .string x.pr, .slice p.a x.ts.length p.c, .int .i8 x.rel, .int .i8 x.l.op, .string x.l.t.v, .int .i8 x.l.t.a.k, .int .i64 x.l.t.a.n, .string x.l.t.a.s, .slice p.la x.l.kids.length p.lc, .int .i8 x.r.op, .string x.r.t.v, .int .i8 x.r.t.a.k, .int .i64 x.r.t.a.n, .string x.r.t.a.s, .slice p.ra x.r.kids.length p.rc, .int .i8 0, .string pr, .slice a ts.length c, .int .i8 0, .int .i8 0, .string ⟨#[]⟩, .int .i8 0, .int .i64 0, .string ⟨#[]⟩, .slice none 0 0, .int .i8 0, .string ⟨#[]⟩, .int .i8 0, .int .i64 0, .string ⟨#[]⟩, .slice none 0 0] 38)) w.heap.size 24 [.string pr, .slice a ts.length c]) := ((rl_new w #[.string pr, .slice a ts.length c] 24).below ((Below.refl _ _).alloc (Nat.le_refl _) (.cells #[.int .i8 x.k, .string x.pr, .slice p.a x.ts.length p.c, .int .i8 x.rel, .int .i8 x.l.op, .string x.l.t.v, .int .i8 x.l.t.a.k, .int .i64 x.l.t.a.n, .string x.l.t.a.s, .slice p.la x.l.kids.length p.lc, .int .i8 x.r.op, .string x.r.t.v, .int .i8 x.r.t.a.k, .int .i64 x.r.t.a.n, .string x.r.t.a.s, .slice p.ra x.r.kids.length p.rc] 38))).below ((Below.refl _ _).alloc (Nat.le_refl _) (.cells #[.int .i8 x.k, .string x.pr, .slice p.a x.ts.length p.c, .int .i8 x.rel, .int .i8 x.l.op, .string x.l.t.v, .int .i8 x.l.t.a.k, .int .i64 x.l.t.a.n, .string x.l.t.a.s, .slice p.la x.l.kids.length p.lc, .int .i8 x.r.op, .string x.r.t.v, .int .i8 x.r.t.a.k, .int .i64 x.r.t.a.n, .string x.r.t.a.s, .slice p.ra x.r.kids.length p.rc, .int .i8 0, .string pr, .slice a ts.length c, .int .i8 0, .int .i8 0, .string ⟨#[]⟩, .int .i8 0, .int .i64 0, .string ⟨#[]⟩, .slice none 0 0, .int .i8 0, .string ⟨#[]⟩, .int .i8 0, .int .i64 0, .string ⟨#[]⟩, .slice none 0 0] 38))
  have HRX : Hid (RL (((w.alloc (.cells #[.string pr, .slice a ts.length c] 24)).alloc (.cells #[.int .i8 x.k, .string x.pr, .slice p.a x.ts.length p.c, .int .i8 x.rel, .int .i8 x.l.op, .string x.l.t.v, .int .i8 x.l.t.a.k, .int .i64 x.l.t.a.n, .string x.l.t.a.s, .slice p.la x.l.kids.length p.lc, .int .i8 x.r.op, .string x.r.t.v, .int .i8 x.r.t.a.k, .int .i64 x.r.t.a.n, .string x.r.t.a.s, .slice p.ra x.r.kids.length p.rc] 38)).alloc (.cells #[.int .i8 x.k, .string x.pr, .slice p.a x.ts.length p.c, .int .i8 x.rel, .int .i8 x.l.op, .string x.l.t.v, .int .i8 x.l.t.a.k, .int .i64 x.l.t.a.n, .string x.l.t.a.s, .slice p.la x.l.kids.length p.lc, .int .i8 x.r.op, .string x.r.t.v, .int .i8 x.r.t.a.k, .int .i64 x.r.t.a.n, .string x.r.t.a.s, .slice p.ra x.r.kids.length p.rc, .int .i8 0, .string pr, .slice a ts.length c, .int .i8 0, .int .i8 0, .string ⟨#[]⟩, .int .i8 0, .int .i64 0, .string ⟨#[]⟩, .slice none 0 0, .int .i8 0, .string ⟨#[]⟩, .int .i8 0, .int .i64 0, .string ⟨#[]⟩, .slice none 0 0] 38)) (w.heap.size + 1) 38 [.int .i8 x.k, .string x.pr, .slice p.a x.ts.length p.c, .int .i8 x.rel, .int .i8 x.l.op, .string x.l.t.v, .int .i8 x.l.t.a.k, .int .i64 x.l.t.a.n, .string x.l.t.a.s, .slice p.la x.l.kids.length p.lc, .int .i8 x.r.op, .string x.r.t.v, .int .i8 x.r.t.a.k, .int .i64 x.r.t.a.n, .string x.r.t.a.s, .slice p.ra x.r.kids.length p.rc]) := by
    have := (rl_new (w.alloc (.cells #[.string pr, .slice a ts.length c] 24)) #[.int .i8 x.k, .string x.pr, .slice p.a x.ts.length p.c, .int .i8 x.rel, .int .i8 x.l.op, .string x.l.t.v, .int .i8 x.l.t.a.k, .int .i64 x.l.t.a.n, .string x.l.t.a.s, .slice p.la x.l.kids.length p.lc, .int .i8 x.r.op, .string x.r.t.v, .int .i8 x.r.t.a.k, .int .i64 x.r.t.a.n, .string x.r.t.a.s, .slice p.ra x.r.kids.length p.rc] 38).below ((Below.refl _ _).alloc (Nat.le_refl _) (.cells #[.int .i8 x.k, .string x.pr, .slice p.a x.ts.length p.c, .int .i8 x.rel, .int .i8 x.l.op, .string x.l.t.v, .int .i8 x.l.t.a.k, .int .i64 x.l.t.a.n, .string x.l.t.a.s, .slice p.la x.l.kids.length p.lc, .int .i8 x.r.op, .string x.r.t.v, .int .i8 x.r.t.a.k, .int .i64 x.r.t.a.n, .string x.r.t.a.s, .slice p.ra x.r.kids.length p.rc, .int .i8 0, .string pr, .slice a ts.length c, .int .i8 0, .int .i8 0, .string ⟨#[]⟩, .int .i8 0, .int .i64 0, .string ⟨#[]⟩, .slice none 0 0, .int .i8 0, .string ⟨#[]⟩, .int .i8 0, .int .i64 0, .string ⟨#[]⟩, .slice none 0 0] 38))
    rw [World.size_alloc] at this
    exact this
  have HG : Hid (∀ u, Below w.heap.size w u → Gq u) := fun u hu => hG.below hu
  have HL : Hid (∀ u, Below w.heap.size w u → Lt u (.slice a ts.length c) ts) := fun u hu => hL.below hu
  have HX : Hid (∀ u, Below w.heap.size w u → LIs u (d + 1) x p) := fun u hu => hX.below hu
  obtain ⟨s1, n1, hs1⟩ : ∃ s er, toldV (atomB pr ts) (atomT pr ts) = .tuple #[.string s, .int .i64 er] := by unfold toldV; split <;> exact ⟨_, _, rfl⟩
  obtain ⟨s2, n2, hs2⟩ : ∃ s er, toldV (atomB pr ts) (atomT pr ts ++ [63]) = .tuple #[.string s, .int .i64 er] := by unfold toldV; split <;> exact ⟨_, _, rfl⟩
  obtain ⟨s3, n3, hs3⟩ : ∃ s er, toldV (litB x) (litT x) = .tuple #[.string s, .int .i64 er] := by unfold toldV; split <;> exact ⟨_, _, rfl⟩
  clear BA BB BC hG hL hX hl
  unfold Lit4.val
  go_enter Tryz.func3, Tryz.ntmps3
  go_wp2_with fail
  refine Calls.mono HBY.out ?_
  rintro r w1 ⟨bb, rfl, b1, hsm⟩
  have HSM : Hid _ := hsm
  have B1 : Hid (Below w.heap.size w w1) := HBC.out.trans (b1.mono HBC.out.size)
  have HA1 : Hid (RL w1 w.heap.size 24 [.string pr, .slice a ts.length c]) := RL.below HRA.out b1
  have HX1 : Hid (RL w1 (w.heap.size + 1) 38 [.int .i8 x.k, .string x.pr, .slice p.a x.ts.length p.c, .int .i8 x.rel, .int .i8 x.l.op, .string x.l.t.v, .int .i8 x.l.t.a.k, .int .i64 x.l.t.a.n, .string x.l.t.a.s, .slice p.la x.l.kids.length p.lc, .int .i8 x.r.op, .string x.r.t.v, .int .i8 x.r.t.a.k, .int .i64 x.r.t.a.n, .string x.r.t.a.s, .slice p.ra x.r.kids.length p.rc]) := RL.below HRX.out b1
  clear hsm b1 HBY HBC HRA HRX
  cases bb
  · go_upto_region 3 with fail
    have hsm2 : smallL (d + 1) x ∧ ts.length ≤ 1048576 := HSM.out (by first | rfl | trivial)
    have HSM : Hid _ := hsm2
    clear hsm2
    go_cut [5, 6] from 16 to 19 (fun p5 p6 wc => ∃ (b5 b6 : Nat) (a1 : Option Addr) (c1 : Nat) (q : LP) (lo : Nat), p5 = .pointer (some ⟨b5, 0, none⟩) ∧ p6 = .pointer (some ⟨b6, 0, none⟩) ∧ Hid (PS w (d + 1) pr ts a c x p b5 b6 a1 c1 q lo wc))
    case first =>
      as_aux_lemma =>
      have KA : Hid (∀ w', Below w1.heap.size w1 w' → Calls Tryz.prog 5 #[.agg #[.string pr, .slice a ts.length c]] w' fun e w2 => ∃ v, e = .returned v ∧ Below w'.heap.size w' w2 ∧ RAt pr ts v w2 w'.heap.size) := fun w' hb => by
        have bb := B1.out.trans (hb.mono B1.out.size)
        refine Calls.mono (twinAtom_any pr _ ts w' (HG.out _ bb).gp.pw HSM.out.2 (HL.out _ bb)) ?_
        rintro e w2 ⟨a', rfl, b2, t2⟩
        exact ⟨_, rfl, b2, a', rfl, t2⟩
      have KB : Hid (∀ w', Below w1.heap.size w1 w' → Calls Tryz.prog 6 #[x.val p] w' fun e w2 => ∃ v, e = .returned v ∧ Below w'.heap.size w' w2 ∧ RLt (d + 1) x v w2 w'.heap.size) := fun w' hb => by
        have bb := B1.out.trans (hb.mono B1.out.size)
        refine Calls.mono (twinLiteral_any (d + 1) x p w' (HG.out _ bb).gp.pw HSM.out.1.1 HSM.out.1.2.1 HSM.out.1.2.2 (HX.out _ bb)) ?_
        rintro e w2 ⟨p', rfl, b2, t2⟩
        exact ⟨_, rfl, b2, p', rfl, t2⟩
      refine wp_region_noPanic ?_
      refine wp_region_held (S := fun w' => Below w1.heap.size w1 w') (by kernel_rfl) ?_
      refine region_two (wr := w1) (ba := w.heap.size) (bb := w.heap.size + 1) (tA := 24) (tB := 38) (cA := #[.string ⟨#[]⟩, .slice none 0 0]) (cB := #[.int .i8 0, .string ⟨#[]⟩, .slice none 0 0, .int .i8 0, .int .i8 0, .string ⟨#[]⟩, .int .i8 0, .int .i64 0, .string ⟨#[]⟩, .slice none 0 0, .int .i8 0, .string ⟨#[]⟩, .int .i8 0, .int .i64 0, .string ⟨#[]⟩, .slice none 0 0]) (RA := RAt pr ts) (RB := RLt (d + 1) x) (DA := cellsV) (DB := cellsV) (vA := .agg #[.string pr, .slice a ts.length c]) (vB := x.val p) (fA := 5) (fB := 6) (tsA := #[24]) (tsB := #[38])
        (by show _ = _; kernel_rfl) (by show _ = _; kernel_rfl) (by show _ = _; kernel_rfl) (by show _ = _; kernel_rfl) (by show _ = _; kernel_rfl) (by show _ = _; kernel_rfl) (by show _ = _; kernel_rfl) (by show _ = _; kernel_rfl)
        (by kernel_rfl) (by kernel_rfl) (by kernel_rfl) (by kernel_rfl) (by kernel_rfl) (by kernel_rfl) (by kernel_rfl) (by kernel_rfl)
        (fun _ _ _ _ _ h => h) (by simp) rfl rfl
        (fun ev o w' hop hx hb => run_load_atom ev o w' hop hx (RL.below HA1.out hb)) (fun ev o w' hop hx hb => run_load_lit ev o w' hop hx (RL.below HX1.out hb))
        enter_twinAtom enter_twinLiteral KA.out KB.out run_alloc_atom run_alloc_lit (store_atom pr ts) (store_lit (d + 1) x) ?_
      rintro xA xB b5 b6 wc hb r5 r6 ⟨A5, cA⟩ ⟨A6, cB⟩
      obtain ⟨a1, rfl, ta⟩ := RAt.out cA
      obtain ⟨q, rfl, tl⟩ := RLt.out cB
      refine NoPanic.normal ?_
      rename_i hJ hK
      refine hK _ _ (Met.intro (hJ _ _ ?_))
      clear hJ hK
      simp only [Act.put, List.setIfInBounds_toArray, List.set_cons_succ, List.set_cons_zero]
      (repeat apply Exists.intro)
      refine ⟨?rel, rfl⟩
      case rel => exact ⟨b5, b6, a1, _, q, _, rfl, rfl, ⟨B1.out.trans (hb.mono B1.out.size), RL.below HA1.out hb, RL.below HX1.out hb, r5, r6, ta, tl⟩⟩
    case rest =>
      as_aux_lemma =>
      obtain ⟨b5, b6, a1, c1, q, lo, rfl, rfl, S0⟩ := hcut
      have k0 := S0.out.ra.at (j := 0) rfl
      have k1 := S0.out.ra.at (j := 1) rfl
      go_wp2_with fail
      refine Calls.mono (r6Atom_any pr _ ts _ hpr (HL.out _ S0.out.bel)) ?_
      rintro r v1 ⟨rfl, g1⟩
      rw [hs1]
      have S1 : Hid (PS w (d + 1) pr ts a c x p b5 b6 a1 c1 q lo v1) := PS.below S0.out g1
      clear g1 S0 k0 k1
      as_aux_lemma =>
      have k0 := S1.out.r5.at (j := 0) rfl
      have k1 := S1.out.r5.at (j := 1) rfl
      go_wp2_with fail
      refine Calls.mono (pAtom_any pr _ ts _ (HG.out _ S1.out.bel).gp.pw hpr (S1.out.tt.lt (HL.out _ S1.out.bel) HSM.out.2)) ?_
      rintro r v2 ⟨rfl, g2⟩
      rw [hs1]
      have S2 : Hid (PS w (d + 1) pr ts a c x p b5 b6 a1 c1 q lo v2) := PS.below S1.out g2
      clear g2 S1 k0 k1
      as_aux_lemma =>
      have k0 := S2.out.ra.at (j := 0) rfl
      have k1 := S2.out.ra.at (j := 1) rfl
      go_wp2_with fail
      refine Calls.mono (r6Query_any pr _ ts _ hpr (HL.out _ S2.out.bel)) ?_
      rintro r v3 ⟨rfl, g3⟩
      rw [hs2]
      have S3 : Hid (PS w (d + 1) pr ts a c x p b5 b6 a1 c1 q lo v3) := PS.below S2.out g3
      clear g3 S2 k0 k1
      as_aux_lemma =>
      have k0 := S3.out.r5.at (j := 0) rfl
      have k1 := S3.out.r5.at (j := 1) rfl
      go_wp2_with fail
      refine Calls.mono (pQuery_any pr _ ts _ (HG.out _ S3.out.bel).gp.pw hpr (S3.out.tt.lt (HL.out _ S3.out.bel) HSM.out.2)) ?_
      rintro r v4 ⟨rfl, g4⟩
      rw [hs2]
      have S4 : Hid (PS w (d + 1) pr ts a c x p b5 b6 a1 c1 q lo v4) := PS.below S3.out g4
      clear g4 S3 k0 k1
      as_aux_lemma =>
      have k0 := S4.out.rx.at (j := 0) rfl
      have k1 := S4.out.rx.at (j := 1) rfl
      have k2 := S4.out.rx.at (j := 2) rfl
      have k3 := S4.out.rx.at (j := 3) rfl
      have k4 := S4.out.rx.at (j := 4) rfl
      have k5 := S4.out.rx.at (j := 5) rfl
      have k6 := S4.out.rx.at (j := 6) rfl
      have k7 := S4.out.rx.at (j := 7) rfl
      have k8 := S4.out.rx.at (j := 8) rfl
      have k9 := S4.out.rx.at (j := 9) rfl
      have k10 := S4.out.rx.at (j := 10) rfl
      have k11 := S4.out.rx.at (j := 11) rfl
      have k12 := S4.out.rx.at (j := 12) rfl
      have k13 := S4.out.rx.at (j := 13) rfl
      have k14 := S4.out.rx.at (j := 14) rfl
      have k15 := S4.out.rx.at (j := 15) rfl
      go_wp2_with fail
      refine Calls.mono (r6Literal_any (d + 1) x p _ (HX.out _ S4.out.bel)) ?_
      rintro r v5 ⟨rfl, g5⟩
      rw [hs3]
      have S5 : Hid (PS w (d + 1) pr ts a c x p b5 b6 a1 c1 q lo v5) := PS.below S4.out g5
      clear g5 S4 k0 k1 k2 k3 k4 k5 k6 k7 k8 k9 k10 k11 k12 k13 k14 k15
      as_aux_lemma =>
      have k0 := S5.out.r6.at (j := 0) rfl
      have k1 := S5.out.r6.at (j := 1) rfl
      have k2 := S5.out.r6.at (j := 2) rfl
      have k3 := S5.out.r6.at (j := 3) rfl
      have k4 := S5.out.r6.at (j := 4) rfl
      have k5 := S5.out.r6.at (j := 5) rfl
      have k6 := S5.out.r6.at (j := 6) rfl
      have k7 := S5.out.r6.at (j := 7) rfl
      have k8 := S5.out.r6.at (j := 8) rfl
      have k9 := S5.out.r6.at (j := 9) rfl
      have k10 := S5.out.r6.at (j := 10) rfl
      have k11 := S5.out.r6.at (j := 11) rfl
      have k12 := S5.out.r6.at (j := 12) rfl
      have k13 := S5.out.r6.at (j := 13) rfl
      have k14 := S5.out.r6.at (j := 14) rfl
      have k15 := S5.out.r6.at (j := 15) rfl
      go_wp2_with fail
      refine Calls.mono (pLiteral_any (d + 1) x q _ (HG.out _ S5.out.bel) (S5.out.tl.is (HX.out _ S5.out.bel) HSM.out.1.1)) ?_
      rintro r v6 ⟨rfl, g6⟩
      rw [hs3]
      have S6 : Hid (PS w (d + 1) pr ts a c x p b5 b6 a1 c1 q lo v6) := PS.below S5.out g6
      clear g6 S5 k0 k1 k2 k3 k4 k5 k6 k7 k8 k9 k10 k11 k12 k13 k14 k15
      as_aux_lemma =>
      have ka0 := S6.out.ra.at (j := 0) rfl
      have ka1 := S6.out.ra.at (j := 1) rfl
      have kb0 := S6.out.r5.at (j := 0) rfl
      have kb1 := S6.out.r5.at (j := 1) rfl
      go_wp2_with fail
      refine Calls.mono (leftAtom_any pr ts a1 a c1 c lo _ HSM.out.2 (HG.out _ S6.out.bel).gp.pw S6.out.tt (HL.out _ S6.out.bel)) ?_
      rintro r v7 ⟨rfl, g7⟩
      have S7 : Hid (PS w (d + 1) pr ts a c x p b5 b6 a1 c1 q lo v7) := PS.below S6.out g7
      clear g7 S6 ka0 ka1 kb0 kb1
      as_aux_lemma =>
      have k0 := S7.out.rx.at (j := 0) rfl
      have m0 := S7.out.r6.at (j := 0) rfl
      have k1 := S7.out.rx.at (j := 1) rfl
      have m1 := S7.out.r6.at (j := 1) rfl
      have k2 := S7.out.rx.at (j := 2) rfl
      have m2 := S7.out.r6.at (j := 2) rfl
      have k3 := S7.out.rx.at (j := 3) rfl
      have m3 := S7.out.r6.at (j := 3) rfl
      have k4 := S7.out.rx.at (j := 4) rfl
      have m4 := S7.out.r6.at (j := 4) rfl
      have k5 := S7.out.rx.at (j := 5) rfl
      have m5 := S7.out.r6.at (j := 5) rfl
      have k6 := S7.out.rx.at (j := 6) rfl
      have m6 := S7.out.r6.at (j := 6) rfl
      have k7 := S7.out.rx.at (j := 7) rfl
      have m7 := S7.out.r6.at (j := 7) rfl
      have k8 := S7.out.rx.at (j := 8) rfl
      have m8 := S7.out.r6.at (j := 8) rfl
      have k9 := S7.out.rx.at (j := 9) rfl
      have m9 := S7.out.r6.at (j := 9) rfl
      have k10 := S7.out.rx.at (j := 10) rfl
      have m10 := S7.out.r6.at (j := 10) rfl
      have k11 := S7.out.rx.at (j := 11) rfl
      have m11 := S7.out.r6.at (j := 11) rfl
      have k12 := S7.out.rx.at (j := 12) rfl
      have m12 := S7.out.r6.at (j := 12) rfl
      have k13 := S7.out.rx.at (j := 13) rfl
      have m13 := S7.out.r6.at (j := 13) rfl
      have k14 := S7.out.rx.at (j := 14) rfl
      have m14 := S7.out.r6.at (j := 14) rfl
      have k15 := S7.out.rx.at (j := 15) rfl
      have m15 := S7.out.r6.at (j := 15) rfl
      have HLf : Hid _ := leftLiteral_any (d + 1) x q p lo v7 HSM.out.1.1 (HG.out _ S7.out.bel).gp.pw S7.out.tl (HX.out _ S7.out.bel)
      unfold Lit4.val at HLf
      go_wp2_with (first
        | (go_at_call 14; refine Calls.mono HLf.out ?_; rintro r v8 ⟨rfl, g8⟩; have B8 : Below w.heap.size w v8 := S7.out.bel.trans (g8.mono S7.out.bel.size))
        | (go_at_call 15; refine (lives_any _ (HG.out _ B8).gp).mono ?_; rintro r v9 ⟨rfl, g9⟩))
      go_ret
      exact ⟨rfl, B8.trans (g9.mono B8.size)⟩
  · go_wp2
    go_ret
    exact ⟨rfl, B1.out⟩
end Go.Proofs.YtaeneiekjaoakaaGreatDoor
