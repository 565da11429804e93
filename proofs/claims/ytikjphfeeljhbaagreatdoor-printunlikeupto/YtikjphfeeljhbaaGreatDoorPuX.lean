import Derived.Test.YtikjphfeeljhbaaGreatDoorPuS
import Derived.Test.YtikjphfeeljhbaaGreatDoorRlA
import Derived.Deep.DeepCutAuto
namespace Go.Proofs.YtikjphfeeljhbaaGreatDoor
open Go.RowKit Go.Maps
set_option linter.unusedVariables false
set_option linter.unusedSimpArgs false
attribute [local go_sem ↓] Go.wp_at_zero Go.wp_at_succ

theorem RSame_iff (r s : R3) : PU.RSame r s ↔ r.pr = s.pr ∧ r.hd = s.hd ∧ r.bd.map XL.x = s.bd.map XL.x := ⟨fun h => ⟨h.pr, h.hd, h.bd⟩, fun h => ⟨h.1, h.2.1, h.2.2⟩⟩
/-- is it the same rule? -/
noncomputable def sameR (r s : R3) : Bool := @decide (PU.RSame r s) (Classical.propDecidable _)
theorem sameR_t {r s : R3} (h : PU.RSame r s) : sameR r s = true := by unfold sameR; exact @decide_eq_true _ (Classical.propDecidable _) h
theorem sameR_f {r s : R3} (h : ¬ PU.RSame r s) : sameR r s = false := by unfold sameR; exact @decide_eq_false _ (Classical.propDecidable _) h
theorem sameR_eq {r s : R3} (h : sameR r s = true) : PU.RSame r s := by unfold sameR at h; exact @of_decide_eq_true _ (Classical.propDecidable _) h
theorem sameR_ne {r s : R3} (h : sameR r s = false) : ¬ PU.RSame r s := by unfold sameR at h; exact @of_decide_eq_false _ (Classical.propDecidable _) h
set_option maxHeartbeats 3200000 in
theorem sameRule_any (d : Nat) (r s : R3) (p q : RP) (w : World) (hR : RIs w d r p) (hS : RIs w d s q) :
    Calls Tryz.prog 7 #[r.val p, s.val q] w fun e w' => e = .returned (.bool (sameR r s)) ∧ Below w.heap.size w w' := by
  unfold R3.val
  have BA := (Below.refl w.heap.size w).alloc (Nat.le_refl _) (.cells #[.string r.pr, .slice p.a r.hd.length p.c, .slice p.ba r.bd.length p.bc] 25)
  have BB := BA.alloc BA.size (.cells #[.string s.pr, .slice q.a s.hd.length q.c, .slice q.ba s.bd.length q.bc] 25)
  have HR0 : Hid (RL ((w.alloc (.cells #[.string r.pr, .slice p.a r.hd.length p.c, .slice p.ba r.bd.length p.bc] 25)).alloc (.cells #[.string s.pr, .slice q.a s.hd.length q.c, .slice q.ba s.bd.length q.bc] 25)) w.heap.size 25 [.string r.pr, .slice p.a r.hd.length p.c, .slice p.ba r.bd.length p.bc]) := (rl_new w #[.string r.pr, .slice p.a r.hd.length p.c, .slice p.ba r.bd.length p.bc] 25).below ((Below.refl _ _).alloc (Nat.le_refl _) _)
  have HR1 : Hid (RL ((w.alloc (.cells #[.string r.pr, .slice p.a r.hd.length p.c, .slice p.ba r.bd.length p.bc] 25)).alloc (.cells #[.string s.pr, .slice q.a s.hd.length q.c, .slice q.ba s.bd.length q.bc] 25)) (w.heap.size + 1) 25 [.string s.pr, .slice q.a s.hd.length q.c, .slice q.ba s.bd.length q.bc]) := by
    have := rl_new (w.alloc (.cells #[.string r.pr, .slice p.a r.hd.length p.c, .slice p.ba r.bd.length p.bc] 25)) #[.string s.pr, .slice q.a s.hd.length q.c, .slice q.ba s.bd.length q.bc] 25
    rw [World.size_alloc] at this
    exact this
  have HA : Hid _ := sameArgs_any _ _ r.hd s.hd _ (hR.hd.below BB) (hS.hd.below BB)
  have HB : Hid (∀ u, Below w.heap.size w u → Calls Tryz.prog 18 #[.slice p.ba r.bd.length p.bc, .slice q.ba s.bd.length q.bc] u fun e w' => e = .returned (.bool (eqB (r.bd.map XL.x) (s.bd.map XL.x))) ∧ Below u.heap.size u w') := fun u hu => sameLiterals_any d _ _ r.bd s.bd u (hR.bd.below hu) (hS.bd.below hu)
  have HBB : Hid (Below w.heap.size w _) := BB
  obtain ⟨R, hRR⟩ : ∃ R, sameR r s = R := ⟨_, rfl⟩
  rw [hRR]
  have HRR : Hid (sameR r s = R) := hRR
  clear BA BB hR hS hRR
  by_cases hp : r.pr = s.pr
  · have e0 : (r.pr.toList == s.pr.toList) = true := by rw [hp]; simp
    have HQ1 : Hid (eqB r.hd s.hd = false → R = false) := fun h => by rw [← HRR.out]; exact sameR_f (fun e => eqB_ne h e.hd)
    have HQ2 : Hid (eqB r.hd s.hd = true → R = eqB (r.bd.map XL.x) (s.bd.map XL.x)) := fun h => by
      rw [← HRR.out]
      cases q : eqB (r.bd.map XL.x) (s.bd.map XL.x)
      · exact sameR_f (fun e => eqB_ne q e.bd)
      · exact sameR_t ⟨hp, eqB_eq h, eqB_eq q⟩
    generalize eqB r.hd s.hd = Q1 at HA HQ1 HQ2
    generalize eqB (r.bd.map XL.x) (s.bd.map XL.x) = Q2 at HB HQ2
    clear hp
    go_enter Tryz.func7, Tryz.ntmps7
    go_wp2_with fail
    refine Calls.mono HA.out ?_
    rintro ee w1 ⟨rfl, b1⟩
    have B1 : Hid (Below w.heap.size w w1) := HBB.out.trans (b1.mono HBB.out.size)
    have H0 : Hid (RL w1 w.heap.size 25 _) := RL.below HR0.out b1
    have H1 : Hid (RL w1 (w.heap.size + 1) 25 _) := RL.below HR1.out b1
    cases Q1
    · have HN : R = false := by first | exact HQ1.out rfl | exact HQ1.out trivial | exact HQ1.out
      clear b1 HR0 HR1 HBB HA HB HQ1 HQ2
      go_wp2
      go_ret
      exact ⟨by rw [HN]; rfl, B1.out⟩
    have u2 := H0.out.at (j := 2) rfl
    have v2 := H1.out.at (j := 2) rfl
    have HN : Hid (R = Q2) := by first | exact HQ2.out rfl | exact HQ2.out trivial | exact HQ2.out
    clear b1 HR0 HR1 HBB HA HQ1 HQ2
    go_wp2_with fail
    refine Calls.mono (HB.out _ B1.out) ?_
    rintro ee w2 ⟨rfl, b2⟩
    go_wp2
    go_ret
    exact ⟨by rw [HN.out]; rfl, B1.out.trans (b2.mono B1.out.size)⟩
  · have e0 : (r.pr.toList == s.pr.toList) = false := by
      rw [beq_eq_false_iff_ne]
      exact fun h => hp (toList_inj h)
    have HN : Hid (R = false) := by show R = _; rw [← HRR.out]; exact sameR_f (fun e => hp e.pr)
    clear hp HA HB HR0 HR1
    go_enter Tryz.func7, Tryz.ntmps7
    go_wp2
    go_ret
    exact ⟨by rw [HN.out]; rfl, HBB.out⟩
open Go.RowKit Go.Maps
set_option linter.unusedVariables false
set_option linter.unusedSimpArgs false
attribute [local go_sem ↓] Go.wp_at_zero Go.wp_at_succ

/-- the four boxes that the call lays, and that all that lay there is as it was -/
structure US (w : World) (r t : R3) (p q : RP) (pa pb : ByteArray) (na nb : Nat) (aa ab : Option Addr) (ca cb : Nat) (wc : World) : Prop where
  bel : Below w.heap.size w wc
  b0 : RL wc w.heap.size 25 [.string r.pr, .slice p.a r.hd.length p.c, .slice p.ba r.bd.length p.bc]
  b1 : RL wc (w.heap.size + 1) 25 [.string t.pr, .slice q.a t.hd.length q.c, .slice q.ba t.bd.length q.bc]
  b2 : RL wc (w.heap.size + 1 + 1) 29 [.string pa, .slice aa na ca]
  b3 : RL wc (w.heap.size + 1 + 1 + 1) 29 [.string pb, .slice ab nb cb]
theorem US.next {w : World} {r t : R3} {p q : RP} {pa pb : ByteArray} {na nb : Nat} {aa ab : Option Addr} {ca cb : Nat} {u v : World} (h : US w r t p q pa pb na nb aa ab ca cb u) (b : Below u.heap.size u v) : US w r t p q pa pb na nb aa ab ca cb v :=
  ⟨h.bel.trans (b.mono h.bel.size), h.b0.below b, h.b1.below b, h.b2.below b, h.b3.below b⟩
theorem us_new (w : World) (r t : R3) (p q : RP) (pa pb : ByteArray) (na nb : Nat) (aa ab : Option Addr) (ca cb : Nat) : US w r t p q pa pb na nb aa ab ca cb (((((w.alloc (.cells #[.string r.pr, .slice p.a r.hd.length p.c, .slice p.ba r.bd.length p.bc] 25)).alloc (.cells #[.string t.pr, .slice q.a t.hd.length q.c, .slice q.ba t.bd.length q.bc] 25)).alloc (.cells #[.string pa, .slice aa na ca] 29)).alloc (.cells #[.string pb, .slice ab nb cb] 29)).alloc (.cells #[.string r.pr, .slice p.a r.hd.length p.c, .slice p.ba r.bd.length p.bc, .string t.pr, .slice q.a t.hd.length q.c, .slice q.ba t.bd.length q.bc] 25)) := by
  have r0 := rl_new w #[.string r.pr, .slice p.a r.hd.length p.c, .slice p.ba r.bd.length p.bc] 25
  have r1 := rl_new (w.alloc (.cells #[.string r.pr, .slice p.a r.hd.length p.c, .slice p.ba r.bd.length p.bc] 25)) #[.string t.pr, .slice q.a t.hd.length q.c, .slice q.ba t.bd.length q.bc] 25
  have r2 := rl_new ((w.alloc (.cells #[.string r.pr, .slice p.a r.hd.length p.c, .slice p.ba r.bd.length p.bc] 25)).alloc (.cells #[.string t.pr, .slice q.a t.hd.length q.c, .slice q.ba t.bd.length q.bc] 25)) #[.string pa, .slice aa na ca] 29
  have r3 := rl_new (((w.alloc (.cells #[.string r.pr, .slice p.a r.hd.length p.c, .slice p.ba r.bd.length p.bc] 25)).alloc (.cells #[.string t.pr, .slice q.a t.hd.length q.c, .slice q.ba t.bd.length q.bc] 25)).alloc (.cells #[.string pa, .slice aa na ca] 29)) #[.string pb, .slice ab nb cb] 29
  have g1 : ∀ (u : World) (o : Obj), Below u.heap.size u (u.alloc o) := fun u o => (Below.refl _ _).alloc (Nat.le_refl _) _
  simp only [World.size_alloc] at r1 r2 r3
  have c : ∀ {u v x : World}, Below u.heap.size u v → Below v.heap.size v x → Below u.heap.size u x := fun h k => h.trans (k.mono h.size)
  exact ⟨c (c (c (c (g1 _ _) (g1 _ _)) (g1 _ _)) (g1 _ _)) (g1 _ _), r0.below (c (c (c (g1 _ _) (g1 _ _)) (g1 _ _)) (g1 _ _)), r1.below (c (c (g1 _ _) (g1 _ _)) (g1 _ _)), r2.below (c (g1 _ _) (g1 _ _)), r3.below (g1 _ _)⟩
theorem lr_two (w : World) (r t : R3) (p q : RP) (pa pb : ByteArray) (na nb : Nat) (aa ab : Option Addr) (ca cb : Nat) (d : Nat) (hR : RIs w d r p) (hT : RIs w d t q) : Lr (((((w.alloc (.cells #[.string r.pr, .slice p.a r.hd.length p.c, .slice p.ba r.bd.length p.bc] 25)).alloc (.cells #[.string t.pr, .slice q.a t.hd.length q.c, .slice q.ba t.bd.length q.bc] 25)).alloc (.cells #[.string pa, .slice aa na ca] 29)).alloc (.cells #[.string pb, .slice ab nb cb] 29)).alloc (.cells #[.string r.pr, .slice p.a r.hd.length p.c, .slice p.ba r.bd.length p.bc, .string t.pr, .slice q.a t.hd.length q.c, .slice q.ba t.bd.length q.bc] 25)) (.slice (some ⟨w.heap.size + 1 + 1 + 1 + 1, 0, none⟩) 2 2) d [⟨r, p⟩, ⟨t, q⟩] := by
  have hb := (us_new w r t p q pa pb na nb aa ab ca cb).bel
  have r4 := rl_new ((((w.alloc (.cells #[.string r.pr, .slice p.a r.hd.length p.c, .slice p.ba r.bd.length p.bc] 25)).alloc (.cells #[.string t.pr, .slice q.a t.hd.length q.c, .slice q.ba t.bd.length q.bc] 25)).alloc (.cells #[.string pa, .slice aa na ca] 29)).alloc (.cells #[.string pb, .slice ab nb cb] 29)) #[.string r.pr, .slice p.a r.hd.length p.c, .slice p.ba r.bd.length p.bc, .string t.pr, .slice q.a t.hd.length q.c, .slice q.ba t.bd.length q.bc] 25
  simp only [World.size_alloc] at r4
  refine ⟨⟨by unfold maxLen; simp, _, _, rfl, by simp, by unfold maxLen; simp, fun _ => ⟨_, _, rfl, World.rowIs.lt r4, fun i hi => ?_⟩⟩, fun i hi => ?_⟩
  · rw [Nat.zero_add]
    exact r4.at (List.getElem?_eq_getElem hi)
  · have : i = 0 ∨ i = 1 := by simp at hi; omega
    rcases this with rfl | rfl
    · exact hR.below hb
    · exact hT.below hb
/-- what is told of a text, in two words -/
structure TD (v : Value) (b : Bool) (tx : List UInt8) (s : ByteArray) (er : Int) : Prop where
  eq : v = .tuple #[.string s, .int .i64 er]
  er : (er == 0) = b
  txt : b = true → s.data.toList = tx
theorem td_V (b : Bool) (tx : List UInt8) : ∃ s er, TD (toldV b tx) b tx s er := by
  cases b
  · exact ⟨_, _, rfl, rfl, fun h => by cases h⟩
  · exact ⟨_, _, rfl, rfl, fun _ => rfl⟩
theorem td_F (b : Bool) (tx : List UInt8) : ∃ s er, TD (toldF b tx) b tx s er := by
  cases b
  · exact ⟨_, _, rfl, rfl, fun h => by cases h⟩
  · exact ⟨_, _, rfl, rfl, fun _ => rfl⟩
theorem beq_texts {s s' : ByteArray} {x y : List UInt8} {Q : Bool} (h1 : s.data.toList = x) (h2 : s'.data.toList = y) (h3 : x = y → Q = true) (h4 : Q = true → x = y) : (s.toList == s'.toList) = Q := by
  rw [ByteArray.toList_eq, ByteArray.toList_eq, h1, h2]
  by_cases e : x = y
  · rw [h3 e, e]; simp
  · cases Q
    · rw [beq_eq_false_iff_ne]; exact e
    · exact absurd (h4 rfl) e
theorem texts_rule {d : Nat} {r t : R3} {s s' : ByteArray} {v v' : Value} {e e' : Int} (h1 : TD v (ruleB d r) (ruleT r) s e) (h2 : TD v' (ruleB d t) (ruleT t) s' e') (b1 : ruleB d r = true) (b2 : ruleB d t = true) : (s.toList == s'.toList) = sameR r t := by
  refine beq_texts (h1.txt b1) (h2.txt b2) (fun h => ?_) (fun h => PU.rule_same (sameR_eq h))
  obtain ⟨n1, _, _, a1, l1⟩ := ruleB_form b1
  obtain ⟨n2, _, _, a2, l2⟩ := ruleB_form b2
  exact sameR_t (PU.rule_inj n1 n2 a1 a2 l1 l2 h)
theorem texts_facts {l m : List XF} {s s' : ByteArray} {v v' : Value} {e e' : Int} (h1 : TD v (okF l) (txtF l) s e) (h2 : TD v' (okF m) (txtF m) s' e') (b1 : okF l = true) (b2 : okF m = true) : (s.toList == s'.toList) = eqB (l.map PU.XF.bare) (m.map PU.XF.bare) :=
  beq_texts (h1.txt b1) (h2.txt b2) (fun h => eqB_t (PU.facts_inj b1 b2 h)) (fun h => PU.facts_same (eqB_eq h))
theorem texts_query {pa pb : ByteArray} {ta tb : List T} {s s' : ByteArray} {v v' : Value} {e e' : Int} (h1 : TD v (atomB pa ta) (atomT pa ta ++ [63]) s e) (h2 : TD v' (atomB pb tb) (atomT pb tb ++ [63]) s' e') (b1 : atomB pa ta = true) (b2 : atomB pb tb = true) : (s.toList == s'.toList) = eqB (pa, ta) (pb, tb) := by
  refine beq_texts (h1.txt b1) (h2.txt b2) (fun h => ?_) (fun h => ?_)
  · obtain ⟨e1, e2⟩ := PU.query_inj b1 b2 h
    exact eqB_t (by rw [e1, e2])
  · have := eqB_eq h
    injection this with e1 e2
    rw [e1, e2]
set_option maxHeartbeats 12800000 in
set_option maxRecDepth 100000 in
theorem apart_walk (d : Nat) (r t : R3) (p q : RP) (l m : List XF) (la lb : Option Addr) (lc mc : Nat) (pa pb : ByteArray) (ta tb : List T) (aa ab : Option Addr) (ca cb : Nat) (w : World) (hG : Gl2 w) (hR : RIs w d r p) (hT : RIs w d t q)
    (hL : Lf w (.slice la l.length lc) l) (hM : Lf w (.slice lb m.length mc) m) (hsl : smallF l) (hsm : smallF m) (hA : Lt w (.slice aa ta.length ca) ta) (hB : Lt w (.slice ab tb.length cb) tb) (hpa : pa.size ≤ maxLen) (hpb : pb.size ≤ maxLen) :
    Calls Tryz.prog 4 #[r.val p, t.val q, .slice la l.length lc, .slice lb m.length mc, .agg #[.string pa, .slice aa ta.length ca], .agg #[.string pb, .slice ab tb.length cb]] w fun e w' => e = .returned (.bool true) ∧ Below w.heap.size w w' := by
  have HBY : Hid _ := beyondRules_any d _ [⟨r, p⟩, ⟨t, q⟩] _ (by simp) (lr_two w r t p q pa pb ta.length tb.length aa ab ca cb d hR hT)
  have HU0 : Hid _ := us_new w r t p q pa pb ta.length tb.length aa ab ca cb
  obtain ⟨s1, e1, td1⟩ := td_V (ruleB d r) (ruleT r)
  obtain ⟨s2, e2, td2⟩ := td_V (ruleB d t) (ruleT t)
  obtain ⟨s3, e3, td3⟩ := td_F (okF l) (txtF l)
  obtain ⟨s4, e4, td4⟩ := td_F (okF m) (txtF m)
  obtain ⟨s5, e5, td5⟩ := td_V (atomB pa ta) (atomT pa ta ++ [63])
  obtain ⟨s6, e6, td6⟩ := td_V (atomB pb tb) (atomT pb tb ++ [63])
  have HP1 : Hid (smallR d r → ∀ u, Below w.heap.size w u → Calls Tryz.prog 6 #[.agg #[.string r.pr, .slice p.a r.hd.length p.c, .slice p.ba r.bd.length p.bc]] u fun e w' => e = .returned (.tuple #[.string s1, .int .i64 e1]) ∧ Below u.heap.size u w') := fun hs u hu => by
    have := pRule_any d r p u (hG.below hu).gr (hR.below hu) hs
    rw [td1.eq] at this
    exact this
  have HP2 : Hid (smallR d t → ∀ u, Below w.heap.size w u → Calls Tryz.prog 6 #[.agg #[.string t.pr, .slice q.a t.hd.length q.c, .slice q.ba t.bd.length q.bc]] u fun e w' => e = .returned (.tuple #[.string s2, .int .i64 e2]) ∧ Below u.heap.size u w') := fun hs u hu => by
    have := pRule_any d t q u (hG.below hu).gr (hT.below hu) hs
    rw [td2.eq] at this
    exact this
  have HP3 : Hid (∀ u, Below w.heap.size w u → Calls Tryz.prog 8 #[.slice la l.length lc] u fun e w' => e = .returned (.tuple #[.string s3, .int .i64 e3]) ∧ Below u.heap.size u w') := fun u hu => by
    have := pFacts_any _ l u (hG.below hu).gf (hL.below hu) hsl
    rw [td3.eq] at this
    exact this
  have HP4 : Hid (∀ u, Below w.heap.size w u → Calls Tryz.prog 8 #[.slice lb m.length mc] u fun e w' => e = .returned (.tuple #[.string s4, .int .i64 e4]) ∧ Below u.heap.size u w') := fun u hu => by
    have := pFacts_any _ m u (hG.below hu).gf (hM.below hu) hsm
    rw [td4.eq] at this
    exact this
  have HP5 : Hid (∀ u, Below w.heap.size w u → Calls Tryz.prog 10 #[.agg #[.string pa, .slice aa ta.length ca]] u fun e w' => e = .returned (.tuple #[.string s5, .int .i64 e5]) ∧ Below u.heap.size u w') := fun u hu => by
    have := pQuery_any pa _ ta u (hG.below hu).gf.gp.pw hpa (hA.below hu)
    rw [td5.eq] at this
    exact this
  have HP6 : Hid (∀ u, Below w.heap.size w u → Calls Tryz.prog 10 #[.agg #[.string pb, .slice ab tb.length cb]] u fun e w' => e = .returned (.tuple #[.string s6, .int .i64 e6]) ∧ Below u.heap.size u w') := fun u hu => by
    have := pQuery_any pb _ tb u (hG.below hu).gf.gp.pw hpb (hB.below hu)
    rw [td6.eq] at this
    exact this
  have HC1 : Hid (∀ u, Below w.heap.size w u → Calls Tryz.prog 7 #[.agg #[.string r.pr, .slice p.a r.hd.length p.c, .slice p.ba r.bd.length p.bc], .agg #[.string t.pr, .slice q.a t.hd.length q.c, .slice q.ba t.bd.length q.bc]] u fun e w' => e = .returned (.bool (sameR r t)) ∧ Below u.heap.size u w') := fun u hu => sameRule_any d r t p q u (hR.below hu) (hT.below hu)
  have HC2 : Hid (∀ u, Below w.heap.size w u → Calls Tryz.prog 9 #[.slice la l.length lc, .slice lb m.length mc] u fun e w' => e = .returned (.bool (eqB (l.map PU.XF.bare) (m.map PU.XF.bare))) ∧ Below u.heap.size u w') := fun u hu => sameFacts_any _ _ l m u (hL.below hu) (hM.below hu)
  have HC3 : Hid (∀ u, Below w.heap.size w u → Calls Tryz.prog 11 #[.agg #[.string pa, .slice aa ta.length ca], .agg #[.string pb, .slice ab tb.length cb]] u fun e w' => e = .returned (.bool (eqB (pa, ta) (pb, tb))) ∧ Below u.heap.size u w') := fun u hu => sameAtom_any pa pb ta tb _ _ u (hA.below hu) (hB.below hu)
  have HLI : Hid (∀ u, Below w.heap.size w u → Calls Tryz.prog 12 #[] u fun e w' => e = .returned (.bool true) ∧ Below u.heap.size u w') := fun u hu => lives_any u (hG.below hu).gf.gp
  have HQ1 : Hid (ruleB d r = true → ruleB d t = true → (s1.toList == s2.toList) = sameR r t) := texts_rule td1 td2
  have HQ2 : Hid (okF l = true → okF m = true → (s3.toList == s4.toList) = eqB (l.map PU.XF.bare) (m.map PU.XF.bare)) := texts_facts td3 td4
  have HQ3 : Hid (atomB pa ta = true → atomB pb tb = true → (s5.toList == s6.toList) = eqB (pa, ta) (pb, tb)) := texts_query td5 td6
  have h1 := td1.er
  have h2 := td2.er
  have h3 := td3.er
  have h4 := td4.er
  have h5 := td5.er
  have h6 := td6.er
  have Hh1 : Hid _ := h1
  have Hh2 : Hid _ := h2
  have Hh3 : Hid _ := h3
  have Hh4 : Hid _ := h4
  have Hh5 : Hid _ := h5
  have Hh6 : Hid _ := h6
  clear td1 td2 td3 td4 td5 td6 h1 h2 h3 h4 h5 h6 hG hR hT hL hM hsl hsm hA hB hpa hpb
  generalize ruleB d r = o1 at HQ1 Hh1
  generalize ruleB d t = o2 at HQ1 Hh2
  generalize okF l = o3 at HQ2 Hh3
  generalize okF m = o4 at HQ2 Hh4
  generalize atomB pa ta = o5 at HQ3 Hh5
  generalize atomB pb tb = o6 at HQ3 Hh6
  generalize sameR r t = Q1 at HQ1 HC1
  generalize eqB (l.map PU.XF.bare) (m.map PU.XF.bare) = Q2 at HQ2 HC2
  generalize eqB (pa, ta) (pb, tb) = Q3 at HQ3 HC3
  unfold R3.val
  go_enter Tryz.func4, Tryz.ntmps4
  go_wp2_with fail
  refine Calls.mono HBY.out ?_
  rintro ee w1 ⟨bb, rfl, b1, hsm⟩
  have HU1 : Hid (US w r t p q pa pb ta.length tb.length aa ab ca cb w1) := HU0.out.next b1
  have HSM : Hid _ := hsm
  clear hsm b1 HBY HU0
  cases bb
  · have hsm := HSM.out (by first | rfl | trivial)
    have hs1 : smallR d r := hsm.each 0 (by simp)
    have hs2 : smallR d t := hsm.each 1 (by simp)
    have HP1 : Hid _ := HP1.out hs1
    have HP2 : Hid _ := HP2.out hs2
    clear hsm hs1 hs2 HSM
    have x0 := HU1.out.b0.at (j := 0) rfl
    have x1 := HU1.out.b0.at (j := 1) rfl
    have x2 := HU1.out.b0.at (j := 2) rfl
    go_wp2_with fail
    refine Calls.mono (HP1.out _ HU1.out.bel) ?_
    rintro ee w2 ⟨rfl, b2⟩
    have HU2 : Hid (US w r t p q pa pb ta.length tb.length aa ab ca cb w2) := HU1.out.next b2
    clear b2 HU1 HP1 x0 x1 x2
    have x0 := HU2.out.b1.at (j := 0) rfl
    have x1 := HU2.out.b1.at (j := 1) rfl
    have x2 := HU2.out.b1.at (j := 2) rfl
    go_wp2_with fail
    refine Calls.mono (HP2.out _ HU2.out.bel) ?_
    rintro ee w3 ⟨rfl, b3⟩
    have HU3 : Hid (US w r t p q pa pb ta.length tb.length aa ab ca cb w3) := HU2.out.next b3
    clear b3 HU2 HP2 x0 x1 x2
    go_upto_region 5 with fail
    go_cut [45] (fun tt wc => tt = .bool false ∧ Hid (US w r t p q pa pb ta.length tb.length aa ab ca cb wc))
    case first =>
      cases o1
      · have g1 := Hh1.out
        clear HQ1 HQ2 HQ3 HC1 HC2 HC3 HP3 HP4 HP5 HP6 HLI
        go_wp2_with fail
        go_meet
        case rel => exact ⟨rfl, HU3⟩
      · cases o2
        · have g1 := Hh1.out
          have g2 := Hh2.out
          clear HQ1 HQ2 HQ3 HC1 HC2 HC3 HP3 HP4 HP5 HP6 HLI
          go_wp2_with fail
          go_meet
          case rel => exact ⟨rfl, HU3⟩
        · have g1 := Hh1.out
          have g2 := Hh2.out
          have g3 := HQ1.out (by first | rfl | trivial) (by first | rfl | trivial)
          have x0 := HU3.out.b0.at (j := 0) rfl
          have x1 := HU3.out.b0.at (j := 1) rfl
          have x2 := HU3.out.b0.at (j := 2) rfl
          have y0 := HU3.out.b1.at (j := 0) rfl
          have y1 := HU3.out.b1.at (j := 1) rfl
          have y2 := HU3.out.b1.at (j := 2) rfl
          clear HQ1 HQ2 HQ3 HC2 HC3 HP3 HP4 HP5 HP6 HLI
          cases Q1
          all_goals
            go_wp2_with fail
            refine Calls.mono (HC1.out _ HU3.out.bel) ?_
            rintro ee w4 ⟨rfl, b4⟩
            have HU4 : Hid (US w r t p q pa pb ta.length tb.length aa ab ca cb w4) := HU3.out.next b4
            clear b4 HU3 x0 x1 x2 y0 y1 y2
            go_wp2_with fail
            go_meet
            case rel => exact ⟨rfl, HU4⟩
    case rest =>
      obtain ⟨rfl, HU4⟩ := hcut
      clear HU3 HQ1 HC1 Hh1 Hh2
      go_wp2_with fail
      refine Calls.mono (HP3.out _ HU4.out.bel) ?_
      rintro ee w5 ⟨rfl, b5⟩
      have HU5 : Hid (US w r t p q pa pb ta.length tb.length aa ab ca cb w5) := HU4.out.next b5
      clear b5 HU4 HP3
      go_wp2_with fail
      refine Calls.mono (HP4.out _ HU5.out.bel) ?_
      rintro ee w6 ⟨rfl, b6⟩
      have HU6 : Hid (US w r t p q pa pb ta.length tb.length aa ab ca cb w6) := HU5.out.next b6
      clear b6 HU5 HP4
      go_upto_region 9 with fail
      go_cut [70] (fun tt wc => tt = .bool false ∧ Hid (US w r t p q pa pb ta.length tb.length aa ab ca cb wc))
      case first =>
        cases o3
        · have g1 := Hh3.out
          clear HQ2 HQ3 HC2 HC3 HP5 HP6 HLI
          go_wp2_with fail
          go_meet
          case rel => exact ⟨rfl, HU6⟩
        · cases o4
          · have g1 := Hh3.out
            have g2 := Hh4.out
            clear HQ2 HQ3 HC2 HC3 HP5 HP6 HLI
            go_wp2_with fail
            go_meet
            case rel => exact ⟨rfl, HU6⟩
          · have g1 := Hh3.out
            have g2 := Hh4.out
            have g3 := HQ2.out (by first | rfl | trivial) (by first | rfl | trivial)
            clear HQ2 HQ3 HC3 HP5 HP6 HLI
            cases Q2
            all_goals
              go_wp2_with fail
              refine Calls.mono (HC2.out _ HU6.out.bel) ?_
              rintro ee w4 ⟨rfl, b4⟩
              have HU7 : Hid (US w r t p q pa pb ta.length tb.length aa ab ca cb w4) := HU6.out.next b4
              clear b4 HU6
              go_wp2_with fail
              go_meet
              case rel => exact ⟨rfl, HU7⟩
      case rest =>
        obtain ⟨rfl, HU7⟩ := hcut
        clear HU6 HQ2 HC2 Hh3 Hh4
        have x0 := HU7.out.b2.at (j := 0) rfl
        have x1 := HU7.out.b2.at (j := 1) rfl
        go_wp2_with fail
        refine Calls.mono (HP5.out _ HU7.out.bel) ?_
        rintro ee w8 ⟨rfl, b8⟩
        have HU8 : Hid (US w r t p q pa pb ta.length tb.length aa ab ca cb w8) := HU7.out.next b8
        clear b8 HU7 HP5 x0 x1
        have x0 := HU8.out.b3.at (j := 0) rfl
        have x1 := HU8.out.b3.at (j := 1) rfl
        go_wp2_with fail
        refine Calls.mono (HP6.out _ HU8.out.bel) ?_
        rintro ee w9 ⟨rfl, b9⟩
        have HU9 : Hid (US w r t p q pa pb ta.length tb.length aa ab ca cb w9) := HU8.out.next b9
        clear b9 HU8 HP6 x0 x1
        go_upto_region 13 with fail
        go_cut [95] (fun tt wc => tt = .bool false ∧ Hid (US w r t p q pa pb ta.length tb.length aa ab ca cb wc))
        case first =>
          cases o5
          · have g1 := Hh5.out
            clear HQ3 HC3 HLI
            go_wp2_with fail
            go_meet
            case rel => exact ⟨rfl, HU9⟩
          · cases o6
            · have g1 := Hh5.out
              have g2 := Hh6.out
              clear HQ3 HC3 HLI
              go_wp2_with fail
              go_meet
              case rel => exact ⟨rfl, HU9⟩
            · have g1 := Hh5.out
              have g2 := Hh6.out
              have g3 := HQ3.out (by first | rfl | trivial) (by first | rfl | trivial)
              have x0 := HU9.out.b2.at (j := 0) rfl
              have x1 := HU9.out.b2.at (j := 1) rfl
              have y0 := HU9.out.b3.at (j := 0) rfl
              have y1 := HU9.out.b3.at (j := 1) rfl
              clear HQ3 HLI
              cases Q3
              all_goals
                go_wp2_with fail
                refine Calls.mono (HC3.out _ HU9.out.bel) ?_
                rintro ee w4 ⟨rfl, b4⟩
                have HUa : Hid (US w r t p q pa pb ta.length tb.length aa ab ca cb w4) := HU9.out.next b4
                clear b4 HU9 x0 x1 y0 y1
                go_wp2_with fail
                go_meet
                case rel => exact ⟨rfl, HUa⟩
        case rest =>
          obtain ⟨rfl, HUa⟩ := hcut
          clear HU9 HQ3 HC3 Hh5 Hh6
          go_wp2_with fail
          refine Calls.mono (HLI.out _ HUa.out.bel) ?_
          rintro ee wz ⟨rfl, bz⟩
          go_wp2
          go_ret
          exact ⟨rfl, HUa.out.bel.trans (bz.mono HUa.out.bel.size)⟩
  · clear HQ1 HQ2 HQ3 HC1 HC2 HC3 HP1 HP2 HP3 HP4 HP5 HP6 HLI HSM
    go_wp2
    go_ret
    exact ⟨rfl, HU1.out.bel⟩
set_option maxHeartbeats 3200000 in
theorem printUnlike_walk (d : Nat) (r t : R3) (p q : RP) (l m : List XF) (la lb : Option Addr) (lc mc : Nat) (pa pb : ByteArray) (ta tb : List T) (aa ab : Option Addr) (ca cb : Nat) (w : World) (hG : Gl2 w) (hR : RIs w d r p) (hT : RIs w d t q)
    (hL : Lf w (.slice la l.length lc) l) (hM : Lf w (.slice lb m.length mc) m) (hsl : smallF l) (hsm : smallF m) (hA : Lt w (.slice aa ta.length ca) ta) (hB : Lt w (.slice ab tb.length cb) tb) (hpa : pa.size ≤ maxLen) (hpb : pb.size ≤ maxLen) :
    Calls Tryz.prog 3 #[.agg #[.string r.pr, .slice p.a r.hd.length p.c, .slice p.ba r.bd.length p.bc, .string t.pr, .slice q.a t.hd.length q.c, .slice q.ba t.bd.length q.bc, .slice la l.length lc, .slice lb m.length mc, .string pa, .slice aa ta.length ca, .string pb, .slice ab tb.length cb]] w fun e w' => e = .returned (.bool true) ∧ Below w.heap.size w w' := by
  have BA : Below w.heap.size w (w.alloc (.cells #[.string r.pr, .slice p.a r.hd.length p.c, .slice p.ba r.bd.length p.bc, .string t.pr, .slice q.a t.hd.length q.c, .slice q.ba t.bd.length q.bc, .slice la l.length lc, .slice lb m.length mc, .string pa, .slice aa ta.length ca, .string pb, .slice ab tb.length cb] 31)) := (Below.refl _ _).alloc (Nat.le_refl _) _
  have HW : Hid _ := apart_walk d r t p q l m la lb lc mc pa pb ta tb aa ab ca cb _ (hG.below BA) (hR.below BA) (hT.below BA) (hL.below BA) (hM.below BA) hsl hsm (hA.below BA) (hB.below BA) hpa hpb
  have HB : Hid (Below w.heap.size w _) := BA
  unfold R3.val at HW
  clear hG hR hT hL hM hsl hsm hA hB hpa hpb BA
  go_enter Tryz.func3, Tryz.ntmps3
  go_wp2_with fail
  refine Calls.mono HW.out ?_
  rintro ee w1 ⟨rfl, b1⟩
  go_wp2
  go_ret
  exact ⟨rfl, HB.out.trans (b1.mono HB.out.size)⟩
end Go.Proofs.YtikjphfeeljhbaaGreatDoor
