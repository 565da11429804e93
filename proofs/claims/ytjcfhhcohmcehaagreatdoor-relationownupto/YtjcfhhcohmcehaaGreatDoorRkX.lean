import Derived.Test.YtjcfhhcohmcehaaGreatDoorRkL
import Derived.Test.YtjcfhhcohmcehaaGreatDoorRkE
namespace Go.Proofs.YtjcfhhcohmcehaaGreatDoor.BK
open Go.RowKit Go.Maps
set_option linter.unusedVariables false
set_option linter.unusedSimpArgs false
attribute [local go_sem ↓] Go.wp_at_zero Go.wp_at_succ

theorem fil_keep {K : Kd} {S : Nat} {w w' : World} {E : Nat → Prop} {l : List Hd} (h : ∀ h ∈ l, Fil K S w h) (t : Tch E w w') (hE : ∀ g, E g → g < S ∧ ¬ RG l g) : ∀ h ∈ l, Fil K S w' h := fun x hx => (h x hx).keep t.size (fun g hg hor => t.block g hg (fun e => by
  rcases hor with q | q
  · have := (hE g e).1; omega
  · exact (hE g e).2 ⟨x, hx, q⟩))
theorem dn_keep {K : Kd} {S : Nat} {w w' : World} {E : Nat → Prop} {l : List Hd} (h : ∀ h ∈ l, Dn K S w h) (t : Tch E w w') (hE : ∀ g, E g → g < S ∧ ¬ RG l g) : ∀ h ∈ l, Dn K S w' h := fun x hx => (h x hx).keep t.size (fun g hg hor => t.block g hg (fun e => by
  rcases hor with q | q
  · have := (hE g e).1; omega
  · exact (hE g e).2 ⟨x, hx, q⟩))
theorem Rg.keep {K : Kd} {w w' : World} {L bk B : Nat} {E : Nat → Prop} {l : List Hd} (h : Rg K w L bk B l) (t : Tch E w w') (hE : ∀ g, E g → ¬ RG l g) : Rg K w' L bk B l :=
  ⟨fun x hx => by
    obtain ⟨O, ho⟩ := h.reg x hx
    exact ⟨O, own_of_block ho (fun g hg => t.block g (ho.lt g hg).2 (fun e => hE g e ⟨x, hx, hg⟩))⟩, h.blt, h.nd, h.num, h.len⟩
theorem Rg.of_fil {K : Kd} {w w' : World} {L bk B S : Nat} {l : List Hd} (h : Rg K w L bk B l) (f : ∀ h ∈ l, Fil K S w' h) : Rg K w' L bk B l :=
  ⟨fun x hx => by
    obtain ⟨xs, _, ho, _⟩ := f x hx
    exact ⟨_, ho⟩, h.blt, h.nd, h.num, h.len⟩
theorem Rg.at {K : Kd} {w : World} {L bk B : Nat} {l : List Hd} (h : Rg K w L bk B l) {g : Nat} (hg : RG l g) : L ≤ g ∧ g < B ∧ g ≠ bk := by
  obtain ⟨x, hx, e⟩ := hg
  exact h.blt x hx g e
theorem like_rg {l l' : List Hd} (h : Like l l') {g : Nat} (hg : RG l' g) : RG l g := by
  obtain ⟨x, hx, e⟩ := hg
  obtain ⟨i, hi, rfl⟩ := mem_atH hx
  rw [h.1] at hi
  exact ⟨_, atH_mem hi, by rw [← h.blk hi]; exact e⟩
theorem like_num {l l' : List Hd} (h : Like l l') (hn : ∀ h ∈ l, h.m ≤ 2000000000 ∧ h.n ≤ 2097152) : ∀ h ∈ l', h.m ≤ 2000000000 ∧ h.n ≤ 2097152 := fun x hx => by
  obtain ⟨i, hi, rfl⟩ := mem_atH hx
  rw [h.1] at hi
  obtain ⟨_, q2, _, q4⟩ := h.2 i hi
  rw [q2, q4]
  exact hn _ (atH_mem hi)
theorem Bk.tch {w w' : World} {bk B n : Nat} {vI vR : Value} {hsI hsR : List Hd} {E : Nat → Prop} (h : Bk w bk B n vI vR hsI hsR) (t : Tch E w w') (hE : ∀ g, E g → g < B ∧ g ≠ bk) : Bk w' bk B n vI vR hsI hsR := h.keep (fun g hg hor => t.block g hg (fun e => by
  obtain ⟨q1, q2⟩ := hE g e
  rcases hor with q | q | q
  · exact q2 q
  · have := (h.rI.lt g q).1; omega
  · have := (h.rR.lt g q).1; omega))
structure Sep (L bk B : Nat) (hsI hsR : List Hd) : Prop where
  IR : ∀ g, RG hsI g → ¬ RG hsR g
/-- what Apart may turn -/
def EX (hsI hsR : List Hd) (vI vR : Value) (g : Nat) : Prop := (RG hsI g ∨ RG hsR g) ∨ (vI.ownBlock = some g ∨ vR.ownBlock = some g)
set_option maxHeartbeats 6400000 in
set_option maxRecDepth 100000 in
theorem growAll_any {w : World} {L bk B n S : Nat} {vI vR : Value} {hsI hsR : List Hd} (hB : Bk w bk B n vI vR hsI hsR) (hBS : B ≤ S) (hS : S ≤ w.heap.size) (hL : L ≤ bk) (hrw : ∀ g, (vI.ownBlock = some g ∨ vR.ownBlock = some g) → g < S) (qI : Rg KI w L bk B hsI) (qR : Rg KR w L bk B hsR) (sep : Sep L bk B hsI hsR) (fI : ∀ h ∈ hsI, Fil KI S w h) (fR : ∀ h ∈ hsR, Fil KR S w h) :
    Calls Tryz.prog 63 #[.pointer (some ⟨bk, 0, none⟩)] w fun e w' => e = .returned (.tuple #[]) ∧ Tch (EX hsI hsR vI vR) w w' ∧ ∃ hsI' hsR', Like hsI hsI' ∧ Like hsR hsR' ∧ Bk w' bk B n vI vR hsI' hsR' ∧ (∀ h ∈ hsI', Dn KI S w' h) ∧ (∀ h ∈ hsR', Dn KR S w' h) := by
  have hbB := hB.lt
  have hbs := World.rowIs.lt hB.box
  have HB0 := Lib.hid hB
  have HX := Lib.hid (And.intro hrw (And.intro sep ((⟨qI, qR, fI, fR⟩ : Rg KI w L bk B hsI ∧ Rg KR w L bk B hsR ∧ (∀ h ∈ hsI, Fil KI S w h) ∧ (∀ h ∈ hsR, Fil KR S w h)))))
  clear hB hrw sep qI qR fI fR
  have HL0 : Hid (Tch (EX hsI hsR vI vR) w w) := Tch.refl _ _
  have HZ0 : Hid (w.heap.size ≤ w.heap.size) := Nat.le_refl _
  go_enter Tryz.func63, Tryz.ntmps63
  go_wp2_with fail
  refine (growValue_no (HB0.out.box.at (j := 1) rfl)).mono ?_
  rintro e w9 ⟨rfl, hw9⟩
  have hw8 := hw9.symm
  subst hw8
  clear hw9
  go_wp2_with fail
  refine (growTuple_no (HB0.out.box.at (j := 2) rfl)).mono ?_
  rintro e w9 ⟨rfl, hw9⟩
  have hw8 := hw9.symm
  subst hw8
  clear hw9
  go_wp2_with fail
  refine (growFact_no (HB0.out.box.at (j := 3) rfl)).mono ?_
  rintro e w9 ⟨rfl, hw9⟩
  have hw8 := hw9.symm
  subst hw8
  clear hw9
  go_wp2_with fail
  refine (growTerm_no (HB0.out.box.at (j := 4) rfl)).mono ?_
  rintro e w9 ⟨rfl, hw9⟩
  have hw8 := hw9.symm
  subst hw8
  clear hw9
  go_wp2_with fail
  refine (growExpr_no (HB0.out.box.at (j := 5) rfl)).mono ?_
  rintro e w9 ⟨rfl, hw9⟩
  have hw8 := hw9.symm
  subst hw8
  clear hw9
  go_wp2_with fail
  refine (growLiteral_no (HB0.out.box.at (j := 6) rfl)).mono ?_
  rintro e w9 ⟨rfl, hw9⟩
  have hw8 := hw9.symm
  subst hw8
  clear hw9
  go_wp2_with fail
  refine (growArg_no (HB0.out.box.at (j := 7) rfl)).mono ?_
  rintro e w9 ⟨rfl, hw9⟩
  have hw8 := hw9.symm
  subst hw8
  clear hw9
  go_wp2_with fail
  refine (growRule_no (HB0.out.box.at (j := 8) rfl)).mono ?_
  rintro e w9 ⟨rfl, hw9⟩
  have hw8 := hw9.symm
  subst hw8
  clear hw9
  go_wp2_with fail
  refine (growPair_no (HB0.out.box.at (j := 9) rfl)).mono ?_
  rintro e w9 ⟨rfl, hw9⟩
  have hw8 := hw9.symm
  subst hw8
  clear hw9
  go_wp2_with fail
  refine (growBind_no (HB0.out.box.at (j := 10) rfl)).mono ?_
  rintro e w9 ⟨rfl, hw9⟩
  have hw8 := hw9.symm
  subst hw8
  clear hw9
  go_wp2_with fail
  refine (growBindList_no (HB0.out.box.at (j := 11) rfl)).mono ?_
  rintro e w9 ⟨rfl, hw9⟩
  have hw8 := hw9.symm
  subst hw8
  clear hw9
  go_wp2_with fail
  refine (growText_no (HB0.out.box.at (j := 12) rfl)).mono ?_
  rintro e w9 ⟨rfl, hw9⟩
  have hw8 := hw9.symm
  subst hw8
  clear hw9
  go_wp2_with fail
  refine (growTextList_no (HB0.out.box.at (j := 13) rfl)).mono ?_
  rintro e w9 ⟨rfl, hw9⟩
  have hw8 := hw9.symm
  subst hw8
  clear hw9
  have HG : Hid (Calls Tryz.prog 119 #[.pointer (some ⟨bk, 0, none⟩)] w fun e w' => e = .returned (.tuple #[]) ∧ Tch (fun g => RG hsI g ∨ vI.ownBlock = some g) w w' ∧ ∃ hx, Like hsI hx ∧ Bk w' bk B n vI vR hx hsR ∧ ∀ h ∈ hx, Dn KI S w' h) := by
    obtain ⟨hrw, sep, qI, qR, fI, fR⟩ := HX.out
    have r0 := qI
    have f0 := fI
    exact growI_any HB0.out hBS (Nat.le_trans hS HZ0.out) (fun g hg => hrw g (.inl hg)) r0 f0
  go_wp2_with fail
  refine HG.out.mono ?_
  rintro e x1 ⟨rfl, t, hsI', lk, b, d⟩
  have T0 := Lib.hid t
  have LKI := Lib.hid lk
  have HB1 := Lib.hid b
  have DI := Lib.hid d
  have HZ1 : Hid (w.heap.size ≤ x1.heap.size) := Nat.le_trans HZ0.out t.size
  have HL1 : Hid (Tch (EX hsI hsR vI vR) w x1) := HL0.out.trans (t.mono (fun g hg e => by
    rcases e with q | q
    · exact .inl (.inl q)
    · exact .inr (.inl q)))
  clear t lk b d HG
  have HG : Hid (Calls Tryz.prog 120 #[.pointer (some ⟨bk, 0, none⟩)] x1 fun e w' => e = .returned (.tuple #[]) ∧ Tch (fun g => RG hsR g ∨ vR.ownBlock = some g) x1 w' ∧ ∃ hx, Like hsR hx ∧ Bk w' bk B n vI vR hsI' hx ∧ ∀ h ∈ hx, Dn KR S w' h) := by
    obtain ⟨hrw, sep, qI, qR, fI, fR⟩ := HX.out
    have r0 := qR
    have f0 := fR
    have hE : ∀ g, (RG hsI g ∨ vI.ownBlock = some g) → g < S ∧ ¬ RG hsR g := fun g hg => by
      rcases hg with q | q
      · exact ⟨Nat.lt_of_lt_of_le (qI.at q).2.1 hBS, fun q2 => sep.IR g q q2⟩
      · exact ⟨hrw g (.inl q), fun q2 => by have := (HB0.out.rI.lt g q).1; have := (qR.at q2).2.1; omega⟩
    have r0 := r0.keep T0.out (fun g e => (hE g e).2)
    have f0 := fil_keep f0 T0.out hE
    exact growR_any HB1.out hBS (Nat.le_trans hS HZ1.out) (fun g hg => hrw g (.inr (hg))) r0 f0
  go_wp2_with fail
  refine HG.out.mono ?_
  rintro e x2 ⟨rfl, t, hsR', lk, b, d⟩
  have T1 := Lib.hid t
  have LKR := Lib.hid lk
  have HB2 := Lib.hid b
  have DR := Lib.hid d
  have HZ2 : Hid (w.heap.size ≤ x2.heap.size) := Nat.le_trans HZ1.out t.size
  have HL2 : Hid (Tch (EX hsI hsR vI vR) w x2) := HL1.out.trans (t.mono (fun g hg e => by
    rcases e with q | q
    · exact .inl (.inr (q))
    · exact .inr (.inr (q))))
  clear t lk b d HG
  go_wp2_with fail
  refine (growToken_no (HB2.out.box.at (j := 16) rfl)).mono ?_
  rintro e w9 ⟨rfl, hw9⟩
  have hw8 := hw9.symm
  subst hw8
  clear hw9
  go_wp2_with fail
  refine (growPred_no (HB2.out.box.at (j := 17) rfl)).mono ?_
  rintro e w9 ⟨rfl, hw9⟩
  have hw8 := hw9.symm
  subst hw8
  clear hw9
  go_wp2_with fail
  refine (growType_no (HB2.out.box.at (j := 18) rfl)).mono ?_
  rintro e w9 ⟨rfl, hw9⟩
  have hw8 := hw9.symm
  subst hw8
  clear hw9
  go_wp2_with fail
  refine (growSig_no (HB2.out.box.at (j := 19) rfl)).mono ?_
  rintro e w9 ⟨rfl, hw9⟩
  have hw8 := hw9.symm
  subst hw8
  clear hw9
  go_wp2_with fail
  refine (growEdge_no (HB2.out.box.at (j := 20) rfl)).mono ?_
  rintro e w9 ⟨rfl, hw9⟩
  have hw8 := hw9.symm
  subst hw8
  clear hw9
  go_wp2_with fail
  refine (growLevel_no (HB2.out.box.at (j := 21) rfl)).mono ?_
  rintro e w9 ⟨rfl, hw9⟩
  have hw8 := hw9.symm
  subst hw8
  clear hw9
  go_wp2_with fail
  refine (growMask_no (HB2.out.box.at (j := 22) rfl)).mono ?_
  rintro e w9 ⟨rfl, hw9⟩
  have hw8 := hw9.symm
  subst hw8
  clear hw9
  go_wp2_with fail
  refine (growStep_no (HB2.out.box.at (j := 23) rfl)).mono ?_
  rintro e w9 ⟨rfl, hw9⟩
  have hw8 := hw9.symm
  subst hw8
  clear hw9
  go_wp2_with fail
  refine (growRanked_no (HB2.out.box.at (j := 24) rfl)).mono ?_
  rintro e w9 ⟨rfl, hw9⟩
  have hw8 := hw9.symm
  subst hw8
  clear hw9
  go_wp2_with fail
  refine (growAdorned_no (HB2.out.box.at (j := 25) rfl)).mono ?_
  rintro e w9 ⟨rfl, hw9⟩
  have hw8 := hw9.symm
  subst hw8
  clear hw9
  go_wp2_with fail
  refine (growTable_no (HB2.out.box.at (j := 26) rfl)).mono ?_
  rintro e w9 ⟨rfl, hw9⟩
  have hw8 := hw9.symm
  subst hw8
  clear hw9
  go_wp2_with fail
  refine (growProof_no (HB2.out.box.at (j := 27) rfl)).mono ?_
  rintro e w9 ⟨rfl, hw9⟩
  have hw8 := hw9.symm
  subst hw8
  clear hw9
  go_wp2_with fail
  refine (growSize_no (HB2.out.box.at (j := 28) rfl)).mono ?_
  rintro e w9 ⟨rfl, hw9⟩
  have hw8 := hw9.symm
  subst hw8
  clear hw9
  go_wp2_with fail
  refine (growFloat_no (HB2.out.box.at (j := 29) rfl)).mono ?_
  rintro e w9 ⟨rfl, hw9⟩
  have hw8 := hw9.symm
  subst hw8
  clear hw9
  go_wp2_with fail
  refine (growCommit_no (HB2.out.box.at (j := 30) rfl)).mono ?_
  rintro e w9 ⟨rfl, hw9⟩
  have hw8 := hw9.symm
  subst hw8
  clear hw9
  go_wp2_with fail
  refine (growEvent_no (HB2.out.box.at (j := 31) rfl)).mono ?_
  rintro e w9 ⟨rfl, hw9⟩
  have hw8 := hw9.symm
  subst hw8
  clear hw9
  have HFIN : Hid (Tch (EX hsI hsR vI vR) w x2 ∧ ∃ hsI' hsR', Like hsI hsI' ∧ Like hsR hsR' ∧ Bk x2 bk B n vI vR hsI' hsR' ∧ (∀ h ∈ hsI', Dn KI S x2 h) ∧ (∀ h ∈ hsR', Dn KR S x2 h)) := by
    obtain ⟨hrw, sep, qI, qR, fI, fR⟩ := HX.out
    refine ⟨HL2.out, hsI', hsR', LKI.out, LKR.out, HB2.out, ?_, ?_⟩
    · have d0 := DI.out
      have d0 := dn_keep d0 T1.out (fun g e => by
        rcases e with q | q
        · exact ⟨Nat.lt_of_lt_of_le (qR.at q).2.1 hBS, fun q2 => sep.IR g (like_rg LKI.out q2) q⟩
        · exact ⟨hrw g (.inr (q)), fun q2 => by have := (HB0.out.rR.lt g q).1; have := (qI.at (like_rg LKI.out q2)).2.1; omega⟩)
      exact d0
    · have d0 := DR.out
      exact d0
  clear HX
  go_wp2
  go_end0
  exact ⟨rfl, HFIN.out⟩
set_option maxHeartbeats 6400000 in
set_option maxRecDepth 100000 in
theorem lookOne_any {w : World} {bk B n S : Nat} {vI vR : Value} {hsI hsR : List Hd} (hB : Bk w bk B n vI vR hsI hsR) (nI : ∀ h ∈ hsI, h.m ≤ 2000000000 ∧ h.n ≤ 2097152) (nR : ∀ h ∈ hsR, h.m ≤ 2000000000 ∧ h.n ≤ 2097152) (lI : hsI.length ≤ 1000000000) (lR : hsR.length ≤ 1000000000) (dI : ∀ h ∈ hsI, Dn KI S w h) (dR : ∀ h ∈ hsR, Dn KR S w h) :
    Calls Tryz.prog 64 #[.pointer (some ⟨bk, 0, none⟩)] w fun e w' => e = .returned (.bool true) ∧ Below w.heap.size w w' := by
  have kp : ∀ {K : Kd} {l : List Hd}, (∀ h ∈ l, Dn K S w h) → ∀ u, Below w.heap.size w u → ∀ h ∈ l, Dn K S u h := fun d u hu h hm => (d h hm).keep hu.size (fun g hg _ => hu.block g hg)
  have HLI : Hid (∀ u, Below w.heap.size w u → Calls Tryz.prog 150 #[.pointer (some ⟨bk, 0, none⟩)] u fun e w' => e = .returned (.bool true) ∧ Below u.heap.size u w') := fun u hu => lookI_any (hB.below hu) (kp dI u hu) nI lI
  have HLR : Hid (∀ u, Below w.heap.size w u → Calls Tryz.prog 151 #[.pointer (some ⟨bk, 0, none⟩)] u fun e w' => e = .returned (.bool true) ∧ Below u.heap.size u w') := fun u hu => lookR_any (hB.below hu) (kp dR u hu) nR lR
  have HBB : Hid (∀ u, Below w.heap.size w u → Bk u bk B n vI vR hsI hsR) := fun u hu => hB.below hu
  have HW0 := Lib.hid (Below.refl w.heap.size w)
  clear hB nI lI dI nR lR dR kp
  go_enter Tryz.func64, Tryz.ntmps64
  go_wp2_with fail
  refine (lookValue_no ((HBB.out _ HW0.out).box.at (j := 1) rfl)).mono ?_
  rintro e w9 ⟨rfl, hw9⟩
  have hw8 := hw9.symm
  subst hw8
  clear hw9
  go_wp2_with fail
  refine (lookTuple_no ((HBB.out _ HW0.out).box.at (j := 2) rfl)).mono ?_
  rintro e w9 ⟨rfl, hw9⟩
  have hw8 := hw9.symm
  subst hw8
  clear hw9
  go_wp2_with fail
  refine (lookFact_no ((HBB.out _ HW0.out).box.at (j := 3) rfl)).mono ?_
  rintro e w9 ⟨rfl, hw9⟩
  have hw8 := hw9.symm
  subst hw8
  clear hw9
  go_wp2_with fail
  refine (lookTerm_no ((HBB.out _ HW0.out).box.at (j := 4) rfl)).mono ?_
  rintro e w9 ⟨rfl, hw9⟩
  have hw8 := hw9.symm
  subst hw8
  clear hw9
  go_wp2_with fail
  refine (lookExpr_no ((HBB.out _ HW0.out).box.at (j := 5) rfl)).mono ?_
  rintro e w9 ⟨rfl, hw9⟩
  have hw8 := hw9.symm
  subst hw8
  clear hw9
  go_wp2_with fail
  refine (lookLiteral_no ((HBB.out _ HW0.out).box.at (j := 6) rfl)).mono ?_
  rintro e w9 ⟨rfl, hw9⟩
  have hw8 := hw9.symm
  subst hw8
  clear hw9
  go_wp2_with fail
  refine (lookArg_no ((HBB.out _ HW0.out).box.at (j := 7) rfl)).mono ?_
  rintro e w9 ⟨rfl, hw9⟩
  have hw8 := hw9.symm
  subst hw8
  clear hw9
  go_wp2_with fail
  refine (lookRule_no ((HBB.out _ HW0.out).box.at (j := 8) rfl)).mono ?_
  rintro e w9 ⟨rfl, hw9⟩
  have hw8 := hw9.symm
  subst hw8
  clear hw9
  go_wp2_with fail
  refine (lookPair_no ((HBB.out _ HW0.out).box.at (j := 9) rfl)).mono ?_
  rintro e w9 ⟨rfl, hw9⟩
  have hw8 := hw9.symm
  subst hw8
  clear hw9
  go_wp2_with fail
  refine (lookBind_no ((HBB.out _ HW0.out).box.at (j := 10) rfl)).mono ?_
  rintro e w9 ⟨rfl, hw9⟩
  have hw8 := hw9.symm
  subst hw8
  clear hw9
  go_wp2_with fail
  refine (lookBindList_no ((HBB.out _ HW0.out).box.at (j := 11) rfl)).mono ?_
  rintro e w9 ⟨rfl, hw9⟩
  have hw8 := hw9.symm
  subst hw8
  clear hw9
  go_wp2_with fail
  refine (lookText_no ((HBB.out _ HW0.out).box.at (j := 12) rfl)).mono ?_
  rintro e w9 ⟨rfl, hw9⟩
  have hw8 := hw9.symm
  subst hw8
  clear hw9
  go_wp2_with fail
  refine (lookTextList_no ((HBB.out _ HW0.out).box.at (j := 13) rfl)).mono ?_
  rintro e w9 ⟨rfl, hw9⟩
  have hw8 := hw9.symm
  subst hw8
  clear hw9
  go_wp2_with fail
  refine (HLI.out _ HW0.out).mono ?_
  rintro e x1 ⟨rfl, b⟩
  have HW1 : Hid (Below w.heap.size w x1) := HW0.out.trans (b.mono HW0.out.size)
  clear b
  go_wp2_with fail
  refine (HLR.out _ HW1.out).mono ?_
  rintro e x2 ⟨rfl, b⟩
  have HW2 : Hid (Below w.heap.size w x2) := HW1.out.trans (b.mono HW1.out.size)
  clear b
  go_wp2_with fail
  refine (lookToken_no ((HBB.out _ HW2.out).box.at (j := 16) rfl)).mono ?_
  rintro e w9 ⟨rfl, hw9⟩
  have hw8 := hw9.symm
  subst hw8
  clear hw9
  go_wp2
  go_ret
  exact ⟨rfl, HW2.out⟩
set_option maxHeartbeats 6400000 in
set_option maxRecDepth 100000 in
theorem lookTwo_any {w : World} {bk B n S : Nat} {vI vR : Value} {hsI hsR : List Hd} (hB : Bk w bk B n vI vR hsI hsR) (nI : ∀ h ∈ hsI, h.m ≤ 2000000000 ∧ h.n ≤ 2097152) (nR : ∀ h ∈ hsR, h.m ≤ 2000000000 ∧ h.n ≤ 2097152) (lI : hsI.length ≤ 1000000000) (lR : hsR.length ≤ 1000000000) (dI : ∀ h ∈ hsI, Dn KI S w h) (dR : ∀ h ∈ hsR, Dn KR S w h) :
    Calls Tryz.prog 65 #[.pointer (some ⟨bk, 0, none⟩)] w fun e w' => e = .returned (.bool true) ∧ Below w.heap.size w w' := by
  have kp : ∀ {K : Kd} {l : List Hd}, (∀ h ∈ l, Dn K S w h) → ∀ u, Below w.heap.size w u → ∀ h ∈ l, Dn K S u h := fun d u hu h hm => (d h hm).keep hu.size (fun g hg _ => hu.block g hg)
  have HLI : Hid (∀ u, Below w.heap.size w u → Calls Tryz.prog 150 #[.pointer (some ⟨bk, 0, none⟩)] u fun e w' => e = .returned (.bool true) ∧ Below u.heap.size u w') := fun u hu => lookI_any (hB.below hu) (kp dI u hu) nI lI
  have HLR : Hid (∀ u, Below w.heap.size w u → Calls Tryz.prog 151 #[.pointer (some ⟨bk, 0, none⟩)] u fun e w' => e = .returned (.bool true) ∧ Below u.heap.size u w') := fun u hu => lookR_any (hB.below hu) (kp dR u hu) nR lR
  have HBB : Hid (∀ u, Below w.heap.size w u → Bk u bk B n vI vR hsI hsR) := fun u hu => hB.below hu
  have HW0 := Lib.hid (Below.refl w.heap.size w)
  clear hB nI lI dI nR lR dR kp
  go_enter Tryz.func65, Tryz.ntmps65
  go_wp2_with fail
  refine (lookPred_no ((HBB.out _ HW0.out).box.at (j := 17) rfl)).mono ?_
  rintro e w9 ⟨rfl, hw9⟩
  have hw8 := hw9.symm
  subst hw8
  clear hw9
  go_wp2_with fail
  refine (lookType_no ((HBB.out _ HW0.out).box.at (j := 18) rfl)).mono ?_
  rintro e w9 ⟨rfl, hw9⟩
  have hw8 := hw9.symm
  subst hw8
  clear hw9
  go_wp2_with fail
  refine (lookSig_no ((HBB.out _ HW0.out).box.at (j := 19) rfl)).mono ?_
  rintro e w9 ⟨rfl, hw9⟩
  have hw8 := hw9.symm
  subst hw8
  clear hw9
  go_wp2_with fail
  refine (lookEdge_no ((HBB.out _ HW0.out).box.at (j := 20) rfl)).mono ?_
  rintro e w9 ⟨rfl, hw9⟩
  have hw8 := hw9.symm
  subst hw8
  clear hw9
  go_wp2_with fail
  refine (lookLevel_no ((HBB.out _ HW0.out).box.at (j := 21) rfl)).mono ?_
  rintro e w9 ⟨rfl, hw9⟩
  have hw8 := hw9.symm
  subst hw8
  clear hw9
  go_wp2_with fail
  refine (lookMask_no ((HBB.out _ HW0.out).box.at (j := 22) rfl)).mono ?_
  rintro e w9 ⟨rfl, hw9⟩
  have hw8 := hw9.symm
  subst hw8
  clear hw9
  go_wp2_with fail
  refine (lookStep_no ((HBB.out _ HW0.out).box.at (j := 23) rfl)).mono ?_
  rintro e w9 ⟨rfl, hw9⟩
  have hw8 := hw9.symm
  subst hw8
  clear hw9
  go_wp2_with fail
  refine (lookRanked_no ((HBB.out _ HW0.out).box.at (j := 24) rfl)).mono ?_
  rintro e w9 ⟨rfl, hw9⟩
  have hw8 := hw9.symm
  subst hw8
  clear hw9
  go_wp2_with fail
  refine (lookAdorned_no ((HBB.out _ HW0.out).box.at (j := 25) rfl)).mono ?_
  rintro e w9 ⟨rfl, hw9⟩
  have hw8 := hw9.symm
  subst hw8
  clear hw9
  go_wp2_with fail
  refine (lookTable_no ((HBB.out _ HW0.out).box.at (j := 26) rfl)).mono ?_
  rintro e w9 ⟨rfl, hw9⟩
  have hw8 := hw9.symm
  subst hw8
  clear hw9
  go_wp2_with fail
  refine (lookProof_no ((HBB.out _ HW0.out).box.at (j := 27) rfl)).mono ?_
  rintro e w9 ⟨rfl, hw9⟩
  have hw8 := hw9.symm
  subst hw8
  clear hw9
  go_wp2_with fail
  refine (lookSize_no ((HBB.out _ HW0.out).box.at (j := 28) rfl)).mono ?_
  rintro e w9 ⟨rfl, hw9⟩
  have hw8 := hw9.symm
  subst hw8
  clear hw9
  go_wp2_with fail
  refine (lookFloat_no ((HBB.out _ HW0.out).box.at (j := 29) rfl)).mono ?_
  rintro e w9 ⟨rfl, hw9⟩
  have hw8 := hw9.symm
  subst hw8
  clear hw9
  go_wp2_with fail
  refine (lookCommit_no ((HBB.out _ HW0.out).box.at (j := 30) rfl)).mono ?_
  rintro e w9 ⟨rfl, hw9⟩
  have hw8 := hw9.symm
  subst hw8
  clear hw9
  go_wp2_with fail
  refine (lookEvent_no ((HBB.out _ HW0.out).box.at (j := 31) rfl)).mono ?_
  rintro e w9 ⟨rfl, hw9⟩
  have hw8 := hw9.symm
  subst hw8
  clear hw9
  go_wp2
  go_ret
  exact ⟨rfl, HW0.out⟩
set_option maxHeartbeats 6400000 in
set_option maxRecDepth 100000 in
theorem apart_any {w : World} {L bk B n : Nat} {vI vR : Value} {hsI hsR : List Hd} (hB : Bk w bk B n vI vR hsI hsR) (hBs : B ≤ w.heap.size) (hL : L ≤ bk) (qI : Rg KI w L bk B hsI) (qR : Rg KR w L bk B hsR) (sep : Sep L bk B hsI hsR) :
    Calls Tryz.prog 13 #[.pointer (some ⟨bk, 0, none⟩)] w fun e w' => e = .returned (.bool true) ∧ Tch (EX hsI hsR vI vR) w w' := by
  have hbB := hB.lt
  have hbs := World.rowIs.lt hB.box
  obtain ⟨S, hS⟩ : ∃ S, S = w.heap.size := ⟨_, rfl⟩
  have hBS : B ≤ S := by omega
  have hrw : ∀ g, (vI.ownBlock = some g ∨ vR.ownBlock = some g) → g < S := fun g hg => by
    rcases hg with q | q
    · rw [hS]; exact (hB.rI.lt g q).2
    · rw [hS]; exact (hB.rR.lt g q).2
  have HX := Lib.hid (And.intro hrw (And.intro sep (⟨qI, qR⟩ : Rg KI w L bk B hsI ∧ Rg KR w L bk B hsR)))
  have HS := Lib.hid hS
  have HB0 := Lib.hid hB
  have HL0 : Hid (Tch (EX hsI hsR vI vR) w w) := Tch.refl _ _
  have HZ0 : Hid (w.heap.size ≤ w.heap.size) := Nat.le_refl _
  clear hB hrw qI qR sep hS
  go_enter Tryz.func13, Tryz.ntmps13
  go_wp2_with fail
  refine (fillValue_no (HB0.out.box.at (j := 1) rfl)).mono ?_
  rintro e w9 ⟨rfl, hw9⟩
  have hw8 := hw9.symm
  subst hw8
  clear hw9
  go_wp2_with fail
  refine (fillTuple_no (HB0.out.box.at (j := 2) rfl)).mono ?_
  rintro e w9 ⟨rfl, hw9⟩
  have hw8 := hw9.symm
  subst hw8
  clear hw9
  go_wp2_with fail
  refine (fillFact_no (HB0.out.box.at (j := 3) rfl)).mono ?_
  rintro e w9 ⟨rfl, hw9⟩
  have hw8 := hw9.symm
  subst hw8
  clear hw9
  go_wp2_with fail
  refine (fillTerm_no (HB0.out.box.at (j := 4) rfl)).mono ?_
  rintro e w9 ⟨rfl, hw9⟩
  have hw8 := hw9.symm
  subst hw8
  clear hw9
  go_wp2_with fail
  refine (fillExpr_no (HB0.out.box.at (j := 5) rfl)).mono ?_
  rintro e w9 ⟨rfl, hw9⟩
  have hw8 := hw9.symm
  subst hw8
  clear hw9
  go_wp2_with fail
  refine (fillLiteral_no (HB0.out.box.at (j := 6) rfl)).mono ?_
  rintro e w9 ⟨rfl, hw9⟩
  have hw8 := hw9.symm
  subst hw8
  clear hw9
  go_wp2_with fail
  refine (fillArg_no (HB0.out.box.at (j := 7) rfl)).mono ?_
  rintro e w9 ⟨rfl, hw9⟩
  have hw8 := hw9.symm
  subst hw8
  clear hw9
  go_wp2_with fail
  refine (fillRule_no (HB0.out.box.at (j := 8) rfl)).mono ?_
  rintro e w9 ⟨rfl, hw9⟩
  have hw8 := hw9.symm
  subst hw8
  clear hw9
  go_wp2_with fail
  refine (fillPair_no (HB0.out.box.at (j := 9) rfl)).mono ?_
  rintro e w9 ⟨rfl, hw9⟩
  have hw8 := hw9.symm
  subst hw8
  clear hw9
  go_wp2_with fail
  refine (fillBind_no (HB0.out.box.at (j := 10) rfl)).mono ?_
  rintro e w9 ⟨rfl, hw9⟩
  have hw8 := hw9.symm
  subst hw8
  clear hw9
  go_wp2_with fail
  refine (fillBindList_no (HB0.out.box.at (j := 11) rfl)).mono ?_
  rintro e w9 ⟨rfl, hw9⟩
  have hw8 := hw9.symm
  subst hw8
  clear hw9
  go_wp2_with fail
  refine (fillText_no (HB0.out.box.at (j := 12) rfl)).mono ?_
  rintro e w9 ⟨rfl, hw9⟩
  have hw8 := hw9.symm
  subst hw8
  clear hw9
  go_wp2_with fail
  refine (fillTextList_no (HB0.out.box.at (j := 13) rfl)).mono ?_
  rintro e w9 ⟨rfl, hw9⟩
  have hw8 := hw9.symm
  subst hw8
  clear hw9
  have HG : Hid (Calls Tryz.prog 45 #[.pointer (some ⟨bk, 0, none⟩)] w fun e w' => e = .returned (.tuple #[]) ∧ Tch (RG hsI) w w' ∧ ∀ h ∈ hsI, Fil KI S w' h) := by
    obtain ⟨hrw, sep, qI, qR⟩ := HX.out
    have r0 := qI
    exact fillI_any HB0.out hBS (by have := HZ0.out; have := HS.out; omega) r0
  go_wp2_with fail
  refine HG.out.mono ?_
  rintro e x1 ⟨rfl, t, f⟩
  have T0 := Lib.hid t
  have FFI := Lib.hid f
  have HB1 := Lib.hid (HB0.out.tch t (fun g e => (HX.out.2.2.1.at e).2))
  have HZ1 : Hid (w.heap.size ≤ x1.heap.size) := Nat.le_trans HZ0.out t.size
  have HL1 : Hid (Tch (EX hsI hsR vI vR) w x1) := HL0.out.trans (t.mono (fun g hg q => .inl (.inl q)))
  clear t f HG
  have HG : Hid (Calls Tryz.prog 46 #[.pointer (some ⟨bk, 0, none⟩)] x1 fun e w' => e = .returned (.tuple #[]) ∧ Tch (RG hsR) x1 w' ∧ ∀ h ∈ hsR, Fil KR S w' h) := by
    obtain ⟨hrw, sep, qI, qR⟩ := HX.out
    have r0 := qR
    have r0 := r0.keep T0.out (fun g q q2 => sep.IR g q q2)
    exact fillR_any HB1.out hBS (by have := HZ1.out; have := HS.out; omega) r0
  go_wp2_with fail
  refine HG.out.mono ?_
  rintro e x2 ⟨rfl, t, f⟩
  have T1 := Lib.hid t
  have FFR := Lib.hid f
  have HB2 := Lib.hid (HB1.out.tch t (fun g e => (HX.out.2.2.2.at e).2))
  have HZ2 : Hid (w.heap.size ≤ x2.heap.size) := Nat.le_trans HZ1.out t.size
  have HL2 : Hid (Tch (EX hsI hsR vI vR) w x2) := HL1.out.trans (t.mono (fun g hg q => .inl (.inr (q))))
  clear t f HG
  go_wp2_with fail
  refine (fillToken_no (HB2.out.box.at (j := 16) rfl)).mono ?_
  rintro e w9 ⟨rfl, hw9⟩
  have hw8 := hw9.symm
  subst hw8
  clear hw9
  go_wp2_with fail
  refine (fillPred_no (HB2.out.box.at (j := 17) rfl)).mono ?_
  rintro e w9 ⟨rfl, hw9⟩
  have hw8 := hw9.symm
  subst hw8
  clear hw9
  go_wp2_with fail
  refine (fillType_no (HB2.out.box.at (j := 18) rfl)).mono ?_
  rintro e w9 ⟨rfl, hw9⟩
  have hw8 := hw9.symm
  subst hw8
  clear hw9
  go_wp2_with fail
  refine (fillSig_no (HB2.out.box.at (j := 19) rfl)).mono ?_
  rintro e w9 ⟨rfl, hw9⟩
  have hw8 := hw9.symm
  subst hw8
  clear hw9
  go_wp2_with fail
  refine (fillEdge_no (HB2.out.box.at (j := 20) rfl)).mono ?_
  rintro e w9 ⟨rfl, hw9⟩
  have hw8 := hw9.symm
  subst hw8
  clear hw9
  go_wp2_with fail
  refine (fillLevel_no (HB2.out.box.at (j := 21) rfl)).mono ?_
  rintro e w9 ⟨rfl, hw9⟩
  have hw8 := hw9.symm
  subst hw8
  clear hw9
  go_wp2_with fail
  refine (fillMask_no (HB2.out.box.at (j := 22) rfl)).mono ?_
  rintro e w9 ⟨rfl, hw9⟩
  have hw8 := hw9.symm
  subst hw8
  clear hw9
  go_wp2_with fail
  refine (fillStep_no (HB2.out.box.at (j := 23) rfl)).mono ?_
  rintro e w9 ⟨rfl, hw9⟩
  have hw8 := hw9.symm
  subst hw8
  clear hw9
  go_wp2_with fail
  refine (fillRanked_no (HB2.out.box.at (j := 24) rfl)).mono ?_
  rintro e w9 ⟨rfl, hw9⟩
  have hw8 := hw9.symm
  subst hw8
  clear hw9
  go_wp2_with fail
  refine (fillAdorned_no (HB2.out.box.at (j := 25) rfl)).mono ?_
  rintro e w9 ⟨rfl, hw9⟩
  have hw8 := hw9.symm
  subst hw8
  clear hw9
  go_wp2_with fail
  refine (fillTable_no (HB2.out.box.at (j := 26) rfl)).mono ?_
  rintro e w9 ⟨rfl, hw9⟩
  have hw8 := hw9.symm
  subst hw8
  clear hw9
  go_wp2_with fail
  refine (fillProof_no (HB2.out.box.at (j := 27) rfl)).mono ?_
  rintro e w9 ⟨rfl, hw9⟩
  have hw8 := hw9.symm
  subst hw8
  clear hw9
  go_wp2_with fail
  refine (fillSize_no (HB2.out.box.at (j := 28) rfl)).mono ?_
  rintro e w9 ⟨rfl, hw9⟩
  have hw8 := hw9.symm
  subst hw8
  clear hw9
  go_wp2_with fail
  refine (fillFloat_no (HB2.out.box.at (j := 29) rfl)).mono ?_
  rintro e w9 ⟨rfl, hw9⟩
  have hw8 := hw9.symm
  subst hw8
  clear hw9
  go_wp2_with fail
  refine (fillCommit_no (HB2.out.box.at (j := 30) rfl)).mono ?_
  rintro e w9 ⟨rfl, hw9⟩
  have hw8 := hw9.symm
  subst hw8
  clear hw9
  go_wp2_with fail
  refine (fillEvent_no (HB2.out.box.at (j := 31) rfl)).mono ?_
  rintro e w9 ⟨rfl, hw9⟩
  have hw8 := hw9.symm
  subst hw8
  clear hw9
  have HGA : Hid (Calls Tryz.prog 63 #[.pointer (some ⟨bk, 0, none⟩)] x2 fun e w' => e = .returned (.tuple #[]) ∧ Tch (EX hsI hsR vI vR) x2 w' ∧ ∃ hsI' hsR', Like hsI hsI' ∧ Like hsR hsR' ∧ Bk w' bk B n vI vR hsI' hsR' ∧ (∀ h ∈ hsI', Dn KI S w' h) ∧ (∀ h ∈ hsR', Dn KR S w' h)) := by
    obtain ⟨hrw, sep, qI, qR⟩ := HX.out
    have gI := FFI.out
    have gI := fil_keep gI T1.out (fun g q => ⟨Nat.lt_of_lt_of_le (qR.at q).2.1 hBS, fun q2 => sep.IR g q2 q⟩)
    have gR := FFR.out
    exact growAll_any HB2.out hBS (by have := HZ2.out; have := HS.out; omega) hL hrw (qI.of_fil gI) (qR.of_fil gR) sep gI gR
  go_wp2_with fail
  refine HGA.out.mono ?_
  rintro e w4 ⟨rfl, b4, hsI', hsR', lkI, lkR, B4, dI, dR⟩
  have HB9 : Hid (Tch (EX hsI hsR vI vR) w w4) := HL2.out.trans b4
  have HLO := Lib.hid (lookOne_any B4 (like_num lkI HX.out.2.2.1.num) (like_num lkR HX.out.2.2.2.num) (by rw [lkI.1]; exact HX.out.2.2.1.len) (by rw [lkR.1]; exact HX.out.2.2.2.len) dI dR)
  have HLT : Hid (∀ u, Below w4.heap.size w4 u → Calls Tryz.prog 65 #[.pointer (some ⟨bk, 0, none⟩)] u fun e w' => e = .returned (.bool true) ∧ Below u.heap.size u w') := fun u hu => lookTwo_any (B4.below hu) (like_num lkI HX.out.2.2.1.num) (like_num lkR HX.out.2.2.2.num) (by rw [lkI.1]; exact HX.out.2.2.1.len) (by rw [lkR.1]; exact HX.out.2.2.2.len) (fun h hm => (dI h hm).keep hu.size (fun g hg _ => hu.block g hg)) (fun h hm => (dR h hm).keep hu.size (fun g hg _ => hu.block g hg))
  clear b4 lkI lkR B4 dI dR HGA
  go_wp2_with fail
  refine HLO.out.mono ?_
  rintro e w5 ⟨rfl, b5⟩
  have HL5 := Lib.hid (HLT.out w5 b5)
  have HB5 : Hid (Tch (EX hsI hsR vI vR) w w5) := HB9.out.trans (Tch.of_below b5)
  clear b5 HLO HLT
  go_wp2_with fail
  refine HL5.out.mono ?_
  rintro e w6 ⟨rfl, b6⟩
  have HB6 : Hid (Tch (EX hsI hsR vI vR) w w6) := HB5.out.trans (Tch.of_below b6)
  clear b6 HL5
  go_wp2
  go_ret
  exact ⟨rfl, HB6.out⟩
open Go.RowKit Go.Maps
set_option linter.unusedVariables false
set_option linter.unusedSimpArgs false
attribute [local go_sem ↓] Go.wp_at_zero Go.wp_at_succ

structure Reg (w : World) (L bk B n : Nat) (C : Nat → Prop) (vI vR : Value) (hsI hsR : List Hd) : Prop where
  b : Bk w bk B n vI vR hsI hsR
  qI : Rg KI w L bk B hsI
  qR : Rg KR w L bk B hsR
  sep : Sep L bk B hsI hsR
  cov : ∀ g, (RG hsI g ∨ RG hsR g) → C g
  lens : hsI.length ≤ n ∧ hsR.length ≤ n
theorem rg_app {l : List Hd} {h : Hd} {g : Nat} (hg : RG (l ++ [h]) g) : RG l g ∨ h.blk = some g := by
  obtain ⟨x, hx, e⟩ := hg
  rcases List.mem_append.1 hx with q | q
  · exact .inl ⟨x, q, e⟩
  · rw [List.mem_singleton.1 q] at e; exact .inr e
theorem Rg.push {K : Kd} {w w' : World} {L bk B n : Nat} {l : List Hd} {h : Hd} {O : List Value} (r : Rg K w L bk B l) (t : Tch (EB bk B) w w') (ho : w.ownsRow 0 K.e K.sz h.sv h.n O) (hb : ∀ g, h.blk = some g → L ≤ g ∧ g < B ∧ g ≠ bk) (hn : ∀ g, h.blk = some g → ¬ RG l g) (h1 : h.m ≤ 2000000000 ∧ h.n ≤ 2097152) (h2 : l.length < 1000000000) : Rg K w' L bk B (l ++ [h]) := by
  have hr := r.keep t (fun g e q => by
    obtain ⟨_, q2, q3⟩ := r.at q
    rcases e with e | e
    · exact q3 e
    · omega)
  refine ⟨fun x hx => ?_, fun x hx => ?_, List.pairwise_append.2 ⟨r.nd, List.pairwise_singleton _ _, fun x hx y hy g e1 e2 => ?_⟩, fun x hx => ?_, by simp; omega⟩
  · rcases List.mem_append.1 hx with q | q
    · exact hr.reg x q
    · rw [List.mem_singleton.1 q]
      exact ⟨O, own_of_block ho (fun g hg => t.block g (ho.lt g hg).2 (fun e => by
        obtain ⟨_, q2, q3⟩ := hb g hg
        rcases e with e | e
        · exact q3 e
        · omega))⟩
  · rcases List.mem_append.1 hx with q | q
    · exact r.blt x q
    · rw [List.mem_singleton.1 q]; exact hb
  · rw [List.mem_singleton.1 hy] at e2
    exact hn g e2 ⟨x, hx, e1⟩
  · rcases List.mem_append.1 hx with q | q
    · exact r.num x q
    · rw [List.mem_singleton.1 q]; exact h1
theorem Rg.other {K : Kd} {w w' : World} {L bk B : Nat} {l : List Hd} (r : Rg K w L bk B l) (t : Tch (EB bk B) w w') : Rg K w' L bk B l := r.keep t (fun g e q => by
  obtain ⟨_, q2, q3⟩ := r.at q
  rcases e with e | e
  · exact q3 e
  · omega)
theorem Reg.pushI {w w' : World} {L bk B n : Nat} {C : Nat → Prop} {vI vR v' : Value} {hsI hsR : List Hd} {h : Hd} {O : List Value} (hR' : Reg w L bk B n C vI vR hsI hsR) (hb' : Bk w' bk B (n + 1) v' vR (hsI ++ [h]) hsR) (t : Tch (EB bk B) w w') (ho : w.ownsRow 0 (KI).e (KI).sz h.sv h.n O) (hb : ∀ g, h.blk = some g → L ≤ g ∧ g < B ∧ g ≠ bk) (hC : ∀ g, h.blk = some g → ¬ C g) (hm : h.m ≤ 2000000000 ∧ h.n ≤ 2097152) (hn : n < 1000000000) : Reg w' L bk B (n + 1) (fun g => C g ∨ h.blk = some g) v' vR (hsI ++ [h]) hsR :=
  ⟨hb', hR'.qI.push (n := n) t ho hb (fun g e q => hC g e (hR'.cov g (.inl q))) hm (by have := hR'.lens; omega), hR'.qR.other t, ⟨fun g h1 h2 => (rg_app h1).elim (fun q => hR'.sep.IR g q h2) (fun q => hC g q (hR'.cov g (.inr h2)))⟩, fun g e => by
    rcases e with q | q
    · exact (rg_app q).elim (fun q => .inl (hR'.cov g (.inl q))) (fun q => .inr q)
    · exact .inl (hR'.cov g (.inr q)), ⟨by have := hR'.lens.1; simp; omega, by have := hR'.lens.2; omega⟩⟩
theorem Reg.pushR {w w' : World} {L bk B n : Nat} {C : Nat → Prop} {vI vR v' : Value} {hsI hsR : List Hd} {h : Hd} {O : List Value} (hR' : Reg w L bk B n C vI vR hsI hsR) (hb' : Bk w' bk B (n + 1) vI v' hsI (hsR ++ [h])) (t : Tch (EB bk B) w w') (ho : w.ownsRow 0 (KR).e (KR).sz h.sv h.n O) (hb : ∀ g, h.blk = some g → L ≤ g ∧ g < B ∧ g ≠ bk) (hC : ∀ g, h.blk = some g → ¬ C g) (hm : h.m ≤ 2000000000 ∧ h.n ≤ 2097152) (hn : n < 1000000000) : Reg w' L bk B (n + 1) (fun g => C g ∨ h.blk = some g) vI v' hsI (hsR ++ [h]) :=
  ⟨hb', hR'.qI.other t, hR'.qR.push (n := n) t ho hb (fun g e q => hC g e (hR'.cov g (.inr q))) hm (by have := hR'.lens; omega), ⟨fun g h1 h2 => (rg_app h2).elim (fun q => hR'.sep.IR g h1 q) (fun q => hC g q (hR'.cov g (.inl h1)))⟩, fun g e => by
    rcases e with q | q
    · exact .inl (hR'.cov g (.inl q))
    · exact (rg_app q).elim (fun q => .inl (hR'.cov g (.inr q))) (fun q => .inr q), ⟨by have := hR'.lens.1; omega, by have := hR'.lens.2; simp; omega⟩⟩
set_option maxHeartbeats 3200000 in
theorem bkInts_any {w : World} {L bk B n lo hi : Nat} {C : Nat → Prop} {vI vR : Value} {hsI hsR : List Hd} {a : Option Addr} {c m : Nat} {xs : List Value} (hG : Reg w L bk B n C vI vR hsI hsR) (hBs : B ≤ w.heap.size) (hn : n + 1 ≤ 1000000) (ho : w.ownsRow lo 3 1 (.slice a m c) m xs) (hlt : ∀ g, (Value.slice a m c).ownBlock = some g → lo ≤ g ∧ g < hi) (hlo : L ≤ lo) (hhi : hi ≤ B) (hbk : bk < lo ∨ hi ≤ bk) (hC : ∀ g, lo ≤ g → g < hi → ¬ C g) (hm : m ≤ 2097152) :
    Calls Tryz.prog 11 #[.pointer (some ⟨bk, 0, none⟩), .slice a m c] w fun e w' => e = .returned (.tuple #[]) ∧ Tch (EB bk B) w w' ∧ ∃ vI' vR' hI' hR', Reg w' L bk B (n + 1) (fun g => C g ∨ (lo ≤ g ∧ g < hi)) vI' vR' hI' hR' := by
  have HK := Lib.hid (keepI_any hG.b hBs a m c (by omega) (by have := hG.lens; omega))
  have HP : Hid (∀ w1 a1 c1, Bk w1 bk B (n + 1) (.slice a1 (hsI.length + 1) c1) vR (hsI ++ [⟨a, m, c, none, 0, 0, n + 1⟩]) hsR → Tch (EB bk B) w w1 → ∃ vI' vR' hI' hR', Reg w1 L bk B (n + 1) (fun g => C g ∨ (lo ≤ g ∧ g < hi)) vI' vR' hI' hR') := fun w1 a1 c1 hb t => by
    have hp := hG.pushI hb t (h := ⟨a, m, c, none, 0, 0, n + 1⟩) (ho.mono (Nat.zero_le _)) (fun g hg => by have h1 := hlt g hg; refine ⟨by omega, by omega, by omega⟩) (fun g hg => hC g (hlt g hg).1 (hlt g hg).2) ⟨by show n + 1 ≤ _; omega, hm⟩ (by omega)
    exact ⟨_, _, _, _, ⟨hp.b, hp.qI, hp.qR, hp.sep, fun g e => (hp.cov g e).imp_right (fun q => hlt g q), hp.lens⟩⟩
  clear hG ho hlt hC
  go_enter Tryz.func11, Tryz.ntmps11
  go_wp2_with fail
  refine HK.out.mono ?_
  rintro e w1 ⟨rfl, a1, c1, hb1, t1⟩
  have HF := Lib.hid (And.intro t1 (HP.out w1 a1 c1 hb1 t1))
  clear hb1 t1 HK HP
  go_wp2
  go_end0
  exact ⟨rfl, HF.out⟩
set_option maxHeartbeats 3200000 in
theorem bkRows_any {w : World} {L bk B n lo hi : Nat} {C : Nat → Prop} {vI vR : Value} {hsI hsR : List Hd} {a : Option Addr} {c m : Nat} {xs : List Value} (hG : Reg w L bk B n C vI vR hsI hsR) (hBs : B ≤ w.heap.size) (hn : n + 1 ≤ 1000000) (ho : w.ownsRow lo 27 24 (.slice a m c) m xs) (hlt : ∀ g, (Value.slice a m c).ownBlock = some g → lo ≤ g ∧ g < hi) (hlo : L ≤ lo) (hhi : hi ≤ B) (hbk : bk < lo ∨ hi ≤ bk) (hC : ∀ g, lo ≤ g → g < hi → ¬ C g) (hm : m ≤ 2097152) :
    Calls Tryz.prog 12 #[.pointer (some ⟨bk, 0, none⟩), .slice a m c] w fun e w' => e = .returned (.tuple #[]) ∧ Tch (EB bk B) w w' ∧ ∃ vI' vR' hI' hR', Reg w' L bk B (n + 1) (fun g => C g ∨ (lo ≤ g ∧ g < hi)) vI' vR' hI' hR' := by
  have HK := Lib.hid (keepR_any hG.b hBs a m c (by omega) (by have := hG.lens; omega))
  have HP : Hid (∀ w1 a1 c1, Bk w1 bk B (n + 1) vI (.slice a1 (hsR.length + 1) c1) hsI (hsR ++ [⟨a, m, c, none, 0, 0, n + 1⟩]) → Tch (EB bk B) w w1 → ∃ vI' vR' hI' hR', Reg w1 L bk B (n + 1) (fun g => C g ∨ (lo ≤ g ∧ g < hi)) vI' vR' hI' hR') := fun w1 a1 c1 hb t => by
    have hp := hG.pushR hb t (h := ⟨a, m, c, none, 0, 0, n + 1⟩) (ho.mono (Nat.zero_le _)) (fun g hg => by have h1 := hlt g hg; refine ⟨by omega, by omega, by omega⟩) (fun g hg => hC g (hlt g hg).1 (hlt g hg).2) ⟨by show n + 1 ≤ _; omega, hm⟩ (by omega)
    exact ⟨_, _, _, _, ⟨hp.b, hp.qI, hp.qR, hp.sep, fun g e => (hp.cov g e).imp_right (fun q => hlt g q), hp.lens⟩⟩
  clear hG ho hlt hC
  go_enter Tryz.func12, Tryz.ntmps12
  go_wp2_with fail
  refine HK.out.mono ?_
  rintro e w1 ⟨rfl, a1, c1, hb1, t1⟩
  have HF := Lib.hid (And.intro t1 (HP.out w1 a1 c1 hb1 t1))
  clear hb1 t1 HK HP
  go_wp2
  go_end0
  exact ⟨rfl, HF.out⟩
end Go.Proofs.YtjcfhhcohmcehaaGreatDoor.BK
