import Derived.Test.YtheihplldbccpaaGreatDoorCkLimW
import Derived.Test.YtheihplldbccpaaGreatDoorG23
import Derived.Test.YtheihplldbccpaaGreatDoorG22
import Derived.Test.YtheihplldbccpaaGreatDoorG25
import Derived.Test.YtheihplldbccpaaGreatDoorCkReg
section
namespace Go.Proofs.YtheihplldbccpaaGreatDoor
open Go.RowKit Go.Maps
set_option linter.unusedVariables false
set_option linter.unusedSimpArgs false
attribute [local go_sem ↓] Go.wp_at_zero Go.wp_at_succ
attribute [-go_sem] loadVar storeVar

/-- what a body limits: where the rounds stand still -/
structure Lim (qs : List Qn) (f0 fs : List ByteArray) : Prop where
  it : ∃ k, fs = itQ qs k f0
  st : rndQ qs fs = fs
theorem Lim.one {qs : List Qn} {f0 fs fs' : List ByteArray} (h : Lim qs f0 fs) (h' : Lim qs f0 fs') : fs = fs' := by
  obtain ⟨⟨k, e⟩, hs⟩ := h
  obtain ⟨⟨k', e'⟩, hs'⟩ := h'
  rw [e] at hs ⊢
  rw [e'] at hs' ⊢
  exact itQ_one hs hs'
theorem lim_go (qs : List Qn) (f0 : List ByteArray) (hok : ∀ q ∈ qs, OkQ q) : ∀ (n : Nat) (ws : List Qn) (fs : List ByteArray) (k : Nat), ws.length ≤ n → fs = itQ qs k f0 → Wt fs qs ws → ∃ fs', Lim qs f0 fs'
  | n, ws, fs, k, hn, hk, hw => by
    obtain ⟨h1, h2⟩ := Wt.round qs ws fs hok hw
    obtain ⟨h3, h4⟩ := progR_len ws fs
    by_cases he : (progR ws fs).2.length = ws.length
    · exact ⟨fs, ⟨k, hk⟩, by rw [h1, h4 he]⟩
    · match n with
      | 0 => exact absurd (show (progR ws fs).2.length = ws.length by omega) he
      | n + 1 => exact lim_go qs f0 hok n (progR ws fs).2 (progR ws fs).1 (k + 1) (by omega) (by rw [itQ_succ, ← hk, h1]) h2
theorem lim_ex (qs : List Qn) (f0 : List ByteArray) (hok : ∀ q ∈ qs, OkQ q) : ∃ fs, Lim qs f0 fs := lim_go qs f0 hok qs.length qs f0 0 (Nat.le_refl _) rfl (Wt.all _ _)
/-- the bounds of a body -/
structure SmB (d : Nat) (l : List XL) : Prop where
  ts : ∀ i, i < l.length → (atL l i).x.ts.length ≤ 1048576
  av : (avL l).length ≤ 1048576
  ln : l.length ≤ 1048576
  sz : ∀ i, i < l.length → szD d (atL l i).x.l ≤ 1048576 ∧ szD d (atL l i).x.r ≤ 1048576
  lo : (loneL (eqL d l)).length ≤ 4194304
theorem smallR.body {d : Nat} {r : R3} (h : smallR d r) : SmB d r.bd := by
  refine ⟨fun i hi => by rw [atL_eq hi]; exact (h.each _ (List.getElem_mem hi)).1, ?_, h.bd, fun i hi => ?_, ?_⟩
  · have h1 := h.terms
    have h2 := avL_len d r.bd
    unfold termsR at h1
    rw [List.length_append] at h1
    omega
  · rw [atL_eq hi]
    have := h.each _ (List.getElem_mem hi)
    exact ⟨this.2.1.2, this.2.2.2⟩
  · have h1 := loneL_len (eqL d r.bd)
    have h2 := eqL_len d r.bd
    have h3 := h.bd
    omega
/-- the error of a rule that is to be used -/
def ruE (d : Nat) (r : R3) (fs : List ByteArray) : Int := if ruleB d r = true then (if (vsT [] (termsR d r)).all (inB fs) = true then 0 else 73) else 40
theorem rule_loads {u : World} {b : Nat} {r : R3} {p : RP} (h : RL u b 25 (r.cells p)) :
    (loadVar 25 ⟨b, 0, none⟩).run Tryz.prog u = .ok (r.val p) u ∧ (loadVar 23 ⟨b, 2, none⟩).run Tryz.prog u = .ok (.slice p.ba r.bd.length p.bc) u ∧ (loadVar 22 ⟨b, 1, none⟩).run Tryz.prog u = .ok (.slice p.a r.hd.length p.c) u := by
  refine ⟨run_loadVar_mid _ _ 0 25 (r.cells p) _ (RL.range h) Tryz.underlying25 rfl (by kernel_rfl), ?_, ?_⟩
  · have := RL.at h (j := 2) rfl
    rw [loadVar.eq_1]
    go_simp
  · have := RL.at h (j := 1) rfl
    rw [loadVar.eq_1]
    go_simp
theorem ls_strLs {w : World} {base : Nat} {sv : Value} {l : List ByteArray} (h : w.ownsRow base 9 1 sv l.length (l.flatMap strB)) : Ls w sv l.length (l.flatMap strB) := ls_own h
set_option maxHeartbeats 3200000 in
theorem ckRule_any (d : Nat) (r : R3) (p : RP) (w : World) (hT : KT w) (hR : RIs w (d + 1) r p) (hs : smallR (d + 1) r) (fs : List ByteArray) (hf : Lim (eqL (d + 1) r.bd) (atN r.bd) fs) :
    Calls Tryz.prog 6 #[r.val p] w fun e w' => e = .returned (.int .i64 (ruE (d + 1) r fs)) ∧ Below w.heap.size w w' := by
  have hB := belowA (w := w) (.cells (r.cells p).toArray 25)
  have HR0 := Lib.hid (rl_new w (r.cells p).toArray 25)
  have HB := Lib.hid hB
  have HR : Hid (∀ u, Below w.heap.size w u → RIs u (d + 1) r p) := fun u hu => hR.below hu
  have HC := Lib.hid (checkRule_any (d + 1) r p _ (hT.below hB) (hR.below hB) hs)
  have hld := (rule_loads HR0.out).1
  have HS := Lib.hid hs
  have HF := Lib.hid hf
  obtain ⟨er, her⟩ : ∃ er, ruE (d + 1) r fs = er := ⟨_, rfl⟩
  rw [her]
  have HE := Lib.hid her
  have hbox : (R3.val r p) = .agg #[.string r.pr, .slice p.a r.hd.length p.c, .slice p.ba r.bd.length p.bc] := rfl
  have hcl : (r.cells p).toArray = #[.string r.pr, .slice p.a r.hd.length p.c, .slice p.ba r.bd.length p.bc] := rfl
  rw [hbox] at hld HC ⊢
  rw [hcl] at hld HC HB HR0
  clear hB hR hs hf her hT hbox hcl
  go_enter Tryz.func6, Tryz.ntmps6
  go_wp2_with fail
  refine HC.out.mono ?_
  rintro e w1 ⟨rfl, b1⟩
  have B1 : Hid (Below w.heap.size w w1) := HB.out.trans (b1.mono HB.out.size)
  have HR1 : Hid (RL w1 w.heap.size 25 (r.cells p)) := RL.below HR0.out b1
  clear b1 HB HR0 HC hld
  cases hrb : ruleB (d + 1) r
  · have HER : Hid (er = 40) := by show _ = _; rw [← HE.out]; unfold ruE; rw [hrb]; rfl
    have e0 : errB false = 40 := rfl
    rw [e0]
    clear hrb e0
    go_wp2
    go_ret
    exact ⟨by first | (rw [HER.out]; rfl) | rw [HER.out], B1.out⟩
  · have e0 : errB true = 0 := rfl
    rw [e0]
    have HER : Hid (er = if (vsT [] (termsR (d + 1) r)).all (inB fs) = true then 0 else 73) := by show _ = _; rw [← HE.out]; unfold ruE; rw [hrb]; rfl
    clear hrb e0
    have hD : Below w1.heap.size w1 w1.drew := (Below.refl _ _).drew
    have HC1 : Hid (Calls Tryz.prog 16 #[r.val p] w1.drew fun e u1 => ∃ sv1, e = .returned sv1 ∧ Below w1.heap.size w1 u1 ∧ Calls Tryz.prog 17 #[.slice p.ba r.bd.length p.bc] u1 fun e u2 => ∃ sv2, e = .returned sv2 ∧ Below w1.heap.size w1 u2 ∧ Calls Tryz.prog 15 #[sv1, sv2] u2 fun e u3 => e = .returned (.bool ((vsT [] (termsR (d + 1) r)).all (inB fs))) ∧ Below w1.heap.size w1 u3) := by
      have k0 : Below w.heap.size w w1.drew := B1.out.trans (hD.mono B1.out.size)
      refine (vruleVars_any (d + 1) r p w1.drew (HR.out _ k0) (by have := HS.out.terms; omega)).mono ?_
      rintro e u1 ⟨sv1, rfl, l1, c1⟩
      have k1 : Below w1.heap.size w1 u1 := hD.trans (c1.mono hD.size)
      have k1w : Below w.heap.size w u1 := B1.out.trans (k1.mono B1.out.size)
      refine ⟨sv1, rfl, k1, ?_⟩
      have hb := HS.out.body
      refine (limited_any d _ r.bd u1 (HR.out u1 k1w).bd hb.ts hb.av hb.ln hb.sz).mono ?_
      rintro e u2 ⟨sv2, fs2, rfl, own2, c2, it2, st2⟩
      obtain rfl : fs = fs2 := HF.out.one ⟨it2, st2⟩
      have k2 : Below w1.heap.size w1 u2 := k1.trans (c2.mono k1.size)
      refine ⟨sv2, rfl, k2, ?_⟩
      refine (areAmong_any sv1 sv2 _ fs u2 (l1.below c2) (ls_own own2)).mono ?_
      rintro e u3 ⟨rfl, rfl⟩
      exact ⟨rfl, k2⟩
    have HLD : Hid (∀ u, Below w1.heap.size w1 u → _) := fun u hu => rule_loads (RL.below HR1.out hu)
    have HDD := Lib.hid hD
    generalize (vsT [] (termsR (d + 1) r)).all (inB fs) = bb at HER HC1
    generalize R3.val r p = rv at HLD HC1
    clear hD HR HR1 HS HF HE
    go_upto_region 4 with fail
    refine wp_region_noPanic ?_
    refine wp_region_held (S := fun u => Below w1.heap.size w1 u) (by kernel_rfl) ?_
    refine ckrule (w5 := w1) (S := fun u => Below w1.heap.size w1 u) (b := w.heap.size) (rv := rv) (bv := .slice p.ba r.bd.length p.bc) (bb := bb) rfl rfl rfl rfl rfl rfl rfl (by kernel_rfl) (by kernel_rfl) (by kernel_rfl) (by kernel_rfl) (by kernel_rfl) (by kernel_rfl) (fun _ _ _ _ _ h => h) (by simp) rfl HDD.out (fun _ _ _ h => h) (fun u hu => (HLD.out u hu).1) (fun u hu => (HLD.out u hu).2.1) HC1.out ?_
    intro wc sv1 sv2 hwc
    have B2 : Hid (Below w.heap.size w wc) := B1.out.trans (hwc.mono B1.out.size)
    clear hwc HC1 HLD HDD B1
    refine NoPanic.normal ?_
    rename_i hK
    refine hK _ _ ?_
    simp (config := { maxSteps := 8000000 }) only [Act.put, List.getElem_toArray, List.getElem_cons_zero, List.getElem_cons_succ, List.setIfInBounds_toArray, List.set_cons_succ, List.set_cons_zero]
    cases bb
    · go_wp2
      go_ret
      exact ⟨by rw [HER.out]; rfl, B2.out⟩
    · go_wp2
      go_ret
      exact ⟨by rw [HER.out]; rfl, B2.out⟩
set_option maxHeartbeats 3200000 in
theorem rfRule_any (d : Nat) (r : R3) (p : RP) (w : World) (hR : RIs w (d + 1) r p) (hs : smallR (d + 1) r) (fs : List ByteArray) (hf : Lim (eqL (d + 1) r.bd) (atN r.bd) fs) :
    Calls Tryz.prog 7 #[r.val p] w fun e w' => e = .returned (.int .i64 (ruE (d + 1) r fs)) ∧ Below w.heap.size w w' := by
  have hB := belowA (w := w) (.cells (r.cells p).toArray 25)
  have HR0 := Lib.hid (rl_new w (r.cells p).toArray 25)
  have HB := Lib.hid hB
  have HR : Hid (∀ u, Below w.heap.size w u → RIs u (d + 1) r p) := fun u hu => hR.below hu
  have HC := Lib.hid (rcheckRule_any (d + 1) r p _ (hR.below hB) hs)
  have hld := (rule_loads HR0.out).1
  have HS := Lib.hid hs
  have HF := Lib.hid hf
  obtain ⟨er, her⟩ : ∃ er, ruE (d + 1) r fs = er := ⟨_, rfl⟩
  rw [her]
  have HE := Lib.hid her
  have hbox : (R3.val r p) = .agg #[.string r.pr, .slice p.a r.hd.length p.c, .slice p.ba r.bd.length p.bc] := rfl
  have hcl : (r.cells p).toArray = #[.string r.pr, .slice p.a r.hd.length p.c, .slice p.ba r.bd.length p.bc] := rfl
  rw [hbox] at hld HC ⊢
  rw [hcl] at hld HC HB HR0
  clear hB hR hs hf her hbox hcl
  go_enter Tryz.func7, Tryz.ntmps7
  go_wp2_with fail
  refine HC.out.mono ?_
  rintro e w1 ⟨rfl, b1⟩
  have B1 : Hid (Below w.heap.size w w1) := HB.out.trans (b1.mono HB.out.size)
  have HR1 : Hid (RL w1 w.heap.size 25 (r.cells p)) := RL.below HR0.out b1
  clear b1 HB HR0 HC hld
  cases hrb : ruleB (d + 1) r
  · have HER : Hid (er = 40) := by show _ = _; rw [← HE.out]; unfold ruE; rw [hrb]; rfl
    have e0 : errB false = 40 := rfl
    rw [e0]
    clear hrb e0
    go_wp2
    go_ret
    exact ⟨by first | (rw [HER.out]; rfl) | rw [HER.out], B1.out⟩
  · have e0 : errB true = 0 := rfl
    rw [e0]
    have HER : Hid (er = if (vsT [] (termsR (d + 1) r)).all (inB fs) = true then 0 else 73) := by show _ = _; rw [← HE.out]; unfold ruE; rw [hrb]; rfl
    clear hrb e0
    have hD : Below w1.heap.size w1 w1.drew := (Below.refl _ _).drew
    have HC1 : Hid (Calls Tryz.prog 20 #[r.val p] w1.drew fun e u1 => ∃ sv1, e = .returned sv1 ∧ Below w1.heap.size w1 u1 ∧ Calls Tryz.prog 21 #[.slice p.ba r.bd.length p.bc] u1 fun e u2 => ∃ sv2, e = .returned sv2 ∧ Below w1.heap.size w1 u2 ∧ Calls Tryz.prog 19 #[sv1, sv2] u2 fun e u3 => e = .returned (.bool ((vsT [] (termsR (d + 1) r)).all (inB fs))) ∧ Below w1.heap.size w1 u3) := by
      have k0 : Below w.heap.size w w1.drew := B1.out.trans (hD.mono B1.out.size)
      refine (rruleVars_any (d + 1) r p w1.drew (HR.out _ k0) HS.out.terms).mono ?_
      rintro e u1 ⟨sv1, rfl, l1, c1⟩
      have k1 : Below w1.heap.size w1 u1 := hD.trans (c1.mono hD.size)
      have k1w : Below w.heap.size w u1 := B1.out.trans (k1.mono B1.out.size)
      refine ⟨sv1, rfl, k1, ?_⟩
      have hb := HS.out.body
      refine (rlimited_any d _ r.bd u1 (HR.out u1 k1w).bd hb.ts hb.av hb.ln hb.sz hb.lo).mono ?_
      rintro e u2 ⟨sv2, fs2, rfl, own2, c2, it2, st2⟩
      obtain rfl : fs = fs2 := HF.out.one ⟨it2, st2⟩
      have k2 : Below w1.heap.size w1 u2 := k1.trans (c2.mono k1.size)
      refine ⟨sv2, rfl, k2, ?_⟩
      refine (rall_any sv1 sv2 _ fs u2 (l1.below c2) (ls_own own2)).mono ?_
      rintro e u3 ⟨rfl, rfl⟩
      exact ⟨rfl, k2⟩
    have HLD : Hid (∀ u, Below w1.heap.size w1 u → _) := fun u hu => rule_loads (RL.below HR1.out hu)
    have HDD := Lib.hid hD
    generalize (vsT [] (termsR (d + 1) r)).all (inB fs) = bb at HER HC1
    generalize R3.val r p = rv at HLD HC1
    clear hD HR HR1 HS HF HE
    go_upto_region 3 with fail
    refine wp_region_noPanic ?_
    refine wp_region_held (S := fun u => Below w1.heap.size w1 u) (by kernel_rfl) ?_
    refine rfrule (w5 := w1) (S := fun u => Below w1.heap.size w1 u) (b := w.heap.size) (rv := rv) (bv := .slice p.ba r.bd.length p.bc) (bb := bb) rfl rfl rfl rfl rfl rfl rfl (by kernel_rfl) (by kernel_rfl) (by kernel_rfl) (by kernel_rfl) (by kernel_rfl) (by kernel_rfl) (fun _ _ _ _ _ h => h) (by simp) rfl HDD.out (fun _ _ _ h => h) (fun u hu => (HLD.out u hu).1) (fun u hu => (HLD.out u hu).2.1) HC1.out ?_
    intro wc sv1 sv2 hwc
    have B2 : Hid (Below w.heap.size w wc) := B1.out.trans (hwc.mono B1.out.size)
    clear hwc HC1 HLD HDD B1
    refine NoPanic.normal ?_
    rename_i hK
    refine hK _ _ ?_
    simp (config := { maxSteps := 8000000 }) only [Act.put, List.getElem_toArray, List.getElem_cons_zero, List.getElem_cons_succ, List.setIfInBounds_toArray, List.set_cons_succ, List.set_cons_zero]
    cases bb
    · go_wp2
      go_ret
      exact ⟨by rw [HER.out]; rfl, B2.out⟩
    · go_wp2
      go_ret
      exact ⟨by rw [HER.out]; rfl, B2.out⟩
end Go.Proofs.YtheihplldbccpaaGreatDoor
end
section
namespace Go.Proofs.YtheihplldbccpaaGreatDoor
open Go.RowKit Go.Maps
set_option linter.unusedVariables false
set_option linter.unusedSimpArgs false
attribute [local go_sem ↓] Go.wp_at_zero Go.wp_at_succ

theorem foldN_mem : ∀ (l out : List ByteArray) (x : ByteArray), x ∈ l.foldl addN out ↔ x ∈ out ∨ x ∈ l
  | [], out, x => by simp
  | n :: l, out, x => by
    rw [List.foldl_cons, foldN_mem l (addN out n) x]
    have : x ∈ addN out n ↔ x ∈ out ∨ x = n := by
      unfold addN
      split
      · rename_i h
        have := inB_iff.1 h
        constructor
        · exact .inl
        · rintro (k | k)
          · exact k
          · rw [k]; exact this
      · simp
    rw [this, List.mem_cons]
    constructor
    · rintro ((k | k) | k)
      · exact .inl k
      · exact .inr (.inl k)
      · exact .inr (.inr k)
    · rintro (k | k | k)
      · exact .inl (.inl k)
      · exact .inl (.inr k)
      · exact .inr k
theorem inB_atN (l : List XL) : inB (atN l) = inB (avL l) := by
  funext x
  have h : x ∈ atN l ↔ x ∈ avL l := by
    unfold atN
    rw [foldN_mem]
    simp
  cases hq : inB (avL l) x with
  | true => exact inB_iff.2 (h.2 (inB_iff.1 hq))
  | false =>
    rw [← Bool.not_eq_true]
    intro hc
    rw [inB_iff.2 (h.1 (inB_iff.1 hc))] at hq
    cases hq
/-- a rule's head alone -/
def hdR (r : R3) : R3 := ⟨⟨#[]⟩, r.hd, []⟩
def hdP (p : RP) : RP := ⟨p.a, p.c, none, 0⟩
theorem hdR_is {w : World} {d : Nat} {r : R3} {p : RP} (h : RIs w d r p) : RIs w d (hdR r) (hdP p) :=
  ⟨by show (⟨#[]⟩ : ByteArray).size ≤ maxLen; decide, h.hl, by show 0 ≤ _; omega, h.hd, ⟨⟨by show 0 ≤ _; omega, none, 0, rfl, Nat.le_refl _, by decide, fun h => absurd (show (0 : Nat) < 0 from h) (by omega)⟩, fun t ht => by cases ht⟩⟩
theorem hdR_len {d : Nat} {r : R3} (h : smallR d r) : (termsR d (hdR r)).length ≤ 1048576 := by
  unfold termsR hdR
  rw [List.length_append, List.length_map]
  have := h.hd
  show r.hd.length + 0 ≤ _
  omega
/-- does a rule make values? -/
def mkB (d : Nat) (r : R3) (fs : List ByteArray) : Bool := (ruE d r fs == 0) && r.bd.any opX && !((vsT [] (termsR d (hdR r))).all (inB (avL r.bd)))
set_option maxHeartbeats 3200000 in
theorem ckMakes_any (d : Nat) (r : R3) (p : RP) (w : World) (hT : KT w) (hR : RIs w (d + 1) r p) (hs : smallR (d + 1) r) (fs : List ByteArray) (hf : Lim (eqL (d + 1) r.bd) (atN r.bd) fs) :
    Calls Tryz.prog 8 #[r.val p] w fun e w' => e = .returned (.bool (mkB (d + 1) r fs)) ∧ Below w.heap.size w w' := by
  have hB := belowA (w := w) (.cells (r.cells p).toArray 25)
  have HR0 := Lib.hid (rl_new w (r.cells p).toArray 25)
  have HB := Lib.hid hB
  have HR : Hid (∀ u, Below w.heap.size w u → RIs u (d + 1) r p) := fun u hu => hR.below hu
  have HT : Hid (∀ u, Below w.heap.size w u → KT u) := fun u hu => hT.below hu
  have HS := Lib.hid hs
  have HF := Lib.hid hf
  obtain ⟨mk, hmk⟩ : ∃ mk, mkB (d + 1) r fs = mk := ⟨_, rfl⟩
  rw [hmk]
  have HM := Lib.hid hmk
  have hbox : (R3.val r p) = .agg #[.string r.pr, .slice p.a r.hd.length p.c, .slice p.ba r.bd.length p.bc] := rfl
  have hcl : (r.cells p).toArray = #[.string r.pr, .slice p.a r.hd.length p.c, .slice p.ba r.bd.length p.bc] := rfl
  rw [hbox]
  rw [hcl] at HB HR0
  clear hB hR hs hf hmk hT hbox hcl
  go_enter Tryz.func8, Tryz.ntmps8
  go_upto_region 1 with fail
  have HR1 : Hid (RL (w.alloc (.cells #[.string r.pr, .slice p.a r.hd.length p.c, .slice p.ba r.bd.length p.bc] 25)) w.heap.size 25 (r.cells p)) := HR0.out
  clear HR0
  generalize w.alloc (.cells #[.string r.pr, .slice p.a r.hd.length p.c, .slice p.ba r.bd.length p.bc] 25) = W at HB HR1 ⊢
  have hD : Below W.heap.size W W.drew := (Below.refl _ _).drew
  have kW : ∀ u, Below W.heap.size W u → Below w.heap.size w u := fun u hu => HB.out.trans (hu.mono HB.out.size)
  have HLD : Hid (∀ u, Below W.heap.size W u → _) := fun u hu => rule_loads (RL.below HR1.out hu)
  have HCR := Lib.hid (ckRule_any d r p W.drew (HT.out _ (kW _ hD)) (HR.out _ (kW _ hD)) HS.out fs HF.out)
  refine wp_region_noPanic ?_
  refine wp_region_held (S := fun u => Below W.heap.size W u) (by kernel_rfl) ?_
  by_cases h0 : ruE (d + 1) r fs = 0
  · rw [h0] at HCR
    have hq0 : ∀ u, (binOp .eql 28 (.int .i64 0) (.int .i64 0)).run Tryz.prog u = .ok (.bool true) u := fun u => by go_simp
    cases ho : r.bd.any opX
    · have HMM : Hid (mk = false) := by show _ = _; rw [← HM.out]; unfold mkB; rw [ho]; simp
      refine ckmakesB (w5 := W) (S := fun u => Below W.heap.size W u) (b := w.heap.size) (rv := r.val p) (bv := .slice p.ba r.bd.length p.bc) (ha := p.a) (hn := r.hd.length) (hc := p.c) (er := 0) (bb := true) rfl rfl rfl rfl rfl rfl rfl rfl rfl rfl rfl rfl rfl rfl rfl rfl rfl rfl rfl rfl (by kernel_rfl) (by kernel_rfl) (by kernel_rfl) (by kernel_rfl) (by kernel_rfl) (fun _ _ _ _ _ h => h) (by simp) rfl hD (fun _ _ _ h => h) (fun u hu => (HLD.out u hu).1) (fun u hu => (HLD.out u hu).2.1) (fun u hu => (HLD.out u hu).2.2) hq0 ?_ ?_
      · refine HCR.out.mono ?_
        rintro e u1 ⟨rfl, c1⟩
        have k1 : Below W.heap.size W u1 := hD.trans (c1.mono hD.size)
        refine ⟨rfl, k1, ?_⟩
        refine (containsOp_any _ r.bd (d + 1) u1 (HR.out u1 (kW _ k1)).bd).mono ?_
        rintro e u2 ⟨rfl, c2⟩
        exact ⟨by rw [ho], k1.trans (c2.mono k1.size)⟩
      · intro wc hwc
        have B2 : Hid (Below w.heap.size w wc) := kW _ hwc
        clear hwc HLD HCR HR1 HB hD kW h0 ho HR HT HS HF
        refine NoPanic.normal ?_
        rename_i hK
        refine hK _ _ ?_
        simp (config := { maxSteps := 8000000 }) only [Act.put, List.getElem_toArray, List.getElem_cons_zero, List.getElem_cons_succ, List.setIfInBounds_toArray, List.set_cons_succ, List.set_cons_zero]
        go_wp2
        go_ret
        exact ⟨by first | (rw [HMM.out]; rfl) | rw [HMM.out], B2.out⟩
    · obtain ⟨bb, hbb⟩ : ∃ bb, (vsT [] (termsR (d + 1) (hdR r))).all (inB (avL r.bd)) = bb := ⟨_, rfl⟩
      have HMM : Hid (mk = !bb) := by show _ = _; rw [← HM.out]; unfold mkB; rw [ho, h0, hbb]; rfl
      refine ckmakesC (w5 := W) (S := fun u => Below W.heap.size W u) (b := w.heap.size) (rv := r.val p) (bv := .slice p.ba r.bd.length p.bc) (ha := p.a) (hn := r.hd.length) (hc := p.c) (er := 0) (bb := bb) rfl rfl rfl rfl rfl rfl rfl rfl rfl rfl rfl rfl rfl rfl rfl rfl rfl rfl rfl rfl (by kernel_rfl) (by kernel_rfl) (by kernel_rfl) (by kernel_rfl) (by kernel_rfl) (by kernel_rfl) (by kernel_rfl) (by kernel_rfl) (fun _ _ _ _ _ h => h) (by simp) rfl hD (fun _ _ _ h => h) (fun u hu => (HLD.out u hu).1) (fun u hu => (HLD.out u hu).2.1) (fun u hu => (HLD.out u hu).2.2) hq0 ?_ ?_
      · refine HCR.out.mono ?_
        rintro e u1 ⟨rfl, c1⟩
        have k1 : Below W.heap.size W u1 := hD.trans (c1.mono hD.size)
        refine ⟨rfl, k1, ?_⟩
        refine (containsOp_any _ r.bd (d + 1) u1 (HR.out u1 (kW _ k1)).bd).mono ?_
        rintro e u2 ⟨rfl, c2⟩
        have k2 : Below W.heap.size W u2 := k1.trans (c2.mono k1.size)
        refine ⟨by rw [ho], k2, ?_⟩
        refine (vruleVars_any (d + 1) (hdR r) (hdP p) u2 (hdR_is (HR.out u2 (kW _ k2))) (by have := hdR_len HS.out; omega)).mono ?_
        rintro e u3 ⟨sv1, rfl, l3, c3⟩
        have k3 : Below W.heap.size W u3 := k2.trans (c3.mono k2.size)
        refine ⟨sv1, rfl, k3, ?_⟩
        have hb := HS.out.body
        refine (atomVarsP_any (d + 1) _ r.bd u3 (HR.out u3 (kW _ k3)).bd hb.ts hb.av hb.ln).mono ?_
        rintro e u4 ⟨sv2, rfl, own4, c4⟩
        have k4 : Below W.heap.size W u4 := k3.trans (c4.mono k3.size)
        refine ⟨sv2, rfl, k4, ?_⟩
        refine (areAmong_any sv1 sv2 _ _ u4 (l3.below c4) (ls_own own4)).mono ?_
        rintro e u5 ⟨rfl, rfl⟩
        exact ⟨by rw [hbb], k4⟩
      · intro wc sv1 sv2 hwc
        have B2 : Hid (Below w.heap.size w wc) := kW _ hwc
        clear hwc HLD HCR HR1 HB hD kW h0 ho HR HT HS HF hbb
        refine NoPanic.normal ?_
        rename_i hK
        refine hK _ _ ?_
        simp (config := { maxSteps := 8000000 }) only [Act.put, List.getElem_toArray, List.getElem_cons_zero, List.getElem_cons_succ, List.setIfInBounds_toArray, List.set_cons_succ, List.set_cons_zero]
        go_wp2
        go_ret
        exact ⟨by first | (rw [HMM.out]; rfl) | rw [HMM.out], B2.out⟩
  · have HMM : Hid (mk = false) := by
      show _ = _
      rw [← HM.out]
      unfold mkB
      rw [show (ruE (d + 1) r fs == 0) = false from by rw [beq_eq_false_iff_ne]; exact h0]
      rfl
    obtain ⟨er, her⟩ : ∃ er, ruE (d + 1) r fs = er := ⟨_, rfl⟩
    rw [her] at HCR h0
    have hq0 : ∀ u, (binOp .eql 28 (.int .i64 er) (.int .i64 0)).run Tryz.prog u = .ok (.bool false) u := fun u => by
      have : (er == 0) = false := by rw [beq_eq_false_iff_ne]; exact h0
      go_simp
    refine ckmakesA (w5 := W) (S := fun u => Below W.heap.size W u) (b := w.heap.size) (rv := r.val p) (bv := .slice p.ba r.bd.length p.bc) (ha := p.a) (hn := r.hd.length) (hc := p.c) (er := er) (bb := true) rfl rfl rfl rfl rfl rfl rfl rfl rfl rfl rfl rfl rfl rfl rfl rfl rfl rfl rfl rfl (by kernel_rfl) (by kernel_rfl) (by kernel_rfl) (by kernel_rfl) (fun _ _ _ _ _ h => h) (by simp) rfl hD (fun _ _ _ h => h) (fun u hu => (HLD.out u hu).1) (fun u hu => (HLD.out u hu).2.1) (fun u hu => (HLD.out u hu).2.2) hq0 ?_ ?_
    · refine HCR.out.mono ?_
      rintro e u1 ⟨rfl, c1⟩
      exact ⟨rfl, hD.trans (c1.mono hD.size)⟩
    · intro wc hwc
      have B2 : Hid (Below w.heap.size w wc) := kW _ hwc
      clear hwc HLD HCR HR1 HB hD kW h0 hq0 her HR HT HS HF
      refine NoPanic.normal ?_
      rename_i hK
      refine hK _ _ ?_
      simp (config := { maxSteps := 8000000 }) only [Act.put, List.getElem_toArray, List.getElem_cons_zero, List.getElem_cons_succ, List.setIfInBounds_toArray, List.set_cons_succ, List.set_cons_zero]
      go_wp2
      go_ret
      exact ⟨by first | (rw [HMM.out]; rfl) | rw [HMM.out], B2.out⟩
theorem any_take {l : List XL} {k : Nat} (h : k < l.length) : (l.take (k + 1)).any opX = ((l.take k).any opX || opX (atL l k)) := by
  rw [takeXL h, List.any_append]
  simp
set_option maxHeartbeats 3200000 in
set_option maxRecDepth 100000 in
theorem rfMakes_any (d : Nat) (r : R3) (p : RP) (w : World) (hR : RIs w (d + 1) r p) (hs : smallR (d + 1) r) (fs : List ByteArray) (hf : Lim (eqL (d + 1) r.bd) (atN r.bd) fs) :
    Calls Tryz.prog 9 #[r.val p] w fun e w' => e = .returned (.bool (mkB (d + 1) r fs)) ∧ Below w.heap.size w w' := by
  have hB := belowA (w := w) (.cells (r.cells p).toArray 25)
  have HR0 := Lib.hid (rl_new w (r.cells p).toArray 25)
  have HB := Lib.hid hB
  have HR : Hid (∀ u, Below w.heap.size w u → RIs u (d + 1) r p) := fun u hu => hR.below hu
  have HC := Lib.hid (rfRule_any d r p _ (hR.below hB) hs fs hf)
  have HS := Lib.hid hs
  obtain ⟨mk, hmk⟩ : ∃ mk, mkB (d + 1) r fs = mk := ⟨_, rfl⟩
  rw [hmk]
  have HM := Lib.hid hmk
  have hbox : (R3.val r p) = .agg #[.string r.pr, .slice p.a r.hd.length p.c, .slice p.ba r.bd.length p.bc] := rfl
  have hcl : (r.cells p).toArray = #[.string r.pr, .slice p.a r.hd.length p.c, .slice p.ba r.bd.length p.bc] := rfl
  rw [hbox] at HC ⊢
  rw [hcl] at HB HR0 HC
  have hbl : r.bd.length ≤ 1048576 := hs.bd
  clear hB hR hs hf hmk hbox hcl
  go_enter Tryz.func9, Tryz.ntmps9
  go_wp2_with fail
  refine HC.out.mono ?_
  rintro e w1 ⟨rfl, b1⟩
  have B1 : Hid (Below w.heap.size w w1) := HB.out.trans (b1.mono HB.out.size)
  have HR1 : Hid (RL w1 w.heap.size 25 (r.cells p)) := RL.below HR0.out b1
  clear b1 HB HR0 HC
  by_cases h0 : ruE (d + 1) r fs = 0
  · have HM2 : Hid (mk = (r.bd.any opX && !((vsT [] (termsR (d + 1) (hdR r))).all (inB (avL r.bd))))) := by
      show _ = _
      rw [← HM.out]
      unfold mkB
      rw [h0]
      rfl
    rw [h0]
    clear h0 HM
    obtain ⟨a, c, hv, hc1, hc2, hat⟩ := (HR.out w1 B1.out).bd.form
    injection hv with hv1 _ hv2
    have HAT := Lib.hid hat
    have hq2 := HR1.out.at (j := 2) rfl
    rw [hv1, hv2] at hq2
    clear hat
    go_wp2
    go_loopw [3, 4] (fun o i wr => wr = w1 ∧ ∃ k : Nat, k ≤ r.bd.length ∧ i = .int .i64 k ∧ ∃ bo : Bool, o = .bool bo ∧ Hid ((r.bd.take k).any opX = bo)) (fun _ i _ => r.bd.length - (intOf i).toNat)
    case atStart => exact ⟨rfl, 0, Nat.zero_le _, rfl, false, rfl, rfl⟩
    case round =>
      obtain ⟨rfl, k, hk, rfl, bo, rfl, HA⟩ := hrel
      by_cases hlt : k < r.bd.length
      · have hlt' : (k : Int) < (r.bd.length : Int) := by omega
        have hk0 : (0 : Int) ≤ (k : Int) := by omega
        obtain ⟨g, off, rfl, hg, hT⟩ := HAT.out (by omega)
        have r1 := hT k hlt
        have HNX := Lib.hid (any_take hlt)
        rw [HA.out] at HNX
        obtain ⟨y, hy⟩ : ∃ y, atL r.bd k = y := ⟨_, rfl⟩
        rw [hy] at r1 HNX
        have z0 : wr.cell? ⟨g, off + k * 16, none⟩ = some (.int .i8 y.x.k) := r1 0 _ rfl
        have z4 : wr.cell? ⟨g, off + k * 16 + 4, none⟩ = some (.int .i8 y.x.l.op) := r1 4 _ rfl
        have z10 : wr.cell? ⟨g, off + k * 16 + 10, none⟩ = some (.int .i8 y.x.r.op) := r1 10 _ rfl
        clear hT r1 hy HA
        have hox : opX y = (y.x.k == 3 && (y.x.l.op != 0 || y.x.r.op != 0)) := rfl
        rw [hox] at HNX
        clear hox
        cases bo
        · by_cases h1 : y.x.k = 3
          · have e1 : (y.x.k == 3) = true := by rw [h1]; rfl
            by_cases h2 : y.x.l.op = 0
            · have e2 : (y.x.l.op != 0) = false := by rw [h2]; rfl
              by_cases h3 : y.x.r.op = 0
              · have e3 : (y.x.r.op != 0) = false := by rw [h3]; rfl
                rw [e1, e2, e3] at HNX
                clear h1 h2 h3
                go_wp2
                go_roundw
                case rel => exact ⟨by first | rfl | trivial, k + 1, by omega, by go_num, false, by first | rfl | trivial, HNX⟩
                case measure => simp [intOf]; omega
              · have e3 : (y.x.r.op != 0) = true := by rw [bne_iff_ne]; exact h3
                rw [e1, e2, e3] at HNX
                clear h1 h2 h3
                go_wp2
                go_roundw
                case rel => exact ⟨by first | rfl | trivial, k + 1, by omega, by go_num, true, by first | rfl | trivial, HNX⟩
                case measure => simp [intOf]; omega
            · have e2 : (y.x.l.op != 0) = true := by rw [bne_iff_ne]; exact h2
              rw [e1, e2] at HNX
              clear h1 h2
              go_wp2
              go_roundw
              case rel => exact ⟨by first | rfl | trivial, k + 1, by omega, by go_num, true, by first | rfl | trivial, HNX⟩
              case measure => simp [intOf]; omega
          · have e1 : (y.x.k == 3) = false := by rw [beq_eq_false_iff_ne]; exact h1
            rw [e1] at HNX
            clear h1
            go_wp2
            go_roundw
            case rel => exact ⟨by first | rfl | trivial, k + 1, by omega, by go_num, false, by first | rfl | trivial, HNX⟩
            case measure => simp [intOf]; omega
        · have HN2 : Hid ((r.bd.take (k + 1)).any opX = true) := by show _ = _; rw [HNX.out]; rfl
          clear HNX z0 z4 z10
          go_wp2
          go_roundw
          case rel => exact ⟨by first | rfl | trivial, k + 1, by omega, by go_num, true, by first | rfl | trivial, HN2⟩
          case measure => simp [intOf]; omega
      · obtain rfl : k = r.bd.length := by omega
        rw [List.take_length] at HA
        obtain ⟨W, rfl⟩ : ∃ W, W = wr := ⟨_, rfl⟩
        have hD : Below W.heap.size W W.drew := (Below.refl _ _).drew
        have kW : ∀ u, Below W.heap.size W u → Below w.heap.size w u := fun u hu => B1.out.trans (hu.mono B1.out.size)
        have HLD : Hid (∀ u, Below W.heap.size W u → _) := fun u hu => rule_loads (RL.below HR1.out hu)
        have HKW := Lib.hid kW
        have HDD := Lib.hid hD
        clear kW hD HAT
        go_upto_region 8 with fail
        clear hq2
        refine wp_region_noPanic ?_
        refine wp_region_held (S := fun u => Below W.heap.size W u) (by kernel_rfl) ?_
        cases bo
        · have HMM : Hid (mk = false) := by show _ = _; rw [HM2.out, HA.out]; rfl
          refine rfmakesB (w5 := W) (S := fun u => Below W.heap.size W u) (b := w.heap.size) (bv := .slice p.ba r.bd.length p.bc) (ha := p.a) (hn := r.hd.length) (hc := p.c) (bb := true) rfl rfl rfl rfl rfl rfl rfl rfl rfl rfl rfl rfl rfl (by kernel_rfl) (by kernel_rfl) (by kernel_rfl) (fun _ _ _ _ _ h => h) (by simp) rfl rfl HDD.out (fun _ _ _ h => h) (fun u hu => (HLD.out u hu).2.1) (fun u hu => (HLD.out u hu).2.2) ?_
          intro wc hwc
          have B2 : Hid (Below w.heap.size w wc) := HKW.out _ hwc
          clear hwc HLD HR1 HKW HDD HR HS
          refine NoPanic.normal ?_
          rename_i hJ hQ hK
          first | refine hJ _ _ ?_ | refine hK _ _ ?_
          simp (config := { maxSteps := 8000000 }) only [Act.put, List.getElem_toArray, List.getElem_cons_zero, List.getElem_cons_succ, List.setIfInBounds_toArray, List.set_cons_succ, List.set_cons_zero]
          go_wp2
          go_ret
          exact ⟨by first | (rw [HMM.out]; rfl) | rw [HMM.out], B2.out⟩
        · obtain ⟨bb, hbb⟩ : ∃ bb, (vsT [] (termsR (d + 1) (hdR r))).all (inB (avL r.bd)) = bb := ⟨_, rfl⟩
          have HMM : Hid (mk = !bb) := by show _ = _; rw [HM2.out, HA.out, hbb]; rfl
          refine rfmakesC (w5 := W) (S := fun u => Below W.heap.size W u) (b := w.heap.size) (bv := .slice p.ba r.bd.length p.bc) (ha := p.a) (hn := r.hd.length) (hc := p.c) (bb := bb) rfl rfl rfl rfl rfl rfl rfl rfl rfl rfl rfl rfl rfl (by kernel_rfl) (by kernel_rfl) (by kernel_rfl) (by kernel_rfl) (by kernel_rfl) (by kernel_rfl) (fun _ _ _ _ _ h => h) (by simp) rfl rfl HDD.out (fun _ _ _ h => h) (fun u hu => (HLD.out u hu).2.1) (fun u hu => (HLD.out u hu).2.2) ?_ ?_
          · refine (rruleVars_any (d + 1) (hdR r) (hdP p) W.drew (hdR_is (HR.out _ (HKW.out _ HDD.out))) (hdR_len HS.out)).mono ?_
            rintro e u3 ⟨sv1, rfl, l3, c3⟩
            have k3 : Below W.heap.size W u3 := HDD.out.trans (c3.mono HDD.out.size)
            refine ⟨sv1, rfl, k3, ?_⟩
            have hb := HS.out.body
            refine (ratoms_any (d + 1) _ r.bd u3 (HR.out u3 (HKW.out _ k3)).bd hb.ts hb.av hb.ln).mono ?_
            rintro e u4 ⟨sv2, rfl, own4, c4⟩
            have k4 : Below W.heap.size W u4 := k3.trans (c4.mono k3.size)
            refine ⟨sv2, rfl, k4, ?_⟩
            refine (rall_any sv1 sv2 _ _ u4 (l3.below c4) (ls_own own4)).mono ?_
            rintro e u5 ⟨rfl, rfl⟩
            exact ⟨by rw [inB_atN, hbb], k4⟩
          · intro wc sv1 sv2 hwc
            have B2 : Hid (Below w.heap.size w wc) := HKW.out _ hwc
            clear hwc HLD HR1 HKW HDD HR HS hbb
            refine NoPanic.normal ?_
            rename_i hJ hQ hK
            first | refine hJ _ _ ?_ | refine hK _ _ ?_
            simp (config := { maxSteps := 8000000 }) only [Act.put, List.getElem_toArray, List.getElem_cons_zero, List.getElem_cons_succ, List.setIfInBounds_toArray, List.set_cons_succ, List.set_cons_zero]
            go_wp2
            go_ret
            exact ⟨by first | (rw [HMM.out]; rfl) | rw [HMM.out], B2.out⟩
  · have HMM : Hid (mk = false) := by
      show _ = _
      rw [← HM.out]
      unfold mkB
      rw [show (ruE (d + 1) r fs == 0) = false from by rw [beq_eq_false_iff_ne]; exact h0]
      rfl
    obtain ⟨er, her⟩ : ∃ er, ruE (d + 1) r fs = er := ⟨_, rfl⟩
    rw [her] at h0 ⊢
    have e0 : (er != 0) = true := by rw [bne_iff_ne]; exact h0
    clear h0 her HM
    go_wp2
    go_ret
    exact ⟨by first | (rw [HMM.out]; rfl) | rw [HMM.out], B1.out⟩
end Go.Proofs.YtheihplldbccpaaGreatDoor
end
