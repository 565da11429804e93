import Derived.Test.YtgfnijhhhgjabaaGreatDoorG39
import Derived.Test.YtgfnijhhhgjabaaGreatDoorG18
import Derived.Test.YtgfnijhhhgjabaaGreatDoorG23
import Derived.Test.YtgfnijhhhgjabaaGreatDoorG22
import Derived.Test.YtgfnijhhhgjabaaGreatDoorG33
section
namespace Go.Proofs.YtgfnijhhhgjabaaGreatDoor
open Go.RowKit Go.Maps
set_option linter.unusedVariables false
set_option linter.unusedSimpArgs false
attribute [local go_sem ↓] Go.wp_at_zero Go.wp_at_succ
attribute [-go_sem] loadVar storeVar

theorem same_map {l l' : List XL} (hl : l'.length = l.length) (hx : ∀ i, i < l.length → (atL l' i).x = (atL l i).x) : l'.map XL.x = l.map XL.x := by
  refine List.ext_getElem (by simp [hl]) fun i h1 h2 => ?_
  simp only [List.length_map] at h1 h2
  have := hx i h2
  rw [atL_eq h1, atL_eq h2] at this
  simpa using this
theorem avL_map (l : List XL) : avL l = (l.map XL.x).flatMap (fun x => if x.k = 1 then vsT [] x.ts else []) := by rw [List.flatMap_map]; rfl
theorem eqL_map (d : Nat) (l : List XL) : eqL d l = (l.map XL.x).flatMap (fun x => if x.k = 3 ∧ x.rel = 1 then [(sdE d x.l, sdE d x.r)] else []) := by rw [List.flatMap_map]; rfl
theorem avL_same {l l' : List XL} (h : l'.map XL.x = l.map XL.x) : avL l' = avL l := by rw [avL_map, avL_map, h]
theorem eqL_same {l l' : List XL} (d : Nat) (h : l'.map XL.x = l.map XL.x) : eqL d l' = eqL d l := by rw [eqL_map, eqL_map, h]
theorem avL_len (d : Nat) : ∀ l : List XL, (avL l).length ≤ (l.flatMap (fun y => termsL d y.x)).length
  | [] => Nat.le_refl _
  | y :: l => by
    have h1 := avL_len d l
    unfold avL at h1 ⊢
    rw [List.flatMap_cons, List.flatMap_cons, List.length_append, List.length_append]
    have h2 : (avX y).length ≤ (termsL d y.x).length := by
      unfold avX termsL
      split
      · have := vsT_len y.x.ts []
        simp only [List.length_nil, List.length_append] at this ⊢
        omega
      · exact Nat.zero_le _
    omega
theorem loneL_len : ∀ qs : List Qn, (loneL qs).length ≤ 2 * qs.length
  | [] => Nat.le_refl _
  | q :: qs => by
    have h1 := loneL_len qs
    unfold loneL at h1 ⊢
    rw [List.flatMap_cons, List.length_append, List.length_append, List.length_cons]
    have h2 : ∀ o : Option ByteArray, o.toList.length ≤ 1 := fun o => by cases o <;> simp
    have := h2 q.1.lone
    have := h2 q.2.lone
    omega
end Go.Proofs.YtgfnijhhhgjabaaGreatDoor
end
section
namespace Go.Proofs.YtgfnijhhhgjabaaGreatDoor
open Go.RowKit Go.Maps
set_option linter.unusedVariables false
set_option linter.unusedSimpArgs false
attribute [local go_sem ↓] Go.wp_at_zero Go.wp_at_succ
attribute [-go_sem] loadVar storeVar

/-- what a body limits: where the rounds stand still -/
structure Lim (qs : List Qn) (f0 fs : List ByteArray) : Prop where
  it : ∃ k, fs = itQ qs k f0
  st : rndQ qs fs = fs
theorem Lim.one {qs : List Qn} {f0 fs fs' : List ByteArray} (h : Lim qs f0 fs) (h' : Lim qs f0 fs') : fs = fs' := by
  obtain ⟨⟨k, e⟩, hs⟩ := h
  obtain ⟨⟨k', e'⟩, hs'⟩ := h'
  rw [e] at hs ⊢
  rw [e'] at hs' ⊢
  exact itQ_one hs hs'
theorem lim_go (qs : List Qn) (f0 : List ByteArray) (hok : ∀ q ∈ qs, OkQ q) : ∀ (n : Nat) (ws : List Qn) (fs : List ByteArray) (k : Nat), ws.length ≤ n → fs = itQ qs k f0 → Wt fs qs ws → ∃ fs', Lim qs f0 fs'
  | n, ws, fs, k, hn, hk, hw => by
    obtain ⟨h1, h2⟩ := Wt.round qs ws fs hok hw
    obtain ⟨h3, h4⟩ := progR_len ws fs
    by_cases he : (progR ws fs).2.length = ws.length
    · exact ⟨fs, ⟨k, hk⟩, by rw [h1, h4 he]⟩
    · match n with
      | 0 => exact absurd (show (progR ws fs).2.length = ws.length by omega) he
      | n + 1 => exact lim_go qs f0 hok n (progR ws fs).2 (progR ws fs).1 (k + 1) (by omega) (by rw [itQ_succ, ← hk, h1]) h2
theorem lim_ex (qs : List Qn) (f0 : List ByteArray) (hok : ∀ q ∈ qs, OkQ q) : ∃ fs, Lim qs f0 fs := lim_go qs f0 hok qs.length qs f0 0 (Nat.le_refl _) rfl (Wt.all _ _)
/-- the bounds of a body -/
structure SmB (d : Nat) (l : List XL) : Prop where
  ts : ∀ i, i < l.length → (atL l i).x.ts.length ≤ 1048576
  av : (avL l).length ≤ 1048576
  ln : l.length ≤ 1048576
  sz : ∀ i, i < l.length → szD d (atL l i).x.l ≤ 1048576 ∧ szD d (atL l i).x.r ≤ 1048576
  lo : (loneL (eqL d l)).length ≤ 4194304
theorem smallR.body {d : Nat} {r : R3} (h : smallR d r) : SmB d r.bd := by
  refine ⟨fun i hi => by rw [atL_eq hi]; exact (h.each _ (List.getElem_mem hi)).1, ?_, h.bd, fun i hi => ?_, ?_⟩
  · have h1 := h.terms
    have h2 := avL_len d r.bd
    unfold termsR at h1
    rw [List.length_append] at h1
    omega
  · rw [atL_eq hi]
    have := h.each _ (List.getElem_mem hi)
    exact ⟨this.2.1.2, this.2.2.2⟩
  · have h1 := loneL_len (eqL d r.bd)
    have h2 := eqL_len d r.bd
    have h3 := h.bd
    omega
/-- the error of a rule that is to be used -/
def ruE (d : Nat) (r : R3) (fs : List ByteArray) : Int := if ruleB d r = true then (if (vsT [] (termsR d r)).all (inB fs) = true then 0 else 73) else 40
theorem rule_loads {u : World} {b : Nat} {r : R3} {p : RP} (h : RL u b 25 (r.cells p)) :
    (loadVar 25 ⟨b, 0, none⟩).run Tryz.prog u = .ok (r.val p) u ∧ (loadVar 23 ⟨b, 2, none⟩).run Tryz.prog u = .ok (.slice p.ba r.bd.length p.bc) u ∧ (loadVar 22 ⟨b, 1, none⟩).run Tryz.prog u = .ok (.slice p.a r.hd.length p.c) u := by
  refine ⟨run_loadVar_mid _ _ 0 25 (r.cells p) _ (RL.range h) Tryz.underlying25 rfl (by kernel_rfl), ?_, ?_⟩
  · have := RL.at h (j := 2) rfl
    rw [loadVar.eq_1]
    go_simp
  · have := RL.at h (j := 1) rfl
    rw [loadVar.eq_1]
    go_simp
theorem ls_strLs {w : World} {base : Nat} {sv : Value} {l : List ByteArray} (h : w.ownsRow base 9 1 sv l.length (l.flatMap strB)) : Ls w sv l.length (l.flatMap strB) := ls_own h
set_option maxHeartbeats 3200000 in
theorem ckRule_any (d : Nat) (r : R3) (p : RP) (w : World) (hT : KT w) (hR : RIs w (d + 1) r p) (hs : smallR (d + 1) r) (fs : List ByteArray) (hf : Lim (eqL (d + 1) r.bd) (atN r.bd) fs) :
    Calls Tryz.prog 7 #[r.val p] w fun e w' => e = .returned (.int .i64 (ruE (d + 1) r fs)) ∧ Below w.heap.size w w' := by
  have hB := belowA (w := w) (.cells (r.cells p).toArray 25)
  have HR0 := Lib.hid (rl_new w (r.cells p).toArray 25)
  have HB := Lib.hid hB
  have HR : Hid (∀ u, Below w.heap.size w u → RIs u (d + 1) r p) := fun u hu => hR.below hu
  have HC := Lib.hid (checkRule_any (d + 1) r p _ (hT.below hB) (hR.below hB) hs)
  have hld := (rule_loads HR0.out).1
  have HS := Lib.hid hs
  have HF := Lib.hid hf
  obtain ⟨er, her⟩ : ∃ er, ruE (d + 1) r fs = er := ⟨_, rfl⟩
  rw [her]
  have HE := Lib.hid her
  have hbox : (R3.val r p) = .agg #[.string r.pr, .slice p.a r.hd.length p.c, .slice p.ba r.bd.length p.bc] := rfl
  have hcl : (r.cells p).toArray = #[.string r.pr, .slice p.a r.hd.length p.c, .slice p.ba r.bd.length p.bc] := rfl
  rw [hbox] at hld HC ⊢
  rw [hcl] at hld HC HB HR0
  clear hB hR hs hf her hT hbox hcl
  go_enter Tryz.func7, Tryz.ntmps7
  go_wp2_with fail
  refine HC.out.mono ?_
  rintro e w1 ⟨rfl, b1⟩
  have B1 : Hid (Below w.heap.size w w1) := HB.out.trans (b1.mono HB.out.size)
  have HR1 : Hid (RL w1 w.heap.size 25 (r.cells p)) := RL.below HR0.out b1
  clear b1 HB HR0 HC hld
  cases hrb : ruleB (d + 1) r
  · have HER : Hid (er = 40) := by show _ = _; rw [← HE.out]; unfold ruE; rw [hrb]; rfl
    have e0 : errB false = 40 := rfl
    rw [e0]
    clear hrb e0
    go_wp2
    go_ret
    exact ⟨by first | (rw [HER.out]; rfl) | rw [HER.out], B1.out⟩
  · have e0 : errB true = 0 := rfl
    rw [e0]
    have HER : Hid (er = if (vsT [] (termsR (d + 1) r)).all (inB fs) = true then 0 else 73) := by show _ = _; rw [← HE.out]; unfold ruE; rw [hrb]; rfl
    clear hrb e0
    have hD : Below w1.heap.size w1 w1.drew := (Below.refl _ _).drew
    have HC1 : Hid (Calls Tryz.prog 19 #[r.val p] w1.drew fun e u1 => ∃ sv1, e = .returned sv1 ∧ Below w1.heap.size w1 u1 ∧ Calls Tryz.prog 13 #[.slice p.ba r.bd.length p.bc] u1 fun e u2 => ∃ sv2, e = .returned sv2 ∧ Below w1.heap.size w1 u2 ∧ Calls Tryz.prog 18 #[sv1, sv2] u2 fun e u3 => e = .returned (.bool ((vsT [] (termsR (d + 1) r)).all (inB fs))) ∧ Below w1.heap.size w1 u3) := by
      have k0 : Below w.heap.size w w1.drew := B1.out.trans (hD.mono B1.out.size)
      refine (vruleVars_any (d + 1) r p w1.drew (HR.out _ k0) (by have := HS.out.terms; omega)).mono ?_
      rintro e u1 ⟨sv1, rfl, l1, c1⟩
      have k1 : Below w1.heap.size w1 u1 := hD.trans (c1.mono hD.size)
      have k1w : Below w.heap.size w u1 := B1.out.trans (k1.mono B1.out.size)
      refine ⟨sv1, rfl, k1, ?_⟩
      have hb := HS.out.body
      refine (limited_any d _ r.bd u1 (HR.out u1 k1w).bd hb.ts hb.av hb.ln hb.sz).mono ?_
      rintro e u2 ⟨sv2, fs2, rfl, own2, c2, it2, st2⟩
      obtain rfl : fs = fs2 := HF.out.one ⟨it2, st2⟩
      have k2 : Below w1.heap.size w1 u2 := k1.trans (c2.mono k1.size)
      refine ⟨sv2, rfl, k2, ?_⟩
      refine (areAmong_any sv1 sv2 _ fs u2 (l1.below c2) (ls_own own2)).mono ?_
      rintro e u3 ⟨rfl, rfl⟩
      exact ⟨rfl, k2⟩
    have HLD : Hid (∀ u, Below w1.heap.size w1 u → _) := fun u hu => rule_loads (RL.below HR1.out hu)
    have HDD := Lib.hid hD
    generalize (vsT [] (termsR (d + 1) r)).all (inB fs) = bb at HER HC1
    generalize R3.val r p = rv at HLD HC1
    clear hD HR HR1 HS HF HE
    go_upto_region 4 with fail
    refine wp_region_noPanic ?_
    refine wp_region_held (S := fun u => Below w1.heap.size w1 u) (by kernel_rfl) ?_
    refine ckrule (w5 := w1) (S := fun u => Below w1.heap.size w1 u) (b := w.heap.size) (rv := rv) (bv := .slice p.ba r.bd.length p.bc) (bb := bb) rfl rfl rfl rfl rfl rfl rfl (by kernel_rfl) (by kernel_rfl) (by kernel_rfl) (by kernel_rfl) (by kernel_rfl) (by kernel_rfl) (fun _ _ _ _ _ h => h) (by simp) rfl HDD.out (fun _ _ _ h => h) (fun u hu => (HLD.out u hu).1) (fun u hu => (HLD.out u hu).2.1) HC1.out ?_
    intro wc sv1 sv2 hwc
    have B2 : Hid (Below w.heap.size w wc) := B1.out.trans (hwc.mono B1.out.size)
    clear hwc HC1 HLD HDD B1
    refine NoPanic.normal ?_
    rename_i hK
    refine hK _ _ ?_
    simp (config := { maxSteps := 8000000 }) only [Act.put, List.getElem_toArray, List.getElem_cons_zero, List.getElem_cons_succ, List.setIfInBounds_toArray, List.set_cons_succ, List.set_cons_zero]
    cases bb
    · go_wp2
      go_ret
      exact ⟨by rw [HER.out]; rfl, B2.out⟩
    · go_wp2
      go_ret
      exact ⟨by rw [HER.out]; rfl, B2.out⟩
end Go.Proofs.YtgfnijhhhgjabaaGreatDoor
end
