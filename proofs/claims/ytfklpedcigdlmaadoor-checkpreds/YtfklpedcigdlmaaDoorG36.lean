import Derived.Test.YtfklpedcigdlmaaDoorG35
import Derived.Test.YtfklpedcigdlmaaDoorG25
import Derived.Test.YtfklpedcigdlmaaDoorG28
section
namespace Go.Proofs.YtfklpedcigdlmaaDoor
open Go.RowKit Go.Maps
set_option linter.unusedVariables false
set_option linter.unusedSimpArgs false
attribute [local go_sem ↓] Go.wp_at_zero Go.wp_at_succ

/-- a fact's predicate -/
def pdF (y : XF) : Pd := ⟨y.pr, y.vs.length⟩
/-- the predicates of rules and facts, as they stand there -/
def psS (rs : List XR) (fs : List XF) : List Pd := rs.flatMap (fun y => stR y.r) ++ fs.map pdF
theorem ps_rule {rs : List XR} {fs : List XF} {k : Nat} (h : k < rs.length) : psS (rs.drop k) fs = stR (atR rs k).r ++ psS (rs.drop (k + 1)) fs := by
  unfold psS
  rw [List.drop_eq_getElem_cons h, List.flatMap_cons, ← atR_eq h, List.append_assoc]
theorem ps_fact {fs : List XF} {k : Nat} (h : k < fs.length) : psS [] (fs.drop k) = pdF (atF fs k) :: psS [] (fs.drop (k + 1)) := by
  unfold psS
  rw [List.drop_eq_getElem_cons h, List.map_cons, ← atF_eq h]
  rfl
theorem st_names {w : World} {d : Nat} {r : R3} {p : RP} (h : RIs w d r p) : ∀ x ∈ stR r, x.n.size ≤ maxLen := by
  intro x hx
  unfold stR at hx
  rcases List.mem_cons.1 hx with rfl | hx
  · exact h.pb
  · obtain ⟨y, hy, hx⟩ := List.mem_flatMap.1 hx
    unfold stX at hx
    split at hx
    · rw [List.mem_singleton.1 hx]
      exact (h.bd.each y hy).pb
    · cases hx
theorem rule_storeP (u : World) (y : XR) : (storeVar 45 ⟨u.heap.size, 0, none⟩ (.agg y.cells.toArray)).run Tryd.prog (u.alloc (.cells #[.string ⟨#[]⟩, .slice none 0 0, .slice none 0 0] 45)) = .ok () (u.alloc (.cells y.cells.toArray 45)) :=
  run_storeVar_new u 45 #[.string ⟨#[]⟩, .slice none 0 0, .slice none 0 0] y.cells.toArray (by kernel_rfl) rfl (oneCells_rule y)
theorem fact_storeP (u : World) (y : XF) : (storeVar 48 ⟨u.heap.size, 0, none⟩ (.agg y.cells.toArray)).run Tryd.prog (u.alloc (.cells #[.string ⟨#[]⟩, .slice none 0 0] 48)) = .ok () (u.alloc (.cells y.cells.toArray 48)) :=
  run_storeVar_new u 48 #[.string ⟨#[]⟩, .slice none 0 0] y.cells.toArray (by kernel_rfl) rfl (oneCells_fact y)
theorem load_boxR {u : World} {b : Nat} {y : XR} (h : RL u b 45 y.cells) : (loadVar 45 ⟨b, 0, none⟩).run Tryd.prog u = .ok (.agg y.cells.toArray) u :=
  run_loadVar_mid _ _ 0 45 y.cells _ (RL.range h) Tryd.underlying45 rfl (by kernel_rfl)
theorem load_boxF {u : World} {b : Nat} {y : XF} (h : RL u b 48 y.cells) : (loadVar 48 ⟨b, 0, none⟩).run Tryd.prog u = .ok (.agg y.cells.toArray) u :=
  run_loadVar_mid _ _ 0 48 y.cells _ (RL.range h) Tryd.underlying48 rfl (by kernel_rfl)
theorem own_ne {w : World} {B k n b : Nat} {ty : TypeId} {v : Value} {xs : List Value} (h : w.ownsRow B ty k v n xs) (hb : b < B) : ∀ g off m c, v = .slice (some ⟨g, off, none⟩) m c → g ≠ b := fun g off m c e => by
  have := (h.lt g (by rw [e]; rfl)).1
  omega
attribute [-go_sem] loadVar storeVar Builtin.append_
/-- what Preds comes to -/
def PsP (B : Nat) (w : World) (o : Option (List Pd)) (e : Ending) (w' : World) : Prop :=
  Below B w w' ∧ ((∃ s a c r, o = some s ∧ e = .returned (.tuple #[.slice a r.length c, .int .i64 0]) ∧ r.Perm s ∧ Up r ∧ w'.ownsRow B 50 2 (.slice a r.length c) r.length (r.flatMap Pd.cells)) ∨ (o = none ∧ e = .returned (.tuple #[.slice none 0 0, .int .i64 72])))
theorem run_makeCols (u : World) : (Instr.makeMap 55 none).run Tryd.prog u = .ok (.map (some u.heap.size)) (u.alloc (.map #[] 0)) := by kernel_rfl
/-- amid Preds: what has been let in -/
structure Pst (w : World) (rs : List XR) (fs : List XF) (rest : List Pd) (s : List Pd) (u : World) : Prop where
  mp : MapP u (w.heap.size + 1) s
  nd : (s.map Pd.n).Nodup
  eq : letL [] (psS rs fs) = letL s rest
  ln : s.length + rest.length ≤ (psS rs fs).length
  bl : Below w.heap.size w u
  zz : w.heap.size + 2 ≤ u.heap.size
theorem Pst.below {w : World} {rs : List XR} {fs : List XF} {rest s : List Pd} {u u' : World} (h : Pst w rs fs rest s u) (b : Below u.heap.size u u') : Pst w rs fs rest s u' :=
  ⟨h.mp.of_block (b.block _ h.mp.lt), h.nd, h.eq, h.ln, h.bl.trans (b.mono h.bl.size), Nat.le_trans h.zz b.size⟩
theorem Pst.tz {w : World} {rs : List XR} {fs : List XF} {rest s : List Pd} {u u' : World} (h : Pst w rs fs rest s u) (t : Tz (fun k => k = w.heap.size + 1) u u') : Below w.heap.size w u' ∧ w.heap.size + 2 ≤ u'.heap.size :=
  ⟨Tz.below h.bl t h.bl.size (fun b e => by omega), Nat.le_trans h.zz t.size⟩
theorem load_rules {u : World} {a : Addr} {b : Option Addr} {n c : Nat} (h : u.cell? a = some (.slice b n c)) : (loadVar 22 a).run Tryd.prog u = .ok (.slice b n c) u := by rw [loadVar.eq_1]; go_simp
set_option maxHeartbeats 6400000 in
set_option maxRecDepth 100000 in
theorem predsP_any (d : Nat) (rs : List XR) (fs : List XF) (ra : Option Addr) (rc : Nat) (vf : Value) (w : World) (hR : Lr w (.slice ra rs.length rc) d rs) (hF : Lf w vf fs) (hbd : ∀ i, i < rs.length → (atR rs i).r.bd.length ≤ 1048576) (hlen : (psS rs fs).length ≤ 100000000) :
    Calls Tryd.prog 8 #[.agg #[.slice ra rs.length rc], vf] w fun e w' => PsP w.heap.size w (letL [] (psS rs fs)) e w' := by
  have HRE : Hid (∀ i, i < rs.length → ∀ u, Below w.heap.size w u → RIs u d (atR rs i).r (atR rs i).p) := fun i hi u hu => (hR.each i hi).below hu
  have HFE : Hid (∀ i, i < fs.length → (atF fs i).pr.size ≤ maxLen) := fun i hi => (hF.each i hi).pb
  obtain ⟨ra', rc', hv, hr1, hr2, hrat⟩ := hR.form
  injection hv with hv1 _ hv2
  subst hv1 hv2
  obtain ⟨fa, fc, rfl, hf1, hf2, hfat⟩ := hF.form
  have hmr : rs.length ≤ maxLen := Nat.le_trans hr1 hr2
  have hmf : fs.length ≤ maxLen := Nat.le_trans hf1 hf2
  unfold maxLen at hmr hmf
  have HRA := Lib.hid hrat
  have HFA := Lib.hid hfat
  have HBD := Lib.hid hbd
  have hmk := run_makeCols (w.alloc (.cells #[.slice ra rs.length rc] 24))
  have hz1 : (w.alloc (.cells #[.slice ra rs.length rc] 24)).heap.size = w.heap.size + 1 := by simp
  rw [hz1] at hmk
  have b1 := belowA (w := w) (.cells #[.slice ra rs.length rc] 24)
  have b2 := belowA (w := w.alloc (.cells #[.slice ra rs.length rc] 24)) (.map #[] 0)
  have HP0 : Hid (Pst w rs fs (psS rs fs) [] ((w.alloc (.cells #[.slice ra rs.length rc] 24)).alloc (.map #[] 0))) := by
    have hm := MapP.made (w.alloc (.cells #[.slice ra rs.length rc] 24))
    rw [hz1] at hm
    exact ⟨hm, by simp, rfl, by simp, b1.trans (b2.mono b1.size), by simp⟩
  have hl1 : (loadVar 22 ⟨w.heap.size, 0, none⟩).run Tryd.prog ((w.alloc (.cells #[.slice ra rs.length rc] 24)).alloc (.map #[] 0)) = .ok (.slice ra rs.length rc) _ := load_rules (RL.at (RL.below (rl_new w #[.slice ra rs.length rc] 24) b2) (j := 0) rfl)
  clear hrat hfat hbd hR hF b1 b2 hz1
  go_enter Tryd.func8, Tryd.ntmps8
  go_wp2
  clear hmk hl1
  generalize (w.alloc (.cells #[.slice ra rs.length rc] 24)).alloc (.map #[] 0) = W0 at HP0 ⊢
  go_loopw [15] (fun i wr => ∃ (k : Nat) (s : List Pd), k ≤ rs.length ∧ i = .int .i64 k ∧ Hid (Pst w rs fs (psS (rs.drop k) fs) s wr)) (fun i _ => rs.length - (intOf i).toNat)
  case atStart => exact ⟨0, [], Nat.zero_le _, rfl, HP0⟩
  case round =>
    clear HP0
    obtain ⟨k, s, hk, rfl, HP⟩ := hrel
    obtain ⟨U, rfl⟩ : ∃ U, U = wr := ⟨_, rfl⟩
    by_cases hlt : k < rs.length
    · have hlt' : (k : Int) < (rs.length : Int) := by omega
      have hk0 : (0 : Int) ≤ (k : Int) := by omega
      obtain ⟨g, off, rfl, hg, hT⟩ := HRA.out (by omega)
      have r1 := range_below (hT k hlt) HP.out.bl hg
      have HPS := Lib.hid (ps_rule (fs := fs) hlt)
      have HRI := Lib.hid (HRE.out k hlt)
      have hb : (atR rs k).r.bd.length ≤ 1048576 := HBD.out k hlt
      obtain ⟨y, hy⟩ : ∃ y, atR rs k = y := ⟨_, rfl⟩
      rw [hy] at r1 HPS HRI hb
      have hld := load_Rul r1 rfl
      have hst := rule_storeP U y
      have BA := belowA (w := U) (.cells y.cells.toArray 45)
      have hl8 := load_boxR (rl_new U y.cells.toArray 45)
      have HP2 := Lib.hid (HP.out.below BA)
      clear hT r1 hy BA HP
      generalize U.alloc (.cells y.cells.toArray 45) = W1 at hst hl8 HP2
      have HC := Lib.hid (rulePreds_any d y.r y.p W1 (HRI.out W1 HP2.out.bl) hb)
      rw [← XR.val_eq] at HC
      have HNM := Lib.hid (st_names (HRI.out W1 HP2.out.bl))
      generalize Value.agg y.cells.toArray = QV at hld hst hl8 HC
      clear HRI
      go_wp2_with fail
      refine HC.out.mono ?_
      rintro e w2 ⟨a2, c2, rfl, own2, bb2⟩
      have HP3 := Lib.hid (HP2.out.below bb2)
      have HTA := Lib.hid (takeAll_any HP3.out.mp HP3.out.nd _ (stR y.r) (ls_own own2) HNM.out (own_ne own2 (by have := HP2.out.zz; omega)))
      clear own2 bb2 HC HP2 hld hst hl8 hb
      go_wp2_with fail
      refine HTA.out.mono ?_
      rintro e w3 ⟨ht, ⟨s', he, rfl, hm, hnd, hle⟩ | ⟨he, rfl⟩⟩
      · have HP4 : Hid (Pst w rs fs (psS (rs.drop (k + 1)) fs) s' w3) := by
          obtain ⟨q1, q2⟩ := HP3.out.tz ht
          refine ⟨hm, hnd, ?_, ?_, q1, q2⟩
          · rw [HP3.out.eq, HPS.out, letL_append, he]
            rfl
          · have := HP3.out.ln
            rw [HPS.out, List.length_append] at this
            omega
        clear ht he hm hnd hle HTA HP3 HPS
        go_wp2
        go_roundw
        case rel => exact ⟨k + 1, s', by omega, by go_num, HP4⟩
        case measure => simp [intOf]; omega
      · have HBF : Hid (Below w.heap.size w w3 ∧ letL [] (psS rs fs) = none) := ⟨(HP3.out.tz ht).1, by rw [HP3.out.eq, HPS.out, letL_append, he]; rfl⟩
        clear ht he HTA HP3 HPS
        go_wp2
        go_ret2
        exact ⟨HBF.out.1, .inr ⟨HBF.out.2, rfl⟩⟩
    · obtain rfl : k = rs.length := by omega
      rw [List.drop_length] at HP
      clear hlt hk HRE HRA HBD
      go_wp2
      go_loopw [27] (fun i wr => ∃ (k : Nat) (s : List Pd), k ≤ fs.length ∧ i = .int .i64 k ∧ Hid (Pst w rs fs (psS [] (fs.drop k)) s wr)) (fun i _ => fs.length - (intOf i).toNat)
      case atStart => exact ⟨0, s, Nat.zero_le _, rfl, HP⟩
      case round =>
        clear HP
        obtain ⟨k, s, hk, rfl, HP⟩ := hrel
        obtain ⟨V, rfl⟩ : ∃ V, V = wr := ⟨_, rfl⟩
        by_cases hlt : k < fs.length
        · have hlt' : (k : Int) < (fs.length : Int) := by omega
          have hk0 : (0 : Int) ≤ (k : Int) := by omega
          obtain ⟨g, off, rfl, hg, hT⟩ := HFA.out (by omega)
          have r1 := range_below (hT k hlt) HP.out.bl hg
          have HPS := Lib.hid (ps_fact hlt)
          have hnm : (atF fs k).pr.size ≤ maxLen := HFE.out k hlt
          obtain ⟨y, hy⟩ : ∃ y, atF fs k = y := ⟨_, rfl⟩
          rw [hy] at r1 HPS hnm
          have hld := load_Fac r1 rfl
          have hst := fact_storeP V y
          have BA := belowA (w := V) (.cells y.cells.toArray 48)
          have hl8 := load_boxF (rl_new V y.cells.toArray 48)
          have HP2 := Lib.hid (HP.out.below BA)
          clear hT r1 hy BA HP
          generalize V.alloc (.cells y.cells.toArray 48) = W1 at hst hl8 HP2
          have HC := Lib.hid (factPred_any y.pr y.a y.vs.length y.c W1)
          have hve : Value.agg #[.string y.pr, .slice y.a y.vs.length y.c] = Value.agg y.cells.toArray := rfl
          rw [hve] at HC
          clear hve
          generalize Value.agg y.cells.toArray = QV at hld hst hl8 HC
          go_wp2_with fail
          refine HC.out.mono ?_
          rintro e w2 ⟨rfl, bb2⟩
          have HP3 := Lib.hid (HP2.out.below bb2)
          have HTA := Lib.hid (take_any HP3.out.mp HP3.out.nd (pdF y) hnm)
          have hpd : Value.agg (pdF y).cells.toArray = .agg #[.string y.pr, .int .i64 (y.vs.length : Int)] := rfl
          rw [hpd] at HTA
          have HLC := Lib.hid (letL_cons s (pdF y) (psS [] (fs.drop (k + 1))))
          have HNN := Lib.hid (takeP_nodup HP3.out.nd (pdF y))
          have HTL := Lib.hid (takeP_len s (pdF y))
          generalize takeP s (pdF y) = tp at HTA HLC HNN HTL
          obtain ⟨t2, bt⟩ := tp
          clear bb2 HC HP2 hld hst hl8 hpd
          cases bt
          · go_wp2_with fail
            refine HTA.out.mono ?_
            rintro e w3 ⟨rfl, hm, ht⟩
            have HBF : Hid (Below w.heap.size w w3 ∧ letL [] (psS rs fs) = none) := ⟨(HP3.out.tz ht).1, by rw [HP3.out.eq, HPS.out, HLC.out]; rfl⟩
            clear hm ht HTA HP3 HPS HLC
            go_wp2
            go_ret2
            exact ⟨HBF.out.1, .inr ⟨HBF.out.2, rfl⟩⟩
          · go_wp2_with fail
            refine HTA.out.mono ?_
            rintro e w3 ⟨rfl, hm, ht⟩
            have HP4 : Hid (Pst w rs fs (psS [] (fs.drop (k + 1))) t2 w3) := by
              obtain ⟨q1, q2⟩ := HP3.out.tz ht
              refine ⟨hm, HNN.out, ?_, ?_, q1, q2⟩
              · rw [HP3.out.eq, HPS.out, HLC.out]
                rfl
              · have h1 := HP3.out.ln
                have h2 : t2.length ≤ s.length + 1 := HTL.out
                rw [HPS.out, List.length_cons] at h1
                omega
            clear hm ht HTA HP3 HPS HLC
            go_wp2
            go_roundw
            case rel => exact ⟨k + 1, t2, by omega, by go_num, HP4⟩
            case measure => simp [intOf]; omega
        · obtain rfl : k = fs.length := by omega
          rw [List.drop_length] at HP
          have hsl : s.length ≤ 1000000000 := by have := HP.out.ln; omega
          have HC := Lib.hid (preds_any HP.out.mp HP.out.nd hsl)
          have HEQ : Hid (letL [] (psS rs fs) = some s) := by show _ = _; rw [HP.out.eq]; rfl
          have HBL := Lib.hid HP.out.bl
          clear HP hsl
          go_wp2_with fail
          refine HC.out.mono ?_
          rintro e w4 ⟨a4, c4, r4, rfl, hp4, hu4, ho4, hb4⟩
          have HFI : Hid (PsP w.heap.size w (letL [] (psS rs fs)) (.returned (.tuple #[.slice a4 r4.length c4, .int .i64 0])) w4) := ⟨HBL.out.trans (hb4.mono HBL.out.size), .inl ⟨s, a4, c4, r4, HEQ.out, rfl, hp4, hu4, own_lower ho4 HBL.out.size⟩⟩
          clear hp4 hu4 ho4 hb4 HC
          go_wp2
          go_ret2
          exact HFI.out
end Go.Proofs.YtfklpedcigdlmaaDoor
end
section
namespace Go.Proofs.YtfklpedcigdlmaaDoor
open Go.RowKit Go.Maps
set_option linter.unusedVariables false
set_option linter.unusedSimpArgs false
attribute [local go_sem ↓] Go.wp_at_zero Go.wp_at_succ
attribute [-go_sem] loadVar storeVar Builtin.append_

/-- what the reference's Preds comes to -/
def RpP (B : Nat) (w : World) (o : Option (List Pd)) (e : Ending) (w' : World) : Prop :=
  Below B w w' ∧ ((∃ r sv, o = some r ∧ e = .returned (.tuple #[sv, .int .i64 0]) ∧ Ls w' sv r.length (r.flatMap Pd.cells)) ∨ (o = none ∧ e = .returned (.tuple #[.slice none 0 0, .int .i64 72])))
/-- amid it: ok, and what is known -/
structure Rst (w : World) (rs : List XR) (fs : List XF) (rest : List Pd) (ok : Bool) (kn : List Pd) (sv : Value) (u : World) : Prop where
  eq : (ok = true ∧ meetL [] (psS rs fs) = meetL kn rest ∧ kn.length + rest.length ≤ (psS rs fs).length) ∨ (ok = false ∧ meetL [] (psS rs fs) = none)
  ls : Ls u sv kn.length (kn.flatMap Pd.cells)
  bl : Below w.heap.size w u
theorem load_vals {u : World} {a : Addr} {b : Option Addr} {n c : Nat} (h : u.cell? a = some (.slice b n c)) : (loadVar 46 a).run Tryd.prog u = .ok (.slice b n c) u := by rw [loadVar.eq_1]; go_simp
/-- what Meet of one fact's predicate comes to -/
def MoP (w W0 : World) (kn : List Pd) (p : Pd) (nv : Value) (ok : Bool) (u : World) : Prop :=
  Below w.heap.size w u ∧ Below W0.heap.size W0 u ∧ ((ok = true ∧ ∃ r, meetL kn [p] = some r ∧ Ls u nv r.length (r.flatMap Pd.cells)) ∨ (ok = false ∧ meetL kn [p] = none ∧ nv = .slice none 0 0))
theorem ls_nilP (u : World) : Ls u (.slice none 0 0) ([] : List Pd).length (([] : List Pd).flatMap Pd.cells) := ⟨by show 0 ≤ _; omega, none, 0, rfl, Nat.le_refl _, by decide, fun h => absurd (show (0 : Nat) < 0 from h) (by omega)⟩
theorem meetL_len : ∀ (l k r : List Pd), meetL k l = some r → r.length ≤ k.length + l.length
  | [], k, r, h => by
    rw [meetL] at h
    cases h
    simp
  | p :: l, k, r, h => by
    rw [meetL] at h
    cases hq : seekP k p.n with
    | none =>
      rw [hq] at h
      have := meetL_len l _ r h
      have h2 := (insP_perm k p).length_eq
      rw [List.length_append, List.length_singleton] at h2
      rw [List.length_cons]
      omega
    | some q =>
      rw [hq] at h
      simp only at h
      split at h
      · have := meetL_len l _ r h
        rw [List.length_cons]
        omega
      · cases h
set_option maxHeartbeats 6400000 in
set_option maxRecDepth 100000 in
theorem rpreds_any (d : Nat) (rs : List XR) (fs : List XF) (ra : Option Addr) (rc : Nat) (vf : Value) (w : World) (hR : Lr w (.slice ra rs.length rc) d rs) (hF : Lf w vf fs) (hbd : ∀ i, i < rs.length → (atR rs i).r.bd.length ≤ 1048576) (hlen : (psS rs fs).length ≤ 100000000) :
    Calls Tryd.prog 5 #[.agg #[.slice ra rs.length rc], vf] w fun e w' => RpP w.heap.size w (meetL [] (psS rs fs)) e w' := by
  have HRE : Hid (∀ i, i < rs.length → ∀ u, Below w.heap.size w u → RIs u d (atR rs i).r (atR rs i).p) := fun i hi u hu => (hR.each i hi).below hu
  obtain ⟨ra', rc', hv, hr1, hr2, hrat⟩ := hR.form
  injection hv with hv1 _ hv2
  subst hv1 hv2
  obtain ⟨fa, fc, rfl, hf1, hf2, hfat⟩ := hF.form
  have hmr : rs.length ≤ maxLen := Nat.le_trans hr1 hr2
  have hmf : fs.length ≤ maxLen := Nat.le_trans hf1 hf2
  unfold maxLen at hmr hmf
  have HRA := Lib.hid hrat
  have HFA := Lib.hid hfat
  have HBD := Lib.hid hbd
  have b1 := belowA (w := w) (.cells #[.slice ra rs.length rc] 24)
  have HRB := Lib.hid (rl_new w #[.slice ra rs.length rc] 24)
  have HP0 : Hid (Rst w rs fs (psS rs fs) true [] (.slice none 0 0) (w.alloc (.cells #[.slice ra rs.length rc] 24))) := ⟨.inl ⟨rfl, rfl, by simp⟩, ls_nilP _, b1⟩
  have HBX : Hid (Below (w.alloc (.cells #[.slice ra rs.length rc] 24)).heap.size (w.alloc (.cells #[.slice ra rs.length rc] 24)) (w.alloc (.cells #[.slice ra rs.length rc] 24))) := Below.refl _ _
  have HZ1 : Hid (w.heap.size ≤ (w.alloc (.cells #[.slice ra rs.length rc] 24)).heap.size) := b1.size
  clear hrat hfat hbd hR hF b1
  go_enter Tryd.func5, Tryd.ntmps5
  go_wp2
  generalize w.alloc (.cells #[.slice ra rs.length rc] 24) = W0 at HP0 HBX HRB HZ1 ⊢
  go_loopw [6, 7, 8] (fun v o i wr => ∃ (k : Nat) (ok : Bool) (a' : Option Addr) (c' : Nat) (kn : List Pd), k ≤ rs.length ∧ i = .int .i64 k ∧ o = .bool ok ∧ v = .slice a' kn.length c' ∧ Hid (Rst w rs fs (psS (rs.drop k) fs) ok kn (.slice a' kn.length c') wr) ∧ Hid (Below W0.heap.size W0 wr)) (fun _ _ i _ => rs.length - (intOf i).toNat)
  case atStart => exact ⟨0, true, none, 0, [], Nat.zero_le _, rfl, rfl, rfl, HP0, HBX⟩
  case round =>
    clear HP0 HBX
    obtain ⟨k, ok, a', c', kn, hk, rfl, rfl, rfl, HP, HBW⟩ := hrel
    obtain ⟨U, rfl⟩ : ∃ U, U = wr := ⟨_, rfl⟩
    have hl1 : (loadVar 22 ⟨w.heap.size, 0, none⟩).run Tryd.prog U = .ok (.slice ra rs.length rc) U := load_rules (RL.at (RL.below HRB.out HBW.out) (j := 0) rfl)
    by_cases hgo : k < rs.length ∧ ok = true
    · obtain ⟨hlt, rfl⟩ := hgo
      have hlt' : (k : Int) < (rs.length : Int) := by omega
      have hk0 : (0 : Int) ≤ (k : Int) := by omega
      obtain ⟨g, off, rfl, hg, hT⟩ := HRA.out (by omega)
      have r1 := range_below (hT k hlt) HP.out.bl hg
      have HPS := Lib.hid (ps_rule (fs := fs) hlt)
      have HRI := Lib.hid (HRE.out k hlt)
      have hb : (atR rs k).r.bd.length ≤ 1048576 := HBD.out k hlt
      obtain ⟨y, hy⟩ : ∃ y, atR rs k = y := ⟨_, rfl⟩
      rw [hy] at r1 HPS HRI hb
      have hld := load_Rul r1 rfl
      have HC := Lib.hid (stand_any d y.r y.p U (HRI.out U HP.out.bl) hb)
      rw [← XR.val_eq] at HC
      have hEQ := HP.out.eq.resolve_right (fun h => by cases h.1)
      have HEQ := Lib.hid hEQ.2
      have HSL : Hid ((stR y.r).length ≤ 1048577) := by have := stR_len y.r; show _ ≤ _; omega
      generalize Value.agg y.cells.toArray = QV at hld HC
      clear hT r1 hy HRI hEQ hb
      go_wp2_with fail
      refine HC.out.mono ?_
      rintro e w2 ⟨a2, c2, rfl, own2, bb2⟩
      have HB2 : Hid (Below w.heap.size w w2) := HP.out.bl.trans (bb2.mono HP.out.bl.size)
      have HW2 : Hid (Below W0.heap.size W0 w2) := HBW.out.trans (bb2.mono HBW.out.size)
      have HM := Lib.hid (meet_any (.slice a' kn.length c') _ kn (stR y.r) w2 (HP.out.ls.below bb2) (ls_own own2) (by have := HEQ.out.2; have := HSL.out; omega))
      clear own2 bb2 HC hld hl1 HP HBW
      go_wp2_with fail
      refine HM.out.mono ?_
      rintro e w3 ⟨bb3, ⟨r, sv, hm, rfl, hls⟩ | ⟨hm, rfl⟩⟩
      · obtain ⟨a3, c3, rfl, _, _, _⟩ := pd_form hls
        have HP4 : Hid (Rst w rs fs (psS (rs.drop (k + 1)) fs) true r (.slice a3 r.length c3) w3) := by
          refine ⟨.inl ⟨rfl, ?_, ?_⟩, hls, HB2.out.trans (bb3.mono HB2.out.size)⟩
          · rw [HEQ.out.1, HPS.out, meetL_append, hm]
            rfl
          · have h1 := meetL_len _ _ _ hm
            have h2 := HEQ.out.2
            rw [HPS.out, List.length_append] at h2
            omega
        have HW3 : Hid (Below W0.heap.size W0 w3) := HW2.out.trans (bb3.mono HW2.out.size)
        clear bb3 hm hls HM HEQ HPS HB2 HW2
        go_wp2
        go_roundw
        case rel => exact ⟨k + 1, true, a3, c3, r, by omega, by go_num, rfl, rfl, HP4, HW3⟩
        case measure => simp [intOf]; omega
      · have HP4 : Hid (Rst w rs fs (psS (rs.drop (k + 1)) fs) false [] (.slice none 0 0) w3) := ⟨.inr ⟨rfl, by rw [HEQ.out.1, HPS.out, meetL_append, hm]; rfl⟩, ls_nilP _, HB2.out.trans (bb3.mono HB2.out.size)⟩
        have HW3 : Hid (Below W0.heap.size W0 w3) := HW2.out.trans (bb3.mono HW2.out.size)
        clear bb3 hm HM HEQ HPS HB2 HW2
        go_wp2
        go_roundw
        case rel => exact ⟨k + 1, false, none, 0, [], by omega, by go_num, rfl, rfl, HP4, HW3⟩
        case measure => simp [intOf]; omega
    · have HP1 : Hid (Rst w rs fs (psS [] fs) ok kn (.slice a' kn.length c') U) := by
        refine ⟨?_, HP.out.ls, HP.out.bl⟩
        rcases HP.out.eq with h | h
        · have : k = rs.length := by
            by_cases h2 : k < rs.length
            · exact absurd ⟨h2, h.1⟩ hgo
            · omega
          have h3 := h
          rw [this, List.drop_length] at h3
          exact .inl h3
        · exact .inr h
      have hx : (ok = false ∧ k < rs.length) ∨ ¬ k < rs.length := by
        by_cases h2 : k < rs.length
        · refine .inl ⟨?_, h2⟩
          cases ok
          · rfl
          · exact absurd ⟨h2, rfl⟩ hgo
        · exact .inr h2
      clear HP hgo HRE HBD HRA
      rcases hx with ⟨rfl, hlt⟩ | hlt
      case' inl =>
        have hlt' : (k : Int) < (rs.length : Int) := by omega
        go_wp2
      case' inr =>
        go_wp2
      all_goals
        clear hl1 hlt
        go_loopw [6, 7, 9] (fun v o i wr => ∃ (k : Nat) (ok : Bool) (a' : Option Addr) (c' : Nat) (kn : List Pd), k ≤ fs.length ∧ i = .int .i64 k ∧ o = .bool ok ∧ v = .slice a' kn.length c' ∧ Hid (Rst w rs fs (psS [] (fs.drop k)) ok kn (.slice a' kn.length c') wr) ∧ Hid (Below W0.heap.size W0 wr)) (fun _ _ i _ => fs.length - (intOf i).toNat)
        case atStart => exact ⟨0, _, a', c', kn, Nat.zero_le _, rfl, rfl, rfl, HP1, HBW⟩
        case round =>
          clear HP1 HBW
          obtain ⟨k, ok, a', c', kn, hk, rfl, rfl, rfl, HP, HBW⟩ := hrel
          obtain ⟨V, rfl⟩ : ∃ V, V = wr := ⟨_, rfl⟩
          by_cases hgo : k < fs.length ∧ ok = true
          · obtain ⟨hlt, rfl⟩ := hgo
            have hlt' : (k : Int) < (fs.length : Int) := by omega
            have hk0 : (0 : Int) ≤ (k : Int) := by omega
            obtain ⟨g, off, rfl, hg, hT⟩ := HFA.out (by omega)
            have hD : Below V.heap.size V V.drew := (Below.refl _ _).drew
            have HRG : Hid (∀ u, Below V.heap.size V u → u.rangeAt g (off + k * 2) (atF fs k).cells) := fun u hu => range_below (hT k hlt) (HP.out.bl.trans (hu.mono HP.out.bl.size)) hg
            have HPS := Lib.hid (ps_fact hlt)
            obtain ⟨y, hy⟩ : ∃ y, atF fs k = y := ⟨_, rfl⟩
            rw [hy] at HRG HPS
            have hEQ := HP.out.eq.resolve_right (fun h => by cases h.1)
            have HEQ := Lib.hid hEQ.2
            have hA := belowA (w := V.drew) (.cells #[.string y.pr, .int .i64 (y.vs.length : Int)] 50)
            have hBA : Below V.heap.size V (V.drew.alloc (.cells #[.string y.pr, .int .i64 (y.vs.length : Int)] 50)) := hD.trans (hA.mono hD.size)
            have HDD := Lib.hid hD
            have HSB := Lib.hid hBA
            have HLP : Hid (∀ u, Below V.heap.size V u → (loadVar 9 ⟨g, off + k * 2, none⟩).run Tryd.prog u = .ok (.string y.pr) u) := fun u hu => load_s (HRG.out u hu 0 _ rfl)
            have HLV : Hid (∀ u, Below V.heap.size V u → (loadVar 46 ⟨g, off + k * 2 + 1, none⟩).run Tryd.prog u = .ok (.slice y.a y.vs.length y.c) u) := fun u hu => load_vals (HRG.out u hu 1 _ rfl)
            have HC1 : Hid (Calls Tryd.prog 14 #[.slice a' kn.length c', .slice (some ⟨V.heap.size, 0, none⟩) 1 1] (V.drew.alloc (.cells #[.string y.pr, .int .i64 (y.vs.length : Int)] 50)) fun e u1 => ∃ nv ok, e = .returned (.tuple #[nv, .bool ok]) ∧ Below V.heap.size V u1 ∧ MoP w W0 kn (pdF y) nv ok u1) := by
              have ho : (V.drew.alloc (.cells #[.string y.pr, .int .i64 (y.vs.length : Int)] 50)).ownsRow V.heap.size 50 2 (.slice (some ⟨V.heap.size, 0, none⟩) 1 1) 1 [.string y.pr, .int .i64 (y.vs.length : Int)] := World.ownsRow_lit V.drew #[.string y.pr, .int .i64 (y.vs.length : Int)] 1 (Nat.le_refl _) (by decide) rfl
              have hl : Ls (V.drew.alloc (.cells #[.string y.pr, .int .i64 (y.vs.length : Int)] 50)) (.slice (some ⟨V.heap.size, 0, none⟩) 1 1) ([pdF y] : List Pd).length (([pdF y] : List Pd).flatMap Pd.cells) := ls_own ho
              refine (meet_any _ _ kn [pdF y] _ ((HP.out.ls.below hD).below hA) hl (by have := HEQ.out.2; simp only [List.length_cons, List.length_nil]; omega)).mono ?_
              rintro e u1 ⟨bb, hres⟩
              have k1 : Below V.heap.size V u1 := hBA.trans (bb.mono hBA.size)
              have k2 : Below w.heap.size w u1 := HP.out.bl.trans (k1.mono HP.out.bl.size)
              have k3 : Below W0.heap.size W0 u1 := HBW.out.trans (k1.mono HBW.out.size)
              rcases hres with ⟨r, sv, hm, rfl, hls⟩ | ⟨hm, rfl⟩
              · exact ⟨sv, true, rfl, k1, k2, k3, .inl ⟨rfl, r, hm, hls⟩⟩
              · exact ⟨.slice none 0 0, false, rfl, k1, k2, k3, .inr ⟨rfl, hm, rfl⟩⟩
            clear hD hA hBA hT hy HRG hEQ hg
            go_upto_region 10 with fail
            refine wp_region_noPanic ?_
            refine wp_region_held (S := fun u => Below V.heap.size V u) (by kernel_rfl) ?_
            refine rfpreds (w5 := V) (S := fun u => Below V.heap.size V u) (g := g) (off := off) (nn := fs.length) (cc := fc) (k := k) (tn := y.vs.length) (tc := y.c) (ta := y.a) (pr := y.pr) (kv := .slice a' kn.length c') (P := fun nv ok u => MoP w W0 kn (pdF y) nv ok u) rfl rfl rfl rfl rfl rfl rfl rfl rfl rfl rfl rfl rfl rfl rfl rfl rfl rfl rfl rfl (by kernel_rfl) (by kernel_rfl) (by kernel_rfl) (by kernel_rfl) (by kernel_rfl) (fun _ _ _ _ _ h => h) (by simp) rfl rfl rfl HDD.out (fun _ _ _ h => h) hlt HLP.out HLV.out HSB.out HC1.out ?_
            intro wc nv ok2 hMo
            have HMO := Lib.hid hMo
            clear hMo HC1 HLP HLV HSB HDD HBW HP
            refine NoPanic.normal ?_
            rename_i hJ hQ hK
            first | refine hJ _ _ ?_ | refine hK _ _ ?_
            simp (config := { maxSteps := 8000000 }) only [Act.put, List.getElem_toArray, List.getElem_cons_zero, List.getElem_cons_succ, List.setIfInBounds_toArray, List.set_cons_succ, List.set_cons_zero]
            obtain ⟨k2, k3, hres⟩ := HMO.out
            obtain ⟨r, a3, c3, rfl, hP4⟩ : ∃ (r : List Pd) (a3 : Option Addr) (c3 : Nat), nv = .slice a3 r.length c3 ∧ Rst w rs fs (psS [] (fs.drop (k + 1))) ok2 r (.slice a3 r.length c3) wc := by
              rcases hres with ⟨rfl, r, hm, hls⟩ | ⟨rfl, hm, rfl⟩
              · obtain ⟨a3, c3, rfl, _, _, _⟩ := pd_form hls
                refine ⟨r, a3, c3, rfl, .inl ⟨rfl, ?_, ?_⟩, hls, k2⟩
                · rw [HEQ.out.1, HPS.out, show pdF y :: psS [] (fs.drop (k + 1)) = [pdF y] ++ psS [] (fs.drop (k + 1)) from rfl, meetL_append, hm]
                  rfl
                · have h1 := meetL_len _ _ _ hm
                  have h2 := HEQ.out.2
                  rw [HPS.out, List.length_cons] at h2
                  simp only [List.length_cons, List.length_nil] at h1
                  omega
              · refine ⟨[], none, 0, rfl, .inr ⟨rfl, ?_⟩, ls_nilP _, k2⟩
                rw [HEQ.out.1, HPS.out, show pdF y :: psS [] (fs.drop (k + 1)) = [pdF y] ++ psS [] (fs.drop (k + 1)) from rfl, meetL_append, hm]
                rfl
            have HP4 := Lib.hid hP4
            have HW4 := Lib.hid k3
            clear hres hP4 k2 k3 HMO HEQ HPS
            go_wp2
            go_roundw
            case rel => exact ⟨k + 1, ok2, a3, c3, r, by omega, by go_num, rfl, rfl, HP4, HW4⟩
            case measure => simp [intOf]; omega
          · have hx : (ok = false ∧ k < fs.length) ∨ ¬ k < fs.length := by
              by_cases h2 : k < fs.length
              · refine .inl ⟨?_, h2⟩
                cases ok
                · rfl
                · exact absurd ⟨h2, rfl⟩ hgo
              · exact .inr h2
            rcases hx with ⟨rfl, hlt⟩ | hlt
            · have HN : Hid (meetL [] (psS rs fs) = none ∧ Below w.heap.size w V) := ⟨(HP.out.eq.resolve_left (fun h => by cases h.1)).2, HP.out.bl⟩
              have hlt' : (k : Int) < (fs.length : Int) := by omega
              clear HP HBW hgo
              go_wp2
              go_ret2
              exact ⟨HN.out.2, .inr ⟨HN.out.1, rfl⟩⟩
            · cases ok
              · have HN : Hid (meetL [] (psS rs fs) = none ∧ Below w.heap.size w V) := ⟨(HP.out.eq.resolve_left (fun h => by cases h.1)).2, HP.out.bl⟩
                clear HP HBW hgo
                go_wp2
                go_ret2
                exact ⟨HN.out.2, .inr ⟨HN.out.1, rfl⟩⟩
              · have hke : k = fs.length := by omega
                have HN : Hid (meetL [] (psS rs fs) = some kn ∧ Below w.heap.size w V ∧ Ls V (.slice a' kn.length c') kn.length (kn.flatMap Pd.cells)) := by
                  have h := (HP.out.eq.resolve_right (fun h => by cases h.1)).2.1
                  rw [hke, List.drop_length] at h
                  exact ⟨h.trans rfl, HP.out.bl, HP.out.ls⟩
                clear HP HBW hgo hke
                go_wp2
                go_ret2
                exact ⟨HN.out.2.1, .inl ⟨kn, _, HN.out.1, rfl, HN.out.2.2⟩⟩
end Go.Proofs.YtfklpedcigdlmaaDoor
end
