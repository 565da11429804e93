import Derived.Test.YtgfnijhhhgjabaaGreatDoorG35
import Derived.Test.YtgfnijhhhgjabaaGreatDoorG28
section
namespace Go.Proofs.YtgfnijhhhgjabaaGreatDoor
open Go.RowKit Go.Maps
set_option linter.unusedVariables false
set_option linter.unusedSimpArgs false
attribute [local go_sem ↓] Go.wp_at_zero Go.wp_at_succ

/-- a fact's predicate -/
def pdF (y : XF) : Pd := ⟨y.pr, y.vs.length⟩
/-- the predicates of rules and facts, as they stand there -/
def psS (rs : List XR) (fs : List XF) : List Pd := rs.flatMap (fun y => stR y.r) ++ fs.map pdF
theorem ps_rule {rs : List XR} {fs : List XF} {k : Nat} (h : k < rs.length) : psS (rs.drop k) fs = stR (atR rs k).r ++ psS (rs.drop (k + 1)) fs := by
  unfold psS
  rw [List.drop_eq_getElem_cons h, List.flatMap_cons, ← atR_eq h, List.append_assoc]
theorem ps_fact {fs : List XF} {k : Nat} (h : k < fs.length) : psS [] (fs.drop k) = pdF (atF fs k) :: psS [] (fs.drop (k + 1)) := by
  unfold psS
  rw [List.drop_eq_getElem_cons h, List.map_cons, ← atF_eq h]
  rfl
theorem st_names {w : World} {d : Nat} {r : R3} {p : RP} (h : RIs w d r p) : ∀ x ∈ stR r, x.n.size ≤ maxLen := by
  intro x hx
  unfold stR at hx
  rcases List.mem_cons.1 hx with rfl | hx
  · exact h.pb
  · obtain ⟨y, hy, hx⟩ := List.mem_flatMap.1 hx
    unfold stX at hx
    split at hx
    · rw [List.mem_singleton.1 hx]
      exact (h.bd.each y hy).pb
    · cases hx
theorem rule_storeP (u : World) (y : XR) : (storeVar 25 ⟨u.heap.size, 0, none⟩ (.agg y.cells.toArray)).run Tryz.prog (u.alloc (.cells #[.string ⟨#[]⟩, .slice none 0 0, .slice none 0 0] 25)) = .ok () (u.alloc (.cells y.cells.toArray 25)) :=
  run_storeVar_new u 25 #[.string ⟨#[]⟩, .slice none 0 0, .slice none 0 0] y.cells.toArray (by kernel_rfl) rfl (oneCells_rule y)
theorem fact_storeP (u : World) (y : XF) : (storeVar 98 ⟨u.heap.size, 0, none⟩ (.agg y.cells.toArray)).run Tryz.prog (u.alloc (.cells #[.string ⟨#[]⟩, .slice none 0 0] 98)) = .ok () (u.alloc (.cells y.cells.toArray 98)) :=
  run_storeVar_new u 98 #[.string ⟨#[]⟩, .slice none 0 0] y.cells.toArray (by kernel_rfl) rfl (oneCells_fact y)
theorem load_boxR {u : World} {b : Nat} {y : XR} (h : RL u b 25 y.cells) : (loadVar 25 ⟨b, 0, none⟩).run Tryz.prog u = .ok (.agg y.cells.toArray) u :=
  run_loadVar_mid _ _ 0 25 y.cells _ (RL.range h) Tryz.underlying25 rfl (by kernel_rfl)
theorem load_boxF {u : World} {b : Nat} {y : XF} (h : RL u b 98 y.cells) : (loadVar 98 ⟨b, 0, none⟩).run Tryz.prog u = .ok (.agg y.cells.toArray) u :=
  run_loadVar_mid _ _ 0 98 y.cells _ (RL.range h) Tryz.underlying98 rfl (by kernel_rfl)
theorem own_ne {w : World} {B k n b : Nat} {ty : TypeId} {v : Value} {xs : List Value} (h : w.ownsRow B ty k v n xs) (hb : b < B) : ∀ g off m c, v = .slice (some ⟨g, off, none⟩) m c → g ≠ b := fun g off m c e => by
  have := (h.lt g (by rw [e]; rfl)).1
  omega
attribute [-go_sem] loadVar storeVar Builtin.append_
/-- what Preds comes to -/
def PsP (B : Nat) (w : World) (o : Option (List Pd)) (e : Ending) (w' : World) : Prop :=
  Below B w w' ∧ ((∃ s a c r, o = some s ∧ e = .returned (.tuple #[.slice a r.length c, .int .i64 0]) ∧ r.Perm s ∧ Up r ∧ w'.ownsRow B 129 2 (.slice a r.length c) r.length (r.flatMap Pd.cells)) ∨ (o = none ∧ e = .returned (.tuple #[.slice none 0 0, .int .i64 72])))
theorem run_makeCols (u : World) : (Instr.makeMap 124 none).run Tryz.prog u = .ok (.map (some u.heap.size)) (u.alloc (.map #[] 0)) := by kernel_rfl
/-- amid Preds: what has been let in -/
structure Pst (w : World) (rs : List XR) (fs : List XF) (rest : List Pd) (s : List Pd) (u : World) : Prop where
  mp : MapP u (w.heap.size + 1) s
  nd : (s.map Pd.n).Nodup
  eq : letL [] (psS rs fs) = letL s rest
  ln : s.length + rest.length ≤ (psS rs fs).length
  bl : Below w.heap.size w u
  zz : w.heap.size + 2 ≤ u.heap.size
theorem Pst.below {w : World} {rs : List XR} {fs : List XF} {rest s : List Pd} {u u' : World} (h : Pst w rs fs rest s u) (b : Below u.heap.size u u') : Pst w rs fs rest s u' :=
  ⟨h.mp.of_block (b.block _ h.mp.lt), h.nd, h.eq, h.ln, h.bl.trans (b.mono h.bl.size), Nat.le_trans h.zz b.size⟩
theorem Pst.tz {w : World} {rs : List XR} {fs : List XF} {rest s : List Pd} {u u' : World} (h : Pst w rs fs rest s u) (t : Tz (fun k => k = w.heap.size + 1) u u') : Below w.heap.size w u' ∧ w.heap.size + 2 ≤ u'.heap.size :=
  ⟨Tz.below h.bl t h.bl.size (fun b e => by omega), Nat.le_trans h.zz t.size⟩
theorem load_rules {u : World} {a : Addr} {b : Option Addr} {n c : Nat} (h : u.cell? a = some (.slice b n c)) : (loadVar 61 a).run Tryz.prog u = .ok (.slice b n c) u := by rw [loadVar.eq_1]; go_simp
set_option maxHeartbeats 6400000 in
set_option maxRecDepth 100000 in
theorem predsP_any (d : Nat) (rs : List XR) (fs : List XF) (ra : Option Addr) (rc : Nat) (vf : Value) (w : World) (hR : Lr w (.slice ra rs.length rc) d rs) (hF : Lf w vf fs) (hbd : ∀ i, i < rs.length → (atR rs i).r.bd.length ≤ 1048576) (hlen : (psS rs fs).length ≤ 100000000) :
    Calls Tryz.prog 38 #[.agg #[.slice ra rs.length rc], vf] w fun e w' => PsP w.heap.size w (letL [] (psS rs fs)) e w' := by
  have HRE : Hid (∀ i, i < rs.length → ∀ u, Below w.heap.size w u → RIs u d (atR rs i).r (atR rs i).p) := fun i hi u hu => (hR.each i hi).below hu
  have HFE : Hid (∀ i, i < fs.length → (atF fs i).pr.size ≤ maxLen) := fun i hi => (hF.each i hi).pb
  obtain ⟨ra', rc', hv, hr1, hr2, hrat⟩ := hR.form
  injection hv with hv1 _ hv2
  subst hv1 hv2
  obtain ⟨fa, fc, rfl, hf1, hf2, hfat⟩ := hF.form
  have hmr : rs.length ≤ maxLen := Nat.le_trans hr1 hr2
  have hmf : fs.length ≤ maxLen := Nat.le_trans hf1 hf2
  unfold maxLen at hmr hmf
  have HRA := Lib.hid hrat
  have HFA := Lib.hid hfat
  have HBD := Lib.hid hbd
  have hmk := run_makeCols (w.alloc (.cells #[.slice ra rs.length rc] 104))
  have hz1 : (w.alloc (.cells #[.slice ra rs.length rc] 104)).heap.size = w.heap.size + 1 := by simp
  rw [hz1] at hmk
  have b1 := belowA (w := w) (.cells #[.slice ra rs.length rc] 104)
  have b2 := belowA (w := w.alloc (.cells #[.slice ra rs.length rc] 104)) (.map #[] 0)
  have HP0 : Hid (Pst w rs fs (psS rs fs) [] ((w.alloc (.cells #[.slice ra rs.length rc] 104)).alloc (.map #[] 0))) := by
    have hm := MapP.made (w.alloc (.cells #[.slice ra rs.length rc] 104))
    rw [hz1] at hm
    exact ⟨hm, by simp, rfl, by simp, b1.trans (b2.mono b1.size), by simp⟩
  have hl1 : (loadVar 61 ⟨w.heap.size, 0, none⟩).run Tryz.prog ((w.alloc (.cells #[.slice ra rs.length rc] 104)).alloc (.map #[] 0)) = .ok (.slice ra rs.length rc) _ := load_rules (RL.at (RL.below (rl_new w #[.slice ra rs.length rc] 104) b2) (j := 0) rfl)
  clear hrat hfat hbd hR hF b1 b2 hz1
  go_enter Tryz.func38, Tryz.ntmps38
  go_wp2
  clear hmk hl1
  generalize (w.alloc (.cells #[.slice ra rs.length rc] 104)).alloc (.map #[] 0) = W0 at HP0 ⊢
  go_loopw [15] (fun i wr => ∃ (k : Nat) (s : List Pd), k ≤ rs.length ∧ i = .int .i64 k ∧ Hid (Pst w rs fs (psS (rs.drop k) fs) s wr)) (fun i _ => rs.length - (intOf i).toNat)
  case atStart => exact ⟨0, [], Nat.zero_le _, rfl, HP0⟩
  case round =>
    clear HP0
    obtain ⟨k, s, hk, rfl, HP⟩ := hrel
    obtain ⟨U, rfl⟩ : ∃ U, U = wr := ⟨_, rfl⟩
    by_cases hlt : k < rs.length
    · have hlt' : (k : Int) < (rs.length : Int) := by omega
      have hk0 : (0 : Int) ≤ (k : Int) := by omega
      obtain ⟨g, off, rfl, hg, hT⟩ := HRA.out (by omega)
      have r1 := range_below (hT k hlt) HP.out.bl hg
      have HPS := Lib.hid (ps_rule (fs := fs) hlt)
      have HRI := Lib.hid (HRE.out k hlt)
      have hb : (atR rs k).r.bd.length ≤ 1048576 := HBD.out k hlt
      obtain ⟨y, hy⟩ : ∃ y, atR rs k = y := ⟨_, rfl⟩
      rw [hy] at r1 HPS HRI hb
      have hld := load_Rul r1 rfl
      have hst := rule_storeP U y
      have BA := belowA (w := U) (.cells y.cells.toArray 25)
      have hl8 := load_boxR (rl_new U y.cells.toArray 25)
      have HP2 := Lib.hid (HP.out.below BA)
      clear hT r1 hy BA HP
      generalize U.alloc (.cells y.cells.toArray 25) = W1 at hst hl8 HP2
      have HC := Lib.hid (rulePreds_any d y.r y.p W1 (HRI.out W1 HP2.out.bl) hb)
      rw [← XR.val_eq] at HC
      have HNM := Lib.hid (st_names (HRI.out W1 HP2.out.bl))
      generalize Value.agg y.cells.toArray = QV at hld hst hl8 HC
      clear HRI
      go_wp2_with fail
      refine HC.out.mono ?_
      rintro e w2 ⟨a2, c2, rfl, own2, bb2⟩
      have HP3 := Lib.hid (HP2.out.below bb2)
      have HTA := Lib.hid (takeAll_any HP3.out.mp HP3.out.nd _ (stR y.r) (ls_own own2) HNM.out (own_ne own2 (by have := HP2.out.zz; omega)))
      clear own2 bb2 HC HP2 hld hst hl8 hb
      go_wp2_with fail
      refine HTA.out.mono ?_
      rintro e w3 ⟨ht, ⟨s', he, rfl, hm, hnd, hle⟩ | ⟨he, rfl⟩⟩
      · have HP4 : Hid (Pst w rs fs (psS (rs.drop (k + 1)) fs) s' w3) := by
          obtain ⟨q1, q2⟩ := HP3.out.tz ht
          refine ⟨hm, hnd, ?_, ?_, q1, q2⟩
          · rw [HP3.out.eq, HPS.out, letL_append, he]
            rfl
          · have := HP3.out.ln
            rw [HPS.out, List.length_append] at this
            omega
        clear ht he hm hnd hle HTA HP3 HPS
        go_wp2
        go_roundw
        case rel => exact ⟨k + 1, s', by omega, by go_num, HP4⟩
        case measure => simp [intOf]; omega
      · have HBF : Hid (Below w.heap.size w w3 ∧ letL [] (psS rs fs) = none) := ⟨(HP3.out.tz ht).1, by rw [HP3.out.eq, HPS.out, letL_append, he]; rfl⟩
        clear ht he HTA HP3 HPS
        go_wp2
        go_ret2
        exact ⟨HBF.out.1, .inr ⟨HBF.out.2, rfl⟩⟩
    · obtain rfl : k = rs.length := by omega
      rw [List.drop_length] at HP
      clear hlt hk HRE HRA HBD
      go_wp2
      go_loopw [27] (fun i wr => ∃ (k : Nat) (s : List Pd), k ≤ fs.length ∧ i = .int .i64 k ∧ Hid (Pst w rs fs (psS [] (fs.drop k)) s wr)) (fun i _ => fs.length - (intOf i).toNat)
      case atStart => exact ⟨0, s, Nat.zero_le _, rfl, HP⟩
      case round =>
        clear HP
        obtain ⟨k, s, hk, rfl, HP⟩ := hrel
        obtain ⟨V, rfl⟩ : ∃ V, V = wr := ⟨_, rfl⟩
        by_cases hlt : k < fs.length
        · have hlt' : (k : Int) < (fs.length : Int) := by omega
          have hk0 : (0 : Int) ≤ (k : Int) := by omega
          obtain ⟨g, off, rfl, hg, hT⟩ := HFA.out (by omega)
          have r1 := range_below (hT k hlt) HP.out.bl hg
          have HPS := Lib.hid (ps_fact hlt)
          have hnm : (atF fs k).pr.size ≤ maxLen := HFE.out k hlt
          obtain ⟨y, hy⟩ : ∃ y, atF fs k = y := ⟨_, rfl⟩
          rw [hy] at r1 HPS hnm
          have hld := load_Fac r1 rfl
          have hst := fact_storeP V y
          have BA := belowA (w := V) (.cells y.cells.toArray 98)
          have hl8 := load_boxF (rl_new V y.cells.toArray 98)
          have HP2 := Lib.hid (HP.out.below BA)
          clear hT r1 hy BA HP
          generalize V.alloc (.cells y.cells.toArray 98) = W1 at hst hl8 HP2
          have HC := Lib.hid (factPred_any y.pr y.a y.vs.length y.c W1)
          have hve : Value.agg #[.string y.pr, .slice y.a y.vs.length y.c] = Value.agg y.cells.toArray := rfl
          rw [hve] at HC
          clear hve
          generalize Value.agg y.cells.toArray = QV at hld hst hl8 HC
          go_wp2_with fail
          refine HC.out.mono ?_
          rintro e w2 ⟨rfl, bb2⟩
          have HP3 := Lib.hid (HP2.out.below bb2)
          have HTA := Lib.hid (take_any HP3.out.mp HP3.out.nd (pdF y) hnm)
          have hpd : Value.agg (pdF y).cells.toArray = .agg #[.string y.pr, .int .i64 (y.vs.length : Int)] := rfl
          rw [hpd] at HTA
          have HLC := Lib.hid (letL_cons s (pdF y) (psS [] (fs.drop (k + 1))))
          have HNN := Lib.hid (takeP_nodup HP3.out.nd (pdF y))
          have HTL := Lib.hid (takeP_len s (pdF y))
          generalize takeP s (pdF y) = tp at HTA HLC HNN HTL
          obtain ⟨t2, bt⟩ := tp
          clear bb2 HC HP2 hld hst hl8 hpd
          cases bt
          · go_wp2_with fail
            refine HTA.out.mono ?_
            rintro e w3 ⟨rfl, hm, ht⟩
            have HBF : Hid (Below w.heap.size w w3 ∧ letL [] (psS rs fs) = none) := ⟨(HP3.out.tz ht).1, by rw [HP3.out.eq, HPS.out, HLC.out]; rfl⟩
            clear hm ht HTA HP3 HPS HLC
            go_wp2
            go_ret2
            exact ⟨HBF.out.1, .inr ⟨HBF.out.2, rfl⟩⟩
          · go_wp2_with fail
            refine HTA.out.mono ?_
            rintro e w3 ⟨rfl, hm, ht⟩
            have HP4 : Hid (Pst w rs fs (psS [] (fs.drop (k + 1))) t2 w3) := by
              obtain ⟨q1, q2⟩ := HP3.out.tz ht
              refine ⟨hm, HNN.out, ?_, ?_, q1, q2⟩
              · rw [HP3.out.eq, HPS.out, HLC.out]
                rfl
              · have h1 := HP3.out.ln
                have h2 : t2.length ≤ s.length + 1 := HTL.out
                rw [HPS.out, List.length_cons] at h1
                omega
            clear hm ht HTA HP3 HPS HLC
            go_wp2
            go_roundw
            case rel => exact ⟨k + 1, t2, by omega, by go_num, HP4⟩
            case measure => simp [intOf]; omega
        · obtain rfl : k = fs.length := by omega
          rw [List.drop_length] at HP
          have hsl : s.length ≤ 1000000000 := by have := HP.out.ln; omega
          have HC := Lib.hid (preds_any HP.out.mp HP.out.nd hsl)
          have HEQ : Hid (letL [] (psS rs fs) = some s) := by show _ = _; rw [HP.out.eq]; rfl
          have HBL := Lib.hid HP.out.bl
          clear HP hsl
          go_wp2_with fail
          refine HC.out.mono ?_
          rintro e w4 ⟨a4, c4, r4, rfl, hp4, hu4, ho4, hb4⟩
          have HFI : Hid (PsP w.heap.size w (letL [] (psS rs fs)) (.returned (.tuple #[.slice a4 r4.length c4, .int .i64 0])) w4) := ⟨HBL.out.trans (hb4.mono HBL.out.size), .inl ⟨s, a4, c4, r4, HEQ.out, rfl, hp4, hu4, own_lower ho4 HBL.out.size⟩⟩
          clear hp4 hu4 ho4 hb4 HC
          go_wp2
          go_ret2
          exact HFI.out
end Go.Proofs.YtgfnijhhhgjabaaGreatDoor
end
section
namespace Go.Proofs.YtgfnijhhhgjabaaGreatDoor
open Go.RowKit Go.Maps
set_option linter.unusedVariables false
set_option linter.unusedSimpArgs false
attribute [local go_sem ↓] Go.wp_at_zero Go.wp_at_succ
attribute [-go_sem] loadVar storeVar Builtin.append_

end Go.Proofs.YtgfnijhhhgjabaaGreatDoor
end
