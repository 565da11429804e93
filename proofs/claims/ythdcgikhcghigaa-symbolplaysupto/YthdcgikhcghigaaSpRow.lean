import Derived.Test.YthdcgikhcghigaaSpSeek
namespace Go.Proofs.Ythdcgikhcghigaa
open Go.RowKit Go.Maps Go.ChangeMaps
set_option linter.unusedVariables false
set_option linter.unusedSimpArgs false
attribute [local go_sem ↓] Go.wp_at_zero Go.wp_at_succ

/-- what a run of Adds leaves of the old world -/
structure Lft (w w' : World) (p : Nat) (sv sv' : Value) : Prop where
  low : Below 0 w w'
  block : ∀ k, k < w.heap.size → k ≠ p → sv.ownBlock ≠ some k → w'.heap[k]? = w.heap[k]?
  new : ∀ g, sv'.ownBlock = some g → sv.ownBlock = some g ∨ w.heap.size ≤ g
theorem Lft.refl (w : World) (p : Nat) (sv : Value) : Lft w w p sv sv := ⟨Below.refl _ _, fun _ _ _ _ => rfl, fun _ h => .inl h⟩
theorem Lft.below {w u w' : World} {p : Nat} {sv sv' : Value} (h : Lft w u p sv sv') (b : Below u.heap.size u w') : Lft w w' p sv sv' :=
  ⟨h.low.trans (b.mono (Nat.zero_le _)), fun k hk n1 n2 => (b.block k (Nat.lt_of_lt_of_le hk h.low.size)).trans (h.block k hk n1 n2), h.new⟩
theorem Lft.touch {w u w' : World} {p : Nat} {sv s1 s2 : Value} (h : Lft w u p sv s1) (t : Touch u w' p p s1 s2) : Lft w w' p sv s2 := by
  refine ⟨h.low.trans t.low, fun k hk n1 n2 => ?_, fun g hg => ?_⟩
  · refine (t.block k (Nat.lt_of_lt_of_le hk h.low.size) n1 n1 (fun e => ?_)).trans (h.block k hk n1 n2)
    rcases h.new k e with e2 | e2
    · exact n2 e2
    · omega
  · rcases t.new g hg with e | e
    · exact h.new g e
    · exact .inr (Nat.le_trans h.low.size e)
theorem Lft.tch {w w' : World} {p : Nat} {sv sv' : Value} (h : Lft w w' p sv sv') : Touch w w' p p sv sv' := ⟨h.low, fun k hk n1 _ n2 => h.block k hk n1 n2, h.new⟩
def rwStep (most : Int) (st : List V × List Nat) (x : V) : Except Int (List V × List Nat) :=
  if chk x.k x.n x.s ≠ 0 then .error 10 else if x ∈ st.1 then .ok (st.1, st.2 ++ [st.1.idxOf x]) else if most ≤ (st.1.length : Int) then .error 20 else .ok (st.1 ++ [x], st.2 ++ [st.1.length])
def rwSt (most : Int) (vs : List V) (xs : List V) : Except Int (List V × List Nat) := xs.foldlM (rwStep most) (vs, [])
theorem rwSt_snoc (most : Int) (vs xs : List V) (x : V) : rwSt most vs (xs ++ [x]) = (rwSt most vs xs).bind (fun st => rwStep most st x) := by
  unfold rwSt
  rw [List.foldlM_append]
  cases h : List.foldlM (rwStep most) (vs, []) xs with
  | error c => rfl
  | ok st =>
    simp only [bind, Except.bind, List.foldlM]
    cases rwStep most st x <;> rfl
theorem rwSt_err {most : Int} {vs xs ys : List V} {c : Int} (h : rwSt most vs xs = .error c) : rwSt most vs (xs ++ ys) = .error c := by
  unfold rwSt at h ⊢
  rw [List.foldlM_append, h]
  rfl
theorem Rt.blk {w w' : World} {B p : Nat} {sv : Value} {vs : List V} {most : Int} (h : Rt w B p sv vs most) (hp : w'.heap[p]? = w.heap[p]?) (hg : ∀ g, sv.ownBlock = some g → w'.heap[g]? = w.heap[g]?) : Rt w' B p sv vs most :=
  ⟨World.rowIs.of_block h.rl hp, ownsRow_of_block h.own hg, h.wf, h.lo, h.ne⟩
theorem box_ne {w : World} {B p b : Nat} {sv : Value} {vs : List V} {most : Int} {f : Nat → Value} (h : Rt w B p sv vs most) (r : w.rowIs b 43 24 f) : b ≠ p ∧ sv.ownBlock ≠ some b := by
  obtain ⟨c, hc, _⟩ := r
  refine ⟨fun e => ?_, fun e => ?_⟩
  · obtain ⟨c', hc', _⟩ := h.rl
    subst e
    rw [hc] at hc'
    cases hc'
  · obtain ⟨cur, hk⟩ := ownsRow_kind h.own e
    rw [hc] at hk
    cases hk
theorem Lft.cell {w w' : World} {p b i : Nat} {sv sv' v : Value} (h : Lft w w' p sv sv') (hb : w.heap.size ≤ b) : Lft w (w'.setCell ⟨b, i, none⟩ v) p sv sv' :=
  ⟨h.low.setCell (Nat.zero_le _) _, fun k hk n1 n2 => (Below.heap_setCell _ _ _ _ (by show k ≠ b; omega)).trans (h.block k hk n1 n2), h.new⟩
theorem Lft.row {w w' : World} {p b : Nat} {sv sv' : Value} {C : Array Value} (h : Lft w w' p sv sv') (hb : w.heap.size ≤ b) : Lft w (w'.setRow b C) p sv sv' :=
  ⟨h.low.trans ⟨rfl, rfl, rfl, by simp, fun k hk => absurd hk (Nat.not_lt_zero _)⟩, fun k hk n1 n2 => (setRow_other w' _ k _ (by omega)).trans (h.block k hk n1 n2), h.new⟩
theorem Rt.cellR {w : World} {B p b i : Nat} {sv v : Value} {vs : List V} {most : Int} {f : Nat → Value} (h : Rt w B p sv vs most) (r : w.rowIs b 43 24 f) : Rt (w.setCell ⟨b, i, none⟩ v) B p sv vs most :=
  h.blk (Below.heap_setCell _ _ _ _ (fun e => (box_ne h r).1 e.symm)) (fun g hg => Below.heap_setCell _ _ _ _ (fun e => (box_ne h r).2 (by rw [hg]; exact congrArg some e)))
theorem Rt.rowR {w : World} {B p b : Nat} {sv : Value} {vs : List V} {most : Int} {f : Nat → Value} {C : Array Value} (h : Rt w B p sv vs most) (r : w.rowIs b 43 24 f) : Rt (w.setRow b C) B p sv vs most :=
  h.blk (setRow_other w _ p _ (fun e => (box_ne h r).1 e.symm)) (fun g hg => setRow_other w _ g _ (fun e => (box_ne h r).2 (by rw [hg]; exact congrArg some e)))
theorem box_touch {w w' : World} {B p b : Nat} {sv s' : Value} {vs : List V} {most : Int} {f : Nat → Value} (h : Rt w B p sv vs most) (r : w.rowIs b 43 24 f) (t : Touch w w' p p sv s') : w'.rowIs b 43 24 f :=
  r.of_block (t.block b r.lt (box_ne h r).1 (box_ne h r).1 (box_ne h r).2)
theorem rwSt_take {most : Int} {vs xs us : List V} {ss : List Nat} {k : Nat} (h : k < xs.length) (e : rwSt most vs (xs.take k) = .ok (us, ss)) : rwSt most vs (xs.take (k + 1)) = rwStep most (us, ss) (atV xs k) := by
  rw [take_snoc h, rwSt_snoc, e]
  rfl
theorem rwSt_stop {most : Int} {vs xs : List V} {c : Int} {k : Nat} (e : rwSt most vs (xs.take (k + 1)) = .error c) : rwSt most vs xs = .error c := by
  have := rwSt_err (ys := xs.drop (k + 1)) e
  rwa [List.take_append_drop] at this
theorem rrow_results {W : World} {tmps : Array Value} {br : Nat} {C : Array Value} {b : Int} (h4 : tmps.getD 4 undef = .pointer (some ⟨br, 0, none⟩)) (h5 : tmps.getD 5 undef = .int .i64 b) (hC : W.heap[br]? = some (.cells C 43 (0, 0))) (hi : (Try.prog.info? 43).map (·.size) = some C.size) :
    (results Try.f36 tmps).run Try.prog W = .ok (.tuple #[.agg C, .int .i64 b]) W := by
  have hl : (loadVar 43 ⟨br, 0, none⟩).run Try.prog W = .ok (.agg C) W := run_loadVar_row _ _ 43 43 C (0, 0) _ hC Try.underlying43 rfl hi
  have e0 : results Try.f36 tmps = (do
      let x ← asAddr (tmps.getD 4 undef)
      let x ← loadVar 43 x
      pure (.tuple #[x, tmps.getD 5 undef])) := by
    simp [results, Try.results36]
  rw [e0, h4, h5]
  simp [asAddr, hl, Result.andThen]
set_option maxHeartbeats 3200000 in
set_option maxRecDepth 100000 in
theorem rtrow_any {w : World} {B p : Nat} {sv : Value} {vs : List V} {most : Int} (h : Rt w B p sv vs most) (hB : B ≤ w.heap.size) (hlen : vs.length ≤ 900000000) (xs : List V) (a : Option Addr) (c : Nat) (hv : Lv w (.slice a xs.length c) xs) (hx : xs.length ≤ 24) (hsep : 0 < xs.length → ∀ g off, a = some ⟨g, off, none⟩ → g ≠ p ∧ sv.ownBlock ≠ some g) :
    Calls Try.prog 36 #[.pointer (some ⟨p, 0, none⟩), .slice a xs.length c] w fun e w' => ∃ sv', Touch w w' p p sv sv' ∧
      ((∃ us ss C, rwSt most vs xs = .ok (us, ss) ∧ e = .returned (.tuple #[.agg C, .int .i64 0]) ∧ C.size = 24 ∧ (∀ i, i < 24 → C[i]? = some (rowN ss (fun _ => .int .i32 0) i)) ∧ Rt w' B p sv' us most) ∨
       (∃ k, rwSt most vs xs = .error k ∧ e = .returned (.tuple #[.agg zeroRow, .int .i64 k]) ∧ Rt w' B p sv' vs most)) := by
  have b1 := (Below.refl w.heap.size w).alloc (Nat.le_refl _) (.cells zeroRow 43)
  have b2 := b1.alloc (by simp) (.cells zeroRow 43)
  have hx' : ¬ (24 : Int) < (xs.length : Int) := by omega
  have HR1 := Lib.hid (h.keep b1)
  have HT := Lib.hid (rtthere_yes HR1.out)
  have HR := Lib.hid h
  have HV := Lib.hid hv
  have HSEP := Lib.hid hsep
  obtain ⟨a2, c2', rfl, _⟩ := ownsRow_form h.own
  have c2 := HR1.out.rl.at (j := 2) rfl
  clear h hv hsep
  go_enter Try.func36, Try.ntmps36
  go_wp2_with fail
  refine HT.out.mono ?_
  rintro e w1 ⟨rfl, rfl⟩
  clear HT
  go_wp2
  show Code.wp _ _ _ _ ((w.alloc (.cells zeroRow 43)).alloc (.cells zeroRow 43))
  have r0 := (zero_rowIs w).alloc (.cells zeroRow 43)
  have r1 := zero_rowIs (w.alloc (.cells zeroRow 43))
  have e1 : (w.alloc (.cells zeroRow 43)).heap.size = w.heap.size + 1 := by simp
  rw [e1] at r1
  go_loopw [8] (fun i wr => ∃ (k : Nat) (us : List V) (ss : List Nat) (s : Value), k ≤ xs.length ∧ i = .int .i64 k ∧ Hid (rwSt most vs (xs.take k) = .ok (us, ss)) ∧ Hid (Rt wr B p s us most) ∧ Hid (Lft w wr p (.slice a2 vs.length c2') s) ∧ Hid (wr.rowIs w.heap.size 43 24 (rowN [] (fun _ => .int .i32 0))) ∧ Hid (wr.rowIs (w.heap.size + 1) 43 24 (rowN ss (fun _ => .int .i32 0))) ∧ Hid (vs.length ≤ us.length) ∧ Hid (us.length ≤ vs.length + k) ∧ Hid (us.take vs.length = vs) ∧ Hid (ss.length = k)) (fun i _ => xs.length - (intOf i).toNat)
  case atStart => exact ⟨0, vs, [], _, Nat.zero_le _, rfl, rfl, HR.out.keep b2, (Lft.refl w p _).below b2, r0, r1, Nat.le_refl _, Nat.le_refl _, List.take_length, rfl⟩
  case round =>
    obtain ⟨k, us, ss, s, hk, rfl, HST0, HRT, HL, Q0, Q1, HLE, HUL, HTK, HSL⟩ := hrel
    clear r0 r1 b1 b2 e1 HR1 c2
    by_cases hlt : k < xs.length
    · have hlt' : (k : Int) < (xs.length : Int) := by omega
      obtain ⟨g, off, rfl, hg, x0', x1', x2'⟩ := HV.out.at hlt
      have hbk := HL.out.block g hg (HSEP.out (by omega) g off rfl).1 (HSEP.out (by omega) g off rfl).2
      have x0 := (World.cell?_of_block (a := ⟨g, _, none⟩) hbk).trans x0'
      have x1 := (World.cell?_of_block (a := ⟨g, _, none⟩) hbk).trans x1'
      have x2 := (World.cell?_of_block (a := ⟨g, _, none⟩) hbk).trans x2'
      have uwf := HV.out.1 _ (atV_mem hlt)
      have HST := Lib.hid (rwSt_take hlt HST0.out)
      have hul : us.length ≤ 1000000000 := by have := HUL.out; omega
      have HF := Lib.hid (rtadd_any HRT.out (Nat.le_trans hB HL.out.low.size) hul (atV xs k) uwf)
      have hk24 : (k : Int) < 24 := by omega
      clear uwf x0' x1' x2' hbk
      generalize atV xs k = u at x0 x1 x2 HST HF
      go_wp2_with fail
      refine HF.out.mono ?_
      clear HF
      rintro e w2 (⟨hc, rfl, hb2⟩ | ⟨hc, ⟨i, rfl, hi, hj⟩, hb2⟩ | ⟨hc, hm, hf, rfl, hb2⟩ | ⟨hc, hm, hf, rfl, sv', hR', hT'⟩)
      · skip
        have HER : Hid (rwSt most vs xs = .error 10) := rwSt_stop (k := k) (by rw [HST.out]; simp [rwStep, hc])
        have hR2 := HRT.out.keep hb2
        have q02 := World.rowIs.of_block Q0.out (hb2.block _ (World.rowIs.lt Q0.out))
        obtain ⟨a3, c3, rfl, _⟩ := ownsRow_form hR2.own
        have d2 := hR2.rl.at (j := 2) rfl
        have dfr := hR2.frz
        have hle : vs.length ≤ us.length := HLE.out
        have hnc := (own_cut hR2.own hle).2
        obtain ⟨hF1, hF2⟩ := rtcut_fin hR2 hle
        rw [HTK.out] at hF1
        have q03 := box_touch hR2 q02 hF2
        have hL3 := (HL.out.below hb2).touch hF2
        obtain ⟨C0, hC0, hCs0, _⟩ := id q03
        have HFR := Lib.hid (hF1.rowR (C := zeroRow) q03)
        have HFL := Lib.hid (hL3.row (C := zeroRow) (Nat.le_refl _)).tch
        have HC0 := Lib.hid hC0
        have hCi : (Try.prog.info? 43).map (·.size) = some zeroRow.size := infoRow
        have HI : Hid _ := hCi
        have HO : Hid (zeroRow.all (·.oneCell') = true) := (by show zeroRow.all (·.oneCell') = true; simp [zeroRow, Value.oneCell'])
        have HS : Hid (C0.size = zeroRow.size) := by show C0.size = zeroRow.size; rw [hCs0]; rfl
        have hC8 := setRow_heap _ _ C0 zeroRow _ _ hC0
        have hle' : (vs.length : Int) ≤ (us.length : Int) := by omega
        clear hF1 hF2 q02 q03 hL3 hC0 hCi hR2 hb2 x0 x1 x2 hg
        go_wp2_with (first
          | (refine wpList_storeRow _ rfl (.tmp 4) (.tmp 50) 43 rfl w.heap.size C0 zeroRow rfl rfl HC0.out HI.out HS.out HO.out ?_)
          | fail)
        all_goals exact bodyPost_ret (rrow_results rfl rfl hC8 HI.out) rfl ⟨_, HFL.out, .inr ⟨_, HER.out, rfl, HFR.out⟩⟩
      · have hmem : u ∈ us := List.mem_of_getElem? hi
        have hix : us.idxOf u = i := idxOf_first us i hi hj
        have HST2 : Hid (rwSt most vs (xs.take (k + 1)) = .ok (us, ss ++ [i])) := (by show _ = _; rw [HST.out]; simp [rwStep, hc, hmem, hix])
        have hR2 := HRT.out.keep hb2
        have hL2 := HL.out.below hb2
        have q0 := World.rowIs.of_block Q0.out (hb2.block _ (World.rowIs.lt Q0.out))
        have q1 := World.rowIs.of_block Q1.out (hb2.block _ (World.rowIs.lt Q1.out))
        have hsn := fun j => rowN_snoc ss (i) (fun _ => .int .i32 0) j
        rw [HSL.out] at hsn
        have z0 : w2.cell? ⟨w.heap.size + 1, k, none⟩ = some (rowN ss (fun _ => .int .i32 0) k) := q1.cell (i := k) (by omega)
        have zf := q1.frozen k
        have HQ1 := Lib.hid ((q1.set k (.int .i32 (i : Nat))).congr fun j _ => hsn j)
        have HQ0 := Lib.hid (q0.setOther (a := ⟨w.heap.size + 1, k, none⟩) (by simp) (.int .i32 (i : Nat)))
        have HRF := Lib.hid (hR2.cellR (i := k) (v := .int .i32 (i : Nat)) q1)
        have HLF := Lib.hid (hL2.cell (b := w.heap.size + 1) (i := k) (v := .int .i32 (i : Nat)) (by omega))
        generalize rowN ss (fun _ => .int .i32 0) k = zz at z0
        clear hR2 hL2 q0 q1 hsn x0 x1 x2 hg
        clear hc hi hj hmem hix hb2
        go_wp2
        go_roundw
        case rel => exact ⟨k + 1, us, _, _, by omega, by go_num, HST2.out, HRF.out, HLF.out, HQ0.out, HQ1.out, HLE.out, Nat.le_succ_of_le HUL.out, HTK.out, (by show _ = _; simp [HSL.out])⟩
        case measure => simp [intOf]; omega
      · skip
        have HER : Hid (rwSt most vs xs = .error 20) := rwSt_stop (k := k) (by rw [HST.out]; simp [rwStep, hc, hm, hf])
        have hR2 := HRT.out.keep hb2
        have q02 := World.rowIs.of_block Q0.out (hb2.block _ (World.rowIs.lt Q0.out))
        obtain ⟨a3, c3, rfl, _⟩ := ownsRow_form hR2.own
        have d2 := hR2.rl.at (j := 2) rfl
        have dfr := hR2.frz
        have hle : vs.length ≤ us.length := HLE.out
        have hnc := (own_cut hR2.own hle).2
        obtain ⟨hF1, hF2⟩ := rtcut_fin hR2 hle
        rw [HTK.out] at hF1
        have q03 := box_touch hR2 q02 hF2
        have hL3 := (HL.out.below hb2).touch hF2
        obtain ⟨C0, hC0, hCs0, _⟩ := id q03
        have HFR := Lib.hid (hF1.rowR (C := zeroRow) q03)
        have HFL := Lib.hid (hL3.row (C := zeroRow) (Nat.le_refl _)).tch
        have HC0 := Lib.hid hC0
        have hCi : (Try.prog.info? 43).map (·.size) = some zeroRow.size := infoRow
        have HI : Hid _ := hCi
        have HO : Hid (zeroRow.all (·.oneCell') = true) := (by show zeroRow.all (·.oneCell') = true; simp [zeroRow, Value.oneCell'])
        have HS : Hid (C0.size = zeroRow.size) := by show C0.size = zeroRow.size; rw [hCs0]; rfl
        have hC8 := setRow_heap _ _ C0 zeroRow _ _ hC0
        have hle' : (vs.length : Int) ≤ (us.length : Int) := by omega
        clear hF1 hF2 q02 q03 hL3 hC0 hCi hR2 hb2 x0 x1 x2 hg
        go_wp2_with (first
          | (refine wpList_storeRow _ rfl (.tmp 4) (.tmp 50) 43 rfl w.heap.size C0 zeroRow rfl rfl HC0.out HI.out HS.out HO.out ?_)
          | fail)
        all_goals exact bodyPost_ret (rrow_results rfl rfl hC8 HI.out) rfl ⟨_, HFL.out, .inr ⟨_, HER.out, rfl, HFR.out⟩⟩
      · skip
        have HST2 : Hid (rwSt most vs (xs.take (k + 1)) = .ok (us ++ [u], ss ++ [us.length])) := (by show _ = _; rw [HST.out]; simp [rwStep, hc, hm]; omega)
        have hR2 := hR'
        have hL2 := HL.out.touch hT'
        have q0 := box_touch HRT.out Q0.out hT'
        have q1 := box_touch HRT.out Q1.out hT'
        have hsn := fun j => rowN_snoc ss (us.length) (fun _ => .int .i32 0) j
        rw [HSL.out] at hsn
        have z0 : w2.cell? ⟨w.heap.size + 1, k, none⟩ = some (rowN ss (fun _ => .int .i32 0) k) := q1.cell (i := k) (by omega)
        have zf := q1.frozen k
        have HQ1 := Lib.hid ((q1.set k (.int .i32 (us.length : Nat))).congr fun j _ => hsn j)
        have HQ0 := Lib.hid (q0.setOther (a := ⟨w.heap.size + 1, k, none⟩) (by simp) (.int .i32 (us.length : Nat)))
        have HRF := Lib.hid (hR2.cellR (i := k) (v := .int .i32 (us.length : Nat)) q1)
        have HLF := Lib.hid (hL2.cell (b := w.heap.size + 1) (i := k) (v := .int .i32 (us.length : Nat)) (by omega))
        generalize rowN ss (fun _ => .int .i32 0) k = zz at z0
        clear hR2 hL2 q0 q1 hsn x0 x1 x2 hg
        clear hc hm hf hR' hT'
        go_wp2
        go_roundw
        case rel => exact ⟨k + 1, us ++ [u], _, _, by omega, by go_num, HST2.out, HRF.out, HLF.out, HQ0.out, HQ1.out, (by show _ ≤ _; have := HLE.out; simp; omega), (by show _ ≤ _; have := HUL.out; simp; omega), (by show _ = _; rw [List.take_append_of_le_length HLE.out, HTK.out]), (by show _ = _; simp [HSL.out])⟩
        case measure => simp [intOf]; omega
    · have e : xs.take k = xs := List.take_of_length_le (by omega)
      have HSX := HST0.out
      rw [e] at HSX
      obtain ⟨C, hC, hCs, hCat⟩ := id Q1.out
      obtain ⟨C0, hC0, hCs0, _⟩ := id Q0.out
      have hCo := row_cells_one hCs hCat
      have hCi : (Try.prog.info? 43).map (·.size) = some C.size := by rw [hCs]; exact infoRow
      have hC8 : (wr.setRow w.heap.size C).heap[w.heap.size]? = some (.cells C 43 (0, 0)) := setRow_heap wr _ C0 C _ _ hC0
      have HFR := Lib.hid (HRT.out.rowR (C := C) Q0.out)
      have HFL := Lib.hid (HL.out.row (C := C) (Nat.le_refl _)).tch
      have HC : Hid _ := hC
      have HC0 : Hid _ := hC0
      have HI : Hid _ := hCi
      have HO : Hid _ := hCo
      have HS : Hid (C0.size = C.size) := by show C0.size = C.size; rw [hCs, hCs0]
      clear hC hC0 hCo e
      go_wp2_with (first
        | (refine wpList_loadRow _ rfl (.tmp 7) 43 rfl (w.heap.size + 1) 24 41 C rfl HC.out Try.underlying43 HI.out ?_)
        | (refine wpList_storeRow _ rfl (.tmp 4) (.tmp 55) 43 rfl w.heap.size C0 C rfl rfl HC0.out HI.out HS.out HO.out ?_)
        | fail)
      exact bodyPost_ret (rrow_results rfl rfl hC8 HI.out) rfl ⟨_, HFL.out, .inl ⟨us, ss, C, HSX, rfl, hCs, hCat, HFR.out⟩⟩
end Go.Proofs.Ythdcgikhcghigaa
