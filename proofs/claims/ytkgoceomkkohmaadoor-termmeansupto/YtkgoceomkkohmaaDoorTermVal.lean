import Derived.Test.YtkgoceomkkohmaaDoorTermRes
import Derived.Test.YtkgoceomkkohmaaDoorTermMM
namespace Go.Proofs.YtkgoceomkkohmaaDoor
open Go.RowKit Go.Maps
set_option linter.unusedVariables false
set_option linter.unusedSimpArgs false
attribute [local go_sem ↓] Go.wp_at_zero Go.wp_at_succ

theorem atB_wf {l : List B} (h : ∀ t ∈ l, t.wf) (i : Nat) : (atB l i).wf := by
  by_cases hi : i < l.length
  · rw [atB_eq hi]; exact h _ (List.getElem_mem hi)
  · unfold atB
    rw [List.getD, List.getElem?_eq_none (by omega)]
    exact ⟨by decide, V0.ok⟩
theorem chk_ten {k n : Int} {s : ByteArray} (h : ¬ chk k n s = 0) : chk k n s = 10 := by
  unfold chk at h ⊢
  split
  · rename_i hh; rw [if_pos hh] at h; exact absurd rfl h
  · rfl
/-- where the first bind of a name stands; -1: nowhere -/
def idx (l : List B) (n : ByteArray) : Int := match l.findIdx? (fun b => decide (b.v = n)) with | some i => (i : Int) | none => -1
theorem idx_here {l : List B} {n : ByteArray} {k : Nat} (h : k < l.length) (hb : ∀ j, j < k → (atB l j).v ≠ n) (e : (atB l k).v = n) : idx l n = (k : Int) := by
  have : l.findIdx? (fun b => decide (b.v = n)) = some k := by
    rw [List.findIdx?_eq_some_iff_getElem]
    refine ⟨h, by rw [atB_eq h] at e; simpa using e, fun j hj => ?_⟩
    have := hb j hj
    rw [atB_eq (by omega)] at this
    simpa using this
  unfold idx
  rw [this]
theorem idx_none {l : List B} {n : ByteArray} (hb : ∀ j, j < l.length → (atB l j).v ≠ n) : idx l n = -1 := by
  have : l.findIdx? (fun b => decide (b.v = n)) = none := by
    rw [List.findIdx?_eq_none_iff]
    intro b hm
    obtain ⟨i, hi, rfl⟩ := List.mem_iff_getElem.1 hm
    have := hb i hi
    rw [atB_eq hi] at this
    simpa using this
  unfold idx
  rw [this]
theorem seek_here {l : List B} {n : ByteArray} {k : Nat} (h : k < l.length) (hb : ∀ j, j < k → (atB l j).v ≠ n) (e : (atB l k).v = n) : seek l n = some (atB l k).a := by
  unfold seek
  have : l.find? (fun b => decide (b.v = n)) = some l[k] := by
    rw [List.find?_eq_some_iff_getElem]
    refine ⟨by rw [atB_eq h] at e; simpa using e, k, h, rfl, fun j hj => ?_⟩
    have := hb j hj
    rw [atB_eq (by omega)] at this
    simpa using this
  rw [this, atB_eq h]
  rfl
theorem seek_no {l : List B} {n : ByteArray} (hb : ∀ j, j < l.length → (atB l j).v ≠ n) : seek l n = none := by
  rw [seek_none]
  intro b hm
  obtain ⟨i, hi, rfl⟩ := List.mem_iff_getElem.1 hm
  have := hb i hi
  rwa [atB_eq hi] at this
theorem seek_idx (l : List B) (n : ByteArray) : (∃ k, k < l.length ∧ idx l n = (k : Int) ∧ seek l n = some (atB l k).a) ∨ (idx l n = -1 ∧ seek l n = none) := by
  by_cases h : ∃ k, k < l.length ∧ (atB l k).v = n
  · obtain ⟨k, ⟨hk, he⟩, hmin⟩ : ∃ k, (k < l.length ∧ (atB l k).v = n) ∧ ∀ j, j < k → ¬ (j < l.length ∧ (atB l j).v = n) := by
      obtain ⟨k0, hk0⟩ := h
      induction k0 using Nat.strongRecOn with
      | _ k ih =>
        by_cases hm : ∃ j, j < k ∧ (j < l.length ∧ (atB l j).v = n)
        · obtain ⟨j, hj, hp⟩ := hm
          exact ih j hj hp
        · exact ⟨k, hk0, fun j hj hp => hm ⟨j, hj, hp⟩⟩
    have hb : ∀ j, j < k → (atB l j).v ≠ n := fun j hj e => hmin j hj ⟨by omega, e⟩
    exact .inl ⟨k, hk, idx_here hk hb he, seek_here hk hb he⟩
  · have hb : ∀ j, j < l.length → (atB l j).v ≠ n := fun j hj e => h ⟨j, hj, e⟩
    exact .inr ⟨idx_none hb, seek_no hb⟩

theorem same_any (v : ByteArray) (k n : Int) (s : ByteArray) (p : Nat) (t : T) (w : World) (hp : TAt w p 0 t) : Calls Tryd.prog 47 #[.agg #[.string v, .int .i8 k, .int .i64 n, .string s], .pointer (some ⟨p, 0, none⟩)] w fun e w' => e = .returned (.bool (decide (v = t.v))) ∧ Below w.heap.size w w' := by
  have hE := eq_bytes v t.v
  have hlt := World.block_lt_of_cell? _ _ hp.c0
  have BA := (Below.refl w.heap.size w).alloc (Nat.le_refl _) (.cells #[.string v, .int .i8 k, .int .i64 n, .string s] 41)
  obtain ⟨t0, t1, t2, t3⟩ := hp.below BA hlt
  clear hp t1 t2 t3
  go_enter Tryd.func47, Tryd.ntmps47
  go_wp2
  go_ret
  first
    | exact ⟨rfl, BA⟩
    | exact ⟨ret_bool hE, BA⟩

set_option maxHeartbeats 800000 in
theorem indexFunc_any (v : Value) (l : List B) (p : Nat) (t : T) (w : World) (hl : Lb w v l) (hp : TAt w p 0 t) : Calls Tryd.prog 46 #[v, .func (.func 47) #[] #[.pointer (some ⟨p, 0, none⟩)]] w fun e w' => e = .returned (.int .i64 (idx l t.v)) ∧ Below w.heap.size w w' := by
  obtain ⟨a, c, rfl, hc1, hc2, hat⟩ := hl.form
  have hmax : l.length ≤ maxLen := Nat.le_trans hc1 hc2
  unfold maxLen at hmax
  have HAT : Hid _ := hat
  have HP : Hid _ := hp
  have hplt : p < w.heap.size := World.block_lt_of_cell? _ _ hp.c0
  clear hat hp hl
  go_enter Tryd.func46, Tryd.ntmps46
  go_wp2
  go_loopw [8] (fun i wr => ∃ k : Nat, k ≤ l.length ∧ i = .int .i64 k ∧ Below w.heap.size w wr ∧ Hid (∀ j, j < k → (atB l j).v ≠ t.v)) (fun i _ => l.length - (intOf i).toNat)
  case atStart => exact ⟨0, Nat.zero_le _, rfl, Below.refl _ _, fun j hj => absurd hj (by omega)⟩
  case round =>
    obtain ⟨k, hk, rfl, bel, HS⟩ := hrel
    by_cases hlt : k < l.length
    · have hlt' : (k : Int) < (l.length : Int) := by omega
      obtain ⟨g, off, rfl, hg, hT⟩ := HAT.out (by omega)
      obtain ⟨x0, x1, x2, x3⟩ := (hT k hlt).below bel hg
      simp only at x0 x1 x2 x3
      have HY : Hid ((atB l k).v = t.v → idx l t.v = (k : Int)) := fun e => idx_here hlt HS.out e
      have HN : Hid (¬ (atB l k).v = t.v → ∀ j, j < k + 1 → (atB l j).v ≠ t.v) := fun e j hj => by
        by_cases h : j = k
        · rw [h]; exact e
        · exact HS.out j (by omega)
      clear HAT hT HS
      generalize atB l k = b at *
      go_wp2_with fail
      refine (same_any b.v b.a.k b.a.n b.a.s p t _ (HP.out.below bel hplt)).mono ?_
      rintro e w1 ⟨rfl, b1⟩
      have b1' := bel.trans (b1.mono bel.size)
      by_cases e : b.v = t.v
      · rw [decide_eq_true e]
        have HV : Hid _ := HY.out e
        clear e
        go_wp2
        go_ret
        exact ⟨ret_int HV.out.symm, b1'⟩
      · rw [decide_eq_false e]
        have HV : Hid _ := HN.out e
        clear e
        go_wp2
        go_roundw
        case rel => exact ⟨k + 1, by omega, by go_num, b1', HV.out⟩
        case measure => simp [intOf]; omega
    · obtain rfl : k = l.length := by omega
      have HV : Hid _ := idx_none HS.out
      go_wp2
      go_ret
      exact ⟨ret_int HV.out.symm, bel⟩
theorem val_results {fn : Func} {sl so : Nat} (hr : fn.results = #[.cell sl 26, .tmp so]) {W : World} {tmps : Array Value} {b : Nat} {x0 x1 x2 ok : Value} (h2 : tmps.getD sl undef = .pointer (some ⟨b, 0, none⟩)) (h3 : tmps.getD so undef = ok)
    (c0 : W.cell? ⟨b, 0, none⟩ = some x0) (c1 : W.cell? ⟨b, 1, none⟩ = some x1) (c2 : W.cell? ⟨b, 2, none⟩ = some x2) :
    (results fn tmps).run Tryd.prog W = .ok (.tuple #[.agg #[x0, x1, x2], ok]) W := by
  have hl : (loadVar 26 ⟨b, 0, none⟩).run Tryd.prog W = .ok (.agg #[x0, x1, x2]) W := by
    refine run_loadVar_mid W b 0 26 [x0, x1, x2] _ (fun j v hj => ?_) Tryd.underlying26 rfl (by kernel_rfl)
    match j, hj with
    | 0, hj => simp at hj; subst hj; exact c0
    | 1, hj => simp at hj; subst hj; exact c1
    | 2, hj => simp at hj; subst hj; exact c2
  have e0 : results fn tmps = (do
      let x ← asAddr (tmps.getD sl undef)
      let x ← loadVar 26 x
      pure (.tuple #[x, tmps.getD so undef])) := by
    simp [results, hr]
  rw [e0, h2, h3]
  simp [asAddr, hl, Result.andThen]
/-- the cells of a value in block b, that may be written -/
def Own3 (w : World) (b : Nat) : Prop := (∃ y0 y1 y2, w.cell? ⟨b, 0, none⟩ = some y0 ∧ w.cell? ⟨b, 1, none⟩ = some y1 ∧ w.cell? ⟨b, 2, none⟩ = some y2) ∧
  w.frozen? ⟨b, 0, none⟩ = false ∧ w.frozen? ⟨b, 1, none⟩ = false ∧ w.frozen? ⟨b, 2, none⟩ = false ∧ b < w.heap.size
theorem own3 {w w1 : World} {a b c : Value} {T : TypeId} (hb : Below (w.alloc (.cells #[a, b, c] T)).heap.size (w.alloc (.cells #[a, b, c] T)) w1) : Own3 w1 w.heap.size :=
  ⟨⟨_, _, _, kept_cell hb 0 _ rfl, kept_cell hb 1 _ rfl, kept_cell hb 2 _ rfl⟩, kept_frozen hb 0, kept_frozen hb 1, kept_frozen hb 2, kept_lt hb⟩
theorem Own3.below {w w1 : World} {b : Nat} (h : Own3 w b) (hb : Below w.heap.size w w1) : Own3 w1 b := by
  obtain ⟨⟨y0, y1, y2, c0, c1, c2⟩, f0, f1, f2, hl⟩ := h
  refine ⟨⟨y0, y1, y2, ?_, ?_, ?_⟩, ?_, ?_, ?_, Nat.lt_of_lt_of_le hl hb.size⟩
  all_goals first | rw [hb.cell (by exact hl)]; assumption | rw [hb.frozen (by exact hl)]; assumption
theorem val_done {fn : Func} {sl so : Nat} (hr : fn.results = #[.cell sl 26, .tmp so]) {w w1 : World} {tmps : Array Value} {b : Nat} {x0 x1 x2 ok v : Value}
    (ho : Own3 w1 b) (hB : w.heap.size ≤ b) (hb : Below w.heap.size w w1)
    (h2 : tmps.getD sl undef = .pointer (some ⟨b, 0, none⟩)) (h3 : tmps.getD so undef = ok) (hv : v = .tuple #[.agg #[x0, x1, x2], ok]) :
    bodyPost Tryd.prog fn (fun e w' => e = .returned v ∧ Below w.heap.size w w') .ret { tmps := tmps, defers := [] }
      (((w1.setCell ⟨b, 0, none⟩ x0).setCell ⟨b, 1, none⟩ x1).setCell ⟨b, 2, none⟩ x2) := by
  obtain ⟨⟨y0, y1, y2, c0, c1, c2⟩, f0, f1, f2, hl⟩ := ho
  refine bodyPost_ret (val_results hr (x0 := x0) (x1 := x1) (x2 := x2) h2 h3 ?_ ?_ ?_) rfl ⟨by rw [hv], ?_⟩
  · go_simp
  · go_simp
  · go_simp
  · exact (((hb.setCell (p := ⟨b, 0, none⟩) hB _).setCell (p := ⟨b, 1, none⟩) hB _).setCell (p := ⟨b, 2, none⟩) hB _)
def optV (o : Option V) : Value := match o with | some a => .tuple #[.agg #[.int .i8 a.k, .int .i64 a.n, .string a.s], .bool true] | none => .tuple #[.agg #[.int .i8 0, .int .i64 0, .string ⟨#[]⟩], .bool false]
set_option maxHeartbeats 800000 in
theorem valueOf_any (t : T) (v : Value) (l : List B) (w : World) (ht : t.wf) (hl : Lb w v l) : Calls Tryd.prog 35 #[.agg #[.string t.v, .int .i8 t.a.k, .int .i64 t.a.n, .string t.a.s], v] w fun e w' => e = .returned (optV (valOf t l)) ∧ Below w.heap.size w w' := by
  obtain ⟨a, c, rfl, hc1, hc2, hat⟩ := hl.form
  have hmax : l.length ≤ maxLen := Nat.le_trans hc1 hc2
  unfold maxLen at hmax
  have HAT : Hid _ := hat
  have HWF : Hid (∀ b ∈ l, b.wf) := hl.wf
  have HL : Hid _ := hl
  clear hat hl
  obtain ⟨r, HR⟩ : ∃ r, Hid (optV (valOf t l) = r) := ⟨_, rfl⟩
  rw [HR.out]
  have b0 := ((Below.refl w.heap.size w).alloc (Nat.le_refl _) (.cells #[.string t.v, .int .i8 t.a.k, .int .i64 t.a.n, .string t.a.s] 28)).alloc (by simp) (.cells #[.int .i8 0, .int .i64 0, .string ⟨#[]⟩] 26)
  have HO0 : Hid (Own3 ((w.alloc (.cells #[.string t.v, .int .i8 t.a.k, .int .i64 t.a.n, .string t.a.s] 28)).alloc (.cells #[.int .i8 0, .int .i64 0, .string ⟨#[]⟩] 26)) (w.heap.size + 1)) := by
    have := own3 (Below.refl _ ((w.alloc (.cells #[.string t.v, .int .i8 t.a.k, .int .i64 t.a.n, .string t.a.s] 28)).alloc (.cells #[.int .i8 0, .int .i64 0, .string ⟨#[]⟩] 26)))
    show Own3 _ _
    simpa using this
  have HT0 : Hid (TAt ((w.alloc (.cells #[.string t.v, .int .i8 t.a.k, .int .i64 t.a.n, .string t.a.s] 28)).alloc (.cells #[.int .i8 0, .int .i64 0, .string ⟨#[]⟩] 26)) w.heap.size 0 t) := by
    refine ⟨?_, ?_, ?_, ?_⟩ <;> go_simp
  go_enter Tryd.func35, Tryd.ntmps35
  go_upto_region 1 with fail
  generalize (w.alloc (.cells #[.string t.v, .int .i8 t.a.k, .int .i64 t.a.n, .string t.a.s] 28)).alloc (.cells #[.int .i8 0, .int .i64 0, .string ⟨#[]⟩] 26) = W at b0 HO0 HT0 ⊢
  have hzW : w.heap.size + 1 < W.heap.size := HO0.out.2.2.2.2
  by_cases e0 : t.v = noS
  · have he : t.v.toList.isEmpty = true := by rw [e0, ByteArray.toList_eq]; rfl
    have HV : Hid (r = .tuple #[.agg #[.int .i8 t.a.k, .int .i64 t.a.n, .string t.a.s], .bool true]) := by
      show r = _
      rw [← HR.out]
      unfold valOf
      rw [if_pos e0]
      rfl
    obtain ⟨t0, t1, t2, t3⟩ := HT0.out
    simp only [Nat.zero_add] at t1 t2 t3
    obtain ⟨⟨y0, y1, y2, o0, o1, o2⟩, f0, f1, f2, _⟩ := HO0.out
    clear e0
    go_wp2
    refine val_done Tryd.results35 (b := w.heap.size + 1) (ok := .bool true) HO0.out (by omega) b0 ?_ ?_ ?_
    · rfl
    · rfl
    · exact HV.out
  · have he := some_iff t.v e0
    have hI := seek_idx l t.v
    have HV0 : Hid (valOf t l = (seek l t.v).filter okV) := by show _ = _; unfold valOf; rw [if_neg e0]
    obtain ⟨t0, t1, t2, t3⟩ := HT0.out
    clear t1 t2 t3 e0
    go_wp2_with fail
    refine (indexFunc_any _ l w.heap.size t W (HL.out.below b0) HT0.out).mono ?_
    rintro e w1 ⟨rfl, b1⟩
    have b1' := b0.trans (b1.mono b0.size)
    have HO1 : Hid (Own3 w1 (w.heap.size + 1)) := HO0.out.below b1
    obtain ⟨⟨y0, y1, y2, o0, o1, o2⟩, f0, f1, f2, hz1⟩ := HO1.out
    clear t0 b1
    rcases hI with ⟨k, hk, hidx, hsk⟩ | ⟨hidx, hsk⟩
    · rw [hidx]
      have hk' : (k : Int) < (l.length : Int) := by omega
      have hk0 : ¬ (k : Int) < 0 := by omega
      have hk1 : (0 : Int) ≤ (k : Int) := by omega
      obtain ⟨g, off, rfl, hg, hT⟩ := HAT.out (by omega)
      obtain ⟨x0, x1, x2, x3⟩ := (hT k hk).below b1' hg
      simp only at x0 x1 x2 x3
      have hbw := atB_wf HWF.out k
      clear HAT hT hidx x0
      generalize atB l k = b at *
      have HS : Hid _ := hsk
      clear hsk
      go_wp2_with fail
      refine (vcheck_any b.a.k b.a.n b.a.s _ hbw.val.text).mono ?_
      rintro e w2 ⟨rfl, b2⟩
      have b2' := b1'.trans (b2.mono b1'.size)
      have HO2 : Hid (Own3 w2 (w.heap.size + 1)) := Own3.below HO1.out b2
      have hgl : g < w1.heap.size := World.block_lt_of_cell? _ _ x1
      have z1 : w2.cell? ⟨g, off + k * 4 + 1, none⟩ = some (.int .i8 b.a.k) := by rw [b2.cell (p := ⟨g, _, none⟩) hgl]; exact x1
      have z2 : w2.cell? ⟨g, off + k * 4 + 2, none⟩ = some (.int .i64 b.a.n) := by rw [b2.cell (p := ⟨g, _, none⟩) hgl]; exact x2
      have z3 : w2.cell? ⟨g, off + k * 4 + 3, none⟩ = some (.string b.a.s) := by rw [b2.cell (p := ⟨g, _, none⟩) hgl]; exact x3
      clear x1 x2 x3 o0 o1 o2 f0 f1 f2 b2 hgl
      obtain ⟨⟨y0, y1, y2, o0, o1, o2⟩, f0, f1, f2, _⟩ := HO2.out
      by_cases hc : chk b.a.k b.a.n b.a.s = 0
      · rw [hc]
        have HV : Hid (r = .tuple #[.agg #[.int .i8 b.a.k, .int .i64 b.a.n, .string b.a.s], .bool true]) := by
          show r = _
          rw [← HR.out, HV0.out, HS.out]
          have : okV b.a = true := by unfold okV chkV; rw [hc]; rfl
          simp [Option.filter, this, optV]
        clear hc
        go_wp2
        refine val_done Tryd.results35 (b := w.heap.size + 1) (ok := .bool true) HO2.out (by omega) b2' ?_ ?_ ?_
        · rfl
        · rfl
        · exact HV.out
      · have HV : Hid (r = .tuple #[.agg #[.int .i8 0, .int .i64 0, .string ⟨#[]⟩], .bool false]) := by
          show r = _
          rw [← HR.out, HV0.out, HS.out]
          have : okV b.a = false := by unfold okV chkV; simpa using hc
          simp [Option.filter, this, optV]
        rw [chk_ten hc]
        clear hc
        go_wp2
        refine val_done Tryd.results35 (b := w.heap.size + 1) (ok := .bool false) HO2.out (by omega) b2' ?_ ?_ ?_
        · rfl
        · rfl
        · exact HV.out
    · rw [hidx]
      have HV : Hid (r = .tuple #[.agg #[.int .i8 0, .int .i64 0, .string ⟨#[]⟩], .bool false]) := by
        show r = _
        rw [← HR.out, HV0.out, hsk]
        rfl
      clear hidx hsk
      go_wp2
      refine val_done Tryd.results35 (b := w.heap.size + 1) (ok := .bool false) HO1.out (by omega) b1' ?_ ?_ ?_
      · rfl
      · rfl
      · exact HV.out
end Go.Proofs.YtkgoceomkkohmaaDoor
