import Derived.Test.YtheihplldbccpaaGreatDoorLmLm
namespace Go.Proofs.YtheihplldbccpaaGreatDoor
open Go.RowKit Go.Maps
set_option linter.unusedVariables false
set_option linter.unusedSimpArgs false
attribute [local go_sem ↓] Go.wp_at_zero Go.wp_at_succ
attribute [-go_sem] loadVar storeVar

theorem run_makeVs (u : World) : (Instr.makeMap 71 none).run Tryz.prog u = .ok (.map (some u.heap.size)) (u.alloc (.map #[] 0)) := by kernel_rfl
/-- what Limited tells -/
def LmP (B : Nat) (qs : List Qn) (f0 : List ByteArray) (w : World) (e : Ending) (w' : World) : Prop :=
  ∃ sv fs, e = .returned sv ∧ w'.ownsRow B 9 1 sv fs.length (fs.flatMap strB) ∧ Below B w w' ∧ (∃ k, fs = itQ qs k f0) ∧ rndQ qs fs = fs
/-- the rounds: what they found, and what waits -/
structure Itr (qs : List Qn) (f0 fs : List ByteArray) (L : List Er) : Prop where
  it : ∃ k, fs = itQ qs k f0
  wt : Wt fs qs (L.map Er.q)
  ln : fs.length + L.length ≤ 1000000000
theorem Itr.next {qs : List Qn} {f0 fs : List ByteArray} {L L' : List Er} (h : Itr qs f0 fs L) (hok : ∀ q ∈ qs, OkQ q) (hq : L'.map Er.q = (progR (L.map Er.q) fs).2) (hl : (progR (L.map Er.q) fs).1.length + L'.length = fs.length + L.length) : Itr qs f0 (progR (L.map Er.q) fs).1 L' := by
  obtain ⟨k, hk⟩ := h.it
  obtain ⟨h1, h2⟩ := Wt.round qs _ fs hok h.wt
  refine ⟨⟨k + 1, ?_⟩, by rw [hq]; exact h2, by rw [hl]; exact h.ln⟩
  rw [itQ_succ, ← hk, h1]
theorem Itr.still {qs : List Qn} {f0 fs : List ByteArray} {L L' : List Er} (h : Itr qs f0 fs L) (hok : ∀ q ∈ qs, OkQ q) (hq : L'.map Er.q = (progR (L.map Er.q) fs).2) (hl : ¬ L'.length < L.length) : (progR (L.map Er.q) fs).1 = fs ∧ rndQ qs fs = fs := by
  have h0 := progR_len (L.map Er.q) fs
  rw [← hq, List.length_map, List.length_map] at h0
  have h1 := h0.2 (by omega)
  exact ⟨h1, by rw [(Wt.round qs _ fs hok h.wt).1, h1]⟩
set_option maxHeartbeats 6400000 in
set_option maxRecDepth 100000 in
theorem limited_any (d : Nat) (v : Value) (l : List XL) (w : World) (hL : Lb w v (d + 1) l) (hts : ∀ i, i < l.length → (atL l i).x.ts.length ≤ 1048576) (hn : (avL l).length ≤ 1048576) (hll : l.length ≤ 1048576) (hsz : ∀ i, i < l.length → szD (d + 1) (atL l i).x.l ≤ 1048576 ∧ szD (d + 1) (atL l i).x.r ≤ 1048576) :
    Calls Tryz.prog 17 #[v] w fun e w' => LmP w.heap.size (eqL (d + 1) l) (atN l) w e w' := by
  have b02 : Below w.heap.size w ((w.alloc (.map #[] 0)).alloc (.cells #[.map (some w.heap.size), .slice none 0 0] 73)) := (belowA (w := w) (.map #[] 0)).trans ((belowA (w := w.alloc (.map #[] 0)) _).mono (by simp))
  have HAT0 := Lib.hid (atomVarsP_any (d + 1) v l _ (hL.below b02) hts hn hll)
  have HFD0 := Lib.hid (fd_new w)
  have HB02 := Lib.hid b02
  have HZ2 : Hid (((w.alloc (.map #[] 0)).alloc (.cells #[.map (some w.heap.size), .slice none 0 0] 73)).heap.size = w.heap.size + 2) := by show _ = _; simp
  have HIS : Hid (∀ i, i < l.length → ∀ u, Below w.heap.size w u → LIs u (d + 1) (atL l i).x (atL l i).p) := fun i hi u hu => (hL.at_is hi).below hu
  have HNM := Lib.hid (av_names hL)
  have HSZ := Lib.hid hsz
  have HOK := Lib.hid (eqL_ok (d + 1) l)
  obtain ⟨qs, hqs⟩ : ∃ qs, eqL (d + 1) l = qs := ⟨_, rfl⟩
  rw [hqs] at HOK ⊢
  have HQS := Lib.hid hqs
  clear hqs
  have HAN : Hid (atN l = (avL l).foldl addN []) := rfl
  have hmf : ∀ (fn : Fn) (first cap : Array Value) (w : World), (Instr.makeFunc fn first cap).run Tryz.prog w = .ok (.func fn first cap) w := fun _ _ _ _ => rfl
  have hmk := run_makeVs w
  obtain ⟨a, c, rfl, hc1, hc2, hat⟩ := hL.form
  have HAT := Lib.hid hat
  clear hat hL hts hsz b02
  generalize avL l = ns at HAT0 HNM HAN hn
  generalize atN l = f0 at HAN
  go_enter Tryz.func17, Tryz.ntmps17
  go_wp2_with fail
  refine HAT0.out.mono ?_
  clear HAT0
  generalize (w.alloc (.map #[] 0)).alloc (.cells #[.map (some w.heap.size), .slice none 0 0] 73) = W2 at HFD0 HB02 HZ2
  rintro ee w2 ⟨sv2, rfl, hown2, b2⟩
  have HLN := ls_own hown2
  have HF2 : Hid (Fnd w.heap.size (w.heap.size + 1) w.heap.size W2.heap.size w w2 [] [] (.slice none 0 0) w2) := by
    have hz := HZ2.out
    have hs := b2.size
    refine ⟨HFD0.out.below b2, HB02.out.trans (b2.mono (by omega)), ?_, fun _ _ _ => rfl, ⟨by omega, Nat.le_refl _, by omega⟩⟩
    rintro k (e | e | e | ⟨x, hx, _⟩)
    · exact .inl (by omega)
    · exact .inl (by omega)
    · simp [Value.ownBlock] at e
    · cases hx
  have HOB : Hid (∀ g, sv2.ownBlock = some g → W2.heap.size ≤ g ∧ g < w2.heap.size) := fun g hg => hown2.lt g hg
  obtain ⟨a2, c2, rfl, hnl0, hnl1, hnt⟩ := ls_str HLN
  have HNG : Hid (0 < ns.length → ∃ g off, a2 = some ⟨g, off, none⟩ ∧ W2.heap.size ≤ g ∧ g < w2.heap.size ∧ ∀ i, i < ns.length → w2.cell? ⟨g, off + i, none⟩ = some (.string (atS ns i))) := fun h0 => by
    obtain ⟨g, off, ha, hg, hc⟩ := hnt h0
    subst ha
    have hob : (Value.slice (some ⟨g, off, none⟩) ns.length c2).ownBlock = some g := by
      have h1 := hown2
      obtain ⟨_, ⟨h2, _⟩ | ⟨g2, cap, cur, h2, _⟩⟩ := h1
      · cases h2
      · injection h2 with h2 _ _
        injection h2 with h2
        injection h2 with h2 _ _
        subst h2
        rfl
    exact ⟨g, off, rfl, (HOB.out g hob).1, hg, hc⟩
  clear hnt hnl0 hnl1 hown2 b2 HLN HOB HFD0 HB02 HZ2
  go_wp2
  go_loopw [15] (fun i wr => ∃ (k : Nat) (vs : List Vb) (fs : List ByteArray) (sv : Value), k ≤ ns.length ∧ i = .int .i64 k ∧ Hid (fs = (ns.take k).foldl addN []) ∧ Hid (Fnd w.heap.size (w.heap.size + 1) w.heap.size W2.heap.size w w2 vs fs sv wr)) (fun i _ => ns.length - (intOf i).toNat)
  case atStart => exact ⟨0, [], [], .slice none 0 0, Nat.zero_le _, rfl, rfl, HF2⟩
  case round =>
    clear HF2
    obtain ⟨k, vs, fs, sv, hk, rfl, HFS, HF⟩ := hrel
    obtain ⟨U, rfl⟩ : ∃ U, U = wr := ⟨_, rfl⟩
    by_cases hlt : k < ns.length
    · have hlt' : (k : Int) < (ns.length : Int) := by omega
      have hk0 : (0 : Int) ≤ (k : Int) := by omega
      obtain ⟨g2, off2, rfl, hgl, hgu, hcs⟩ := HNG.out (by omega)
      have hx0 : (loadVar 9 ⟨g2, off2 + k, none⟩).run Tryz.prog U = .ok (.string (atS ns k)) U := load_s (by rw [World.cell?_of_block (w := w2) (HF.out.kp g2 hgl hgu)]; exact hcs k hlt)
      have HNX := Lib.hid (foldl_takeS hlt [])
      rw [← HFS.out] at HNX
      have hfl : fs.length ≤ 1000000000 := by
        have := foldl_take_len ns k
        rw [← HFS.out] at this
        omega
      have HV := Lib.hid (variable_any HF.out.fd (Nat.le_trans HF.out.zz.1 HF.out.zz.2.1) (atS ns k) (HNM.out _ (by rw [atS_eq hlt]; exact List.getElem_mem hlt)))
      generalize atS ns k = nm at hx0 HNX HV
      clear hcs HFS
      go_wp2_with fail
      refine HV.out.mono ?_
      rintro ee w3 ⟨vs', x, rfl, hx, hxv, hm, hf, ht⟩
      have HF3 := Lib.hid (HF.out.more hf hm ht)
      have HC := Lib.hid (find_any HF3.out.fd (Nat.le_trans HF3.out.zz.1 HF3.out.zz.2.1) x hx hfl)
      have HXV := Lib.hid hxv
      clear hx hxv hm hf ht HV HF
      unfold ptrV
      go_wp2_with fail
      refine HC.out.mono ?_
      rintro ee w4 ⟨⟨u, rfl⟩, sv', hf, ht, hn'⟩
      have HF4 := Lib.hid (HF3.out.found hf ht hn')
      clear hf ht hn' HC HF3
      rw [HXV.out, ← HNX.out] at HF4
      go_wp2
      go_roundw
      case rel => exact ⟨k + 1, vs', _, sv', by omega, by go_num, rfl, HF4⟩
      case measure => simp [intOf]; omega
    · obtain rfl : k = ns.length := by omega
      rw [List.take_length, ← HAN.out] at HFS
      obtain rfl : fs = f0 := HFS.out
      have HL0 : Hid (Lst w.heap.size (w.heap.size + 1) w.heap.size U.heap.size w vs fs sv (.slice none 0 0) [] (U.alloc (.cells #[.slice none 0 0] 79))) := by
        have hb := belowA (w := U) (.cells #[.slice none 0 0] 79)
        have hz := HF.out.zz
        refine ⟨HF.out.fd.below hb, ⟨fun r hr => (by cases hr), by simp, fun r hr => (by cases hr)⟩, ⟨rl_new U #[.slice none 0 0] _, World.ownsRow_nil _ _ _ _, fun g hg => by simp [Value.ownBlock] at hg⟩, ?_, HF.out.bl.trans (hb.mono (by omega)), fun r hr => (by cases hr), by omega, by simp; omega⟩
        rintro j (e | e)
        · exact ⟨fun hf => by have := HF.out.fd.lt j hf; omega, fun r hr => (by cases hr)⟩
        · simp [Value.ownBlock] at e
      have hfl : fs.length ≤ 1048576 := by
        have := foldN_len ns []
        rw [← HAN.out] at this
        simp only [List.length_nil] at this
        omega
      clear HFS HF HNM HNG hlt hk
      go_wp2
      clear hmk
      generalize U.alloc (.cells #[.slice none 0 0] 79) = W3 at HL0 ⊢
      generalize U.heap.size = bw at HL0 ⊢
      go_loopw [27] (fun i wr => ∃ (k : Nat) (vs : List Vb) (svw : Value) (L : List Er), k ≤ l.length ∧ i = .int .i64 k ∧ Hid (L.map Er.q = eqL (d + 1) (l.take k)) ∧ Hid (Lst w.heap.size (w.heap.size + 1) w.heap.size bw w vs fs sv svw L wr)) (fun i _ => l.length - (intOf i).toNat)
      case atStart => exact ⟨0, vs, .slice none 0 0, [], Nat.zero_le _, rfl, rfl, HL0⟩
      case round =>
        clear HL0
        obtain ⟨k, vs, svw, L, hk, rfl, HLQ, HS⟩ := hrel
        obtain ⟨V, rfl⟩ : ∃ V, V = wr := ⟨_, rfl⟩
        have hlen : L.length ≤ k := by
          have h1 := congrArg List.length HLQ.out
          have h2 := eqL_len (d + 1) (l.take k)
          rw [List.length_map] at h1
          rw [List.length_take] at h2
          omega
        by_cases hlt : k < l.length
        · have hlt' : (k : Int) < (l.length : Int) := by omega
          have hk0 : (0 : Int) ≤ (k : Int) := by omega
          obtain ⟨g, off, rfl, hg, hT⟩ := HAT.out (by omega)
          have r1 := range_below (hT k hlt) HS.out.bl hg
          have HNX0 := Lib.hid (eqL_take (d := d + 1) hlt)
          rw [← HLQ.out] at HNX0
          have HXI := Lib.hid (HIS.out k hlt)
          have HXZ := Lib.hid (HSZ.out k hlt)
          obtain ⟨y, hy⟩ : ∃ y, atL l k = y := ⟨_, rfl⟩
          rw [hy] at r1 HNX0 HXI HXZ
          have hld := load_Lit r1 rfl
          have hst : (storeVar 55 ⟨V.heap.size, 0, none⟩ (.agg y.cells.toArray)).run Tryz.prog (V.alloc (.cells #[.int .i8 0, .string ⟨#[]⟩, .slice none 0 0, .int .i8 0, .int .i8 0, .string ⟨#[]⟩, .int .i8 0, .int .i64 0, .string ⟨#[]⟩, .slice none 0 0, .int .i8 0, .string ⟨#[]⟩, .int .i8 0, .int .i64 0, .string ⟨#[]⟩, .slice none 0 0] 55)) = .ok () (V.alloc (.cells y.cells.toArray 55)) := run_storeVar_new V 55 #[.int .i8 0, .string ⟨#[]⟩, .slice none 0 0, .int .i8 0, .int .i8 0, .string ⟨#[]⟩, .int .i8 0, .int .i64 0, .string ⟨#[]⟩, .slice none 0 0, .int .i8 0, .string ⟨#[]⟩, .int .i8 0, .int .i64 0, .string ⟨#[]⟩, .slice none 0 0] y.cells.toArray (by kernel_rfl) rfl (oneCells_lit _)
          have BA := belowA (w := V) (.cells y.cells.toArray 55)
          have HRN := Lib.hid (rl_new V y.cells.toArray 55)
          have HS2 := Lib.hid (HS.out.below BA)
          have HLB : Hid (¬ FP (w.heap.size + 1) w.heap.size vs sv V.heap.size ∧ ¬ WP bw svw V.heap.size) := ⟨fun e => by have := HS.out.fd.lt _ e; omega, fun e => by have := HS.out.wk.lt _ e; omega⟩
          clear hT r1 hy BA HS
          generalize V.alloc (.cells y.cells.toArray 55) = W1 at hst HRN HS2
          obtain ⟨hf1, hf2, -, -⟩ := lit_fields (y := y) HRN.out
          generalize Value.agg y.cells.toArray = QV at hld hst
          by_cases hq : y.x.k = 3 ∧ y.x.rel = 1
          · have e1 : (y.x.k == 3) = true := by rw [hq.1]; rfl
            have e2 : (y.x.rel == 1) = true := by rw [hq.2]; rfl
            have HQX : Hid (∀ r : Er, r.q = (sdE (d + 1) y.x.l, sdE (d + 1) y.x.r) → (L ++ [r]).map Er.q = eqL (d + 1) (l.take (k + 1))) := fun r hr => by
              rw [HNX0.out, List.map_append, List.map_cons, List.map_nil, hr]
              unfold eqX
              rw [if_pos hq]
            have hD : Below W1.heap.size W1 W1.drew := (Below.refl _ _).drew
            have HC := Lib.hid (eq_calls (d := d) (HS2.out.below hD) (HXI.out _ (HS2.out.below hD).bl) (Nat.le_trans HS2.out.zz hD.size) (RL.below HRN.out hD) HLB.out.1 HLB.out.2 HXZ.out (by omega) (fun u' ht => HXI.out u' (Tz.below (HS2.out.below hD).bl ht (Nat.le_trans HS2.out.zz hD.size) (fun b e => by rw [e]; exact Nat.le_refl _))))
            have HRD := Lib.hid (RL.below HRN.out hD)
            have HFL : Hid (∀ u, RL u V.heap.size 55 y.cells → (loadVar 53 ⟨V.heap.size, 4, none⟩).run Tryz.prog u = .ok (y.x.l.val y.p.la y.p.lc) u ∧ (loadVar 53 ⟨V.heap.size, 10, none⟩).run Tryz.prog u = .ok (y.x.r.val y.p.ra y.p.rc) u) := fun u hu => ⟨(lit_fields hu).2.2.1, (lit_fields hu).2.2.2⟩
            clear hq HXI HXZ HNX0 HS2 HLB hD HRN HLQ
            generalize y.x.l.val y.p.la y.p.lc = EL at HC HFL
            generalize y.x.r.val y.p.ra y.p.rc = ER at HC HFL
            go_upto_region 12 with fail
            clear hf1 hf2 e1 e2 hld hst
            refine wp_region_noPanic ?_
            refine wp_region_held (S := fun u => RL u V.heap.size 55 y.cells) (by kernel_rfl) ?_
            refine lmreg12 (w5 := W1) (S := fun u => RL u V.heap.size 55 y.cells) (bf := w.heap.size + 1) (bw := bw) (lb := V.heap.size) (EL := EL) (ER := ER) (P := fun u => ∃ vs' svw' r, r.q = (sdE (d + 1) y.x.l, sdE (d + 1) y.x.r) ∧ Lst w.heap.size (w.heap.size + 1) w.heap.size bw w vs' fs sv svw' (L ++ [r]) u) rfl rfl rfl rfl rfl rfl rfl rfl rfl rfl rfl (by kernel_rfl) (by kernel_rfl) (by kernel_rfl) (by kernel_rfl) (by kernel_rfl) (by kernel_rfl) (by kernel_rfl) (fun _ _ _ _ _ h => h) (by simp) rfl rfl rfl HRD.out (fun _ _ _ h => h) (fun u hu => (HFL.out u hu).1) (fun u hu => (HFL.out u hu).2) HC.out ?_
            intro wc u2 o1 o2 a1 a2 n1 n2 c1 c2 v3 hP
            obtain ⟨vs', svw', r, hrq, hS3⟩ := hP
            have HS3 := Lib.hid hS3
            have HRQ := Lib.hid (HQX.out r hrq)
            clear hS3 hrq HC HFL HRD HQX
            refine NoPanic.normal ?_
            rename_i hK
            refine hK _ _ ?_
            simp (config := { maxSteps := 8000000 }) only [Act.put, List.getElem_toArray, List.getElem_cons_zero, List.getElem_cons_succ, List.setIfInBounds_toArray, List.set_cons_succ, List.set_cons_zero]
            go_wp2
            go_roundw
            case rel => exact ⟨k + 1, vs', svw', L ++ [r], by omega, by go_num, HRQ, HS3⟩
            case measure => simp [intOf]; omega
          · have HQX : Hid (L.map Er.q = eqL (d + 1) (l.take (k + 1))) := by
              show _ = _
              rw [HNX0.out]
              unfold eqX
              rw [if_neg hq, List.append_nil]
            clear HNX0 HXI HXZ HLB HRN HLQ
            by_cases h1 : y.x.k = 3
            · have e1 : (y.x.k == 3) = true := by rw [h1]; rfl
              have e2 : (y.x.rel == 1) = false := by rw [beq_eq_false_iff_ne]; exact fun h2 => hq ⟨h1, h2⟩
              clear h1 hq
              go_wp2
              go_roundw
              case rel => exact ⟨k + 1, vs, svw, L, by omega, by go_num, HQX, HS2⟩
              case measure => simp [intOf]; omega
            · have e1 : (y.x.k == 3) = false := by rw [beq_eq_false_iff_ne]; exact h1
              clear h1 hq
              go_wp2
              go_roundw
              case rel => exact ⟨k + 1, vs, svw, L, by omega, by go_num, HQX, HS2⟩
              case measure => simp [intOf]; omega
        · obtain rfl : k = l.length := by omega
          rw [List.take_length] at HLQ
          have HIT : Hid (Itr qs fs fs L) := ⟨⟨0, rfl⟩, by rw [HLQ.out, HQS.out]; exact Wt.all _ _, by omega⟩
          clear HLQ hlt hk hlen HAT HIS HSZ HAN
          go_wp2
          go_loopw [] (fun wr => ∃ (fs' : List ByteArray) (sv' svw' : Value) (L' : List Er), Hid (Itr qs fs fs' L') ∧ Hid (Lst w.heap.size (w.heap.size + 1) w.heap.size bw w vs fs' sv' svw' L' wr)) (fun wr => slLnC (wr.cell? ⟨bw, 0, none⟩))
          case atStart => exact ⟨fs, sv, svw, L, HIT, HS⟩
          case round =>
            clear HIT HS hfl
            obtain ⟨fs1, sv1, svw1, L1, HIT, HS⟩ := hrel
            obtain ⟨X, rfl⟩ : ∃ X, X = wr := ⟨_, rfl⟩
            have HC := Lib.hid (round_any HS.out.fd HS.out.eq HS.out.wk HS.out.wa HS.out.zz HIT.out.ln)
            have HM0 : Hid (slLnC (X.cell? ⟨bw, 0, none⟩) = L1.length) := by
              show _ = _
              have h1 := HS.out.wk.r.at (j := 0) rfl
              obtain ⟨sa, sc, e, _⟩ := own_form HS.out.wk.own
              rw [h1, e]
              exact List.length_map _
            unfold solveF at HC
            go_wp2_with fail
            refine HC.out.mono ?_
            intro e w4 hr
            obtain ⟨sv4, svw4, L4, rfl, hq4, hl4, hS4⟩ := HS.out.round hr
            have HIT4 := Lib.hid (HIT.out.next HOK.out hq4 hl4)
            have HS4 := Lib.hid hS4
            have HST : Hid (¬ L4.length < L1.length → (progR (L1.map Er.q) fs1).1 = fs1 ∧ rndQ qs fs1 = fs1) := fun h => HIT.out.still HOK.out hq4 h
            clear hr hq4 hl4 hS4 HC
            by_cases hb : L4.length < L1.length
            · have HM4 : Hid (slLnC (w4.cell? ⟨bw, 0, none⟩) < slLnC (X.cell? ⟨bw, 0, none⟩)) := by
                show _ < _
                have h1 := HS4.out.wk.r.at (j := 0) rfl
                obtain ⟨sa, sc, e, _⟩ := own_form HS4.out.wk.own
                rw [HM0.out, h1, e]
                show (L4.map Er.be).length < _
                rw [List.length_map]
                exact hb
              rw [decide_eq_true hb]
              clear HS HIT HST HM0 hb
              go_wp2
              go_roundw
              case rel => exact ⟨_, sv4, svw4, L4, HIT4, HS4⟩
              case measure => exact HM4.out
            · rw [decide_eq_false hb]
              obtain ⟨hs1, hs2⟩ := HST.out hb
              rw [hs1] at HS4 HIT4
              have hr4 := HS4.out.fd.r
              obtain ⟨sa, sc, e, _⟩ := own_form HS4.out.fd.own
              subst e
              have hq1 := load_sv (hr4.at (j := 1) rfl)
              have HP : Hid (LmP w.heap.size qs fs w (.returned (.slice sa fs1.length sc)) w4) := ⟨_, fs1, rfl, HS4.out.fd.own, HS4.out.bl, HIT4.out.it, hs2⟩
              clear HS HIT HST HM0 hb HS4 HIT4 hs1 hs2 hr4 HOK
              go_wp2
              go_ret
              exact HP.out
end Go.Proofs.YtheihplldbccpaaGreatDoor
