import Derived.Test.YteabclfhmapabaaDoorA16
import Derived.Test.YteabclfhmapabaaDoorA3
import Derived.Test.YteabclfhmapabaaDoorA8
section
namespace Go.Proofs.YteabclfhmapabaaDoor
open Go.RowKit Go.Maps
set_option linter.unusedVariables false
set_option linter.unusedSimpArgs false
attribute [local go_sem ↓] Go.wp_at_zero Go.wp_at_succ
attribute [-go_sem] loadVar storeVar

theorem run_makeVs (u : World) : (Instr.makeMap 139 none).run Tryd.prog u = .ok (.map (some u.heap.size)) (u.alloc (.map #[] 0)) := by kernel_rfl
/-- what Limited tells -/
def LmP (B : Nat) (qs : List Qn) (f0 : List ByteArray) (w : World) (e : Ending) (w' : World) : Prop :=
  ∃ sv fs, e = .returned sv ∧ w'.ownsRow B 9 1 sv fs.length (fs.flatMap strB) ∧ Below B w w' ∧ (∃ k, fs = itQ qs k f0) ∧ rndQ qs fs = fs
/-- the rounds: what they found, and what waits -/
structure Itr (qs : List Qn) (f0 fs : List ByteArray) (L : List Er) : Prop where
  it : ∃ k, fs = itQ qs k f0
  wt : Wt fs qs (L.map Er.q)
  ln : fs.length + L.length ≤ 1000000000
theorem Itr.next {qs : List Qn} {f0 fs : List ByteArray} {L L' : List Er} (h : Itr qs f0 fs L) (hok : ∀ q ∈ qs, OkQ q) (hq : L'.map Er.q = (progR (L.map Er.q) fs).2) (hl : (progR (L.map Er.q) fs).1.length + L'.length = fs.length + L.length) : Itr qs f0 (progR (L.map Er.q) fs).1 L' := by
  obtain ⟨k, hk⟩ := h.it
  obtain ⟨h1, h2⟩ := Wt.round qs _ fs hok h.wt
  refine ⟨⟨k + 1, ?_⟩, by rw [hq]; exact h2, by rw [hl]; exact h.ln⟩
  rw [itQ_succ, ← hk, h1]
theorem Itr.still {qs : List Qn} {f0 fs : List ByteArray} {L L' : List Er} (h : Itr qs f0 fs L) (hok : ∀ q ∈ qs, OkQ q) (hq : L'.map Er.q = (progR (L.map Er.q) fs).2) (hl : ¬ L'.length < L.length) : (progR (L.map Er.q) fs).1 = fs ∧ rndQ qs fs = fs := by
  have h0 := progR_len (L.map Er.q) fs
  rw [← hq, List.length_map, List.length_map] at h0
  have h1 := h0.2 (by omega)
  exact ⟨h1, by rw [(Wt.round qs _ fs hok h.wt).1, h1]⟩
set_option maxHeartbeats 6400000 in
set_option maxRecDepth 100000 in
theorem limitedG_any (d : Nat) (v : Value) (l : List XL) (w : World) (hL : Lb w v (d + 1) l) (hts : ∀ i, i < l.length → (atL l i).x.ts.length ≤ 1048576) (hn : (avL l).length ≤ 4194304) (hll : l.length ≤ 4194304) (hsz : ∀ i, i < l.length → szD (d + 1) (atL l i).x.l ≤ 1048576 ∧ szD (d + 1) (atL l i).x.r ≤ 1048576) :
    Calls Tryd.prog 46 #[v] w fun e w' => LmP w.heap.size (eqL (d + 1) l) (atN l) w e w' := by
  have b02 : Below w.heap.size w ((w.alloc (.map #[] 0)).alloc (.cells #[.map (some w.heap.size), .slice none 0 0] 141)) := (belowA (w := w) (.map #[] 0)).trans ((belowA (w := w.alloc (.map #[] 0)) _).mono (by simp))
  have HAT0 := Lib.hid (atomVarsG_any (d + 1) v l _ (hL.below b02) hts hn hll)
  have HFD0 := Lib.hid (fd_new w)
  have HB02 := Lib.hid b02
  have HZ2 : Hid (((w.alloc (.map #[] 0)).alloc (.cells #[.map (some w.heap.size), .slice none 0 0] 141)).heap.size = w.heap.size + 2) := by show _ = _; simp
  have HIS : Hid (∀ i, i < l.length → ∀ u, Below w.heap.size w u → LIs u (d + 1) (atL l i).x (atL l i).p) := fun i hi u hu => (hL.at_is hi).below hu
  have HNM := Lib.hid (av_names hL)
  have HSZ := Lib.hid hsz
  have HOK := Lib.hid (eqL_ok (d + 1) l)
  obtain ⟨qs, hqs⟩ : ∃ qs, eqL (d + 1) l = qs := ⟨_, rfl⟩
  rw [hqs] at HOK ⊢
  have HQS := Lib.hid hqs
  clear hqs
  have HAN : Hid (atN l = (avL l).foldl addN []) := rfl
  have hmf : ∀ (fn : Fn) (first cap : Array Value) (w : World), (Instr.makeFunc fn first cap).run Tryd.prog w = .ok (.func fn first cap) w := fun _ _ _ _ => rfl
  have hmk := run_makeVs w
  obtain ⟨a, c, rfl, hc1, hc2, hat⟩ := hL.form
  have HAT := Lib.hid hat
  clear hat hL hts hsz b02
  generalize avL l = ns at HAT0 HNM HAN hn
  generalize atN l = f0 at HAN
  go_enter Tryd.func46, Tryd.ntmps46
  go_wp2_with fail
  refine HAT0.out.mono ?_
  clear HAT0
  generalize (w.alloc (.map #[] 0)).alloc (.cells #[.map (some w.heap.size), .slice none 0 0] 141) = W2 at HFD0 HB02 HZ2
  rintro ee w2 ⟨sv2, rfl, hown2, b2⟩
  have HLN := ls_own hown2
  have HF2 : Hid (Fnd w.heap.size (w.heap.size + 1) w.heap.size W2.heap.size w w2 [] [] (.slice none 0 0) w2) := by
    have hz := HZ2.out
    have hs := b2.size
    refine ⟨HFD0.out.below b2, HB02.out.trans (b2.mono (by omega)), ?_, fun _ _ _ => rfl, ⟨by omega, Nat.le_refl _, by omega⟩⟩
    rintro k (e | e | e | ⟨x, hx, _⟩)
    · exact .inl (by omega)
    · exact .inl (by omega)
    · simp [Value.ownBlock] at e
    · cases hx
  have HOB : Hid (∀ g, sv2.ownBlock = some g → W2.heap.size ≤ g ∧ g < w2.heap.size) := fun g hg => hown2.lt g hg
  obtain ⟨a2, c2, rfl, hnl0, hnl1, hnt⟩ := ls_str HLN
  have HNG : Hid (0 < ns.length → ∃ g off, a2 = some ⟨g, off, none⟩ ∧ W2.heap.size ≤ g ∧ g < w2.heap.size ∧ ∀ i, i < ns.length → w2.cell? ⟨g, off + i, none⟩ = some (.string (atS ns i))) := fun h0 => by
    obtain ⟨g, off, ha, hg, hc⟩ := hnt h0
    subst ha
    have hob : (Value.slice (some ⟨g, off, none⟩) ns.length c2).ownBlock = some g := by
      have h1 := hown2
      obtain ⟨_, ⟨h2, _⟩ | ⟨g2, cap, cur, h2, _⟩⟩ := h1
      · cases h2
      · injection h2 with h2 _ _
        injection h2 with h2
        injection h2 with h2 _ _
        subst h2
        rfl
    exact ⟨g, off, rfl, (HOB.out g hob).1, hg, hc⟩
  clear hnt hnl0 hnl1 hown2 b2 HLN HOB HFD0 HB02 HZ2
  go_wp2
  go_loopw [15] (fun i wr => ∃ (k : Nat) (vs : List Vb) (fs : List ByteArray) (sv : Value), k ≤ ns.length ∧ i = .int .i64 k ∧ Hid (fs = (ns.take k).foldl addN []) ∧ Hid (Fnd w.heap.size (w.heap.size + 1) w.heap.size W2.heap.size w w2 vs fs sv wr)) (fun i _ => ns.length - (intOf i).toNat)
  case atStart => exact ⟨0, [], [], .slice none 0 0, Nat.zero_le _, rfl, rfl, HF2⟩
  case round =>
    clear HF2
    obtain ⟨k, vs, fs, sv, hk, rfl, HFS, HF⟩ := hrel
    obtain ⟨U, rfl⟩ : ∃ U, U = wr := ⟨_, rfl⟩
    by_cases hlt : k < ns.length
    · have hlt' : (k : Int) < (ns.length : Int) := by omega
      have hk0 : (0 : Int) ≤ (k : Int) := by omega
      obtain ⟨g2, off2, rfl, hgl, hgu, hcs⟩ := HNG.out (by omega)
      have hx0 : (loadVar 9 ⟨g2, off2 + k, none⟩).run Tryd.prog U = .ok (.string (atS ns k)) U := load_s (by rw [World.cell?_of_block (w := w2) (HF.out.kp g2 hgl hgu)]; exact hcs k hlt)
      have HNX := Lib.hid (foldl_takeS hlt [])
      rw [← HFS.out] at HNX
      have hfl : fs.length ≤ 1000000000 := by
        have := foldl_take_len ns k
        rw [← HFS.out] at this
        omega
      have HV := Lib.hid (variable_any HF.out.fd (Nat.le_trans HF.out.zz.1 HF.out.zz.2.1) (atS ns k) (HNM.out _ (by rw [atS_eq hlt]; exact List.getElem_mem hlt)))
      generalize atS ns k = nm at hx0 HNX HV
      clear hcs HFS
      go_wp2_with fail
      refine HV.out.mono ?_
      rintro ee w3 ⟨vs', x, rfl, hx, hxv, hm, hf, ht⟩
      have HF3 := Lib.hid (HF.out.more hf hm ht)
      have HC := Lib.hid (find_any HF3.out.fd (Nat.le_trans HF3.out.zz.1 HF3.out.zz.2.1) x hx hfl)
      have HXV := Lib.hid hxv
      clear hx hxv hm hf ht HV HF
      unfold ptrV
      go_wp2_with fail
      refine HC.out.mono ?_
      rintro ee w4 ⟨⟨u, rfl⟩, sv', hf, ht, hn'⟩
      have HF4 := Lib.hid (HF3.out.found hf ht hn')
      clear hf ht hn' HC HF3
      rw [HXV.out, ← HNX.out] at HF4
      go_wp2
      go_roundw
      case rel => exact ⟨k + 1, vs', _, sv', by omega, by go_num, rfl, HF4⟩
      case measure => simp [intOf]; omega
    · obtain rfl : k = ns.length := by omega
      rw [List.take_length, ← HAN.out] at HFS
      obtain rfl : fs = f0 := HFS.out
      have HL0 : Hid (Lst w.heap.size (w.heap.size + 1) w.heap.size U.heap.size w vs fs sv (.slice none 0 0) [] (U.alloc (.cells #[.slice none 0 0] 147))) := by
        have hb := belowA (w := U) (.cells #[.slice none 0 0] 147)
        have hz := HF.out.zz
        refine ⟨HF.out.fd.below hb, ⟨fun r hr => (by cases hr), by simp, fun r hr => (by cases hr)⟩, ⟨rl_new U #[.slice none 0 0] _, World.ownsRow_nil _ _ _ _, fun g hg => by simp [Value.ownBlock] at hg⟩, ?_, HF.out.bl.trans (hb.mono (by omega)), fun r hr => (by cases hr), by omega, by simp; omega⟩
        rintro j (e | e)
        · exact ⟨fun hf => by have := HF.out.fd.lt j hf; omega, fun r hr => (by cases hr)⟩
        · simp [Value.ownBlock] at e
      have hfl : fs.length ≤ 4194304 := by
        have := foldN_len ns []
        rw [← HAN.out] at this
        simp only [List.length_nil] at this
        omega
      clear HFS HF HNM HNG hlt hk
      go_wp2
      clear hmk
      generalize U.alloc (.cells #[.slice none 0 0] 147) = W3 at HL0 ⊢
      generalize U.heap.size = bw at HL0 ⊢
      go_loopw [27] (fun i wr => ∃ (k : Nat) (vs : List Vb) (svw : Value) (L : List Er), k ≤ l.length ∧ i = .int .i64 k ∧ Hid (L.map Er.q = eqL (d + 1) (l.take k)) ∧ Hid (Lst w.heap.size (w.heap.size + 1) w.heap.size bw w vs fs sv svw L wr)) (fun i _ => l.length - (intOf i).toNat)
      case atStart => exact ⟨0, vs, .slice none 0 0, [], Nat.zero_le _, rfl, rfl, HL0⟩
      case round =>
        clear HL0
        obtain ⟨k, vs, svw, L, hk, rfl, HLQ, HS⟩ := hrel
        obtain ⟨V, rfl⟩ : ∃ V, V = wr := ⟨_, rfl⟩
        have hlen : L.length ≤ k := by
          have h1 := congrArg List.length HLQ.out
          have h2 := eqL_len (d + 1) (l.take k)
          rw [List.length_map] at h1
          rw [List.length_take] at h2
          omega
        by_cases hlt : k < l.length
        · have hlt' : (k : Int) < (l.length : Int) := by omega
          have hk0 : (0 : Int) ≤ (k : Int) := by omega
          obtain ⟨g, off, rfl, hg, hT⟩ := HAT.out (by omega)
          have r1 := range_below (hT k hlt) HS.out.bl hg
          have HNX0 := Lib.hid (eqL_take (d := d + 1) hlt)
          rw [← HLQ.out] at HNX0
          have HXI := Lib.hid (HIS.out k hlt)
          have HXZ := Lib.hid (HSZ.out k hlt)
          obtain ⟨y, hy⟩ : ∃ y, atL l k = y := ⟨_, rfl⟩
          rw [hy] at r1 HNX0 HXI HXZ
          have hld := load_Lit r1 rfl
          have hst : (storeVar 56 ⟨V.heap.size, 0, none⟩ (.agg y.cells.toArray)).run Tryd.prog (V.alloc (.cells #[.int .i8 0, .string ⟨#[]⟩, .slice none 0 0, .int .i8 0, .int .i8 0, .string ⟨#[]⟩, .int .i8 0, .int .i64 0, .string ⟨#[]⟩, .slice none 0 0, .int .i8 0, .string ⟨#[]⟩, .int .i8 0, .int .i64 0, .string ⟨#[]⟩, .slice none 0 0] 56)) = .ok () (V.alloc (.cells y.cells.toArray 56)) := run_storeVar_new V 56 #[.int .i8 0, .string ⟨#[]⟩, .slice none 0 0, .int .i8 0, .int .i8 0, .string ⟨#[]⟩, .int .i8 0, .int .i64 0, .string ⟨#[]⟩, .slice none 0 0, .int .i8 0, .string ⟨#[]⟩, .int .i8 0, .int .i64 0, .string ⟨#[]⟩, .slice none 0 0] y.cells.toArray (by kernel_rfl) rfl (oneCells_lit _)
          have BA := belowA (w := V) (.cells y.cells.toArray 56)
          have HRN := Lib.hid (rl_new V y.cells.toArray 56)
          have HS2 := Lib.hid (HS.out.below BA)
          have HLB : Hid (¬ FP (w.heap.size + 1) w.heap.size vs sv V.heap.size ∧ ¬ WP bw svw V.heap.size) := ⟨fun e => by have := HS.out.fd.lt _ e; omega, fun e => by have := HS.out.wk.lt _ e; omega⟩
          clear hT r1 hy BA HS
          generalize V.alloc (.cells y.cells.toArray 56) = W1 at hst HRN HS2
          obtain ⟨hf1, hf2, -, -⟩ := lit_fields (y := y) HRN.out
          generalize Value.agg y.cells.toArray = QV at hld hst
          by_cases hq : y.x.k = 3 ∧ y.x.rel = 1
          · have e1 : (y.x.k == 3) = true := by rw [hq.1]; rfl
            have e2 : (y.x.rel == 1) = true := by rw [hq.2]; rfl
            have HQX : Hid (∀ r : Er, r.q = (sdE (d + 1) y.x.l, sdE (d + 1) y.x.r) → (L ++ [r]).map Er.q = eqL (d + 1) (l.take (k + 1))) := fun r hr => by
              rw [HNX0.out, List.map_append, List.map_cons, List.map_nil, hr]
              unfold eqX
              rw [if_pos hq]
            have hD : Below W1.heap.size W1 W1.drew := (Below.refl _ _).drew
            have HC := Lib.hid (eq_calls (d := d) (HS2.out.below hD) (HXI.out _ (HS2.out.below hD).bl) (Nat.le_trans HS2.out.zz hD.size) (RL.below HRN.out hD) HLB.out.1 HLB.out.2 HXZ.out (by omega) (fun u' ht => HXI.out u' (Tz.below (HS2.out.below hD).bl ht (Nat.le_trans HS2.out.zz hD.size) (fun b e => by rw [e]; exact Nat.le_refl _))))
            have HRD := Lib.hid (RL.below HRN.out hD)
            have HFL : Hid (∀ u, RL u V.heap.size 56 y.cells → (loadVar 54 ⟨V.heap.size, 4, none⟩).run Tryd.prog u = .ok (y.x.l.val y.p.la y.p.lc) u ∧ (loadVar 54 ⟨V.heap.size, 10, none⟩).run Tryd.prog u = .ok (y.x.r.val y.p.ra y.p.rc) u) := fun u hu => ⟨(lit_fields hu).2.2.1, (lit_fields hu).2.2.2⟩
            clear hq HXI HXZ HNX0 HS2 HLB hD HRN HLQ
            generalize y.x.l.val y.p.la y.p.lc = EL at HC HFL
            generalize y.x.r.val y.p.ra y.p.rc = ER at HC HFL
            go_upto_region 12 with fail
            clear hf1 hf2 e1 e2 hld hst
            refine wp_region_noPanic ?_
            refine wp_region_held (S := fun u => RL u V.heap.size 56 y.cells) (by kernel_rfl) ?_
            refine lmreg12 (w5 := W1) (S := fun u => RL u V.heap.size 56 y.cells) (bf := w.heap.size + 1) (bw := bw) (lb := V.heap.size) (EL := EL) (ER := ER) (P := fun u => ∃ vs' svw' r, r.q = (sdE (d + 1) y.x.l, sdE (d + 1) y.x.r) ∧ Lst w.heap.size (w.heap.size + 1) w.heap.size bw w vs' fs sv svw' (L ++ [r]) u) rfl rfl rfl rfl rfl rfl rfl rfl rfl rfl rfl (by kernel_rfl) (by kernel_rfl) (by kernel_rfl) (by kernel_rfl) (by kernel_rfl) (by kernel_rfl) (by kernel_rfl) (fun _ _ _ _ _ h => h) (by simp) rfl rfl rfl HRD.out (fun _ _ _ h => h) (fun u hu => (HFL.out u hu).1) (fun u hu => (HFL.out u hu).2) HC.out ?_
            intro wc u2 o1 o2 a1 a2 n1 n2 c1 c2 v3 hP
            obtain ⟨vs', svw', r, hrq, hS3⟩ := hP
            have HS3 := Lib.hid hS3
            have HRQ := Lib.hid (HQX.out r hrq)
            clear hS3 hrq HC HFL HRD HQX
            refine NoPanic.normal ?_
            rename_i hK
            refine hK _ _ ?_
            simp (config := { maxSteps := 8000000 }) only [Act.put, List.getElem_toArray, List.getElem_cons_zero, List.getElem_cons_succ, List.setIfInBounds_toArray, List.set_cons_succ, List.set_cons_zero]
            go_wp2
            go_roundw
            case rel => exact ⟨k + 1, vs', svw', L ++ [r], by omega, by go_num, HRQ, HS3⟩
            case measure => simp [intOf]; omega
          · have HQX : Hid (L.map Er.q = eqL (d + 1) (l.take (k + 1))) := by
              show _ = _
              rw [HNX0.out]
              unfold eqX
              rw [if_neg hq, List.append_nil]
            clear HNX0 HXI HXZ HLB HRN HLQ
            by_cases h1 : y.x.k = 3
            · have e1 : (y.x.k == 3) = true := by rw [h1]; rfl
              have e2 : (y.x.rel == 1) = false := by rw [beq_eq_false_iff_ne]; exact fun h2 => hq ⟨h1, h2⟩
              clear h1 hq
              go_wp2
              go_roundw
              case rel => exact ⟨k + 1, vs, svw, L, by omega, by go_num, HQX, HS2⟩
              case measure => simp [intOf]; omega
            · have e1 : (y.x.k == 3) = false := by rw [beq_eq_false_iff_ne]; exact h1
              clear h1 hq
              go_wp2
              go_roundw
              case rel => exact ⟨k + 1, vs, svw, L, by omega, by go_num, HQX, HS2⟩
              case measure => simp [intOf]; omega
        · obtain rfl : k = l.length := by omega
          rw [List.take_length] at HLQ
          have HIT : Hid (Itr qs fs fs L) := ⟨⟨0, rfl⟩, by rw [HLQ.out, HQS.out]; exact Wt.all _ _, by omega⟩
          clear HLQ hlt hk hlen HAT HIS HSZ HAN
          go_wp2
          go_loopw [] (fun wr => ∃ (fs' : List ByteArray) (sv' svw' : Value) (L' : List Er), Hid (Itr qs fs fs' L') ∧ Hid (Lst w.heap.size (w.heap.size + 1) w.heap.size bw w vs fs' sv' svw' L' wr)) (fun wr => slLnC (wr.cell? ⟨bw, 0, none⟩))
          case atStart => exact ⟨fs, sv, svw, L, HIT, HS⟩
          case round =>
            clear HIT HS hfl
            obtain ⟨fs1, sv1, svw1, L1, HIT, HS⟩ := hrel
            obtain ⟨X, rfl⟩ : ∃ X, X = wr := ⟨_, rfl⟩
            have HC := Lib.hid (round_any HS.out.fd HS.out.eq HS.out.wk HS.out.wa HS.out.zz HIT.out.ln)
            have HM0 : Hid (slLnC (X.cell? ⟨bw, 0, none⟩) = L1.length) := by
              show _ = _
              have h1 := HS.out.wk.r.at (j := 0) rfl
              obtain ⟨sa, sc, e, _⟩ := own_form HS.out.wk.own
              rw [h1, e]
              exact List.length_map _
            unfold solveF at HC
            go_wp2_with fail
            refine HC.out.mono ?_
            intro e w4 hr
            obtain ⟨sv4, svw4, L4, rfl, hq4, hl4, hS4⟩ := HS.out.round hr
            have HIT4 := Lib.hid (HIT.out.next HOK.out hq4 hl4)
            have HS4 := Lib.hid hS4
            have HST : Hid (¬ L4.length < L1.length → (progR (L1.map Er.q) fs1).1 = fs1 ∧ rndQ qs fs1 = fs1) := fun h => HIT.out.still HOK.out hq4 h
            clear hr hq4 hl4 hS4 HC
            by_cases hb : L4.length < L1.length
            · have HM4 : Hid (slLnC (w4.cell? ⟨bw, 0, none⟩) < slLnC (X.cell? ⟨bw, 0, none⟩)) := by
                show _ < _
                have h1 := HS4.out.wk.r.at (j := 0) rfl
                obtain ⟨sa, sc, e, _⟩ := own_form HS4.out.wk.own
                rw [HM0.out, h1, e]
                show (L4.map Er.be).length < _
                rw [List.length_map]
                exact hb
              rw [decide_eq_true hb]
              clear HS HIT HST HM0 hb
              go_wp2
              go_roundw
              case rel => exact ⟨_, sv4, svw4, L4, HIT4, HS4⟩
              case measure => exact HM4.out
            · rw [decide_eq_false hb]
              obtain ⟨hs1, hs2⟩ := HST.out hb
              rw [hs1] at HS4 HIT4
              have hr4 := HS4.out.fd.r
              obtain ⟨sa, sc, e, _⟩ := own_form HS4.out.fd.own
              subst e
              have hq1 := load_sv (hr4.at (j := 1) rfl)
              have HP : Hid (LmP w.heap.size qs fs w (.returned (.slice sa fs1.length sc)) w4) := ⟨_, fs1, rfl, HS4.out.fd.own, HS4.out.bl, HIT4.out.it, hs2⟩
              clear HS HIT HST HM0 hb HS4 HIT4 hs1 hs2 hr4 HOK
              go_wp2
              go_ret
              exact HP.out
end Go.Proofs.YteabclfhmapabaaDoor
end
section
namespace Go.Proofs.YteabclfhmapabaaDoor
open Go.RowKit Go.Maps Go.ChangeMaps
set_option linter.unusedVariables false
set_option linter.unusedSimpArgs false
attribute [local go_sem ↓] Go.wp_at_zero Go.wp_at_succ

/-! plan.known: a set of names -/
theorem SetIs.lookK {w : World} {b : Nat} {ss : List ByteArray} (h : SetIs w b ss) {s : ByteArray} (hs : s.size ≤ maxLen) :
    (Instr.lookup 74 (.map (some b)) (.string s) true).run Tryd.prog w = .ok (.tuple #[.agg #[], .bool (inB ss s)]) w := by
  obtain ⟨es, c, hb, hes, hw⟩ := h
  have hl := keyOf_s s hs
  rcases keyedS.find w hl es.toList (sents_keys hes hw) with ⟨h1, h2⟩ | ⟨j, e, h1, h2, h3⟩
  · have hi : inB ss s = false := Bool.eq_false_iff.2 (fun hh => sents_no hes h2 (inB_iff.1 hh))
    rw [hi]
    simp [Instr.lookup, run_underlying Tryd.underlying74, MapKept.run_getObj_map hb, keyedS.check w _ hl, h1, Result.andThen, zeroNone]
  · obtain ⟨p, hp, hk, hval⟩ := sents_at hes h2
    have e : p = s := by
      have := hk.symm.trans h3
      injection this
    have hi : inB ss s = true := inB_iff.2 (e ▸ List.mem_of_getElem? hp)
    rw [hi]
    simp [Instr.lookup, run_underlying Tryd.underlying74, MapKept.run_getObj_map hb, keyedS.check w _ hl, h1, hval, Result.andThen]
/-- a name more -/
theorem SetIs.putK {w : World} {b : Nat} {ss : List ByteArray} (h : SetIs w b ss) {s : ByteArray} (hs : s.size ≤ maxLen) (hn : s ∉ ss) :
    ∃ w', (Instr.mapUpdate 74 (.map (some b)) (.string s) (.agg #[])).run Tryd.prog w = .ok () w' ∧ SetIs w' b (ss ++ [s]) ∧ w.mapTurned w' b := by
  obtain ⟨es, c, hb, hes, hw⟩ := h
  have hl := keyOf_s s hs
  rcases keyedS.find w hl es.toList (sents_keys hes hw) with ⟨h1, h2⟩ | ⟨j, e, h1, h2, h3⟩
  · refine ⟨setBlock w b (.map (es.push ⟨.string s, .agg #[], c⟩) (c + 1)), by simp [Instr.mapUpdate, run_underlying Tryd.underlying74, MapKept.run_getObj_map hb, keyedS.check w false hl, h1, MapKept.run_setObj_map _ hb, Result.andThen, setBlock], ⟨_, _, heap_setBlock_same hb _, by simp [hes], ?_⟩, ?_⟩
    · intro p hp
      rcases List.mem_append.1 hp with hp | hp
      · exact hw p hp
      · simp at hp
        subst hp
        exact hs
    · exact ⟨es, c, _, _, hb, rfl⟩
  · obtain ⟨p, hp, hk, hval⟩ := sents_at hes h2
    refine absurd (List.mem_of_getElem? hp) ?_
    have e : p = s := by
      have := hk.symm.trans h3
      injection this
    rw [e]
    exact hn

attribute [-go_sem] loadVar Builtin.append_
set_option maxHeartbeats 800000 in
theorem kn_has {w : World} {b : Nat} {ss : List ByteArray} (h : SetIs w b ss) {s : ByteArray} (hs : s.size ≤ maxLen) :
    Calls Tryd.prog 42 #[.map (some b), .string s] w fun e w' => e = .returned (.bool (inB ss s)) ∧ Below w.heap.size w w' := by
  have hl := h.lookK hs
  have HB : Hid (Below w.heap.size w (w.alloc (.cells #[] 133))) := (Below.refl _ _).alloc (Nat.le_refl _) _
  clear h
  go_enter Tryd.func42, Tryd.ntmps42
  go_wp2
  go_ret
  exact ⟨rfl, HB.out⟩
set_option maxHeartbeats 800000 in
theorem kn_learn {w : World} {b : Nat} {ss : List ByteArray} (h : SetIs w b ss) {s : ByteArray} (hs : s.size ≤ maxLen) (hn : s ∉ ss) :
    Calls Tryd.prog 39 #[.map (some b), .string s] w fun e w' => (∃ u, e = .returned u) ∧ SetIs w' b (ss ++ [s]) ∧ w.mapTurned w' b := by
  obtain ⟨w', hrun, hset, hturn⟩ := h.putK hs hn
  have HF := Lib.hid (And.intro hset hturn)
  clear h hset hturn
  go_enter Tryd.func39, Tryd.ntmps39
  go_wp2
  go_end0
  exact ⟨⟨_, rfl⟩, HF.out⟩
theorem pl_push {w0 u : World} {B : Nat} {a : Option Addr} {c : Nat} {out : List ByteArray} (x : ByteArray) (own : u.ownsRow B 9 1 (.slice a out.length c) out.length (out.flatMap strB)) (hb : Below B w0 u) (hB : B ≤ w0.heap.size) (hl : out.length ≤ 1000000000) :
    ∃ a6 c6 w5, (Builtin.append_ #[26, 26] 26 #[.slice a out.length c, .slice (some ⟨u.heap.size, 0, none⟩) 1 1]).run Tryd.prog (u.alloc (.cells #[.string x] 9)) = .ok (.slice a6 (out.length + 1) c6) w5 ∧ w5.ownsRow B 9 1 (.slice a6 (out ++ [x]).length c6) (out ++ [x]).length ((out ++ [x]).flatMap strB) ∧ Below B w0 w5 := by
  obtain ⟨i0, hi0, hz0, hz1, hz2⟩ := info_parts infoStrL
  have hA := belowA (w := u) (.cells #[.string x] 9)
  have hzu : B ≤ u.heap.size := Nat.le_trans hB hb.size
  have hb5 : Below B w0 (u.alloc (.cells #[.string x] 9)) := hb.trans (hA.mono hzu)
  have hz5 : B ≤ (u.alloc (.cells #[.string x] 9)).heap.size := Nat.le_trans hzu hA.size
  have ho := own_below own hA
  obtain ⟨v', w5, hrun, hown', hgrow, hnil, hloc⟩ := run_append_own_at (P := Tryd.prog) (u.alloc (.cells #[.string x] 9)) B 26 26 9 i0 _ 1 16 Tryd.underlying26 hi0 hz0 hz1 hz2 rfl (by decide) _ _ _ ho ⟨_, 0, none⟩ 1 1 [.string x] rfl (lit_news _ #[.string x] _) (by simp [Value.oneCell']) (by unfold maxLen; omega) (by omega) hz5
  obtain ⟨a6, c6, rfl, _⟩ := own_form hown'
  refine ⟨a6, c6, w5, hrun, ?_, hb5.grown hgrow hz5 (fun j hj => (ho.lt j hj).1)⟩
  rw [List.length_append, List.flatMap_append]
  exact hown'
/-- what is not known -/
def lackL (ss l : List ByteArray) : List ByteArray := l.filter (fun n => !inB ss n)
theorem lackL_take {ss l : List ByteArray} {k : Nat} (hk : k < l.length) : lackL ss (l.take (k + 1)) = if inB ss (atS l k) = true then lackL ss (l.take k) else lackL ss (l.take k) ++ [atS l k] := by
  have e : l[k]? = some (atS l k) := by
    unfold atS
    rw [List.getD, List.getElem?_eq_getElem hk]
    rfl
  unfold lackL
  rw [List.take_add_one, e, List.filter_append]
  by_cases h : inB ss (atS l k) = true
  · rw [if_pos h]
    simp [h]
  · rw [if_neg h]
    simp [h]
theorem lackL_len (ss l : List ByteArray) : (lackL ss l).length ≤ l.length := List.length_filter_le _ _
theorem load_strP {u : World} {a : Addr} {s : ByteArray} (h : u.cell? a = some (.string s)) : (loadVar 9 a).run Tryd.prog u = .ok (.string s) u := by rw [loadVar.eq_1]; go_simp
set_option maxHeartbeats 1600000 in
set_option maxRecDepth 100000 in
theorem kn_lacks {w : World} {b : Nat} {ss : List ByteArray} (h : SetIs w b ss) {v : Value} {l : List ByteArray} (hl : Ls w v l.length (l.flatMap strB)) (hsz : ∀ i, i < l.length → (atS l i).size ≤ maxLen) (hn : l.length ≤ 1048576) :
    Calls Tryd.prog 35 #[.map (some b), v] w fun e w' => ∃ a c, e = .returned (.slice a (lackL ss l).length c) ∧ w'.ownsRow w.heap.size 9 1 (.slice a (lackL ss l).length c) (lackL ss l).length ((lackL ss l).flatMap strB) ∧ Below w.heap.size w w' := by
  have HS := Lib.hid h
  have HZ := Lib.hid hsz
  obtain ⟨a, c, rfl, hc1, hc2, hat⟩ := ls_str hl
  have HAT := Lib.hid hat
  have HO0 : Hid (w.ownsRow w.heap.size 9 1 (.slice none (lackL ss (l.take 0)).length 0) (lackL ss (l.take 0)).length ((lackL ss (l.take 0)).flatMap strB) ∧ Below w.heap.size w w) := ⟨World.ownsRow_nil _ _ _ _, Below.refl _ _⟩
  clear h hl hsz hat
  go_enter Tryd.func35, Tryd.ntmps35
  go_wp2
  go_loopw [5, 10] (fun sv i wr => ∃ (k : Nat) (a' : Option Addr) (c' : Nat), k ≤ l.length ∧ i = .int .i64 k ∧ sv = .slice a' (lackL ss (l.take k)).length c' ∧ Hid (wr.ownsRow w.heap.size 9 1 (.slice a' (lackL ss (l.take k)).length c') (lackL ss (l.take k)).length ((lackL ss (l.take k)).flatMap strB) ∧ Below w.heap.size w wr)) (fun _ i _ => l.length - (intOf i).toNat)
  case atStart => exact ⟨0, none, 0, Nat.zero_le _, rfl, rfl, HO0.out⟩
  case round =>
    obtain ⟨k, a', c', hk, rfl, rfl, HI⟩ := hrel
    clear HO0
    by_cases hlt : k < l.length
    · have hlt' : (k : Int) < (l.length : Int) := by omega
      have hk0 : (0 : Int) ≤ (k : Int) := by omega
      obtain ⟨g, off, rfl, hg, hce⟩ := HAT.out (by omega)
      have l1 := load_strP ((HI.out.2.cell (p := ⟨g, off + k, none⟩) hg).trans (hce k hlt))
      have HHS := Lib.hid (kn_has (HS.out.of_block (HI.out.2.block b HS.out.lt)) (HZ.out k hlt))
      have HLT := Lib.hid (lackL_take (ss := ss) hlt)
      have hll : (lackL ss (l.take k)).length ≤ 1048576 := Nat.le_trans (lackL_len _ _) (by rw [List.length_take]; omega)
      generalize lackL ss (l.take k) = out at HI HLT hll ⊢
      generalize atS l k = x at l1 HHS HLT
      clear hce
      go_wp2_with fail
      refine HHS.out.mono ?_
      rintro e w2 ⟨rfl, b2⟩
      have HO2 := Lib.hid (own_below HI.out.1 b2)
      have HB2 := Lib.hid (HI.out.2.trans (b2.mono HI.out.2.size))
      clear HHS b2 l1 HI
      cases hi : inB ss x
      · rw [hi] at HLT
        rw [if_neg (by decide)] at HLT
        obtain ⟨a6, c6, w5, hrun, hown, hb5⟩ := pl_push x HO2.out HB2.out (Nat.le_refl _) (by omega)
        have HF := Lib.hid (And.intro hown hb5)
        clear hown hb5 HO2 HB2 hi
        go_wp2
        go_roundw
        case rel => exact ⟨k + 1, a6, c6, by omega, by go_num, by rw [HLT.out, List.length_append]; rfl, by rw [HLT.out]; exact HF.out⟩
        case measure => simp [intOf]; omega
      · rw [hi, if_pos rfl] at HLT
        clear hi
        go_wp2
        go_roundw
        case rel => exact ⟨k + 1, a', c', by omega, by go_num, by rw [HLT.out], by rw [HLT.out]; exact ⟨HO2.out, HB2.out⟩⟩
        case measure => simp [intOf]; omega
    · obtain rfl : k = l.length := by omega
      rw [List.take_length] at HI
      rw [List.take_length]
      go_wp2
      go_ret
      exact ⟨a', c', rfl, HI.out⟩
end Go.Proofs.YteabclfhmapabaaDoor
end
section
namespace Go.Proofs.YteabclfhmapabaaDoor
open Go.RowKit Go.Maps Go.ChangeMaps
set_option linter.unusedVariables false
set_option linter.unusedSimpArgs false
attribute [local go_sem ↓] Go.wp_at_zero Go.wp_at_succ

/-! bits; which literals are left; which columns are known -/
theorem bits_and32 (a b : Nat) (ha : a < 4294967296) (hb : b < 4294967296) : bits .and .u32 (a : Int) (b : Int) = ((a &&& b : Nat) : Int) := by
  have hx : a &&& b < 2 ^ 32 := Nat.and_lt_two_pow _ (by omega)
  have h1 : (BitVec.ofInt 32 (a : Int)).toNat = a := by
    rw [BitVec.ofInt_natCast, BitVec.toNat_ofNat]; exact Nat.mod_eq_of_lt (by omega)
  have h2 : (BitVec.ofInt 32 (b : Int)).toNat = b := by
    rw [BitVec.ofInt_natCast, BitVec.toNat_ofNat]; exact Nat.mod_eq_of_lt (by omega)
  show IntKind.u32.wrap ((BitVec.ofInt 32 (a : Int) &&& BitVec.ofInt 32 (b : Int)).toNat : Int) = _
  rw [BitVec.toNat_and, h1, h2]
  simp only [IntKind.wrap, IntKind.signed, IntKind.bits, Bool.false_and, Bool.false_eq_true, if_false]
  omega
theorem bits_or32 (a b : Nat) (ha : a < 4294967296) (hb : b < 4294967296) : bits .or .u32 (a : Int) (b : Int) = ((a ||| b : Nat) : Int) := by
  have hx : a ||| b < 2 ^ 32 := Nat.or_lt_two_pow (by omega) (by omega)
  have h1 : (BitVec.ofInt 32 (a : Int)).toNat = a := by
    rw [BitVec.ofInt_natCast, BitVec.toNat_ofNat]; exact Nat.mod_eq_of_lt (by omega)
  have h2 : (BitVec.ofInt 32 (b : Int)).toNat = b := by
    rw [BitVec.ofInt_natCast, BitVec.toNat_ofNat]; exact Nat.mod_eq_of_lt (by omega)
  show IntKind.u32.wrap ((BitVec.ofInt 32 (a : Int) ||| BitVec.ofInt 32 (b : Int)).toNat : Int) = _
  rw [BitVec.toNat_or, h1, h2]
  simp only [IntKind.wrap, IntKind.signed, IntKind.bits, Bool.false_and, Bool.false_eq_true, if_false]
  omega
theorem shr_bit (M k : Nat) (hM : M < 4294967296) : (bits .and .u32 ((M : Int) / 2 ^ k) 1 == 0) = !M.testBit k := by
  have e : (M : Int) / 2 ^ k = ((M / 2 ^ k : Nat) : Int) := by
    rw [Int.natCast_ediv, Int.natCast_pow]; rfl
  have h2 : M / 2 ^ k < 4294967296 := Nat.lt_of_le_of_lt (Nat.div_le_self _ _) hM
  have := bits_and32 (M / 2 ^ k) 1 h2 (by omega)
  rw [e, show (1 : Int) = ((1 : Nat) : Int) from rfl, this, Nat.testBit_eq_decide_div_mod_eq, Nat.and_one_is_mod]
  have hm : M / 2 ^ k % 2 = 0 ∨ M / 2 ^ k % 2 = 1 := by omega
  rcases hm with h | h <;> rw [h] <;> decide
theorem bit_one (M k : Nat) (hM : M < 4294967296) : (bits .and .u32 ((M : Int) / 2 ^ k) 1 == 1) = M.testBit k := by
  have h := shr_bit M k hM
  have e : (M : Int) / 2 ^ k = ((M / 2 ^ k : Nat) : Int) := by
    rw [Int.natCast_ediv, Int.natCast_pow]; rfl
  have h2 : M / 2 ^ k < 4294967296 := Nat.lt_of_le_of_lt (Nat.div_le_self _ _) hM
  have h3 := bits_and32 (M / 2 ^ k) 1 h2 (by omega)
  rw [e] at h ⊢
  rw [show (1 : Int) = ((1 : Nat) : Int) from rfl, h3] at h ⊢
  rw [Nat.and_one_is_mod] at h ⊢
  have h4 : M / 2 ^ k % 2 = 0 ∨ M / 2 ^ k % 2 = 1 := by omega
  rcases h4 with h4 | h4
  · rw [h4] at h ⊢
    simpa using h.symm
  · rw [h4] at h ⊢
    simpa using h.symm
theorem pow_mask (n : Nat) (hn : n ≤ 24) : ((2 : Int) ^ n % 4294967296) = ((2 ^ n : Nat) : Int) := by
  have h2 : (2 : Nat) ^ n ≤ 2 ^ 24 := Nat.pow_le_pow_right (by omega) hn
  have h3 : (2 : Nat) ^ n < 4294967296 := Nat.lt_of_le_of_lt h2 (by decide)
  have e0 : (2 : Int) ^ n = ((2 ^ n : Nat) : Int) := by rw [Int.natCast_pow]; rfl
  rw [e0]
  exact Int.emod_eq_of_lt (Int.natCast_nonneg _) (Int.ofNat_lt.2 h3)

def hasB (M : Nat) (i : Int) : Bool := decide (0 ≤ i) && M.testBit i.toNat
theorem run_shrL (m : Int) (i : Int) (h0 : 0 ≤ i) (u : World) : (binOp .shr 75 (.int .u32 m) (.int .i64 i)).run Tryd.prog u = .ok (.int .u32 (m / 2 ^ (min i.toNat 32))) u := by
  have h1 : ¬ (i < 0) := by omega
  simp [binOp, Op.shift, h1, go_sem]
  exact Int.fdiv_eq_ediv_of_nonneg _ (Int.le_of_lt (Int.pow_pos (by decide)))
set_option maxHeartbeats 800000 in
theorem lits_has (M : Nat) (hM : M < 4294967296) (i : Int) (w : World) : Calls Tryd.prog 17 #[.int .u32 (M : Int), .int .i64 i] w fun e w' => e = .returned (.bool (hasB M i)) ∧ w' = w := by
  by_cases h0 : 0 ≤ i
  · have hs := fun u => run_shrL (M : Int) i h0 u
    have hb := bit_one M (min i.toNat 32) hM
    have HF : Hid (hasB M i = M.testBit (min i.toNat 32)) := by
      show _ = _
      unfold hasB
      rw [decide_eq_true h0, Bool.true_and]
      by_cases h32 : i.toNat ≤ 32
      · rw [Nat.min_eq_left h32]
      · rw [Nat.min_eq_right (by omega), Nat.testBit_lt_two_pow (Nat.lt_of_lt_of_le hM (by
          have : (2 : Nat) ^ 32 ≤ 2 ^ i.toNat := Nat.pow_le_pow_right (by omega) (by omega)
          omega)), Nat.testBit_lt_two_pow (Nat.lt_of_lt_of_le hM (by decide))]
    rw [HF.out]
    clear HF
    go_enter Tryd.func17, Tryd.ntmps17
    go_wp2
    go_ret
    exact ⟨rfl, rfl⟩
  · have HF : Hid (hasB M i = false) := by
      show _ = _
      unfold hasB
      rw [decide_eq_false h0]
      rfl
    rw [HF.out]
    clear HF
    go_enter Tryd.func17, Tryd.ntmps17
    go_wp2
    go_ret
    exact ⟨rfl, rfl⟩
set_option maxHeartbeats 800000 in
theorem firstOf_any (n : Nat) (hn : n ≤ 16) (w : World) : Calls Tryd.prog 26 #[.int .i64 (n : Int)] w fun e w' => e = .returned (.int .u32 ((2 ^ n - 1 : Nat) : Int)) ∧ w' = w := by
  have h : n = 0 ∨ n = 1 ∨ n = 2 ∨ n = 3 ∨ n = 4 ∨ n = 5 ∨ n = 6 ∨ n = 7 ∨ n = 8 ∨ n = 9 ∨ n = 10 ∨ n = 11 ∨ n = 12 ∨ n = 13 ∨ n = 14 ∨ n = 15 ∨ n = 16 := by omega
  rcases h with rfl | rfl | rfl | rfl | rfl | rfl | rfl | rfl | rfl | rfl | rfl | rfl | rfl | rfl | rfl | rfl | rfl
  all_goals
    go_enter Tryd.func26, Tryd.ntmps26
    go_wp2
    go_ret
    exact ⟨by first | rfl | decide, rfl⟩
/-- the kind of an atom's step -/
def kindA (M n : Nat) : Int := if M = 2 ^ n - 1 then 3 else if M = 0 then 1 else 2
theorem full_mask (n : Nat) (hn : n ≤ 24) : IntKind.u32.wrap ((2 : Int) ^ n % 4294967296 - 1) = ((2 ^ n - 1 : Nat) : Int) := by
  rw [pow_mask n hn]
  have h1 := Nat.two_pow_pos n
  have h2 : (2 : Nat) ^ n ≤ 2 ^ 24 := Nat.pow_le_pow_right (by omega) hn
  generalize (2 : Nat) ^ n = p at h1 h2
  simp [IntKind.wrap, IntKind.signed, IntKind.bits]
  omega
set_option maxHeartbeats 800000 in
theorem kindOfAtom_any (M n : Nat) (hn : n ≤ 24) (w : World) : Calls Tryd.prog 34 #[.int .u32 (M : Int), .int .i64 (n : Int)] w fun e w' => e = .returned (.int .i8 (kindA M n)) ∧ w' = w := by
  have hf := full_mask n hn
  generalize hp : 2 ^ n - 1 = p at hf
  unfold kindA
  rw [hp]
  clear hp
  by_cases h1 : M = p
  · have hd : ((M : Int) == (p : Int)) = true := by rw [beq_iff_eq]; omega
    rw [if_pos h1]
    clear h1
    go_enter Tryd.func34, Tryd.ntmps34
    go_wp2
    go_ret
    exact ⟨rfl, rfl⟩
  · have hd : ((M : Int) == (p : Int)) = false := by rw [beq_eq_false_iff_ne]; omega
    rw [if_neg h1]
    clear h1
    by_cases h2 : M = 0
    · subst h2
      rw [if_pos rfl]
      go_enter Tryd.func34, Tryd.ntmps34
      go_wp2
      go_ret
      exact ⟨rfl, rfl⟩
    · have hd2 : ((M : Int) == 0) = false := by rw [beq_eq_false_iff_ne]; omega
      rw [if_neg h2]
      go_enter Tryd.func34, Tryd.ntmps34
      go_wp2
      go_ret
      exact ⟨rfl, rfl⟩
end Go.Proofs.YteabclfhmapabaaDoor
end
