import Derived.Test.YthdcgikhcghigaaSpBad
namespace Go.Proofs.Ythdcgikhcghigaa
open Go.RowKit Go.Maps Go.ChangeMaps
set_option linter.unusedVariables false
set_option linter.unusedSimpArgs false
attribute [local go_sem ↓] Go.wp_at_zero Go.wp_at_succ

theorem idxOf_first {u : V} : ∀ (vs : List V) (i : Nat), vs[i]? = some u → (∀ j, j < i → vs[j]? ≠ some u) → vs.idxOf u = i
  | [], i, h, _ => by simp at h
  | v :: vs, 0, h, _ => by
    simp at h
    subst h
    simp
  | v :: vs, i + 1, h, hj => by
    have hv : v ≠ u := fun e => hj 0 (by omega) (by simp [e])
    have := idxOf_first vs i (by simpa using h) (fun j hlt => by simpa using hj (j + 1) (by omega))
    rw [List.idxOf_cons, this, show (v == u) = false from beq_eq_false_iff_ne.2 hv]
    rfl
theorem rseek_results {W : World} {tmps : Array Value} {br : Nat} {C : Array Value} {b : Bool} (h4 : tmps.getD 4 undef = .pointer (some ⟨br, 0, none⟩)) (h5 : tmps.getD 5 undef = .bool b) (hC : W.heap[br]? = some (.cells C 43 (0, 0))) (hi : (Try.prog.info? 43).map (·.size) = some C.size) :
    (results Try.f39 tmps).run Try.prog W = .ok (.tuple #[.agg C, .bool b]) W := by
  have hl : (loadVar 43 ⟨br, 0, none⟩).run Try.prog W = .ok (.agg C) W := run_loadVar_row _ _ 43 43 C (0, 0) _ hC Try.underlying43 rfl hi
  have e0 : results Try.f39 tmps = (do
      let x ← asAddr (tmps.getD 4 undef)
      let x ← loadVar 43 x
      pure (.tuple #[x, tmps.getD 5 undef])) := by
    simp [results, Try.results39]
  rw [e0, h4, h5]
  simp [asAddr, hl, Result.andThen]
set_option maxHeartbeats 3200000 in
set_option maxRecDepth 100000 in
theorem rtseek_any {w : World} {B p : Nat} {sv : Value} {vs : List V} {most : Int} (h : Rt w B p sv vs most) (hlen : vs.length ≤ 1000000000) (xs : List V) (a : Option Addr) (c : Nat) (hv : Lv w (.slice a xs.length c) xs) (hx : xs.length ≤ 24) :
    Calls Try.prog 39 #[.pointer (some ⟨p, 0, none⟩), .slice a xs.length c] w fun e w' =>
      (((∀ x ∈ xs, x ∈ vs) ∧ ∃ C, e = .returned (.tuple #[.agg C, .bool true]) ∧ C.size = 24 ∧ (∀ i, i < 24 → C[i]? = some (rowN (xs.map (symOf vs)) (fun _ => .int .i32 0) i))) ∨
      ((∃ x ∈ xs, x ∉ vs) ∧ e = .returned (.tuple #[.agg zeroRow, .bool false]))) ∧ Below w.heap.size w w' := by
  have b1 := (Below.refl w.heap.size w).alloc (Nat.le_refl _) (.cells zeroRow 43)
  have b2 := b1.alloc (by simp) (.cells zeroRow 43)
  have r0 := (zero_rowIs w).alloc (.cells zeroRow 43)
  have r1 := zero_rowIs (w.alloc (.cells zeroRow 43))
  have e1 : (w.alloc (.cells zeroRow 43)).heap.size = w.heap.size + 1 := by simp
  rw [e1] at r1
  have hx' : ¬ (24 : Int) < (xs.length : Int) := by omega
  have HR1 := Lib.hid (h.keep b1)
  have HT := Lib.hid (rtthere_yes HR1.out)
  have HR := Lib.hid h
  have HV := Lib.hid hv
  clear h hv
  go_enter Try.func39, Try.ntmps39
  go_wp2_with fail
  refine HT.out.mono ?_
  rintro e w1 ⟨rfl, rfl⟩
  clear HT
  go_wp2
  show Code.wp _ _ _ _ ((w.alloc (.cells zeroRow 43)).alloc (.cells zeroRow 43))
  go_loopw [7] (fun i wr => ∃ k : Nat, k ≤ xs.length ∧ i = .int .i64 k ∧ Hid (Below w.heap.size w wr) ∧ Hid (∀ j, j < k → ∃ x, xs[j]? = some x ∧ x ∈ vs) ∧ Hid (wr.rowIs w.heap.size 43 24 (rowN [] (fun _ => .int .i32 0))) ∧ Hid (wr.rowIs (w.heap.size + 1) 43 24 (rowN ((xs.take k).map (symOf vs)) (fun _ => .int .i32 0)))) (fun i _ => xs.length - (intOf i).toNat)
  case atStart => exact ⟨0, Nat.zero_le _, rfl, b2, fun j hj => by omega, r0, r1⟩
  case round =>
    obtain ⟨k, hk, rfl, HBW, HN, Q0, Q1⟩ := hrel
    clear r0 r1 b1 b2 e1 HR1
    by_cases hlt : k < xs.length
    · have hlt' : (k : Int) < (xs.length : Int) := by omega
      obtain ⟨g, off, rfl, hg, x0, x1, x2⟩ := (HV.out.below HBW.out).at hlt
      have uwf := HV.out.1 _ (atV_mem hlt)
      have HU : Hid (xs[k]? = some (atV xs k)) := by
        show xs[k]? = some (atV xs k)
        rw [List.getElem?_eq_getElem hlt, atV_eq hlt]
      have HX : Hid ((xs.take (k + 1)).map (symOf vs) = (xs.take k).map (symOf vs) ++ [symOf vs (atV xs k)]) := by
        show _ = _
        rw [take_snoc hlt]
        simp
      have HF := Lib.hid (rtfind_any (HR.out.keep HBW.out) hlen (atV xs k) uwf)
      have hk24 : (k : Int) < 24 := by omega
      clear uwf
      generalize atV xs k = u at x0 x1 x2 HU HX HF
      go_wp2_with fail
      refine HF.out.mono ?_
      clear HF
      rintro e w2 ⟨⟨rfl, hm⟩ | ⟨i, rfl, hi, hj⟩, hb2⟩
      · have HM := Lib.hid hm
        have HB2 := Lib.hid (HBW.out.trans (hb2.mono HBW.out.size))
        have Q02 := Lib.hid (World.rowIs.of_block Q0.out (hb2.block _ (World.rowIs.lt Q0.out)))
        obtain ⟨C0, hC0, hCs0, _⟩ := Q02.out
        have hCi : (Try.prog.info? 43).map (·.size) = some zeroRow.size := infoRow
        have hC8 : (w2.setRow w.heap.size zeroRow).heap[w.heap.size]? = some (.cells zeroRow 43 (0, 0)) := setRow_heap w2 _ C0 zeroRow _ _ hC0
        have bel8 : Below w.heap.size w (w2.setRow w.heap.size zeroRow) := HB2.out.trans ⟨rfl, rfl, rfl, by simp, fun k hk => setRow_other w2 _ k _ (by omega)⟩
        have HC0 : Hid _ := hC0
        have HI : Hid _ := hCi
        have HO : Hid (zeroRow.all (·.oneCell') = true) := (by show zeroRow.all (·.oneCell') = true; simp [zeroRow, Value.oneCell'])
        have HS : Hid (C0.size = zeroRow.size) := by show C0.size = zeroRow.size; rw [hCs0]; rfl
        clear hm hb2 x0 x1 x2 hg hC0
        go_wp2_with (first
          | (refine wpList_storeRow _ rfl (.tmp 4) (.tmp 36) 43 rfl w.heap.size C0 zeroRow rfl rfl HC0.out HI.out HS.out HO.out ?_)
          | fail)
        exact bodyPost_ret (rseek_results rfl rfl hC8 HI.out) rfl ⟨.inr ⟨⟨u, List.mem_of_getElem? HU.out, HM.out⟩, rfl⟩, bel8⟩
      · have hs : symOf vs u = i := by
          have hmem : u ∈ vs := List.mem_of_getElem? hi
          unfold symOf
          rw [if_pos hmem]
          exact idxOf_first vs i hi hj
        rw [hs] at HX
        have HM : Hid (u ∈ vs) := List.mem_of_getElem? hi
        have HB2 := Lib.hid (HBW.out.trans (hb2.mono HBW.out.size))
        have q0 := World.rowIs.of_block Q0.out (hb2.block _ (World.rowIs.lt Q0.out))
        have q1 := World.rowIs.of_block Q1.out (hb2.block _ (World.rowIs.lt Q1.out))
        have hlk : ((xs.take k).map (symOf vs)).length = k := by simp; omega
        have hsn := fun j => rowN_snoc ((xs.take k).map (symOf vs)) i (fun _ => .int .i32 0) j
        rw [hlk] at hsn
        have z0 : w2.cell? ⟨w.heap.size + 1, k, none⟩ = some (rowN ((xs.take k).map (symOf vs)) (fun _ => .int .i32 0) k) := q1.cell (i := k) (by omega)
        have zf := q1.frozen k
        have HQ1 := Lib.hid ((q1.set k (.int .i32 i)).congr fun j _ => hsn j)
        have HQ0 := Lib.hid (q0.setOther (a := ⟨w.heap.size + 1, k, none⟩) (by simp) (.int .i32 i))
        have HBF := Lib.hid (HB2.out.setCell (p := ⟨w.heap.size + 1, k, none⟩) (by simp) (.int .i32 i))
        generalize rowN ((xs.take k).map (symOf vs)) (fun _ => .int .i32 0) k = zz at z0
        clear hs hi hj hb2 x0 x1 x2 hg q0 q1 hsn hlk Q0 Q1
        go_wp2
        go_roundw
        case rel =>
          refine ⟨k + 1, by omega, by go_num, HBF.out, fun j hj => ?_, HQ0.out, by rw [HX.out]; exact HQ1.out⟩
          by_cases e : j < k
          · exact HN.out j e
          · obtain rfl : j = k := by omega
            exact ⟨u, HU.out, HM.out⟩
        case measure => simp [intOf]; omega
    · have e : xs.take k = xs := List.take_of_length_le (by omega)
      have q1 := Q1.out
      rw [e] at q1
      obtain ⟨C, hC, hCs, hCat⟩ := q1
      obtain ⟨C0, hC0, hCs0, _⟩ := Q0.out
      have hCo := row_cells_one hCs hCat
      have hCi : (Try.prog.info? 43).map (·.size) = some C.size := by rw [hCs]; exact infoRow
      have hC8 : (wr.setRow w.heap.size C).heap[w.heap.size]? = some (.cells C 43 (0, 0)) := setRow_heap wr _ C0 C _ _ hC0
      have bel8 : Below w.heap.size w (wr.setRow w.heap.size C) := HBW.out.trans ⟨rfl, rfl, rfl, by simp, fun k hk => setRow_other wr _ k _ (by omega)⟩
      have HC : Hid _ := hC
      have HC0 : Hid _ := hC0
      have HI : Hid _ := hCi
      have HO : Hid _ := hCo
      have HS : Hid (C0.size = C.size) := by show C0.size = C.size; rw [hCs, hCs0]
      have HALL : Hid (∀ x ∈ xs, x ∈ vs) := fun x hx => by
        obtain ⟨j, hj, e⟩ := List.getElem_of_mem hx
        obtain ⟨y, h1, h2⟩ := HN.out j (by omega)
        rw [List.getElem?_eq_getElem hj, e] at h1
        exact Option.some.inj h1 ▸ h2
      clear hC hC0 hCo e
      go_wp2_with (first
        | (refine wpList_loadRow _ rfl (.tmp 6) 43 rfl (w.heap.size + 1) 24 41 C rfl HC.out Try.underlying43 HI.out ?_)
        | (refine wpList_storeRow _ rfl (.tmp 4) (.tmp 40) 43 rfl w.heap.size C0 C rfl rfl HC0.out HI.out HS.out HO.out ?_)
        | fail)
      exact bodyPost_ret (rseek_results rfl rfl hC8 HI.out) rfl ⟨.inl ⟨HALL.out, C, rfl, hCs, hCat⟩, bel8⟩
end Go.Proofs.Ythdcgikhcghigaa
