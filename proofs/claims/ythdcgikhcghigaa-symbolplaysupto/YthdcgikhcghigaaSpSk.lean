import Derived.Test.YthdcgikhcghigaaSpNo
namespace Go.Proofs.Ythdcgikhcghigaa
open Go.RowKit Go.Maps Go.ChangeMaps
set_option linter.unusedVariables false
set_option linter.unusedSimpArgs false
attribute [local go_sem ↓] Go.wp_at_zero Go.wp_at_succ

set_option maxHeartbeats 6400000 in
theorem seek_any {w : World} {B t : Nat} {vs : List V} {most : Int} (T : Table w B t vs most) (xs : List V) (a : Option Addr) (c : Nat) (hv : Lv w (.slice a xs.length c) xs) (hx : xs.length ≤ 24) :
    Calls Try.prog 40 #[.pointer (some ⟨t, 0, none⟩), .slice a xs.length c] w fun e w' =>
      (((∀ x ∈ xs, x ∈ vs) ∧ ∃ C, e = .returned (.tuple #[.agg C, .bool true]) ∧ C.size = 24 ∧ (∀ i, i < 24 → C[i]? = some (rowN (xs.map (symOf vs)) (fun _ => .int .i32 0) i))) ∨
      ((∃ x ∈ xs, x ∉ vs) ∧ e = .returned (.tuple #[.agg zeroRow, .bool false]))) ∧ Below w.heap.size w w' := by
  obtain ⟨m, sv, T0, _⟩ := T
  have b1 := (Below.refl w.heap.size w).alloc (Nat.le_refl _) (.cells zeroRow 43)
  have b2 := b1.alloc (by simp) (.cells zeroRow 43)
  have T1 := T0.below b1
  have r0 := (zero_rowIs w).alloc (.cells zeroRow 43)
  have r1 := zero_rowIs (w.alloc (.cells zeroRow 43))
  have e1 : (w.alloc (.cells zeroRow 43)).heap.size = w.heap.size + 1 := by simp
  rw [e1] at r1
  have hx' : ¬ (24 : Int) < (xs.length : Int) := by omega
  go_enter Try.func40, Try.ntmps40
  go_wp2_with (first
    | (go_at_call 21; refine (there_any T1).mono ?_; rintro e w' ⟨rfl, rfl⟩)
    | fail)
  show Code.wp _ _ _ _ ((w.alloc (.cells zeroRow 43)).alloc (.cells zeroRow 43))
  go_loopw [22] (fun i wr => ∃ k : Nat, k ≤ xs.length ∧ i = .int .i64 k ∧ Below w.heap.size w wr ∧ Hid (∀ j, j < k → ∃ x, xs[j]? = some x ∧ x ∈ vs) ∧ wr.rowIs w.heap.size 43 24 (rowN [] (fun _ => .int .i32 0)) ∧ wr.rowIs (w.heap.size + 1) 43 24 (rowN ((xs.take k).map (symOf vs)) (fun _ => .int .i32 0))) (fun i _ => xs.length - (intOf i).toNat)
  case atStart => exact ⟨0, Nat.zero_le _, rfl, b2, fun j hj => by omega, r0, r1⟩
  case round =>
    obtain ⟨k, hk, rfl, bel, HN, q0, q1⟩ := hrel
    clear r0 r1 b1 b2 T1 e1
    by_cases hlt : k < xs.length
    · obtain ⟨g, off, rfl, hg, x0, x1, x2⟩ := (hv.below bel).at hlt
      have uwf := hv.1 _ (atV_mem hlt)
      have HU : Hid (xs[k]? = some (atV xs k)) := by
        show xs[k]? = some (atV xs k)
        rw [List.getElem?_eq_getElem hlt, atV_eq hlt]
      by_cases umem : atV xs k ∈ vs
      · have HM := Lib.hid umem
        have HT : Hid ((xs.take (k + 1)).map (symOf vs) = (xs.take k).map (symOf vs) ++ [symOf vs (atV xs k)]) := by
          show _ = _
          rw [take_snoc hlt]
          simp
        have hlk : ((xs.take k).map (symOf vs)).length = k := by simp; omega
        have Tw := T0.below bel
        have bal := (Below.refl wr.heap.size wr).alloc (Nat.le_refl _) (.cells #[.int .i8 (atV xs k).k, .int .i64 (atV xs k).n, .string (atV xs k).s] 39)
        have hk1 : (Instr.lookup 54 (.map (some m)) (.agg #[.int .i8 (atV xs k).k, .int .i64 (atV xs k).n, .string (atV xs k).s]) true).run Try.prog (wr.alloc (.cells #[.int .i8 (atV xs k).k, .int .i64 (atV xs k).n, .string (atV xs k).s] 39)).drew = .ok (.tuple #[.int .i32 (symOf vs (atV xs k)), .bool true]) (wr.alloc (.cells #[.int .i8 (atV xs k).k, .int .i64 (atV xs k).n, .string (atV xs k).s] 39)).drew := by
          have := (Tw.below bal).drew.look uwf
          rw [decide_eq_true umem] at this
          exact this
        have c0 : wr.cell? ⟨t, 0, none⟩ = some (.map (some m)) := Tw.row.cell (i := 0) (by omega)
        have ht : t < wr.heap.size := Tw.lts.1
        have hsn := fun i => rowN_snoc ((xs.take k).map (symOf vs)) (symOf vs (atV xs k)) (fun _ => .int .i32 0) i
        rw [hlk] at hsn
        generalize atV xs k = u at x0 x1 x2 uwf HT hk1 hsn bal HU HM
        generalize symOf vs u = s at HT hk1 hsn
        have z0 : wr.cell? ⟨w.heap.size + 1, k, none⟩ = some (rowN ((xs.take k).map (symOf vs)) (fun _ => .int .i32 0) k) := q1.cell (i := k) (by omega)
        have zf := q1.frozen k
        have q1lt := q1.lt
        have hfin := (q1.set k (.int .i32 s)).congr fun i _ => hsn i
        have q0f := q0.setOther (a := ⟨w.heap.size + 1, k, none⟩) (by simp) (.int .i32 s)
        have belf := bel.setCell (p := ⟨w.heap.size + 1, k, none⟩) (by simp) (.int .i32 s)
        have hk24 : (k : Int) < 24 := by omega
        generalize rowN ((xs.take k).map (symOf vs)) (fun _ => .int .i32 0) k = zz at z0
        clear hv Tw T0 q0 q1 bel hsn hlk umem
        go_wp2_with fail
        go_region
        go_wp2
        go_roundw
        case rel => exact ⟨k + 1, by omega, by go_num, (belf.alloc belf.size _).drew, fun j hj => (by
            by_cases e : j < k
            · exact HN.out j e
            · obtain rfl : j = k := by omega
              exact ⟨u, HU.out, HM.out⟩), (q0f.alloc _).drew, by rw [HT.out]; exact (hfin.alloc _).drew⟩
        case measure => simp [intOf]; omega
      · have HM := Lib.hid umem
        have Tw := T0.below bel
        have bal := (Below.refl wr.heap.size wr).alloc (Nat.le_refl _) (.cells #[.int .i8 (atV xs k).k, .int .i64 (atV xs k).n, .string (atV xs k).s] 39)
        have hk1 : (Instr.lookup 54 (.map (some m)) (.agg #[.int .i8 (atV xs k).k, .int .i64 (atV xs k).n, .string (atV xs k).s]) true).run Try.prog (wr.alloc (.cells #[.int .i8 (atV xs k).k, .int .i64 (atV xs k).n, .string (atV xs k).s] 39)).drew = .ok (.tuple #[.int .i32 0, .bool false]) (wr.alloc (.cells #[.int .i8 (atV xs k).k, .int .i64 (atV xs k).n, .string (atV xs k).s] 39)).drew := by
          have := (Tw.below bal).drew.look uwf
          rw [decide_eq_false umem, show symOf vs (atV xs k) = 0 by simp [symOf, umem]] at this
          exact this
        have c0 : wr.cell? ⟨t, 0, none⟩ = some (.map (some m)) := Tw.row.cell (i := 0) (by omega)
        have ht : t < wr.heap.size := Tw.lts.1
        have hk24 : (k : Int) < 24 := by omega
        generalize atV xs k = u at x0 x1 x2 uwf hk1 bal HU HM
        have q0a := (q0.alloc (.cells #[.int .i8 u.k, .int .i64 u.n, .string u.s] 39)).drew
        have bela := (bel.alloc bel.size (.cells #[.int .i8 u.k, .int .i64 u.n, .string u.s] 39)).drew
        obtain ⟨C0, hC0, hCs0, _⟩ := q0a
        have hCi : (Try.prog.info? 43).map (·.size) = some zeroRow.size := infoRow
        have HC0 : Hid _ := hC0
        have HI : Hid _ := hCi
        have HO : Hid (zeroRow.all (·.oneCell') = true) := (by show zeroRow.all (·.oneCell') = true; simp [zeroRow, Value.oneCell'])
        have HS : Hid (C0.size = zeroRow.size) := by show C0.size = zeroRow.size; rw [hCs0]; rfl
        have HBA := Lib.hid bela
        clear hv Tw T0 q0 q1 bel umem hC0 bela
        go_wp2_with fail
        go_region
        have hC8 := setRow_heap _ _ C0 zeroRow _ _ HC0.out
        have HB8 : Hid (Below w.heap.size w ((wr.alloc (.cells #[.int .i8 u.k, .int .i64 u.n, .string u.s] 39)).drew.setRow w.heap.size zeroRow)) := HBA.out.trans ⟨rfl, rfl, rfl, by simp, fun k hk => setRow_other _ _ k _ (by omega)⟩
        go_wp2_with (first
          | (refine wpList_storeRow _ rfl (.tmp 4) _ 43 rfl w.heap.size C0 zeroRow rfl rfl HC0.out HI.out HS.out HO.out ?_)
          | fail)
        exact bodyPost_ret (seek_results rfl rfl hC8 HI.out) rfl ⟨.inr ⟨⟨u, List.mem_of_getElem? HU.out, HM.out⟩, rfl⟩, HB8.out⟩
    · have e : xs.take k = xs := List.take_of_length_le (by omega)
      rw [e] at q1
      obtain ⟨C, hC, hCs, hCat⟩ := q1
      obtain ⟨C0, hC0, hCs0, _⟩ := q0
      have hCo := row_cells_one hCs hCat
      have hCi : (Try.prog.info? 43).map (·.size) = some C.size := by rw [hCs]; exact infoRow
      have hC8 : (wr.setRow w.heap.size C).heap[w.heap.size]? = some (.cells C 43 (0, 0)) := setRow_heap wr _ C0 C _ _ hC0
      have bel8 : Below w.heap.size w (wr.setRow w.heap.size C) := bel.trans ⟨rfl, rfl, rfl, by simp, fun k hk => setRow_other wr _ k _ (by omega)⟩
      have HC : Hid _ := hC
      have HC0 : Hid _ := hC0
      have HI : Hid _ := hCi
      have HO : Hid _ := hCo
      have HS : Hid (C0.size = C.size) := by show C0.size = C.size; rw [hCs, hCs0]
      clear hC hC0 hCo hv T0 e
      have HALL : Hid (∀ x ∈ xs, x ∈ vs) := fun x hx => by
        obtain ⟨j, hj, e⟩ := List.getElem_of_mem hx
        obtain ⟨y, h1, h2⟩ := HN.out j (by omega)
        rw [List.getElem?_eq_getElem hj, e] at h1
        exact Option.some.inj h1 ▸ h2
      go_wp2_with (first
        | (refine wpList_loadRow _ rfl (.tmp 6) 43 rfl (w.heap.size + 1) 24 41 C rfl HC.out Try.underlying43 HI.out ?_)
        | (refine wpList_storeRow _ rfl (.tmp 4) (.tmp 43) 43 rfl w.heap.size C0 C rfl rfl HC0.out HI.out HS.out HO.out ?_)
        | fail)
      exact bodyPost_ret (seek_results rfl rfl hC8 HI.out) rfl ⟨.inl ⟨HALL.out, C, rfl, hCs, hCat⟩, bel8⟩
end Go.Proofs.Ythdcgikhcghigaa
