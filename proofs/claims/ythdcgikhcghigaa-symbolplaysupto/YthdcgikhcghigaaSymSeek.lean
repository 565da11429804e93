import Derived.Test.YthdcgikhcghigaaSymTuple
namespace Go.Proofs.Ythdcgikhcghigaa
open Go.RowKit Go.Maps Go.ChangeMaps
set_option linter.unusedVariables false
set_option linter.unusedSimpArgs false
attribute [local go_sem ↓] Go.wp_at_zero Go.wp_at_succ

theorem zero_rowIs (w : World) : (w.alloc (.cells zeroRow 43)).rowIs w.heap.size 43 24 (rowN [] (fun _ => .int .i32 0)) := by
  rw [rowN_nil]
  exact World.rowIs_alloc w zeroRow 43 (fun _ => .int .i32 0) (fun i hi => zeroRow_at i hi)

theorem seek_results {W : World} {tmps : Array Value} {br : Nat} {C : Array Value} {b : Bool} (h4 : tmps.getD 4 undef = .pointer (some ⟨br, 0, none⟩)) (h5 : tmps.getD 5 undef = .bool b) (hC : W.heap[br]? = some (.cells C 43 (0, 0))) (hi : (Try.prog.info? 43).map (·.size) = some C.size) :
    (results Try.f40 tmps).run Try.prog W = .ok (.tuple #[.agg C, .bool b]) W := by
  have hl : (loadVar 43 ⟨br, 0, none⟩).run Try.prog W = .ok (.agg C) W := run_loadVar_row _ _ 43 43 C (0, 0) _ hC Try.underlying43 rfl hi
  have e0 : results Try.f40 tmps = (do
      let x ← asAddr (tmps.getD 4 undef)
      let x ← loadVar 43 x
      pure (.tuple #[x, tmps.getD 5 undef])) := by
    simp [results, Try.results40]
  rw [e0, h4, h5]
  simp [asAddr, hl, Result.andThen]

set_option maxHeartbeats 6400000 in
theorem seek_ok {w : World} {B t : Nat} {vs : List V} {most : Int} (T : Table w B t vs most) (xs : List V) (a : Option Addr) (c : Nat) (hv : Lv w (.slice a xs.length c) xs) (hx : xs.length ≤ 24) (hin : ∀ x ∈ xs, x ∈ vs) :
    Calls Try.prog 40 #[.pointer (some ⟨t, 0, none⟩), .slice a xs.length c] w fun e w' => ∃ C, e = .returned (.tuple #[.agg C, .bool true]) ∧ C.size = 24 ∧ (∀ i, i < 24 → C[i]? = some (rowN (xs.map (symOf vs)) (fun _ => .int .i32 0) i)) ∧ Below w.heap.size w w' := by
  obtain ⟨m, sv, T0, _⟩ := T
  have b1 := (Below.refl w.heap.size w).alloc (Nat.le_refl _) (.cells zeroRow 43)
  have b2 := b1.alloc (by simp) (.cells zeroRow 43)
  have T1 := T0.below b1
  have r0 := (zero_rowIs w).alloc (.cells zeroRow 43)
  have r1 := zero_rowIs (w.alloc (.cells zeroRow 43))
  have e1 : (w.alloc (.cells zeroRow 43)).heap.size = w.heap.size + 1 := by simp
  rw [e1] at r1
  have hx' : ¬ (24 : Int) < (xs.length : Int) := by omega
  go_enter Try.func40, Try.ntmps40
  go_wp2_with (first
    | (go_at_call 21; refine (there_any T1).mono ?_; rintro e w' ⟨rfl, rfl⟩)
    | fail)
  show Code.wp _ _ _ _ ((w.alloc (.cells zeroRow 43)).alloc (.cells zeroRow 43))
  go_loopw [22] (fun i wr => ∃ k : Nat, k ≤ xs.length ∧ i = .int .i64 k ∧ Below w.heap.size w wr ∧ wr.rowIs w.heap.size 43 24 (rowN [] (fun _ => .int .i32 0)) ∧ wr.rowIs (w.heap.size + 1) 43 24 (rowN ((xs.take k).map (symOf vs)) (fun _ => .int .i32 0))) (fun i _ => xs.length - (intOf i).toNat)
  case atStart => exact ⟨0, Nat.zero_le _, rfl, b2, r0, r1⟩
  case round =>
    obtain ⟨k, hk, rfl, bel, q0, q1⟩ := hrel
    clear r0 r1 b1 b2 T1 e1
    by_cases hlt : k < xs.length
    · obtain ⟨g, off, rfl, hg, x0, x1, x2⟩ := (hv.below bel).at hlt
      have uwf := hv.1 _ (atV_mem hlt)
      have umem := hin _ (atV_mem hlt)
      have HT : Hid ((xs.take (k + 1)).map (symOf vs) = (xs.take k).map (symOf vs) ++ [symOf vs (atV xs k)]) := by
        show _ = _
        rw [take_snoc hlt]
        simp
      have hlk : ((xs.take k).map (symOf vs)).length = k := by simp; omega
      have Tw := T0.below bel
      have bal := (Below.refl wr.heap.size wr).alloc (Nat.le_refl _) (.cells #[.int .i8 (atV xs k).k, .int .i64 (atV xs k).n, .string (atV xs k).s] 39)
      have hk1 : (Instr.lookup 54 (.map (some m)) (.agg #[.int .i8 (atV xs k).k, .int .i64 (atV xs k).n, .string (atV xs k).s]) true).run Try.prog (wr.alloc (.cells #[.int .i8 (atV xs k).k, .int .i64 (atV xs k).n, .string (atV xs k).s] 39)).drew = .ok (.tuple #[.int .i32 (symOf vs (atV xs k)), .bool true]) (wr.alloc (.cells #[.int .i8 (atV xs k).k, .int .i64 (atV xs k).n, .string (atV xs k).s] 39)).drew := by
        have := (Tw.below bal).drew.look uwf
        rw [decide_eq_true umem] at this
        exact this
      have c0 : wr.cell? ⟨t, 0, none⟩ = some (.map (some m)) := Tw.row.cell (i := 0) (by omega)
      have ht : t < wr.heap.size := Tw.lts.1
      have hsn := fun i => rowN_snoc ((xs.take k).map (symOf vs)) (symOf vs (atV xs k)) (fun _ => .int .i32 0) i
      rw [hlk] at hsn
      generalize atV xs k = u at x0 x1 x2 uwf HT hk1 hsn bal
      generalize symOf vs u = s at HT hk1 hsn
      have z0 : wr.cell? ⟨w.heap.size + 1, k, none⟩ = some (rowN ((xs.take k).map (symOf vs)) (fun _ => .int .i32 0) k) := q1.cell (i := k) (by omega)
      have zf := q1.frozen k
      have q1lt := q1.lt
      have hfin := (q1.set k (.int .i32 s)).congr fun i _ => hsn i
      have q0f := q0.setOther (a := ⟨w.heap.size + 1, k, none⟩) (by simp) (.int .i32 s)
      have belf := bel.setCell (p := ⟨w.heap.size + 1, k, none⟩) (by simp) (.int .i32 s)
      have hk24 : (k : Int) < 24 := by omega
      generalize rowN ((xs.take k).map (symOf vs)) (fun _ => .int .i32 0) k = zz at z0
      clear hv hin Tw T0 q0 q1 bel hsn hlk umem
      go_wp2_with fail
      go_region
      go_wp2
      go_roundw
      case rel => exact ⟨k + 1, by omega, by go_num, (belf.alloc belf.size _).drew, (q0f.alloc _).drew, by rw [HT.out]; exact (hfin.alloc _).drew⟩
      case measure => simp [intOf]; omega
    · have e : xs.take k = xs := List.take_of_length_le (by omega)
      rw [e] at q1
      obtain ⟨C, hC, hCs, hCat⟩ := q1
      obtain ⟨C0, hC0, hCs0, _⟩ := q0
      have hCo := row_cells_one hCs hCat
      have hCi : (Try.prog.info? 43).map (·.size) = some C.size := by rw [hCs]; exact infoRow
      have hC8 : (wr.setRow w.heap.size C).heap[w.heap.size]? = some (.cells C 43 (0, 0)) := setRow_heap wr _ C0 C _ _ hC0
      have bel8 : Below w.heap.size w (wr.setRow w.heap.size C) := bel.trans ⟨rfl, rfl, rfl, by simp, fun k hk => setRow_other wr _ k _ (by omega)⟩
      have HC : Hid _ := hC
      have HC0 : Hid _ := hC0
      have HI : Hid _ := hCi
      have HO : Hid _ := hCo
      have HS : Hid (C0.size = C.size) := by show C0.size = C.size; rw [hCs, hCs0]
      clear hC hC0 hCo hv hin T0 e
      go_wp2_with (first
        | (refine wpList_loadRow _ rfl (.tmp 6) 43 rfl (w.heap.size + 1) 24 41 C rfl HC.out Try.underlying43 HI.out ?_)
        | (refine wpList_storeRow _ rfl (.tmp 4) (.tmp 43) 43 rfl w.heap.size C0 C rfl rfl HC0.out HI.out HS.out HO.out ?_)
        | fail)
      exact bodyPost_ret (seek_results rfl rfl hC8 HI.out) rfl ⟨C, rfl, hCs, hCat, bel8⟩
end Go.Proofs.Ythdcgikhcghigaa
