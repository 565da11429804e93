import Derived.Test.YtlnhnpfgmiffpaaG6
import Derived.Test.YtlnhnpfgmiffpaaG8
import Derived.Test.YtlnhnpfgmiffpaaG9
import Derived.Sort.BigQuietIn
section
namespace Go.Proofs.Ytlnhnpfgmiffpaa
open Go.RowKit Go.Maps
set_option linter.unusedVariables false
set_option linter.unusedSimpArgs false
attribute [local go_sem ↓] Go.wp_at_zero Go.wp_at_succ

/-- a row with its number -/
def nbC (x : Nat × List Int) : List Value := .int .i64 (x.1 : Int) :: x.2.map cellI
def flatN (l : List (Nat × List Int)) : List Value := l.flatMap nbC
def rngN (rows : List (List Int)) (f t : Int) (k : Nat) : List (Nat × List Int) := ((List.range k).filter (fun i : Nat => decide (f ≤ (i : Int) ∧ (i : Int) < t))).map (fun i : Nat => (i, rows.getD i []))
theorem rngN_in {rows : List (List Int)} {f t : Int} {k : Nat} (h1 : f ≤ (k : Int)) (h2 : (k : Int) < t) : rngN rows f t (k + 1) = rngN rows f t k ++ [(k, rows.getD k [])] := by
  simp [rngN, List.range_succ, List.filter_append, h1, h2]
theorem rngN_out {rows : List (List Int)} {f t : Int} {k : Nat} (h : ¬ (f ≤ (k : Int) ∧ (k : Int) < t)) : rngN rows f t (k + 1) = rngN rows f t k := by
  simp only [rngN, List.range_succ, List.filter_append]
  have : List.filter (fun i : Nat => decide (f ≤ (i : Int) ∧ (i : Int) < t)) [k] = [] := by simp; omega
  rw [this]
  simp
theorem rngN_len (rows : List (List Int)) (f t : Int) (k : Nat) : (rngN rows f t k).length ≤ k := by
  rw [rngN, List.length_map]
  exact Nat.le_trans (List.length_filter_le _ _) (by simp)
theorem foldN_off : ∀ (l : List Value) (off k : Nat) (A : Array Value) (i : Nat), ((l.zipIdx k).foldl (fun (cs : Array Value) (x : Value × Nat) => cs.setIfInBounds (off + x.2) x.1) A)[i]? = if off + k ≤ i ∧ i < off + k + l.length ∧ i < A.size then l[i - (off + k)]? else A[i]?
  | [], off, k, A, i => by
    rw [if_neg (by simp; omega)]
    rfl
  | a :: l, off, k, A, i => by
    rw [List.zipIdx_cons, List.foldl_cons, foldN_off l off (k + 1) _ i]
    simp only [Array.size_setIfInBounds, List.length_cons]
    by_cases h1 : off + (k + 1) ≤ i ∧ i < off + (k + 1) + l.length ∧ i < A.size
    · rw [if_pos h1, if_pos (by omega), show i - (off + k) = (i - (off + (k + 1))) + 1 by omega, List.getElem?_cons_succ]
    · rw [if_neg h1]
      by_cases hk : off + k = i
      · subst hk
        by_cases hs : off + k < A.size
        · rw [if_pos (by omega), Array.getElem?_setIfInBounds_self_of_lt hs, Nat.sub_self]
          rfl
        · rw [if_neg (by omega), Array.getElem?_eq_none (by simp; omega), Array.getElem?_eq_none (by omega)]
      · rw [Array.getElem?_setIfInBounds_ne hk, if_neg (by omega)]
theorem fold_num {n : Int} {r : List Int} (h : r.length = 24) {A : Array Value} (hs : A.size = 25) (h0 : A[0]? = some (.int .i64 n)) : ((r.map cellI).zipIdx).foldl (fun (cs : Array Value) (x : Value × Nat) => cs.setIfInBounds (1 + x.2) x.1) A = (Value.int .i64 n :: r.map cellI).toArray := by
  apply Array.ext_getElem?
  intro i
  rw [foldN_off, hs]
  by_cases hi : 1 ≤ i ∧ i < 25
  · rw [if_pos (by rw [List.length_map]; omega)]
    obtain ⟨j, rfl⟩ : ∃ j, i = j + 1 := ⟨i - 1, by omega⟩
    simp
  · rw [if_neg (by rw [List.length_map]; omega)]
    by_cases e : i = 0
    · subst e
      rw [h0]
      simp
    · rw [Array.getElem?_eq_none (by omega), Array.getElem?_eq_none (by simp [h]; omega)]
theorem fold_numB {n : Int} {r : List Int} (h : r.length = 24) {A : Array Value} (hs : A.size = 25) (h0 : A[0]? = some (.int .i64 n)) : ((r.map cellI).zipIdx 1).foldl (fun (cs : Array Value) (x : Value × Nat) => cs.setIfInBounds x.2 x.1) A = (Value.int .i64 n :: r.map cellI).toArray := by
  have := foldN_off (r.map cellI) 0 1 A
  apply Array.ext_getElem?
  intro i
  have e := this i
  simp only [Nat.zero_add] at e
  rw [e, hs]
  by_cases hi : 1 ≤ i ∧ i < 25
  · rw [if_pos (by rw [List.length_map]; omega)]
    obtain ⟨j, rfl⟩ : ∃ j, i = j + 1 := ⟨i - 1, by omega⟩
    simp
  · rw [if_neg (by rw [List.length_map]; omega)]
    by_cases e : i = 0
    · subst e
      rw [h0]
      simp
    · rw [Array.getElem?_eq_none (by omega), Array.getElem?_eq_none (by simp [h]; omega)]
set_option maxRecDepth 100000 in
theorem run_buildNum (n : Int) {r : List Int} (h : r.length = 24) (w : World) : (Instr.build 79 #[(0, .int .i64 n), (1, rowV r)]).run Try.prog w = .ok (.agg (Value.int .i64 n :: r.map cellI).toArray) w := by
  simp [Instr.build, Instr.fill, go_sem, rowV, h]
  exact fold_num h rfl rfl
set_option maxRecDepth 100000 in
theorem run_sliceNum (n : Int) {r : List Int} (h : r.length = 24) (w : World) : (Instr.buildSlice 69 1 #[(0, .agg (Value.int .i64 n :: r.map cellI).toArray)]).run Try.prog w = .ok (.slice (some ⟨w.heap.size, 0, none⟩) 1 1) (w.alloc (.cells (Value.int .i64 n :: r.map cellI).toArray 79)) := by
  simp [Instr.buildSlice, Instr.fill, go_sem, h]
  congr 2
  exact fold_numB h rfl rfl
theorem infoNum : (Try.prog.info? 79).map (fun i => (i.zero, i.size, i.bytes)) = some (some (.agg #[.int .i64 0, .int .i32 0, .int .i32 0, .int .i32 0, .int .i32 0, .int .i32 0, .int .i32 0, .int .i32 0, .int .i32 0, .int .i32 0, .int .i32 0, .int .i32 0, .int .i32 0, .int .i32 0, .int .i32 0, .int .i32 0, .int .i32 0, .int .i32 0, .int .i32 0, .int .i32 0, .int .i32 0, .int .i32 0, .int .i32 0, .int .i32 0, .int .i32 0]), 25, 104) := by kernel_rfl
theorem push_num {w0 wr : World} {B : Nat} {o : Value} {l : List (Nat × List Int)} (own : wr.ownsRow B 79 25 o l.length (flatN l)) (bel : Below B w0 wr) (hB : B ≤ wr.heap.size) (x : Nat × List Int) (hr : x.2.length = 24) (hl : l.length + 1 ≤ 1000000000) (ty : TypeId) :
    ∃ a c w3, (Builtin.append_ #[69, 69] ty #[o, .slice (some ⟨wr.heap.size, 0, none⟩) 1 1]).run Try.prog (wr.alloc (.cells (Value.int .i64 (x.1 : Int) :: x.2.map cellI).toArray 79)) = .ok (.slice a (l ++ [x]).length c) w3 ∧ w3.ownsRow B 79 25 (.slice a (l ++ [x]).length c) (l ++ [x]).length (flatN (l ++ [x])) ∧ Below B w0 w3 := by
  obtain ⟨i0, hi0, hz0, hz1, hz2⟩ := info_parts infoNum
  have hb := belowA (w := wr) (.cells (Value.int .i64 (x.1 : Int) :: x.2.map cellI).toArray 79)
  obtain ⟨v', w', h1, h2, h3, _, h5⟩ := run_append_own_at (P := Try.prog) _ B 69 ty 79 i0 _ 25 104 Try.underlying69 hi0 hz0 hz1 hz2 rfl (by decide) o l.length (flatN l) (own_below own hb) ⟨wr.heap.size, 0, none⟩ 1 1 (nbC x) (by simp [nbC, hr]) (fun j u hu => lit_news wr _ 79 j u (by simpa [nbC] using hu)) (fun u hu => by
    rcases List.mem_cons.1 hu with rfl | hu
    · rfl
    · obtain ⟨y, _, rfl⟩ := List.mem_map.1 hu
      rfl) (by unfold maxLen; omega) (by omega) (Nat.le_trans hB hb.size)
  have e : l.length + 1 = (l ++ [x]).length := by simp
  have e2 : flatN l ++ nbC x = flatN (l ++ [x]) := by simp [flatN]
  rw [e, e2] at h2
  obtain ⟨a, c, rfl, _⟩ := own_form h2
  exact ⟨a, c, w', h1, h2, (bel.trans (hb.mono hB)).grown h3 (Nat.le_trans hB hb.size) (fun j hj => ((own_below own hb).lt j hj).1)⟩
attribute [-go_sem] loadVar Builtin.append_ Instr.build Instr.buildSlice
set_option maxHeartbeats 3200000 in
set_option maxRecDepth 100000 in
theorem rrange_any {w : World} {B p : Nat} {sv : Value} {rows : List (List Int)} {ar tk : Int} (h : Rf w B p sv rows ar tk) (hlen : rows.length ≤ 100000000) (f t : Int) : Calls Try.prog 32 #[.pointer (some ⟨p, 0, none⟩), .int .i64 f, .int .i64 t] w fun e w' => ∃ a c, e = .returned (.slice a (rngN rows f t rows.length).length c) ∧ w'.ownsRow w.heap.size 79 25 (.slice a (rngN rows f t rows.length).length c) (rngN rows f t rows.length).length (flatN (rngN rows f t rows.length)) ∧ Below w.heap.size w w' := by
  obtain ⟨ao, co, rfl, _⟩ := own_form h.own
  have HR := Lib.hid h
  clear h
  go_enter Try.func32, Try.ntmps32
  go_wp2
  go_loopw [7, 8] (fun lv iv wr => ∃ (k : Nat) (a : Option Addr) (c : Nat), k ≤ rows.length ∧ iv = .int .i64 k ∧ lv = .slice a (rngN rows f t k).length c ∧ Hid (Below w.heap.size w wr ∧ wr.ownsRow w.heap.size 79 25 (.slice a (rngN rows f t k).length c) (rngN rows f t k).length (flatN (rngN rows f t k)))) (fun _ iv _ => rows.length - (intOf iv).toNat)
  case atStart => exact ⟨0, none, 0, Nat.zero_le _, rfl, rfl, Below.refl _ _, World.ownsRow_nil _ _ _ _⟩
  case round =>
    obtain ⟨k, a, c, hk, rfl, rfl, HI⟩ := hrel
    have HT := Lib.hid (rlen_yes (HR.out.keep HI.out.1))
    by_cases hlt : k < rows.length
    · have hlt' : (k : Int) < (rows.length : Int) := by omega
      have hk0 : (0 : Int) ≤ (k : Int) := by omega
      by_cases h1 : f ≤ (k : Int)
      · by_cases h2 : (k : Int) < t
        · obtain ⟨g, rfl⟩ := own_some HR.out.own (by omega)
          have l0 := run_loadRows ((HR.out.keep HI.out.1).rl.at (j := 2) rfl)
          have hget : rows[k]? = some (rows.getD k []) := by rw [List.getD, List.getElem?_eq_getElem hlt]; rfl
          have hro := HR.out.ok _ (List.mem_of_getElem? hget)
          have l3 := run_loadAtRow rfl (HR.out.keep HI.out.1).own (fun x hx => (HR.out.ok x hx).len) hget
          have hkl := rngN_len rows f t k
          obtain ⟨a2, c2, w4, ra, own4, b4⟩ := push_num HI.out.2 HI.out.1 HI.out.1.size (k, rows.getD k []) hro.len (by omega) 69
          have HN : Hid (Below w.heap.size w w4 ∧ w4.ownsRow w.heap.size 79 25 (.slice a2 (rngN rows f t (k + 1)).length c2) (rngN rows f t (k + 1)).length (flatN (rngN rows f t (k + 1)))) := by
            rw [Hid, rngN_in h1 h2]; exact ⟨b4, own4⟩
          rw [← rngN_in h1 h2] at ra
          have hbn := run_buildNum (k : Int) hro.len wr
          have hsn := run_sliceNum (k : Int) hro.len wr
          unfold rowV at l3 hbn
          simp only at ra
          clear hro own4 b4 hkl hget
          generalize rows.getD k [] = rk at l3 ra hbn hsn
          go_wp2_with fail
          refine HT.out.mono ?_
          rintro e w1 ⟨rfl, rfl⟩
          clear HT
          go_wp2
          go_roundw
          case rel => exact ⟨k + 1, a2, c2, by omega, by go_num, rfl, HN⟩
          case measure => simp [intOf]; omega
        · have e := rngN_out (rows := rows) (f := f) (t := t) (k := k) (by omega)
          have HN : Hid (rngN rows f t (k + 1) = rngN rows f t k) := e
          clear e
          go_wp2_with fail
          refine HT.out.mono ?_
          rintro e w1 ⟨rfl, rfl⟩
          clear HT
          go_wp2
          go_roundw
          case rel => exact ⟨k + 1, a, c, by omega, by go_num, by rw [HN.out], by rw [HN.out]; exact HI⟩
          case measure => simp [intOf]; omega
      · have e := rngN_out (rows := rows) (f := f) (t := t) (k := k) (by omega)
        have HN : Hid (rngN rows f t (k + 1) = rngN rows f t k) := e
        clear e
        go_wp2_with fail
        refine HT.out.mono ?_
        rintro e w1 ⟨rfl, rfl⟩
        clear HT
        go_wp2
        go_roundw
        case rel => exact ⟨k + 1, a, c, by omega, by go_num, by rw [HN.out], by rw [HN.out]; exact HI⟩
        case measure => simp [intOf]; omega
    · obtain rfl : k = rows.length := by omega
      go_wp2_with fail
      refine HT.out.mono ?_
      rintro e w1 ⟨rfl, rfl⟩
      clear HT
      go_wp2
      go_ret
      exact ⟨a, c, rfl, HI.out.2, HI.out.1⟩
end Go.Proofs.Ytlnhnpfgmiffpaa
end
section
namespace Go.Proofs.Ytlnhnpfgmiffpaa
open Go.RowKit Go.Maps Go.Shelf
set_option linter.unusedVariables false
set_option linter.unusedSimpArgs false
attribute [local go_sem ↓] Go.wp_at_zero Go.wp_at_succ
attribute [local go_sem] Oper.semAt_some

/-- amid a range: the rows of the list still stand, and the box of its end is as it was -/
def KeepsP (g : Nat) (rows : List (List Int)) (b2 : Nat) (W W' : World) : Prop := (Hl g rows W → Hl g rows W') ∧ W'.heap[b2]? = W.heap[b2]?
theorem KeepsP.trans {g b2 : Nat} {rows : List (List Int)} {X Y Z : World} (h : KeepsP g rows b2 X Y) (k : KeepsP g rows b2 Y Z) : KeepsP g rows b2 X Z := ⟨fun a => k.1 (h.1 a), k.2.trans h.2⟩
theorem KeepsP.of {g b2 : Nat} {rows : List (List Int)} {X Y : World} (h1 : Y.heap[g]? = X.heap[g]?) (h2 : Y.heap[b2]? = X.heap[b2]?) : KeepsP g rows b2 X Y := ⟨fun a => a.block h1, h2⟩
theorem hl_load {w : World} {g : Nat} {rows : List (List Int)} (h : Hl g rows w) (hok : ∀ r ∈ rows, r.length = 24) {i : Nat} {r : List Int} (hi : rows[i]? = some r) :
    (loadVar 40 ⟨g, i * 24, none⟩).run Try.prog w = .ok (rowV r) w := by
  have hr : r.length = 24 := hok r (List.mem_of_getElem? hi)
  have hil : i < rows.length := (List.getElem?_eq_some_iff.1 hi).1
  refine run_loadVar_mid w g (i * 24) 40 (r.map cellI) _ (fun j v hj => ?_) Try.underlying40 rfl (by rw [List.length_map, hr]; exact infoRow)
  have hj24 : j < 24 := by
    have := (List.getElem?_eq_some_iff.1 hj).1
    rw [List.length_map, hr] at this
    exact this
  have hx := flat_row rows hok i j r hi hj24
  rw [hj] at hx
  show w.cell? ⟨g, i * 24 + j, none⟩ = some v
  rw [h (i * 24 + j) (by omega)]
  exact hx
theorem rngN_is (rows : List (List Int)) (f t : Int) : ∀ k, rngN rows f t k = (List.range (min k t.toNat - f.toNat)).map (fun i => (f.toNat + i, rows.getD (f.toNat + i) []))
  | 0 => by simp [rngN]
  | k + 1 => by
    by_cases h : f ≤ (k : Int) ∧ (k : Int) < t
    · rw [rngN_in h.1 h.2, rngN_is rows f t k]
      have e1 : min k t.toNat - f.toNat = k - f.toNat := by omega
      have e2 : min (k + 1) t.toNat - f.toNat = (k - f.toNat) + 1 := by omega
      have e3 : f.toNat + (k - f.toNat) = k := by omega
      rw [e1, e2, List.range_succ, List.map_append, List.map_singleton, e3]
    · rw [rngN_out h, rngN_is rows f t k]
      have e : min (k + 1) t.toNat - f.toNat = min k t.toNat - f.toNat := by omega
      rw [e]
attribute [-go_sem] loadVar
set_option maxRecDepth 100000 in
set_option maxHeartbeats 3200000 in
/-- a range from any number to any other -/
theorem range_tellsG (n : Nat) {w : World} {B t m : Nat} {sv : Value} {rows : List (List Int)} {ar gone : Int} (h : Rel w B t m sv rows ar gone) (hlen : rows.length ≤ 1000000000) {b0 b1 b2 : Nat} (g : Nat) (hgs : ∀ q, sv.ownBlock = some q → q = g) (f tt : Int)
    (h0 : w.cell? ⟨b0, 0, none⟩ = some (.pointer (some ⟨t, 0, none⟩))) (h1 : w.cell? ⟨b1, 0, none⟩ = some (.int .i64 f)) (h2 : w.cell? ⟨b2, 0, none⟩ = some (.int .i64 tt)) (hb : b0 < w.heap.size ∧ b1 < w.heap.size ∧ b2 < w.heap.size) :
    SeqTells Fence.wide n Try.prog 51 #[.pointer (some ⟨b0, 0, none⟩), .pointer (some ⟨b1, 0, none⟩), .pointer (some ⟨b2, 0, none⟩)] (rowsAt rows f.toNat) (KeepsP g rows b2) (min rows.length tt.toNat - f.toNat) w := by
  intro l J Jx W hW _ _ hY hJ0
  have hR := h.keep hW
  obtain ⟨asv, csv, rfl, _⟩ := own_form h.own
  have c0 := run_loadRelR ((hW.cell (p := ⟨b0, 0, none⟩) hb.1).trans h0)
  have c1 := run_loadInt ((hW.cell (p := ⟨b1, 0, none⟩) hb.2.1).trans h1)
  have HC2 := Lib.hid ((hW.cell (p := ⟨b2, 0, none⟩) hb.2.2).trans h2)
  have HHL : Hid (Hl g rows W) := by
    rcases hR.own.2 with ⟨e, hz⟩ | ⟨g', cap, cur, e, _⟩
    · intro j hj
      omega
    · have : g' = g := hgs g' (by rw [e]; rfl)
      subst this
      exact hR.hl (by rw [e]; rfl)
  have HOK : Hid (∀ r ∈ rows, r.length = 24) := fun r hr => (hR.ok r hr).len
  have HAS : Hid (0 < rows.length → asv = some ⟨g, 0, none⟩) := fun hp => by
    rcases hR.own.2 with ⟨e, hz⟩ | ⟨g', cap, cur, e, _⟩
    · omega
    · injection e with e1 _ _
      rw [e1, hgs g' (by rw [e1]; rfl)]
  have HY := Lib.hid hY
  have HT := Lib.hid (there_yes hR)
  have HJ := Lib.hid hJ0
  have lr := run_loadRows (hR.rl.at (j := 0) rfl)
  clear h h0 h1 h2 hW hY hR hJ0 hgs
  obtain ⟨lo, hlo⟩ : ∃ lo : Nat, f.toNat = lo := ⟨_, rfl⟩
  rw [hlo] at HY ⊢
  obtain ⟨N, hN⟩ : ∃ N : Nat, min rows.length tt.toNat - lo = N := ⟨_, rfl⟩
  rw [hN] at HY ⊢
  refine callsIn_of_wp Try.func51 rfl trivial ?_ rfl
  simp only [Try.ntmps51, List.size_toArray, List.length_cons, List.length_nil, Nat.reduceAdd, Nat.reduceSub, Array.replicate_succ, Array.replicate_zero, List.push_toArray, List.append_toArray, List.nil_append, List.cons_append]
  gi_wp2_with fail
  refine ⟨trivial, fun h => (nomatch h), (callsIn_wide.2 HT.out).mono ?_⟩
  rintro e w1 ⟨rfl, rfl⟩
  by_cases hf : f < 0
  all_goals
    gi_wp2
    clear c0 c1 lr HT
    gi_loopw [6] (fun i wr => ∃ k : Nat, k ≤ N ∧ i = .int .i64 ((lo + k : Nat) : Int) ∧ J k wr ∧ Hl g rows wr ∧ wr.heap[b2]? = w1.heap[b2]?) (fun i _ => lo + N - (intOf i).toNat)
    case atStart => exact ⟨0, Nat.zero_le _, by simp; omega, HJ.out, HHL.out, rfl⟩
    case round =>
      obtain ⟨k, hk, rfl, hJs, hhl, hb2⟩ := hrel
      have hc2 := run_loadInt ((cell_block hb2 0).trans HC2.out)
      by_cases hlt : k < N
      · have has := HAS.out (by omega)
        subst has
        obtain ⟨q, hq⟩ : ∃ q : Nat, q = lo + k := ⟨_, rfl⟩
        obtain ⟨fn, tmps, assign, body, hy, hR⟩ := HY.out k wr hlt hJs
        unfold rowsAt at hy
        rw [← hq] at hy ⊢
        have hql : q < rows.length := by omega
        have hgr : rows[q]? = some (rows.getD q []) := by simp [List.getD, List.getElem?_eq_getElem hql]
        have hld := hl_load hhl HOK.out hgr
        generalize rows.getD q [] = r at hy hld
        unfold rowV at hy hld
        have hq0 : (0 : Int) ≤ (q : Int) := by omega
        have hql' : (q : Int) < (rows.length : Int) := by omega
        have hqt : (q : Int) < tt := by omega
        have iw : IntKind.i64.wrap ((q : Int) + 1) = (q : Int) + 1 := by rw [IntKind.wrap_i64]; omega
        have HMK := Lib.hid hq
        have HHB := Lib.hid (And.intro hhl hb2)
        have HL2 := Lib.hid (And.intro hlo hN)
        clear hq hgr HY HC2 HJ hhl hb2 HHL HOK HAS hlo hN
        by_cases ht : (rows.length : Int) < tt
        all_goals
          gi_wp2
          refine ⟨fun h => (nomatch h), hR.mono ?_⟩
          rintro e W3 (⟨rfl, hJ3, hk3⟩ | ⟨rfl, hJx3⟩)
          · gi_wp2
            go_roundw
            case rel => exact ⟨k + 1, by omega, by have := HMK.out; simp; omega, hJ3, hk3.1 HHB.out.1, hk3.2.trans HHB.out.2⟩
            case measure => have := HMK.out; simp [intOf]; omega
          · gi_wp2
            refine bodyPost_ret (results_none rfl _ _ _) rfl ?_
            exact ⟨⟨_, rfl⟩, .inr ⟨k + 1, by omega, hJx3⟩⟩
      · obtain rfl : k = N := by omega
        have HJS := Lib.hid hJs
        have HL2 := Lib.hid (And.intro hlo hN)
        obtain ⟨q, hq⟩ : ∃ q : Nat, q = lo + k := ⟨_, rfl⟩
        rw [← hq]
        by_cases ht : (rows.length : Int) < tt
        · have hql' : ¬ (q : Int) < (rows.length : Int) := by omega
          clear hJs HY HC2 HJ HHL HOK HAS hlo hN hhl hb2 hq
          gi_wp2
          go_end0
          exact ⟨⟨_, rfl⟩, .inl HJS.out⟩
        · have hql' : ¬ (q : Int) < tt := by omega
          clear hJs HY HC2 HJ HHL HOK HAS hlo hN hhl hb2 hq
          gi_wp2
          go_end0
          exact ⟨⟨_, rfl⟩, .inl HJS.out⟩
set_option maxRecDepth 100000 in
set_option maxHeartbeats 3200000 in
theorem range_tellsN (n : Nat) {w : World} {b0 b1 b2 : Nat} (h0 : w.cell? ⟨b0, 0, none⟩ = some (.pointer none)) (hb : b0 < w.heap.size) (encs : Nat → Array Value) (Kp : World → World → Prop) :
    SeqTells Fence.wide n Try.prog 51 #[.pointer (some ⟨b0, 0, none⟩), .pointer (some ⟨b1, 0, none⟩), .pointer (some ⟨b2, 0, none⟩)] encs Kp 0 w := by
  intro l J Jx W hW _ _ hY hJ0
  have c0 := run_loadRelR ((hW.cell (p := ⟨b0, 0, none⟩) hb).trans h0)
  have HT := Lib.hid (there_nil W)
  have HJ := Lib.hid hJ0
  clear h0 hW hY hJ0
  refine callsIn_of_wp Try.func51 rfl trivial ?_ rfl
  simp only [Try.ntmps51, List.size_toArray, List.length_cons, List.length_nil, Nat.reduceAdd, Nat.reduceSub, Array.replicate_succ, Array.replicate_zero, List.push_toArray, List.append_toArray, List.nil_append, List.cons_append]
  gi_wp2_with fail
  refine ⟨trivial, fun h => (nomatch h), (callsIn_wide.2 HT.out).mono ?_⟩
  rintro e w1 ⟨rfl, rfl⟩
  gi_wp2
  refine bodyPost_ret (results_none rfl _ _ _) rfl ?_
  exact ⟨⟨_, rfl⟩, .inl HJ.out⟩
/-- the closure of a Range: of which relation, from where, to where -/
def SeqV (w : World) (sq pT : Value) (f t : Int) : Prop := ∃ b0 b1 b2, sq = .func (.func 51) #[] #[.pointer (some ⟨b0, 0, none⟩), .pointer (some ⟨b1, 0, none⟩), .pointer (some ⟨b2, 0, none⟩)] ∧
  w.cell? ⟨b0, 0, none⟩ = some pT ∧ w.cell? ⟨b1, 0, none⟩ = some (.int .i64 f) ∧ w.cell? ⟨b2, 0, none⟩ = some (.int .i64 t) ∧ b0 < w.heap.size ∧ b1 < w.heap.size ∧ b2 < w.heap.size
theorem SeqV.below {w w' : World} {sq pT : Value} {f t : Int} (h : SeqV w sq pT f t) (b : Below w.heap.size w w') : SeqV w' sq pT f t := by
  obtain ⟨b0, b1, b2, e, h0, h1, h2, l0, l1, l2⟩ := h
  have := b.size
  exact ⟨b0, b1, b2, e, (b.cell (p := ⟨b0, 0, none⟩) l0).trans h0, (b.cell (p := ⟨b1, 0, none⟩) l1).trans h1, (b.cell (p := ⟨b2, 0, none⟩) l2).trans h2, by omega, by omega, by omega⟩
set_option maxHeartbeats 1600000 in
set_option maxRecDepth 100000 in
theorem range_calls {p : Value} (hp : p = .pointer none ∨ ∃ t, p = .pointer (some ⟨t, 0, none⟩)) (i j : Int) (w : World) : Calls Try.prog 31 #[p, .int .i64 i, .int .i64 j] w fun e w' => ∃ sq, e = .returned sq ∧ SeqV w' sq p i j ∧ Below w.heap.size w w' := by
  obtain rfl | ⟨t, rfl⟩ := hp
  all_goals
    go_enter Try.func31, Try.ntmps31
    go_wp2
    go_ret
    refine ⟨_, rfl, ⟨_, _, _, rfl, (by go_simp), (by go_simp), (by go_simp), (by simp <;> omega), (by simp <;> omega), (by simp <;> omega)⟩, ?_⟩
    exact (((Below.refl w.heap.size w).alloc (Nat.le_refl _) _).alloc (by simp) _).alloc (by simp; omega) _
end Go.Proofs.Ytlnhnpfgmiffpaa
end
section
namespace Go.Proofs.Ytlnhnpfgmiffpaa
open Go
set_option linter.unusedVariables false
set_option linter.unusedSimpArgs false

/-! a drawn region that only reads, within a round of a range over a function -/
theorem upon_round {F : Fence} {n : Nat} {P : Program} {o : Oper} {a : Act} {next : Act → World → Prop} {Q : Exit → Act → World → Prop} {r : Result Next} (l : Nat) (h : o.uponIn F n P a next Q r) : o.uponIn (F.inRound l) n P a next Q r := by
  cases r with
  | ok x w => cases x <;> exact h
  | _ => exact h
theorem wpAnyIn_round {F : Fence} {n : Nat} {P : Program} {md : Region.Mode} {ops : Array Oper} {Q : Exit → Act → World → Prop} (l : Nat) (hro : F.round = none) (hd : ∀ (i : Nat) (o : Oper), ops[i]? = some o → ∀ c, o.op ≠ .defer c) :
    ∀ (fuel : Nat) (listed : Array Bool) (a : Act) (w : World), wpAnyIn F n P md ops Q fuel listed a w → wpAnyIn (F.inRound l) n P md ops Q fuel listed a w
  | 0, _, _, _, h => h
  | fuel + 1, listed, a, w, h => ⟨h.1, fun i hi => by
    have h1 := wpOpIn_mono (fun a w => wpAnyIn_round l hro hd fuel (listed.setIfInBounds i true) a w) (h.2 i hi)
    unfold wpOpIn at h1 ⊢
    cases ho : ops[i]? with
    | none => simpa only [ho] using h1
    | some o =>
      simp only [ho] at h1 ⊢
      split
      · rename_i hw
        simp only [hw, if_true] at h1
        unfold Oper.wpIn at h1 ⊢
        refine ⟨h1.1, ?_⟩
        have h2 := upon_round l h1.2
        rw [Oper.semAt_eq _ _ _ (hd i o ho)] at h2 ⊢
        exact h2
      · rename_i hw
        simp only [hw, Bool.false_eq_true, if_false] at h1
        exact h1⟩
def noDefer (o : Oper) : Bool := match o.op with
  | .defer _ => false
  | _ => true
theorem wpIn_region_quiet_round {n lp : Nat} {P : Program} {id : Nat} {Q : Exit → Act → World → Prop} {a : Act} {w : World} {l : List Oper} (hm : P.follows .mixedOrders = true) (hB : Region.lexB .any l.toArray = true) (hd : l.all noDefer = true)
    (h : wpQuietIn Fence.wide n P l.toArray (fun w' => ∃ n, w' = w.drewN n) (fun a' => ∀ w', (∃ n, w' = w.drewN n) → Q .normal a' w') l a) : (Code.region id l.toArray true).wpIn (Fence.wide.inRound lp) n P Q a w := by
  simp only [Region.lexB, Bool.and_eq_true] at hB
  refine wpIn_region_any hm (wpAnyIn_round lp rfl (fun i o ho c hc => ?_) _ _ _ _ (wpAnyIn_of_quiet (C := fun w' => ∃ n, w' = w.drewN n) (Q := fun a' => ∀ w', (∃ n, w' = w.drewN n) → Q .normal a' w') rfl (fun _ w' hw' h => h w' hw') _ _ _ _ ⟨1, rfl⟩ ?_))
  · have h1 := List.all_eq_true.1 hd o (List.mem_of_getElem? (by simpa using ho))
    simp [noDefer, hc] at h1
  · have := wpAnyQIn_lex (F := Fence.wide) (n := n) (C := fun w' => ∃ n, w' = w.drewN n) (md := .any) hB.1 l 0 (Array.replicate l.toArray.size false) a (by simp) (by simpa using hB.2) h
    simpa using this
end Go.Proofs.Ytlnhnpfgmiffpaa
end
