import Derived.Test.YtekjoccbbamehaaIxFill
import Derived.Test.YtekjoccbbamehaaRows
import Derived.ProofKit
import Derived.OpenShut
import Derived.Lib.SmallJoins
import Derived.SizedLaws
import Derived.Deep.CondSized
namespace Go.Proofs.Ytekjoccbbamehaa
open Go.ChangeShapes Go.WideShapes Go.ChangeAt Go.RowKit Go.Joins Go.Deep
set_option linter.unusedVariables false
set_option linter.unusedSimpArgs false
set_option maxRecDepth 100000

theorem own : ownKnob Try.prog.godebug = none := by kernel_rfl
theorem laidOut : laidOutB Try.prog = true := by kernel_rfl
theorem cellsKI : Try.prog.cellsOf 3 = 1 := by kernel_rfl
theorem cellsKR : Try.prog.cellsOf 34 = 24 := by kernel_rfl
theorem cellsKY : Try.prog.cellsOf 32 = 1 := by kernel_rfl
theorem bulk_one {H : Type} (d : DataW H) : 1 ≤ Rows.uptoBulk d := by
  cases d with
  | lit l => cases l <;> simp [Rows.uptoBulk]
  | _ => simp [Rows.uptoBulk]
theorem bulk_length {H : Type} : ∀ l : List (DataW H), l.length ≤ Rows.uptoBulkAll l
  | [] => Nat.zero_le _
  | x :: r => by
    have h1 := bulk_one x
    have h2 := bulk_length r
    simp only [Rows.uptoBulkAll, List.length_cons]
    omega
theorem bulk_head {H : Type} (d : DataW H) (r : List (DataW H)) : Rows.uptoBulk d ≤ Rows.uptoBulkAll (d :: r) := by
  simp only [Rows.uptoBulkAll]
  omega
theorem bulk_tail {H : Type} (d : DataW H) (r : List (DataW H)) : Rows.uptoBulkAll r ≤ Rows.uptoBulkAll (d :: r) := by
  simp only [Rows.uptoBulkAll]
  omega
theorem bulk_small {H : Type} {l : List (DataW H)} (h : Rows.uptoSmall H l = true) : Rows.uptoBulkAll l ≤ 1048576 := of_decide_eq_true h

theorem mask_nat {n : Int} (h : (Lit.int .u32 n).wf = true) : ∃ M : Nat, n = (M : Int) ∧ M < 4294967296 := by
  have h2 : (0 : Int) ≤ n ∧ n ≤ 4294967295 := by
    simp [Lit.wf, IntKind.min, IntKind.max, IntKind.signed, IntKind.bits] at h
    omega
  exact ⟨n.toNat, by omega, by omega⟩
theorem byte_nat {n : Int} (h : (Lit.int .u8 n).wf = true) : ∃ M : Nat, n = (M : Int) ∧ M < 256 := by
  have h2 : (0 : Int) ≤ n ∧ n ≤ 255 := by
    simp [Lit.wf, IntKind.min, IntKind.max, IntKind.signed, IntKind.bits] at h
    omega
  exact ⟨n.toNat, by omega, by omega⟩
section
variable {H : Type} {enc : TypeId × Value → H} {w : World}
/-- a row's 24 cells -/
theorem row_cells {base : Nat} {spare : Nat → Bool} {held : Bool} {n : Nat} {cs : List Value} {y : DataW H × List MemPlace} (hl : cs.length = 24) (h : DataW.trod enc Try.prog w base spare held n 34 cs = some y) :
    ∃ r : List Int, RowOk r ∧ cs = r.map cellI := by
  obtain ⟨xs, k, hk, hxy, _, hxl, hf⟩ := DataW.trod_array Try.underlying34 h
  have hall : ∀ v ∈ cs, ∃ a : Int, v = cellI a ∧ (Lit.int .i32 a).wf = true := by
    intro v hv
    obtain ⟨i, hi, rfl⟩ := List.getElem_of_mem hv
    have g := hf i (by omega)
    rw [cellsKY, List.getElem?_eq_getElem (by omega)] at g
    obtain ⟨a, e, _, hw⟩ := DataW.trod_int Try.underlying32 g
    refine ⟨a, ?_, hw⟩
    have e0 := congrArg (fun l => l[0]?) e
    simp [List.getElem?_take, List.getElem?_drop, List.getElem?_eq_getElem hi] at e0
    exact e0
  have hex : ∀ l : List Value, (∀ v ∈ l, ∃ a : Int, v = cellI a ∧ (Lit.int .i32 a).wf = true) → ∃ r : List Int, l = r.map cellI ∧ ∀ x ∈ r, (Lit.int .i32 x).wf = true := by
    intro l
    induction l with
    | nil => intro _; exact ⟨[], rfl, fun _ h => by simp at h⟩
    | cons v l ih =>
      intro hl
      obtain ⟨a, rfl, ha⟩ := hl v (by simp)
      obtain ⟨r, rfl, hr⟩ := ih (fun x hx => hl x (by simp [hx]))
      exact ⟨a :: r, rfl, fun x hx => by
        rcases List.mem_cons.1 hx with rfl | hx
        · exact ha
        · exact hr x hx⟩
  obtain ⟨r, rfl, hr⟩ := hex cs hall
  exact ⟨r, ⟨by simpa using hl, hr⟩, rfl⟩
theorem flatX_len (l : List (List Int)) (h : ∀ x ∈ l, x.length = 24) : (l.flatMap (fun r => r.map cellI)).length = l.length * 24 := by
  induction l with
  | nil => rfl
  | cons x l ih =>
    rw [List.flatMap_cons, List.length_append, List.length_map, h x (by simp), ih (fun y hy => h y (by simp [hy])), List.length_cons]
    omega
theorem open_rows {held : Bool} {fuel : Nat} {cs : List Value} {x : DataW H × List MemPlace} (h : DataW.trod enc Try.prog w 0 (fun _ => true) held fuel 22 cs = some x) :
    ∃ (a : Option Addr) (ts : List (List Int)) (c : Nat), cs = [.slice a ts.length c] ∧ Lrw w (.slice a ts.length c) ts ∧ ((x.1 = .nil ∧ ts.length = 0) ∨ ∃ elems sp, x.1 = .slice elems sp ∧ elems.length = ts.length) := by
  rcases open_slice Try.underlying22 h with ⟨hcs, hx⟩ | ⟨a, len, cap, m, nn, D, Pl, hcs, hb, hl, hm, hmm, hx, hel⟩
  · exact ⟨none, [], 0, hcs, ⟨by simp, none, 0, rfl, fun i x hi => by simp at hi⟩, .inl ⟨by rw [hx], rfl⟩⟩
  · have hfin : ∃ elems sp, x.1 = .slice elems sp ∧ elems.length = len := ⟨_, _, by rw [hx], by simp⟩
    by_cases h0 : len = 0
    · subst h0
      exact ⟨some a, [], cap, hcs, ⟨by simp, some a, cap, rfl, fun i x hi => by simp at hi⟩, .inr hfin⟩
    · have hlm : len ≤ m := by rw [hmm]; simpa using hl
      have each : ∀ i, i < len → ∃ u : List Int, RowOk u ∧ ∀ j v, (u.map cellI)[j]? = some v → w.cell? (a.add (i * 24 + j)) = some v := by
        intro i hi
        obtain ⟨cs', h1, h2⟩ := hel i (by omega)
        rw [cellsKR] at h1
        obtain ⟨_, hlen, hcell⟩ := World.cells?_some h1
        obtain ⟨u, hu, rfl⟩ := row_cells hlen h2
        refine ⟨u, hu, fun j v hv => ?_⟩
        obtain ⟨hj, e⟩ := List.getElem?_eq_some_iff.1 hv
        have := hcell j (by omega)
        rw [add_add] at this
        exact this.trans hv
      obtain ⟨q, hq⟩ := choose_lt each
      obtain ⟨b, off, spot⟩ := a
      have hc0 : w.cell? ((⟨b, off, spot⟩ : Addr).add (0 * 24 + 0)) = some (cellI ((q 0).getD 0 0)) := (hq 0 (by omega)).2 0 _ (by
        have hl0 := (hq 0 (by omega)).1.len
        rw [List.getElem?_map, List.getD, List.getElem?_eq_getElem (by omega)]
        rfl)
      have hspot : spot = none := by simpa [Addr.add] using World.cell?_spot hc0
      subst hspot
      have plain : ∀ k, (⟨b, off, none⟩ : Addr).add k = ⟨b, off + k, none⟩ := fun k => add_plain b off k
      have hul : ((List.range len).map q).length = len := by simp
      have hok : ∀ u ∈ (List.range len).map q, RowOk u := by
        intro u hu
        obtain ⟨i, hi, rfl⟩ := List.mem_map.1 hu
        exact (hq i (by simpa using hi)).1
      have hblt : b < w.heap.size := World.block_lt_of_cell? _ _ (by rw [plain] at hc0; exact hc0)
      refine ⟨some ⟨b, off, none⟩, (List.range len).map q, cap, by rw [hul]; exact hcs, ⟨hok, some ⟨b, off, none⟩, cap, rfl, fun i y hi => ⟨b, off, rfl, hblt, fun j v hv => ?_⟩⟩, .inr (by rw [hul]; exact hfin)⟩
      have hil : i < len := by
        have := (List.getElem?_eq_some_iff.1 hi).1
        rw [hul] at this
        exact this
      have hy : q i = y := by
        rw [List.getElem?_map, List.getElem?_range hil] at hi
        exact Option.some.inj hi
      have := (hq i hil).2 j v (by rw [hy]; exact hv)
      rw [plain] at this
      rw [Nat.add_assoc]
      exact this
theorem open_rowsL {r : Reach} {b0 : Nat} {v : Value} {d : DataW H} {p : List MemPlace} (hv : Value.okWide Try.prog w r b0 22 v) (h : DataW.Trod enc Try.prog w 0 (fun _ => true) true 22 v d p) :
    ∃ (a : Option Addr) (ts : List (List Int)) (c : Nat), v = .slice a ts.length c ∧ Lrw w (.slice a ts.length c) ts ∧ ts.length ≤ Rows.uptoBulk d := by
  obtain ⟨a, n, c, rfl⟩ := okWide_slice Try.underlying22 hv
  obtain ⟨m, hm⟩ := h
  obtain ⟨a', us, c', hcs, hl, hx⟩ := open_rows hm
  have e : [Value.slice a n c] = [.slice a' us.length c'] := hcs
  cases e
  refine ⟨a, us, c, rfl, hl, ?_⟩
  rcases hx with ⟨_, h0⟩ | ⟨elems, sp, he, hl'⟩
  · omega
  · simp only at he
    rw [he]
    have := bulk_length elems
    simp only [Rows.uptoBulk]
    omega
theorem open_ints {held : Bool} {fuel : Nat} {cs : List Value} {x : DataW H × List MemPlace} (h : DataW.trod enc Try.prog w 0 (fun _ => true) held fuel 38 cs = some x) :
    ∃ (a : Option Addr) (ts : List Int) (c : Nat), cs = [.slice a ts.length c] ∧ (ts.length ≤ maxLen → IntsAt w (.slice a ts.length c) ts) ∧ ((x.1 = .nil ∧ ts.length = 0) ∨ ∃ elems sp, x.1 = .slice elems sp ∧ elems.length = ts.length) := by
  rcases open_slice Try.underlying38 h with ⟨hcs, hx⟩ | ⟨a, len, cap, m, nn, D, Pl, hcs, hb, hl, hm, hmm, hx, hel⟩
  · exact ⟨none, [], 0, hcs, fun hl => ⟨none, 0, rfl, hl, .inl rfl⟩, .inl ⟨by rw [hx], rfl⟩⟩
  · have hfin : ∃ elems sp, x.1 = .slice elems sp ∧ elems.length = len := ⟨_, _, by rw [hx], by simp⟩
    by_cases h0 : len = 0
    · subst h0
      exact ⟨some a, [], cap, hcs, fun hl => ⟨some a, cap, rfl, hl, .inl rfl⟩, .inr hfin⟩
    · have hlm : len ≤ m := by rw [hmm]; simpa using hl
      have each : ∀ i, i < len → ∃ u : Int, w.cell? (a.add (i * 1 + 0)) = some (.int .i64 u) := by
        intro i hi
        obtain ⟨cs', h1, h2⟩ := hel i (by omega)
        rw [cellsKI] at h1
        obtain ⟨_, hlen, hcell⟩ := World.cells?_some h1
        obtain ⟨u, e, _, hw⟩ := DataW.trod_int Try.underlying3 h2
        subst e
        refine ⟨u, ?_⟩
        have := hcell 0 (by omega)
        rw [add_add] at this
        exact this
      obtain ⟨q, hq⟩ := choose_lt each
      obtain ⟨b, off, spot⟩ := a
      have hc0 := hq 0 (by omega)
      have hspot : spot = none := by simpa [Addr.add] using World.cell?_spot hc0
      subst hspot
      have plain : ∀ k, (⟨b, off, none⟩ : Addr).add k = ⟨b, off + k, none⟩ := fun k => add_plain b off k
      have hul : ((List.range len).map q).length = len := by simp
      have hblt : b < w.heap.size := World.block_lt_of_cell? _ _ (by rw [plain] at hc0; exact hc0)
      refine ⟨some ⟨b, off, none⟩, (List.range len).map q, cap, by rw [hul]; exact hcs, fun hl => ⟨some ⟨b, off, none⟩, cap, rfl, hl, .inr ⟨b, off, rfl, hblt, fun j hj => ?_⟩⟩, .inr (by rw [hul]; exact hfin)⟩
      rw [hul] at hj
      have := hq j hj
      rw [plain, Nat.mul_one, Nat.add_zero] at this
      rw [this]
      simp [List.getD, hj]
theorem open_intsL {r : Reach} {b0 : Nat} {v : Value} {d : DataW H} {p : List MemPlace} (hv : Value.okWide Try.prog w r b0 38 v) (h : DataW.Trod enc Try.prog w 0 (fun _ => true) true 38 v d p) :
    ∃ (a : Option Addr) (ts : List Int) (c : Nat), v = .slice a ts.length c ∧ (ts.length ≤ maxLen → IntsAt w (.slice a ts.length c) ts) ∧ ts.length ≤ Rows.uptoBulk d := by
  obtain ⟨a, n, c, rfl⟩ := okWide_slice Try.underlying38 hv
  obtain ⟨m, hm⟩ := h
  obtain ⟨a', us, c', hcs, hl, hx⟩ := open_ints hm
  have e : [Value.slice a n c] = [.slice a' us.length c'] := hcs
  cases e
  refine ⟨a, us, c, rfl, hl, ?_⟩
  rcases hx with ⟨_, h0⟩ | ⟨elems, sp, he, hl'⟩
  · omega
  · simp only at he
    rw [he]
    have := bulk_length elems
    simp only [Rows.uptoBulk]
    omega
theorem open_rowX {r : Reach} {b0 : Nat} {v : Value} {d : DataW H} {p : List MemPlace} (hv : Value.okWide Try.prog w r b0 34 v) (h : DataW.Trod enc Try.prog w 0 (fun _ => true) true 34 v d p) :
    ∃ x : List Int, v = rowV x ∧ RowOk x := by
  obtain ⟨cs, rfl, hcs⟩ : ∃ cs, v = .agg cs ∧ cs.size = Try.prog.cellsOf 34 := by
    unfold Value.okWide at hv
    rw [Try.underlying34] at hv
    obtain ⟨cs, e, hc, _⟩ := hv
    exact ⟨cs, e, hc⟩
  obtain ⟨m, hm⟩ := h
  rw [cellsKR] at hcs
  obtain ⟨x, hx, e⟩ := row_cells (by simpa [Value.cells] using hcs) hm
  refine ⟨x, ?_, hx⟩
  have : cs.toList = x.map cellI := e
  unfold rowV
  congr 1
  exact Array.toList_inj.1 this
end
end Go.Proofs.Ytekjoccbbamehaa
