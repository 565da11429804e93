import Derived.Test.YtfkggabdjcabcaaRelTurnL
import Derived.Test.YtfkggabdjcabcaaRows
import Derived.ProofKit
import Derived.OpenShut
import Derived.Lib.SmallJoins
import Derived.SizedLaws
import Derived.Deep.CondSized
namespace Go.Proofs.Ytfkggabdjcabcaa
open Go.ChangeShapes Go.WideShapes Go.ChangeAt Go.RowKit Go.Joins Go.Deep
set_option linter.unusedVariables false
set_option linter.unusedSimpArgs false
set_option maxRecDepth 100000

theorem own : ownKnob Try.prog.godebug = none := by kernel_rfl
theorem laidOut : laidOutB Try.prog = true := by kernel_rfl
theorem cellsKB : Try.prog.cellsOf 4 = 1 := by kernel_rfl
theorem cellsKR : Try.prog.cellsOf 27 = 24 := by kernel_rfl
theorem cellsKY : Try.prog.cellsOf 25 = 1 := by kernel_rfl
theorem cellsKT : Try.prog.cellsOf 41 = 25 := by kernel_rfl
theorem bulk_one {H : Type} (d : DataW H) : 1 ≤ Rows.uptoBulk d := by
  cases d with
  | lit l => cases l <;> simp [Rows.uptoBulk]
  | _ => simp [Rows.uptoBulk]
theorem bulk_length {H : Type} : ∀ l : List (DataW H), l.length ≤ Rows.uptoBulkAll l
  | [] => Nat.zero_le _
  | x :: r => by
    have h1 := bulk_one x
    have h2 := bulk_length r
    simp only [Rows.uptoBulkAll, List.length_cons]
    omega
theorem bulk_head {H : Type} (d : DataW H) (r : List (DataW H)) : Rows.uptoBulk d ≤ Rows.uptoBulkAll (d :: r) := by
  simp only [Rows.uptoBulkAll]
  omega
theorem bulk_tail {H : Type} (d : DataW H) (r : List (DataW H)) : Rows.uptoBulkAll r ≤ Rows.uptoBulkAll (d :: r) := by
  simp only [Rows.uptoBulkAll]
  omega
theorem bulk_small {H : Type} {l : List (DataW H)} (h : Rows.uptoSmall H l = true) : Rows.uptoBulkAll l ≤ 1048576 := of_decide_eq_true h

section
variable {H : Type} {enc : TypeId × Value → H} {w : World}
/-- a row's 24 cells -/
theorem row_cells {base : Nat} {spare : Nat → Bool} {held : Bool} {n : Nat} {cs : List Value} {y : DataW H × List MemPlace} (hl : cs.length = 24) (h : DataW.trod enc Try.prog w base spare held n 27 cs = some y) :
    ∃ r : List Int, RowOk r ∧ cs = r.map cellI := by
  obtain ⟨xs, k, hk, hxy, _, hxl, hf⟩ := DataW.trod_array Try.underlying27 h
  have hall : ∀ v ∈ cs, ∃ a : Int, v = cellI a ∧ (Lit.int .i32 a).wf = true := by
    intro v hv
    obtain ⟨i, hi, rfl⟩ := List.getElem_of_mem hv
    have g := hf i (by omega)
    rw [cellsKY, List.getElem?_eq_getElem (by omega)] at g
    obtain ⟨a, e, _, hw⟩ := DataW.trod_int Try.underlying25 g
    refine ⟨a, ?_, hw⟩
    have e0 := congrArg (fun l => l[0]?) e
    simp [List.getElem?_take, List.getElem?_drop, List.getElem?_eq_getElem hi] at e0
    exact e0
  have hex : ∀ l : List Value, (∀ v ∈ l, ∃ a : Int, v = cellI a ∧ (Lit.int .i32 a).wf = true) → ∃ r : List Int, l = r.map cellI ∧ ∀ x ∈ r, (Lit.int .i32 x).wf = true := by
    intro l
    induction l with
    | nil => intro _; exact ⟨[], rfl, fun _ h => by simp at h⟩
    | cons v l ih =>
      intro hl
      obtain ⟨a, rfl, ha⟩ := hl v (by simp)
      obtain ⟨r, rfl, hr⟩ := ih (fun x hx => hl x (by simp [hx]))
      exact ⟨a :: r, rfl, fun x hx => by
        rcases List.mem_cons.1 hx with rfl | hx
        · exact ha
        · exact hr x hx⟩
  obtain ⟨r, rfl, hr⟩ := hex cs hall
  exact ⟨r, ⟨by simpa using hl, hr⟩, rfl⟩
theorem turn_cells {base : Nat} {spare : Nat → Bool} {held : Bool} {n : Nat} {cs : List Value} {y : DataW H × List MemPlace} (hl : cs.length = 25) (h : DataW.trod enc Try.prog w base spare held n 41 cs = some y) :
    ∃ x : Tn, RowOk x.2 ∧ cs = x.cells := by
  obtain ⟨xs, k, hk, hxy, _, hxl, hf⟩ := DataW.trod_struct Try.underlying41 h
  match xs, hxl, cs, hl with
  | [y0, y1], _, v0 :: rest, hl =>
    have hrest : rest.length = 24 := by simpa using hl
    have g0 := hf 0 _ rfl
    have g1 := hf 1 _ rfl
    simp [cellsKB, cellsKR, List.take_of_length_le (Nat.le_of_eq hrest)] at g0 g1
    obtain ⟨b, e0, _⟩ := DataW.trod_bool Try.underlying4 g0
    obtain ⟨r, hr, e1⟩ := row_cells hrest g1
    simp at e0
    subst e0 e1
    exact ⟨(b, r), hr, rfl⟩
theorem open_turns {held : Bool} {fuel : Nat} {cs : List Value} {x : DataW H × List MemPlace} (h : DataW.trod enc Try.prog w 0 (fun _ => true) held fuel 22 cs = some x) :
    ∃ (a : Option Addr) (ts : List Tn) (c : Nat), cs = [.slice a ts.length c] ∧ LtC w (.slice a ts.length c) ts ∧ ((x.1 = .nil ∧ ts.length = 0) ∨ ∃ elems sp, x.1 = .slice elems sp ∧ elems.length = ts.length) := by
  rcases open_slice Try.underlying22 h with ⟨hcs, hx⟩ | ⟨a, len, cap, m, nn, D, Pl, hcs, hb, hl, hm, hmm, hx, hel⟩
  · exact ⟨none, [], 0, hcs, ⟨by simp, none, 0, rfl, fun hi => absurd hi (by simp)⟩, .inl ⟨by rw [hx], rfl⟩⟩
  · have hfin : ∃ elems sp, x.1 = .slice elems sp ∧ elems.length = len := ⟨_, _, by rw [hx], by simp⟩
    by_cases h0 : len = 0
    · subst h0
      exact ⟨some a, [], cap, hcs, ⟨by simp, some a, cap, rfl, fun hi => absurd hi (by simp)⟩, .inr hfin⟩
    · have hlm : len ≤ m := by rw [hmm]; simpa using hl
      have each : ∀ i, i < len → ∃ u : Tn, RowOk u.2 ∧ ∀ j v, u.cells[j]? = some v → w.cell? (a.add (i * 25 + j)) = some v := by
        intro i hi
        obtain ⟨cs', h1, h2⟩ := hel i (by omega)
        rw [cellsKT] at h1
        obtain ⟨_, hlen, hcell⟩ := World.cells?_some h1
        obtain ⟨u, hu, rfl⟩ := turn_cells hlen h2
        refine ⟨u, hu, fun j v hv => ?_⟩
        obtain ⟨hj, e⟩ := List.getElem?_eq_some_iff.1 hv
        have := hcell j (by omega)
        rw [add_add] at this
        exact this.trans hv
      haveI : Inhabited Tn := ⟨(false, [])⟩
      obtain ⟨q, hq⟩ := choose_lt each
      obtain ⟨b, off, spot⟩ := a
      have hc0 := (hq 0 (by omega)).2 0 _ (by rw [Tn.cells]; rfl)
      have hspot : spot = none := by simpa [Addr.add] using World.cell?_spot hc0
      subst hspot
      have plain : ∀ k, (⟨b, off, none⟩ : Addr).add k = ⟨b, off + k, none⟩ := fun k => add_plain b off k
      have hul : ((List.range len).map q).length = len := by simp
      have hok : ∀ u ∈ (List.range len).map q, RowOk u.2 := by
        intro u hu
        obtain ⟨i, hi, rfl⟩ := List.mem_map.1 hu
        exact (hq i (by simpa using hi)).1
      refine ⟨some ⟨b, off, none⟩, (List.range len).map q, cap, by rw [hul]; exact hcs, ⟨hok, some ⟨b, off, none⟩, cap, rfl, fun _ => ⟨b, off, rfl, World.block_lt_of_cell? _ _ (by rw [plain] at hc0; exact hc0), fun j v hv => ?_⟩⟩, .inr (by rw [hul]; exact hfin)⟩
      have hj := (List.getElem?_eq_some_iff.1 hv).1
      rw [flatT_len _ (fun x hx => (hok x hx).len), hul] at hj
      have hd : j / 25 < len := Nat.div_lt_of_lt_mul (by omega)
      have hjm : j / 25 * 25 + j % 25 = j := by omega
      have hx : ((List.range len).map q)[j / 25]? = some (q (j / 25)) := by
        rw [List.getElem?_map, List.getElem?_range hd]
        rfl
      have hat := flatT_at _ (fun x hx => (hok x hx).len) (j / 25) (j % 25) _ hx (Nat.mod_lt _ (by omega))
      rw [hjm, hv] at hat
      have := (hq (j / 25) hd).2 (j % 25) v hat.symm
      rw [plain, hjm] at this
      exact this
theorem open_turnsL {r : Reach} {b0 : Nat} {v : Value} {d : DataW H} {p : List MemPlace} (hv : Value.okWide Try.prog w r b0 22 v) (h : DataW.Trod enc Try.prog w 0 (fun _ => true) true 22 v d p) :
    ∃ (a : Option Addr) (ts : List Tn) (c : Nat), v = .slice a ts.length c ∧ LtC w (.slice a ts.length c) ts ∧ ts.length ≤ Rows.uptoBulk d := by
  obtain ⟨a, n, c, rfl⟩ := okWide_slice Try.underlying22 hv
  obtain ⟨m, hm⟩ := h
  obtain ⟨a', us, c', hcs, hl, hx⟩ := open_turns hm
  have e : [Value.slice a n c] = [.slice a' us.length c'] := hcs
  cases e
  refine ⟨a, us, c, rfl, hl, ?_⟩
  rcases hx with ⟨_, h0⟩ | ⟨elems, sp, he, hl'⟩
  · omega
  · simp only at he
    rw [he]
    have := bulk_length elems
    simp only [Rows.uptoBulk]
    omega
end
end Go.Proofs.Ytfkggabdjcabcaa
