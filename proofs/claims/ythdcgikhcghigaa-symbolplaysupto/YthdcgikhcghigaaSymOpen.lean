import Derived.Test.YthdcgikhcghigaaSymGood
import Derived.Test.YthdcgikhcghigaaRows
import Derived.ProofKit
import Derived.OpenShut
import Derived.ShutString
import Derived.Lib.SmallJoins
import Derived.SizedLaws
namespace Go.Proofs.Ythdcgikhcghigaa
open Go.ChangeShapes Go.WideShapes Go.ChangeAt Go.RowKit Go.Joins Go.Deep
set_option linter.unusedVariables false

theorem own : ownKnob Try.prog.godebug = none := by kernel_rfl
theorem laidOut : laidOutB Try.prog = true := by kernel_rfl

theorem bulk_one {H : Type} (d : DataW H) : 1 ≤ Rows.uptoBulk d := by
  cases d with
  | lit l => cases l <;> simp [Rows.uptoBulk]
  | _ => simp [Rows.uptoBulk]
theorem bulk_length {H : Type} : ∀ l : List (DataW H), l.length ≤ Rows.uptoBulkAll l
  | [] => Nat.zero_le _
  | x :: r => by
    have h1 := bulk_one x
    have h2 := bulk_length r
    simp only [Rows.uptoBulkAll, List.length_cons]
    omega
theorem bulk_head {H : Type} (d : DataW H) (r : List (DataW H)) : Rows.uptoBulk d ≤ Rows.uptoBulkAll (d :: r) := by
  simp only [Rows.uptoBulkAll]
  omega
theorem bulk_tail {H : Type} (d : DataW H) (r : List (DataW H)) : Rows.uptoBulkAll r ≤ Rows.uptoBulkAll (d :: r) := by
  simp only [Rows.uptoBulkAll]
  omega
theorem bulk_small {H : Type} {l : List (DataW H)} (h : Rows.uptoSmall H l = true) : Rows.uptoBulkAll l ≤ 1048576 := of_decide_eq_true h

section
variable {H : Type} {enc : TypeId × Value → H} {w : World}

/-- one value's three cells -/
theorem value_cells {base : Nat} {spare : Nat → Bool} {held : Bool} {n : Nat} {cs : List Value} {y : DataW H × List MemPlace} (hl : cs.length = 3) (h : DataW.trod enc Try.prog w base spare held n 39 cs = some y) :
    ∃ u : V, cs = [.int .i8 u.k, .int .i64 u.n, .string u.s] ∧ u.wf := by
  obtain ⟨xs, k, hk, hxy, _, hxl, hf⟩ := DataW.trod_struct Try.underlying39 h
  match xs, hxl, cs, hl with
  | [y0, y1, y2], _, [v0, v1, v2], _ =>
    have g0 := hf 0 _ rfl
    have g1 := hf 1 _ rfl
    have g2 := hf 2 _ rfl
    simp [cellsKK, cellsKN, cellsKS] at g0 g1 g2
    obtain ⟨a, e0, _, w0⟩ := DataW.trod_int Try.underlying37 g0
    obtain ⟨b, e1, _, w1⟩ := DataW.trod_int Try.underlying2 g1
    obtain ⟨s, e2, _, hs⟩ := DataW.trod_string Try.underlying9 g2
    simp at e0 e1 e2
    subst e0 e1 e2
    exact ⟨⟨a, b, s⟩, rfl, ⟨w0, w1, hs⟩⟩

theorem open_values {held : Bool} {fuel : Nat} {cs : List Value} {x : DataW H × List MemPlace} (h : DataW.trod enc Try.prog w 0 (fun _ => true) held fuel 40 cs = some x) :
    ∃ (a : Option Addr) (us : List V) (c : Nat), cs = [.slice a us.length c] ∧ Lv w (.slice a us.length c) us ∧ ((x.1 = .nil ∧ us.length = 0) ∨ ∃ elems sp, x.1 = .slice elems sp ∧ elems.length = us.length) := by
  rcases open_slice Try.underlying40 h with ⟨hcs, hx⟩ | ⟨a, len, cap, m, nn, D, Pl, hcs, hb, hl, hm, hmm, hx, hel⟩
  · exact ⟨none, [], 0, hcs, ⟨by simp, Nat.zero_le _, none, 0, rfl, fun i hi => absurd hi (by simp)⟩, .inl ⟨by rw [hx], rfl⟩⟩
  · have hfin : ∃ elems sp, x.1 = .slice elems sp ∧ elems.length = len := ⟨_, _, by rw [hx], by simp⟩
    by_cases h0 : len = 0
    · subst h0
      exact ⟨some a, [], cap, hcs, ⟨by simp, Nat.zero_le _, some a, cap, rfl, fun i hi => absurd hi (by simp)⟩, .inr hfin⟩
    · have hlm : len ≤ m := by rw [hmm]; simpa using hl
      have each : ∀ i, i < len → ∃ u : V, w.cell? (a.add (i * 3)) = some (.int .i8 u.k) ∧ w.cell? (a.add (i * 3 + 1)) = some (.int .i64 u.n) ∧ w.cell? (a.add (i * 3 + 2)) = some (.string u.s) ∧ u.wf := by
        intro i hi
        obtain ⟨cs', h1, h2⟩ := hel i (by omega)
        rw [cellsKV] at h1
        obtain ⟨_, hlen, hcell⟩ := World.cells?_some h1
        obtain ⟨u, rfl, hu⟩ := value_cells hlen h2
        have e0 := hcell 0 (by simp)
        have e1 := hcell 1 (by simp)
        have e2 := hcell 2 (by simp)
        rw [add_add] at e0 e1 e2
        exact ⟨u, by simpa using e0, by simpa using e1, by simpa using e2, hu⟩
      haveI : Inhabited V := ⟨V0⟩
      obtain ⟨q, hq⟩ := choose_lt each
      obtain ⟨b, off, spot⟩ := a
      have hspot : spot = none := by simpa [Addr.add] using World.cell?_spot (hq 0 (by omega)).1
      subst hspot
      have plain : ∀ k, (⟨b, off, none⟩ : Addr).add k = ⟨b, off + k, none⟩ := fun k => add_plain b off k
      have hul : ((List.range len).map q).length = len := by simp
      have hat : ∀ i, i < len → atV ((List.range len).map q) i = q i := fun i hi => by
        rw [atV_eq (by simpa using hi)]
        simp
      refine ⟨some ⟨b, off, none⟩, (List.range len).map q, cap, by rw [hul]; exact hcs, ⟨?_, by rw [hul]; exact Nat.le_trans hl hm, some ⟨b, off, none⟩, cap, rfl, fun i hi => ?_⟩, .inr (by rw [hul]; exact hfin)⟩
      · intro u hu
        obtain ⟨i, hi, rfl⟩ := List.mem_map.1 hu
        exact (hq i (by simpa using hi)).2.2.2
      · rw [hul] at hi
        obtain ⟨h0, h1, h2, _⟩ := hq i hi
        rw [plain] at h0 h1 h2
        rw [hat i hi]
        exact ⟨b, off, rfl, World.block_lt_of_cell? _ _ h0, h0, h1, h2⟩

theorem open_list {r : Reach} {b0 : Nat} {v : Value} {d : DataW H} {p : List MemPlace} (hv : Value.okWide Try.prog w r b0 40 v) (h : DataW.Trod enc Try.prog w 0 (fun _ => true) true 40 v d p) :
    ∃ (a : Option Addr) (us : List V) (c : Nat), v = .slice a us.length c ∧ Lv w (.slice a us.length c) us ∧ us.length ≤ Rows.uptoBulk d := by
  obtain ⟨a, n, c, rfl⟩ := okWide_slice Try.underlying40 hv
  obtain ⟨m, hm⟩ := h
  obtain ⟨a', us, c', hcs, hl, hx⟩ := open_values hm
  have e : [Value.slice a n c] = [.slice a' us.length c'] := hcs
  cases e
  refine ⟨a, us, c, rfl, hl, ?_⟩
  rcases hx with ⟨_, h0⟩ | ⟨elems, sp, he, hl'⟩
  · omega
  · simp only at he
    rw [he]
    have := bulk_length elems
    simp only [Rows.uptoBulk]
    omega

end
end Go.Proofs.Ythdcgikhcghigaa
