import Derived.Test.YtbclaikfiofciaaDoorTwin
import Derived.ProofKit
import Derived.OpenShut
import Derived.ShutString
import Derived.Lib.SmallJoins
import Derived.SizedLaws
namespace Go.Proofs.YtbclaikfiofciaaDoor
open Go.ChangeShapes Go.WideShapes Go.ChangeAt Go.RowKit Go.Joins Go.Deep
set_option linter.unusedVariables false

theorem own : ownKnob Tryd.prog.godebug = none := by kernel_rfl
theorem laidOut : laidOutB Tryd.prog = true := by kernel_rfl
theorem cellsV : Tryd.prog.cellsOf 27 = 3 := by kernel_rfl
theorem cellsK : Tryd.prog.cellsOf 25 = 1 := by kernel_rfl
theorem cellsN : Tryd.prog.cellsOf 2 = 1 := by kernel_rfl
theorem cellsS : Tryd.prog.cellsOf 9 = 1 := by kernel_rfl
theorem bytesV : Tryd.prog.bytesOf 27 = 32 := by kernel_rfl

section
variable {H : Type} {enc : TypeId × Value → H} {w : World}

/-- one value's three cells -/
theorem value_cells {base : Nat} {spare : Nat → Bool} {held : Bool} {n : Nat} {cs : List Value} {y : DataW H × List MemPlace} (hl : cs.length = 3) (h : DataW.trod enc Tryd.prog w base spare held n 27 cs = some y) :
    ∃ (k m : Int) (s : ByteArray), cs = [.int .i8 k, .int .i64 m, .string s] ∧ s.size ≤ maxLen ∧ (Lit.int .i64 m).wf = true := by
  obtain ⟨xs, k, hk, hxy, _, hxl, hf⟩ := DataW.trod_struct Tryd.underlying27 h
  match xs, hxl, cs, hl with
  | [y0, y1, y2], _, [v0, v1, v2], _ =>
    have g0 := hf 0 _ rfl
    have g1 := hf 1 _ rfl
    have g2 := hf 2 _ rfl
    simp [cellsK, cellsN, cellsS] at g0 g1 g2
    obtain ⟨a, e0, _, _⟩ := DataW.trod_int Tryd.underlying25 g0
    obtain ⟨b, e1, _, wb⟩ := DataW.trod_int Tryd.underlying2 g1
    obtain ⟨s, e2, _, hs⟩ := DataW.trod_string Tryd.underlying9 g2
    simp at e0 e1 e2
    subst e0 e1 e2
    exact ⟨a, b, s, rfl, hs, wb⟩

theorem open_vals {held : Bool} {fuel : Nat} {cs : List Value} {x : DataW H × List MemPlace} (h : DataW.trod enc Tryd.prog w 0 (fun _ => true) held fuel 24 cs = some x) :
    ∃ (a : Option Addr) (n c : Nat) (K N : Nat → Int) (S : Nat → ByteArray), cs = [.slice a n c] ∧ Lst w (.slice a n c) n K N S ∧ (∀ i, i < n → (Lit.int .i64 (N i)).wf = true) ∧ ((x.1 = .nil ∧ n = 0) ∨ ∃ elems sp, x.1 = .slice elems sp ∧ elems.length = n) := by
  rcases open_slice Tryd.underlying24 h with ⟨hcs, hx⟩ | ⟨a, len, cap, m, nn, D, Pl, hcs, hb, hl, hm, hmm, hx, hel⟩
  · exact ⟨none, 0, 0, fun _ => 0, fun _ => 0, fun _ => ⟨#[]⟩, hcs, ⟨Nat.zero_le _, .inl ⟨_, _, rfl, rfl⟩⟩, (fun i hi => by omega), .inl ⟨by rw [hx], rfl⟩⟩
  · have hfin : ∃ elems sp, x.1 = .slice elems sp ∧ elems.length = len := ⟨_, _, by rw [hx], by simp⟩
    by_cases h0 : len = 0
    · subst h0
      exact ⟨some a, 0, cap, fun _ => 0, fun _ => 0, fun _ => ⟨#[]⟩, hcs, ⟨Nat.zero_le _, .inl ⟨_, _, rfl, rfl⟩⟩, (fun i hi => by omega), .inr hfin⟩
    · have hlm : len ≤ m := by rw [hmm]; simpa using hl
      have each : ∀ i, i < len → ∃ q : Int × Int × ByteArray, w.cell? (a.add (i * 3)) = some (.int .i8 q.1) ∧ w.cell? (a.add (i * 3 + 1)) = some (.int .i64 q.2.1) ∧ w.cell? (a.add (i * 3 + 2)) = some (.string q.2.2) ∧ q.2.2.size ≤ maxLen ∧ (Lit.int .i64 q.2.1).wf = true := by
        intro i hi
        obtain ⟨cs', h1, h2⟩ := hel i (by omega)
        rw [cellsV] at h1
        obtain ⟨_, hlen, hcell⟩ := World.cells?_some h1
        obtain ⟨k, m', s, rfl, hs, wm⟩ := value_cells hlen h2
        have e0 := hcell 0 (by simp)
        have e1 := hcell 1 (by simp)
        have e2 := hcell 2 (by simp)
        rw [add_add] at e0 e1 e2
        exact ⟨(k, m', s), by simpa using e0, by simpa using e1, by simpa using e2, hs, wm⟩
      obtain ⟨q, hq⟩ := choose_lt each
      obtain ⟨b, off, spot⟩ := a
      have hspot : spot = none := by simpa [Addr.add] using World.cell?_spot (hq 0 (by omega)).1
      subst hspot
      refine ⟨some ⟨b, off, none⟩, len, cap, fun i => (q i).1, fun i => (q i).2.1, fun i => (q i).2.2, hcs, ⟨Nat.le_trans hl hm, .inr ⟨b, off, cap, rfl, hl, hm, ?_⟩⟩, (fun i hi => (hq i hi).2.2.2.2), .inr hfin⟩
      have plain : ∀ k, (⟨b, off, none⟩ : Addr).add k = ⟨b, off + k, none⟩ := fun k => add_plain b off k
      refine ⟨fun _ => ?_, fun i hi => ?_, fun i hi => ?_, fun i hi => ?_, fun i hi => (hq i hi).2.2.2.1⟩
      · have := (hq 0 (by omega)).1
        rw [plain] at this
        exact World.block_lt_of_cell? _ _ this
      · have := (hq i hi).1
        rwa [plain] at this
      · have := (hq i hi).2.1
        rwa [plain] at this
      · have := (hq i hi).2.2.1
        rwa [plain] at this

theorem open_list {r : Reach} {b0 : Nat} {v : Value} {d : DataW H} {p : List MemPlace} {ts : List TypeId} {ds : List (DataW H)} {j : Nat}
    (hv : Value.okWide Tryd.prog w r b0 24 v) (h : DataW.Trod enc Tryd.prog w 0 (fun _ => true) true 24 v d p)
    (hsz : (DataW.weightsEach Tryd.prog ts ds).all (· ≤ reachBytes) = true) (ht : ts[j]? = some 24) (hd : ds[j]? = some d) :
    ∃ (a : Option Addr) (n c : Nat) (K N : Nat → Int) (S : Nat → ByteArray), v = .slice a n c ∧ n ≤ 4398046511103 ∧ Lst w (.slice a n c) n K N S ∧ ∀ i, i < n → (Lit.int .i64 (N i)).wf = true := by
  obtain ⟨m, hm⟩ := h
  have hv2 : v.cells.toList = [v] := by
    obtain ⟨a, n, c, rfl⟩ : ∃ a n c, v = .slice a n c := Go.WideShapes.okWide_slice Tryd.underlying24 hv
    rfl
  rw [hv2] at hm
  obtain ⟨a, n, c, K, N, S, e1, hl, hwf, hx⟩ := open_vals hm
  simp at e1
  refine ⟨a, n, c, K, N, S, e1, ?_, hl, hwf⟩
  rcases hx with ⟨_, rfl⟩ | ⟨elems, sp, hx, rfl⟩
  · omega
  · have := List.all_eq_true.1 hsz _ (DataW.weights_mem_each ht hd ((elems.length + sp.length) * Tryd.prog.bytesOf 27) (by
      simp at hx
      simp [DataW.weights, hx, Tryd.underlying24]))
    rw [bytesV] at this
    have h2 : (elems.length + sp.length) * 32 ≤ reachBytes := of_decide_eq_true this
    have h3 : reachBytes ≤ 140737488351232 := by decide
    omega
end
end Go.Proofs.YtbclaikfiofciaaDoor
