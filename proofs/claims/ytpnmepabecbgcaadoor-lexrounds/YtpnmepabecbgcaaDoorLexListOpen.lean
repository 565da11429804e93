import Derived.Test.YtpnmepabecbgcaaDoorLexJoinA
import Derived.ProofKit
import Derived.OpenShut
import Derived.ShutString
import Derived.Lib.SmallJoins
import Derived.SizedLaws
namespace Go.Proofs.YtpnmepabecbgcaaDoor
open Go.ChangeShapes Go.WideShapes Go.ChangeAt Go.RowKit Go.Joins Go.Deep
set_option linter.unusedVariables false
set_option linter.unusedSimpArgs false

theorem cellsTok : Tryd.prog.cellsOf 38 = 4 := by kernel_rfl
theorem cellsTK : Tryd.prog.cellsOf 36 = 1 := by kernel_rfl
theorem cellsTN : Tryd.prog.cellsOf 2 = 1 := by kernel_rfl
theorem cellsTI : Tryd.prog.cellsOf 3 = 1 := by kernel_rfl
theorem cellsTS : Tryd.prog.cellsOf 9 = 1 := by kernel_rfl
section
variable {H : Type} {enc : TypeId × Value → H} {w : World}
set_option maxRecDepth 100000 in
theorem token_cells {base : Nat} {spare : Nat → Bool} {held : Bool} {n : Nat} {cs : List Value} {y : DataW H × List MemPlace} (hl : cs.length = 4) (h : DataW.trod enc Tryd.prog w base spare held n 38 cs = some y) :
    ∃ t : Tk, cs = [.int .i8 t.k, .string ⟨t.s.toArray⟩, .int .i64 t.n, .int .i64 t.a] ∧ t.ok := by
  obtain ⟨xs, k, hk, hxy, _, hxl, hf⟩ := DataW.trod_struct Tryd.underlying38 h
  match xs, hxl, cs, hl with
  | [y0, y1, y2, y3], _, [v0, v1, v2, v3], _ =>
    have g0 := hf 0 _ rfl
    have g1 := hf 1 _ rfl
    have g2 := hf 2 _ rfl
    have g3 := hf 3 _ rfl
    simp [cellsTK, cellsTS, cellsTN, cellsTI] at g0 g1 g2 g3
    obtain ⟨a, e0, _, w0⟩ := DataW.trod_int Tryd.underlying36 g0
    obtain ⟨s, e1, _, hs⟩ := DataW.trod_string Tryd.underlying9 g1
    obtain ⟨b, e2, _, w2⟩ := DataW.trod_int Tryd.underlying2 g2
    obtain ⟨c, e3, _, w3⟩ := DataW.trod_int Tryd.underlying3 g3
    simp at e0 e1 e2 e3
    subst e0 e1 e2 e3
    simp only [Lit.wf, Bool.and_eq_true, decide_eq_true_eq] at w2
    exact ⟨⟨a, s.data.toList, b, c⟩, rfl, ⟨by rw [len_toList]; exact hs, w2.1, w2.2⟩⟩
set_option maxRecDepth 100000 in
theorem open_tokens {held : Bool} {fuel : Nat} {cs : List Value} {x : DataW H × List MemPlace} (h : DataW.trod enc Tryd.prog w 0 (fun _ => true) held fuel 22 cs = some x) :
    ∃ (a : Option Addr) (ts : List Tk) (c : Nat), cs = [.slice a ts.length c] ∧ ts.length ≤ maxLen ∧ TL w a ts ∧ ∀ t ∈ ts, t.ok := by
  rcases open_slice Tryd.underlying22 h with ⟨hcs, hx⟩ | ⟨a, len, cap, m, nn, D, Pl, hcs, hb, hl, hm, hmm, hx, hel⟩
  · exact ⟨none, [], 0, hcs, Nat.zero_le _, fun i t hi => by simp at hi, by simp⟩
  · by_cases h0 : len = 0
    · subst h0
      exact ⟨some a, [], cap, hcs, Nat.zero_le _, fun i t hi => by simp at hi, by simp⟩
    · have hlm : len ≤ m := by rw [hmm]; simpa using hl
      have each : ∀ i, i < len → ∃ u : Tk, w.cell? (a.add (i * 4)) = some (.int .i8 u.k) ∧ w.cell? (a.add (i * 4 + 1)) = some (.string ⟨u.s.toArray⟩) ∧ w.cell? (a.add (i * 4 + 2)) = some (.int .i64 u.n) ∧ w.cell? (a.add (i * 4 + 3)) = some (.int .i64 u.a) ∧ u.ok := by
        intro i hi
        obtain ⟨cs', h1, h2⟩ := hel i (by omega)
        rw [cellsTok] at h1
        obtain ⟨_, hlen, hcell⟩ := World.cells?_some h1
        obtain ⟨u, rfl, hu⟩ := token_cells hlen h2
        have e0 := hcell 0 (by simp)
        have e1 := hcell 1 (by simp)
        have e2 := hcell 2 (by simp)
        have e3 := hcell 3 (by simp)
        rw [add_add] at e0 e1 e2 e3
        exact ⟨u, by simpa using e0, by simpa using e1, by simpa using e2, by simpa using e3, hu⟩
      haveI : Inhabited Tk := ⟨⟨0, [], 0, 0⟩⟩
      obtain ⟨q, hq⟩ := choose_lt each
      obtain ⟨b, off, spot⟩ := a
      have hspot : spot = none := by simpa [Addr.add] using World.cell?_spot (hq 0 (by omega)).1
      subst hspot
      have plain : ∀ k, (⟨b, off, none⟩ : Addr).add k = ⟨b, off + k, none⟩ := fun k => add_plain b off k
      have hul : ((List.range len).map q).length = len := by simp
      refine ⟨some ⟨b, off, none⟩, (List.range len).map q, cap, by rw [hul]; exact hcs, by rw [hul]; exact Nat.le_trans hl hm, fun i t hi => ?_, ?_⟩
      · have hlt : i < len := by have := (List.getElem?_eq_some_iff.1 hi).1; rwa [hul] at this
        have he : q i = t := by simpa [hlt] using hi
        obtain ⟨h0, h1, h2, h3, _⟩ := hq i hlt
        rw [plain, he] at h0 h1 h2 h3
        exact ⟨b, off, rfl, h0, h1, h2, h3⟩
      · intro u hu
        obtain ⟨i, hi, rfl⟩ := List.mem_map.1 hu
        exact (hq i (by simpa using hi)).2.2.2.2
set_option maxRecDepth 100000 in
theorem open_toklist {r : Reach} {b0 : Nat} {v : Value} {d : DataW H} {p : List MemPlace} (hv : Value.okWide Tryd.prog w r b0 22 v) (h : DataW.Trod enc Tryd.prog w 0 (fun _ => true) true 22 v d p) :
    ∃ (ts : List Tk) (a : Option Addr) (c : Nat), v = .slice a ts.length c ∧ ts.length ≤ maxLen ∧ TL w a ts ∧ ∀ t ∈ ts, t.ok := by
  obtain ⟨a, n, c, rfl⟩ := okWide_slice Tryd.underlying22 hv
  obtain ⟨m, hm⟩ := h
  obtain ⟨a', ts, c', hcs, h1, h2, h3⟩ := open_tokens hm
  have e : [Value.slice a n c] = [.slice a' ts.length c'] := hcs
  cases e
  exact ⟨ts, a, c, rfl, h1, h2, h3⟩
end
end Go.Proofs.YtpnmepabecbgcaaDoor
