import Derived.Test.YteabclfhmapabaaDoorA46
namespace Go.Proofs.YteabclfhmapabaaDoor
open Go.ChangeShapes Go.WideShapes Go.ChangeAt Go.RowKit Go.Joins Go.Deep
set_option linter.unusedVariables false
set_option linter.unusedSimpArgs false
set_option maxRecDepth 100000

theorem cellsWd : Tryd.prog.cellsOf 61 = 6 := by kernel_rfl
theorem cellsWr : Tryd.prog.cellsOf 25 = 3 := by kernel_rfl
theorem cellsWs : Tryd.prog.cellsOf 26 = 1 := by kernel_rfl
theorem cellsWt : Tryd.prog.cellsOf 9 = 1 := by kernel_rfl
theorem cellsWi : Tryd.prog.cellsOf 3 = 1 := by kernel_rfl
theorem cellsWA : Tryd.prog.cellsOf 22 = 1 := by kernel_rfl
theorem cellsWL : Tryd.prog.cellsOf 23 = 1 := by kernel_rfl
section
variable {H : Type} {enc : TypeId × Value → H} {w : World}
theorem bytesWs : Tryd.prog.bytesOf 9 = 16 := by kernel_rfl
theorem strs_boundW {m n : Nat} {a : Option Addr} {c : Nat} {x : DataW H × List MemPlace} (hm : DataW.trod enc Tryd.prog w 0 (fun _ => true) true m 26 [.slice a n c] = some x) (hw : ∀ k ∈ x.1.weights Tryd.prog 26, k ≤ reachBytes) : n ≤ 8796093021952 := by
  rcases DataW.trod_slice Tryd.underlying26 hm with ⟨hcs, hx⟩ | ⟨a', len, cap, elems, rest, k, hk, hcs, hx, hb, hlc, hcm, hel, hea, hsp, _⟩
  · simp at hcs
    obtain ⟨_, h0, _⟩ := hcs
    have : n = 0 := by first | exact h0 | (rw [h0]; rfl)
    omega
  · simp at hcs
    have h1 : n = len := hcs.2.1
    have h2 := hw ((elems.length + rest.length) * 16) (by
      rw [hx]
      simp [DataW.weights, Tryd.underlying26, bytesWs])
    have h3 : reachBytes ≤ 140737488351232 := by decide
    omega
theorem rule_cellsW {held : Bool} {m : Nat} {cs : List Value} {x : DataW H × List MemPlace} (hl : cs.length = 3) (h : DataW.trod enc Tryd.prog w 0 (fun _ => true) held m 25 cs = some x) (hw : ∀ n ∈ x.1.weights Tryd.prog 25, n ≤ reachBytes) :
    ∃ (n : Nat) (y : R3) (q : RP), cs = y.cells q ∧ RIs w (n + 1) y q := by
  obtain ⟨xs, k, rfl, rfl, _, hxl, hf⟩ := DataW.trod_struct Tryd.underlying25 h
  match xs, hxl, cs, hl with
  | [y0, y1, y2], _, [v0, v1, v2], _ =>
    have g0 := hf 0 _ rfl
    have g1 := hf 1 _ rfl
    have g2 := hf 2 _ rfl
    simp [cellsWt, cellsWA, cellsWL] at g0 g1 g2
    obtain ⟨s, e0, _, hs⟩ := DataW.trod_string Tryd.underlying9 g0
    simp at e0
    subst e0
    obtain ⟨l1, a1, c1, rfl, h1, h2, h3⟩ := Ag_cell g1 (fun n hn => hw n (by
      simp only [DataW.weights, Tryd.underlying25]
      exact DataW.weights_mem_each (j := 1) (d := y1.1) rfl rfl n hn))
    obtain ⟨l2, a2, c2, rfl, h4, h5, h6⟩ := Lt_cell g2 (fun n hn => hw n (by
      simp only [DataW.weights, Tryd.underlying25]
      exact DataW.weights_mem_each (j := 2) (d := y2.1) rfl rfl n hn))
    exact ⟨k, ⟨s, l1, l2⟩, ⟨a1, c1, a2, c2⟩, rfl, ⟨hs, h1, h4, ⟨h2, h3⟩, ⟨h5, fun y hy => (h6 y hy).more⟩⟩⟩
theorem open_wider {r : Reach} {b0 : Nat} {v : Value} {d : DataW H} {p : List MemPlace} {tys : List TypeId} {ds : List (DataW H)} {j : Nat}
    (hv : Value.okWide Tryd.prog w r b0 61 v) (h : DataW.Trod enc Tryd.prog w 0 (fun _ => true) true 61 v d p)
    (hsz : (DataW.weightsEach Tryd.prog tys ds).all (· ≤ reachBytes) = true) (ht : tys[j]? = some 61) (hd : ds[j]? = some d) :
    ∃ (n : Nat) (y : R3) (q : RP) (l : List ByteArray) (va : Option Addr) (vc : Nat) (more : ByteArray) (first : Int), v = .agg #[.string y.pr, .slice q.a y.hd.length q.c, .slice q.ba y.bd.length q.bc, .slice va l.length vc, .string more, .int .i64 first] ∧ RIs w (n + 1) y q ∧ Ls w (.slice va l.length vc) l.length (l.flatMap strB) ∧ (∀ z ∈ l, z.size ≤ maxLen) ∧ l.length ≤ 8796093021952 ∧ more.size ≤ maxLen := by
  obtain ⟨cs, rfl, hcs⟩ := okWide_struct Tryd.underlying61 hv
  obtain ⟨m, hm⟩ := h
  rw [cellsWd] at hcs
  have hw : ∀ n ∈ d.weights Tryd.prog 61, n ≤ reachBytes := fun n hn => by
    have := List.all_eq_true.1 hsz n (DataW.weights_mem_each ht hd n hn)
    exact of_decide_eq_true this
  have hl6 : cs.toList.length = 6 := by simpa [Value.cells] using hcs
  have hm' : DataW.trod enc Tryd.prog w 0 (fun _ => true) true m 61 cs.toList = some (d, p) := hm
  obtain ⟨xs, k, rfl, hx, _, hxl, hf⟩ := DataW.trod_struct Tryd.underlying61 hm'
  obtain ⟨cl, hcl⟩ : ∃ cl, cs.toList = cl := ⟨_, rfl⟩
  rw [hcl] at hl6 hf
  match xs, hxl, cl, hl6 with
  | [y0, y1, y2, y3], _, [v0, v1, v2, v3, v4, v5], _ =>
    have g0 := hf 0 _ rfl
    have g1 := hf 1 _ rfl
    have g2 := hf 2 _ rfl
    have g3 := hf 3 _ rfl
    simp [cellsWr, cellsWs, cellsWt, cellsWi] at g0 g1 g2 g3
    have hd2 := (Prod.mk.inj hx).1
    rw [hd2] at hw
    obtain ⟨n, y, q, e0, hR⟩ := rule_cellsW rfl g0 (fun n hn => hw n (by
      simp only [DataW.weights, Tryd.underlying61]
      exact DataW.weights_mem_each (j := 0) (d := y0.1) rfl rfl n hn))
    obtain ⟨l, va, vc, rfl, h1, h2⟩ := strs_cell g1
    have k1 := strs_boundW g1 (fun n hn => hw n (by
      simp only [DataW.weights, Tryd.underlying61]
      exact DataW.weights_mem_each (j := 1) (d := y1.1) rfl rfl n hn))
    obtain ⟨s, es, _, hs⟩ := DataW.trod_string Tryd.underlying9 g2
    obtain ⟨kk, ek, _, _⟩ := DataW.trod_int Tryd.underlying3 g3
    simp at es ek
    subst es ek
    unfold R3.cells at e0
    simp at e0
    obtain ⟨rfl, rfl, rfl⟩ := e0
    refine ⟨n, y, q, l, va, vc, s, kk, ?_, hR, h1, h2, k1, hs⟩
    congr 1
    exact Array.toList_inj.1 hcl
end
end Go.Proofs.YteabclfhmapabaaDoor
