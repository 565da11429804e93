import Derived.Test.YteabclfhmapabaaDoorA7
import Derived.Test.YteabclfhmapabaaDoorA45
import Derived.Test.YteabclfhmapabaaDoorRows
import Derived.Test.YteabclfhmapabaaDoorA24
section
namespace Go.Proofs.YteabclfhmapabaaDoor
open Go.ChangeShapes Go.WideShapes Go.ChangeAt Go.RowKit Go.Joins Go.Deep
set_option linter.unusedVariables false
set_option linter.unusedSimpArgs false
set_option maxRecDepth 100000

theorem cellsAg : Tryd.prog.cellsOf 99 = 5 := by kernel_rfl
theorem cellsLt : Tryd.prog.cellsOf 56 = 16 := by kernel_rfl
theorem cellsRu : Tryd.prog.cellsOf 25 = 3 := by kernel_rfl
theorem cellsGg : Tryd.prog.cellsOf 97 = 1 := by kernel_rfl
theorem cellsRA : Tryd.prog.cellsOf 22 = 1 := by kernel_rfl
theorem cellsRL : Tryd.prog.cellsOf 23 = 1 := by kernel_rfl
theorem bytesAg : Tryd.prog.bytesOf 99 = 56 := by kernel_rfl
theorem bytesLt : Tryd.prog.bytesOf 56 = 216 := by kernel_rfl
theorem LIs.more {w : World} {d : Nat} {x : Lit4} {p : LP} (h : LIs w d x p) : LIs w (d + 1) x p := ⟨h.kb, h.rb, h.pb, h.ln, h.ts, h.l.more, h.r.more⟩
theorem ls_of_range_off {α : Type} {f : α → List Value} {k : Nat} (hk0 : 0 < k) (hk : ∀ x, (f x).length = k) (z : α) {w : World} {g off c : Nat} {l : List α} (hc1 : l.length ≤ c) (hc2 : c ≤ maxLen) (hg : g < w.heap.size) (h : ∀ i, i < l.length → w.rangeAt g (off + i * k) (f (l.getD i z))) :
    Ls w (.slice (some ⟨g, off, none⟩) l.length c) l.length (l.flatMap f) := by
  refine ⟨Nat.le_trans hc1 hc2, _, c, rfl, hc1, hc2, fun _ => ⟨g, off, rfl, hg, fun i hi => ?_⟩⟩
  have hl := flat_len f k hk l
  have hi2 : i / k < l.length := (Nat.div_lt_iff_lt_mul hk0).2 (by rw [← hl]; exact hi)
  have hm : i % k < k := Nat.mod_lt _ hk0
  have hx := flat_at f k hk z l (i / k) (i % k) hi2 hm
  have he : i / k * k + i % k = i := by rw [Nat.mul_comm]; exact Nat.div_add_mod i k
  rw [he, List.getElem?_eq_getElem hi] at hx
  have := h (i / k) hi2 (i % k) _ hx.symm
  rw [Nat.add_assoc, he] at this
  exact this
section
variable {H : Type} {enc : TypeId × Value → H} {w : World}
/-- an argument's five cells -/
theorem arg_cells {held : Bool} {m : Nat} {cs : List Value} {x : DataW H × List MemPlace} (hl : cs.length = 5) (h : DataW.trod enc Tryd.prog w 0 (fun _ => true) held m 99 cs = some x) :
    ∃ y : A5, cs = y.cells ∧ y.wf := by
  obtain ⟨xs, k, rfl, rfl, _, hxl, hf⟩ := DataW.trod_struct Tryd.underlying99 h
  match xs, hxl, cs, hl with
  | [y0, y1], _, [v0, v1, v2, v3, v4], _ =>
    have g0 := hf 0 _ rfl
    have g1 := hf 1 _ rfl
    simp [cellsGg, cellsET] at g0 g1
    obtain ⟨o, e0, _, wo⟩ := DataW.trod_int Tryd.underlying97 g0
    obtain ⟨t, e1, ht⟩ := term_cells rfl g1
    simp at e0 e1
    obtain ⟨rfl, rfl, rfl, rfl⟩ := e1
    subst e0
    have hop : -128 ≤ o ∧ o ≤ 127 := by
      simp only [Lit.wf, Bool.and_eq_true, decide_eq_true_eq] at wo
      exact wo
    exact ⟨⟨o, t⟩, rfl, ⟨hop, ht⟩⟩
/-- a literal's sixteen cells -/
theorem lit_cellsM {held : Bool} {m : Nat} {cs : List Value} {x : DataW H × List MemPlace} (hl : cs.length = 16) (h : DataW.trod enc Tryd.prog w 0 (fun _ => true) held m 56 cs = some x) (hw : ∀ n ∈ x.1.weights Tryd.prog 56, n ≤ reachBytes) :
    ∃ (y : Lit4) (p : LP), Value.agg cs.toArray = y.val p ∧ LIs w m y p := by
  obtain ⟨xs, k, rfl, rfl, _, hxl, hf⟩ := DataW.trod_struct Tryd.underlying56 h
  match xs, hxl, cs, hl with
  | [y0, y1, y2, y3, y4], _, [v0, v1, v2, v3, v4, v5, v6, v7, v8, v9, v10, v11, v12, v13, v14, v15], _ =>
    have g0 := hf 0 _ rfl
    have g1 := hf 1 _ rfl
    have g2 := hf 2 _ rfl
    have g3 := hf 3 _ rfl
    have g4 := hf 4 _ rfl
    simp [cellsLK, cellsA, cellsLR, cellsE] at g0 g1 g2 g3 g4
    obtain ⟨kk, e0, _, wk⟩ := DataW.trod_int Tryd.underlying41 g0
    obtain ⟨rr, e2, _, wr⟩ := DataW.trod_int Tryd.underlying45 g2
    obtain ⟨pr, ts, a, c, e1, h1, h2, h3⟩ := atom_cells rfl g1 (fun n hn => hw n (by
      simp only [DataW.weights, Tryd.underlying56]
      exact DataW.weights_mem_each (j := 1) (d := y1.1) rfl rfl n hn))
    obtain ⟨el, al, cl, e3, hl3⟩ := expr_cells k _ _ rfl g3 (fun n hn => hw n (by
      simp only [DataW.weights, Tryd.underlying56]
      exact DataW.weights_mem_each (j := 3) (d := y3.1) rfl rfl n hn))
    obtain ⟨er, ar, cr, e4, hl4⟩ := expr_cells k _ _ rfl g4 (fun n hn => hw n (by
      simp only [DataW.weights, Tryd.underlying56]
      exact DataW.weights_mem_each (j := 4) (d := y4.1) rfl rfl n hn))
    simp at e0 e1 e2 e3 e4
    obtain ⟨rfl, rfl⟩ := e1
    obtain ⟨rfl, rfl, rfl, rfl, rfl, rfl⟩ := e3
    obtain ⟨rfl, rfl, rfl, rfl, rfl, rfl⟩ := e4
    subst e0 e2
    have bk : -128 ≤ kk ∧ kk ≤ 127 := by
      simp only [Lit.wf, Bool.and_eq_true, decide_eq_true_eq] at wk
      exact wk
    have br : -128 ≤ rr ∧ rr ≤ 127 := by
      simp only [Lit.wf, Bool.and_eq_true, decide_eq_true_eq] at wr
      exact wr
    exact ⟨⟨kk, pr, ts, rr, el, er⟩, ⟨a, c, al, cl, ar, cr⟩, rfl, ⟨bk, br, h1, h2, h3, hl3.more, hl4.more⟩⟩
/-- lists that came in -/
theorem Ag_cell {held : Bool} {m : Nat} {v : Value} {x : DataW H × List MemPlace} (h : DataW.trod enc Tryd.prog w 0 (fun _ => true) held m 22 [v] = some x) (hw : ∀ n ∈ x.1.weights Tryd.prog 22, n ≤ reachBytes) :
    ∃ (l : List A5) (a : Option Addr) (c : Nat), v = .slice a l.length c ∧ l.length ≤ 281474976710656 ∧ Ls w (.slice a l.length c) l.length (l.flatMap A5.cells) ∧ ∀ y ∈ l, y.wf := by
  rcases DataW.trod_slice Tryd.underlying22 h with ⟨hcs, hx⟩ | ⟨a, len, cap, elems, rest, n, hk, hcs, hx, hb, hlc, hcm, hel, hea, hsp, _⟩
  · simp at hcs
    subst hcs
    exact ⟨[], none, 0, rfl, by decide, ⟨by show 0 ≤ _; omega, none, 0, rfl, Nat.le_refl _, by decide, fun h => absurd (show (0 : Nat) < 0 from h) (by omega)⟩, fun t ht => by cases ht⟩
  · simp at hcs
    subst hcs hk
    have hw2 : ∀ (i : Nat) (y : DataW H × List MemPlace), elems[i]? = some y → ∀ z ∈ y.1.weights Tryd.prog 99, z ≤ reachBytes := fun i y hy z hz => hw z (by
      rw [hx]
      simp only [DataW.weights, Tryd.underlying22, List.mem_cons, List.mem_append]
      exact .inr (.inl (weights_all (i := i) (d := y.1) (by rw [List.getElem?_map, hy]; rfl) z hz)))
    have hbound : len ≤ 281474976710656 := by
      have := hw ((elems.length + rest.length) * 56) (by
        rw [hx]
        simp [DataW.weights, Tryd.underlying22, bytesAg])
      have h3 : reachBytes ≤ 140737488355328 := by decide
      omega
    have each : ∀ i, i < len → ∃ y : A5, (∀ (j : Nat) (u : Value), y.cells[j]? = some u → w.cell? (a.add (i * 5 + j)) = some u) ∧ y.wf := by
      intro i hi
      have h1 := hea i hi
      obtain ⟨y, hy⟩ : ∃ y, elems[i]? = some y := ⟨_, List.getElem?_eq_getElem (by omega)⟩
      rw [hy] at h1
      obtain ⟨cs', hc1, hc2⟩ := Option.bind_eq_some_iff.1 h1
      rw [cellsAg] at hc1
      obtain ⟨_, hlen, hcell⟩ := World.cells?_some hc1
      obtain ⟨z, rfl, hz⟩ := arg_cells hlen hc2
      refine ⟨z, fun j u hu => ?_, hz⟩
      have hj : j < z.cells.length := (List.getElem?_eq_some_iff.1 hu).1
      have e := hcell j hj
      rw [add_add] at e
      rw [e]
      exact hu
    haveI : Inhabited A5 := ⟨A50⟩
    obtain ⟨q, hq⟩ := choose_lt each
    have hul : ((List.range len).map q).length = len := by simp
    refine ⟨(List.range len).map q, some a, cap, by rw [hul], by rw [hul]; exact hbound, ?_, fun y hy => ?_⟩
    · by_cases h0 : len = 0
      · subst h0
        exact ⟨by show 0 ≤ _; omega, some a, cap, rfl, by simp, hcm, fun h => absurd (show (0 : Nat) < 0 from h) (by omega)⟩
      · obtain ⟨b, off, spot⟩ := a
        have hspot : spot = none := by simpa [Addr.add] using World.cell?_spot ((hq 0 (by omega)).1 0 _ rfl)
        subst hspot
        have plain : ∀ k, (⟨b, off, none⟩ : Addr).add k = ⟨b, off + k, none⟩ := fun k => add_plain b off k
        refine ls_of_range_off (f := A5.cells) (k := 5) (by omega) (fun _ => rfl) A50 (by rw [hul]; exact hlc) hcm ?_ (fun i hi => ?_)
        · have := (hq 0 (by omega)).1 0 _ rfl
          rw [plain] at this
          exact World.block_lt_of_cell? _ _ this
        · rw [hul] at hi
          have hat : ((List.range len).map q).getD i A50 = q i := by simp [List.getD, hi]
          rw [hat]
          intro j u hu
          have := (hq i hi).1 j u hu
          rw [plain, ← Nat.add_assoc] at this
          exact this
    · obtain ⟨i, hi, rfl⟩ := List.mem_map.1 hy
      exact (hq i (List.mem_range.1 hi)).2
theorem Lt_cell {held : Bool} {m : Nat} {v : Value} {x : DataW H × List MemPlace} (h : DataW.trod enc Tryd.prog w 0 (fun _ => true) held m 23 [v] = some x) (hw : ∀ n ∈ x.1.weights Tryd.prog 23, n ≤ reachBytes) :
    ∃ (l : List XL) (a : Option Addr) (c : Nat), v = .slice a l.length c ∧ l.length ≤ 281474976710656 ∧ Ls w (.slice a l.length c) l.length (l.flatMap XL.cells) ∧ ∀ y ∈ l, LIs w m y.x y.p := by
  rcases DataW.trod_slice Tryd.underlying23 h with ⟨hcs, hx⟩ | ⟨a, len, cap, elems, rest, n, hk, hcs, hx, hb, hlc, hcm, hel, hea, hsp, _⟩
  · simp at hcs
    subst hcs
    exact ⟨[], none, 0, rfl, by decide, ⟨by show 0 ≤ _; omega, none, 0, rfl, Nat.le_refl _, by decide, fun h => absurd (show (0 : Nat) < 0 from h) (by omega)⟩, fun t ht => by cases ht⟩
  · simp at hcs
    subst hcs hk
    have hw2 : ∀ (i : Nat) (y : DataW H × List MemPlace), elems[i]? = some y → ∀ z ∈ y.1.weights Tryd.prog 56, z ≤ reachBytes := fun i y hy z hz => hw z (by
      rw [hx]
      simp only [DataW.weights, Tryd.underlying23, List.mem_cons, List.mem_append]
      exact .inr (.inl (weights_all (i := i) (d := y.1) (by rw [List.getElem?_map, hy]; rfl) z hz)))
    have hbound : len ≤ 281474976710656 := by
      have := hw ((elems.length + rest.length) * 216) (by
        rw [hx]
        simp [DataW.weights, Tryd.underlying23, bytesLt])
      have h3 : reachBytes ≤ 140737488355328 := by decide
      omega
    have each : ∀ i, i < len → ∃ y : XL, (∀ (j : Nat) (u : Value), y.cells[j]? = some u → w.cell? (a.add (i * 16 + j)) = some u) ∧ LIs w n y.x y.p := by
      intro i hi
      have h1 := hea i hi
      obtain ⟨y, hy⟩ : ∃ y, elems[i]? = some y := ⟨_, List.getElem?_eq_getElem (by omega)⟩
      rw [hy] at h1
      obtain ⟨cs', hc1, hc2⟩ := Option.bind_eq_some_iff.1 h1
      rw [cellsLt] at hc1
      obtain ⟨_, hlen, hcell⟩ := World.cells?_some hc1
      obtain ⟨z1, z2, hv, hz⟩ := lit_cellsM hlen hc2 (hw2 i y hy)
      have hcs : cs' = XL.cells ⟨z1, z2⟩ := by
        have h5 : cs'.toArray = (XL.cells ⟨z1, z2⟩).toArray := by
          have := hv
          unfold Lit4.val at this
          exact Value.agg.inj this
        simpa using congrArg Array.toList h5
      subst hcs
      refine ⟨(XL.mk z1 z2), fun j u hu => ?_, hz⟩
      have hj : j < (XL.mk z1 z2).cells.length := (List.getElem?_eq_some_iff.1 hu).1
      have e := hcell j hj
      rw [add_add] at e
      rw [e]
      exact hu
    haveI : Inhabited XL := ⟨XL0⟩
    obtain ⟨q, hq⟩ := choose_lt each
    have hul : ((List.range len).map q).length = len := by simp
    refine ⟨(List.range len).map q, some a, cap, by rw [hul], by rw [hul]; exact hbound, ?_, fun y hy => ?_⟩
    · by_cases h0 : len = 0
      · subst h0
        exact ⟨by show 0 ≤ _; omega, some a, cap, rfl, by simp, hcm, fun h => absurd (show (0 : Nat) < 0 from h) (by omega)⟩
      · obtain ⟨b, off, spot⟩ := a
        have hspot : spot = none := by simpa [Addr.add] using World.cell?_spot ((hq 0 (by omega)).1 0 _ rfl)
        subst hspot
        have plain : ∀ k, (⟨b, off, none⟩ : Addr).add k = ⟨b, off + k, none⟩ := fun k => add_plain b off k
        refine ls_of_range_off (f := XL.cells) (k := 16) (by omega) (fun _ => rfl) XL0 (by rw [hul]; exact hlc) hcm ?_ (fun i hi => ?_)
        · have := (hq 0 (by omega)).1 0 _ rfl
          rw [plain] at this
          exact World.block_lt_of_cell? _ _ this
        · rw [hul] at hi
          have hat : ((List.range len).map q).getD i XL0 = q i := by simp [List.getD, hi]
          rw [hat]
          intro j u hu
          have := (hq i hi).1 j u hu
          rw [plain, ← Nat.add_assoc] at this
          exact this
    · obtain ⟨i, hi, rfl⟩ := List.mem_map.1 hy
      exact LIs.more (hq i (List.mem_range.1 hi)).2
theorem open_rule {r : Reach} {b0 : Nat} {v : Value} {d : DataW H} {p : List MemPlace} {tys : List TypeId} {ds : List (DataW H)} {j : Nat}
    (hv : Value.okWide Tryd.prog w r b0 25 v) (h : DataW.Trod enc Tryd.prog w 0 (fun _ => true) true 25 v d p)
    (hsz : (DataW.weightsEach Tryd.prog tys ds).all (· ≤ reachBytes) = true) (ht : tys[j]? = some 25) (hd : ds[j]? = some d) :
    ∃ (n : Nat) (y : R3) (q : RP), v = y.val q ∧ RIs w (n + 1) y q := by
  obtain ⟨cs, rfl, hcs⟩ := okWide_struct Tryd.underlying25 hv
  obtain ⟨m, hm⟩ := h
  rw [cellsRu] at hcs
  have hw : ∀ n ∈ d.weights Tryd.prog 25, n ≤ reachBytes := fun n hn => by
    have := List.all_eq_true.1 hsz n (DataW.weights_mem_each ht hd n hn)
    exact of_decide_eq_true this
  have hl3 : cs.toList.length = 3 := by simpa [Value.cells] using hcs
  have hm' : DataW.trod enc Tryd.prog w 0 (fun _ => true) true m 25 cs.toList = some (d, p) := hm
  obtain ⟨xs, k, rfl, hx, _, hxl, hf⟩ := DataW.trod_struct Tryd.underlying25 hm'
  obtain ⟨cl, hcl⟩ : ∃ cl, cs.toList = cl := ⟨_, rfl⟩
  rw [hcl] at hl3 hf
  match xs, hxl, cl, hl3 with
  | [y0, y1, y2], _, [v0, v1, v2], _ =>
    have g0 := hf 0 _ rfl
    have g1 := hf 1 _ rfl
    have g2 := hf 2 _ rfl
    simp [cellsKS, cellsRA, cellsRL] at g0 g1 g2
    have hd2 := (Prod.mk.inj hx).1
    rw [hd2] at hw
    obtain ⟨s, e0, _, hs⟩ := DataW.trod_string Tryd.underlying9 g0
    simp at e0
    subst e0
    obtain ⟨l1, a1, c1, rfl, h1, h2, h3⟩ := Ag_cell g1 (fun n hn => hw n (by
      simp only [DataW.weights, Tryd.underlying25]
      exact DataW.weights_mem_each (j := 1) (d := y1.1) rfl rfl n hn))
    obtain ⟨l2, a2, c2, rfl, h4, h5, h6⟩ := Lt_cell g2 (fun n hn => hw n (by
      simp only [DataW.weights, Tryd.underlying25]
      exact DataW.weights_mem_each (j := 2) (d := y2.1) rfl rfl n hn))
    refine ⟨k, ⟨s, l1, l2⟩, ⟨a1, c1, a2, c2⟩, ?_, ⟨hs, h1, h4, ⟨h2, h3⟩, ⟨h5, fun y hy => (h6 y hy).more⟩⟩⟩
    have : cs = (R3.cells ⟨s, l1, l2⟩ ⟨a1, c1, a2, c2⟩).toArray := Array.toList_inj.1 (by rw [hcl]; rfl)
    rw [this]
    rfl
end
end Go.Proofs.YteabclfhmapabaaDoor
end
section
namespace Go.Proofs.YteabclfhmapabaaDoor
open Go.ChangeShapes Go.WideShapes Go.ChangeAt Go.RowKit Go.Joins Go.Deep
set_option linter.unusedVariables false
set_option linter.unusedSimpArgs false
set_option maxRecDepth 100000

theorem bulk_one {H : Type} (d : DataW H) : 1 ≤ Rows.uptoBulk d := by
  cases d with
  | lit l => cases l <;> simp [Rows.uptoBulk]
  | _ => simp [Rows.uptoBulk]
theorem bulk_len {H : Type} : ∀ l : List (DataW H), l.length ≤ Rows.uptoBulkAll l
  | [] => by simp [Rows.uptoBulkAll]
  | x :: r => by
    have h1 := bulk_one x
    have h2 := bulk_len r
    simp only [Rows.uptoBulkAll, List.length_cons]
    omega
section
variable {H : Type} {enc : TypeId × Value → H} {w : World}
/-- a list that came in is no longer than what it is reckoned as -/
theorem slice_bulk {ty e : TypeId} (hu : Tryd.prog.underlying ty = some (.slice e)) {m n : Nat} {a : Option Addr} {c : Nat} {x : DataW H × List MemPlace} (hm : DataW.trod enc Tryd.prog w 0 (fun _ => true) true m ty [.slice a n c] = some x) : n ≤ Rows.uptoBulk x.1 := by
  rcases DataW.trod_slice hu hm with ⟨hcs, hx⟩ | ⟨a', len, cap, elems, rest, k, hk, hcs, hx, hb, hlc, hcm, hel, hea, hsp, _⟩
  · simp at hcs
    obtain ⟨_, h0, _⟩ := hcs
    have : n = 0 := by first | exact h0 | (rw [h0]; rfl)
    omega
  · simp at hcs
    have h1 : n = len := hcs.2.1
    have h2 := bulk_len (elems.map (fun y => y.1))
    rw [List.length_map] at h2
    rw [hx]
    simp only [Rows.uptoBulk]
    omega
/-- a list of any elements that came in -/
theorem list_cell {α : Type} {ty e : TypeId} (hu : Tryd.prog.underlying ty = some (.slice e)) {f : α → List Value} {k : Nat} (hk0 : 0 < k) (hk : ∀ x, (f x).length = k) (z : α) (hce : Tryd.prog.cellsOf e = k) (Pr : α → Prop)
    (one : ∀ (held : Bool) (m : Nat) (cs : List Value) (x : DataW H × List MemPlace), cs.length = k → DataW.trod enc Tryd.prog w 0 (fun _ => true) held m e cs = some x → ∃ y : α, cs = f y ∧ Pr y)
    {held : Bool} {m : Nat} {v : Value} {x : DataW H × List MemPlace} (h : DataW.trod enc Tryd.prog w 0 (fun _ => true) held m ty [v] = some x) :
    ∃ (l : List α) (a : Option Addr) (c : Nat), v = .slice a l.length c ∧ Ls w (.slice a l.length c) l.length (l.flatMap f) ∧ ∀ y ∈ l, Pr y := by
  rcases DataW.trod_slice hu h with ⟨hcs, hx⟩ | ⟨a, len, cap, elems, rest, n, hk', hcs, hx, hb, hlc, hcm, hel, hea, hsp, _⟩
  · simp at hcs
    subst hcs
    exact ⟨[], none, 0, rfl, ⟨by show 0 ≤ _; omega, none, 0, rfl, Nat.le_refl _, by decide, fun h => absurd (show (0 : Nat) < 0 from h) (by omega)⟩, fun t ht => by cases ht⟩
  · simp at hcs
    subst hcs hk'
    have each : ∀ i, i < len → ∃ y : α, (∀ (j : Nat) (u : Value), (f y)[j]? = some u → w.cell? (a.add (i * k + j)) = some u) ∧ Pr y := by
      intro i hi
      have h1 := hea i hi
      obtain ⟨y, hy⟩ : ∃ y, elems[i]? = some y := ⟨_, List.getElem?_eq_getElem (by omega)⟩
      rw [hy] at h1
      obtain ⟨cs', hc1, hc2⟩ := Option.bind_eq_some_iff.1 h1
      rw [hce] at hc1
      obtain ⟨_, hlen, hcell⟩ := World.cells?_some hc1
      obtain ⟨z, rfl, hz⟩ := one _ _ _ _ hlen hc2
      refine ⟨z, fun j u hu => ?_, hz⟩
      have hj : j < k := by
        have := (List.getElem?_eq_some_iff.1 hu).1
        rw [hk] at this
        exact this
      have e := hcell j hj
      rw [add_add] at e
      rw [e]
      exact hu
    haveI : Inhabited α := ⟨z⟩
    obtain ⟨q, hq⟩ := choose_lt each
    have hul : ((List.range len).map q).length = len := by simp
    refine ⟨(List.range len).map q, some a, cap, by rw [hul], ?_, fun y hy => ?_⟩
    · by_cases h0 : len = 0
      · subst h0
        exact ⟨by show 0 ≤ _; omega, some a, cap, rfl, by simp, hcm, fun h => absurd (show (0 : Nat) < 0 from h) (by omega)⟩
      · obtain ⟨b, off, spot⟩ := a
        have hz0 : ∃ u, (f (q 0))[0]? = some u := ⟨_, List.getElem?_eq_getElem (by rw [hk]; exact hk0)⟩
        obtain ⟨u0, hu0⟩ := hz0
        have hspot : spot = none := by simpa [Addr.add] using World.cell?_spot ((hq 0 (by omega)).1 0 _ hu0)
        subst hspot
        have plain : ∀ k, (⟨b, off, none⟩ : Addr).add k = ⟨b, off + k, none⟩ := fun k => add_plain b off k
        refine ls_of_range_off (f := f) (k := k) hk0 hk z (by rw [hul]; exact hlc) hcm ?_ (fun i hi => ?_)
        · have := (hq 0 (by omega)).1 0 _ hu0
          rw [plain] at this
          exact World.block_lt_of_cell? _ _ this
        · rw [hul] at hi
          have hat : ((List.range len).map q).getD i z = q i := by simp [List.getD, hi]
          rw [hat]
          intro j u hu
          have := (hq i hi).1 j u hu
          rw [plain, ← Nat.add_assoc] at this
          exact this
    · obtain ⟨i, hi, rfl⟩ := List.mem_map.1 hy
      exact (hq i (List.mem_range.1 hi)).2
theorem str_one (held : Bool) (m : Nat) (cs : List Value) (x : DataW H × List MemPlace) (hl : cs.length = 1) (h : DataW.trod enc Tryd.prog w 0 (fun _ => true) held m 9 cs = some x) : ∃ y : ByteArray, cs = strB y ∧ y.size ≤ maxLen := by
  match cs, hl with
  | [v0], _ =>
    obtain ⟨s, e0, _, hs⟩ := DataW.trod_string Tryd.underlying9 h
    simp at e0
    subst e0
    exact ⟨s, rfl, hs⟩
theorem strs_cell {held : Bool} {m : Nat} {v : Value} {x : DataW H × List MemPlace} (h : DataW.trod enc Tryd.prog w 0 (fun _ => true) held m 26 [v] = some x) :
    ∃ (l : List ByteArray) (a : Option Addr) (c : Nat), v = .slice a l.length c ∧ Ls w (.slice a l.length c) l.length (l.flatMap strB) ∧ ∀ y ∈ l, y.size ≤ maxLen :=
  list_cell Tryd.underlying26 (f := strB) (k := 1) (by decide) (fun _ => rfl) ⟨#[]⟩ cellsKS (fun y => y.size ≤ maxLen) (fun held m cs x hl h => str_one held m cs x hl h) h
theorem open_names {r : Reach} {b0 : Nat} {v : Value} {d : DataW H} {p : List MemPlace}
    (hv : Value.okWide Tryd.prog w r b0 26 v) (h : DataW.Trod enc Tryd.prog w 0 (fun _ => true) true 26 v d p) :
    ∃ (l : List ByteArray) (a : Option Addr) (c : Nat), v = .slice a l.length c ∧ Ls w (.slice a l.length c) l.length (l.flatMap strB) ∧ (∀ y ∈ l, y.size ≤ maxLen) ∧ l.length ≤ Rows.uptoBulk d := by
  obtain ⟨m, hm⟩ := h
  have hv2 : v.cells.toList = [v] := by
    obtain ⟨a, n, c, rfl⟩ : ∃ a n c, v = .slice a n c := Go.WideShapes.okWide_slice Tryd.underlying26 hv
    rfl
  rw [hv2] at hm
  obtain ⟨l, a, c, rfl, h1, h2⟩ := strs_cell hm
  exact ⟨l, a, c, rfl, h1, h2, slice_bulk Tryd.underlying26 (x := (d, p)) hm⟩
end
end Go.Proofs.YteabclfhmapabaaDoor
end
