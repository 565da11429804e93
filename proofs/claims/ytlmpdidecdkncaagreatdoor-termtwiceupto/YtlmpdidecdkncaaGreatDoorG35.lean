import Derived.Test.YtlmpdidecdkncaaGreatDoorG18
import Derived.Test.YtlmpdidecdkncaaGreatDoorG34
import Derived.Test.YtlmpdidecdkncaaGreatDoorRows
section
namespace Go.Proofs.YtlmpdidecdkncaaGreatDoor
open Go.ChangeShapes Go.WideShapes Go.ChangeAt Go.RowKit Go.Joins Go.Deep
set_option linter.unusedVariables false
set_option linter.unusedSimpArgs false
set_option maxRecDepth 100000

theorem cellsAg : Tryz.prog.cellsOf 104 = 5 := by kernel_rfl
theorem cellsLt : Tryz.prog.cellsOf 99 = 16 := by kernel_rfl
theorem cellsRu : Tryz.prog.cellsOf 25 = 3 := by kernel_rfl
theorem cellsGg : Tryz.prog.cellsOf 102 = 1 := by kernel_rfl
theorem cellsRA : Tryz.prog.cellsOf 22 = 1 := by kernel_rfl
theorem cellsRL : Tryz.prog.cellsOf 23 = 1 := by kernel_rfl
theorem bytesAg : Tryz.prog.bytesOf 104 = 56 := by kernel_rfl
theorem bytesLt : Tryz.prog.bytesOf 99 = 216 := by kernel_rfl
theorem LIs.more {w : World} {d : Nat} {x : Lit4} {p : LP} (h : LIs w d x p) : LIs w (d + 1) x p := ⟨h.kb, h.rb, h.pb, h.ln, h.ts, h.l.more, h.r.more⟩
theorem ls_of_range_off {α : Type} {f : α → List Value} {k : Nat} (hk0 : 0 < k) (hk : ∀ x, (f x).length = k) (z : α) {w : World} {g off c : Nat} {l : List α} (hc1 : l.length ≤ c) (hc2 : c ≤ maxLen) (hg : g < w.heap.size) (h : ∀ i, i < l.length → w.rangeAt g (off + i * k) (f (l.getD i z))) :
    Ls w (.slice (some ⟨g, off, none⟩) l.length c) l.length (l.flatMap f) := by
  refine ⟨Nat.le_trans hc1 hc2, _, c, rfl, hc1, hc2, fun _ => ⟨g, off, rfl, hg, fun i hi => ?_⟩⟩
  have hl := flat_len f k hk l
  have hi2 : i / k < l.length := (Nat.div_lt_iff_lt_mul hk0).2 (by rw [← hl]; exact hi)
  have hm : i % k < k := Nat.mod_lt _ hk0
  have hx := flat_at f k hk z l (i / k) (i % k) hi2 hm
  have he : i / k * k + i % k = i := by rw [Nat.mul_comm]; exact Nat.div_add_mod i k
  rw [he, List.getElem?_eq_getElem hi] at hx
  have := h (i / k) hi2 (i % k) _ hx.symm
  rw [Nat.add_assoc, he] at this
  exact this
section
variable {H : Type} {enc : TypeId × Value → H} {w : World}
/-- an argument's five cells -/
theorem arg_cells {held : Bool} {m : Nat} {cs : List Value} {x : DataW H × List MemPlace} (hl : cs.length = 5) (h : DataW.trod enc Tryz.prog w 0 (fun _ => true) held m 104 cs = some x) :
    ∃ y : A5, cs = y.cells ∧ y.wf := by
  obtain ⟨xs, k, rfl, rfl, _, hxl, hf⟩ := DataW.trod_struct Tryz.underlying104 h
  match xs, hxl, cs, hl with
  | [y0, y1], _, [v0, v1, v2, v3, v4], _ =>
    have g0 := hf 0 _ rfl
    have g1 := hf 1 _ rfl
    simp [cellsGg, cellsET] at g0 g1
    obtain ⟨o, e0, _, wo⟩ := DataW.trod_int Tryz.underlying102 g0
    obtain ⟨t, e1, ht⟩ := term_cells rfl g1
    simp at e0 e1
    obtain ⟨rfl, rfl, rfl, rfl⟩ := e1
    subst e0
    have hop : -128 ≤ o ∧ o ≤ 127 := by
      simp only [Lit.wf, Bool.and_eq_true, decide_eq_true_eq] at wo
      exact wo
    exact ⟨⟨o, t⟩, rfl, ⟨hop, ht⟩⟩
/-- a literal's sixteen cells -/
theorem lit_cellsM {held : Bool} {m : Nat} {cs : List Value} {x : DataW H × List MemPlace} (hl : cs.length = 16) (h : DataW.trod enc Tryz.prog w 0 (fun _ => true) held m 99 cs = some x) (hw : ∀ n ∈ x.1.weights Tryz.prog 99, n ≤ reachBytes) :
    ∃ (y : Lit4) (p : LP), Value.agg cs.toArray = y.val p ∧ LIs w m y p := by
  obtain ⟨xs, k, rfl, rfl, _, hxl, hf⟩ := DataW.trod_struct Tryz.underlying99 h
  match xs, hxl, cs, hl with
  | [y0, y1, y2, y3, y4], _, [v0, v1, v2, v3, v4, v5, v6, v7, v8, v9, v10, v11, v12, v13, v14, v15], _ =>
    have g0 := hf 0 _ rfl
    have g1 := hf 1 _ rfl
    have g2 := hf 2 _ rfl
    have g3 := hf 3 _ rfl
    have g4 := hf 4 _ rfl
    simp [cellsLK, cellsA, cellsLR, cellsE] at g0 g1 g2 g3 g4
    obtain ⟨kk, e0, _, wk⟩ := DataW.trod_int Tryz.underlying96 g0
    obtain ⟨rr, e2, _, wr⟩ := DataW.trod_int Tryz.underlying97 g2
    obtain ⟨pr, ts, a, c, e1, h1, h2, h3⟩ := atom_cells rfl g1 (fun n hn => hw n (by
      simp only [DataW.weights, Tryz.underlying99]
      exact DataW.weights_mem_each (j := 1) (d := y1.1) rfl rfl n hn))
    obtain ⟨el, al, cl, e3, hl3⟩ := expr_cells k _ _ rfl g3 (fun n hn => hw n (by
      simp only [DataW.weights, Tryz.underlying99]
      exact DataW.weights_mem_each (j := 3) (d := y3.1) rfl rfl n hn))
    obtain ⟨er, ar, cr, e4, hl4⟩ := expr_cells k _ _ rfl g4 (fun n hn => hw n (by
      simp only [DataW.weights, Tryz.underlying99]
      exact DataW.weights_mem_each (j := 4) (d := y4.1) rfl rfl n hn))
    simp at e0 e1 e2 e3 e4
    obtain ⟨rfl, rfl⟩ := e1
    obtain ⟨rfl, rfl, rfl, rfl, rfl, rfl⟩ := e3
    obtain ⟨rfl, rfl, rfl, rfl, rfl, rfl⟩ := e4
    subst e0 e2
    have bk : -128 ≤ kk ∧ kk ≤ 127 := by
      simp only [Lit.wf, Bool.and_eq_true, decide_eq_true_eq] at wk
      exact wk
    have br : -128 ≤ rr ∧ rr ≤ 127 := by
      simp only [Lit.wf, Bool.and_eq_true, decide_eq_true_eq] at wr
      exact wr
    exact ⟨⟨kk, pr, ts, rr, el, er⟩, ⟨a, c, al, cl, ar, cr⟩, rfl, ⟨bk, br, h1, h2, h3, hl3.more, hl4.more⟩⟩
/-- lists that came in -/
theorem Ag_cell {held : Bool} {m : Nat} {v : Value} {x : DataW H × List MemPlace} (h : DataW.trod enc Tryz.prog w 0 (fun _ => true) held m 22 [v] = some x) (hw : ∀ n ∈ x.1.weights Tryz.prog 22, n ≤ reachBytes) :
    ∃ (l : List A5) (a : Option Addr) (c : Nat), v = .slice a l.length c ∧ l.length ≤ 281474976710656 ∧ Ls w (.slice a l.length c) l.length (l.flatMap A5.cells) ∧ ∀ y ∈ l, y.wf := by
  rcases DataW.trod_slice Tryz.underlying22 h with ⟨hcs, hx⟩ | ⟨a, len, cap, elems, rest, n, hk, hcs, hx, hb, hlc, hcm, hel, hea, hsp, _⟩
  · simp at hcs
    subst hcs
    exact ⟨[], none, 0, rfl, by decide, ⟨by show 0 ≤ _; omega, none, 0, rfl, Nat.le_refl _, by decide, fun h => absurd (show (0 : Nat) < 0 from h) (by omega)⟩, fun t ht => by cases ht⟩
  · simp at hcs
    subst hcs hk
    have hw2 : ∀ (i : Nat) (y : DataW H × List MemPlace), elems[i]? = some y → ∀ z ∈ y.1.weights Tryz.prog 104, z ≤ reachBytes := fun i y hy z hz => hw z (by
      rw [hx]
      simp only [DataW.weights, Tryz.underlying22, List.mem_cons, List.mem_append]
      exact .inr (.inl (weights_all (i := i) (d := y.1) (by rw [List.getElem?_map, hy]; rfl) z hz)))
    have hbound : len ≤ 281474976710656 := by
      have := hw ((elems.length + rest.length) * 56) (by
        rw [hx]
        simp [DataW.weights, Tryz.underlying22, bytesAg])
      have h3 : reachBytes ≤ 140737488355328 := by decide
      omega
    have each : ∀ i, i < len → ∃ y : A5, (∀ (j : Nat) (u : Value), y.cells[j]? = some u → w.cell? (a.add (i * 5 + j)) = some u) ∧ y.wf := by
      intro i hi
      have h1 := hea i hi
      obtain ⟨y, hy⟩ : ∃ y, elems[i]? = some y := ⟨_, List.getElem?_eq_getElem (by omega)⟩
      rw [hy] at h1
      obtain ⟨cs', hc1, hc2⟩ := Option.bind_eq_some_iff.1 h1
      rw [cellsAg] at hc1
      obtain ⟨_, hlen, hcell⟩ := World.cells?_some hc1
      obtain ⟨z, rfl, hz⟩ := arg_cells hlen hc2
      refine ⟨z, fun j u hu => ?_, hz⟩
      have hj : j < z.cells.length := (List.getElem?_eq_some_iff.1 hu).1
      have e := hcell j hj
      rw [add_add] at e
      rw [e]
      exact hu
    haveI : Inhabited A5 := ⟨A50⟩
    obtain ⟨q, hq⟩ := choose_lt each
    have hul : ((List.range len).map q).length = len := by simp
    refine ⟨(List.range len).map q, some a, cap, by rw [hul], by rw [hul]; exact hbound, ?_, fun y hy => ?_⟩
    · by_cases h0 : len = 0
      · subst h0
        exact ⟨by show 0 ≤ _; omega, some a, cap, rfl, by simp, hcm, fun h => absurd (show (0 : Nat) < 0 from h) (by omega)⟩
      · obtain ⟨b, off, spot⟩ := a
        have hspot : spot = none := by simpa [Addr.add] using World.cell?_spot ((hq 0 (by omega)).1 0 _ rfl)
        subst hspot
        have plain : ∀ k, (⟨b, off, none⟩ : Addr).add k = ⟨b, off + k, none⟩ := fun k => add_plain b off k
        refine ls_of_range_off (f := A5.cells) (k := 5) (by omega) (fun _ => rfl) A50 (by rw [hul]; exact hlc) hcm ?_ (fun i hi => ?_)
        · have := (hq 0 (by omega)).1 0 _ rfl
          rw [plain] at this
          exact World.block_lt_of_cell? _ _ this
        · rw [hul] at hi
          have hat : ((List.range len).map q).getD i A50 = q i := by simp [List.getD, hi]
          rw [hat]
          intro j u hu
          have := (hq i hi).1 j u hu
          rw [plain, ← Nat.add_assoc] at this
          exact this
    · obtain ⟨i, hi, rfl⟩ := List.mem_map.1 hy
      exact (hq i (List.mem_range.1 hi)).2
theorem Lt_cell {held : Bool} {m : Nat} {v : Value} {x : DataW H × List MemPlace} (h : DataW.trod enc Tryz.prog w 0 (fun _ => true) held m 23 [v] = some x) (hw : ∀ n ∈ x.1.weights Tryz.prog 23, n ≤ reachBytes) :
    ∃ (l : List XL) (a : Option Addr) (c : Nat), v = .slice a l.length c ∧ l.length ≤ 281474976710656 ∧ Ls w (.slice a l.length c) l.length (l.flatMap XL.cells) ∧ ∀ y ∈ l, LIs w m y.x y.p := by
  rcases DataW.trod_slice Tryz.underlying23 h with ⟨hcs, hx⟩ | ⟨a, len, cap, elems, rest, n, hk, hcs, hx, hb, hlc, hcm, hel, hea, hsp, _⟩
  · simp at hcs
    subst hcs
    exact ⟨[], none, 0, rfl, by decide, ⟨by show 0 ≤ _; omega, none, 0, rfl, Nat.le_refl _, by decide, fun h => absurd (show (0 : Nat) < 0 from h) (by omega)⟩, fun t ht => by cases ht⟩
  · simp at hcs
    subst hcs hk
    have hw2 : ∀ (i : Nat) (y : DataW H × List MemPlace), elems[i]? = some y → ∀ z ∈ y.1.weights Tryz.prog 99, z ≤ reachBytes := fun i y hy z hz => hw z (by
      rw [hx]
      simp only [DataW.weights, Tryz.underlying23, List.mem_cons, List.mem_append]
      exact .inr (.inl (weights_all (i := i) (d := y.1) (by rw [List.getElem?_map, hy]; rfl) z hz)))
    have hbound : len ≤ 281474976710656 := by
      have := hw ((elems.length + rest.length) * 216) (by
        rw [hx]
        simp [DataW.weights, Tryz.underlying23, bytesLt])
      have h3 : reachBytes ≤ 140737488355328 := by decide
      omega
    have each : ∀ i, i < len → ∃ y : XL, (∀ (j : Nat) (u : Value), y.cells[j]? = some u → w.cell? (a.add (i * 16 + j)) = some u) ∧ LIs w n y.x y.p := by
      intro i hi
      have h1 := hea i hi
      obtain ⟨y, hy⟩ : ∃ y, elems[i]? = some y := ⟨_, List.getElem?_eq_getElem (by omega)⟩
      rw [hy] at h1
      obtain ⟨cs', hc1, hc2⟩ := Option.bind_eq_some_iff.1 h1
      rw [cellsLt] at hc1
      obtain ⟨_, hlen, hcell⟩ := World.cells?_some hc1
      obtain ⟨z1, z2, hv, hz⟩ := lit_cellsM hlen hc2 (hw2 i y hy)
      have hcs : cs' = XL.cells ⟨z1, z2⟩ := by
        have h5 : cs'.toArray = (XL.cells ⟨z1, z2⟩).toArray := by
          have := hv
          unfold Lit4.val at this
          exact Value.agg.inj this
        simpa using congrArg Array.toList h5
      subst hcs
      refine ⟨(XL.mk z1 z2), fun j u hu => ?_, hz⟩
      have hj : j < (XL.mk z1 z2).cells.length := (List.getElem?_eq_some_iff.1 hu).1
      have e := hcell j hj
      rw [add_add] at e
      rw [e]
      exact hu
    haveI : Inhabited XL := ⟨XL0⟩
    obtain ⟨q, hq⟩ := choose_lt each
    have hul : ((List.range len).map q).length = len := by simp
    refine ⟨(List.range len).map q, some a, cap, by rw [hul], by rw [hul]; exact hbound, ?_, fun y hy => ?_⟩
    · by_cases h0 : len = 0
      · subst h0
        exact ⟨by show 0 ≤ _; omega, some a, cap, rfl, by simp, hcm, fun h => absurd (show (0 : Nat) < 0 from h) (by omega)⟩
      · obtain ⟨b, off, spot⟩ := a
        have hspot : spot = none := by simpa [Addr.add] using World.cell?_spot ((hq 0 (by omega)).1 0 _ rfl)
        subst hspot
        have plain : ∀ k, (⟨b, off, none⟩ : Addr).add k = ⟨b, off + k, none⟩ := fun k => add_plain b off k
        refine ls_of_range_off (f := XL.cells) (k := 16) (by omega) (fun _ => rfl) XL0 (by rw [hul]; exact hlc) hcm ?_ (fun i hi => ?_)
        · have := (hq 0 (by omega)).1 0 _ rfl
          rw [plain] at this
          exact World.block_lt_of_cell? _ _ this
        · rw [hul] at hi
          have hat : ((List.range len).map q).getD i XL0 = q i := by simp [List.getD, hi]
          rw [hat]
          intro j u hu
          have := (hq i hi).1 j u hu
          rw [plain, ← Nat.add_assoc] at this
          exact this
    · obtain ⟨i, hi, rfl⟩ := List.mem_map.1 hy
      exact LIs.more (hq i (List.mem_range.1 hi)).2
theorem open_rule {r : Reach} {b0 : Nat} {v : Value} {d : DataW H} {p : List MemPlace} {tys : List TypeId} {ds : List (DataW H)} {j : Nat}
    (hv : Value.okWide Tryz.prog w r b0 25 v) (h : DataW.Trod enc Tryz.prog w 0 (fun _ => true) true 25 v d p)
    (hsz : (DataW.weightsEach Tryz.prog tys ds).all (· ≤ reachBytes) = true) (ht : tys[j]? = some 25) (hd : ds[j]? = some d) :
    ∃ (n : Nat) (y : R3) (q : RP), v = y.val q ∧ RIs w (n + 1) y q := by
  obtain ⟨cs, rfl, hcs⟩ := okWide_struct Tryz.underlying25 hv
  obtain ⟨m, hm⟩ := h
  rw [cellsRu] at hcs
  have hw : ∀ n ∈ d.weights Tryz.prog 25, n ≤ reachBytes := fun n hn => by
    have := List.all_eq_true.1 hsz n (DataW.weights_mem_each ht hd n hn)
    exact of_decide_eq_true this
  have hl3 : cs.toList.length = 3 := by simpa [Value.cells] using hcs
  have hm' : DataW.trod enc Tryz.prog w 0 (fun _ => true) true m 25 cs.toList = some (d, p) := hm
  obtain ⟨xs, k, rfl, hx, _, hxl, hf⟩ := DataW.trod_struct Tryz.underlying25 hm'
  obtain ⟨cl, hcl⟩ : ∃ cl, cs.toList = cl := ⟨_, rfl⟩
  rw [hcl] at hl3 hf
  match xs, hxl, cl, hl3 with
  | [y0, y1, y2], _, [v0, v1, v2], _ =>
    have g0 := hf 0 _ rfl
    have g1 := hf 1 _ rfl
    have g2 := hf 2 _ rfl
    simp [cellsKS, cellsRA, cellsRL] at g0 g1 g2
    have hd2 := (Prod.mk.inj hx).1
    rw [hd2] at hw
    obtain ⟨s, e0, _, hs⟩ := DataW.trod_string Tryz.underlying9 g0
    simp at e0
    subst e0
    obtain ⟨l1, a1, c1, rfl, h1, h2, h3⟩ := Ag_cell g1 (fun n hn => hw n (by
      simp only [DataW.weights, Tryz.underlying25]
      exact DataW.weights_mem_each (j := 1) (d := y1.1) rfl rfl n hn))
    obtain ⟨l2, a2, c2, rfl, h4, h5, h6⟩ := Lt_cell g2 (fun n hn => hw n (by
      simp only [DataW.weights, Tryz.underlying25]
      exact DataW.weights_mem_each (j := 2) (d := y2.1) rfl rfl n hn))
    refine ⟨k, ⟨s, l1, l2⟩, ⟨a1, c1, a2, c2⟩, ?_, ⟨hs, h1, h4, ⟨h2, h3⟩, ⟨h5, fun y hy => (h6 y hy).more⟩⟩⟩
    have : cs = (R3.cells ⟨s, l1, l2⟩ ⟨a1, c1, a2, c2⟩).toArray := Array.toList_inj.1 (by rw [hcl]; rfl)
    rw [this]
    rfl
end
end Go.Proofs.YtlmpdidecdkncaaGreatDoor
end
section
namespace Go.Proofs.YtlmpdidecdkncaaGreatDoor
open Go.ChangeShapes Go.WideShapes Go.ChangeAt Go.RowKit Go.Joins Go.Deep
set_option linter.unusedVariables false
set_option linter.unusedSimpArgs false
set_option maxRecDepth 100000

theorem cellsPr : Tryz.prog.cellsOf 52 = 5 := by kernel_rfl
theorem bytesPr : Tryz.prog.bytesOf 52 = 64 := by kernel_rfl
theorem bulk_one {H : Type} (d : DataW H) : 1 ≤ Rows.uptoBulk d := by
  cases d with
  | lit l => cases l <;> simp [Rows.uptoBulk]
  | nil => simp [Rows.uptoBulk]
  | ptr d => simp [Rows.uptoBulk]
  | slice elems spare => simp [Rows.uptoBulk]
  | agg parts => simp [Rows.uptoBulk]
  | iface t d => simp [Rows.uptoBulk]
  | map entries => simp [Rows.uptoBulk]
  | held h => simp [Rows.uptoBulk]
theorem bulk_len {H : Type} : ∀ l : List (DataW H), l.length ≤ Rows.uptoBulkAll l
  | [] => by simp [Rows.uptoBulkAll]
  | x :: r => by
    have h1 := bulk_one x
    have h2 := bulk_len r
    simp only [Rows.uptoBulkAll, List.length_cons]
    omega
section
variable {H : Type} {enc : TypeId × Value → H} {w : World}
/-- a list that came in is no longer than what it is reckoned as -/
theorem slice_bulk {ty e : TypeId} (hu : Tryz.prog.underlying ty = some (.slice e)) {m n : Nat} {a : Option Addr} {c : Nat} {x : DataW H × List MemPlace} (hm : DataW.trod enc Tryz.prog w 0 (fun _ => true) true m ty [.slice a n c] = some x) : n ≤ Rows.uptoBulk x.1 := by
  rcases DataW.trod_slice hu hm with ⟨hcs, hx⟩ | ⟨a', len, cap, elems, rest, k, hk, hcs, hx, hb, hlc, hcm, hel, hea, hsp, _⟩
  · simp at hcs
    obtain ⟨_, h0, _⟩ := hcs
    have : n = 0 := by first | exact h0 | (rw [h0]; rfl)
    omega
  · simp at hcs
    have h1 : n = len := hcs.2.1
    have h2 := bulk_len (elems.map (fun y => y.1))
    rw [List.length_map] at h2
    rw [hx]
    simp only [Rows.uptoBulk]
    omega
theorem pairs_bulk {n : Nat} {a : Option Addr} {c : Nat} {d : DataW H} {p : List MemPlace} (h : DataW.Trod enc Tryz.prog w 0 (fun _ => true) true 36 (.slice a n c) d p) : n ≤ Rows.uptoBulk d := by
  obtain ⟨m, hm⟩ := h
  exact slice_bulk Tryz.underlying36 (x := (d, p)) hm
theorem atom_bulk {pr : ByteArray} {n : Nat} {a : Option Addr} {c : Nat} {d : DataW H} {p : List MemPlace} (h : DataW.Trod enc Tryz.prog w 0 (fun _ => true) true 35 (.agg #[.string pr, .slice a n c]) d p) : n ≤ Rows.uptoBulk d := by
  obtain ⟨m, hm⟩ := h
  have hm : DataW.trod enc Tryz.prog w 0 (fun _ => true) true m 35 [.string pr, .slice a n c] = some (d, p) := hm
  obtain ⟨xs, k, rfl, hx, _, hxl, hf⟩ := DataW.trod_struct Tryz.underlying35 hm
  match xs, hxl with
  | [y0, y1], _ =>
    have g1 := hf 1 _ rfl
    simp [cellsKS, cellsAT] at g1
    have h1 := slice_bulk Tryz.underlying33 g1
    obtain ⟨hx, -⟩ := Prod.mk.inj hx
    rw [hx]
    simp only [Rows.uptoBulk, List.map_cons, List.map_nil, Rows.uptoBulkAll]
    omega
/-- a pair's five cells -/
theorem pair_cells {held : Bool} {m : Nat} {cs : List Value} {x : DataW H × List MemPlace} (hl : cs.length = 5) (h : DataW.trod enc Tryz.prog w 0 (fun _ => true) held m 52 cs = some x) :
    ∃ y : P, cs = y.cells ∧ y.wf := by
  obtain ⟨xs, k, rfl, rfl, _, hxl, hf⟩ := DataW.trod_struct Tryz.underlying52 h
  match xs, hxl, cs, hl with
  | [y0, y1], _, [v0, v1, v2, v3, v4], _ =>
    have g0 := hf 0 _ rfl
    have g1 := hf 1 _ rfl
    simp [cellsKS, cellsKT] at g0 g1
    obtain ⟨s, e0, _, hs⟩ := DataW.trod_string Tryz.underlying9 g0
    obtain ⟨t, e1, ht⟩ := term_cells rfl g1
    simp at e0 e1
    obtain ⟨rfl, rfl, rfl, rfl⟩ := e1
    subst e0
    exact ⟨⟨s, t⟩, rfl, ⟨hs, ht⟩⟩
theorem Pr_cell {held : Bool} {m : Nat} {v : Value} {x : DataW H × List MemPlace} (h : DataW.trod enc Tryz.prog w 0 (fun _ => true) held m 36 [v] = some x) (hw : ∀ n ∈ x.1.weights Tryz.prog 36, n ≤ reachBytes) :
    ∃ (l : List P) (a : Option Addr) (c : Nat), v = .slice a l.length c ∧ l.length ≤ 281474976710656 ∧ Ls w (.slice a l.length c) l.length (l.flatMap P.cells) ∧ ∀ y ∈ l, y.wf := by
  rcases DataW.trod_slice Tryz.underlying36 h with ⟨hcs, hx⟩ | ⟨a, len, cap, elems, rest, n, hk, hcs, hx, hb, hlc, hcm, hel, hea, hsp, _⟩
  · simp at hcs
    subst hcs
    exact ⟨[], none, 0, rfl, by decide, ⟨by show 0 ≤ _; omega, none, 0, rfl, Nat.le_refl _, by decide, fun h => absurd (show (0 : Nat) < 0 from h) (by omega)⟩, fun t ht => by cases ht⟩
  · simp at hcs
    subst hcs hk
    have hw2 : ∀ (i : Nat) (y : DataW H × List MemPlace), elems[i]? = some y → ∀ z ∈ y.1.weights Tryz.prog 52, z ≤ reachBytes := fun i y hy z hz => hw z (by
      rw [hx]
      simp only [DataW.weights, Tryz.underlying36, List.mem_cons, List.mem_append]
      exact .inr (.inl (weights_all (i := i) (d := y.1) (by rw [List.getElem?_map, hy]; rfl) z hz)))
    have hbound : len ≤ 281474976710656 := by
      have := hw ((elems.length + rest.length) * 64) (by
        rw [hx]
        simp [DataW.weights, Tryz.underlying36, bytesPr])
      have h3 : reachBytes ≤ 140737488355328 := by decide
      omega
    have each : ∀ i, i < len → ∃ y : P, (∀ (j : Nat) (u : Value), y.cells[j]? = some u → w.cell? (a.add (i * 5 + j)) = some u) ∧ y.wf := by
      intro i hi
      have h1 := hea i hi
      obtain ⟨y, hy⟩ : ∃ y, elems[i]? = some y := ⟨_, List.getElem?_eq_getElem (by omega)⟩
      rw [hy] at h1
      obtain ⟨cs', hc1, hc2⟩ := Option.bind_eq_some_iff.1 h1
      rw [cellsPr] at hc1
      obtain ⟨_, hlen, hcell⟩ := World.cells?_some hc1
      obtain ⟨z, rfl, hz⟩ := pair_cells hlen hc2
      refine ⟨z, fun j u hu => ?_, hz⟩
      have hj : j < z.cells.length := (List.getElem?_eq_some_iff.1 hu).1
      have e := hcell j hj
      rw [add_add] at e
      rw [e]
      exact hu
    haveI : Inhabited P := ⟨P0⟩
    obtain ⟨q, hq⟩ := choose_lt each
    have hul : ((List.range len).map q).length = len := by simp
    refine ⟨(List.range len).map q, some a, cap, by rw [hul], by rw [hul]; exact hbound, ?_, fun y hy => ?_⟩
    · by_cases h0 : len = 0
      · subst h0
        exact ⟨by show 0 ≤ _; omega, some a, cap, rfl, by simp, hcm, fun h => absurd (show (0 : Nat) < 0 from h) (by omega)⟩
      · obtain ⟨b, off, spot⟩ := a
        have hspot : spot = none := by simpa [Addr.add] using World.cell?_spot ((hq 0 (by omega)).1 0 _ rfl)
        subst hspot
        have plain : ∀ k, (⟨b, off, none⟩ : Addr).add k = ⟨b, off + k, none⟩ := fun k => add_plain b off k
        refine ls_of_range_off (f := P.cells) (k := 5) (by omega) (fun _ => rfl) P0 (by rw [hul]; exact hlc) hcm ?_ (fun i hi => ?_)
        · have := (hq 0 (by omega)).1 0 _ rfl
          rw [plain] at this
          exact World.block_lt_of_cell? _ _ this
        · rw [hul] at hi
          have hat : ((List.range len).map q).getD i P0 = q i := by simp [List.getD, hi]
          rw [hat]
          intro j u hu
          have := (hq i hi).1 j u hu
          rw [plain, ← Nat.add_assoc] at this
          exact this
    · obtain ⟨i, hi, rfl⟩ := List.mem_map.1 hy
      exact (hq i (List.mem_range.1 hi)).2
theorem open_pairs {r : Reach} {b0 : Nat} {v : Value} {d : DataW H} {p : List MemPlace} {tys : List TypeId} {ds : List (DataW H)} {j : Nat}
    (hv : Value.okWide Tryz.prog w r b0 36 v) (h : DataW.Trod enc Tryz.prog w 0 (fun _ => true) true 36 v d p)
    (hsz : (DataW.weightsEach Tryz.prog tys ds).all (· ≤ reachBytes) = true) (ht : tys[j]? = some 36) (hd : ds[j]? = some d) :
    ∃ (l : List P) (a : Option Addr) (c : Nat), v = .slice a l.length c ∧ Lp w (.slice a l.length c) l := by
  obtain ⟨m, hm⟩ := h
  have hw : ∀ n ∈ d.weights Tryz.prog 36, n ≤ reachBytes := fun n hn => by
    have := List.all_eq_true.1 hsz n (DataW.weights_mem_each ht hd n hn)
    exact of_decide_eq_true this
  have hv2 : v.cells.toList = [v] := by
    obtain ⟨a, n, c, rfl⟩ : ∃ a n c, v = .slice a n c := Go.WideShapes.okWide_slice Tryz.underlying36 hv
    rfl
  rw [hv2] at hm
  obtain ⟨l, a, c, rfl, h1, h2, h3⟩ := Pr_cell hm hw
  exact ⟨l, a, c, rfl, h2, h3⟩
end
end Go.Proofs.YtlmpdidecdkncaaGreatDoor
end
section
namespace Go.Proofs.YtlmpdidecdkncaaGreatDoor
open Go.ChangeShapes Go.WideShapes Go.ChangeAt Go.RowKit Go.Joins Go.Deep
set_option linter.unusedVariables false
set_option linter.unusedSimpArgs false
set_option maxRecDepth 100000

theorem cellsCase : Tryz.prog.cellsOf 41 = 14 := by kernel_rfl
theorem cellsPs : Tryz.prog.cellsOf 36 = 1 := by kernel_rfl
theorem cellsFa : Tryz.prog.cellsOf 39 = 2 := by kernel_rfl
section
variable {H : Type} {enc : TypeId × Value → H} {w : World}
theorem rule_cellsT {held : Bool} {m : Nat} {cs : List Value} {x : DataW H × List MemPlace} (hl : cs.length = 3) (h : DataW.trod enc Tryz.prog w 0 (fun _ => true) held m 25 cs = some x) (hw : ∀ n ∈ x.1.weights Tryz.prog 25, n ≤ reachBytes) :
    ∃ (y : R3) (q : RP), cs = [.string y.pr, .slice q.a y.hd.length q.c, .slice q.ba y.bd.length q.bc] ∧ RIs w m y q := by
  obtain ⟨xs, k, rfl, rfl, _, hxl, hf⟩ := DataW.trod_struct Tryz.underlying25 h
  match xs, hxl, cs, hl with
  | [y0, y1, y2], _, [v0, v1, v2], _ =>
    have g0 := hf 0 _ rfl
    have g1 := hf 1 _ rfl
    have g2 := hf 2 _ rfl
    simp [cellsKS, cellsRA, cellsRL] at g0 g1 g2
    obtain ⟨s, e0, _, hs⟩ := DataW.trod_string Tryz.underlying9 g0
    simp at e0
    subst e0
    obtain ⟨l1, a1, c1, rfl, h1, h2, h3⟩ := Ag_cell g1 (fun n hn => hw n (by
      simp only [DataW.weights, Tryz.underlying25]
      exact DataW.weights_mem_each (j := 1) (d := y1.1) rfl rfl n hn))
    obtain ⟨l2, a2, c2, rfl, h4, h5, h6⟩ := Lt_cell g2 (fun n hn => hw n (by
      simp only [DataW.weights, Tryz.underlying25]
      exact DataW.weights_mem_each (j := 2) (d := y2.1) rfl rfl n hn))
    exact ⟨⟨s, l1, l2⟩, ⟨a1, c1, a2, c2⟩, rfl, ⟨hs, h1, h4, ⟨h2, h3⟩, ⟨h5, fun y hy => (h6 y hy).more⟩⟩⟩
theorem atom_bulkc {held : Bool} {m : Nat} {pr : ByteArray} {n : Nat} {a : Option Addr} {c : Nat} {x : DataW H × List MemPlace} (hm : DataW.trod enc Tryz.prog w 0 (fun _ => true) true m 35 [.string pr, .slice a n c] = some x) : n ≤ Rows.uptoBulk x.1 := by
  obtain ⟨xs, k, rfl, hx, _, hxl, hf⟩ := DataW.trod_struct Tryz.underlying35 hm
  match xs, hxl with
  | [y0, y1], _ =>
    have g1 := hf 1 _ rfl
    simp [cellsKS, cellsAT] at g1
    have h1 := slice_bulk Tryz.underlying33 g1
    rw [hx]
    simp only [Rows.uptoBulk, List.map_cons, List.map_nil, Rows.uptoBulkAll]
    omega
/-- two rules, two atoms, two lists of pairs and a fact that came in: what TermTwice reads of them -/
theorem open_case {r : Reach} {b0 : Nat} {v : Value} {d : DataW H} {p : List MemPlace} {tys : List TypeId} {ds : List (DataW H)} {j : Nat}
    (hv : Value.okWide Tryz.prog w r b0 41 v) (h : DataW.Trod enc Tryz.prog w 0 (fun _ => true) true 41 v d p)
    (hsz : (DataW.weightsEach Tryz.prog tys ds).all (· ≤ reachBytes) = true) (ht : tys[j]? = some 41) (hd : ds[j]? = some d) (hB : Rows.uptoBulk d ≤ 1048576) :
    ∃ (n : Nat) (r : R3) (p : RP) (o1 o2 o3 : Value) (pr : ByteArray) (va : Option Addr) (vc : Nat) (ts : List T) (o4 o5 : Value) (sa : Option Addr) (sc : Nat) (s : List P) (ta : Option Addr) (tc : Nat) (t : List P) (o6 o7 : Value),
      v = .agg #[.string r.pr, .slice p.a r.hd.length p.c, .slice p.ba r.bd.length p.bc, o1, o2, o3, .string pr, .slice va ts.length vc, o4, o5, .slice sa s.length sc, .slice ta t.length tc, o6, o7] ∧
      RIs w n r p ∧ Lt w (.slice va ts.length vc) ts ∧ ts.length ≤ 1048576 ∧ Lp w (.slice sa s.length sc) s ∧ Lp w (.slice ta t.length tc) t ∧ s.length + t.length ≤ 1048576 := by
  obtain ⟨cs, rfl, hcs⟩ := okWide_struct Tryz.underlying41 hv
  obtain ⟨m, hm⟩ := h
  rw [cellsCase] at hcs
  have hw : ∀ n ∈ d.weights Tryz.prog 41, n ≤ reachBytes := fun n hn => by
    have := List.all_eq_true.1 hsz n (DataW.weights_mem_each ht hd n hn)
    exact of_decide_eq_true this
  have hl14 : cs.toList.length = 14 := by simpa [Value.cells] using hcs
  have hm' : DataW.trod enc Tryz.prog w 0 (fun _ => true) true m 41 cs.toList = some (d, p) := hm
  obtain ⟨xs, k, rfl, hx, _, hxl, hf⟩ := DataW.trod_struct Tryz.underlying41 hm'
  obtain ⟨cl, hcl⟩ : ∃ cl, cs.toList = cl := ⟨_, rfl⟩
  rw [hcl] at hl14 hf
  match xs, hxl, cl, hl14 with
  | [y0, y1, y2, y3, y4, y5, y6], _, [v0, v1, v2, v3, v4, v5, v6, v7, v8, v9, v10, v11, v12, v13], _ =>
    have g0 := hf 0 _ rfl
    have g2 := hf 2 _ rfl
    have g4 := hf 4 _ rfl
    have g5 := hf 5 _ rfl
    simp [cellsRu, cellsA, cellsPs, cellsFa] at g0 g2 g4 g5
    have hd2 := (Prod.mk.inj hx).1
    rw [hd2] at hw hB
    have wt : ∀ (i : Nat) (ty : TypeId) (y : DataW H), ([25, 25, 35, 35, 36, 36, 39] : List TypeId)[i]? = some ty → ([y0.1, y1.1, y2.1, y3.1, y4.1, y5.1, y6.1] : List (DataW H))[i]? = some y → ∀ n ∈ y.weights Tryz.prog ty, n ≤ reachBytes := fun i ty y h1 h2 n hn => hw n (by
      simp only [DataW.weights, Tryz.underlying41]
      exact DataW.weights_mem_each (j := i) (d := y) h1 h2 n hn)
    simp only [Rows.uptoBulk, Rows.uptoBulkAll, List.map_cons, List.map_nil] at hB
    obtain ⟨r, p1, e0, h0⟩ := rule_cellsT rfl g0 (wt 0 _ _ rfl rfl)
    obtain ⟨pa, ta, aa, ca, e2, _, _, h2⟩ := atom_cells rfl g2 (wt 2 _ _ rfl rfl)
    obtain ⟨s, sa, sc, rfl, _, h4, h4w⟩ := Pr_cell g4 (wt 4 _ _ rfl rfl)
    obtain ⟨t, tta, ttc, rfl, _, h5, h5w⟩ := Pr_cell g5 (wt 5 _ _ rfl rfl)
    have k4 := slice_bulk Tryz.underlying36 g4
    have k5 := slice_bulk Tryz.underlying36 g5
    simp at e0 e2
    obtain ⟨rfl, rfl, rfl⟩ := e0
    obtain ⟨rfl, rfl⟩ := e2
    have k2 := atom_bulkc (held := true) g2
    refine ⟨k, r, p1, v3, v4, v5, pa, aa, ca, ta, v8, v9, sa, sc, s, tta, ttc, t, v12, v13, ?_, h0, h2, by omega, ⟨h4, h4w⟩, ⟨h5, h5w⟩, by omega⟩
    congr 1
    exact Array.toList_inj.1 hcl
end
end Go.Proofs.YtlmpdidecdkncaaGreatDoor
end
