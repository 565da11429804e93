import Derived.Test.YthdcgikhcghigaaSymOpen
import Derived.Test.YthdcgikhcghigaaSpRows
import Derived.Deep.CondSized
namespace Go.Proofs.Ythdcgikhcghigaa
open Go.ChangeShapes Go.WideShapes Go.ChangeAt Go.RowKit Go.Joins Go.Deep
set_option linter.unusedVariables false
set_option linter.unusedSimpArgs false
set_option maxRecDepth 100000

theorem cellsKI : Try.prog.cellsOf 3 = 1 := by kernel_rfl
theorem cellsKL : Try.prog.cellsOf 40 = 1 := by kernel_rfl
theorem cellsKR : Try.prog.cellsOf 43 = 24 := by kernel_rfl
theorem cellsKY : Try.prog.cellsOf 41 = 1 := by kernel_rfl
theorem cellsKO : Try.prog.cellsOf 45 = 32 := by kernel_rfl
/-- one call of a script -/
structure Od where
  on : Int
  k : Int
  nn : Int
  mm : Int
  v : V
  a : Option Addr
  c : Nat
  us : List V
  r : List Int
def Od.cells (x : Od) : List Value := opL x.on x.k x.nn x.mm x.v (.slice x.a x.us.length x.c) x.r
structure Od.Ok (w : World) (x : Od) : Prop where
  row : Row24 x.r
  vw : x.v.wf
  lv : Lv w (.slice x.a x.us.length x.c) x.us
theorem Od.len {w : World} {x : Od} (h : x.Ok w) : x.cells.length = 32 := opL_len _ _ _ _ _ _ h.row.len
def flatO (l : List Od) : List Value := l.flatMap Od.cells
theorem flatO_len {w : World} : ∀ (l : List Od), (∀ x ∈ l, x.Ok w) → (flatO l).length = l.length * 32
  | [], _ => rfl
  | x :: l, h => by
    have h1 := Od.len (h x (by simp))
    have h2 := flatO_len l (fun y hy => h y (List.mem_cons_of_mem _ hy))
    simp only [flatO, List.flatMap_cons, List.length_append, List.length_cons] at h2 ⊢
    omega
theorem flatO_at {w : World} : ∀ (l : List Od), (∀ x ∈ l, x.Ok w) → ∀ (i j : Nat) (x : Od), l[i]? = some x → j < 32 → (flatO l)[i * 32 + j]? = x.cells[j]?
  | [], _, i, j, x, h, _ => by simp at h
  | y :: l, hok, 0, j, x, h, hj => by
    simp only [List.getElem?_cons_zero, Option.some.injEq] at h
    subst h
    have hl := Od.len (hok y (by simp))
    simp only [flatO, List.flatMap_cons, Nat.zero_mul, Nat.zero_add]
    rw [List.getElem?_append_left (by omega)]
  | y :: l, hok, i + 1, j, x, h, hj => by
    simp only [List.getElem?_cons_succ] at h
    have hl := Od.len (hok y (by simp))
    have ih := flatO_at l (fun z hz => hok z (List.mem_cons_of_mem _ hz)) i j x h hj
    simp only [flatO, List.flatMap_cons] at ih ⊢
    rw [List.getElem?_append_right (by omega), hl, show (i + 1) * 32 + j - 32 = i * 32 + j by omega]
    exact ih
/-- a script that came in -/
def LoC (w : World) (v : Value) (l : List Od) : Prop := (∀ x ∈ l, x.Ok w) ∧ ∃ a c, v = .slice a l.length c ∧ (0 < l.length → ∃ b off, a = some ⟨b, off, none⟩ ∧ b < w.heap.size ∧ ∀ j u, (flatO l)[j]? = some u → w.cell? ⟨b, off + j, none⟩ = some u)
theorem bulk_mem {H : Type} {d : DataW H} : ∀ {l : List (DataW H)}, d ∈ l → Rows.uptoBulk d ≤ Rows.uptoBulkAll l
  | x :: r, h => by
    rcases List.mem_cons.1 h with rfl | h
    · exact bulk_head _ _
    · exact Nat.le_trans (bulk_mem h) (bulk_tail _ _)
section
variable {H : Type} {enc : TypeId × Value → H} {w : World}
/-- a row's 24 cells -/
theorem row_cells {base : Nat} {spare : Nat → Bool} {held : Bool} {n : Nat} {cs : List Value} {y : DataW H × List MemPlace} (hl : cs.length = 24) (h : DataW.trod enc Try.prog w base spare held n 43 cs = some y) :
    ∃ r : List Int, Row24 r ∧ cs = r.map cellI := by
  obtain ⟨xs, k, hk, hxy, _, hxl, hf⟩ := DataW.trod_array Try.underlying43 h
  have hall : ∀ v ∈ cs, ∃ a : Int, v = cellI a ∧ (Lit.int .i32 a).wf = true := by
    intro v hv
    obtain ⟨i, hi, rfl⟩ := List.getElem_of_mem hv
    have g := hf i (by omega)
    rw [cellsKY, List.getElem?_eq_getElem (by omega)] at g
    obtain ⟨a, e, _, hw⟩ := DataW.trod_int Try.underlying41 g
    refine ⟨a, ?_, hw⟩
    have e0 := congrArg (fun l => l[0]?) e
    simp [List.getElem?_take, List.getElem?_drop, List.getElem?_eq_getElem hi] at e0
    exact e0
  have hex : ∀ l : List Value, (∀ v ∈ l, ∃ a : Int, v = cellI a ∧ (Lit.int .i32 a).wf = true) → ∃ r : List Int, l = r.map cellI ∧ ∀ x ∈ r, (Lit.int .i32 x).wf = true := by
    intro l
    induction l with
    | nil => intro _; exact ⟨[], rfl, fun _ h => by simp at h⟩
    | cons v l ih =>
      intro hl
      obtain ⟨a, rfl, ha⟩ := hl v (by simp)
      obtain ⟨r, rfl, hr⟩ := ih (fun x hx => hl x (by simp [hx]))
      exact ⟨a :: r, rfl, fun x hx => by
        rcases List.mem_cons.1 hx with rfl | hx
        · exact ha
        · exact hr x hx⟩
  obtain ⟨r, rfl, hr⟩ := hex cs hall
  refine ⟨r, ⟨by simpa using hl, fun x hx => ?_⟩, rfl⟩
  have h1 : IntKind.i32.min ≤ x ∧ x ≤ IntKind.i32.max := by simpa [Lit.wf] using hr x hx
  have e1 : IntKind.i32.min = -2147483648 := by decide
  have e2 : IntKind.i32.max = 2147483647 := by decide
  rw [e1, e2] at h1
  exact h1
theorem op_cells {held : Bool} {n : Nat} {cs : List Value} {y : DataW H × List MemPlace} (hl : cs.length = 32) (h : DataW.trod enc Try.prog w 0 (fun _ => true) held n 45 cs = some y) :
    ∃ x : Od, x.Ok w ∧ cs = x.cells ∧ x.us.length ≤ Rows.uptoBulk y.1 := by
  obtain ⟨xs, k, hk, hxy, _, hxl, hf⟩ := DataW.trod_struct Try.underlying45 h
  match xs, hxl, cs, hl with
  | [y0, y1, y2, y3, y4, y5, y6], _, v0 :: v1 :: v2 :: v3 :: v4 :: v5 :: v6 :: v7 :: rest, hl =>
    have hrest : rest.length = 24 := by simpa using hl
    have g0 := hf 0 _ rfl
    have g1 := hf 1 _ rfl
    have g2 := hf 2 _ rfl
    have g3 := hf 3 _ rfl
    have g4 := hf 4 _ rfl
    have g5 := hf 5 _ rfl
    have g6 := hf 6 _ rfl
    simp [cellsKI, cellsKV, cellsKL, cellsKR, List.take_of_length_le (Nat.le_of_eq hrest)] at g0 g1 g2 g3 g4 g5 g6
    obtain ⟨a0, e0, _, _⟩ := DataW.trod_int Try.underlying3 g0
    obtain ⟨a1, e1, _, _⟩ := DataW.trod_int Try.underlying3 g1
    obtain ⟨a2, e2, _, _⟩ := DataW.trod_int Try.underlying3 g2
    obtain ⟨a3, e3, _, _⟩ := DataW.trod_int Try.underlying3 g3
    obtain ⟨u, e4, hu⟩ := value_cells rfl g4
    obtain ⟨a, us, c, e5, hL, hx⟩ := open_values g5
    obtain ⟨r, hr, e6⟩ := row_cells hrest g6
    simp at e0 e1 e2 e3 e4 e5
    obtain ⟨rfl, rfl, rfl⟩ := e4
    subst e0 e1 e2 e3 e5 e6
    refine ⟨⟨a0, a1, a2, a3, u, a, c, us, r⟩, ⟨hr, hu, hL⟩, rfl, ?_⟩
    have hb : us.length ≤ Rows.uptoBulk y5.1 := by
      rcases hx with ⟨_, h0⟩ | ⟨elems, sp, he, hl'⟩
      · omega
      · rw [he]
        have := bulk_length elems
        simp only [Rows.uptoBulk]
        omega
    rw [hxy]
    simp only [List.map_cons, List.map_nil, Rows.uptoBulk, Rows.uptoBulkAll]
    omega
theorem open_ops {held : Bool} {fuel : Nat} {cs : List Value} {x : DataW H × List MemPlace} (h : DataW.trod enc Try.prog w 0 (fun _ => true) held fuel 22 cs = some x) :
    ∃ (a : Option Addr) (ts : List Od) (c : Nat), cs = [.slice a ts.length c] ∧ LoC w (.slice a ts.length c) ts ∧ ts.length ≤ Rows.uptoBulk x.1 ∧ ∀ t ∈ ts, t.us.length ≤ Rows.uptoBulk x.1 := by
  rcases open_slice Try.underlying22 h with ⟨hcs, hx⟩ | ⟨a, len, cap, m, nn, D, Pl, hcs, hb, hl, hm, hmm, hx, hel⟩
  · exact ⟨none, [], 0, hcs, ⟨by simp, none, 0, rfl, fun hi => absurd hi (by simp)⟩, Nat.zero_le _, by simp⟩
  · have hfin : ∃ sp, x.1 = .slice ((List.range len).map D) sp := ⟨_, by rw [hx]⟩
    obtain ⟨sp, hfin⟩ := hfin
    by_cases h0 : len = 0
    · subst h0
      exact ⟨some a, [], cap, hcs, ⟨by simp, some a, cap, rfl, fun hi => absurd hi (by simp)⟩, Nat.zero_le _, by simp⟩
    · have hlm : len ≤ m := by rw [hmm]; simpa using hl
      have each : ∀ i, i < len → ∃ u : Od, u.Ok w ∧ (∀ j v, u.cells[j]? = some v → w.cell? (a.add (i * 32 + j)) = some v) ∧ u.us.length ≤ Rows.uptoBulk (D i) := by
        intro i hi
        obtain ⟨cs', h1, h2⟩ := hel i (by omega)
        rw [cellsKO] at h1
        obtain ⟨_, hlen, hcell⟩ := World.cells?_some h1
        obtain ⟨u, hu, rfl, hul⟩ := op_cells hlen h2
        refine ⟨u, hu, fun j v hv => ?_, hul⟩
        obtain ⟨hj, e⟩ := List.getElem?_eq_some_iff.1 hv
        have := hcell j (by omega)
        rw [add_add] at this
        exact this.trans hv
      haveI : Inhabited Od := ⟨⟨0, 0, 0, 0, V0, none, 0, [], []⟩⟩
      obtain ⟨q, hq⟩ := choose_lt each
      obtain ⟨b, off, spot⟩ := a
      have hc0 := (hq 0 (by omega)).2.1 0 _ (by rw [Od.cells, opL]; rfl)
      have hspot : spot = none := by simpa [Addr.add] using World.cell?_spot hc0
      subst hspot
      have plain : ∀ k, (⟨b, off, none⟩ : Addr).add k = ⟨b, off + k, none⟩ := fun k => add_plain b off k
      have hul : ((List.range len).map q).length = len := by simp
      have hok : ∀ u ∈ (List.range len).map q, u.Ok w := by
        intro u hu
        obtain ⟨i, hi, rfl⟩ := List.mem_map.1 hu
        exact (hq i (by simpa using hi)).1
      have hbl := bulk_length ((List.range len).map D)
      refine ⟨some ⟨b, off, none⟩, (List.range len).map q, cap, by rw [hul]; exact hcs, ⟨hok, some ⟨b, off, none⟩, cap, rfl, fun _ => ⟨b, off, rfl, World.block_lt_of_cell? _ _ (by rw [plain] at hc0; exact hc0), fun j v hv => ?_⟩⟩, ?_, fun t ht => ?_⟩
      · have hj := (List.getElem?_eq_some_iff.1 hv).1
        rw [flatO_len _ hok, hul] at hj
        have hd : j / 32 < len := Nat.div_lt_of_lt_mul (by omega)
        have hjm : j / 32 * 32 + j % 32 = j := by omega
        have hx : ((List.range len).map q)[j / 32]? = some (q (j / 32)) := by
          rw [List.getElem?_map, List.getElem?_range hd]
          rfl
        have hat := flatO_at _ hok (j / 32) (j % 32) _ hx (Nat.mod_lt _ (by omega))
        rw [hjm, hv] at hat
        have := (hq (j / 32) hd).2.1 (j % 32) v hat.symm
        rw [plain, hjm] at this
        exact this
      · rw [hul, hfin]
        simp only [List.length_map, List.length_range] at hbl
        simp only [Rows.uptoBulk]
        omega
      · obtain ⟨i, hi, rfl⟩ := List.mem_map.1 ht
        have h1 := (hq i (by simpa using hi)).2.2
        have h2 := bulk_mem (d := D i) (l := (List.range len).map D) (List.mem_map.2 ⟨i, hi, rfl⟩)
        rw [hfin]
        simp only [Rows.uptoBulk]
        omega
theorem open_opsL {r : Reach} {b0 : Nat} {v : Value} {d : DataW H} {p : List MemPlace} (hv : Value.okWide Try.prog w r b0 22 v) (h : DataW.Trod enc Try.prog w 0 (fun _ => true) true 22 v d p) :
    ∃ (a : Option Addr) (ts : List Od) (c : Nat), v = .slice a ts.length c ∧ LoC w (.slice a ts.length c) ts ∧ ts.length ≤ Rows.uptoBulk d ∧ ∀ t ∈ ts, t.us.length ≤ Rows.uptoBulk d := by
  obtain ⟨a, n, c, rfl⟩ := okWide_slice Try.underlying22 hv
  obtain ⟨m, hm⟩ := h
  obtain ⟨a', us, c', hcs, hl, h1, h2⟩ := open_ops hm
  have e : [Value.slice a n c] = [.slice a' us.length c'] := hcs
  cases e
  exact ⟨a, us, c, rfl, hl, h1, h2⟩
end
/-- what is read of the i-th call of a script -/
theorem LoC.loads {w : World} {a : Option Addr} {c : Nat} {l : List Od} (h : LoC w (.slice a l.length c) l) {i : Nat} {x : Od} (hx : l[i]? = some x) : ∃ b off, a = some ⟨b, off, none⟩ ∧ b < w.heap.size ∧ x.Ok w ∧ ∀ u, u.heap[b]? = w.heap[b]? → u.cell? ⟨b, off + i * 32, none⟩ = some (.int .i64 x.on) ∧ (loadVar 45 ⟨b, off + i * 32, none⟩).run Try.prog u = .ok (.agg x.cells.toArray) u := by
  obtain ⟨hok, a', c', e, hb⟩ := h
  have hi := (List.getElem?_eq_some_iff.1 hx).1
  obtain ⟨b, off, e2, hbl, hc⟩ := hb (by omega)
  cases e
  have hxo := hok x (List.mem_of_getElem? hx)
  refine ⟨b, off, e2, hbl, hxo, fun u hu => ?_⟩
  have cell : ∀ j v, j < 32 → x.cells[j]? = some v → u.cell? ⟨b, off + i * 32 + j, none⟩ = some v := fun j v hj hv => by
    have h1 := flatO_at l hok i j x hx hj
    rw [hv] at h1
    have h2 := hc (i * 32 + j) v h1
    rw [show off + i * 32 + j = off + (i * 32 + j) by omega]
    exact (World.cell?_of_block (w := w) hu).trans h2
  refine ⟨cell 0 _ (by omega) (by simp [Od.cells, opL]), ?_⟩
  refine run_loadVar_mid u b (off + i * 32) 45 x.cells _ (fun j v hv => ?_) Try.underlying45 rfl (by rw [Od.len hxo]; exact infoOp)
  have hj := (List.getElem?_eq_some_iff.1 hv).1
  rw [Od.len hxo] at hj
  exact cell j v hj hv
end Go.Proofs.Ythdcgikhcghigaa
