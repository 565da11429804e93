import Derived.Test.YtaeneiekjaoakaaGreatDoorPrintReg
namespace Go.Proofs.YtaeneiekjaoakaaGreatDoor
open Go.RowKit Go.Maps
set_option linter.unusedVariables false
set_option linter.unusedSimpArgs false

/-- values written into a block, one behind the other from cell j on -/
def putL : World → Nat → Nat → List Value → World
  | w, _, _, [] => w
  | w, b, j, v :: l => putL (w.setCell ⟨b, j, none⟩ v) b (j + 1) l
theorem putL_size : ∀ (l : List Value) (w : World) (b j : Nat), (putL w b j l).heap.size = w.heap.size
  | [], _, _, _ => rfl
  | v :: l, w, b, j => by
    unfold putL
    rw [putL_size l]
    simp
theorem putL_other {b k : Nat} (h : k ≠ b) : ∀ (l : List Value) (w : World) (j : Nat), (putL w b j l).heap[k]? = w.heap[k]?
  | [], _, _ => rfl
  | v :: l, w, j => by
    unfold putL
    rw [putL_other h l]
    exact heap_setCell_other _ _ _ _ h
theorem putL_below {B b : Nat} (hb : B ≤ b) {x : World} : ∀ (l : List Value) (w : World) (j : Nat), Below B x w → Below B x (putL w b j l)
  | [], _, _, h => h
  | v :: l, w, j, h => by
    unfold putL
    exact putL_below hb l _ _ (h.setCell (p := ⟨b, j, none⟩) hb _)
theorem putL_rl {b : Nat} {t : TypeId} : ∀ (l z p : List Value) (w : World), z.length = l.length → RL w b t (p ++ z) → RL (putL w b p.length l) b t (p ++ l)
  | [], z, p, w, hz, h => by
    obtain rfl : z = [] := List.length_eq_zero_iff.1 hz
    exact h
  | v :: l, [], p, w, hz, h => by simp at hz
  | v :: l, z0 :: z, p, w, hz, h => by
    unfold putL
    have h1 := h.set p.length v
    have e : (p ++ z0 :: z).set p.length v = (p ++ [v]) ++ z := by simp
    rw [e] at h1
    have h2 := putL_rl l z (p ++ [v]) _ (by simpa using hz) h1
    have e2 : (p ++ [v]).length = p.length + 1 := by simp
    rw [e2] at h2
    have e3 : p ++ v :: l = (p ++ [v]) ++ l := by simp
    rw [e3]
    exact h2
def cellsV : Value → List Value
  | .agg c => c.toList
  | _ => []
theorem putL_all {w : World} {b : Nat} {t : TypeId} {z l : List Value} (h : RL w b t z) (hz : z.length = l.length) : RL (putL w b 0 l) b t l := by
  have := putL_rl l z [] w hz h
  exact this
/-- what a store of values into a block leaves -/
theorem store_done {w : World} {b : Nat} {t : TypeId} {z l : List Value} (h : RL w b t z) (hz : z.length = l.length) :
    w.heap.size = (putL w b 0 l).heap.size ∧ (∀ k, k ≠ b → (putL w b 0 l).heap[k]? = w.heap[k]?) ∧ RL (putL w b 0 l) b t l ∧ ∀ B, B ≤ b → ∀ x, Below B x w → Below B x (putL w b 0 l) :=
  ⟨(putL_size l w b 0).symm, fun k hk => putL_other hk l w 0, putL_all h hz, fun B hB x hx => putL_below hB l w 0 hx⟩
def zA : List Value := [.string ⟨#[]⟩, .slice none 0 0]
def zL : List Value := [.int .i8 0, .string ⟨#[]⟩, .slice none 0 0, .int .i8 0, .int .i8 0, .string ⟨#[]⟩, .int .i8 0, .int .i64 0, .string ⟨#[]⟩, .slice none 0 0, .int .i8 0, .string ⟨#[]⟩, .int .i8 0, .int .i64 0, .string ⟨#[]⟩, .slice none 0 0]
theorem run_alloc_atom (ev : Operand → Value) (o : Oper) (w : World) (hop : o.op = .alloc 24) : (execOp ev o).run Tryz.prog w = .ok (.value (ptr w.heap.size)) (w.alloc (.cells #[.string ⟨#[]⟩, .slice none 0 0] 24)) := by
  unfold ptr
  simp only [execOp, hop]
  go_simp
theorem run_alloc_lit (ev : Operand → Value) (o : Oper) (w : World) (hop : o.op = .alloc 38) : (execOp ev o).run Tryz.prog w = .ok (.value (ptr w.heap.size)) (w.alloc (.cells #[.int .i8 0, .string ⟨#[]⟩, .slice none 0 0, .int .i8 0, .int .i8 0, .string ⟨#[]⟩, .int .i8 0, .int .i64 0, .string ⟨#[]⟩, .slice none 0 0, .int .i8 0, .string ⟨#[]⟩, .int .i8 0, .int .i64 0, .string ⟨#[]⟩, .slice none 0 0] 38)) := by
  unfold ptr
  simp only [execOp, hop]
  go_simp
theorem run_load_atom (ev : Operand → Value) (o : Oper) {x : Operand} (w : World) (hop : o.op = .load 24 x) {b n c : Nat} {a : Option Addr} {s : ByteArray} (hx : ev x = ptr b) (h : RL w b 24 [.string s, .slice a n c]) :
    (execOp ev o).run Tryz.prog w = .ok (.value (.agg #[.string s, .slice a n c])) w := by
  have c0 := h.at (j := 0) rfl
  have c1 := h.at (j := 1) rfl
  unfold ptr at hx
  simp only [execOp, hop, hx]
  go_simp
theorem run_load_lit (ev : Operand → Value) (o : Oper) {y : Operand} (w : World) (hop : o.op = .load 38 y) {b : Nat} {x : Lit4} {p : LP} (hx : ev y = ptr b) (h : RL w b 38 (cellsV (x.val p))) :
    (execOp ev o).run Tryz.prog w = .ok (.value (x.val p)) w := by
  have c0 := h.at (j := 0) rfl
  have c1 := h.at (j := 1) rfl
  have c2 := h.at (j := 2) rfl
  have c3 := h.at (j := 3) rfl
  have c4 := h.at (j := 4) rfl
  have c5 := h.at (j := 5) rfl
  have c6 := h.at (j := 6) rfl
  have c7 := h.at (j := 7) rfl
  have c8 := h.at (j := 8) rfl
  have c9 := h.at (j := 9) rfl
  have c10 := h.at (j := 10) rfl
  have c11 := h.at (j := 11) rfl
  have c12 := h.at (j := 12) rfl
  have c13 := h.at (j := 13) rfl
  have c14 := h.at (j := 14) rfl
  have c15 := h.at (j := 15) rfl
  unfold ptr at hx
  unfold Lit4.val
  simp only [execOp, hop, hx]
  go_simp
theorem run_store_atom (ev : Operand → Value) (o : Oper) {x y : Operand} (w : World) (hop : o.op = .store 24 x y) {b n c : Nat} {a : Option Addr} {s : ByteArray} (hx : ev x = ptr b) (hy : ev y = .agg #[.string s, .slice a n c]) (h : RL w b 24 zA) :
    (execOp ev o).run Tryz.prog w = .ok .skip (putL w b 0 [.string s, .slice a n c]) := by
  have c0 := h.at (j := 0) rfl
  have c1 := h.at (j := 1) rfl
  have f0 := World.rowIs.frozen h 0
  have f1 := World.rowIs.frozen h 1
  unfold ptr at hx
  unfold putL putL putL
  simp only [execOp, hop, hx, hy]
  go_simp
set_option maxHeartbeats 1600000 in
theorem run_store_lit (ev : Operand → Value) (o : Oper) {z y : Operand} (w : World) (hop : o.op = .store 38 z y) {b : Nat} {x : Lit4} {p : LP} (hx : ev z = ptr b) (hy : ev y = x.val p) (h : RL w b 38 zL) :
    (execOp ev o).run Tryz.prog w = .ok .skip (putL w b 0 (cellsV (x.val p))) := by
  have c0 := h.at (j := 0) rfl
  have c1 := h.at (j := 1) rfl
  have c2 := h.at (j := 2) rfl
  have c3 := h.at (j := 3) rfl
  have c4 := h.at (j := 4) rfl
  have c5 := h.at (j := 5) rfl
  have c6 := h.at (j := 6) rfl
  have c7 := h.at (j := 7) rfl
  have c8 := h.at (j := 8) rfl
  have c9 := h.at (j := 9) rfl
  have c10 := h.at (j := 10) rfl
  have c11 := h.at (j := 11) rfl
  have c12 := h.at (j := 12) rfl
  have c13 := h.at (j := 13) rfl
  have c14 := h.at (j := 14) rfl
  have c15 := h.at (j := 15) rfl
  have f0 := World.rowIs.frozen h 0
  have f1 := World.rowIs.frozen h 1
  have f2 := World.rowIs.frozen h 2
  have f3 := World.rowIs.frozen h 3
  have f4 := World.rowIs.frozen h 4
  have f5 := World.rowIs.frozen h 5
  have f6 := World.rowIs.frozen h 6
  have f7 := World.rowIs.frozen h 7
  have f8 := World.rowIs.frozen h 8
  have f9 := World.rowIs.frozen h 9
  have f10 := World.rowIs.frozen h 10
  have f11 := World.rowIs.frozen h 11
  have f12 := World.rowIs.frozen h 12
  have f13 := World.rowIs.frozen h 13
  have f14 := World.rowIs.frozen h 14
  have f15 := World.rowIs.frozen h 15
  unfold ptr at hx
  unfold Lit4.val at hy ⊢
  simp only [cellsV, putL]
  simp only [execOp, hop, hx, hy]
  go_simp
/-- a copy of an atom; of a literal -/
def RAt (pr : ByteArray) (ts : List T) (v : Value) (w : World) (lo : Nat) : Prop := ∃ a, v = .agg #[.string pr, .slice a ts.length (ts.length + 1)] ∧ TwT w lo ts a (ts.length + 1)
def RLt (d : Nat) (x : Lit4) (v : Value) (w : World) (lo : Nat) : Prop := ∃ p, v = x.val p ∧ TwL w lo d x p
theorem TwT.of {w w' : World} {lo : Nat} (hs : w.heap.size ≤ w'.heap.size) (hh : ∀ k, lo ≤ k → k < w.heap.size → w'.heap[k]? = w.heap[k]?) {ts : List T} {a : Option Addr} {c : Nat} (h : TwT w lo ts a c) : TwT w' lo ts a c := by
  obtain ⟨h1, g, h2, h3, h4, h5, h6⟩ := h
  exact ⟨h1, g, h2, h3, Nat.lt_of_lt_of_le h4 hs, h5.of (hh g h3 h4), fun i hi => (h6 i hi).of (hh g h3 h4)⟩
theorem RAt.out {pr : ByteArray} {ts : List T} {lo0 : Nat} {v : Value} {u : World} {A : Nat → Prop} (h : Copy (RAt pr ts) lo0 v u A) : ∃ a, v = .agg #[.string pr, .slice a ts.length (ts.length + 1)] ∧ TwT u lo0 ts a (ts.length + 1) := by
  obtain ⟨w0, lo, ⟨a, e, ht⟩, h2, h3, h4, -⟩ := h
  exact ⟨a, e, (ht.of h3 h4).lower h2⟩
theorem RLt.out {d : Nat} {x : Lit4} {lo0 : Nat} {v : Value} {u : World} {A : Nat → Prop} (h : Copy (RLt d x) lo0 v u A) : ∃ p, v = x.val p ∧ TwL u lo0 d x p := by
  obtain ⟨w0, lo, ⟨p, e, ht⟩, h2, h3, h4, -⟩ := h
  exact ⟨p, e, (ht.ts.of h3 h4).lower h2, (ht.l.of h3 h4).lower h2, (ht.r.of h3 h4).lower h2⟩
theorem store_atom (pr : ByteArray) (ts : List T) (ev : Operand → Value) (o : Oper) (x y : Operand) (w' : World) (b : Nat) (v : Value) (w0 : World) (lo : Nat) (hop : o.op = .store 24 x y) (hx : ev x = ptr b) (hy : ev y = v) (hR : RAt pr ts v w0 lo) (h : RL w' b 24 zA) :
    ∃ w2, (execOp ev o).run Tryz.prog w' = .ok .skip w2 ∧ w'.heap.size = w2.heap.size ∧ (∀ k, k ≠ b → w2.heap[k]? = w'.heap[k]?) ∧ RL w2 b 24 (cellsV v) ∧ ∀ B, B ≤ b → ∀ x, Below B x w' → Below B x w2 := by
  obtain ⟨a, rfl, -⟩ := hR
  exact ⟨_, run_store_atom ev o w' hop hx hy h, store_done h rfl⟩
theorem store_lit (d : Nat) (x : Lit4) (ev : Operand → Value) (o : Oper) (z y : Operand) (w' : World) (b : Nat) (v : Value) (w0 : World) (lo : Nat) (hop : o.op = .store 38 z y) (hx : ev z = ptr b) (hy : ev y = v) (hR : RLt d x v w0 lo) (h : RL w' b 38 zL) :
    ∃ w2, (execOp ev o).run Tryz.prog w' = .ok .skip w2 ∧ w'.heap.size = w2.heap.size ∧ (∀ k, k ≠ b → w2.heap[k]? = w'.heap[k]?) ∧ RL w2 b 38 (cellsV v) ∧ ∀ B, B ≤ b → ∀ x, Below B x w' → Below B x w2 := by
  obtain ⟨p, rfl, -⟩ := hR
  exact ⟨_, run_store_lit ev o w' hop hx hy h, store_done h rfl⟩
theorem enter_twinAtom (u : Value) (w : World) : Sem.run Tryz.prog (callFunc 5 #[u]) w = .ok (.enter 5 #[u]) w := by
  go_simp
theorem enter_twinLiteral (u : Value) (w : World) : Sem.run Tryz.prog (callFunc 6 #[u]) w = .ok (.enter 6 #[u]) w := by
  go_simp
end Go.Proofs.YtaeneiekjaoakaaGreatDoor
