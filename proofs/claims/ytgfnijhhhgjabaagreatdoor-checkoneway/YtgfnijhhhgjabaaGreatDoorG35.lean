import Derived.Test.YtgfnijhhhgjabaaGreatDoorG33
import Derived.Test.YtgfnijhhhgjabaaGreatDoorG15
import Derived.Test.YtgfnijhhhgjabaaGreatDoorG34
section
namespace Go.Proofs.YtgfnijhhhgjabaaGreatDoor
open Go.RowKit Go.Maps
set_option linter.unusedVariables false
set_option linter.unusedSimpArgs false

theorem typ_of {ops : Array Oper} {i : Nat} {o : Oper} {ty : TypeId} (h : ops[i]?.map Oper.type = some ty) (ho : ops[i]? = some o) : o.type = ty := by
  rw [ho] at h
  exact Option.some.inj h
theorem run_appV (ev : Operand → Value) (o : Oper) {x y : Operand} {t ty : TypeId} (hop : o.op = .call { callee := .builtin .append, args := #[x, y], argTypes := #[t, t] }) (hty : o.type = ty) (w : World) {a b v : Value} {w' : World} (hx : ev x = a) (hy : ev y = b) (hr : (Builtin.append_ #[t, t] ty #[a, b]).run Tryz.prog w = .ok v w') : (execOp ev o).run Tryz.prog w = .ok (.value v) w' := by
  simp only [execOp, hop]
  simp [resolve, invoke, builtin, hx, hy, hty, hr, Result.andThen]
theorem run_ext0 (ev : Operand → Value) (o : Oper) {x : Operand} (hop : o.op = .extract x 0) (w : World) {a b : Value} (hx : ev x = .tuple #[a, b]) : (execOp ev o).run Tryz.prog w = .ok (.value a) w := by
  simp only [execOp, hop, hx]
  go_simp
theorem run_ext1 (ev : Operand → Value) (o : Oper) {x : Operand} (hop : o.op = .extract x 1) (w : World) {a b : Value} (hx : ev x = .tuple #[a, b]) : (execOp ev o).run Tryz.prog w = .ok (.value b) w := by
  simp only [execOp, hop, hx]
  go_simp
theorem run_fldLA (ev : Operand → Value) (o : Oper) {x : Operand} (hop : o.op = .fieldAddr 55 x 1) (w : World) {g o1 : Nat} (hx : ev x = .pointer (some ⟨g, o1, none⟩)) : (execOp ev o).run Tryz.prog w = .ok (.value (.pointer (some ⟨g, o1 + 1, none⟩))) w := by
  simp only [execOp, hop, hx]
  go_simp
theorem run_fldA0 (ev : Operand → Value) (o : Oper) {x : Operand} (hop : o.op = .fieldAddr 48 x 0) (w : World) {g o1 : Nat} (hx : ev x = .pointer (some ⟨g, o1, none⟩)) : (execOp ev o).run Tryz.prog w = .ok (.value (.pointer (some ⟨g, o1, none⟩))) w := by
  simp only [execOp, hop, hx]
  go_simp
theorem run_fldA1 (ev : Operand → Value) (o : Oper) {x : Operand} (hop : o.op = .fieldAddr 48 x 1) (w : World) {g o1 : Nat} (hx : ev x = .pointer (some ⟨g, o1, none⟩)) : (execOp ev o).run Tryz.prog w = .ok (.value (.pointer (some ⟨g, o1 + 1, none⟩))) w := by
  simp only [execOp, hop, hx]
  go_simp
theorem run_fldF0 (ev : Operand → Value) (o : Oper) {x : Operand} (hop : o.op = .fieldAddr 98 x 0) (w : World) {g o1 : Nat} (hx : ev x = .pointer (some ⟨g, o1, none⟩)) : (execOp ev o).run Tryz.prog w = .ok (.value (.pointer (some ⟨g, o1, none⟩))) w := by
  simp only [execOp, hop, hx]
  go_simp
theorem run_fldF1 (ev : Operand → Value) (o : Oper) {x : Operand} (hop : o.op = .fieldAddr 98 x 1) (w : World) {g o1 : Nat} (hx : ev x = .pointer (some ⟨g, o1, none⟩)) : (execOp ev o).run Tryz.prog w = .ok (.value (.pointer (some ⟨g, o1 + 1, none⟩))) w := by
  simp only [execOp, hop, hx]
  go_simp
theorem run_idxL (ev : Operand → Value) (o : Oper) {x y : Operand} (hop : o.op = .indexAddr 23 x y) (w : World) {g off n c k : Nat} (hx : ev x = .slice (some ⟨g, off, none⟩) n c) (hy : ev y = .int .i64 (k : Int)) (hk : k < n) : (execOp ev o).run Tryz.prog w = .ok (.value (.pointer (some ⟨g, off + k * 16, none⟩))) w := by
  have hk' : (k : Int) < (n : Int) := by omega
  have hk0 : (0 : Int) ≤ (k : Int) := by omega
  simp only [execOp, hop, hx, hy]
  go_simp
theorem run_idxF (ev : Operand → Value) (o : Oper) {x y : Operand} (hop : o.op = .indexAddr 95 x y) (w : World) {g off n c k : Nat} (hx : ev x = .slice (some ⟨g, off, none⟩) n c) (hy : ev y = .int .i64 (k : Int)) (hk : k < n) : (execOp ev o).run Tryz.prog w = .ok (.value (.pointer (some ⟨g, off + k * 2, none⟩))) w := by
  have hk' : (k : Int) < (n : Int) := by omega
  have hk0 : (0 : Int) ≤ (k : Int) := by omega
  simp only [execOp, hop, hx, hy]
  go_simp
theorem run_lenV (ev : Operand → Value) (o : Oper) {x : Operand} (hop : o.op = .call { callee := .builtin .len, args := #[x], argTypes := #[46] }) (w : World) {a : Option Addr} {n c : Nat} (hx : ev x = .slice a n c) : (execOp ev o).run Tryz.prog w = .ok (.value (.int .i64 (n : Int))) w := by
  simp only [execOp, hop]
  simp [resolve, invoke, builtin, hx, Builtin.lenOf, Result.andThen, go_sem]
theorem run_lenW (ev : Operand → Value) (o : Oper) {x : Operand} (hop : o.op = .call { callee := .builtin .len, args := #[x], argTypes := #[96] }) (w : World) {a : Option Addr} {n c : Nat} (hx : ev x = .slice a n c) : (execOp ev o).run Tryz.prog w = .ok (.value (.int .i64 (n : Int))) w := by
  simp only [execOp, hop]
  simp [resolve, invoke, builtin, hx, Builtin.lenOf, Result.andThen, go_sem]
theorem run_buildPd (ev : Operand → Value) (o : Oper) {x y : Operand} (hop : o.op = .build 129 #[(0, x), (1, y)]) (w : World) {pr : ByteArray} {n : Int} (hx : ev x = .string pr) (hy : ev y = .int .i64 n) : (execOp ev o).run Tryz.prog w = .ok (.value (.agg #[.string pr, .int .i64 n])) w := by
  simp only [execOp, hop]
  simp only [List.map_toArray, List.map_cons, List.map_nil, Array.map, hx, hy]
  go_simp
theorem run_bsPd {b : Nat} (ev : Operand → Value) (o : Oper) {x : Operand} (hop : o.op = .buildSlice 100 1 #[(0, x)]) (w : World) {pr : ByteArray} {n : Int} (hx : ev x = .agg #[.string pr, .int .i64 n]) (hb : w.heap.size = b) : (execOp ev o).run Tryz.prog w = .ok (.value (.slice (some ⟨b, 0, none⟩) 1 1)) (w.alloc (.cells #[.string pr, .int .i64 n] 129)) := by
  subst hb
  simp only [execOp, hop, hx]
  go_simp
end Go.Proofs.YtgfnijhhhgjabaaGreatDoor
end
section
namespace Go.Proofs.YtgfnijhhhgjabaaGreatDoor
open Go.RowKit Go.Maps
set_option linter.unusedVariables false
set_option linter.unusedSimpArgs false
attribute [local go_sem ↓] Go.wp_at_zero Go.wp_at_succ

theorem rl_resP {fn : Func} {sl s2 : Nat} {ty : TypeId} (hr : fn.results = #[.cell sl ty, .tmp s2]) {W : World} {tmps : Array Value} {b : Nat} {v u : Value} (h2 : tmps.getD sl undef = .pointer (some ⟨b, 0, none⟩)) (hl : (loadVar ty ⟨b, 0, none⟩).run Tryz.prog W = .ok v W) (h3 : tmps.getD s2 undef = u) :
    (results fn tmps).run Tryz.prog W = .ok (.tuple #[v, u]) W := by
  have e0 : results fn tmps = (do
      let x ← asAddr (tmps.getD sl undef)
      let y ← loadVar ty x
      pure (.tuple #[y, tmps.getD s2 undef])) := by
    simp [results, hr]
  rw [e0, h2, h3]
  simp [asAddr, hl, Result.andThen]
theorem pd_form {w : World} {v : Value} {l : List Pd} (h : Ls w v l.length (l.flatMap Pd.cells)) : ∃ a c, v = .slice a l.length c ∧ l.length ≤ c ∧ c ≤ maxLen ∧ (0 < l.length → ∃ g off, a = some ⟨g, off, none⟩ ∧ g < w.heap.size ∧ ∀ i, i < l.length → w.cell? ⟨g, off + i * 2, none⟩ = some (.string (atPd l i).n) ∧ w.cell? ⟨g, off + i * 2 + 1, none⟩ = some (.int .i64 ((atPd l i).a : Int))) := by
  obtain ⟨a, c, e, h1, h2, h3⟩ := ls_range (f := Pd.cells) (k := 2) (fun _ => rfl) Pd0 h
  refine ⟨a, c, e, h1, h2, fun h0 => ?_⟩
  obtain ⟨g, off, ha, hg, hc⟩ := h3 h0
  exact ⟨g, off, ha, hg, fun i hi => ⟨hc i hi 0 _ rfl, hc i hi 1 _ rfl⟩⟩
theorem seekP_at {l : List Pd} {n : ByteArray} {k : Nat} (hk : k < l.length) (h1 : ∀ j, j < k → (atPd l j).n ≠ n) (h2 : (atPd l k).n = n) : seekP l n = some (atPd l k) := by
  induction l generalizing k with
  | nil => simp at hk
  | cons x l ih =>
    unfold seekP
    rw [List.find?_cons]
    cases k with
    | zero =>
      have : x.n = n := h2
      simp only [this, decide_true]
      rfl
    | succ k =>
      have : x.n ≠ n := h1 0 (by omega)
      simp only [decide_eq_false this]
      simp only [List.length_cons] at hk
      exact ih (k := k) (by omega) (fun j hj => h1 (j + 1) (by omega)) h2
theorem seekP_no {l : List Pd} {n : ByteArray} (h : ∀ j, j < l.length → (atPd l j).n ≠ n) : seekP l n = none := by
  unfold seekP
  refine List.find?_eq_none.2 fun x hx => ?_
  obtain ⟨i, hi, rfl⟩ := List.getElem_of_mem hx
  have := h i hi
  rw [atPd_eq hi] at this
  simpa using this
/-- what among answers -/
def amgV (o : Option Pd) : Value := match o with
  | some p => .tuple #[.agg #[.string p.n, .int .i64 (p.a : Int)], .bool true]
  | none => .tuple #[.agg #[.string ⟨#[]⟩, .int .i64 0], .bool false]
end Go.Proofs.YtgfnijhhhgjabaaGreatDoor
end
section
namespace Go.Proofs.YtgfnijhhhgjabaaGreatDoor
open Go.RowKit Go.Maps
set_option linter.unusedVariables false
set_option linter.unusedSimpArgs false
attribute [local go_sem ↓] Go.wp_at_zero Go.wp_at_succ
attribute [-go_sem] Builtin.append_

theorem while_at {l : List Pd} {P : Pd → Bool} {j : Nat} (hj : j ≤ l.length) (h1 : ∀ i, i < j → P (atPd l i) = true) (h2 : j < l.length → P (atPd l j) = false) : l.takeWhile P = l.take j ∧ l.dropWhile P = l.drop j := by
  induction l generalizing j with
  | nil => simp
  | cons x l ih =>
    cases j with
    | zero =>
      have : P x = false := h2 (by simp)
      simp [List.takeWhile_cons, List.dropWhile_cons, this]
    | succ j =>
      have hx : P x = true := h1 0 (by omega)
      simp only [List.length_cons] at hj
      obtain ⟨e1, e2⟩ := ih (j := j) (by omega) (fun i hi => h1 (i + 1) (by omega)) (fun h => h2 (by simp; omega))
      rw [List.takeWhile_cons_of_pos hx, List.dropWhile_cons_of_pos hx, e1, e2]
      exact ⟨rfl, rfl⟩
theorem ins_at {kn : List Pd} {q : Pd} {j : Nat} (hj : j ≤ kn.length) (h1 : ∀ i, i < j → ltS (atPd kn i).n q.n = true) (h2 : j < kn.length → ltS (atPd kn j).n q.n = false) : insP kn q = kn.take j ++ q :: kn.drop j := by
  obtain ⟨e1, e2⟩ := while_at (P := fun x => ltS x.n q.n) hj h1 h2
  unfold insP
  rw [e1, e2]
theorem rest_at {kn : List Pd} {j m : Nat} (h : m < kn.length) (hj : j ≤ m) : (kn.drop j).take (m + 1 - j) = (kn.drop j).take (m - j) ++ [atPd kn m] := by
  rw [show m + 1 - j = (m - j) + 1 by omega, List.take_add_one, List.getElem?_drop, show j + (m - j) = m by omega, List.getElem?_eq_getElem h, atPd_eq h]
  rfl
/-- what is put together, amid the third loop -/
def insM (kn : List Pd) (q : Pd) (j m : Nat) : List Pd := kn.take j ++ q :: (kn.drop j).take (m - j)
theorem insM_start (kn : List Pd) (q : Pd) (j : Nat) : insM kn q j j = kn.take j ++ [q] := by unfold insM; rw [Nat.sub_self, List.take_zero]
theorem insM_next {kn : List Pd} {q : Pd} {j m : Nat} (h : m < kn.length) (hj : j ≤ m) : insM kn q j (m + 1) = insM kn q j m ++ [atPd kn m] := by
  unfold insM
  rw [rest_at h hj, List.append_assoc]
  rfl
theorem insM_end (kn : List Pd) (q : Pd) (j : Nat) : insM kn q j kn.length = kn.take j ++ q :: kn.drop j := by
  have : (kn.drop j).take (kn.length - j) = kn.drop j := List.take_of_length_le (by rw [List.length_drop]; omega)
  unfold insM
  rw [this]
theorem insM_len {kn : List Pd} {q : Pd} {j m : Nat} (hj : j ≤ m) (hm : m ≤ kn.length) : (insM kn q j m).length = m + 1 := by
  unfold insM
  rw [List.length_append, List.length_cons, List.length_take, List.length_take, List.length_drop]
  omega
/-- a row of predicates that grows by one -/
theorem pd_push {w0 u : World} {B : Nat} {a : Option Addr} {c : Nat} {out : List Pd} (x : Pd) (own : u.ownsRow B 129 2 (.slice a out.length c) out.length (out.flatMap Pd.cells)) (hb : Below B w0 u) (hB : B ≤ w0.heap.size) (hl : out.length ≤ 1000000000) :
    ∃ a6 c6 w5, (Builtin.append_ #[100, 100] 100 #[.slice a out.length c, .slice (some ⟨u.heap.size, 0, none⟩) 1 1]).run Tryz.prog (u.alloc (.cells #[.string x.n, .int .i64 (x.a : Int)] 129)) = .ok (.slice a6 (out.length + 1) c6) w5 ∧ w5.ownsRow B 129 2 (.slice a6 (out ++ [x]).length c6) (out ++ [x]).length ((out ++ [x]).flatMap Pd.cells) ∧ Below B w0 w5 := by
  obtain ⟨i0, hi0, hz0, hz1, hz2⟩ := info_parts infoPd
  have hA := belowA (w := u) (.cells #[.string x.n, .int .i64 (x.a : Int)] 129)
  have hzu : B ≤ u.heap.size := Nat.le_trans hB hb.size
  have hb5 : Below B w0 (u.alloc (.cells #[.string x.n, .int .i64 (x.a : Int)] 129)) := hb.trans (hA.mono hzu)
  have hz5 : B ≤ (u.alloc (.cells #[.string x.n, .int .i64 (x.a : Int)] 129)).heap.size := Nat.le_trans hzu hA.size
  have ho := own_below own hA
  obtain ⟨v', w5, hrun, hown', hgrow, hnil, hloc⟩ := run_append_own_at (P := Tryz.prog) (u.alloc (.cells #[.string x.n, .int .i64 (x.a : Int)] 129)) B 100 100 129 i0 _ 2 24 Tryz.underlying100 hi0 hz0 hz1 hz2 rfl (by decide) _ _ _ ho ⟨_, 0, none⟩ 1 1 [.string x.n, .int .i64 (x.a : Int)] rfl (lit_news _ #[.string x.n, .int .i64 (x.a : Int)] _) (by simp [Value.oneCell']) (by unfold maxLen; omega) (by omega) hz5
  obtain ⟨a6, c6, rfl, _⟩ := own_form hown'
  refine ⟨a6, c6, w5, hrun, ?_, hb5.grown hgrow hz5 (fun j hj => (ho.lt j hj).1)⟩
  rw [List.length_append, List.flatMap_append]
  exact hown'
/-- cells of a list of predicates, in a world behind -/
theorem pd_cell {w u : World} {g off : Nat} {l : List Pd} (hg : g < w.heap.size) (hc : ∀ i, i < l.length → w.cell? ⟨g, off + i * 2, none⟩ = some (.string (atPd l i).n) ∧ w.cell? ⟨g, off + i * 2 + 1, none⟩ = some (.int .i64 ((atPd l i).a : Int))) (hb : Below w.heap.size w u) {i : Nat} (hi : i < l.length) :
    u.cell? ⟨g, off + i * 2, none⟩ = some (.string (atPd l i).n) ∧ u.cell? ⟨g, off + i * 2 + 1, none⟩ = some (.int .i64 ((atPd l i).a : Int)) :=
  ⟨by rw [hb.cell (p := ⟨g, off + i * 2, none⟩) hg]; exact (hc i hi).1, by rw [hb.cell (p := ⟨g, off + i * 2 + 1, none⟩) hg]; exact (hc i hi).2⟩
end Go.Proofs.YtgfnijhhhgjabaaGreatDoor
end
