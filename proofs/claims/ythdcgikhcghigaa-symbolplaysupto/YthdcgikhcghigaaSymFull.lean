import Derived.Test.YthdcgikhcghigaaSymRowW
import Derived.Deep.WholeRow
namespace Go.Proofs.Ythdcgikhcghigaa
open Go.RowKit Go.Maps Go.ChangeMaps
set_option linter.unusedVariables false
set_option linter.unusedSimpArgs false
attribute [local go_sem ↓] Go.wp_at_zero Go.wp_at_succ

theorem tadd_has {w : World} {B t : Nat} {vs : List V} {most : Int} (h : Table w B t vs most) {v : V} (hv : v.wf) (hc : chk v.k v.n v.s = 0) (hm : v ∈ vs) :
    Calls Try.prog 13 #[.pointer (some ⟨t, 0, none⟩), .agg #[.int .i8 v.k, .int .i64 v.n, .string v.s]] w fun e w' => e = .returned (.tuple #[.int .i32 (symOf vs v), .int .i64 0]) ∧ Below w.heap.size w w' := by
  obtain ⟨m, sv, T, r⟩ := h
  exact add_has T hv hc hm
theorem tadd_full {w : World} {B t : Nat} {vs : List V} {most : Int} (h : Table w B t vs most) {v : V} (hv : v.wf) (hc : chk v.k v.n v.s = 0) (hm : v ∉ vs) (hf : most ≤ vs.length) :
    Calls Try.prog 13 #[.pointer (some ⟨t, 0, none⟩), .agg #[.int .i8 v.k, .int .i64 v.n, .string v.s]] w fun e w' => e = .returned (.tuple #[.int .i32 0, .int .i64 20]) ∧ Below w.heap.size w w' := by
  obtain ⟨m, sv, T, r⟩ := h
  exact add_full T hv hc hm hf

theorem Table.touch {w w' : World} {B t m : Nat} {sv sv' : Value} {vs vs' : List V} {most : Int} (T : Tbl w t m sv vs most) (r1 : B ≤ t) (r2 : B ≤ m) (r3 : ∀ g, sv.ownBlock = some g → B ≤ g) (T' : Tbl w' t m sv' vs' most) (U : Touch w w' t m sv sv') : Table w' B t vs' most ∧ Below B w w' := by
  have hs : B ≤ w.heap.size := Nat.le_of_lt (Nat.lt_of_le_of_lt r1 T.lts.1)
  refine ⟨⟨m, sv', T', r1, r2, fun g hg => ?_⟩, U.below hs r1 r2 r3⟩
  rcases U.new g hg with h | h
  · exact r3 g h
  · omega

/-- Row, of a list that lies away from the table -/
theorem trow_ok {w0 w : World} {B t : Nat} {vs : List V} {most : Int} (h : Table w0 B t vs most) (b0 : Below w0.heap.size w0 w) (xs : List V) (a : Option Addr) (c : Nat) (hv : Lv w (.slice a xs.length c) xs) (hx : xs.length ≤ 24)
    (hD : ∀ g off, a = some ⟨g, off, none⟩ → w0.heap.size ≤ g) (hroom : vs.length ≤ 2147483600) (hok : (rowAll most vs xs).err = 0) :
    Calls Try.prog 37 #[.pointer (some ⟨t, 0, none⟩), .slice a xs.length c] w fun e w' => ∃ C, e = .returned (.tuple #[.agg C, .int .i64 0]) ∧ C.size = 24 ∧ (∀ i, i < 24 → C[i]? = some (rowN (rowAll most vs xs).ss (fun _ => .int .i32 0) i)) ∧ Table w' B t (rowAll most vs xs).vs most ∧ Below B w w' := by
  obtain ⟨m, sv, T0, r1, r2, r3⟩ := h
  have T := T0.below b0
  have lt := T0.lts
  refine (row_ok T xs a c hv hx (fun _ g off e => by
    have h1 := hD g off e
    exact ⟨by omega, by omega, fun e2 => by have := lt.2.2 g e2; omega⟩) hroom hok).mono ?_
  rintro e w' ⟨C, sv', he, h1, h2, T', U⟩
  obtain ⟨h3, h4⟩ := Table.touch T r1 r2 r3 T' U
  exact ⟨C, he, h1, h2, h3, h4⟩
theorem zero_eq {C : Array Value} (h1 : C.size = 24) (h2 : ∀ i, i < 24 → C[i]? = some (.int .i32 0)) : C = zeroRow := by
  apply Array.ext_getElem?
  intro i
  by_cases h : i < 24
  · rw [h2 i h, zeroRow_at i h]
  · rw [Array.getElem?_eq_none (by omega), Array.getElem?_eq_none (by show 24 ≤ i; omega)]
theorem trow_err {w0 w : World} {B t : Nat} {vs : List V} {most : Int} (h : Table w0 B t vs most) (b0 : Below w0.heap.size w0 w) (xs : List V) (a : Option Addr) (c : Nat) (hv : Lv w (.slice a xs.length c) xs) (hx : xs.length ≤ 24)
    (hD : ∀ g off, a = some ⟨g, off, none⟩ → w0.heap.size ≤ g) (hroom : vs.length ≤ 2147483600) (herr : ¬ (rowAll most vs xs).err = 0) :
    Calls Try.prog 37 #[.pointer (some ⟨t, 0, none⟩), .slice a xs.length c] w fun e w' => e = .returned (.tuple #[.agg zeroRow, .int .i64 (rowAll most vs xs).err]) ∧ Table w' B t vs most ∧ Below B w w' := by
  obtain ⟨m, sv, T0, r1, r2, r3⟩ := h
  have T := T0.below b0
  have lt := T0.lts
  refine (row_err T xs a c hv hx (fun _ g off e => by
    have h1 := hD g off e
    exact ⟨by omega, by omega, fun e2 => by have := lt.2.2 g e2; omega⟩) hroom herr).mono ?_
  rintro e w' ⟨C, sv', he, h1, h2, T', U⟩
  rw [zero_eq h1 h2] at he
  obtain ⟨h3, h4⟩ := Table.touch T r1 r2 r3 T' U
  exact ⟨he, h3, h4⟩

theorem Lv.take {w : World} {a : Option Addr} {c n : Nat} {vs : List V} (h : Lv w (.slice a n c) vs) {k : Nat} (hk : k ≤ vs.length) : Lv w (.slice a (vs.take k).length c) (vs.take k) := by
  obtain ⟨hw, hl, a', c', e, hc⟩ := h
  cases e
  have hlen : (vs.take k).length = k := by simp; omega
  refine ⟨fun u hu => hw u (List.mem_of_mem_take hu), by omega, a, c, rfl, fun i hi => ?_⟩
  rw [atV_take (by omega) hk]
  exact hc i (by omega)

theorem lv_one (w : World) (v : V) (hv : v.wf) : Lv (w.alloc (.cells #[.int .i8 v.k, .int .i64 v.n, .string v.s] 39)) (.slice (some ⟨w.heap.size, 0, none⟩) 1 1) [v] := by
  refine ⟨by simpa using hv, by simp [maxLen], _, _, rfl, fun i hi => ⟨w.heap.size, 0, rfl, by simp, ?_⟩⟩
  obtain rfl : i = 0 := by simp at hi; omega
  have h := one_news w v
  have h0 := h 0 (.int .i8 v.k) rfl
  have h1 := h 1 (.int .i64 v.n) rfl
  have h2 := h 2 (.string v.s) rfl
  rw [WideShapes.add_plain] at h0 h1 h2
  exact ⟨h0, h1, h2⟩

theorem residue' (n : Int) (L : Nat) (h : 0 < L) : ∃ (r : Int) (kk : Nat), n.tmod (L : Int) = r ∧ kk < L ∧ ((¬ r < 0 ∧ r = kk) ∨ (r < 0 ∧ -(L : Int) ≤ r ∧ r + L = kk)) := by
  obtain ⟨r, kk, h1, h2, h3⟩ := residue n (L - 1)
  have e : ((L - 1 : Nat) : Int) + 1 = (L : Int) := by omega
  rw [e] at h1
  refine ⟨r, kk, h1, by omega, ?_⟩
  rcases h3 with h3 | ⟨h4, h5, h6⟩
  · exact .inl h3
  · exact .inr ⟨h4, by omega, by omega⟩

/-- a table is filled from the number n on, as far as it goes -/
theorem row_fits {vs : List V} (nd : vs.Nodup) (ok : ∀ v ∈ vs, chk v.k v.n v.s = 0) {n k : Nat} (hk : k < vs.length) : ∀ j, n + j ≤ k → (rowAll k (vs.take n) ((vs.drop n).take j)).vs = vs.take (n + j) ∧ (rowAll k (vs.take n) ((vs.drop n).take j)).err = 0
  | 0, _ => by simp [rowAll]
  | j + 1, h => by
    obtain ⟨h1, h2⟩ := row_fits nd ok (n := n) hk j (by omega)
    have hl : j < (vs.drop n).length := by simp; omega
    have e : (vs.drop n).take (j + 1) = (vs.drop n).take j ++ [atV (vs.drop n) j] := take_snoc hl
    have e2 : atV (vs.drop n) j = atV vs (n + j) := by rw [atV_eq hl, atV_eq (by omega), List.getElem_drop]
    have hE : addE k (vs.take (n + j)) (atV vs (n + j)) = 0 := by
      unfold addE
      rw [if_pos (ok _ (atV_mem (by omega))), if_neg (not_mem_take nd (by omega)), if_neg (by simp; omega)]
    have hV : addV k (vs.take (n + j)) (atV vs (n + j)) = vs.take (n + (j + 1)) := by
      unfold addV
      rw [if_pos (ok _ (atV_mem (by omega))), if_neg (not_mem_take nd (by omega)), if_neg (by simp; omega)]
      exact (take_snoc (by omega)).symm
    have hs : rowAll k (vs.take n) ((vs.drop n).take (j + 1)) = rowStep k (rowAll k (vs.take n) ((vs.drop n).take j)) (atV vs (n + j)) := by
      rw [e, e2]
      unfold rowAll
      rw [List.foldl_append]
      rfl
    rw [hs]
    unfold rowStep
    rw [if_pos h2, h1, if_pos hE]
    exact ⟨hV, rfl⟩

theorem row_over {vs : List V} (nd : vs.Nodup) (ok : ∀ v ∈ vs, chk v.k v.n v.s = 0) {n k j : Nat} (hk : k < vs.length) (h : n + j = k + 1) (hn : n ≤ k) : (rowAll k (vs.take n) ((vs.drop n).take j)).err = 20 := by
  obtain ⟨i, rfl⟩ : ∃ i, j = i + 1 := ⟨j - 1, by omega⟩
  obtain ⟨h1, h2⟩ := row_fits nd ok (n := n) hk i (by omega)
  have hl : i < (vs.drop n).length := by simp; omega
  have e : (vs.drop n).take (i + 1) = (vs.drop n).take i ++ [atV (vs.drop n) i] := take_snoc hl
  have e2 : atV (vs.drop n) i = atV vs (n + i) := by rw [atV_eq hl, atV_eq (by omega), List.getElem_drop]
  have hE : addE k (vs.take (n + i)) (atV vs (n + i)) = 20 := by
    unfold addE
    rw [if_pos (ok _ (atV_mem (by omega))), if_neg (not_mem_take nd (by omega)), if_pos (by simp; omega)]
  have hs : rowAll k (vs.take n) ((vs.drop n).take (i + 1)) = rowStep k (rowAll k (vs.take n) ((vs.drop n).take i)) (atV vs (n + i)) := by
    rw [e, e2]
    unfold rowAll
    rw [List.foldl_append]
    rfl
  rw [hs]
  unfold rowStep
  rw [if_pos h2, h1, if_neg (by rw [hE]; decide), hE]

theorem row_one_full {vs : List V} (nd : vs.Nodup) (ok : ∀ v ∈ vs, chk v.k v.n v.s = 0) {k : Nat} (hk : k < vs.length) : (rowAll k (vs.take k) [atV vs k]).err = 20 := by
  have h := row_over nd ok (n := k) (j := 1) hk rfl (Nat.le_refl _)
  have e : (vs.drop k).take 1 = [atV vs k] := by
    rw [atV_eq hk, List.drop_eq_getElem_cons hk]
    rfl
  rwa [e] at h

theorem row_cells_one {C : Array Value} {ss : List Nat} (h1 : C.size = 24) (h2 : ∀ i, i < 24 → C[i]? = some (rowN ss (fun _ => .int .i32 0) i)) : C.all (·.oneCell') = true := by
  rw [← Array.all_toList]
  refine List.all_eq_true.2 fun v hv => ?_
  obtain ⟨i, hi⟩ := List.getElem?_of_mem hv
  have hi' : C[i]? = some v := by simpa using hi
  have hlt : i < 24 := by rw [← h1]; exact (Array.getElem?_eq_some_iff.1 hi').1
  rw [h2 i hlt] at hi'
  cases hi'
  unfold rowN
  split <;> rfl

theorem wpList_storeNew {P : Program} (w : World) {ops : Array Oper} {rest : List Oper} {o : Oper} {a : Act} {Q : Exit → Act → World → Prop} (hgd : o.guard = none) (p x : Operand) (t : TypeId)
    (ho : o.op = Op.store t p x) (c c' : Array Value) (hp : a.eval p = .pointer (some ⟨w.heap.size, 0, none⟩)) (hx : a.eval x = .agg c') (hi : (P.info? t).map (·.size) = some c'.size) (hs : c.size = c'.size) (h1 : c'.all (·.oneCell') = true)
    (hK : wpList P ops Q rest (a.put o.dst undef) (w.alloc (.cells c' t))) : wpList P ops Q (o :: rest) a (w.alloc (.cells c t)) := by
  refine wpList_storeRow _ hgd p x t ho w.heap.size c c' hp hx (heap_alloc_new w _) hi hs h1 ?_
  rw [World.setRow_alloc_new]
  exact hK

theorem wpList_loadRowG {P : Program} (w : World) {ops : Array Oper} {rest : List Oper} {o : Oper} {a : Act} {Q : Exit → Act → World → Prop} (p : Operand) (t : TypeId)
    (ho : o.op = Op.load t p) (hw : Region.wanted o (yielded ops a.tmps) = true) (b n : Nat) (e : TypeId) (c : Array Value) (hp : a.eval p = .pointer (some ⟨b, 0, none⟩)) (hb : w.heap[b]? = some (.cells c t (0, 0))) (hu : P.underlying t = some (.array n e)) (hi : (P.info? t).map (·.size) = some c.size)
    (hK : wpList P ops Q rest (a.put o.dst (.agg c)) w) : wpList P ops Q (o :: rest) a w := by
  have hrun : (Instr.loadAt t (.pointer (some ⟨b, 0, none⟩))).run P w = .ok (.agg c) w := by
    simp only [Instr.loadAt, Instr.sureAddr, Sem.run_bind, Sem.run_pure, Result.andThen]
    exact run_loadVar_row _ _ t t c (0, 0) _ hb hu rfl hi
  refine wpList_step fun K' hK' => ?_
  rw [if_pos hw]
  unfold Oper.wp
  simp [execOp, ho, hp, hrun, Result.andThen]
  exact hK' _ _ hK

theorem neq_zero_row2 (W : World) : (binOp .neq 43 (.agg zeroRow) (.agg #[.int .i32 0, .int .i32 0, .int .i32 0, .int .i32 0, .int .i32 0, .int .i32 0, .int .i32 0, .int .i32 0, .int .i32 0, .int .i32 0, .int .i32 0, .int .i32 0, .int .i32 0, .int .i32 0, .int .i32 0, .int .i32 0, .int .i32 0, .int .i32 0, .int .i32 0, .int .i32 0, .int .i32 0, .int .i32 0, .int .i32 0, .int .i32 0])).run Try.prog W = .ok (.bool false) W := by kernel_rfl
theorem neq_zero_row (W : World) : (binOp .neq 43 (.agg zeroRow) (.agg zeroRow)).run Try.prog W = .ok (.bool false) W := by kernel_rfl
end Go.Proofs.Ythdcgikhcghigaa
