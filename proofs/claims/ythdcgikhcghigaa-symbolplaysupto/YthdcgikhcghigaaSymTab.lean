import Derived.Test.YthdcgikhcghigaaSymMap
import Derived.Deep.QuietTactic
import Derived.BigQuiet
namespace Go.Proofs.Ythdcgikhcghigaa
open Go.RowKit Go.Maps Go.ChangeMaps
set_option linter.unusedVariables false
set_option linter.unusedSimpArgs false
attribute [local go_sem ↓] Go.wp_at_zero Go.wp_at_succ

/-- the three cells of a table -/
def tcells (m : Nat) (sv : Value) (most : Int) : Nat → Value
  | 0 => .map (some m)
  | 1 => sv
  | _ => .int .i64 most

/-- a table: its cells lie in block t, its map in block m, its list is sv -/
structure Tbl (w : World) (t m : Nat) (sv : Value) (vs : List V) (most : Int) : Prop where
  row : w.rowIs t 56 3 (tcells m sv most)
  map : MapIs w m vs.zipIdx
  own : w.ownsRow 0 39 3 sv vs.length (vs.flatMap V.cells)
  nodup : vs.Nodup

theorem Tbl.wf {w : World} {t m : Nat} {sv : Value} {vs : List V} {most : Int} (h : Tbl w t m sv vs most) : ∀ v ∈ vs, v.wf := by
  intro v hv
  obtain ⟨_, _, _, _, hw⟩ := h.map
  obtain ⟨i, hi⟩ := List.getElem?_of_mem hv
  exact hw (v, i) (List.mem_zipIdx_iff_getElem?.2 hi)

theorem ownsRow_form {w : World} {base : Nat} {e : TypeId} {k : Nat} {sv : Value} {n : Nat} {xs : List Value} (h : w.ownsRow base e k sv n xs) : ∃ a c, sv = .slice a n c ∧ n ≤ maxLen ∧ (0 < n → ∃ g, a = some ⟨g, 0, none⟩ ∧ ∀ i, (hi : i < xs.length) → w.cell? ⟨g, i, none⟩ = some xs[i]) := by
  obtain ⟨hl, ⟨rfl, rfl⟩ | ⟨g, cap, cur, rfl, _, hb, hn, hc, hs, ht⟩⟩ := h
  · exact ⟨none, 0, rfl, Nat.zero_le _, fun h => absurd h (by omega)⟩
  · refine ⟨_, cap, rfl, Nat.le_trans hn hc, fun _ => ⟨g, rfl, fun i hi => ?_⟩⟩
    have h1 : xs[i]? = some xs[i] := List.getElem?_eq_getElem hi
    have h2 : i < n * k := by rw [← hl]; exact hi
    have h3 : (cur.toList.take (n * k))[i]? = some xs[i] := by rw [ht]; exact h1
    rw [List.getElem?_take, if_pos h2, Array.getElem?_toList] at h3
    simpa [World.cell?, hb] using h3

theorem Tbl.of_blocks {w w' : World} {t m : Nat} {sv : Value} {vs : List V} {most : Int} (h : Tbl w t m sv vs most) (ht : w'.heap[t]? = w.heap[t]?) (hm : w'.heap[m]? = w.heap[m]?) (hg : ∀ g, sv.ownBlock = some g → w'.heap[g]? = w.heap[g]?) : Tbl w' t m sv vs most := by
  refine ⟨h.row.of_block ht, h.map.of_block hm, ?_, h.nodup⟩
  obtain ⟨hl, h1 | ⟨g, cap, cur, rfl, h0, hb, r⟩⟩ := h.own
  · exact ⟨hl, .inl h1⟩
  · exact ⟨hl, .inr ⟨g, cap, cur, rfl, h0, (hg g rfl).trans hb, r⟩⟩

theorem Tbl.lts {w : World} {t m : Nat} {sv : Value} {vs : List V} {most : Int} (h : Tbl w t m sv vs most) : t < w.heap.size ∧ m < w.heap.size ∧ ∀ g, sv.ownBlock = some g → g < w.heap.size :=
  ⟨h.row.lt, h.map.lt, fun g hg => (h.own.lt g hg).2⟩

theorem Tbl.below {w w' : World} {t m : Nat} {sv : Value} {vs : List V} {most : Int} (h : Tbl w t m sv vs most) (b : Below w.heap.size w w') : Tbl w' t m sv vs most :=
  h.of_blocks (b.block _ h.lts.1) (b.block _ h.lts.2.1) (fun g hg => b.block _ (h.lts.2.2 g hg))

theorem Tbl.drew {w : World} {t m : Nat} {sv : Value} {vs : List V} {most : Int} (h : Tbl w t m sv vs most) : Tbl w.drew t m sv vs most := h.of_blocks rfl rfl (fun _ _ => rfl)

/-- a value's number -/
def symOf (vs : List V) (v : V) : Nat := if v ∈ vs then vs.idxOf v else 0

theorem symOf_at {vs : List V} {v : V} {i : Nat} (nd : vs.Nodup) (h : vs[i]? = some v) : symOf vs v = i := by
  have hm : v ∈ vs := List.mem_of_getElem? h
  obtain ⟨hi, e⟩ := List.getElem?_eq_some_iff.1 h
  rw [symOf, if_pos hm, ← e]
  exact nd.idxOf_getElem i hi

theorem Tbl.look {w : World} {t m : Nat} {sv : Value} {vs : List V} {most : Int} (h : Tbl w t m sv vs most) {v : V} (hv : v.wf) :
    (Instr.lookup 54 (.map (some m)) v.val true).run Try.prog w = .ok (.tuple #[.int .i32 (symOf vs v), .bool (decide (v ∈ vs))]) w := by
  rcases h.map.look hv with ⟨hr, hno⟩ | ⟨p, hp, he, hr⟩
  · have hn : v ∉ vs := fun hm => by
      obtain ⟨i, hi⟩ := List.getElem?_of_mem hm
      exact hno (v, i) (List.mem_zipIdx_iff_getElem?.2 hi) rfl
    rw [hr, symOf, if_neg hn]
    simp [hn]
  · have hi : vs[p.2]? = some v := by rw [← he]; exact List.mem_zipIdx_iff_getElem?.1 hp
    have hm : v ∈ vs := List.mem_of_getElem? hi
    rw [hr, symOf_at h.nodup hi]
    simp [hm]

theorem neq_map (m : Nat) (w : World) : (binOp .neq 54 (.map (some m)) (.map none)).run Try.prog w = .ok (.bool true) w := by
  rfl
theorem neq_map_nil (w : World) : (binOp .neq 54 (.map none) (.map none)).run Try.prog w = .ok (.bool false) w := by
  rfl

theorem there_any {w : World} {t m : Nat} {sv : Value} {vs : List V} {most : Int} (h : Tbl w t m sv vs most) :
    Calls Try.prog 21 #[.pointer (some ⟨t, 0, none⟩)] w fun e w' => e = .returned (.bool true) ∧ w' = w := by
  have c0 : w.cell? ⟨t, 0, none⟩ = some (.map (some m)) := h.row.cell (i := 0) (by omega)
  have hne := neq_map m
  clear h
  go_enter Try.func21, Try.ntmps21
  go_wp2
  go_ret
  exact ⟨rfl, rfl⟩

theorem len_any {w : World} {t m : Nat} {sv : Value} {vs : List V} {most : Int} (h : Tbl w t m sv vs most) :
    Calls Try.prog 7 #[.pointer (some ⟨t, 0, none⟩)] w fun e w' => e = .returned (.int .i64 vs.length) ∧ w' = w := by
  obtain ⟨a, c, rfl, hl, _⟩ := ownsRow_form h.own
  have c1 : w.cell? ⟨t, 1, none⟩ = some (.slice a vs.length c) := h.row.cell (i := 1) (by omega)
  go_enter Try.func7, Try.ntmps7
  go_wp2_with (go_at_call 21; refine (there_any h).mono ?_; rintro e w' ⟨rfl, rfl⟩)
  go_ret
  exact ⟨rfl, rfl⟩

set_option maxHeartbeats 800000 in
theorem find_any {w : World} {t m : Nat} {sv : Value} {vs : List V} {most : Int} (h : Tbl w t m sv vs most) {v : V} (hv : v.wf) :
    Calls Try.prog 15 #[.pointer (some ⟨t, 0, none⟩), .agg #[.int .i8 v.k, .int .i64 v.n, .string v.s]] w fun e w' => e = .returned (.tuple #[.int .i32 (symOf vs v), .bool (decide (v ∈ vs))]) ∧ Below w.heap.size w w' := by
  have hlt := h.row.lt
  have h1 := h.below ((Below.refl _ _).alloc (Nat.le_refl _) (.cells #[.int .i8 v.k, .int .i64 v.n, .string v.s] 39))
  have hk : (Instr.lookup 54 (.map (some m)) (.agg #[.int .i8 v.k, .int .i64 v.n, .string v.s]) true).run Try.prog (w.alloc (.cells #[.int .i8 v.k, .int .i64 v.n, .string v.s] 39)).drew = .ok (.tuple #[.int .i32 (symOf vs v), .bool (decide (v ∈ vs))]) (w.alloc (.cells #[.int .i8 v.k, .int .i64 v.n, .string v.s] 39)).drew := Tbl.look (w := (w.alloc (.cells #[.int .i8 v.k, .int .i64 v.n, .string v.s] 39)).drew) h1.drew hv
  have c0 : w.cell? ⟨t, 0, none⟩ = some (.map (some m)) := h.row.cell (i := 0) (by omega)
  generalize symOf vs v = i at hk ⊢
  generalize decide (v ∈ vs) = b at hk ⊢
  clear h
  go_enter Try.func15, Try.ntmps15
  go_wp2_with (go_at_call 21; refine (there_any h1).mono ?_; rintro e w' ⟨rfl, rfl⟩)
  go_region
  go_wp2
  go_ret2
  exact ⟨rfl, ((Below.refl _ _).alloc (Nat.le_refl _) _).drew⟩

def V0 : V := ⟨0, 0, ⟨#[]⟩⟩
def atV (vs : List V) (i : Nat) : V := vs.getD i V0

theorem cells_at {vs : List V} {i : Nat} (hi : i < vs.length) : (vs.flatMap V.cells)[i * 3]? = some (.int .i8 (atV vs i).k) ∧ (vs.flatMap V.cells)[i * 3 + 1]? = some (.int .i64 (atV vs i).n) ∧ (vs.flatMap V.cells)[i * 3 + 2]? = some (.string (atV vs i).s) := by
  induction vs generalizing i with
  | nil => simp at hi
  | cons v vs ih =>
    cases i with
    | zero => simp [V.cells, atV]
    | succ i =>
      have := ih (i := i) (by simpa using hi)
      simp only [List.flatMap_cons]
      rw [show (i + 1) * 3 = i * 3 + 3 by omega, show i * 3 + 3 + 1 = i * 3 + 1 + 3 by omega, show i * 3 + 3 + 2 = i * 3 + 2 + 3 by omega]
      rw [List.getElem?_append_right (by simp [V.cells]), List.getElem?_append_right (by simp [V.cells]), List.getElem?_append_right (by simp [V.cells])]
      simpa [V.cells, atV] using this

theorem cells_length (vs : List V) : (vs.flatMap V.cells).length = vs.length * 3 := by
  induction vs with
  | nil => rfl
  | cons v vs ih => simp only [List.flatMap_cons, List.length_append, ih, List.length_cons]; simp [V.cells]; omega

theorem row_at {w : World} {base : Nat} {sv : Value} {vs : List V} (h : w.ownsRow base 39 3 sv vs.length (vs.flatMap V.cells)) {i : Nat} (hi : i < vs.length) :
    ∃ g c, sv = .slice (some ⟨g, 0, none⟩) vs.length c ∧ w.cell? ⟨g, i * 3, none⟩ = some (.int .i8 (atV vs i).k) ∧ w.cell? ⟨g, i * 3 + 1, none⟩ = some (.int .i64 (atV vs i).n) ∧ w.cell? ⟨g, i * 3 + 2, none⟩ = some (.string (atV vs i).s) := by
  obtain ⟨a, c, rfl, hl, hc⟩ := ownsRow_form h
  obtain ⟨g, rfl, hg⟩ := hc (by omega)
  obtain ⟨h0, h1, h2⟩ := cells_at hi
  obtain ⟨l0, e0⟩ := List.getElem?_eq_some_iff.1 h0
  obtain ⟨l1, e1⟩ := List.getElem?_eq_some_iff.1 h1
  obtain ⟨l2, e2⟩ := List.getElem?_eq_some_iff.1 h2
  exact ⟨g, c, rfl, by rw [hg _ l0, e0], by rw [hg _ l1, e1], by rw [hg _ l2, e2]⟩

set_option maxHeartbeats 800000 in
theorem value_in {w : World} {t m : Nat} {sv : Value} {vs : List V} {most : Int} (h : Tbl w t m sv vs most) {i : Nat} (hi : i < vs.length) (hm : vs.length ≤ 2147483647) :
    Calls Try.prog 17 #[.pointer (some ⟨t, 0, none⟩), .int .i32 i] w fun e w' => e = .returned (.tuple #[.agg #[.int .i8 (atV vs i).k, .int .i64 (atV vs i).n, .string (atV vs i).s], .int .i64 0]) ∧ Below w.heap.size w w' := by
  have h1 := h.below ((Below.refl _ _).alloc (Nat.le_refl _) (.cells #[.int .i8 0, .int .i64 0, .string ⟨#[]⟩] 39))
  obtain ⟨g, c, rfl, x0, x1, x2⟩ := row_at h.own hi
  have hg : g < w.heap.size := h.lts.2.2 g rfl
  have ht := h.lts.1
  have c1 : w.cell? ⟨t, 1, none⟩ = some (.slice (some ⟨g, 0, none⟩) vs.length c) := h.row.cell (i := 1) (by omega)
  have hi' : (i : Int) < (vs.length : Int) := by omega
  clear h
  go_enter Try.func17, Try.ntmps17
  go_wp2_with (go_at_call 21; refine (there_any h1).mono ?_; rintro e w' ⟨rfl, rfl⟩)
  exact bodyPost_ret (v := .tuple #[.agg #[.int .i8 (atV vs i).k, .int .i64 (atV vs i).n, .string (atV vs i).s], .int .i64 0]) (by simp [results, Try.results17, go_sem]) rfl ⟨rfl, (Below.refl _ _).alloc (Nat.le_refl _) _⟩

set_option maxHeartbeats 800000 in
theorem value_out {w : World} {t m : Nat} {sv : Value} {vs : List V} {most : Int} (h : Tbl w t m sv vs most) {i : Nat} (hi : ¬ i < vs.length) (hm : i ≤ 2147483647) :
    Calls Try.prog 17 #[.pointer (some ⟨t, 0, none⟩), .int .i32 i] w fun e w' => e = .returned (.tuple #[.agg #[.int .i8 0, .int .i64 0, .string ⟨#[]⟩], .int .i64 21]) ∧ Below w.heap.size w w' := by
  have h1 := h.below ((Below.refl _ _).alloc (Nat.le_refl _) (.cells #[.int .i8 0, .int .i64 0, .string ⟨#[]⟩] 39))
  obtain ⟨a, c, rfl, hl, _⟩ := ownsRow_form h.own
  have ht := h.lts.1
  have c1 : w.cell? ⟨t, 1, none⟩ = some (.slice a vs.length c) := h.row.cell (i := 1) (by omega)
  have hi' : (vs.length : Int) ≤ (i : Int) := by omega
  have hi2 : vs.length ≤ i := by omega
  clear h
  go_enter Try.func17, Try.ntmps17
  go_wp2_with (go_at_call 21; refine (there_any h1).mono ?_; rintro e w' ⟨rfl, rfl⟩)
  exact bodyPost_ret (v := .tuple #[.agg #[.int .i8 0, .int .i64 0, .string ⟨#[]⟩], .int .i64 21]) (by simp [results, Try.results17, go_sem]) rfl ⟨rfl, (Below.refl _ _).alloc (Nat.le_refl _) _⟩

theorem tbl_new (w : World) (most : Int) : Tbl ((w.alloc (.map #[] 0)).alloc (.cells #[.map (some w.heap.size), .slice none 0 0, .int .i64 most] 56)) (w.heap.size + 1) w.heap.size (.slice none 0 0) [] most := by
  refine ⟨?_, ?_, ?_, List.nodup_nil⟩
  · have h := World.rowIs_alloc (w.alloc (.map #[] 0)) #[.map (some w.heap.size), .slice none 0 0, .int .i64 most] 56 (tcells w.heap.size (.slice none 0 0) most) (fun i hi => by
      have : i = 0 ∨ i = 1 ∨ i = 2 := by simp at hi; omega
      rcases this with rfl | rfl | rfl <;> rfl)
    simpa using h
  · exact (MapIs.made w).of_block (Below.heap_alloc _ _ _ (by simp))
  · exact World.ownsRow_nil _ _ _ _

set_option maxHeartbeats 800000 in
theorem new_ok (w : World) (most : Int) (h0 : 0 ≤ most) (h1 : most ≤ 2147483647) :
    Calls Try.prog 4 #[.int .i64 most] w fun e w' => e = .returned (.tuple #[.pointer (some ⟨w.heap.size + 1, 0, none⟩), .int .i64 0]) ∧ Below w.heap.size w w' ∧ Tbl w' (w.heap.size + 1) w.heap.size (.slice none 0 0) [] most := by
  have hmm := @run_makeMap Try.prog
  have T := tbl_new w most
  go_enter Try.func4, Try.ntmps4
  go_wp2
  go_ret2
  exact ⟨rfl, ((Below.refl _ _).alloc (Nat.le_refl _) _).alloc (by simp) _, T⟩
end Go.Proofs.Ythdcgikhcghigaa
