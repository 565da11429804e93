import Derived.Test.YtinncofhidiciaaSymSeek
namespace Go.Proofs.Ytinncofhidiciaa
open Go.RowKit Go.Maps Go.ChangeMaps
set_option linter.unusedVariables false
set_option linter.unusedSimpArgs false
attribute [local go_sem ↓] Go.wp_at_zero Go.wp_at_succ

/-- the values that may be, in their order, 24 at most -/
def okStep (out : List V) (u : V) : List V := if out.length < 24 then (if chk u.k u.n u.s = 0 then out ++ [u] else out) else out
def okL (us : List V) : List V := us.foldl okStep []
theorem okL_take {us : List V} {k : Nat} (h : k < us.length) : okL (us.take (k + 1)) = okStep (okL (us.take k)) (atV us k) := by
  unfold okL
  rw [take_snoc h, List.foldl_append]
  rfl
theorem okFold_stop {out : List V} (h : ¬ out.length < 24) : ∀ us : List V, us.foldl okStep out = out
  | [] => rfl
  | u :: us => by rw [List.foldl_cons, show okStep out u = out from if_neg h, okFold_stop h us]
theorem okL_stop {us : List V} {k : Nat} (h : ¬ (okL (us.take k)).length < 24) : okL us = okL (us.take k) := by
  conv => lhs; rw [← List.take_append_drop k us]
  unfold okL
  rw [List.foldl_append]
  exact okFold_stop h _
theorem okL_facts (us : List V) : (okL us).length ≤ 24 ∧ (∀ v ∈ okL us, v ∈ us) ∧ ∀ v ∈ okL us, chk v.k v.n v.s = 0 := by
  have : ∀ (rest out : List V), (∀ u ∈ rest, u ∈ us) → (out.length ≤ 24 ∧ (∀ v ∈ out, v ∈ us) ∧ ∀ v ∈ out, chk v.k v.n v.s = 0) → ((rest.foldl okStep out).length ≤ 24 ∧ (∀ v ∈ rest.foldl okStep out, v ∈ us) ∧ ∀ v ∈ rest.foldl okStep out, chk v.k v.n v.s = 0) := by
    intro rest
    induction rest with
    | nil => intro out _ h; exact h
    | cons u rest ih =>
      intro out hr h
      refine ih _ (fun x hx => hr x (List.mem_cons_of_mem _ hx)) ?_
      unfold okStep
      split
      · split
        · rename_i h1 h2
          refine ⟨by simp; omega, fun v hv => ?_, fun v hv => ?_⟩
          · rcases List.mem_append.1 hv with hv | hv
            · exact h.2.1 v hv
            · simp at hv; subst hv; exact hr _ List.mem_cons_self
          · rcases List.mem_append.1 hv with hv | hv
            · exact h.2.2 v hv
            · simp at hv; subst hv; exact h2
        · exact h
      · exact h
  exact this us [] (fun u hu => hu) ⟨by simp, by simp, by simp⟩

theorem getElem?_prefix {vs r : List V} {i : Nat} {v : V} (h : vs[i]? = some v) : (vs ++ r)[i]? = some v := by
  rw [List.getElem?_append_left (List.getElem?_eq_some_iff.1 h).1]
  exact h

/-- a row that goes through: each number leads to its value -/
theorem rowAll_back {most : Int} {vs xs : List V} (nd : vs.Nodup) (ok : ∀ x ∈ xs, chk x.k x.n x.s = 0) (hroom : (vs.length : Int) + xs.length ≤ most) : ∀ k, k ≤ xs.length →
    (rowAll most vs (xs.take k)).err = 0 ∧ (rowAll most vs (xs.take k)).vs.Nodup ∧ (rowAll most vs (xs.take k)).ss.length = k ∧ (rowAll most vs (xs.take k)).vs.length ≤ vs.length + k ∧ ∀ i, i < k → (rowAll most vs (xs.take k)).vs[(rowAll most vs (xs.take k)).ss.getD i 0]? = some (atV xs i)
  | 0, _ => ⟨by simp [rowAll], by simpa [rowAll] using nd, by simp [rowAll], by simp [rowAll], fun i hi => absurd hi (by omega)⟩
  | k + 1, h => by
    obtain ⟨h1, h2, h3, h4, h5⟩ := rowAll_back nd ok hroom k (by omega)
    have hs := rowAll_take (most := most) (vs := vs) (xs := xs) (k := k) (by omega)
    have hc := ok _ (atV_mem (us := xs) (i := k) (by omega))
    generalize rowAll most vs (xs.take k) = st at h1 h2 h3 h4 h5 hs
    generalize hu : atV xs k = u at hs hc
    rw [hs]
    by_cases hm : u ∈ st.vs
    · have hE : addE most st.vs u = 0 := by unfold addE; rw [if_pos hc, if_pos hm]
      have hS : addS most st.vs u = symOf st.vs u := by unfold addS; rw [if_pos hc, if_pos hm]
      have hV : addV most st.vs u = st.vs := by unfold addV; rw [if_pos hc, if_pos hm]
      have e : rowStep most st u = ⟨st.ss ++ [symOf st.vs u], st.vs, 0⟩ := by unfold rowStep; rw [if_pos h1, if_pos hE, hS, hV]
      rw [e]
      refine ⟨rfl, h2, by simp [h3], by simp only; omega, fun i hi => ?_⟩
      by_cases hik : i < k
      · have := h5 i hik
        simp only
        rw [List.getD_eq_getElem?_getD, List.getElem?_append_left (by omega), ← List.getD_eq_getElem?_getD]
        exact this
      · obtain rfl : i = k := by omega
        simp only
        have e2 : (st.ss ++ [symOf st.vs u]).getD i 0 = symOf st.vs u := by
          rw [List.getD_eq_getElem?_getD, ← h3]
          simp
        rw [e2, hu]
        obtain ⟨j, hj⟩ := List.getElem?_of_mem hm
        rw [symOf_at h2 hj]
        exact hj
    · have hE : addE most st.vs u = 0 := by unfold addE; rw [if_pos hc, if_neg hm, if_neg (by omega)]
      have hS : addS most st.vs u = st.vs.length := by unfold addS; rw [if_pos hc, if_neg hm, if_neg (by omega)]
      have hV : addV most st.vs u = st.vs ++ [u] := by unfold addV; rw [if_pos hc, if_neg hm, if_neg (by omega)]
      have e : rowStep most st u = ⟨st.ss ++ [st.vs.length], st.vs ++ [u], 0⟩ := by unfold rowStep; rw [if_pos h1, if_pos hE, hS, hV]
      rw [e]
      refine ⟨rfl, List.nodup_append.2 ⟨h2, by simp, fun a ha b hb => by simp at hb; subst hb; exact fun e => hm (e ▸ ha)⟩, by simp [h3], by simp; omega, fun i hi => ?_⟩
      by_cases hik : i < k
      · have := h5 i hik
        have e3 : (st.ss ++ [st.vs.length]).getD i 0 = st.ss.getD i 0 := by
          rw [List.getD_eq_getElem?_getD, List.getElem?_append_left (by omega), ← List.getD_eq_getElem?_getD]
        simp only
        rw [e3]
        exact getElem?_prefix this
      · obtain rfl : i = k := by omega
        simp only
        have e2 : (st.ss ++ [st.vs.length]).getD i 0 = st.vs.length := by
          rw [List.getD_eq_getElem?_getD, ← h3]
          simp
        rw [e2, hu]
        simp

structure BackSt (hs xs : List V) (st : RowSt) : Prop where
  err : st.err = 0
  nodup : st.vs.Nodup
  len : st.ss.length = xs.length
  size : st.vs.length ≤ hs.length + xs.length
  at_ : ∀ i, i < xs.length → st.vs[st.ss.getD i 0]? = some (atV xs i)
  old : ∀ i, i < hs.length → st.vs[i]? = some (atV hs i)

theorem back_st {most : Int} {hs xs : List V} (nd : hs.Nodup) (ok : ∀ x ∈ xs, chk x.k x.n x.s = 0) (hroom : (hs.length : Int) + xs.length ≤ most) : BackSt hs xs (rowAll most hs xs) := by
  obtain ⟨h1, h2, h3, h4, h5⟩ := rowAll_back nd ok hroom xs.length (Nat.le_refl _)
  rw [List.take_length] at h1 h2 h3 h4 h5
  refine ⟨h1, h2, h3, h4, h5, fun i hi => ?_⟩
  obtain ⟨r, hr⟩ := (rowAll_facts most hs xs).2.2.1
  rw [hr]
  refine getElem?_prefix ?_
  rw [atV_eq hi]
  exact List.getElem?_eq_getElem hi

theorem BackSt.sym {hs xs : List V} {st : RowSt} (h : BackSt hs xs st) : xs.map (symOf st.vs) = st.ss := by
  apply List.ext_getElem?
  intro i
  by_cases hi : i < xs.length
  · have h1 := h.at_ i hi
    have h2 := symOf_at h.nodup h1
    have h3 : st.ss[i]? = some (st.ss.getD i 0) := by
      rw [List.getD_eq_getElem?_getD, List.getElem?_eq_getElem (by rw [h.len]; exact hi)]
      rfl
    rw [List.getElem?_map, List.getElem?_eq_getElem hi, h3]
    rw [atV_eq hi] at h2
    simp only [Option.map_some]
    rw [h2]
  · rw [List.getElem?_eq_none (by simp; omega), List.getElem?_eq_none (by rw [h.len]; omega)]
theorem BackSt.tuple {hs xs : List V} {st : RowSt} (h : BackSt hs xs st) : (List.range xs.length).map (fun i => atV st.vs (st.ss.getD i 0)) = xs := by
  apply List.ext_getElem?
  intro i
  by_cases hi : i < xs.length
  · have h1 := h.at_ i hi
    have hlt := (List.getElem?_eq_some_iff.1 h1).1
    rw [List.getElem?_map, List.getElem?_range hi, Option.map_some, atV_eq hlt, (List.getElem?_eq_some_iff.1 h1).2, atV_eq hi]
    exact (List.getElem?_eq_getElem hi).symm
  · rw [List.getElem?_eq_none (by simp; omega), List.getElem?_eq_none (by omega)]
theorem BackSt.lt {hs xs : List V} {st : RowSt} (h : BackSt hs xs st) {i : Nat} (hi : i < xs.length) : st.ss.getD i 0 < st.vs.length := (List.getElem?_eq_some_iff.1 (h.at_ i hi)).1
theorem BackSt.inj {hs xs : List V} {st : RowSt} (h : BackSt hs xs st) {i k : Nat} (hi : i < xs.length) (hk : k < xs.length) : st.ss.getD i 0 = st.ss.getD k 0 ↔ atV xs i = atV xs k := by
  have h1 := h.at_ i hi
  have h2 := h.at_ k hk
  constructor
  · intro e
    rw [e, h2] at h1
    exact (Option.some.inj h1).symm
  · intro e
    rw [← symOf_at h.nodup h1, ← symOf_at h.nodup h2, e]

/-- Row, with the word on what lies behind the table -/
theorem trow_ok2 {w0 w : World} {B t : Nat} {vs : List V} {most : Int} (h : Table w0 B t vs most) (b0 : Below w0.heap.size w0 w) (xs : List V) (a : Option Addr) (c : Nat) (hv : Lv w (.slice a xs.length c) xs) (hx : xs.length ≤ 24)
    (hD : ∀ g off, a = some ⟨g, off, none⟩ → w0.heap.size ≤ g) (hroom : vs.length ≤ 2147483600) (hok : (rowAll most vs xs).err = 0) :
    Calls Try.prog 21 #[.pointer (some ⟨t, 0, none⟩), .slice a xs.length c] w fun e w' => ∃ C, e = .returned (.tuple #[.agg C, .int .i64 0]) ∧ C.size = 24 ∧ (∀ i, i < 24 → C[i]? = some (rowN (rowAll most vs xs).ss (fun _ => .int .i32 0) i)) ∧ Table w' B t (rowAll most vs xs).vs most ∧ Below B w w' ∧ ∀ k, w0.heap.size ≤ k → k < w.heap.size → w'.heap[k]? = w.heap[k]? := by
  obtain ⟨m, sv, T0, r1, r2, r3⟩ := h
  have T := T0.below b0
  have lt := T0.lts
  refine (row_ok T xs a c hv hx (fun g off e => by
    have h1 := hD g off e
    exact ⟨by omega, by omega, fun e2 => by have := lt.2.2 g e2; omega⟩) hroom hok).mono ?_
  rintro e w' ⟨C, sv', he, h1, h2, T', U⟩
  obtain ⟨h3, h4⟩ := Table.touch T r1 r2 r3 T' U
  exact ⟨C, he, h1, h2, h3, h4, fun k hk hk2 => U.block k hk2 (by omega) (by omega) (fun e2 => by have := lt.2.2 k e2; omega)⟩

theorem mapM_some {α β : Type} (f : α → Option β) : ∀ l : List α, (∀ x ∈ l, ∃ y, f x = some y) → ∃ ys, l.mapM f = some ys
  | [], _ => ⟨[], rfl⟩
  | x :: l, h => by
    obtain ⟨y, hy⟩ := h x List.mem_cons_self
    obtain ⟨ys, hys⟩ := mapM_some f l (fun z hz => h z (List.mem_cons_of_mem _ hz))
    exact ⟨y :: ys, by simp [List.mapM_cons, hy, hys]⟩

theorem rowFit : Try.prog.keyType 43 = true := by kernel_rfl
theorem cellsRow : Try.prog.cellsOf 43 = 24 := by kernel_rfl
theorem cellsSym : Try.prog.cellsOf 41 = 1 := by kernel_rfl
theorem rowWide : (match Try.prog.underlying 43 with | some (.array _ _) | some (.struct _) => true | _ => false) = true := by rw [Try.underlying43]

theorem keyOf_row (C : Array Value) (hs : C.size = 24) (h : ∀ i, i < 24 → ∃ z : Int, C[i]? = some (.int .i32 z) ∧ (Lit.int .i32 z).wf = true) : ∃ l, keyOf Try.prog 43 (.agg C) = some l := by
  have hf : (Value.agg C).formed Try.prog 43 = true := by simp [Value.formed, Try.underlying43, cellsRow, hs]
  have hl : ∃ L, Try.prog.keyLits (Try.prog.types.size + 1) 43 (Value.agg C).cells.toList = some L := by
    obtain ⟨f, hf⟩ := keyFuel
    rw [hf]
    have hm : ∃ ys, (List.range 24).mapM (fun i => Try.prog.keyLits (f + 1) 41 ((C.toList.drop (i * 1)).take 1)) = some ys := by
      refine mapM_some _ _ fun i hi => ?_
      obtain ⟨z, hz, hw⟩ := h i (by simpa using hi)
      have e : (C.toList.drop (i * 1)).take 1 = [.int .i32 z] := by
        have hlt : i < C.toList.length := by simp; rw [hs]; simpa using hi
        rw [Nat.mul_one, List.drop_eq_getElem_cons hlt]
        have : C.toList[i] = .int .i32 z := by
          have h2 : C.toList[i]? = some (.int .i32 z) := by simpa using hz
          rw [List.getElem?_eq_getElem hlt] at h2
          exact Option.some.inj h2
        rw [this]
        rfl
      rw [e]
      exact ⟨[.int .i32 z], by simp [Program.keyLits, Try.underlying41, hw]⟩
    obtain ⟨ys, hys⟩ := hm
    refine ⟨ys.flatten, ?_⟩
    have hcl : (Value.agg C).cells.toList = C.toList := rfl
    rw [hcl]
    unfold Program.keyLits
    rw [Try.underlying43]
    simp only [cellsRow, cellsSym]
    rw [if_pos (by simpa using hs), hys]
    rfl
  obtain ⟨L, hL⟩ := hl
  refine ⟨.string (keyBytes L), ?_⟩
  unfold keyOf
  rw [Try.underlying43]
  simp only [rowFit, hf, hL]
  rfl

theorem neq_row_self (C : Array Value) (hs : C.size = 24) (h : ∀ i, i < 24 → ∃ z : Int, C[i]? = some (.int .i32 z) ∧ (Lit.int .i32 z).wf = true) (W : World) : (binOp .neq 43 (.agg C) (.agg C)).run Try.prog W = .ok (.bool false) W := by
  obtain ⟨l, hl⟩ := keyOf_row C hs h
  obtain ⟨r, hr, hiff⟩ := run_equal_deep W (m := 3) (by omega) (k := 43) (P := Try.prog) (by kernel_rfl) rowWide hl hl
  have e : r = true := hiff.2 rfl
  subst e
  rw [run_neq_struct]
  have hr' : (Op.equalIn 10000 43 (.agg C) (.agg C)).run Try.prog W = .ok true W := hr
  rw [hr']
  rfl
end Go.Proofs.Ytinncofhidiciaa
