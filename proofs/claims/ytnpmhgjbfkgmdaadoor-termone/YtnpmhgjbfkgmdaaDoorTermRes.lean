import Derived.Test.YtnpmhgjbfkgmdaaDoorTermAtom
import Derived.Deep.MidRow
namespace Go.Proofs.YtnpmhgjbfkgmdaaDoor
open Go.RowKit Go.Maps
set_option linter.unusedVariables false
set_option linter.unusedSimpArgs false
attribute [local go_sem ↓] Go.wp_at_zero Go.wp_at_succ

theorem kept_cell {w w1 : World} {c : Array Value} {T : TypeId} (hb : Below (w.alloc (.cells c T)).heap.size (w.alloc (.cells c T)) w1) (i : Nat) (v : Value) (hi : c[i]? = some v) : w1.cell? ⟨w.heap.size, i, none⟩ = some v := by
  rw [hb.cell (p := ⟨w.heap.size, i, none⟩) (by simp)]
  unfold World.cell?
  simp only [heap_alloc_new]
  exact hi
theorem kept_frozen {w w1 : World} {c : Array Value} {T : TypeId} (hb : Below (w.alloc (.cells c T)).heap.size (w.alloc (.cells c T)) w1) (i : Nat) : w1.frozen? ⟨w.heap.size, i, none⟩ = false := by
  rw [hb.frozen (p := ⟨w.heap.size, i, none⟩) (by simp)]
  unfold World.frozen?
  simp only [heap_alloc_new]
  simp
theorem kept_lt {w w1 : World} {c : Array Value} {T : TypeId} (hb : Below (w.alloc (.cells c T)).heap.size (w.alloc (.cells c T)) w1) : w.heap.size < w1.heap.size := by
  have := hb.size
  simp at this
  omega
theorem term_results {fn : Func} {sl : Nat} (hr : fn.results = #[.cell sl 38]) {W : World} {tmps : Array Value} {b : Nat} {x0 x1 x2 x3 : Value} (h2 : tmps.getD sl undef = .pointer (some ⟨b, 0, none⟩))
    (c0 : W.cell? ⟨b, 0, none⟩ = some x0) (c1 : W.cell? ⟨b, 1, none⟩ = some x1) (c2 : W.cell? ⟨b, 2, none⟩ = some x2) (c3 : W.cell? ⟨b, 3, none⟩ = some x3) :
    (results fn tmps).run Tryd.prog W = .ok (.agg #[x0, x1, x2, x3]) W := by
  have hl : (loadVar 38 ⟨b, 0, none⟩).run Tryd.prog W = .ok (.agg #[x0, x1, x2, x3]) W := by
    refine run_loadVar_mid W b 0 38 [x0, x1, x2, x3] _ (fun j v hj => ?_) Tryd.underlying38 rfl (by kernel_rfl)
    match j, hj with
    | 0, hj => simp at hj; subst hj; exact c0
    | 1, hj => simp at hj; subst hj; exact c1
    | 2, hj => simp at hj; subst hj; exact c2
    | 3, hj => simp at hj; subst hj; exact c3
  have e0 : results fn tmps = (do
      let x ← asAddr (tmps.getD sl undef)
      loadVar 38 x) := by
    simp [results, hr]
  rw [e0, h2]
  simp [asAddr, hl, Result.andThen]
/-- the cells of a term in block b, that may be written -/
def Own4 (w : World) (b : Nat) : Prop := (∃ y0 y1 y2 y3, w.cell? ⟨b, 0, none⟩ = some y0 ∧ w.cell? ⟨b, 1, none⟩ = some y1 ∧ w.cell? ⟨b, 2, none⟩ = some y2 ∧ w.cell? ⟨b, 3, none⟩ = some y3) ∧
  w.frozen? ⟨b, 0, none⟩ = false ∧ w.frozen? ⟨b, 1, none⟩ = false ∧ w.frozen? ⟨b, 2, none⟩ = false ∧ w.frozen? ⟨b, 3, none⟩ = false ∧ b < w.heap.size
theorem own4 {w w1 : World} {a b c d : Value} {T : TypeId} (hb : Below (w.alloc (.cells #[a, b, c, d] T)).heap.size (w.alloc (.cells #[a, b, c, d] T)) w1) : Own4 w1 w.heap.size :=
  ⟨⟨_, _, _, _, kept_cell hb 0 _ rfl, kept_cell hb 1 _ rfl, kept_cell hb 2 _ rfl, kept_cell hb 3 _ rfl⟩, kept_frozen hb 0, kept_frozen hb 1, kept_frozen hb 2, kept_frozen hb 3, kept_lt hb⟩
theorem Own4.below {w w1 : World} {b : Nat} (h : Own4 w b) (hb : Below w.heap.size w w1) : Own4 w1 b := by
  obtain ⟨⟨y0, y1, y2, y3, c0, c1, c2, c3⟩, f0, f1, f2, f3, hl⟩ := h
  refine ⟨⟨y0, y1, y2, y3, ?_, ?_, ?_, ?_⟩, ?_, ?_, ?_, ?_, Nat.lt_of_lt_of_le hl hb.size⟩
  all_goals first | rw [hb.cell (by exact hl)]; assumption | rw [hb.frozen (by exact hl)]; assumption
theorem term_done {fn : Func} {sl : Nat} (hr : fn.results = #[.cell sl 38]) {w w1 : World} {tmps : Array Value} {b : Nat} {x0 x1 x2 x3 v : Value}
    (ho : Own4 w1 b) (hB : w.heap.size ≤ b) (hb : Below w.heap.size w w1)
    (h2 : tmps.getD sl undef = .pointer (some ⟨b, 0, none⟩)) (hv : v = .agg #[x0, x1, x2, x3]) :
    bodyPost Tryd.prog fn (fun e w' => e = .returned v ∧ Below w.heap.size w w') .ret { tmps := tmps, defers := [] }
      ((((w1.setCell ⟨b, 0, none⟩ x0).setCell ⟨b, 1, none⟩ x1).setCell ⟨b, 2, none⟩ x2).setCell ⟨b, 3, none⟩ x3) := by
  obtain ⟨⟨y0, y1, y2, y3, c0, c1, c2, c3⟩, f0, f1, f2, f3, hl⟩ := ho
  refine bodyPost_ret (term_results hr (x0 := x0) (x1 := x1) (x2 := x2) (x3 := x3) h2 ?_ ?_ ?_ ?_) rfl ⟨by rw [hv], ?_⟩
  · go_simp
  · go_simp
  · go_simp
  · go_simp
  · exact ((((hb.setCell (p := ⟨b, 0, none⟩) hB _).setCell (p := ⟨b, 1, none⟩) hB _).setCell (p := ⟨b, 2, none⟩) hB _).setCell (p := ⟨b, 3, none⟩) hB _)

theorem atP_wf {l : List P} (h : ∀ t ∈ l, t.wf) (i : Nat) : (atP l i).wf := by
  by_cases hi : i < l.length
  · rw [atP_eq hi]; exact h _ (List.getElem_mem hi)
  · unfold atP
    rw [List.getD, List.getElem?_eq_none (by omega)]
    exact ⟨by decide, T0.ok⟩
theorem res_wf {s : List P} (hs : ∀ p ∈ s, p.wf) {t : T} (ht : t.wf) : (res s t).wf := by
  unfold res
  cases hf : s.find? (fun p => decide (p.v = t.v)) with
  | none => exact ht
  | some p => exact (hs p (List.mem_of_find?_eq_some hf)).term
theorem bind_wf {s : List P} (hs : ∀ p ∈ s, p.wf) {n : ByteArray} {t : T} (hn : n.size ≤ maxLen) (ht : t.wf) : ∀ p ∈ bindP s n t, p.wf := by
  intro p hp
  unfold bindP at hp
  rw [List.mem_append] at hp
  rcases hp with hp | hp
  · obtain ⟨q, hq, rfl⟩ := List.mem_map.1 hp
    have := hs q hq
    split
    · exact ⟨this.text, ht⟩
    · exact this
  · obtain rfl := List.mem_singleton.1 hp
    exact ⟨hn, ht⟩
/-- as long as no pair is found, what stands for the term is what stands for it under the rest -/
theorem res_drop {s : List P} {t : T} {k : Nat} (h : k < s.length) : res (s.drop k) t = if (atP s k).v = t.v then (atP s k).t else res (s.drop (k + 1)) t := by
  rw [List.drop_eq_getElem_cons h, atP_eq h]
  unfold res
  rw [List.find?_cons]
  by_cases e : s[k].v = t.v
  · simp [e]
  · simp [e]
theorem eq_bytes (a b : ByteArray) : (a.toList == b.toList) = decide (a = b) := by
  by_cases h : a = b
  · subst h; simp
  · have : ¬ a.toList = b.toList := fun e => h (toList_inj e)
    rw [decide_eq_false h, beq_eq_false_iff_ne]
    exact this

set_option maxHeartbeats 1600000 in
theorem resolve_any (v : Value) (s : List P) (t : T) (w : World) (hl : Lp w v s) (ht : t.wf) : Calls Tryd.prog 17 #[v, .agg #[.string t.v, .int .i8 t.a.k, .int .i64 t.a.n, .string t.a.s]] w fun e w' => e = .returned (.agg #[.string (res s t).v, .int .i8 (res s t).a.k, .int .i64 (res s t).a.n, .string (res s t).a.s]) ∧ Below w.heap.size w w' := by
  obtain ⟨a, c, rfl, hc1, hc2, hat⟩ := hl.form
  have hmax : s.length ≤ maxLen := Nat.le_trans hc1 hc2
  unfold maxLen at hmax
  obtain ⟨r, HR⟩ : ∃ r, Hid (res s t = r) := ⟨_, rfl⟩
  rw [HR.out]
  have b0 := ((Below.refl w.heap.size w).alloc (Nat.le_refl _) (.cells #[.string t.v, .int .i8 t.a.k, .int .i64 t.a.n, .string t.a.s] 38)).alloc (by simp) (.cells #[.string ⟨#[]⟩, .int .i8 0, .int .i64 0, .string ⟨#[]⟩] 38)
  have HO0 : Hid (Own4 ((w.alloc (.cells #[.string t.v, .int .i8 t.a.k, .int .i64 t.a.n, .string t.a.s] 38)).alloc (.cells #[.string ⟨#[]⟩, .int .i8 0, .int .i64 0, .string ⟨#[]⟩] 38)) (w.heap.size + 1)) := by
    have := own4 (Below.refl _ ((w.alloc (.cells #[.string t.v, .int .i8 t.a.k, .int .i64 t.a.n, .string t.a.s] 38)).alloc (.cells #[.string ⟨#[]⟩, .int .i8 0, .int .i64 0, .string ⟨#[]⟩] 38)))
    show Own4 _ _
    simpa using this
  have HT0 : Hid (TAt ((w.alloc (.cells #[.string t.v, .int .i8 t.a.k, .int .i64 t.a.n, .string t.a.s] 38)).alloc (.cells #[.string ⟨#[]⟩, .int .i8 0, .int .i64 0, .string ⟨#[]⟩] 38)) w.heap.size 0 t) := by
    refine ⟨?_, ?_, ?_, ?_⟩ <;> go_simp
  go_enter Tryd.func17, Tryd.ntmps17
  go_wp2
  generalize (w.alloc (.cells #[.string t.v, .int .i8 t.a.k, .int .i64 t.a.n, .string t.a.s] 38)).alloc (.cells #[.string ⟨#[]⟩, .int .i8 0, .int .i64 0, .string ⟨#[]⟩] 38) = W at b0 HO0 HT0 ⊢
  have HB : Hid (Below w.heap.size w W) := b0
  clear b0
  go_loopw [9] (fun i wr => ∃ k : Nat, k ≤ s.length ∧ i = .int .i64 k ∧ Below W.heap.size W wr ∧ Hid (res (s.drop k) t = r)) (fun i _ => s.length - (intOf i).toNat)
  case atStart => exact ⟨0, Nat.zero_le _, rfl, Below.refl _ _, HR⟩
  case round =>
    obtain ⟨k, hk, rfl, bel, HS⟩ := hrel
    have HOr : Hid _ := Own4.below HO0.out bel
    have hWb : w.heap.size + 1 < W.heap.size := HO0.out.2.2.2.2.2
    have hbf : Below w.heap.size w wr := HB.out.trans (bel.mono HB.out.size)
    have HTr : Hid _ := HT0.out.below bel (by omega)
    have hlo := HOr.out.2.2.2.2.2
    by_cases hlt : k < s.length
    · have hlt' : (k : Int) < (s.length : Int) := by omega
      obtain ⟨g, off, rfl, hg, hT⟩ := hat (by omega)
      obtain ⟨x0, x1, x2, x3, x4⟩ := (hT k hlt).below hbf hg
      have HD : Hid (res (s.drop k) t = if (atP s k).v = t.v then (atP s k).t else res (s.drop (k + 1)) t) := res_drop hlt
      have hE := eq_bytes (atP s k).v t.v
      generalize atP s k = p at x0 x1 x2 x3 x4 HD hE
      clear hat hT
      have BA := (Below.refl wr.heap.size wr).alloc (Nat.le_refl _) (.cells #[.string p.v, .string p.t.v, .int .i8 p.t.a.k, .int .i64 p.t.a.n, .string p.t.a.s] 40)
      have HO2 : Hid _ := Own4.below HOr.out BA
      obtain ⟨t0, t1, t2, t3⟩ := HTr.out.below BA (by omega)
      obtain ⟨⟨y0, y1, y2, y3, o0, o1, o2, o3⟩, f0, f1, f2, f3, _⟩ := HO2.out
      obtain ⟨⟨z0, z1, z2, z3, q0, q1, q2, q3⟩, g0, g1, g2, g3, _⟩ := HOr.out
      have hne1 : ¬ w.heap.size + 1 = wr.heap.size := by omega
      have hne2 : ¬ wr.heap.size = w.heap.size + 1 := by omega
      by_cases e : p.v = t.v
      · rw [decide_eq_true e] at hE
        have HV : Hid (p.t = r) := by show p.t = r; rw [← HS.out, HD.out, if_pos e]
        clear HS HD e
        go_wp2
        refine bodyPost_ret (term_results Tryd.results17 (b := w.heap.size + 1) (x0 := .string p.t.v) (x1 := .int .i8 p.t.a.k) (x2 := .int .i64 p.t.a.n) (x3 := .string p.t.a.s) ?_ ?_ ?_ ?_ ?_) rfl ⟨by rw [HV.out], ?_⟩
        · rfl
        · go_simp
        · go_simp
        · go_simp
        · go_simp
        · exact ((((hbf.setCell (p := ⟨w.heap.size + 1, 0, none⟩) (by simp) _).setCell (p := ⟨w.heap.size + 1, 1, none⟩) (by simp) _).setCell (p := ⟨w.heap.size + 1, 2, none⟩) (by simp) _).setCell (p := ⟨w.heap.size + 1, 3, none⟩) (by simp) _).alloc (by have := hbf.size; simp; omega) _
      · rw [decide_eq_false e] at hE
        have HV : Hid (res (s.drop (k + 1)) t = r) := by show _ = r; rw [← HS.out, HD.out, if_neg e]
        clear HS HD e
        go_wp2
        go_roundw
        case rel => exact ⟨k + 1, by omega, by go_num, bel.alloc bel.size _, HV⟩
        case measure => simp [intOf]; omega
    · obtain rfl : k = s.length := by omega
      have HV : Hid (t = r) := by show t = r; rw [← HS.out, List.drop_length]; rfl
      clear HS
      obtain ⟨t0, t1, t2, t3⟩ := HTr.out
      simp only [Nat.zero_add] at t1 t2 t3
      obtain ⟨⟨y0, y1, y2, y3, o0, o1, o2, o3⟩, f0, f1, f2, f3, _⟩ := HOr.out
      go_wp2
      refine term_done Tryd.results17 (b := w.heap.size + 1) HOr.out (by omega) hbf ?_ ?_
      · rfl
      · rw [← HV.out]
theorem own_set {w : World} {B : Nat} {e : TypeId} {k g n cap : Nat} {xs : List Value} (h : w.ownsRow B e k (.slice (some ⟨g, 0, none⟩) n cap) n xs) {i : Nat} (hi : i < xs.length) (u : Value) : (w.setCell ⟨g, i, none⟩ u).ownsRow B e k (.slice (some ⟨g, 0, none⟩) n cap) n (xs.set i u) := by
  obtain ⟨hl, ⟨h1, _⟩ | ⟨g', cap', cur, hv, h0, hb, hn, hc, hs, ht⟩⟩ := h
  · cases h1
  · cases hv
    refine ⟨by simp [hl], .inr ⟨g, cap, cur.setIfInBounds i u, rfl, h0, heap_setCell_same w g i cur e u hb, hn, hc, by simp [hs], ?_⟩⟩
    rw [Array.toList_setIfInBounds, List.take_set, ht]
theorem own_cell {w : World} {B : Nat} {e : TypeId} {k g n cap : Nat} {xs : List Value} (h : w.ownsRow B e k (.slice (some ⟨g, 0, none⟩) n cap) n xs) {i : Nat} {u : Value} (hi : xs[i]? = some u) : w.cell? ⟨g, i, none⟩ = some u ∧ w.frozen? ⟨g, i, none⟩ = false ∧ g < w.heap.size ∧ B ≤ g := by
  obtain ⟨hl, ⟨h1, _⟩ | ⟨g', cap', cur, hv, h0, hb, hn, hc, hs, ht⟩⟩ := h
  · cases h1
  · cases hv
    refine ⟨?_, ?_, (Array.getElem?_eq_some_iff.1 hb).1, h0⟩
    · rw [← ht, List.getElem?_take] at hi
      split at hi
      · unfold World.cell?
        simp only [hb]
        simpa using hi
      · cases hi
    · unfold World.frozen?
      simp only [hb]
      simp
/-- the pairs, the first k of them with the term put in the variable's place -/
def bindTo (s : List P) (n : ByteArray) (t : T) (k : Nat) : List P := (s.take k).map (fun p => if p.t.v = n then ⟨p.v, t⟩ else p) ++ s.drop k
theorem bindTo_length (s : List P) (n : ByteArray) (t : T) (k : Nat) : (bindTo s n t k).length = s.length := by
  simp [bindTo]; omega
theorem bindTo_at (s : List P) (n : ByteArray) (t : T) {k : Nat} (h : k < s.length) : atP (bindTo s n t k) k = atP s k := by
  rw [atP_eq (by rw [bindTo_length]; exact h), atP_eq h]
  unfold bindTo
  rw [List.getElem_append_right (by simp; omega)]
  simp [List.getElem_drop, Nat.min_eq_left (Nat.le_of_lt h)]
theorem bindTo_next (s : List P) (n : ByteArray) (t : T) {k : Nat} (h : k < s.length) : bindTo s n t (k + 1) = (bindTo s n t k).set k (if (atP s k).t.v = n then ⟨(atP s k).v, t⟩ else atP s k) := by
  have e : s.take (k + 1) = s.take k ++ [s[k]] := by rw [List.take_add_one, List.getElem?_eq_getElem h]; rfl
  have e2 : s.drop k = s[k] :: s.drop (k + 1) := List.drop_eq_getElem_cons h
  unfold bindTo
  rw [e, List.map_append, atP_eq h]
  conv => rhs; rw [e2]
  have hl : ((s.take k).map (fun p : P => if p.t.v = n then (⟨p.v, t⟩ : P) else p)).length = k := by simp; omega
  rw [List.set_append_right _ _ (by rw [hl]; exact Nat.le_refl _), hl]
  simp
  rw [e2]
  rfl
theorem set_same {α : Type} (l : List α) (k : Nat) (h : k < l.length) : l.set k l[k] = l := by simp
theorem flat_set (f : P → List Value) (hk : ∀ x, (f x).length = 5) : ∀ (l : List P) (k : Nat) (x : P), k < l.length → (l.set k x).flatMap f = (l.flatMap f).take (k * 5) ++ f x ++ (l.flatMap f).drop (k * 5 + 5)
  | [], k, x, h => absurd h (by simp)
  | y :: r, 0, x, _ => by
    simp only [List.set_cons_zero, List.flatMap_cons, Nat.zero_mul, List.take_zero, List.nil_append, Nat.zero_add]
    congr 1
    rw [List.drop_append_of_le_length (by rw [hk]; exact Nat.le_refl _), List.drop_of_length_le (by rw [hk]; exact Nat.le_refl _)]
    rfl
  | y :: r, k + 1, x, h => by
    have ih := flat_set f hk r k x (by simpa using h)
    simp only [List.set_cons_succ, List.flatMap_cons]
    rw [ih, Nat.succ_mul]
    have e1 : (f y ++ r.flatMap f).take (k * 5 + 5) = f y ++ (r.flatMap f).take (k * 5) := by
      rw [List.take_append, hk, List.take_of_length_le (by rw [hk]; omega)]
      congr 2
    have e2 : (f y ++ r.flatMap f).drop (k * 5 + 5 + 5) = (r.flatMap f).drop (k * 5 + 5) := by
      rw [List.drop_append, hk, List.drop_of_length_le (by rw [hk]; omega), List.nil_append]
      congr 1
    rw [e1, e2]
    simp [List.append_assoc]
theorem four_sets {l : List Value} {i : Nat} {a b c d a' b' c' d' z : Value} {pre post : List Value} (h : l = pre ++ [z, a, b, c, d] ++ post) (hi : pre.length = i) : (((l.set (i + 1) a').set (i + 1 + 1) b').set (i + 1 + 2) c').set (i + 1 + 3) d' = pre ++ [z, a', b', c', d'] ++ post := by
  subst h hi
  have n1 : ∀ j x (l : List Value), (pre ++ l).set (pre.length + j) x = pre ++ l.set j x := by
    intro j x l
    rw [List.set_append_right _ _ (by omega)]
    congr 2
    omega
  rw [List.append_assoc, show pre.length + 1 + 1 = pre.length + 2 from rfl, show pre.length + 1 + 2 = pre.length + 3 from rfl, show pre.length + 1 + 3 = pre.length + 4 from rfl, n1, n1, n1, n1]
  simp
theorem split_at (s : List P) {k : Nat} (h : k < s.length) : s.flatMap P.cells = (s.flatMap P.cells).take (k * 5) ++ (atP s k).cells ++ (s.flatMap P.cells).drop (k * 5 + 5) := by
  have := flat_set P.cells (fun _ => rfl) s k (atP s k) h
  rw [atP_eq h, set_same] at this
  rw [atP_eq h]
  exact this
theorem pre_len (s : List P) {k : Nat} (h : k < s.length) : ((s.flatMap P.cells).take (k * 5)).length = k * 5 := by
  rw [List.length_take, flat_len P.cells 5 (fun _ => rfl)]
  omega
theorem infoP : (Tryd.prog.info? 40).map (fun i => (i.zero, i.size, i.bytes)) = some (some (.agg #[.string ⟨#[]⟩, .string ⟨#[]⟩, .int .i8 0, .int .i64 0, .string ⟨#[]⟩]), 5, 64) := by kernel_rfl
theorem bindTo_same (s : List P) (n : ByteArray) (t : T) {k : Nat} (h : k < s.length) (e : ¬ (atP s k).t.v = n) : bindTo s n t (k + 1) = bindTo s n t k := by
  have hl : k < (bindTo s n t k).length := by rw [bindTo_length]; exact h
  rw [bindTo_next s n t h, if_neg e, ← bindTo_at s n t h, atP_eq hl, set_same]
theorem bindTo_full (s : List P) (n : ByteArray) (t : T) : bindTo s n t s.length ++ [⟨n, t⟩] = bindP s n t := by
  simp [bindTo, bindP]
theorem own_bind {w : World} {B g cap : Nat} {s : List P} {n : ByteArray} {t : T} {k : Nat} (h : k < s.length) (e : (atP s k).t.v = n) (ho : w.ownsRow B 40 5 (.slice (some ⟨g, 0, none⟩) s.length cap) s.length ((bindTo s n t k).flatMap P.cells)) :
    ((((w.setCell ⟨g, k * 5 + 1, none⟩ (.string t.v)).setCell ⟨g, k * 5 + 1 + 1, none⟩ (.int .i8 t.a.k)).setCell ⟨g, k * 5 + 1 + 2, none⟩ (.int .i64 t.a.n)).setCell ⟨g, k * 5 + 1 + 3, none⟩ (.string t.a.s)).ownsRow B 40 5 (.slice (some ⟨g, 0, none⟩) s.length cap) s.length ((bindTo s n t (k + 1)).flatMap P.cells) := by
  have hl : k < (bindTo s n t k).length := by rw [bindTo_length]; exact h
  have hfl := flat_len P.cells 5 (fun _ => rfl) (bindTo s n t k)
  rw [bindTo_length] at hfl
  have o1 := own_set ho (i := k * 5 + 1) (by omega) (.string t.v)
  have o2 := own_set o1 (i := k * 5 + 1 + 1) (by simp only [List.length_set]; omega) (.int .i8 t.a.k)
  have o3 := own_set o2 (i := k * 5 + 1 + 2) (by simp only [List.length_set]; omega) (.int .i64 t.a.n)
  have o4 := own_set o3 (i := k * 5 + 1 + 3) (by simp only [List.length_set]; omega) (.string t.a.s)
  have hs := split_at (bindTo s n t k) hl
  rw [bindTo_at s n t h] at hs
  rw [four_sets (z := .string (atP s k).v) (a := .string (atP s k).t.v) (b := .int .i8 (atP s k).t.a.k) (c := .int .i64 (atP s k).t.a.n) (d := .string (atP s k).t.a.s) hs (pre_len _ hl)] at o4
  rw [bindTo_next s n t h, if_pos e, flat_set P.cells (fun _ => rfl) _ _ _ hl]
  exact o4
theorem TAt.set_far {w : World} {b o : Nat} {t : T} (h : TAt w b o t) (a : Addr) (u : Value) (hn : a.block ≠ b) : TAt (w.setCell a u) b o t := by
  have hb : ∀ j, (w.setCell a u).cell? ⟨b, j, none⟩ = w.cell? ⟨b, j, none⟩ := by
    intro j
    unfold World.cell?
    rw [heap_setCell_other w a b u (Ne.symm hn)]
  exact ⟨by rw [hb]; exact h.c0, by rw [hb]; exact h.c1, by rw [hb]; exact h.c2, by rw [hb]; exact h.c3⟩
set_option maxHeartbeats 1600000 in
theorem bind_any (B : Nat) (sv : Value) (s : List P) (n : ByteArray) (t : T) (w : World) (hB : B ≤ w.heap.size) (hown : w.ownsRow B 40 5 sv s.length (s.flatMap P.cells)) (h24 : s.length ≤ 1000) :
    Calls Tryd.prog 18 #[sv, .string n, .agg #[.string t.v, .int .i8 t.a.k, .int .i64 t.a.n, .string t.a.s]] w fun e w' => ∃ sv', e = .returned sv' ∧ w'.ownsRow B 40 5 sv' (bindP s n t).length ((bindP s n t).flatMap P.cells) ∧ Below B w w' := by
  obtain ⟨i0, hi0, hz0, hz1, hz2⟩ := info_parts infoP
  obtain ⟨a, c, rfl, hlo⟩ := own_form hown
  have hblk : ∀ g, (Value.slice a s.length c).ownBlock = some g → B ≤ g ∧ g < w.heap.size := fun g hg => hown.lt g hg
  have hT0 : TAt (w.alloc (.cells #[.string t.v, .int .i8 t.a.k, .int .i64 t.a.n, .string t.a.s] 38)) w.heap.size 0 t := by
    refine ⟨?_, ?_, ?_, ?_⟩ <;> go_simp
  have hb0 := (Below.refl B w).alloc hB (.cells #[.string t.v, .int .i8 t.a.k, .int .i64 t.a.n, .string t.a.s] 38)
  have ho0 : (w.alloc (.cells #[.string t.v, .int .i8 t.a.k, .int .i64 t.a.n, .string t.a.s] 38)).ownsRow B 40 5 (.slice a s.length c) s.length (s.flatMap P.cells) := own_below hown ((Below.refl _ _).alloc (Nat.le_refl _) _)
  have hsz : w.heap.size < (w.alloc (.cells #[.string t.v, .int .i8 t.a.k, .int .i64 t.a.n, .string t.a.s] 38)).heap.size := by simp
  go_enter Tryd.func18, Tryd.ntmps18
  go_wp2
  generalize w.alloc (.cells #[.string t.v, .int .i8 t.a.k, .int .i64 t.a.n, .string t.a.s] 38) = W at hT0 hb0 ho0 hsz ⊢
  go_loopw [10] (fun i wr => ∃ k : Nat, k ≤ s.length ∧ i = .int .i64 k ∧ Below B w wr ∧ w.heap.size < wr.heap.size ∧ TAt wr w.heap.size 0 t ∧ wr.ownsRow B 40 5 (.slice a s.length c) s.length ((bindTo s n t k).flatMap P.cells)) (fun i _ => s.length - (intOf i).toNat)
  case atStart => exact ⟨0, Nat.zero_le _, rfl, hb0, hsz, hT0, by simpa [bindTo] using ho0⟩
  case round =>
    obtain ⟨k, hk, rfl, bel, hszr, hT, ho⟩ := hrel
    have HT : Hid _ := hT
    obtain ⟨t0, t1, t2, t3⟩ := hT
    simp only [Nat.zero_add] at t1 t2 t3
    by_cases hlt : k < s.length
    · have hlt' : (k : Int) < (s.length : Int) := by omega
      obtain ⟨_, ⟨h1, h2⟩ | ⟨g, cap, _, hv, _⟩⟩ := id ho
      · omega
      cases hv
      obtain ⟨hBg, hgw⟩ := hblk g rfl
      have hcell : ∀ j u, j < 5 → (P.cells (atP s k))[j]? = some u → ((bindTo s n t k).flatMap P.cells)[k * 5 + j]? = some u := by
        intro j u hj hu
        have := flat_at P.cells 5 (fun _ => rfl) P0 (bindTo s n t k) k j (by rw [bindTo_length]; exact hlt) hj
        rw [this]
        show (P.cells (atP (bindTo s n t k) k))[j]? = some u
        rw [bindTo_at s n t hlt]
        exact hu
      obtain ⟨x1, f1, _, _⟩ := own_cell ho (hcell 1 _ (by omega) rfl)
      obtain ⟨x2, f2, _, _⟩ := own_cell ho (hcell 2 _ (by omega) rfl)
      obtain ⟨x3, f3, _, _⟩ := own_cell ho (hcell 3 _ (by omega) rfl)
      obtain ⟨x4, f4, hgl, _⟩ := own_cell ho (hcell 4 _ (by omega) rfl)
      have hE := eq_bytes (atP s k).t.v n
      have hne1 : ¬ g = w.heap.size := by omega
      have hne2 : ¬ w.heap.size = g := by omega
      have HOK : Hid _ := ho
      clear ho hcell hown ho0 hT0 hb0
      by_cases e : (atP s k).t.v = n
      · rw [decide_eq_true e] at hE
        have HN : Hid _ := own_bind hlt e HOK.out
        clear e
        generalize (atP s k).t.v = q at *
        go_wp2
        go_roundw
        case rel =>
          refine ⟨k + 1, by omega, by go_num, ((((bel.setCell (p := ⟨g, k * 5 + 1, none⟩) hBg _).setCell (p := ⟨g, k * 5 + 1 + 1, none⟩) hBg _).setCell (p := ⟨g, k * 5 + 1 + 2, none⟩) hBg _).setCell (p := ⟨g, k * 5 + 1 + 3, none⟩) hBg _), by simpa using hszr, ?_, HN.out⟩
          exact (((HT.out.set_far _ _ hne1).set_far _ _ hne1).set_far _ _ hne1).set_far _ _ hne1
        case measure => simp [intOf]; omega
      · rw [decide_eq_false e] at hE
        have HN : Hid _ := bindTo_same s n t hlt e
        clear e
        go_wp2
        go_roundw
        case rel => exact ⟨k + 1, by omega, by go_num, bel, hszr, HT.out, by rw [HN.out]; exact HOK.out⟩
        case measure => simp [intOf]; omega
    · obtain rfl : k = s.length := by omega
      have HF : Hid _ := bindTo_full s n t
      clear hown ho0 hT0 hb0
      go_wp2_with (at_builtin; refine wpList_append_own_at _ rfl _ _ 26 rfl B 40 i0 _ 5 64 Tryd.underlying26 hi0 hz0 hz1 hz2 rfl (by decide) _ _ _ rfl (own_below ho ((Below.refl _ _).alloc (Nat.le_refl _) _)) ⟨_, 0, none⟩ 1 1 [.string n, .string t.v, .int .i8 t.a.k, .int .i64 t.a.n, .string t.a.s] rfl rfl (lit_news _ #[.string n, .string t.v, .int .i8 t.a.k, .int .i64 t.a.n, .string t.a.s] _) (by simp [Value.oneCell']) (by unfold maxLen; omega) (by omega) (by have := bel.size; simp; omega) ?_; intro v' w2 hown' hgrow hnil hloc)
      go_ret
      refine ⟨_, rfl, ?_, (bel.alloc (by omega) _).grown hgrow (by simp; omega) (fun j hj => (ho.lt j hj).1)⟩
      rw [← HF.out, List.flatMap_append, List.length_append, bindTo_length]
      exact hown'
end Go.Proofs.YtnpmhgjbfkgmdaaDoor
