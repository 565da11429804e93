import Derived.Test.YteabclfhmapabaaDoorA33
section
namespace Go.Proofs.YteabclfhmapabaaDoor
open Go.RowKit Go.Maps
set_option linter.unusedVariables false
set_option linter.unusedSimpArgs false
attribute [local go_sem ↓] Go.wp_at_zero Go.wp_at_succ

theorem lcells_one (xs : List XL) : ∀ u ∈ xs.flatMap XL.cells, u.oneCell' = true := by
  intro u hu
  rw [List.mem_flatMap] at hu
  obtain ⟨t, _, ht⟩ := hu
  simp [XL.cells] at ht
  rcases ht with rfl | rfl | rfl | rfl | rfl | rfl | rfl | rfl | rfl | rfl | rfl | rfl | rfl | rfl | rfl | rfl <;> rfl
theorem acells_one (xs : List A5) : ∀ u ∈ xs.flatMap A5.cells, u.oneCell' = true := by
  intro u hu
  rw [List.mem_flatMap] at hu
  obtain ⟨t, _, ht⟩ := hu
  simp [A5.cells] at ht
  rcases ht with rfl | rfl | rfl | rfl | rfl <;> rfl
theorem flatL_len (l : List XL) : (l.flatMap XL.cells).length = l.length * 16 := flat_len XL.cells 16 (fun _ => rfl) l
theorem set_same {α : Type} {l : List α} {i : Nat} {v : α} (h : l[i]? = some v) : l.set i v = l := by
  obtain ⟨h1, h2⟩ := List.getElem?_eq_some_iff.1 h
  rw [← h2]
  exact List.set_getElem_self h1
/-- one cell of an element written -/
theorem set_cell {α : Type} {f : α → List Value} {n : Nat} (hf : ∀ x, (f x).length = n) : ∀ (l : List α) (k j : Nat) (y : α) (v : Value), (hk : k < l.length) → j < n → f y = (f l[k]).set j v → (l.flatMap f).set (k * n + j) v = (l.set k y).flatMap f
  | [], k, j, y, v, hk, _, _ => absurd hk (by simp)
  | x :: r, 0, j, y, v, hk, hj, e => by
    simp only [List.flatMap_cons, List.set_cons_zero, Nat.zero_mul, Nat.zero_add]
    rw [List.set_append_left _ _ (by rw [hf]; exact hj)]
    simp only [List.getElem_cons_zero] at e
    rw [e]
  | x :: r, k + 1, j, y, v, hk, hj, e => by
    simp only [List.flatMap_cons, List.set_cons_succ]
    rw [List.set_append_right _ _ (by rw [hf, Nat.succ_mul]; omega), hf, show (k + 1) * n + j - n = k * n + j by rw [Nat.succ_mul]; omega]
    rw [set_cell hf r k j y v (by simpa using hk) hj (by simpa using e)]
theorem atL_set {l : List XL} {i k : Nat} {x : XL} (hk : k < l.length) : atL (l.set k x) i = if i = k then x else atL l i := by
  unfold atL
  rw [List.getD_eq_getElem?_getD, List.getD_eq_getElem?_getD, List.getElem?_set]
  by_cases e : k = i
  · subst e; simp [hk]
  · rw [if_neg e, if_neg (fun q => e q.symm)]
theorem AB.nodup {w : World} {hd : List A5} {a : Option Addr} {c : Nat} {bl : List Nat} (h : AB w hd a c bl) : bl.Nodup := by
  rcases h.lies with ⟨_, h1⟩ | ⟨g, ha, hg, hbl, hf, hx⟩
  · rw [h1]; exact List.nodup_nil
  · rw [hbl]; simp
/-- what cloneRule keeps: the rule's box, the result, the head's copy, the body's row; fb: the blocks that its literals' copies lie in -/
structure CrS (w : World) (pr : ByteArray) (hd : List A5) (ha : Option Addr) (hc : Nat) (l1 : List Nat) (bd : List XL) (g c : Nat) (xs : List XL) (fb : List Nat) (wr : World) : Prop where
  bel : Below w.heap.size w wr
  bz : w.heap.size + 2 ≤ wr.heap.size
  r0 : RL wr w.heap.size 25 [.string pr, .slice ha hd.length hc, .slice (some ⟨g, 0, none⟩) bd.length c]
  r1 : RL wr (w.heap.size + 1) 25 [.string ⟨#[]⟩, .slice none 0 0, .slice none 0 0]
  ab : AB wr hd ha hc l1
  own : wr.ownsRow (w.heap.size + 2) 56 16 (.slice (some ⟨g, 0, none⟩) bd.length c) bd.length (xs.flatMap XL.cells)
  es : xs.map XL.x = bd.map XL.x
  lo : ∀ b ∈ l1 ++ fb, w.heap.size + 2 ≤ b
  lt : ∀ b ∈ fb, b < wr.heap.size
  nd : (l1 ++ g :: fb).Nodup
theorem CrS.len {w : World} {pr : ByteArray} {hd : List A5} {ha : Option Addr} {hc : Nat} {l1 : List Nat} {bd : List XL} {g c : Nat} {xs : List XL} {fb : List Nat} {wr : World} (h : CrS w pr hd ha hc l1 bd g c xs fb wr) : xs.length = bd.length := by
  have := congrArg List.length h.es
  simpa using this
theorem CrS.step {w : World} {pr : ByteArray} {hd : List A5} {ha : Option Addr} {hc : Nat} {l1 : List Nat} {bd : List XL} {g c : Nat} {xs xs' : List XL} {fb : List Nat} {wr w2 w3 : World} (h : CrS w pr hd ha hc l1 bd g c xs fb wr) (b2 : Below wr.heap.size wr w2) {bl : List Nat} (hlo : ∀ b ∈ bl, wr.heap.size ≤ b) (hlt : ∀ b ∈ bl, b < w2.heap.size) (hnd : bl.Nodup)
    (hs : w3.heap.size = w2.heap.size) (ho : ∀ b, b ≠ g → w3.heap[b]? = w2.heap[b]?) (hb : Below w.heap.size w w3) (hown : w3.ownsRow (w.heap.size + 2) 56 16 (.slice (some ⟨g, 0, none⟩) bd.length c) bd.length (xs'.flatMap XL.cells)) (he : xs'.map XL.x = xs.map XL.x) :
    CrS w pr hd ha hc l1 bd g c xs' (fb ++ bl) w3 ∧ (∀ b ∈ fb, w3.heap[b]? = wr.heap[b]?) := by
  have hg := h.own.lt g rfl
  obtain ⟨n1, n2, n3⟩ := List.nodup_append.1 h.nd
  obtain ⟨n4, n5⟩ := List.nodup_cons.1 n2
  have hz := h.bz
  have hz2 := b2.size
  have kl : ∀ b, b < wr.heap.size → b ≠ g → w3.heap[b]? = wr.heap[b]? := fun b hb hn => (ho b hn).trans (b2.block b hb)
  refine ⟨⟨hb, by omega, ?_, ?_, ?_, hown, he.trans h.es, fun b hb => ?_, fun b hb => ?_, ?_⟩, fun b hb => kl b (h.lt b hb) (fun e => n4 (by rw [← e]; exact hb))⟩
  · exact World.rowIs.of_block h.r0 (kl _ (by omega) (by omega))
  · exact World.rowIs.of_block h.r1 (kl _ (by omega) (by omega))
  · exact h.ab.keep (by omega) (fun b hb => kl b (h.ab.lt b hb) (fun e => n3 b hb g (by simp) e))
  · rcases List.mem_append.1 hb with hb | hb
    · exact h.lo b (by simp [hb])
    · rcases List.mem_append.1 hb with hb | hb
      · exact h.lo b (by simp [hb])
      · have := hlo b hb; omega
  · rcases List.mem_append.1 hb with hb | hb
    · have := h.lt b hb; omega
    · have := hlt b hb; omega
  · rw [List.nodup_append, List.nodup_cons, List.nodup_append]
    refine ⟨n1, ⟨fun q => ?_, n5, hnd, fun x hx y hy e => ?_⟩, fun x hx y hy e => ?_⟩
    · rcases List.mem_append.1 q with q | q
      · exact n4 q
      · have := hlo g q; omega
    · have := hlo y hy; have := h.lt x hx; omega
    · rcases List.mem_cons.1 hy with hy | hy
      · exact n3 x hx g (by simp) (e.trans hy)
      · rcases List.mem_append.1 hy with hy | hy
        · exact n3 x hx y (by simp [hy]) e
        · have := hlo y hy; have := h.ab.lt x hx; omega
def put6x (w : World) (g o : Nat) (e : E) (s : Value) : World := (((((w.setCell ⟨g, o, none⟩ (.int .i8 e.op)).setCell ⟨g, o + 1, none⟩ (.string e.t.v)).setCell ⟨g, o + 2, none⟩ (.int .i8 e.t.a.k)).setCell ⟨g, o + 3, none⟩ (.int .i64 e.t.a.n)).setCell ⟨g, o + 4, none⟩ (.string e.t.a.s)).setCell ⟨g, o + 5, none⟩ s
theorem put6x_other (w : World) (g o : Nat) (e : E) (s : Value) {b : Nat} (h : b ≠ g) : (put6x w g o e s).heap[b]? = w.heap[b]? := by
  unfold put6x
  rw [heap_setCell_other _ _ _ _ h, heap_setCell_other _ _ _ _ h, heap_setCell_other _ _ _ _ h, heap_setCell_other _ _ _ _ h, heap_setCell_other _ _ _ _ h, heap_setCell_other _ _ _ _ h]
theorem put6x_size (w : World) (g o : Nat) (e : E) (s : Value) : (put6x w g o e s).heap.size = w.heap.size := by unfold put6x; simp only [World.size_setCell]
theorem put6x_below {B : Nat} {w0 w : World} (h : Below B w0 w) {g o : Nat} (hg : B ≤ g) (e : E) (s : Value) : Below B w0 (put6x w g o e s) :=
  (((((h.setCell (p := ⟨g, o, none⟩) hg _).setCell (p := ⟨g, o + 1, none⟩) hg _).setCell (p := ⟨g, o + 2, none⟩) hg _).setCell (p := ⟨g, o + 3, none⟩) hg _).setCell (p := ⟨g, o + 4, none⟩) hg _).setCell (p := ⟨g, o + 5, none⟩) hg _
/-- an element's slice written -/
theorem own_put1 {w : World} {B g n cap : Nat} {xs : List XL} {k j : Nat} {y : XL} {s : Value} (hk : k < xs.length) (hj : j < 16) (hy : y.cells = (xs[k]).cells.set j s) (h : w.ownsRow B 56 16 (.slice (some ⟨g, 0, none⟩) n cap) n (xs.flatMap XL.cells)) : (w.setCell ⟨g, k * 16 + j, none⟩ s).ownsRow B 56 16 (.slice (some ⟨g, 0, none⟩) n cap) n ((xs.set k y).flatMap XL.cells) := by
  rw [← set_cell (f := XL.cells) (n := 16) (fun _ => rfl) xs k j y s hk hj hy]
  exact (h.stored (k * 16 + j) s).1
theorem own_put6 {w : World} {B g n cap : Nat} {xs : List XL} {k o : Nat} {y : XL} {s : Value} {e : E} (hk : k < xs.length) (ho : o + 5 < 16) (hy : y.cells = (xs[k]).cells.set (o + 5) s) (h0 : (xs[k]).cells[o]? = some (.int .i8 e.op)) (h1 : (xs[k]).cells[o + 1]? = some (.string e.t.v)) (h2 : (xs[k]).cells[o + 2]? = some (.int .i8 e.t.a.k)) (h3 : (xs[k]).cells[o + 3]? = some (.int .i64 e.t.a.n)) (h4 : (xs[k]).cells[o + 4]? = some (.string e.t.a.s))
    (h : w.ownsRow B 56 16 (.slice (some ⟨g, 0, none⟩) n cap) n (xs.flatMap XL.cells)) : (put6x w g (k * 16 + o) e s).ownsRow B 56 16 (.slice (some ⟨g, 0, none⟩) n cap) n ((xs.set k y).flatMap XL.cells) := by
  have hat : ∀ j v, j < 16 → (xs[k]).cells[j]? = some v → (xs.flatMap XL.cells)[k * 16 + j]? = some v := fun j v hj hv => by
    have := flat_at XL.cells 16 (fun _ => rfl) XL0 xs k j hk hj
    rw [this, show xs.getD k XL0 = xs[k] from atL_eq hk]
    exact hv
  have o1 := (h.stored (k * 16 + o) (.int .i8 e.op)).1
  rw [set_same (hat o _ (by omega) h0)] at o1
  have o2 := (o1.stored (k * 16 + o + 1) (.string e.t.v)).1
  rw [Nat.add_assoc, set_same (hat (o + 1) _ (by omega) h1)] at o2
  have o3 := (o2.stored (k * 16 + o + 2) (.int .i8 e.t.a.k)).1
  rw [Nat.add_assoc _ o 2, set_same (hat (o + 2) _ (by omega) h2)] at o3
  have o4 := (o3.stored (k * 16 + o + 3) (.int .i64 e.t.a.n)).1
  rw [Nat.add_assoc _ o 3, set_same (hat (o + 3) _ (by omega) h3)] at o4
  have o5 := (o4.stored (k * 16 + o + 4) (.string e.t.a.s)).1
  rw [Nat.add_assoc _ o 4, set_same (hat (o + 4) _ (by omega) h4)] at o5
  have o6 := own_put1 (j := o + 5) hk ho hy o5
  unfold put6x
  simp only [Nat.add_assoc] at o6 ⊢
  exact o6
end Go.Proofs.YteabclfhmapabaaDoor
end
section
namespace Go.Proofs.YteabclfhmapabaaDoor
open Go.RowKit Go.Maps
set_option linter.unusedVariables false
set_option linter.unusedSimpArgs false
attribute [local go_sem ↓] Go.wp_at_zero Go.wp_at_succ

def res3 (wr : World) (b : Nat) (pr : ByteArray) (s1 s2 : Value) : World := ((wr.setCell ⟨b, 0, none⟩ (.string pr)).setCell ⟨b, 1, none⟩ s1).setCell ⟨b, 2, none⟩ s2
theorem res3_other (w : World) (g : Nat) (pr : ByteArray) (s1 s2 : Value) {b : Nat} (h : b ≠ g) : (res3 w g pr s1 s2).heap[b]? = w.heap[b]? := by
  unfold res3
  rw [heap_setCell_other _ _ _ _ h, heap_setCell_other _ _ _ _ h, heap_setCell_other _ _ _ _ h]
theorem res3_size (w : World) (g : Nat) (pr : ByteArray) (s1 s2 : Value) : (res3 w g pr s1 s2).heap.size = w.heap.size := by unfold res3; simp only [World.size_setCell]
theorem res3_below {B : Nat} {w0 w : World} (h : Below B w0 w) {g : Nat} (hg : B ≤ g) (pr : ByteArray) (s1 s2 : Value) : Below B w0 (res3 w g pr s1 s2) :=
  ((h.setCell (p := ⟨g, 0, none⟩) hg _).setCell (p := ⟨g, 1, none⟩) hg _).setCell (p := ⟨g, 2, none⟩) hg _
theorem res3_rl {w : World} {g : Nat} {t : TypeId} {a b c : Value} (h : RL w g t [a, b, c]) (pr : ByteArray) (s1 s2 : Value) : RL (res3 w g pr s1 s2) g t [.string pr, s1, s2] := ((h.set 0 _).set 1 _).set 2 _
/-- the literals that are done, and those that are not -/
structure CrD (w : World) (d : Nat) (xs : List XL) (ls : List (List Nat × List Nat × List Nat)) (fb : List Nat) (k : Nat) (wr : World) : Prop where
  len : ls.length = k
  fb : fb = (ls.map cat3).flatten
  done : ∀ i, i < xs.length → i < k → LB wr d (atL xs i).x (atL xs i).p (triAt ls i).1 (triAt ls i).2.1 (triAt ls i).2.2
  rest : ∀ i, i < xs.length → k ≤ i → LIs w d (atL xs i).x (atL xs i).p
theorem CrD.end {w : World} {d : Nat} {pr : ByteArray} {hd : List A5} {ha : Option Addr} {hc : Nat} {l1 : List Nat} {bd : List XL} {g c : Nat} {xs : List XL} {fb : List Nat} {wr : World} {ls : List (List Nat × List Nat × List Nat)} (h : CrS w pr hd ha hc l1 bd g c xs fb wr) (hd' : CrD w d xs ls fb bd.length wr) : BB wr d xs (some ⟨g, 0, none⟩) c (g :: fb) := by
  obtain ⟨a1, c1, e1, hc1, hc2, hx⟩ := own_parts h.own
  simp only [Value.slice.injEq, true_and] at e1
  obtain ⟨rfl, rfl⟩ := e1
  have hl := h.len
  have hnd := (List.nodup_append.1 h.nd).2.1
  rcases hx with ⟨_, hx⟩ | ⟨g', hg', hB, hgl, hf, hx⟩
  · cases hx
  · cases hg'
    refine ⟨by omega, hc2, .inr ⟨g, ls, rfl, hgl, by rw [hd'.fb], by rw [hd'.len, hl], hnd, hf, fun i hi => ?_⟩⟩
    have hcl : ∀ j v, j < 16 → (XL.cells (atL xs i))[j]? = some v → wr.cell? ⟨g, i * 16 + j, none⟩ = some v := fun j v hj hv => hx _ _ (by rw [flat_at XL.cells 16 (fun _ => rfl) XL0 xs i j hi hj]; exact hv)
    refine ⟨⟨hcl 0 _ (by omega) rfl, hcl 1 _ (by omega) rfl, hcl 2 _ (by omega) rfl, hcl 3 _ (by omega) rfl, ⟨hcl 4 _ (by omega) rfl, hcl 5 _ (by omega) rfl, hcl 6 _ (by omega) rfl, hcl 7 _ (by omega) rfl, hcl 8 _ (by omega) rfl, hcl 9 _ (by omega) rfl⟩, ⟨hcl 10 _ (by omega) rfl, hcl 11 _ (by omega) rfl, hcl 12 _ (by omega) rfl, hcl 13 _ (by omega) rfl, hcl 14 _ (by omega) rfl, hcl 15 _ (by omega) rfl⟩⟩, hd'.done i hi (by omega)⟩
theorem TB.nodup {w : World} {ts : List T} {a : Option Addr} {c : Nat} {bl : List Nat} (h : TB w ts a c bl) : bl.Nodup := by
  rcases h.lies with ⟨_, h1⟩ | ⟨g, ha, hg, hbl, hf, hx⟩
  · rw [h1]; exact List.nodup_nil
  · rw [hbl]; simp
/-- a round: the three lists of a literal, one behind the other -/
theorem CrD.round {w : World} {d : Nat} {pr : ByteArray} {hd : List A5} {ha : Option Addr} {hc : Nat} {l1 : List Nat} {bd : List XL} {g c : Nat} {xs : List XL} {fb : List Nat} {wr : World} {ls : List (List Nat × List Nat × List Nat)} {k : Nat} (h : CrS w pr hd ha hc l1 bd g c xs fb wr) (hD : CrD w d xs ls fb k wr) (hk : k < bd.length)
    {b1 b2 b3 : List Nat} {xs' : List XL} {w' : World} {p : LP} (h' : CrS w pr hd ha hc l1 bd g c xs' (fb ++ b1 ++ b2 ++ b3) w') (hx : xs' = xs.set k ⟨(atL xs k).x, p⟩) (hfb : ∀ b ∈ fb, w'.heap[b]? = wr.heap[b]?) (hs : wr.heap.size ≤ w'.heap.size) (ht : TB w' (atL xs k).x.ts p.a p.c b1) (hl : EB w' d (atL xs k).x.l p.la p.lc b2) (hr : EB w' d (atL xs k).x.r p.ra p.rc b3) :
    CrD w d xs' (ls ++ [(b1, b2, b3)]) (fb ++ b1 ++ b2 ++ b3) (k + 1) w' := by
  have hxl := h.len
  have hls := hD.len
  refine ⟨by simp [hls], by rw [hD.fb]; simp [cat3], fun i hi hik => ?_, fun i hi hik => ?_⟩
  · rw [hx, List.length_set] at hi
    rw [hx, atL_set (by omega)]
    by_cases e : i = k
    · subst e
      rw [if_pos rfl]
      have e2 : triAt (ls ++ [(b1, b2, b3)]) i = (b1, b2, b3) := by unfold triAt; rw [List.getD_eq_getElem?_getD, List.getElem?_append_right (by omega), hls]; simp
      rw [e2]
      have h0 := hD.rest i hi (Nat.le_refl _)
      have hnd := (List.nodup_cons.1 (List.nodup_append.1 h'.nd).2.1).2
      refine ⟨h0.kb, h0.rb, h0.pb, h0.ln, ht, hl, hr, ?_⟩
      rw [List.append_assoc, List.append_assoc] at hnd
      exact (List.nodup_append.1 hnd).2.1
    · rw [if_neg e]
      have e2 : triAt (ls ++ [(b1, b2, b3)]) i = triAt ls i := by unfold triAt; rw [List.getD_eq_getElem?_getD, List.getD_eq_getElem?_getD, List.getElem?_append_left (by omega)]
      rw [e2]
      exact (hD.done i hi (by omega)).keep hs (fun b hb => hfb b (by rw [hD.fb]; exact flat_mem (i := i) (by rw [List.length_map]; omega) (by rw [cat_at]; exact hb)))
  · rw [hx, List.length_set] at hi
    rw [hx, atL_set (by omega), if_neg (by omega)]
    exact hD.rest i hi (by omega)
theorem own_cell {w : World} {B : Nat} {g n cap : Nat} {xs : List XL} (h : w.ownsRow B 56 16 (.slice (some ⟨g, 0, none⟩) n cap) n (xs.flatMap XL.cells)) {k : Nat} (hk : k < xs.length) {j : Nat} {v : Value} (hj : j < 16) (hv : (atL xs k).cells[j]? = some v) : w.cell? ⟨g, k * 16 + j, none⟩ = some v ∧ w.frozen? ⟨g, k * 16 + j, none⟩ = false := by
  obtain ⟨a1, c1, e1, hc1, hc2, hx⟩ := own_parts h
  simp only [Value.slice.injEq, true_and] at e1
  obtain ⟨rfl, rfl⟩ := e1
  rcases hx with ⟨_, hx⟩ | ⟨g', hg', hB, hgl, hf, hx⟩
  · cases hx
  · cases hg'
    exact ⟨hx _ _ (by rw [flat_at XL.cells 16 (fun _ => rfl) XL0 xs k j hk hj]; exact hv), hf _⟩
/-- the arguments' copy is stored -/
theorem CrS.putA {w : World} {pr : ByteArray} {hd : List A5} {ha : Option Addr} {hc : Nat} {l1 : List Nat} {bd : List XL} {g c : Nat} {xs : List XL} {fb : List Nat} {wr w2 : World} (h : CrS w pr hd ha hc l1 bd g c xs fb wr) {k : Nat} (hk : k < bd.length) (b2 : Below wr.heap.size wr w2) {bl : List Nat} (hlo : ∀ b ∈ bl, wr.heap.size ≤ b) {a' : Option Addr} {c' : Nat} (ht : TB w2 (atL xs k).x.ts a' c' bl) :
    ∃ xs', xs' = xs.set k ⟨(atL xs k).x, { (atL xs k).p with a := a', c := c' }⟩ ∧ CrS w pr hd ha hc l1 bd g c xs' (fb ++ bl) (w2.setCell ⟨g, k * 16 + 2, none⟩ (.slice a' (atL xs k).x.ts.length c')) ∧ (∀ b ∈ fb, (w2.setCell ⟨g, k * 16 + 2, none⟩ (.slice a' (atL xs k).x.ts.length c')).heap[b]? = wr.heap[b]?) ∧ TB (w2.setCell ⟨g, k * 16 + 2, none⟩ (.slice a' (atL xs k).x.ts.length c')) (atL xs k).x.ts a' c' bl := by
  have hl := h.len
  have hg := h.own.lt g rfl
  have hz := h.bel.size
  have hke : atL xs k = xs[k] := atL_eq (by omega)
  obtain ⟨h1, h2⟩ := h.step (xs' := xs.set k ⟨(atL xs k).x, { (atL xs k).p with a := a', c := c' }⟩) b2 hlo ht.lt ht.nodup (by simp only [World.size_setCell]) (fun b hb => heap_setCell_other _ _ _ _ hb) ((h.bel.trans (b2.mono hz)).setCell (p := ⟨g, k * 16 + 2, none⟩) (by show _ ≤ g; omega) (.slice a' (atL xs k).x.ts.length c')) (own_put1 (by omega) (by omega) (by rw [← hke]; rfl) (own_below h.own b2)) (by rw [List.map_set]; apply set_same; rw [List.getElem?_map, List.getElem?_eq_getElem (by omega), hke]; rfl)
  exact ⟨_, rfl, h1, h2, ht.keep (by simp) (fun b hb => heap_setCell_other _ _ _ _ (by have := hlo b hb; show b ≠ g; omega))⟩
/-- the left side's copy, the right side's -/
theorem CrS.putL {w : World} {d : Nat} {pr : ByteArray} {hd : List A5} {ha : Option Addr} {hc : Nat} {l1 : List Nat} {bd : List XL} {g c : Nat} {xs : List XL} {fb : List Nat} {wr w2 : World} (h : CrS w pr hd ha hc l1 bd g c xs fb wr) {k : Nat} (hk : k < bd.length) (b2 : Below wr.heap.size wr w2) {bl : List Nat} (hlo : ∀ b ∈ bl, wr.heap.size ≤ b) {a' : Option Addr} {c' : Nat} (ht : EB w2 d (atL xs k).x.l a' c' bl) :
    ∃ xs', xs' = xs.set k ⟨(atL xs k).x, { (atL xs k).p with la := a', lc := c' }⟩ ∧ CrS w pr hd ha hc l1 bd g c xs' (fb ++ bl) (put6x w2 g (k * 16 + 4) (atL xs k).x.l (.slice a' (atL xs k).x.l.kids.length c')) ∧ (∀ b ∈ fb, (put6x w2 g (k * 16 + 4) (atL xs k).x.l (.slice a' (atL xs k).x.l.kids.length c')).heap[b]? = wr.heap[b]?) ∧ EB (put6x w2 g (k * 16 + 4) (atL xs k).x.l (.slice a' (atL xs k).x.l.kids.length c')) d (atL xs k).x.l a' c' bl := by
  have hl := h.len
  have hg := h.own.lt g rfl
  have hz := h.bel.size
  have hke : atL xs k = xs[k] := atL_eq (by omega)
  obtain ⟨h1, h2⟩ := h.step (xs' := xs.set k ⟨(atL xs k).x, { (atL xs k).p with la := a', lc := c' }⟩) b2 hlo ht.lt ht.nodup (put6x_size _ _ _ _ _) (fun b hb => put6x_other _ _ _ _ _ hb) (put6x_below (o := k * 16 + 4) (h.bel.trans (b2.mono hz)) (by show _ ≤ g; omega) (atL xs k).x.l (.slice a' (atL xs k).x.l.kids.length c')) (own_put6 (o := 4) (by omega) (by omega) (by rw [← hke]; rfl) (by rw [← hke]; rfl) (by rw [← hke]; rfl) (by rw [← hke]; rfl) (by rw [← hke]; rfl) (by rw [← hke]; rfl) (own_below h.own b2)) (by rw [List.map_set]; apply set_same; rw [List.getElem?_map, List.getElem?_eq_getElem (by omega), hke]; rfl)
  exact ⟨_, rfl, h1, h2, ht.keep (by rw [put6x_size]; exact Nat.le_refl _) (fun b hb => put6x_other _ _ _ _ _ (by have := hlo b hb; omega))⟩
theorem CrS.putR {w : World} {d : Nat} {pr : ByteArray} {hd : List A5} {ha : Option Addr} {hc : Nat} {l1 : List Nat} {bd : List XL} {g c : Nat} {xs : List XL} {fb : List Nat} {wr w2 : World} (h : CrS w pr hd ha hc l1 bd g c xs fb wr) {k : Nat} (hk : k < bd.length) (b2 : Below wr.heap.size wr w2) {bl : List Nat} (hlo : ∀ b ∈ bl, wr.heap.size ≤ b) {a' : Option Addr} {c' : Nat} (ht : EB w2 d (atL xs k).x.r a' c' bl) :
    ∃ xs', xs' = xs.set k ⟨(atL xs k).x, { (atL xs k).p with ra := a', rc := c' }⟩ ∧ CrS w pr hd ha hc l1 bd g c xs' (fb ++ bl) (put6x w2 g (k * 16 + 10) (atL xs k).x.r (.slice a' (atL xs k).x.r.kids.length c')) ∧ (∀ b ∈ fb, (put6x w2 g (k * 16 + 10) (atL xs k).x.r (.slice a' (atL xs k).x.r.kids.length c')).heap[b]? = wr.heap[b]?) ∧ EB (put6x w2 g (k * 16 + 10) (atL xs k).x.r (.slice a' (atL xs k).x.r.kids.length c')) d (atL xs k).x.r a' c' bl := by
  have hl := h.len
  have hg := h.own.lt g rfl
  have hz := h.bel.size
  have hke : atL xs k = xs[k] := atL_eq (by omega)
  obtain ⟨h1, h2⟩ := h.step (xs' := xs.set k ⟨(atL xs k).x, { (atL xs k).p with ra := a', rc := c' }⟩) b2 hlo ht.lt ht.nodup (put6x_size _ _ _ _ _) (fun b hb => put6x_other _ _ _ _ _ hb) (put6x_below (o := k * 16 + 10) (h.bel.trans (b2.mono hz)) (by show _ ≤ g; omega) (atL xs k).x.r (.slice a' (atL xs k).x.r.kids.length c')) (own_put6 (o := 10) (by omega) (by omega) (by rw [← hke]; rfl) (by rw [← hke]; rfl) (by rw [← hke]; rfl) (by rw [← hke]; rfl) (by rw [← hke]; rfl) (by rw [← hke]; rfl) (own_below h.own b2)) (by rw [List.map_set]; apply set_same; rw [List.getElem?_map, List.getElem?_eq_getElem (by omega), hke]; rfl)
  exact ⟨_, rfl, h1, h2, ht.keep (by rw [put6x_size]; exact Nat.le_refl _) (fun b hb => put6x_other _ _ _ _ _ (by have := hlo b hb; omega))⟩
end Go.Proofs.YteabclfhmapabaaDoor
end
