import Derived.Test.YtgplipfebnigiaaGreatDoorG22
section
namespace Go.Proofs.YtgplipfebnigiaaGreatDoor
open Go.RowKit Go.Maps
set_option linter.unusedVariables false
set_option linter.unusedSimpArgs false
attribute [local go_sem ↓] Go.wp_at_zero Go.wp_at_succ

theorem lcells_one (xs : List XL) : ∀ u ∈ xs.flatMap XL.cells, u.oneCell' = true := by
  intro u hu
  rw [List.mem_flatMap] at hu
  obtain ⟨t, _, ht⟩ := hu
  simp [XL.cells] at ht
  rcases ht with rfl | rfl | rfl | rfl | rfl | rfl | rfl | rfl | rfl | rfl | rfl | rfl | rfl | rfl | rfl | rfl <;> rfl
theorem acells_one (xs : List A5) : ∀ u ∈ xs.flatMap A5.cells, u.oneCell' = true := by
  intro u hu
  rw [List.mem_flatMap] at hu
  obtain ⟨t, _, ht⟩ := hu
  simp [A5.cells] at ht
  rcases ht with rfl | rfl | rfl | rfl | rfl <;> rfl
theorem flatL_len (l : List XL) : (l.flatMap XL.cells).length = l.length * 16 := flat_len XL.cells 16 (fun _ => rfl) l
theorem set_same {α : Type} {l : List α} {i : Nat} {v : α} (h : l[i]? = some v) : l.set i v = l := by
  obtain ⟨h1, h2⟩ := List.getElem?_eq_some_iff.1 h
  rw [← h2]
  exact List.set_getElem_self h1
/-- one cell of an element written -/
theorem set_cell {α : Type} {f : α → List Value} {n : Nat} (hf : ∀ x, (f x).length = n) : ∀ (l : List α) (k j : Nat) (y : α) (v : Value), (hk : k < l.length) → j < n → f y = (f l[k]).set j v → (l.flatMap f).set (k * n + j) v = (l.set k y).flatMap f
  | [], k, j, y, v, hk, _, _ => absurd hk (by simp)
  | x :: r, 0, j, y, v, hk, hj, e => by
    simp only [List.flatMap_cons, List.set_cons_zero, Nat.zero_mul, Nat.zero_add]
    rw [List.set_append_left _ _ (by rw [hf]; exact hj)]
    simp only [List.getElem_cons_zero] at e
    rw [e]
  | x :: r, k + 1, j, y, v, hk, hj, e => by
    simp only [List.flatMap_cons, List.set_cons_succ]
    rw [List.set_append_right _ _ (by rw [hf, Nat.succ_mul]; omega), hf, show (k + 1) * n + j - n = k * n + j by rw [Nat.succ_mul]; omega]
    rw [set_cell hf r k j y v (by simpa using hk) hj (by simpa using e)]
theorem atL_set {l : List XL} {i k : Nat} {x : XL} (hk : k < l.length) : atL (l.set k x) i = if i = k then x else atL l i := by
  unfold atL
  rw [List.getD_eq_getElem?_getD, List.getD_eq_getElem?_getD, List.getElem?_set]
  by_cases e : k = i
  · subst e; simp [hk]
  · rw [if_neg e, if_neg (fun q => e q.symm)]
theorem AB.nodup {w : World} {hd : List A5} {a : Option Addr} {c : Nat} {bl : List Nat} (h : AB w hd a c bl) : bl.Nodup := by
  rcases h.lies with ⟨_, h1⟩ | ⟨g, ha, hg, hbl, hf, hx⟩
  · rw [h1]; exact List.nodup_nil
  · rw [hbl]; simp
/-- what cloneRule keeps: the rule's box, the result, the head's copy, the body's row; fb: the blocks that its literals' copies lie in -/
structure CrS (w : World) (pr : ByteArray) (hd : List A5) (ha : Option Addr) (hc : Nat) (l1 : List Nat) (bd : List XL) (g c : Nat) (xs : List XL) (fb : List Nat) (wr : World) : Prop where
  bel : Below w.heap.size w wr
  bz : w.heap.size + 2 ≤ wr.heap.size
  r0 : RL wr w.heap.size 25 [.string pr, .slice ha hd.length hc, .slice (some ⟨g, 0, none⟩) bd.length c]
  r1 : RL wr (w.heap.size + 1) 25 [.string ⟨#[]⟩, .slice none 0 0, .slice none 0 0]
  ab : AB wr hd ha hc l1
  own : wr.ownsRow (w.heap.size + 2) 89 16 (.slice (some ⟨g, 0, none⟩) bd.length c) bd.length (xs.flatMap XL.cells)
  es : xs.map XL.x = bd.map XL.x
  lo : ∀ b ∈ l1 ++ fb, w.heap.size + 2 ≤ b
  lt : ∀ b ∈ fb, b < wr.heap.size
  nd : (l1 ++ g :: fb).Nodup
theorem CrS.len {w : World} {pr : ByteArray} {hd : List A5} {ha : Option Addr} {hc : Nat} {l1 : List Nat} {bd : List XL} {g c : Nat} {xs : List XL} {fb : List Nat} {wr : World} (h : CrS w pr hd ha hc l1 bd g c xs fb wr) : xs.length = bd.length := by
  have := congrArg List.length h.es
  simpa using this
theorem CrS.step {w : World} {pr : ByteArray} {hd : List A5} {ha : Option Addr} {hc : Nat} {l1 : List Nat} {bd : List XL} {g c : Nat} {xs xs' : List XL} {fb : List Nat} {wr w2 w3 : World} (h : CrS w pr hd ha hc l1 bd g c xs fb wr) (b2 : Below wr.heap.size wr w2) {bl : List Nat} (hlo : ∀ b ∈ bl, wr.heap.size ≤ b) (hlt : ∀ b ∈ bl, b < w2.heap.size) (hnd : bl.Nodup)
    (hs : w3.heap.size = w2.heap.size) (ho : ∀ b, b ≠ g → w3.heap[b]? = w2.heap[b]?) (hb : Below w.heap.size w w3) (hown : w3.ownsRow (w.heap.size + 2) 89 16 (.slice (some ⟨g, 0, none⟩) bd.length c) bd.length (xs'.flatMap XL.cells)) (he : xs'.map XL.x = xs.map XL.x) :
    CrS w pr hd ha hc l1 bd g c xs' (fb ++ bl) w3 ∧ (∀ b ∈ fb, w3.heap[b]? = wr.heap[b]?) := by
  have hg := h.own.lt g rfl
  obtain ⟨n1, n2, n3⟩ := List.nodup_append.1 h.nd
  obtain ⟨n4, n5⟩ := List.nodup_cons.1 n2
  have hz := h.bz
  have hz2 := b2.size
  have kl : ∀ b, b < wr.heap.size → b ≠ g → w3.heap[b]? = wr.heap[b]? := fun b hb hn => (ho b hn).trans (b2.block b hb)
  refine ⟨⟨hb, by omega, ?_, ?_, ?_, hown, he.trans h.es, fun b hb => ?_, fun b hb => ?_, ?_⟩, fun b hb => kl b (h.lt b hb) (fun e => n4 (by rw [← e]; exact hb))⟩
  · exact World.rowIs.of_block h.r0 (kl _ (by omega) (by omega))
  · exact World.rowIs.of_block h.r1 (kl _ (by omega) (by omega))
  · exact h.ab.keep (by omega) (fun b hb => kl b (h.ab.lt b hb) (fun e => n3 b hb g (by simp) e))
  · rcases List.mem_append.1 hb with hb | hb
    · exact h.lo b (by simp [hb])
    · rcases List.mem_append.1 hb with hb | hb
      · exact h.lo b (by simp [hb])
      · have := hlo b hb; omega
  · rcases List.mem_append.1 hb with hb | hb
    · have := h.lt b hb; omega
    · have := hlt b hb; omega
  · rw [List.nodup_append, List.nodup_cons, List.nodup_append]
    refine ⟨n1, ⟨fun q => ?_, n5, hnd, fun x hx y hy e => ?_⟩, fun x hx y hy e => ?_⟩
    · rcases List.mem_append.1 q with q | q
      · exact n4 q
      · have := hlo g q; omega
    · have := hlo y hy; have := h.lt x hx; omega
    · rcases List.mem_cons.1 hy with hy | hy
      · exact n3 x hx g (by simp) (e.trans hy)
      · rcases List.mem_append.1 hy with hy | hy
        · exact n3 x hx y (by simp [hy]) e
        · have := hlo y hy; have := h.ab.lt x hx; omega
def put1 (w : World) (g o : Nat) (s : Value) : World := w.setCell ⟨g, o, none⟩ s
def put6x (w : World) (g o : Nat) (e : E) (s : Value) : World := (((((w.setCell ⟨g, o, none⟩ (.int .i8 e.op)).setCell ⟨g, o + 1, none⟩ (.string e.t.v)).setCell ⟨g, o + 2, none⟩ (.int .i8 e.t.a.k)).setCell ⟨g, o + 3, none⟩ (.int .i64 e.t.a.n)).setCell ⟨g, o + 4, none⟩ (.string e.t.a.s)).setCell ⟨g, o + 5, none⟩ s
theorem put6x_other (w : World) (g o : Nat) (e : E) (s : Value) {b : Nat} (h : b ≠ g) : (put6x w g o e s).heap[b]? = w.heap[b]? := by
  unfold put6x
  rw [heap_setCell_other _ _ _ _ h, heap_setCell_other _ _ _ _ h, heap_setCell_other _ _ _ _ h, heap_setCell_other _ _ _ _ h, heap_setCell_other _ _ _ _ h, heap_setCell_other _ _ _ _ h]
theorem put6x_size (w : World) (g o : Nat) (e : E) (s : Value) : (put6x w g o e s).heap.size = w.heap.size := by unfold put6x; simp only [World.size_setCell]
theorem put6x_below {B : Nat} {w0 w : World} (h : Below B w0 w) {g o : Nat} (hg : B ≤ g) (e : E) (s : Value) : Below B w0 (put6x w g o e s) :=
  (((((h.setCell (p := ⟨g, o, none⟩) hg _).setCell (p := ⟨g, o + 1, none⟩) hg _).setCell (p := ⟨g, o + 2, none⟩) hg _).setCell (p := ⟨g, o + 3, none⟩) hg _).setCell (p := ⟨g, o + 4, none⟩) hg _).setCell (p := ⟨g, o + 5, none⟩) hg _
/-- an element's slice written -/
theorem own_put1 {w : World} {B g n cap : Nat} {xs : List XL} {k j : Nat} {y : XL} {s : Value} (hk : k < xs.length) (hj : j < 16) (hy : y.cells = (xs[k]).cells.set j s) (h : w.ownsRow B 89 16 (.slice (some ⟨g, 0, none⟩) n cap) n (xs.flatMap XL.cells)) : (w.setCell ⟨g, k * 16 + j, none⟩ s).ownsRow B 89 16 (.slice (some ⟨g, 0, none⟩) n cap) n ((xs.set k y).flatMap XL.cells) := by
  rw [← set_cell (f := XL.cells) (n := 16) (fun _ => rfl) xs k j y s hk hj hy]
  exact (h.stored (k * 16 + j) s).1
theorem own_put6 {w : World} {B g n cap : Nat} {xs : List XL} {k o : Nat} {y : XL} {s : Value} {e : E} (hk : k < xs.length) (ho : o + 5 < 16) (hy : y.cells = (xs[k]).cells.set (o + 5) s) (h0 : (xs[k]).cells[o]? = some (.int .i8 e.op)) (h1 : (xs[k]).cells[o + 1]? = some (.string e.t.v)) (h2 : (xs[k]).cells[o + 2]? = some (.int .i8 e.t.a.k)) (h3 : (xs[k]).cells[o + 3]? = some (.int .i64 e.t.a.n)) (h4 : (xs[k]).cells[o + 4]? = some (.string e.t.a.s))
    (h : w.ownsRow B 89 16 (.slice (some ⟨g, 0, none⟩) n cap) n (xs.flatMap XL.cells)) : (put6x w g (k * 16 + o) e s).ownsRow B 89 16 (.slice (some ⟨g, 0, none⟩) n cap) n ((xs.set k y).flatMap XL.cells) := by
  have hat : ∀ j v, j < 16 → (xs[k]).cells[j]? = some v → (xs.flatMap XL.cells)[k * 16 + j]? = some v := fun j v hj hv => by
    have := flat_at XL.cells 16 (fun _ => rfl) XL0 xs k j hk hj
    rw [this, show xs.getD k XL0 = xs[k] from atL_eq hk]
    exact hv
  have o1 := (h.stored (k * 16 + o) (.int .i8 e.op)).1
  rw [set_same (hat o _ (by omega) h0)] at o1
  have o2 := (o1.stored (k * 16 + o + 1) (.string e.t.v)).1
  rw [Nat.add_assoc, set_same (hat (o + 1) _ (by omega) h1)] at o2
  have o3 := (o2.stored (k * 16 + o + 2) (.int .i8 e.t.a.k)).1
  rw [Nat.add_assoc _ o 2, set_same (hat (o + 2) _ (by omega) h2)] at o3
  have o4 := (o3.stored (k * 16 + o + 3) (.int .i64 e.t.a.n)).1
  rw [Nat.add_assoc _ o 3, set_same (hat (o + 3) _ (by omega) h3)] at o4
  have o5 := (o4.stored (k * 16 + o + 4) (.string e.t.a.s)).1
  rw [Nat.add_assoc _ o 4, set_same (hat (o + 4) _ (by omega) h4)] at o5
  have o6 := own_put1 (j := o + 5) hk ho hy o5
  unfold put6x
  simp only [Nat.add_assoc] at o6 ⊢
  exact o6
end Go.Proofs.YtgplipfebnigiaaGreatDoor
end
section
namespace Go.Proofs.YtgplipfebnigiaaGreatDoor
open Go.RowKit Go.Maps
set_option linter.unusedVariables false
set_option linter.unusedSimpArgs false
attribute [local go_sem ↓] Go.wp_at_zero Go.wp_at_succ

def res3 (wr : World) (b : Nat) (pr : ByteArray) (s1 s2 : Value) : World := ((wr.setCell ⟨b, 0, none⟩ (.string pr)).setCell ⟨b, 1, none⟩ s1).setCell ⟨b, 2, none⟩ s2
theorem res3_other (w : World) (g : Nat) (pr : ByteArray) (s1 s2 : Value) {b : Nat} (h : b ≠ g) : (res3 w g pr s1 s2).heap[b]? = w.heap[b]? := by
  unfold res3
  rw [heap_setCell_other _ _ _ _ h, heap_setCell_other _ _ _ _ h, heap_setCell_other _ _ _ _ h]
theorem res3_size (w : World) (g : Nat) (pr : ByteArray) (s1 s2 : Value) : (res3 w g pr s1 s2).heap.size = w.heap.size := by unfold res3; simp only [World.size_setCell]
theorem res3_below {B : Nat} {w0 w : World} (h : Below B w0 w) {g : Nat} (hg : B ≤ g) (pr : ByteArray) (s1 s2 : Value) : Below B w0 (res3 w g pr s1 s2) :=
  ((h.setCell (p := ⟨g, 0, none⟩) hg _).setCell (p := ⟨g, 1, none⟩) hg _).setCell (p := ⟨g, 2, none⟩) hg _
theorem res3_rl {w : World} {g : Nat} {t : TypeId} {a b c : Value} (h : RL w g t [a, b, c]) (pr : ByteArray) (s1 s2 : Value) : RL (res3 w g pr s1 s2) g t [.string pr, s1, s2] := ((h.set 0 _).set 1 _).set 2 _
/-- the literals that are done, and those that are not -/
structure CrD (w : World) (d : Nat) (xs : List XL) (ls : List (List Nat × List Nat × List Nat)) (fb : List Nat) (k : Nat) (wr : World) : Prop where
  len : ls.length = k
  fb : fb = (ls.map cat3).flatten
  done : ∀ i, i < xs.length → i < k → LB wr d (atL xs i).x (atL xs i).p (triAt ls i).1 (triAt ls i).2.1 (triAt ls i).2.2
  rest : ∀ i, i < xs.length → k ≤ i → LIs w d (atL xs i).x (atL xs i).p
theorem CrD.end {w : World} {d : Nat} {pr : ByteArray} {hd : List A5} {ha : Option Addr} {hc : Nat} {l1 : List Nat} {bd : List XL} {g c : Nat} {xs : List XL} {fb : List Nat} {wr : World} {ls : List (List Nat × List Nat × List Nat)} (h : CrS w pr hd ha hc l1 bd g c xs fb wr) (hd' : CrD w d xs ls fb bd.length wr) : BB wr d xs (some ⟨g, 0, none⟩) c (g :: fb) := by
  obtain ⟨a1, c1, e1, hc1, hc2, hx⟩ := own_parts h.own
  simp only [Value.slice.injEq, true_and] at e1
  obtain ⟨rfl, rfl⟩ := e1
  have hl := h.len
  have hnd := (List.nodup_append.1 h.nd).2.1
  rcases hx with ⟨_, hx⟩ | ⟨g', hg', hB, hgl, hf, hx⟩
  · cases hx
  · cases hg'
    refine ⟨by omega, hc2, .inr ⟨g, ls, rfl, hgl, by rw [hd'.fb], by rw [hd'.len, hl], hnd, hf, fun i hi => ?_⟩⟩
    have hcl : ∀ j v, j < 16 → (XL.cells (atL xs i))[j]? = some v → wr.cell? ⟨g, i * 16 + j, none⟩ = some v := fun j v hj hv => hx _ _ (by rw [flat_at XL.cells 16 (fun _ => rfl) XL0 xs i j hi hj]; exact hv)
    refine ⟨⟨hcl 0 _ (by omega) rfl, hcl 1 _ (by omega) rfl, hcl 2 _ (by omega) rfl, hcl 3 _ (by omega) rfl, ⟨hcl 4 _ (by omega) rfl, hcl 5 _ (by omega) rfl, hcl 6 _ (by omega) rfl, hcl 7 _ (by omega) rfl, hcl 8 _ (by omega) rfl, hcl 9 _ (by omega) rfl⟩, ⟨hcl 10 _ (by omega) rfl, hcl 11 _ (by omega) rfl, hcl 12 _ (by omega) rfl, hcl 13 _ (by omega) rfl, hcl 14 _ (by omega) rfl, hcl 15 _ (by omega) rfl⟩⟩, hd'.done i hi (by omega)⟩
theorem TB.nodup {w : World} {ts : List T} {a : Option Addr} {c : Nat} {bl : List Nat} (h : TB w ts a c bl) : bl.Nodup := by
  rcases h.lies with ⟨_, h1⟩ | ⟨g, ha, hg, hbl, hf, hx⟩
  · rw [h1]; exact List.nodup_nil
  · rw [hbl]; simp
/-- a round: the three lists of a literal, one behind the other -/
theorem CrD.round {w : World} {d : Nat} {pr : ByteArray} {hd : List A5} {ha : Option Addr} {hc : Nat} {l1 : List Nat} {bd : List XL} {g c : Nat} {xs : List XL} {fb : List Nat} {wr : World} {ls : List (List Nat × List Nat × List Nat)} {k : Nat} (h : CrS w pr hd ha hc l1 bd g c xs fb wr) (hD : CrD w d xs ls fb k wr) (hk : k < bd.length)
    {b1 b2 b3 : List Nat} {xs' : List XL} {w' : World} {p : LP} (h' : CrS w pr hd ha hc l1 bd g c xs' (fb ++ b1 ++ b2 ++ b3) w') (hx : xs' = xs.set k ⟨(atL xs k).x, p⟩) (hfb : ∀ b ∈ fb, w'.heap[b]? = wr.heap[b]?) (hs : wr.heap.size ≤ w'.heap.size) (ht : TB w' (atL xs k).x.ts p.a p.c b1) (hl : EB w' d (atL xs k).x.l p.la p.lc b2) (hr : EB w' d (atL xs k).x.r p.ra p.rc b3) :
    CrD w d xs' (ls ++ [(b1, b2, b3)]) (fb ++ b1 ++ b2 ++ b3) (k + 1) w' := by
  have hxl := h.len
  have hls := hD.len
  refine ⟨by simp [hls], by rw [hD.fb]; simp [cat3], fun i hi hik => ?_, fun i hi hik => ?_⟩
  · rw [hx, List.length_set] at hi
    rw [hx, atL_set (by omega)]
    by_cases e : i = k
    · subst e
      rw [if_pos rfl]
      have e2 : triAt (ls ++ [(b1, b2, b3)]) i = (b1, b2, b3) := by unfold triAt; rw [List.getD_eq_getElem?_getD, List.getElem?_append_right (by omega), hls]; simp
      rw [e2]
      have h0 := hD.rest i hi (Nat.le_refl _)
      have hnd := (List.nodup_cons.1 (List.nodup_append.1 h'.nd).2.1).2
      refine ⟨h0.kb, h0.rb, h0.pb, h0.ln, ht, hl, hr, ?_⟩
      rw [List.append_assoc, List.append_assoc] at hnd
      exact (List.nodup_append.1 hnd).2.1
    · rw [if_neg e]
      have e2 : triAt (ls ++ [(b1, b2, b3)]) i = triAt ls i := by unfold triAt; rw [List.getD_eq_getElem?_getD, List.getD_eq_getElem?_getD, List.getElem?_append_left (by omega)]
      rw [e2]
      exact (hD.done i hi (by omega)).keep hs (fun b hb => hfb b (by rw [hD.fb]; exact flat_mem (i := i) (by rw [List.length_map]; omega) (by rw [cat_at]; exact hb)))
  · rw [hx, List.length_set] at hi
    rw [hx, atL_set (by omega), if_neg (by omega)]
    exact hD.rest i hi (by omega)
theorem own_cell {w : World} {B : Nat} {g n cap : Nat} {xs : List XL} (h : w.ownsRow B 89 16 (.slice (some ⟨g, 0, none⟩) n cap) n (xs.flatMap XL.cells)) {k : Nat} (hk : k < xs.length) {j : Nat} {v : Value} (hj : j < 16) (hv : (atL xs k).cells[j]? = some v) : w.cell? ⟨g, k * 16 + j, none⟩ = some v ∧ w.frozen? ⟨g, k * 16 + j, none⟩ = false := by
  obtain ⟨a1, c1, e1, hc1, hc2, hx⟩ := own_parts h
  simp only [Value.slice.injEq, true_and] at e1
  obtain ⟨rfl, rfl⟩ := e1
  rcases hx with ⟨_, hx⟩ | ⟨g', hg', hB, hgl, hf, hx⟩
  · cases hx
  · cases hg'
    exact ⟨hx _ _ (by rw [flat_at XL.cells 16 (fun _ => rfl) XL0 xs k j hk hj]; exact hv), hf _⟩
/-- the arguments' copy is stored -/
theorem CrS.putA {w : World} {pr : ByteArray} {hd : List A5} {ha : Option Addr} {hc : Nat} {l1 : List Nat} {bd : List XL} {g c : Nat} {xs : List XL} {fb : List Nat} {wr w2 : World} (h : CrS w pr hd ha hc l1 bd g c xs fb wr) {k : Nat} (hk : k < bd.length) (b2 : Below wr.heap.size wr w2) {bl : List Nat} (hlo : ∀ b ∈ bl, wr.heap.size ≤ b) {a' : Option Addr} {c' : Nat} (ht : TB w2 (atL xs k).x.ts a' c' bl) :
    ∃ xs', xs' = xs.set k ⟨(atL xs k).x, { (atL xs k).p with a := a', c := c' }⟩ ∧ CrS w pr hd ha hc l1 bd g c xs' (fb ++ bl) (w2.setCell ⟨g, k * 16 + 2, none⟩ (.slice a' (atL xs k).x.ts.length c')) ∧ (∀ b ∈ fb, (w2.setCell ⟨g, k * 16 + 2, none⟩ (.slice a' (atL xs k).x.ts.length c')).heap[b]? = wr.heap[b]?) ∧ TB (w2.setCell ⟨g, k * 16 + 2, none⟩ (.slice a' (atL xs k).x.ts.length c')) (atL xs k).x.ts a' c' bl := by
  have hl := h.len
  have hg := h.own.lt g rfl
  have hz := h.bel.size
  have hke : atL xs k = xs[k] := atL_eq (by omega)
  obtain ⟨h1, h2⟩ := h.step (xs' := xs.set k ⟨(atL xs k).x, { (atL xs k).p with a := a', c := c' }⟩) b2 hlo ht.lt ht.nodup (by simp only [World.size_setCell]) (fun b hb => heap_setCell_other _ _ _ _ hb) ((h.bel.trans (b2.mono hz)).setCell (p := ⟨g, k * 16 + 2, none⟩) (by show _ ≤ g; omega) (.slice a' (atL xs k).x.ts.length c')) (own_put1 (by omega) (by omega) (by rw [← hke]; rfl) (own_below h.own b2)) (by rw [List.map_set]; apply set_same; rw [List.getElem?_map, List.getElem?_eq_getElem (by omega), hke]; rfl)
  exact ⟨_, rfl, h1, h2, ht.keep (by simp) (fun b hb => heap_setCell_other _ _ _ _ (by have := hlo b hb; show b ≠ g; omega))⟩
/-- the left side's copy, the right side's -/
theorem CrS.putL {w : World} {d : Nat} {pr : ByteArray} {hd : List A5} {ha : Option Addr} {hc : Nat} {l1 : List Nat} {bd : List XL} {g c : Nat} {xs : List XL} {fb : List Nat} {wr w2 : World} (h : CrS w pr hd ha hc l1 bd g c xs fb wr) {k : Nat} (hk : k < bd.length) (b2 : Below wr.heap.size wr w2) {bl : List Nat} (hlo : ∀ b ∈ bl, wr.heap.size ≤ b) {a' : Option Addr} {c' : Nat} (ht : EB w2 d (atL xs k).x.l a' c' bl) :
    ∃ xs', xs' = xs.set k ⟨(atL xs k).x, { (atL xs k).p with la := a', lc := c' }⟩ ∧ CrS w pr hd ha hc l1 bd g c xs' (fb ++ bl) (put6x w2 g (k * 16 + 4) (atL xs k).x.l (.slice a' (atL xs k).x.l.kids.length c')) ∧ (∀ b ∈ fb, (put6x w2 g (k * 16 + 4) (atL xs k).x.l (.slice a' (atL xs k).x.l.kids.length c')).heap[b]? = wr.heap[b]?) ∧ EB (put6x w2 g (k * 16 + 4) (atL xs k).x.l (.slice a' (atL xs k).x.l.kids.length c')) d (atL xs k).x.l a' c' bl := by
  have hl := h.len
  have hg := h.own.lt g rfl
  have hz := h.bel.size
  have hke : atL xs k = xs[k] := atL_eq (by omega)
  obtain ⟨h1, h2⟩ := h.step (xs' := xs.set k ⟨(atL xs k).x, { (atL xs k).p with la := a', lc := c' }⟩) b2 hlo ht.lt ht.nodup (put6x_size _ _ _ _ _) (fun b hb => put6x_other _ _ _ _ _ hb) (put6x_below (o := k * 16 + 4) (h.bel.trans (b2.mono hz)) (by show _ ≤ g; omega) (atL xs k).x.l (.slice a' (atL xs k).x.l.kids.length c')) (own_put6 (o := 4) (by omega) (by omega) (by rw [← hke]; rfl) (by rw [← hke]; rfl) (by rw [← hke]; rfl) (by rw [← hke]; rfl) (by rw [← hke]; rfl) (by rw [← hke]; rfl) (own_below h.own b2)) (by rw [List.map_set]; apply set_same; rw [List.getElem?_map, List.getElem?_eq_getElem (by omega), hke]; rfl)
  exact ⟨_, rfl, h1, h2, ht.keep (by rw [put6x_size]; exact Nat.le_refl _) (fun b hb => put6x_other _ _ _ _ _ (by have := hlo b hb; omega))⟩
theorem CrS.putR {w : World} {d : Nat} {pr : ByteArray} {hd : List A5} {ha : Option Addr} {hc : Nat} {l1 : List Nat} {bd : List XL} {g c : Nat} {xs : List XL} {fb : List Nat} {wr w2 : World} (h : CrS w pr hd ha hc l1 bd g c xs fb wr) {k : Nat} (hk : k < bd.length) (b2 : Below wr.heap.size wr w2) {bl : List Nat} (hlo : ∀ b ∈ bl, wr.heap.size ≤ b) {a' : Option Addr} {c' : Nat} (ht : EB w2 d (atL xs k).x.r a' c' bl) :
    ∃ xs', xs' = xs.set k ⟨(atL xs k).x, { (atL xs k).p with ra := a', rc := c' }⟩ ∧ CrS w pr hd ha hc l1 bd g c xs' (fb ++ bl) (put6x w2 g (k * 16 + 10) (atL xs k).x.r (.slice a' (atL xs k).x.r.kids.length c')) ∧ (∀ b ∈ fb, (put6x w2 g (k * 16 + 10) (atL xs k).x.r (.slice a' (atL xs k).x.r.kids.length c')).heap[b]? = wr.heap[b]?) ∧ EB (put6x w2 g (k * 16 + 10) (atL xs k).x.r (.slice a' (atL xs k).x.r.kids.length c')) d (atL xs k).x.r a' c' bl := by
  have hl := h.len
  have hg := h.own.lt g rfl
  have hz := h.bel.size
  have hke : atL xs k = xs[k] := atL_eq (by omega)
  obtain ⟨h1, h2⟩ := h.step (xs' := xs.set k ⟨(atL xs k).x, { (atL xs k).p with ra := a', rc := c' }⟩) b2 hlo ht.lt ht.nodup (put6x_size _ _ _ _ _) (fun b hb => put6x_other _ _ _ _ _ hb) (put6x_below (o := k * 16 + 10) (h.bel.trans (b2.mono hz)) (by show _ ≤ g; omega) (atL xs k).x.r (.slice a' (atL xs k).x.r.kids.length c')) (own_put6 (o := 10) (by omega) (by omega) (by rw [← hke]; rfl) (by rw [← hke]; rfl) (by rw [← hke]; rfl) (by rw [← hke]; rfl) (by rw [← hke]; rfl) (by rw [← hke]; rfl) (own_below h.own b2)) (by rw [List.map_set]; apply set_same; rw [List.getElem?_map, List.getElem?_eq_getElem (by omega), hke]; rfl)
  exact ⟨_, rfl, h1, h2, ht.keep (by rw [put6x_size]; exact Nat.le_refl _) (fun b hb => put6x_other _ _ _ _ _ (by have := hlo b hb; omega))⟩
theorem CrS.grew {w : World} {pr : ByteArray} {hd : List A5} {ha : Option Addr} {hc : Nat} {l1 : List Nat} {bd : List XL} {g c : Nat} {xs : List XL} {fb : List Nat} {wr : World} (h : CrS w pr hd ha hc l1 bd g c xs fb wr) : w.heap.size ≤ wr.heap.size := h.bel.size
end Go.Proofs.YtgplipfebnigiaaGreatDoor
end
section
namespace Go.Proofs.YtgplipfebnigiaaGreatDoor
open Go.RowKit Go.Maps
set_option linter.unusedVariables false
set_option linter.unusedSimpArgs false
attribute [local go_sem ↓] Go.wp_at_zero Go.wp_at_succ

theorem own_lower {w : World} {B B' : Nat} {e : TypeId} {k : Nat} {sv : Value} {n : Nat} {xs : List Value} (h : w.ownsRow B e k sv n xs) (hb : B' ≤ B) : w.ownsRow B' e k sv n xs := by
  obtain ⟨hl, h1 | ⟨g, cap, cur, rfl, h0, hr⟩⟩ := h
  · exact ⟨hl, .inl h1⟩
  · exact ⟨hl, .inr ⟨g, cap, cur, rfl, Nat.le_trans hb h0, hr⟩⟩
set_option maxHeartbeats 3200000 in
set_option maxRecDepth 100000 in
theorem cloneRule_any (d : Nat) (r : R3) (p : RP) (w : World) (hR : RIs w d r p) (hs : smallR d r) :
    Calls Tryz.prog 41 #[r.val p] w fun q w' => ∃ (xs : List XL) (q' : RP) (l1 l2 : List Nat), q = .returned (.agg #[.string r.pr, .slice q'.a r.hd.length q'.c, .slice q'.ba r.bd.length q'.bc]) ∧ xs.map XL.x = r.bd.map XL.x ∧ Below w.heap.size w w' ∧ AB w' r.hd q'.a q'.c l1 ∧ BB w' d xs q'.ba q'.bc l2 ∧ (l1 ++ l2).Nodup ∧ (∀ b ∈ l1 ++ l2, w.heap.size ≤ b) := by
  obtain ⟨pr, hd, bd⟩ := r
  obtain ⟨pa, pc, ba, bc⟩ := p
  have hhl := hs.hd
  have hbl := hs.bd
  have h1 := hR.hd
  have h2 := hR.bd
  unfold R3.val
  dsimp only at hhl hbl h1 h2 ⊢
  have HL1 := Lib.hid h1
  have HL2 := Lib.hid h2
  have HSM : Hid (∀ y ∈ bd, smallL d y.x) := hs.each
  have hA1 := belowA (w := w) (.cells #[.string pr, .slice pa hd.length pc, .slice ba bd.length bc] 25)
  have hA2 := belowA (w := w.alloc (.cells #[.string pr, .slice pa hd.length pc, .slice ba bd.length bc] 25)) (.cells #[.string ⟨#[]⟩, .slice none 0 0, .slice none 0 0] 25)
  have HB0 := Lib.hid (hA1.trans (hA2.mono hA1.size))
  have HR0 := Lib.hid ((rl_new w #[.string pr, .slice pa hd.length pc, .slice ba bd.length bc] 25).below hA2)
  have hR1 := rl_new (w.alloc (.cells #[.string pr, .slice pa hd.length pc, .slice ba bd.length bc] 25)) #[.string ⟨#[]⟩, .slice none 0 0, .slice none 0 0] 25
  rw [World.size_alloc] at hR1
  have HR1 := Lib.hid hR1
  have HSZ : Hid (((w.alloc (.cells #[.string pr, .slice pa hd.length pc, .slice ba bd.length bc] 25)).alloc (.cells #[.string ⟨#[]⟩, .slice none 0 0, .slice none 0 0] 25)).heap.size = w.heap.size + 2) := by show _ = _; simp
  clear hA1 hA2 hR1 hR hs h1 h2
  go_enter Tryz.func41, Tryz.ntmps41
  go_upto_region 1 with fail
  generalize (w.alloc (.cells #[.string pr, .slice pa hd.length pc, .slice ba bd.length bc] 25)).alloc (.cells #[.string ⟨#[]⟩, .slice none 0 0, .slice none 0 0] 25) = W at HB0 HR0 HR1 HSZ ⊢
  have y1 := HR0.out.at (j := 1) rfl
  have HCA := Lib.hid (cloneArg _ hd.length (hd.flatMap A5.cells) W (HL1.out.below HB0.out).lies (flat_len A5.cells 5 (fun _ => rfl) hd) (acells_one hd) hhl)
  go_wp2_with fail
  refine HCA.out.mono ?_
  rintro q w1 ⟨sv, rfl, ho, b1⟩
  rw [HSZ.out] at ho
  obtain ⟨a1, c1, l1, rfl, hab, hlo1, hnd1⟩ := ab_own ho HL1.out.wf
  have k0 := HR0.out.below b1
  have k1 := HR1.out.below b1
  have f1 := World.rowIs.frozen k0 1
  have z1 := k0.at (j := 1) rfl
  have hz1 : w.heap.size + 2 ≤ w1.heap.size := by rw [← HSZ.out]; exact b1.size
  have HB1 := Lib.hid (HB0.out.trans (b1.mono HB0.out.size))
  have HK0 := Lib.hid (k0.set 1 (.slice a1 hd.length c1))
  have HK1 := Lib.hid (k1.other (i := 1) (show w.heap.size + 1 ≠ w.heap.size by omega) (.slice a1 hd.length c1))
  have HB2 : Hid (Below w.heap.size w (w1.setCell ⟨w.heap.size, 1, none⟩ (.slice a1 hd.length c1))) := HB1.out.setCell (p := ⟨w.heap.size, 1, none⟩) (Nat.le_refl _) _
  have HZ2 : Hid (w.heap.size + 2 ≤ (w1.setCell ⟨w.heap.size, 1, none⟩ (.slice a1 hd.length c1)).heap.size) := by show _ ≤ _; rw [World.size_setCell]; exact hz1
  have HAB : Hid (AB (w1.setCell ⟨w.heap.size, 1, none⟩ (.slice a1 hd.length c1)) hd a1 c1 l1) := hab.keep (by simp) (fun b hb => heap_setCell_other _ _ _ _ (by have := hlo1 b hb; show b ≠ w.heap.size; omega))
  have HLO1 := Lib.hid hlo1
  have HND1 := Lib.hid hnd1
  clear HB1 ho HCA k0 k1 y1 hz1 b1 HR0 HR1 HB0 HSZ hab hlo1 hnd1
  go_upto_region 2 with fail
  generalize w1.setCell ⟨w.heap.size, 1, none⟩ (.slice a1 hd.length c1) = W2 at HK0 HK1 HB2 HZ2 HAB ⊢
  clear z1 f1
  have y2 := HK0.out.at (j := 2) rfl
  have HCL := Lib.hid (cloneLiteral _ bd.length (bd.flatMap XL.cells) W2 (HL2.out.below HB2.out).lies (flatL_len bd) (lcells_one bd) hbl)
  go_wp2_with fail
  refine HCL.out.mono ?_
  rintro q w3 ⟨sv, rfl, ho, b3⟩
  have k0 := HK0.out.below b3
  have k1 := HK1.out.below b3
  have f2 := World.rowIs.frozen k0 2
  have z2 := k0.at (j := 2) rfl
  have hz3 : w.heap.size + 2 ≤ w3.heap.size := Nat.le_trans HZ2.out b3.size
  have HB3 := Lib.hid (HB2.out.trans (b3.mono HB2.out.size))
  obtain ⟨a2, c2, rfl, hn1, hn2, hcase⟩ := own_parts ho
  have HL0 := Lib.hid (k0.set 2 (.slice a2 bd.length c2))
  have HLL := Lib.hid (k1.other (i := 2) (show w.heap.size + 1 ≠ w.heap.size by omega) (.slice a2 bd.length c2))
  have HB4 : Hid (Below w.heap.size w (w3.setCell ⟨w.heap.size, 2, none⟩ (.slice a2 bd.length c2))) := HB3.out.setCell (p := ⟨w.heap.size, 2, none⟩) (Nat.le_refl _) _
  have HZ4 : Hid (w.heap.size + 2 ≤ (w3.setCell ⟨w.heap.size, 2, none⟩ (.slice a2 bd.length c2)).heap.size) := by show _ ≤ _; rw [World.size_setCell]; exact hz3
  have HAB4 : Hid (AB (w3.setCell ⟨w.heap.size, 2, none⟩ (.slice a2 bd.length c2)) hd a1 c1 l1) := HAB.out.keep (by simp; exact b3.size) (fun b hb => by
    rw [heap_setCell_other _ _ _ _ (by have := HLO1.out b hb; show b ≠ w.heap.size; omega)]
    exact b3.block b (HAB.out.lt b hb))
  have HO4 : Hid ((w3.setCell ⟨w.heap.size, 2, none⟩ (.slice a2 bd.length c2)).ownsRow W2.heap.size 89 16 (.slice a2 bd.length c2) bd.length (bd.flatMap XL.cells)) := own_of_block ho (fun g hg => by
    have := (ho.lt g hg).1
    have := HZ2.out
    rw [heap_setCell_other _ _ _ _ (by show g ≠ w.heap.size; omega)])
  have HLT2 : Hid (∀ b ∈ l1, b < W2.heap.size) := HAB.out.lt
  have HZ2' := Lib.hid HZ2.out
  clear HB3 ho HCL k0 k1 y2 hz3 b3 HK0 HK1 HB2 HZ2 HAB
  go_upto_region 3 with fail
  generalize w3.setCell ⟨w.heap.size, 2, none⟩ (.slice a2 bd.length c2) = W4 at HL0 HLL HB4 HZ4 HAB4 HO4 ⊢
  clear z2 f2
  by_cases h0 : bd.length = 0
  · have x2 := HL0.out.at (j := 2) rfl
    have HH0 := Lib.hid h0
    have HFIN : Hid (∀ u, BB u d bd a2 c2 []) := fun u => ⟨hn1, hn2, .inl ⟨List.length_eq_zero_iff.1 h0, rfl⟩⟩
    rw [h0] at x2
    go_wp2
    clear x2 h0
    go_loopw [16] (fun i wr => i = .int .i64 0 ∧ wr = W4) (fun i _ => 0)
    case atStart => exact ⟨rfl, rfl⟩
    case round =>
      obtain ⟨rfl, rfl⟩ := hrel
      have g0 := HL0.out.at (j := 0) rfl
      have g1 := HL0.out.at (j := 1) rfl
      have g2 := HL0.out.at (j := 2) rfl
      have o0 := HLL.out.at (j := 0) rfl
      have o1 := HLL.out.at (j := 1) rfl
      have o2 := HLL.out.at (j := 2) rfl
      have f0 := World.rowIs.frozen HLL.out 0
      have f1 := World.rowIs.frozen HLL.out 1
      have f2 := World.rowIs.frozen HLL.out 2
      have HD1 := Lib.hid (res3_rl HLL.out pr (.slice a1 hd.length c1) (.slice a2 bd.length c2))
      have HD2 := Lib.hid (res3_below (g := w.heap.size + 1) HB4.out (by omega) pr (.slice a1 hd.length c1) (.slice a2 bd.length c2))
      have HD3 : Hid (AB (res3 wr (w.heap.size + 1) pr (.slice a1 hd.length c1) (.slice a2 bd.length c2)) hd a1 c1 l1) := HAB4.out.keep (by rw [res3_size]; exact Nat.le_refl _) (fun b hb => res3_other _ _ _ _ _ (by have := HLO1.out b hb; omega))
      unfold res3 at HD1 HD2 HD3
      clear HL0 HLL HB4 HZ4 HAB4 HO4 hcase
      go_wp2
      refine bodyPost_ret (rl_results Tryz.results41 (v := .agg #[.string pr, .slice a1 hd.length c1, .slice a2 bd.length c2]) rfl (run_loadVar_mid _ _ 0 25 [.string pr, .slice a1 hd.length c1, .slice a2 bd.length c2] _ HD1.out.range Tryz.underlying25 rfl (by kernel_rfl))) rfl ?_
      exact ⟨bd, ⟨a1, c1, a2, c2⟩, l1, [], rfl, rfl, HD2.out, HD3.out, HFIN.out _, by rw [List.append_nil]; exact HND1.out, fun b hb => by rw [List.append_nil] at hb; have := HLO1.out b hb; omega⟩
  · obtain ⟨g, rfl, hB⟩ : ∃ g, a2 = some ⟨g, 0, none⟩ ∧ W2.heap.size ≤ g := by
      rcases hcase with ⟨q, _⟩ | ⟨g, q, hB, _⟩
      · exact absurd q h0
      · exact ⟨g, q, hB⟩
    have HS0 : Hid (CrS w pr hd a1 c1 l1 bd g c2 bd [] W4) := ⟨HB4.out, HZ4.out, HL0.out, HLL.out, HAB4.out, own_lower HO4.out HZ2'.out, rfl, fun b hb => (by rw [List.append_nil] at hb; exact HLO1.out b hb), fun b hb => (by cases hb), by
      rw [List.nodup_append]
      refine ⟨HND1.out, by simp, fun x hx y hy e => ?_⟩
      rw [List.mem_singleton.1 hy] at e
      have := HLT2.out x hx
      omega⟩
    have HD0 : Hid (CrD w d bd [] [] 0 W4) := ⟨rfl, rfl, fun i _ h => absurd h (by omega), fun i hi _ => HL2.out.at_is hi⟩
    have x2 := HL0.out.at (j := 2) rfl
    clear HL0 HLL HB4 HZ4 HAB4 HO4 hcase HLT2 HZ2' HL2
    go_wp2
    clear x2
    go_loopw [16] (fun i wr => ∃ (k : Nat) (xs : List XL) (fb : List Nat) (ls : List (List Nat × List Nat × List Nat)), k ≤ bd.length ∧ i = .int .i64 k ∧ Hid (CrS w pr hd a1 c1 l1 bd g c2 xs fb wr) ∧ Hid (CrD w d xs ls fb k wr)) (fun i _ => bd.length - (intOf i).toNat)
    case atStart => exact ⟨0, bd, [], [], Nat.zero_le _, rfl, HS0, HD0⟩
    case round =>
      clear HS0 HD0
      obtain ⟨k, xs, fb, ls, hk, rfl, HS, HD⟩ := hrel
      by_cases hlt : k < bd.length
      · have hlt' : (k : Int) < (bd.length : Int) := by omega
        have hk0 : (0 : Int) ≤ (k : Int) := by omega
        have hxl : xs.length = bd.length := HS.out.len
        have hlis := HD.out.rest k (by omega) (Nat.le_refl _)
        have hsml : smallL d (atL xs k).x := by
          have e1 : (xs.map XL.x)[k]? = (bd.map XL.x)[k]? := by rw [HS.out.es]
          rw [List.getElem?_map, List.getElem?_map, List.getElem?_eq_getElem (by omega), List.getElem?_eq_getElem hlt] at e1
          rw [atL_eq (by omega)]
          have e2 : (xs[k]).x = (bd[k]).x := Option.some.inj e1
          rw [e2]
          exact HSM.out _ (List.getElem_mem hlt)
        obtain ⟨X, hX⟩ : ∃ X, X = (atL xs k).x := ⟨_, rfl⟩
        obtain ⟨pp, hpp⟩ : ∃ pp, pp = (atL xs k).p := ⟨_, rfl⟩
        have HXP : Hid (X = (atL xs k).x ∧ pp = (atL xs k).p) := ⟨hX, hpp⟩
        rw [← hX, ← hpp] at hlis
        rw [← hX] at hsml
        have r2 := HS.out.r0.at (j := 2) rfl
        have i2 : wr.cell? ⟨g, k * 16 + 2, none⟩ = some (.slice pp.a X.ts.length pp.c) := by rw [hX, hpp]; exact (own_cell HS.out.own (by omega) (by omega) rfl).1
        have HC1 := Lib.hid (cloneTerm (.slice pp.a X.ts.length pp.c) X.ts.length (X.ts.flatMap T.cells) wr (hlis.ts.below HS.out.bel).lies (flat_len T.cells 4 (fun _ => rfl) X.ts) (tcells_one X.ts) hsml.1)
        have HLI := Lib.hid hlis
        have HSL := Lib.hid hsml
        clear hX hpp hlis hsml
        go_wp2_with fail
        refine HC1.out.mono ?_
        rintro q w5 ⟨sv, rfl, ho5, b5⟩
        obtain ⟨a5, c5, m1, rfl, htb5, hlo5, -⟩ := tb_own ho5 HLI.out.ts.wf
        obtain ⟨xs1, hxs1, hS1, hf1, htb6⟩ := HS.out.putA (k := k) hlt b5 (bl := m1) hlo5 (a' := a5) (c' := c5) (by rw [← HXP.out.1]; exact htb5)
        rw [← HXP.out.1] at hS1 hf1 htb6
        have hz5 : wr.heap.size ≤ (w5.setCell ⟨g, k * 16 + 2, none⟩ (.slice a5 X.ts.length c5)).heap.size := by simp only [World.size_setCell]; exact b5.size
        obtain ⟨j2, fz2⟩ := own_cell (own_below HS.out.own b5) (k := k) (by omega) (j := 2) (by omega) (v := .slice pp.a X.ts.length pp.c) (by rw [HXP.out.1, HXP.out.2]; rfl)
        rw [← HXP.out.1, ← HXP.out.2] at hxs1
        have HX1 : Hid (xs1 = xs.set k ⟨X, ⟨a5, c5, pp.la, pp.lc, pp.ra, pp.rc⟩⟩) := hxs1
        have HS1 := Lib.hid hS1
        have HF1 := Lib.hid hf1
        have HT6 := Lib.hid htb6
        have HZ5 := Lib.hid hz5
        clear HC1 ho5 htb5 hS1 hf1 htb6 hz5 hxs1 b5 r2 i2 hlo5
        go_upto_region 8 with fail
        generalize w5.setCell ⟨g, k * 16 + 2, none⟩ (.slice a5 X.ts.length c5) = W6 at HS1 HF1 HT6 HZ5 ⊢
        clear j2 fz2
        have hx1l : xs1.length = bd.length := HS1.out.len
        have hx1a : atL xs1 k = ⟨X, ⟨a5, c5, pp.la, pp.lc, pp.ra, pp.rc⟩⟩ := by rw [HX1.out, atL_set (by omega), if_pos rfl]
        have i4 := (own_cell HS1.out.own (k := k) (by omega) (j := 4) (v := .int .i8 X.l.op) (by omega) (by rw [hx1a]; rfl)).1
        have i5 := (own_cell HS1.out.own (k := k) (by omega) (j := 5) (v := .string X.l.t.v) (by omega) (by rw [hx1a]; rfl)).1
        have i6 := (own_cell HS1.out.own (k := k) (by omega) (j := 6) (v := .int .i8 X.l.t.a.k) (by omega) (by rw [hx1a]; rfl)).1
        have i7 := (own_cell HS1.out.own (k := k) (by omega) (j := 7) (v := .int .i64 X.l.t.a.n) (by omega) (by rw [hx1a]; rfl)).1
        have i8 := (own_cell HS1.out.own (k := k) (by omega) (j := 8) (v := .string X.l.t.a.s) (by omega) (by rw [hx1a]; rfl)).1
        have i9 := (own_cell HS1.out.own (k := k) (by omega) (j := 9) (v := .slice pp.la X.l.kids.length pp.lc) (by omega) (by rw [hx1a]; rfl)).1
        have HC2 := Lib.hid (cloneTree d X.l pp.la pp.lc W6 (HLI.out.l.below HS1.out.bel) HSL.out.2.1.1)
        unfold E.val at HC2
        have HA1 := Lib.hid hx1a
        clear hx1a
        go_wp2_with fail
        refine HC2.out.mono ?_
        rintro q w7 ⟨a7, c7, m2, rfl, b7, heb7, hlo7⟩
        have hput := HS1.out.putL (k := k) (d := d) hlt b7 (bl := m2) hlo7 (a' := a7) (c' := c7) (by rw [HA1.out]; exact heb7)
        rw [HA1.out] at hput
        obtain ⟨xs2, hxs2, hS2, hf2, heb8⟩ := hput
        dsimp only at hxs2 hS2 hf2 heb8
        have hz7 : W6.heap.size ≤ (put6x w7 g (k * 16 + 4) X.l (.slice a7 X.l.kids.length c7)).heap.size := by rw [put6x_size]; exact b7.size
        have hoc := fun j v (hj : j < 16) (hv : (atL xs1 k).cells[j]? = some v) => own_cell (own_below HS1.out.own b7) (k := k) (by omega) (j := j) (v := v) hj hv
        rw [HA1.out] at hoc
        obtain ⟨j4, fz4⟩ := hoc 4 _ (by omega) rfl
        obtain ⟨j5, fz5⟩ := hoc 5 _ (by omega) rfl
        obtain ⟨j6, fz6⟩ := hoc 6 _ (by omega) rfl
        obtain ⟨j7, fz7⟩ := hoc 7 _ (by omega) rfl
        obtain ⟨j8, fz8⟩ := hoc 8 _ (by omega) rfl
        obtain ⟨j9, fz9⟩ := hoc 9 _ (by omega) rfl
        have HX2 : Hid (xs2 = xs1.set k ⟨X, ⟨a5, c5, a7, c7, pp.ra, pp.rc⟩⟩) := hxs2
        have HT8 : Hid (TB (put6x w7 g (k * 16 + 4) X.l (.slice a7 X.l.kids.length c7)) X.ts a5 c5 m1) := HT6.out.keep hz7 (fun b hb => hf2 b (by simp [hb]))
        have HF2 : Hid (∀ b ∈ fb, (put6x w7 g (k * 16 + 4) X.l (.slice a7 X.l.kids.length c7)).heap[b]? = wr.heap[b]?) := fun b hb => (hf2 b (by simp [hb])).trans (HF1.out b hb)
        have HS2 := Lib.hid hS2
        have HE8 := Lib.hid heb8
        have HZ7 := Lib.hid (Nat.le_trans HZ5.out hz7)
        unfold put6x at HS2 HE8 HT8 HF2 HZ7
        simp only [Nat.add_assoc, Nat.reduceAdd] at HS2 HE8 HT8 HF2 HZ7
        clear HC2 heb7 hS2 hf2 heb8 hz7 hxs2 b7 hlo7 hoc HF1 HT6 HS1 HZ5 i4 i5 i6 i7 i8 i9
        go_upto_region 9 with fail
        generalize (((((w7.setCell ⟨g, k * 16 + 4, none⟩ (.int .i8 X.l.op)).setCell ⟨g, k * 16 + 5, none⟩ (.string X.l.t.v)).setCell ⟨g, k * 16 + 6, none⟩ (.int .i8 X.l.t.a.k)).setCell ⟨g, k * 16 + 7, none⟩ (.int .i64 X.l.t.a.n)).setCell ⟨g, k * 16 + 8, none⟩ (.string X.l.t.a.s)).setCell ⟨g, k * 16 + 9, none⟩ (.slice a7 X.l.kids.length c7) = W8 at HS2 HE8 HT8 HF2 HZ7 ⊢
        clear j4 j5 j6 j7 j8 j9 fz4 fz5 fz6 fz7 fz8 fz9
        have hx2l : xs2.length = bd.length := HS2.out.len
        have hx2a : atL xs2 k = ⟨X, ⟨a5, c5, a7, c7, pp.ra, pp.rc⟩⟩ := by rw [HX2.out, atL_set (by omega), if_pos rfl]
        have i4 := (own_cell HS2.out.own (k := k) (by omega) (j := 10) (v := .int .i8 X.r.op) (by omega) (by rw [hx2a]; rfl)).1
        have i5 := (own_cell HS2.out.own (k := k) (by omega) (j := 11) (v := .string X.r.t.v) (by omega) (by rw [hx2a]; rfl)).1
        have i6 := (own_cell HS2.out.own (k := k) (by omega) (j := 12) (v := .int .i8 X.r.t.a.k) (by omega) (by rw [hx2a]; rfl)).1
        have i7 := (own_cell HS2.out.own (k := k) (by omega) (j := 13) (v := .int .i64 X.r.t.a.n) (by omega) (by rw [hx2a]; rfl)).1
        have i8 := (own_cell HS2.out.own (k := k) (by omega) (j := 14) (v := .string X.r.t.a.s) (by omega) (by rw [hx2a]; rfl)).1
        have i9 := (own_cell HS2.out.own (k := k) (by omega) (j := 15) (v := .slice pp.ra X.r.kids.length pp.rc) (by omega) (by rw [hx2a]; rfl)).1
        have HC3 := Lib.hid (cloneTree d X.r pp.ra pp.rc W8 (HLI.out.r.below HS2.out.bel) HSL.out.2.2.1)
        unfold E.val at HC3
        have HA2 := Lib.hid hx2a
        clear hx2a HA1
        go_wp2_with fail
        refine HC3.out.mono ?_
        rintro q w9 ⟨a9, c9, m3, rfl, b9, heb9, hlo9⟩
        have hput := HS2.out.putR (k := k) (d := d) hlt b9 (bl := m3) hlo9 (a' := a9) (c' := c9) (by rw [HA2.out]; exact heb9)
        rw [HA2.out] at hput
        obtain ⟨xs3, hxs3, hS3, hf3, hebA⟩ := hput
        dsimp only at hxs3 hS3 hf3 hebA
        have hz9 : W8.heap.size ≤ (put6x w9 g (k * 16 + 10) X.r (.slice a9 X.r.kids.length c9)).heap.size := by rw [put6x_size]; exact b9.size
        have hoc := fun j v (hj : j < 16) (hv : (atL xs2 k).cells[j]? = some v) => own_cell (own_below HS2.out.own b9) (k := k) (by omega) (j := j) (v := v) hj hv
        rw [HA2.out] at hoc
        obtain ⟨j4, fz4⟩ := hoc 10 _ (by omega) rfl
        obtain ⟨j5, fz5⟩ := hoc 11 _ (by omega) rfl
        obtain ⟨j6, fz6⟩ := hoc 12 _ (by omega) rfl
        obtain ⟨j7, fz7⟩ := hoc 13 _ (by omega) rfl
        obtain ⟨j8, fz8⟩ := hoc 14 _ (by omega) rfl
        obtain ⟨j9, fz9⟩ := hoc 15 _ (by omega) rfl
        have HX3 : xs3 = xs.set k ⟨X, ⟨a5, c5, a7, c7, a9, c9⟩⟩ := by
          rw [hxs3, HX2.out, HX1.out, List.set_set, List.set_set]
        have HN : Hid (CrD w d xs3 (ls ++ [(m1, m2, m3)]) (fb ++ m1 ++ m2 ++ m3) (k + 1) (put6x w9 g (k * 16 + 10) X.r (.slice a9 X.r.kids.length c9))) := by
          refine CrD.round (p := ⟨a5, c5, a7, c7, a9, c9⟩) HS.out HD.out hlt hS3 (by rw [← HXP.out.1]; exact HX3) (fun b hb => (hf3 b (by simp [hb])).trans (HF2.out b hb)) (Nat.le_trans HZ7.out hz9) ?_ ?_ ?_
          · rw [← HXP.out.1]; exact HT8.out.keep hz9 (fun b hb => hf3 b (by simp [hb]))
          · rw [← HXP.out.1]; exact HE8.out.keep hz9 (fun b hb => hf3 b (by simp [hb]))
          · rw [← HXP.out.1]; exact hebA
        have HS3 := Lib.hid hS3
        unfold put6x at HS3 HN
        simp only [Nat.add_assoc, Nat.reduceAdd] at HS3 HN
        clear HC3 heb9 hS3 hf3 hebA hz9 hxs3 b9 hlo9 hoc HF2 HT8 HS2 HZ7 i4 i5 i6 i7 i8 i9 HE8 HS HD HX3
        go_wp2
        go_roundw
        case rel => exact ⟨k + 1, xs3, _, _, by omega, by go_num, HS3, HN⟩
        case measure => simp [intOf]; omega
      · obtain rfl : k = bd.length := by omega
        have g0 := HS.out.r0.at (j := 0) rfl
        have g1 := HS.out.r0.at (j := 1) rfl
        have g2 := HS.out.r0.at (j := 2) rfl
        have o0 := HS.out.r1.at (j := 0) rfl
        have o1 := HS.out.r1.at (j := 1) rfl
        have o2 := HS.out.r1.at (j := 2) rfl
        have f0 := World.rowIs.frozen HS.out.r1 0
        have f1 := World.rowIs.frozen HS.out.r1 1
        have f2 := World.rowIs.frozen HS.out.r1 2
        have HBB := Lib.hid (CrD.end HS.out HD.out)
        have HLO : Hid (∀ b ∈ l1 ++ g :: fb, w.heap.size + 2 ≤ b) := fun b hb => by
          rcases List.mem_append.1 hb with hb | hb
          · exact HS.out.lo b (by simp [hb])
          · rcases List.mem_cons.1 hb with rfl | hb
            · exact (HS.out.own.lt _ rfl).1
            · exact HS.out.lo b (by simp [hb])
        have HD1 := Lib.hid (res3_rl HS.out.r1 pr (.slice a1 hd.length c1) (.slice (some ⟨g, 0, none⟩) bd.length c2))
        have HD2 := Lib.hid (res3_below (g := w.heap.size + 1) HS.out.bel (by omega) pr (.slice a1 hd.length c1) (.slice (some ⟨g, 0, none⟩) bd.length c2))
        have HD3 : Hid (AB (res3 wr (w.heap.size + 1) pr (.slice a1 hd.length c1) (.slice (some ⟨g, 0, none⟩) bd.length c2)) hd a1 c1 l1) := HS.out.ab.keep (by rw [res3_size]; exact Nat.le_refl _) (fun b hb => res3_other _ _ _ _ _ (by have := HLO.out b (by simp [hb]); omega))
        have HD4 : Hid (BB (res3 wr (w.heap.size + 1) pr (.slice a1 hd.length c1) (.slice (some ⟨g, 0, none⟩) bd.length c2)) d xs (some ⟨g, 0, none⟩) c2 (g :: fb)) := HBB.out.keep (by rw [res3_size]; exact Nat.le_refl _) (fun b hb => res3_other _ _ _ _ _ (by have := HLO.out b (List.mem_append_right _ hb); omega))
        have HND := Lib.hid HS.out.nd
        have HES := Lib.hid HS.out.es
        unfold res3 at HD1 HD2 HD3 HD4
        clear HS HD HBB
        go_wp2
        refine bodyPost_ret (rl_results Tryz.results41 (v := .agg #[.string pr, .slice a1 hd.length c1, .slice (some ⟨g, 0, none⟩) bd.length c2]) rfl (run_loadVar_mid _ _ 0 25 [.string pr, .slice a1 hd.length c1, .slice (some ⟨g, 0, none⟩) bd.length c2] _ HD1.out.range Tryz.underlying25 rfl (by kernel_rfl))) rfl ?_
        exact ⟨xs, ⟨a1, c1, some ⟨g, 0, none⟩, c2⟩, l1, g :: fb, rfl, HES.out, HD2.out, HD3.out, HD4.out, HND.out, fun b hb => by have := HLO.out b hb; omega⟩
end Go.Proofs.YtgplipfebnigiaaGreatDoor
end
