import Derived.Test.YtlnhnpfgmiffpaaRpLw
namespace Go.Proofs.Ytlnhnpfgmiffpaa
open Go.RowKit Go.Maps Go.Shelf
set_option linter.unusedVariables false
set_option linter.unusedSimpArgs false
attribute [local go_sem ↓] Go.wp_at_zero Go.wp_at_succ
attribute [local go_sem] run_store_nilFuncP run_store_ptrP
theorem neq_bb (fl : Bool) (u : World) : (binOp .neq 4 (.bool fl) (.bool fl)).run Try.prog u = .ok (.bool false) u := by cases fl <;> kernel_rfl
attribute [-go_sem] loadVar
/-- at the first loop: how many pairs there are -/
def Ini (w W : World) (A L : Nat) (one two : Int) (k : Nat) : Prop := Below w.heap.size w W ∧ RL W A 23 [.int .i64 one, .int .i64 two] ∧
  ((k = 0 ∧ RL W L 30 [.pointer none, .pointer none, .nilFunc, .int .i64 0, .int .i64 0, .pointer none, .pointer none, .nilFunc, .int .i64 0, .int .i64 0]) ∨
   (k = 1 ∧ ∃ q r E n, RL W L 30 [.pointer q, .pointer r, .nilFunc, .int .i64 0, .int .i64 0, .pointer none, .pointer none, .nilFunc, .int .i64 0, .int .i64 0] ∧ Pa W (.pointer q) (.pointer r) [] n 0 E ∧ ∀ k, E k → w.heap.size ≤ k ∧ k ≠ L) ∨
   (k = 2 ∧ ∃ q r E n q' r' E' n', RL W L 30 [.pointer q, .pointer r, .nilFunc, .int .i64 0, .int .i64 0, .pointer q', .pointer r', .nilFunc, .int .i64 0, .int .i64 0] ∧ Pa W (.pointer q) (.pointer r) [] n 0 E ∧ Pa W (.pointer q') (.pointer r') [] n' 0 E' ∧ (∀ k, E k → w.heap.size ≤ k ∧ k ≠ L ∧ ¬ E' k) ∧ ∀ k, E' k → w.heap.size ≤ k ∧ k ≠ L))
section
variable {w W w1 w2 : World} {one two : Int} {n : Nat} {fl : Bool} {q r : Option Addr}
theorem set5_other (u : World) (L a b c d e g : Nat) (v0 v1 v2 v3 v4 : Value) (h : g ≠ L) : (((((u.setCell ⟨L, a, none⟩ v0).setCell ⟨L, b, none⟩ v1).setCell ⟨L, c, none⟩ v2).setCell ⟨L, d, none⟩ v3).setCell ⟨L, e, none⟩ v4).heap[g]? = u.heap[g]? := by
  rw [heap_setCell_other _ _ _ _ (by exact h), heap_setCell_other _ _ _ _ (by exact h), heap_setCell_other _ _ _ _ (by exact h), heap_setCell_other _ _ _ _ (by exact h), heap_setCell_other _ _ _ _ (by exact h)]
theorem set5_below {B : Nat} {a u : World} (h : Below B a u) (L i j k l m : Nat) (hL : B ≤ L) (v0 v1 v2 v3 v4 : Value) : Below B a (((((u.setCell ⟨L, i, none⟩ v0).setCell ⟨L, j, none⟩ v1).setCell ⟨L, k, none⟩ v2).setCell ⟨L, l, none⟩ v3).setCell ⟨L, m, none⟩ v4) :=
  ((((h.setCell (p := ⟨L, i, none⟩) hL _).setCell (p := ⟨L, j, none⟩) hL _).setCell (p := ⟨L, k, none⟩) hL _).setCell (p := ⟨L, l, none⟩) hL _).setCell (p := ⟨L, m, none⟩) hL _
theorem ini_step0 (h : Ini w W w.heap.size (w.heap.size + 1) one two 0) (hT : Ct w1 W.heap.size fl (.pointer q) [] n) (b1 : Below W.heap.size W w1) (hR : Cr w2 w1.heap.size fl (.pointer r) [] n) (b2 : Below w1.heap.size w1 w2) : Ini w (((((w2.setCell ⟨w.heap.size + 1, 0, none⟩ (.pointer q)).setCell ⟨w.heap.size + 1, 1, none⟩ (.pointer r)).setCell ⟨w.heap.size + 1, 2, none⟩ .nilFunc).setCell ⟨w.heap.size + 1, 3, none⟩ (.int .i64 0)).setCell ⟨w.heap.size + 1, 4, none⟩ (.int .i64 0)) w.heap.size (w.heap.size + 1) one two 1 := by
  obtain ⟨hb, hA, h0⟩ := h
  have hrl : RL W (w.heap.size + 1) 30 [.pointer none, .pointer none, .nilFunc, .int .i64 0, .int .i64 0, .pointer none, .pointer none, .nilFunc, .int .i64 0, .int .i64 0] := by
    rcases h0 with ⟨_, h⟩ | ⟨e, _⟩ | ⟨e, _⟩
    · exact h
    · omega
    · omega
  obtain ⟨E, hp, hE⟩ := pa_join2 hT b2 hR (Nat.le_refl _)
  have hz := hb.size
  have hLW := World.rowIs.lt hrl
  have z1 := b1.size
  have b12 := b1.trans (b2.mono b1.size)
  have hEk : ∀ k, E k → w.heap.size ≤ k ∧ k ≠ w.heap.size + 1 := fun k hk => by rcases hE k hk with e | e <;> omega
  refine ⟨set5_below (hb.trans (b12.mono hb.size)) _ _ _ _ _ _ (by omega) _ _ _ _ _, World.rowIs.of_block (hA.below b12) (set5_other _ _ _ _ _ _ _ _ _ _ _ _ _ (by omega)), .inr (.inl ⟨rfl, q, r, E, n, ?_, hp.blocks (fun k hk => set5_other _ _ _ _ _ _ _ _ _ _ _ _ _ (hEk k hk).2), hEk⟩)⟩
  exact (((((hrl.below b12).set 0 _).set 1 _).set 2 _).set 3 _).set 4 _
theorem ini_step1 (h : Ini w W w.heap.size (w.heap.size + 1) one two 1) (hT : Ct w1 W.heap.size fl (.pointer q) [] n) (b1 : Below W.heap.size W w1) (hR : Cr w2 w1.heap.size fl (.pointer r) [] n) (b2 : Below w1.heap.size w1 w2) : Ini w (((((w2.setCell ⟨w.heap.size + 1, 5, none⟩ (.pointer q)).setCell ⟨w.heap.size + 1, 6, none⟩ (.pointer r)).setCell ⟨w.heap.size + 1, 7, none⟩ .nilFunc).setCell ⟨w.heap.size + 1, 8, none⟩ (.int .i64 0)).setCell ⟨w.heap.size + 1, 9, none⟩ (.int .i64 0)) w.heap.size (w.heap.size + 1) one two 2 := by
  obtain ⟨hb, hA, h0⟩ := h
  obtain ⟨q0, r0, E0, n0, hrl, hp0, hE0⟩ : ∃ q0 r0 E0 n0, RL W (w.heap.size + 1) 30 [.pointer q0, .pointer r0, .nilFunc, .int .i64 0, .int .i64 0, .pointer none, .pointer none, .nilFunc, .int .i64 0, .int .i64 0] ∧ Pa W (.pointer q0) (.pointer r0) [] n0 0 E0 ∧ ∀ k, E0 k → w.heap.size ≤ k ∧ k ≠ w.heap.size + 1 := by
    rcases h0 with ⟨e, _⟩ | ⟨_, h⟩ | ⟨e, _⟩
    · omega
    · exact h
    · omega
  obtain ⟨E, hp, hE⟩ := pa_join2 hT b2 hR (Nat.le_refl _)
  have hz := hb.size
  have hLW := World.rowIs.lt hrl
  have z1 := b1.size
  have b12 := b1.trans (b2.mono b1.size)
  have hEk : ∀ k, E k → W.heap.size ≤ k := fun k hk => by rcases hE k hk with e | e <;> omega
  have p0 := hp0.keep b12
  refine ⟨set5_below (hb.trans (b12.mono hb.size)) _ _ _ _ _ _ (by omega) _ _ _ _ _, World.rowIs.of_block (hA.below b12) (set5_other _ _ _ _ _ _ _ _ _ _ _ _ _ (by omega)), .inr (.inr ⟨rfl, q0, r0, E0, n0, q, r, E, n, ?_, p0.blocks (fun k hk => set5_other _ _ _ _ _ _ _ _ _ _ _ _ _ (hE0 k hk).2), hp.blocks (fun k hk => set5_other _ _ _ _ _ _ _ _ _ _ _ _ _ (by have := hEk k hk; omega)), fun k hk => ⟨(hE0 k hk).1, (hE0 k hk).2, fun e => ?_⟩, fun k hk => ⟨by have := hEk k hk; omega, by have := hEk k hk; omega⟩⟩)⟩
  · exact (((((hrl.below b12).set 5 _).set 6 _).set 7 _).set 8 _).set 9 _
  · have := hp0.lt hk
    have := hEk k e
    omega
end
section
variable {w W w2 w3 : World} {L o o' N n : Nat} {l : List Value} {pT pR qT qR : Value} {rows rows' : List (List Int)} {E K E' K' : Nat → Prop} {fl : Bool} {q r : Option Addr}
theorem Sp.rlL {B : Nat} (h : Sp W L l o N B pT pR rows E K) : RL W L 30 l := let ⟨_, _, _, _, _, h1, _⟩ := h; h1.rl
theorem Sp.is {B : Nat} (h : Sp W L l o N B pT pR rows E K) : ∃ kv f t, l[o]? = some pT ∧ l[o + 1]? = some pR ∧ l[o + 2]? = some kv ∧ l[o + 3]? = some (.int .i64 f) ∧ l[o + 4]? = some (.int .i64 t) := let ⟨kv, f, t, _, _, h1, _⟩ := h; ⟨kv, f, t, h1.i0, h1.i1, h1.i2, h1.i3, h1.i4⟩
/-- the other pair is made anew as a Clone -/
theorem tw_clone (h : Tw w W L l o o' N pT pR qT qR rows rows' E K E' K') (ho : o + 5 ≤ o' ∨ o' + 5 ≤ o) (hl : o' + 5 ≤ l.length) (hT : Ct w2 W.heap.size fl (.pointer q) rows n) (b1 : Below W.heap.size W w2) (hR : Cr w3 w2.heap.size fl (.pointer r) rows n) (b2 : Below w2.heap.size w2 w3) :
    ∃ l2 E2, Tw w (((((w3.setCell ⟨L, o', none⟩ (.pointer q)).setCell ⟨L, o' + 1, none⟩ (.pointer r)).setCell ⟨L, o' + 2, none⟩ .nilFunc).setCell ⟨L, o' + 3, none⟩ (.int .i64 0)).setCell ⟨L, o' + 4, none⟩ (.int .i64 0)) L l2 o o' N pT pR (.pointer q) (.pointer r) rows rows E K E2 (fun _ => False) ∧ l2.length = l.length := by
  obtain ⟨kv, f, t, n0, gn, h1, h2, h3, h4, h5, h6⟩ := h.a
  obtain ⟨Ec, hp, hE⟩ := pa_join2 hT b2 hR (Nat.le_refl _)
  have z1 := b1.size
  have b12 := b1.trans (b2.mono b1.size)
  have hbz := h.bel.size
  have hLW := World.rowIs.lt h1.rl
  have hEk : ∀ k, Ec k → W.heap.size ≤ k := fun k hk => by rcases hE k hk with e | e <;> omega
  have rl := ((((((h1.rl.below b12).set o' (.pointer q)).set (o' + 1) (.pointer r)).set (o' + 2) .nilFunc).set (o' + 3) (.int .i64 0)).set (o' + 4) (.int .i64 0))
  have s1 := h1.keep b12
  have far : ∀ j, j < o' ∨ o' + 5 ≤ j → (((((l.set o' (.pointer q)).set (o' + 1) (.pointer r)).set (o' + 2) .nilFunc).set (o' + 3) (.int .i64 0)).set (o' + 4) (.int .i64 0))[j]? = l[j]? := fun j hj => by
    rw [List.getElem?_set_ne (by omega), List.getElem?_set_ne (by omega), List.getElem?_set_ne (by omega), List.getElem?_set_ne (by omega), List.getElem?_set_ne (by omega)]
  refine ⟨_, Ec, ⟨⟨kv, f, t, n0, gn, ⟨rl, (far _ (by omega)).trans h1.i0, (far _ (by omega)).trans h1.i1, (far _ (by omega)).trans h1.i2, (far _ (by omega)).trans h1.i3, (far _ (by omega)).trans h1.i4, s1.pa.blocks (fun k hk => set5_other _ _ _ _ _ _ _ _ _ _ _ _ _ (fun e => h1.nb.1 (e ▸ hk))), s1.kp.blocks (by simp [World.setCell]) (fun k hk => set5_other _ _ _ _ _ _ _ _ _ _ _ _ _ (fun e => h1.nb.2 (e ▸ hk))), h1.dj, h1.nb⟩, h2, h3, h4, h5, h6⟩,
    ⟨.nilFunc, 0, 0, n, 0, ⟨rl, ?_, ?_, ?_, ?_, ?_, hp.blocks (fun k hk => set5_other _ _ _ _ _ _ _ _ _ _ _ _ _ (by have := hEk k hk; omega)), .nil, fun _ _ h => h, fun e => by have := hEk L e; omega, fun e => e⟩, h2, by omega, by omega, fun k hk => by have := hEk k hk; omega, fun k hk => hk.elim⟩, fun k hk hk2 => ?_, fun k hk hk2 => hk2, fun k hk hk2 => ?_, set5_below (h.bel.trans (b12.mono hbz)) _ _ _ _ _ _ h.lo _ _ _ _ _, h.lo⟩, by simp⟩
  · rw [List.getElem?_set_ne (by omega), List.getElem?_set_ne (by omega), List.getElem?_set_ne (by omega), List.getElem?_set_ne (by omega), List.getElem?_set_self (by omega)]
  · rw [List.getElem?_set_ne (by omega), List.getElem?_set_ne (by omega), List.getElem?_set_ne (by omega), List.getElem?_set_self (by simp; omega)]
  · rw [List.getElem?_set_ne (by omega), List.getElem?_set_ne (by omega), List.getElem?_set_self (by simp; omega)]
  · rw [List.getElem?_set_ne (by omega), List.getElem?_set_self (by simp; omega)]
  · rw [List.getElem?_set_self (by simp; omega)]
  · have := h1.pa.lt hk
    have := hEk k hk2
    omega
  · have := h1.kp.lt hk
    have := hEk k hk2
    omega
end
end Go.Proofs.Ytlnhnpfgmiffpaa
