import Derived.Test.YthdcgikhcghigaaSpLw
namespace Go.Proofs.Ythdcgikhcghigaa
open Go.RowKit Go.Maps Go.Shelf
set_option linter.unusedVariables false
set_option linter.unusedSimpArgs false

/-- what New made: the program's, and the reference's -/
inductive Ct (w : World) (B : Nat) : Bool → Value → Option Int → Nat → Prop
  | nil : Ct w B true (.pointer none) none 0
  | live {t m : Nat} {sv : Value} {most : Int} (tb : Tbl w t m sv [] most) (lt : B ≤ t) (lm : B ≤ m) (ls : ∀ g, sv.ownBlock = some g → B ≤ g) : Ct w B false (.pointer (some ⟨t, 0, none⟩)) (some most) m
inductive Cr (w : World) (B : Nat) : Bool → Value → Option Int → Prop
  | nil : Cr w B true (.pointer none) none
  | live {p : Nat} {sv : Value} {most : Int} (rt : Rt w B p sv [] most) : Cr w B false (.pointer (some ⟨p, 0, none⟩)) (some most)
theorem Ct.eql {w : World} {B : Nat} {b : Bool} {q : Value} {mo : Option Int} {mb : Nat} (h : Ct w B b q mo mb) (u : World) : (binOp .eql 24 q (.pointer none)).run Try.prog u = .ok (.bool b) u := by
  cases h with
  | nil => kernel_rfl
  | live tb lt lm ls => kernel_rfl
theorem Cr.eql {w : World} {B : Nat} {b : Bool} {q : Value} {mo : Option Int} (h : Cr w B b q mo) (u : World) : (binOp .eql 25 q (.pointer none)).run Try.prog u = .ok (.bool b) u := by
  cases h with
  | nil => kernel_rfl
  | live rt => kernel_rfl
theorem pa_join {w w' : World} {B B2 : Nat} {b : Bool} {qT qR : Value} {mo : Option Int} {mb : Nat} (hT : Ct w B b qT mo mb) (hb : Below w.heap.size w w') (hR : Cr w' B2 b qR mo) (h2 : w.heap.size ≤ B2) (h0 : 0 < w.heap.size) : mb < w'.heap.size ∧ ∃ E, Pa w' qT qR mo mb [] [] E ∧ ∀ k, E k → (B ≤ k ∧ k < w.heap.size) ∨ B2 ≤ k := by
  have hz := hb.size
  cases hT with
  | nil =>
    cases hR
    exact ⟨by omega, _, .nil, fun k hk => hk.elim⟩
  | live tb lt lm ls =>
    cases hR with
    | live rt =>
      have l1 := tb.lts
      refine ⟨by have := l1.2.1; omega, _, .live (tb.below hb) ⟨rt.rl, own_lowS rt.own (Nat.zero_le _), rt.wf, Nat.zero_le _, rt.ne⟩ (fun g hg e => by have := l1.2.2 g hg; have := (rt.own.lt g e).1; omega), fun k hk => ?_⟩
      rcases hk with e | e | e | e | e
      · exact .inl ⟨by omega, by have := l1.1; omega⟩
      · exact .inl ⟨by omega, by have := l1.2.1; omega⟩
      · exact .inr (by have := rt.lo; omega)
      · exact .inl ⟨ls k e, l1.2.2 k e⟩
      · exact .inr (rt.own.lt k e).1
/-- New of both sides -/
theorem pa_new (a : Int) : ∃ (fl : Bool) (er : Int) (mo : Option Int),
    (∀ u, Calls Try.prog 4 #[.int .i64 a] u fun e u' => ∃ q mb, e = .returned (.tuple #[.pointer q, .int .i64 er]) ∧ Ct u' u.heap.size fl (.pointer q) mo mb ∧ Below u.heap.size u u') ∧
    ∀ u, Calls Try.prog 5 #[.int .i64 a] u fun e u' => ∃ q, e = .returned (.tuple #[.pointer q, .int .i64 er]) ∧ Cr u' u.heap.size fl (.pointer q) mo ∧ Below u.heap.size u u' := by
  by_cases h : 0 ≤ a ∧ a ≤ 2147483647
  · refine ⟨false, 0, some a, fun u => ?_, fun u => ?_⟩
    · refine (new_ok u a h.1 h.2).mono ?_
      rintro e u' ⟨rfl, hb, tb⟩
      exact ⟨_, _, rfl, .live tb (by omega) (Nat.le_refl _) (fun g hg => by cases hg), hb⟩
    · refine (rtnew_any a h.1 h.2 u).mono ?_
      rintro e u' ⟨p, rfl, hr, hb⟩
      exact ⟨_, rfl, .live hr, hb⟩
  · have h' : a < 0 ∨ 2147483647 < a := by omega
    refine ⟨true, 1, none, fun u => ?_, fun u => ?_⟩
    · refine (new_out a h' u).mono ?_
      rintro e u' ⟨rfl, rfl⟩
      exact ⟨_, _, rfl, .nil, Below.refl _ _⟩
    · refine (rtnew_bad a h' u).mono ?_
      rintro e u' ⟨rfl, rfl⟩
      exact ⟨_, rfl, .nil, Below.refl _ _⟩
theorem run_store_ptrP (P : Program) (w : World) (a : Addr) (m : Mode) (p : Option Addr) : (store a (.pointer p) m).run P w = stored P w a (.pointer p) m := run_store P w a _ m rfl
theorem neq_bb (fl : Bool) (u : World) : (binOp .neq 4 (.bool fl) (.bool fl)).run Try.prog u = .ok (.bool false) u := by cases fl <;> kernel_rfl
/-- at the first loop: how many pairs there are -/
def Ini (w W : World) (A L : Nat) (one two : Int) (k : Nat) : Prop := Below w.heap.size w W ∧ RL W A 23 [.int .i64 one, .int .i64 two] ∧
  ((k = 0 ∧ RL W L 30 [.pointer none, .pointer none, .nilFunc, .pointer none, .pointer none, .nilFunc]) ∨
   (k = 1 ∧ ∃ q r E mo mb, RL W L 30 [.pointer q, .pointer r, .nilFunc, .pointer none, .pointer none, .nilFunc] ∧ Pa W (.pointer q) (.pointer r) mo mb [] [] E ∧ mb < W.heap.size ∧ ∀ k, E k → w.heap.size ≤ k ∧ k ≠ L) ∨
   (k = 2 ∧ ∃ q r E mo mb q' r' E' mo' mb', RL W L 30 [.pointer q, .pointer r, .nilFunc, .pointer q', .pointer r', .nilFunc] ∧ Pa W (.pointer q) (.pointer r) mo mb [] [] E ∧ mb < W.heap.size ∧ Pa W (.pointer q') (.pointer r') mo' mb' [] [] E' ∧ mb' < W.heap.size ∧ (∀ k, E k → w.heap.size ≤ k ∧ k ≠ L ∧ ¬ E' k) ∧ ∀ k, E' k → w.heap.size ≤ k ∧ k ≠ L))
section
variable {w W w1 w2 : World} {one two : Int} {mb : Nat} {mo : Option Int} {fl : Bool} {q r : Option Addr}
theorem set3_other (u : World) (L a b c g : Nat) (v0 v1 v2 : Value) (h : g ≠ L) : (((u.setCell ⟨L, a, none⟩ v0).setCell ⟨L, b, none⟩ v1).setCell ⟨L, c, none⟩ v2).heap[g]? = u.heap[g]? := by
  rw [heap_setCell_other _ _ _ _ (by exact h), heap_setCell_other _ _ _ _ (by exact h), heap_setCell_other _ _ _ _ (by exact h)]
theorem set3_below {B : Nat} {a u : World} (h : Below B a u) (L i j k : Nat) (hL : B ≤ L) (v0 v1 v2 : Value) : Below B a (((u.setCell ⟨L, i, none⟩ v0).setCell ⟨L, j, none⟩ v1).setCell ⟨L, k, none⟩ v2) :=
  ((h.setCell (p := ⟨L, i, none⟩) hL _).setCell (p := ⟨L, j, none⟩) hL _).setCell (p := ⟨L, k, none⟩) hL _
theorem ini_step0 (h : Ini w W w.heap.size (w.heap.size + 1) one two 0) (hT : Ct w1 W.heap.size fl (.pointer q) mo mb) (b1 : Below W.heap.size W w1) (hR : Cr w2 w1.heap.size fl (.pointer r) mo) (b2 : Below w1.heap.size w1 w2) : Ini w (((w2.setCell ⟨w.heap.size + 1, 0, none⟩ (.pointer q)).setCell ⟨w.heap.size + 1, 1, none⟩ (.pointer r)).setCell ⟨w.heap.size + 1, 2, none⟩ .nilFunc) w.heap.size (w.heap.size + 1) one two 1 := by
  obtain ⟨hb, hA, h0⟩ := h
  have hrl : RL W (w.heap.size + 1) 30 [.pointer none, .pointer none, .nilFunc, .pointer none, .pointer none, .nilFunc] := by
    rcases h0 with ⟨_, h⟩ | ⟨e, _⟩ | ⟨e, _⟩
    · exact h
    · omega
    · omega
  have hz := hb.size
  have hLW := World.rowIs.lt hrl
  have z1 := b1.size
  obtain ⟨hm, E, hp, hE⟩ := pa_join hT b2 hR (Nat.le_refl _) (by omega)
  have b12 := b1.trans (b2.mono b1.size)
  have hEk : ∀ k, E k → w.heap.size ≤ k ∧ k ≠ w.heap.size + 1 := fun k hk => by rcases hE k hk with e | e <;> omega
  refine ⟨set3_below (hb.trans (b12.mono hb.size)) _ _ _ _ (by omega) _ _ _, World.rowIs.of_block (hA.below b12) (set3_other _ _ _ _ _ _ _ _ _ (by omega)), .inr (.inl ⟨rfl, q, r, E, mo, mb, ?_, hp.blocks (fun k hk => set3_other _ _ _ _ _ _ _ _ _ (hEk k hk).2), by simpa [World.setCell] using hm, hEk⟩)⟩
  exact (((hrl.below b12).set 0 _).set 1 _).set 2 _
theorem ini_step1 (h : Ini w W w.heap.size (w.heap.size + 1) one two 1) (hT : Ct w1 W.heap.size fl (.pointer q) mo mb) (b1 : Below W.heap.size W w1) (hR : Cr w2 w1.heap.size fl (.pointer r) mo) (b2 : Below w1.heap.size w1 w2) : Ini w (((w2.setCell ⟨w.heap.size + 1, 3, none⟩ (.pointer q)).setCell ⟨w.heap.size + 1, 4, none⟩ (.pointer r)).setCell ⟨w.heap.size + 1, 5, none⟩ .nilFunc) w.heap.size (w.heap.size + 1) one two 2 := by
  obtain ⟨hb, hA, h0⟩ := h
  obtain ⟨q0, r0, E0, mo0, mb0, hrl, hp0, hm0, hE0⟩ : ∃ q0 r0 E0 mo0 mb0, RL W (w.heap.size + 1) 30 [.pointer q0, .pointer r0, .nilFunc, .pointer none, .pointer none, .nilFunc] ∧ Pa W (.pointer q0) (.pointer r0) mo0 mb0 [] [] E0 ∧ mb0 < W.heap.size ∧ ∀ k, E0 k → w.heap.size ≤ k ∧ k ≠ w.heap.size + 1 := by
    rcases h0 with ⟨e, _⟩ | ⟨_, h⟩ | ⟨e, _⟩
    · omega
    · exact h
    · omega
  have hz := hb.size
  have hLW := World.rowIs.lt hrl
  have z1 := b1.size
  have z2 := b2.size
  obtain ⟨hm, E, hp, hE⟩ := pa_join hT b2 hR (Nat.le_refl _) (by omega)
  have b12 := b1.trans (b2.mono b1.size)
  have hEk : ∀ k, E k → W.heap.size ≤ k := fun k hk => by rcases hE k hk with e | e <;> omega
  have p0 := hp0.keep b12
  refine ⟨set3_below (hb.trans (b12.mono hb.size)) _ _ _ _ (by omega) _ _ _, World.rowIs.of_block (hA.below b12) (set3_other _ _ _ _ _ _ _ _ _ (by omega)), .inr (.inr ⟨rfl, q0, r0, E0, mo0, mb0, q, r, E, mo, mb, ?_, p0.blocks (fun k hk => set3_other _ _ _ _ _ _ _ _ _ (hE0 k hk).2), by simp [World.setCell]; omega, hp.blocks (fun k hk => set3_other _ _ _ _ _ _ _ _ _ (by have := hEk k hk; omega)), by simpa [World.setCell] using hm, fun k hk => ⟨(hE0 k hk).1, (hE0 k hk).2, fun e => ?_⟩, fun k hk => ⟨by have := hEk k hk; omega, by have := hEk k hk; omega⟩⟩)⟩
  · exact (((hrl.below b12).set 3 _).set 4 _).set 5 _
  · have := hp0.lt hk
    have := hEk k e
    omega
end
end Go.Proofs.Ythdcgikhcghigaa
