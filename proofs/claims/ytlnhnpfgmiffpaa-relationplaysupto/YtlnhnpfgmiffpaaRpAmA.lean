import Derived.Test.YtlnhnpfgmiffpaaRpAmR
import Derived.Test.YtlnhnpfgmiffpaaRpKeep7
import Derived.Test.YtlnhnpfgmiffpaaRpDoR
namespace Go.Proofs.Ytlnhnpfgmiffpaa
open Go.RowKit Go.Maps Go.Shelf
set_option linter.unusedVariables false
set_option linter.unusedSimpArgs false

/-- the pair, where its blocks are as they were -/
theorem Bo.blocks {w w' : World} {b o B t m p n : Nat} {sv sv' : Value} {rows : List (List Int)} {gn : Int} (h : Bo w b o B t m sv p sv' rows n gn) (hz : w.heap.size ≤ w'.heap.size) (hb : w'.heap[b]? = w.heap[b]?) (hE : ∀ k, BoE t m sv p sv' k → w'.heap[k]? = w.heap[k]?) : Bo w' b o B t m sv p sv' rows n gn :=
  ⟨Nat.lt_of_lt_of_le h.bl hz, (World.cell?_of_block (w := w) hb).trans h.cT, (World.cell?_of_block (w := w) hb).trans h.cR, h.rel.blocks (hE _ (.inl rfl)) (hE _ (.inr (.inl rfl))) (fun g hg => hE _ (.inr (.inr (.inr (.inl hg))))), h.rf.blocks (hE _ (.inr (.inr (.inl rfl)))) (fun g hg => hE _ (.inr (.inr (.inr (.inr hg))))), h.na, h.ap, h.nb⟩
theorem Bo.ltE {w : World} {b o B t m p n : Nat} {sv sv' : Value} {rows : List (List Int)} {gn : Int} (h : Bo w b o B t m sv p sv' rows n gn) {k : Nat} (hk : BoE t m sv p sv' k) : k < w.heap.size := by
  rcases hk with e | e | e | e | e
  · rw [e]; exact World.rowIs.lt h.rel.rl
  · rw [e]; exact h.rel.map.lt
  · rw [e]; exact World.rowIs.lt h.rf.rl
  · exact (h.rel.own.lt _ e).2
  · exact (h.rf.own.lt _ e).2
theorem own_cells {w : World} {B : Nat} {e : TypeId} {k : Nat} {v : Value} {n : Nat} {xs : List Value} (h : w.ownsRow B e k v n xs) {g : Nat} (hg : v.ownBlock = some g) : ∃ c, w.heap[g]? = some (.cells c e (0, 0)) := by
  obtain ⟨_, ⟨e', h0⟩ | ⟨g', cap', cur, e', _, hgb, _⟩⟩ := h
  · rw [e'] at hg; cases hg
  · rw [e'] at hg
    have : g' = g := by simpa [Value.ownBlock] using hg
    subst this
    exact ⟨_, hgb⟩
/-- only the pair's blocks and that of k have turned since W8 -/
def Fx (E : Nat → Prop) (kb : Nat) (W8 V : World) : Prop := BK.Tch (fun q => E q ∨ q = kb) W8 V
theorem Fx.keep {E : Nat → Prop} {kb : Nat} {W8 V V' : World} (h : Fx E kb W8 V) (hb : Below V.heap.size V V') : Fx E kb W8 V' := BK.Tch.trans h (BK.Tch.of_below hb)
theorem Fx.touch {E : Nat → Prop} {kb : Nat} {W8 V u : World} {a c : Nat} {s : Value} (h : Fx E kb W8 V) (r : RTouch V u a c s) (ha : E a) (hc : E c) (hs : ∀ q, s.ownBlock = some q → E q ∨ W8.heap.size ≤ q) : Fx E kb W8 u :=
  ⟨r.os.trans h.os, r.tape.trans h.tape, r.output.trans h.output, Nat.le_trans h.size r.size, fun q hq hn => by
    have n1 : q ≠ a := fun e => hn (.inl (e ▸ ha))
    have n2 : q ≠ c := fun e => hn (.inl (e ▸ hc))
    have n3 : s.ownBlock ≠ some q := fun e => (hs q e).elim (fun h => hn (.inl h)) (fun h => by omega)
    exact (r.block q (Nat.lt_of_lt_of_le hq h.size) n1 n2 n3).trans (h.block q hq hn)⟩
/-- amid the range: at first all is as it was; behind the first row it is turned -/
structure Am (W8 : World) (b o t m p n kb : Nat) (sv sv' : Value) (rows rowsA : List (List Int)) (gn gnA : Int) (k : Nat) (W : World) : Prop where
  st : (k = 0 ∧ Bo W b o 0 t m sv p sv' rows n gn) ∨ (0 < k ∧ ∃ sv2 sv2', Bo W b o 0 t m sv2 p sv2' rowsA n gnA ∧ LocB W8 sv sv2 ∧ LocB W8 sv' sv2')
  fx : Fx (BoE t m sv p sv') kb W8 W
  bk : Boxed W kb 3 (.int .i64 (k : Int))
section
variable {W8 W W' : World} {b o t m p n kb : Nat} {sv sv' : Value} {rows rowsA : List (List Int)} {gn gnA : Int} {k : Nat}
theorem Am.keep (h : Am W8 b o t m p n kb sv sv' rows rowsA gn gnA k W) (hb : Below W.heap.size W W') : Am W8 b o t m p n kb sv sv' rows rowsA gn gnA k W' := by
  refine ⟨?_, h.fx.keep hb, bxB h.bk hb⟩
  rcases h.st with ⟨e, h1⟩ | ⟨e, s2, s2', h1, h2, h3⟩
  · exact .inl ⟨e, h1.keep hb⟩
  · exact .inr ⟨e, s2, s2', h1.keep hb, h2, h3⟩
theorem bo_grown {s s' : Value} {rs : List (List Int)} {g9 : Int} {row : Option Nat} {B8 : Nat} (h1 : Bo W b o 0 t m s p s' rs n g9) (hg : W.grownBy W' row) (hr : ∀ r, row = some r → B8 ≤ r ∧ ∃ o : Obj, W.heap[r]? = some o ∧ o.isCells = false) (hb : b < B8) (ht : t < B8) (hm : m < B8) (hp : p < B8) : Bo W' b o 0 t m s p s' rs n g9 := by
  have hlt : ∀ {q : Nat}, q < B8 → some q ≠ row := fun hq e => by have := (hr _ e.symm).1; omega
  have hcl : ∀ {q : Nat} {c : Array Value} {e : TypeId}, W.heap[q]? = some (.cells c e (0, 0)) → some q ≠ row := fun hc e => by
    obtain ⟨_, o, ho, hcl⟩ := hr _ e.symm
    rw [hc] at ho
    cases ho
    simp [Obj.isCells] at hcl
  refine h1.blocks hg.size (hg.block b h1.bl (hlt hb)) (fun q hq => hg.block q (h1.ltE hq) ?_)
  rcases hq with e | e | e | e | e
  · rw [e]; exact hlt ht
  · rw [e]; exact hlt hm
  · rw [e]; exact hlt hp
  · obtain ⟨c, hc⟩ := own_cells h1.rel.own e
    exact hcl hc
  · obtain ⟨c, hc⟩ := own_cells h1.rf.own e
    exact hcl hc
theorem Am.kept (h : Am W8 b o t m p n kb sv sv' rows rowsA gn gnA k W) {row : Option Nat} (hg : W.grownBy W' row) (hr : ∀ r, row = some r → W8.heap.size ≤ r ∧ ∃ o : Obj, W.heap[r]? = some o ∧ o.isCells = false) (hb : b < W8.heap.size) (ht : t < W8.heap.size) (hm : m < W8.heap.size) (hp : p < W8.heap.size) (hk : kb < W8.heap.size) : Am W8 b o t m p n kb sv sv' rows rowsA gn gnA k W' := by
  refine ⟨?_, ⟨hg.os.trans h.fx.os, hg.tape.trans h.fx.tape, hg.output.trans h.fx.output, Nat.le_trans h.fx.size hg.size, fun q hq hn => (hg.block q (Nat.lt_of_lt_of_le hq h.fx.size) (fun e => by have := (hr _ e.symm).1; omega)).trans (h.fx.block q hq hn)⟩, h.bk.kept hg (fun e => by have := (hr _ e.symm).1; omega)⟩
  · rcases h.st with ⟨e, h1⟩ | ⟨e, s2, s2', h1, h2, h3⟩
    · exact .inl ⟨e, bo_grown h1 hg hr hb ht hm hp⟩
    · exact .inr ⟨e, s2, s2', bo_grown h1 hg hr hb ht hm hp, h2, h3⟩
end
theorem RTouch.weaken {w w' : World} {t m : Nat} (sv : Value) (h : RTouch w w' t m (.pointer none)) : RTouch w w' t m sv := ⟨h.os, h.tape, h.output, h.size, fun k hk h1 h2 _ => h.block k hk h1 h2 (fun e => by cases e)⟩
theorem RTouch.keepsFrom {W u : World} {a c B : Nat} {s : Value} (r : RTouch W u a c s) (ha : a < B) (hc : c < B) (hs : ∀ q, s.ownBlock = some q → ∃ cs e, W.heap[q]? = some (.cells cs e (0, 0))) : KeepsFrom B W u :=
  ⟨r.size, fun k ob hk ho hcl => (r.block k (Array.getElem?_eq_some_iff.1 ho).1 (by omega) (by omega) (fun e => by
    obtain ⟨cs, e2, h2⟩ := hs k e
    rw [h2] at ho
    cases ho
    simp [Obj.isCells] at hcl)).trans ho⟩
theorem Rel.cellsR {w : World} {B t m : Nat} {sv : Value} {rows : List (List Int)} {ar gone : Int} (h : Rel w B t m sv rows ar gone) : ∀ q, sv.ownBlock = some q → ∃ cs e, w.heap[q]? = some (.cells cs e (0, 0)) := fun q hq => let ⟨c, hc⟩ := own_cells h.own hq; ⟨c, _, hc⟩
theorem Rf.cellsR {w : World} {B p : Nat} {sv : Value} {rows : List (List Int)} {ar tk : Int} (h : Rf w B p sv rows ar tk) : ∀ q, sv.ownBlock = some q → ∃ cs e, w.heap[q]? = some (.cells cs e (0, 0)) := fun q hq => let ⟨c, hc⟩ := own_cells h.own hq; ⟨c, _, hc⟩
theorem tch_touch {E : Nat → Prop} {V X Y : World} {a c : Nat} {s : Value} (h : BK.Tch E V X) (r : RTouch X Y a c s) (ha : E a) (hc : E c) (hs : ∀ q, s.ownBlock = some q → E q ∨ V.heap.size ≤ q) : BK.Tch E V Y :=
  ⟨r.os.trans h.os, r.tape.trans h.tape, r.output.trans h.output, Nat.le_trans h.size r.size, fun q hq hn => by
    have n1 : q ≠ a := fun e => hn (e ▸ ha)
    have n2 : q ≠ c := fun e => hn (e ▸ hc)
    have n3 : s.ownBlock ≠ some q := fun e => (hs q e).elim hn (fun h => by omega)
    exact (r.block q (Nat.lt_of_lt_of_le hq h.size) n1 n2 n3).trans (h.block q hq hn)⟩
theorem tch_keepsFrom {E : Nat → Prop} {V X : World} {B : Nat} (h : BK.Tch E V X) (hE : ∀ q, E q → q < B) : KeepsFrom B V X :=
  ⟨h.size, fun k ob hk ho _ => (h.block k (Array.getElem?_eq_some_iff.1 ho).1 (fun e => by have := hE k e; omega)).trans ho⟩
/-- behind the turn amid the range: the two relations turned alike -/
structure Tn2 (V : World) (b o t m p n g : Nat) (sv sv' : Value) (rows rs : List (List Int)) (gn' : Int) (u : World) : Prop where
  bo : ∃ s s', Bo u b o 0 t m s p s' rs n gn' ∧ LocB V sv s ∧ LocB V sv' s'
  tc : BK.Tch (BoE t m sv p sv') V u
  hl : Hl g rows u
/-- at the end of a call with a range in it -/
theorem collectedT {W : World} {B D : Nat} {v : Value} (hB : Boxed W B 4 v) (hK : W.heap[D]? = some (.deferred (some []))) (x : Value) :
    D ≠ B ∧ Hid ((W.setCell ⟨B, 0, none⟩ x).heap[D]? = some (.deferred (some []))) ∧ Hid ((loadVar 4 ⟨B, 0, none⟩).run Try.prog ((W.setCell ⟨B, 0, none⟩ x).putObj D (.deferred none)) = .ok x ((W.setCell ⟨B, 0, none⟩ x).putObj D (.deferred none))) := by
  have hne : D ≠ B := by
    rintro rfl
    rw [show W.heap[D]? = _ from hB] at hK
    cases hK
  have hK' : (W.setCell ⟨B, 0, none⟩ x).heap[D]? = some (.deferred (some [])) := (heap_setCell_other _ _ _ _ (by exact hne)).trans hK
  have hbx : Boxed ((W.setCell ⟨B, 0, none⟩ x).putObj D (.deferred none)) B 4 x := (World.putObj_heap_other (by omega)).trans (hB.set x)
  exact ⟨hne, hK', run_loadBoolP hbx.cell⟩
/-- behind the range: what is there -/
theorem Am.done {w W8 W : World} {b o t m p n kb br D k : Nat} {sv sv' x : Value} {rows rowsA : List (List Int)} {gn gnA : Int} (h : Am W8 b o t m p n kb sv sv' rows rowsA gn gnA k W) (h0 : Bo w b o 0 t m sv p sv' rows n gn) (hb8 : Below w.heap.size w W8) (hbr : w.heap.size ≤ br ∧ br < W8.heap.size) (hkb : w.heap.size ≤ kb) (hD : W8.heap.size ≤ D) (hK : W.heap[D]? = some (.deferred (some [])))
    (hlA : rowsA.length ≤ rows.length + 1) (hgA : gnA = gn ∨ gnA = gn + 1) :
    (∃ sv2 sv2' rows2 gn2, Bo ((W.setCell ⟨br, 0, none⟩ x).putObj D (.deferred none)) b o 0 t m sv2 p sv2' rows2 n gn2 ∧ LocB w sv sv2 ∧ LocB w sv' sv2' ∧ rows2.length ≤ rows.length + 1 ∧ (gn2 = gn ∨ gn2 = gn + 1)) ∧ BK.Tch (BoE t m sv p sv') w ((W.setCell ⟨br, 0, none⟩ x).putObj D (.deferred none)) := by
  have hz8 := hb8.size
  have hbl := h0.bl
  have hE : ∀ q, BoE t m sv p sv' q → q < w.heap.size := fun q hq => h0.ltE hq
  have same : ∀ q, q ≠ br → q ≠ D → ((W.setCell ⟨br, 0, none⟩ x).putObj D (.deferred none)).heap[q]? = W.heap[q]? := fun q h1 h2 => (World.putObj_heap_other (by omega)).trans (heap_setCell_other _ _ _ _ (by exact h1))
  have hsz : W.heap.size ≤ ((W.setCell ⟨br, 0, none⟩ x).putObj D (.deferred none)).heap.size := by simp [World.putObj]
  have cell : ∀ {q : Nat} {c : Array Value} {e : TypeId}, W.heap[q]? = some (.cells c e (0, 0)) → q ≠ D := fun hc e => by rw [e, hK] at hc; cases hc
  have bo : ∀ {s s' : Value} {rs : List (List Int)} {g9 : Int}, Bo W b o 0 t m s p s' rs n g9 → LocB W8 sv s → LocB W8 sv' s' → Bo ((W.setCell ⟨br, 0, none⟩ x).putObj D (.deferred none)) b o 0 t m s p s' rs n g9 := fun {s s' rs g9} h1 l1 l2 => by
    have t1 := hE t (.inl rfl)
    have t2 := hE m (.inr (.inl rfl))
    have t3 := hE p (.inr (.inr (.inl rfl)))
    refine h1.blocks hsz (same b (by omega) (by omega)) (fun q hq => ?_)
    rcases hq with e | e | e | e | e
    · rw [e]; exact same t (by omega) (by omega)
    · rw [e]; exact same m (by omega) (by omega)
    · rw [e]; exact same p (by omega) (by omega)
    · obtain ⟨c, hc⟩ := own_cells h1.rel.own e
      refine same q ?_ (cell hc)
      rcases l1 q e with e | e
      · have := hE q (.inr (.inr (.inr (.inl e)))); omega
      · omega
    · obtain ⟨c, hc⟩ := own_cells h1.rf.own e
      refine same q ?_ (cell hc)
      rcases l2 q e with e | e
      · have := hE q (.inr (.inr (.inr (.inr e)))); omega
      · omega
  refine ⟨?_, ⟨h.fx.os.trans hb8.os, h.fx.tape.trans hb8.tape, h.fx.output.trans hb8.output, Nat.le_trans (Nat.le_trans hz8 h.fx.size) hsz, fun q hq hn => ?_⟩⟩
  · rcases h.st with ⟨_, h1⟩ | ⟨_, s2, s2', h1, l1, l2⟩
    · exact ⟨sv, sv', rows, gn, bo h1 (fun g hg => .inl hg) (fun g hg => .inl hg), fun g hg => .inl hg, fun g hg => .inl hg, by omega, .inl rfl⟩
    · exact ⟨s2, s2', rowsA, gnA, bo h1 l1 l2, l1.up hz8, l2.up hz8, hlA, hgA⟩
  · refine (same q (by omega) (by omega)).trans ((h.fx.block q (by omega) ?_).trans (hb8.block q hq))
    rintro (e | e)
    · exact hn e
    · omega
end Go.Proofs.Ytlnhnpfgmiffpaa
