import Derived.Test.YtekjoccbbamehaaIxSame
import Derived.Test.YtekjoccbbamehaaRelAddT
import Derived.Test.YtekjoccbbamehaaRelMake
namespace Go.Proofs.Ytekjoccbbamehaa
open Go.RowKit Go.Maps Go.ChangeMaps
set_option linter.unusedVariables false
set_option linter.unusedSimpArgs false

theorem grpN_app (m : Int) (rows l : List (List Int)) : ∀ j, j ≤ rows.length → grpN m (rows ++ l) j = grpN m rows j
  | 0, _ => rfl
  | j + 1, h => by
    have e : (rows ++ l).getD j [] = rows.getD j [] := by
      rw [List.getD, List.getD, List.getElem?_append_left (by omega)]
    rw [grpN, grpN, grpN_app m rows l j (by omega), e]
theorem Rel.of_tx {w w' : World} {B t m : Nat} {sv : Value} {rows : List (List Int)} {ar gone : Int} (h : Rel w B t m sv rows ar gone) {ex : Nat → Prop} (tx : Tx ex w w') (hap : ∀ k, ex k → k ≠ t ∧ k ≠ m ∧ sv.ownBlock ≠ some k) : Rel w' B t m sv rows ar gone :=
  ⟨World.rowIs.of_block h.rl (tx.block t (World.rowIs.lt h.rl) (fun e => (hap t e).1 rfl)), own_of_block h.own (fun g hg => tx.block g (h.own.lt g hg).2 (fun e => (hap g e).2.2 hg)), h.map.of_block (tx.block m h.map.lt (fun e => (hap m e).2.1 rfl)), h.nd, h.ok, h.lo, h.ne⟩
/-- a relation and a book over it -/
structure Rb (w : World) (B' B t mm : Nat) (sv : Value) (rows : List (List Int)) (n : Nat) (gone : Int) (bk mb : Nat) (is : List Ie) : Prop where
  rel : Rel w B' t mm sv rows (n : Int) gone
  bo : Ibk w B bk mb t is
  right : ∀ i ∈ is, i.gone = gone → i.G = grpN i.m rows i.seen ∧ i.seen ≤ rows.length
  le : ∀ i ∈ is, i.gone ≤ gone
  ap : ∀ k, BX bk mb is k → k ≠ t ∧ k ≠ mm ∧ sv.ownBlock ≠ some k
  lo : B' ≤ w.heap.size ∧ B ≤ w.heap.size
section
variable {w w' : World} {B' B t mm : Nat} {sv : Value} {rows : List (List Int)} {n : Nat} {gone : Int} {bk mb : Nat} {is : List Ie}
theorem Rb.rlt (h : Rb w B' B t mm sv rows n gone bk mb is) {k : Nat} (hk : k = t ∨ k = mm ∨ sv.ownBlock = some k) : B' ≤ k ∧ k < w.heap.size := by
  rcases hk with rfl | rfl | hk
  · exact ⟨h.rel.lo.1, World.rowIs.lt h.rel.rl⟩
  · exact ⟨h.rel.lo.2, h.rel.map.lt⟩
  · exact h.rel.own.lt k hk
theorem Rb.keep (h : Rb w B' B t mm sv rows n gone bk mb is) (hb : Below w.heap.size w w') : Rb w' B' B t mm sv rows n gone bk mb is :=
  ⟨h.rel.keep hb, h.bo.keep hb, h.right, h.le, h.ap, Nat.le_trans h.lo.1 hb.size, Nat.le_trans h.lo.2 hb.size⟩
/-- the book is asked -/
theorem Rb.asked (h : Rb w B' B t mm sv rows n gone bk mb is) {is' : List Ie} {j : Ie} {m : Int} (A : Asked w w' B bk mb t is is' j m rows gone) : Rb w' B' B t mm sv rows n gone bk mb is' := by
  refine ⟨h.rel.of_tx A.tx h.ap, A.bo, fun i hi e => ?_, fun i hi => ?_, fun k hk => ?_, Nat.le_trans h.lo.1 A.tx.size, Nat.le_trans h.lo.2 A.tx.size⟩
  · rcases A.old i hi with rfl | hi
    · rw [A.jG, A.js, A.jm]
      exact ⟨rfl, Nat.le_refl _⟩
    · exact h.right i hi e
  · rcases A.old i hi with rfl | hi
    · rw [A.jg]
      exact Int.le_refl _
    · exact h.le i hi
  · rcases A.nw k hk with e | e
    · exact h.ap k e
    · refine ⟨fun e' => ?_, fun e' => ?_, fun e' => ?_⟩
      · have := (h.rlt (.inl e')).2; omega
      · have := (h.rlt (.inr (.inl e'))).2; omega
      · have := (h.rlt (.inr (.inr e'))).2; omega
theorem Rb.asked_below (h : Rb w B' B t mm sv rows n gone bk mb is) {is' : List Ie} {j : Ie} {m : Int} (A : Asked w w' B bk mb t is is' j m rows gone) : Below B w w' := A.tx.below h.lo.2 (fun k hk => (h.bo.flt hk).1)
/-- a row more -/
theorem Rb.add (h : Rb w B' B t mm sv rows n gone bk mb is) {sv' : Value} {r : List Int} (hT : RTouch w w' t mm sv) (hr : Rel w' B' t mm sv' (rows ++ [r]) (n : Int) gone) (hloc : ∀ g, sv'.ownBlock = some g → sv.ownBlock = some g ∨ w.heap.size ≤ g) : Rb w' B' B t mm sv' (rows ++ [r]) n gone bk mb is := by
  refine ⟨hr, h.bo.of_blocks (fun k hk => hT.block k (h.bo.flt hk).2 (h.ap k hk).1 (h.ap k hk).2.1 (h.ap k hk).2.2), fun i hi e => ?_, h.le, fun k hk => ⟨(h.ap k hk).1, (h.ap k hk).2.1, fun e => ?_⟩, Nat.le_trans h.lo.1 hT.size, Nat.le_trans h.lo.2 hT.size⟩
  · obtain ⟨e1, e2⟩ := h.right i hi e
    refine ⟨?_, by rw [List.length_append]; omega⟩
    rw [grpN_app _ _ _ _ e2]
    exact e1
  · rcases hloc k e with e | e
    · exact (h.ap k hk).2.2 e
    · have := (h.bo.flt hk).2; omega
theorem Rb.touch_below (h : Rb w B' B t mm sv rows n gone bk mb is) (hT : RTouch w w' t mm sv) : Below B' w w' := hT.below h.lo.1 h.rel.lo.1 h.rel.lo.2 (fun g hg => (h.rel.own.lt g hg).1)
/-- a row goes: no index is of now -/
theorem Rb.goes (h : Rb w B' B t mm sv rows n gone bk mb is) {sv' : Value} {rows' : List (List Int)} {gone' : Int} (hg : gone < gone') (hT : RTouch w w' t mm sv) (hr : Rel w' B' t mm sv' rows' (n : Int) gone') (hloc : ∀ g, sv'.ownBlock = some g → sv.ownBlock = some g ∨ w.heap.size ≤ g) : Rb w' B' B t mm sv' rows' n gone' bk mb is := by
  refine ⟨hr, h.bo.of_blocks (fun k hk => hT.block k (h.bo.flt hk).2 (h.ap k hk).1 (h.ap k hk).2.1 (h.ap k hk).2.2), fun i hi e => ?_, fun i hi => ?_, fun k hk => ⟨(h.ap k hk).1, (h.ap k hk).2.1, fun e => ?_⟩, Nat.le_trans h.lo.1 hT.size, Nat.le_trans h.lo.2 hT.size⟩
  · have := h.le i hi
    omega
  · have := h.le i hi
    omega
  · rcases hloc k e with e | e
    · exact (h.ap k hk).2.2 e
    · have := (h.bo.flt hk).2; omega
/-- a new book -/
theorem Rb.made (hr : Rel w B' t mm sv rows (n : Int) gone) (hB : B' ≤ w.heap.size) (hb : Ibk w' w.heap.size bk mb t []) (hw : Below w.heap.size w w') : Rb w' B' w.heap.size t mm sv rows n gone bk mb [] := by
  refine ⟨hr.keep hw, hb, fun i hi => (by cases hi), fun i hi => (by cases hi), fun k hk => ?_, Nat.le_trans hB hw.size, hw.size⟩
  have h1 := (hb.flt hk).1
  refine ⟨fun e => ?_, fun e => ?_, fun e => ?_⟩
  · have := World.rowIs.lt hr.rl; omega
  · have := hr.map.lt; omega
  · have := (hr.own.lt k e).2; omega
end
theorem Rb.look {w : World} {B' B t mm : Nat} {sv : Value} {rows : List (List Int)} {n : Nat} {gone : Int} {bk mb : Nat} {is : List Ie} (h : Rb w B' B t mm sv rows n gone bk mb is) (hn : n ≤ 24) (hlen : rows.length ≤ 100000000) {m : Int} (hm : (Lit.int .u32 m).wf = true) (hc : colB m n = true) {r : List Int} (hrow : RowOk r) :
    Calls Try.prog 10 #[.pointer (some ⟨bk, 0, none⟩), .int .u32 m, rowV r] w fun e w' => ∃ is' j sv, e = .returned (.tuple #[sv, .int .i64 0]) ∧ w'.ownsRow w.heap.size 3 1 sv (selX m rows r).length (numC (selX m rows r)) ∧ Asked w w' B bk mb t is is' j m rows gone :=
  look_bk h.bo h.lo.2 h.rel hn h.right h.ap hlen hm hc hrow
theorem Rb.count {w : World} {B' B t mm : Nat} {sv : Value} {rows : List (List Int)} {n : Nat} {gone : Int} {bk mb : Nat} {is : List Ie} (h : Rb w B' B t mm sv rows n gone bk mb is) (hn : n ≤ 24) (hlen : rows.length ≤ 100000000) {m : Int} (hm : (Lit.int .u32 m).wf = true) (hc : colB m n = true) {r : List Int} (hrow : RowOk r) :
    Calls Try.prog 11 #[.pointer (some ⟨bk, 0, none⟩), .int .u32 m, rowV r] w fun e w' => ∃ is' j, e = .returned (.tuple #[.int .i64 ((selX m rows r).length : Int), .int .i64 0]) ∧ Asked w w' B bk mb t is is' j m rows gone :=
  count_bk h.bo h.lo.2 h.rel hn h.right h.ap hlen hm hc hrow
theorem Rb.distinct {w : World} {B' B t mm : Nat} {sv : Value} {rows : List (List Int)} {n : Nat} {gone : Int} {bk mb : Nat} {is : List Ie} (h : Rb w B' B t mm sv rows n gone bk mb is) (hn : n ≤ 24) (hlen : rows.length ≤ 100000000) {m : Int} (hm : (Lit.int .u32 m).wf = true) (hc : colB m n = true) :
    Calls Try.prog 13 #[.pointer (some ⟨bk, 0, none⟩), .int .u32 m] w fun e w' => ∃ is' j, e = .returned (.tuple #[.int .i64 ((grpN m rows rows.length).length : Int), .int .i64 0]) ∧ Asked w w' B bk mb t is is' j m rows gone :=
  distinct_bk h.bo h.lo.2 h.rel hn h.right h.ap hlen hm hc
end Go.Proofs.Ytekjoccbbamehaa
