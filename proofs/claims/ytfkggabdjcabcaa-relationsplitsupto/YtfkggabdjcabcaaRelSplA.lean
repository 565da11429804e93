import Derived.Test.YtfkggabdjcabcaaRelTurnS
namespace Go.Proofs.Ytfkggabdjcabcaa
open Go.RowKit Go.Maps
set_option linter.unusedVariables false
set_option linter.unusedSimpArgs false

/-- the blocks of a relation -/
def Bk (t m : Nat) (sv : Value) (g : Nat) : Prop := g = t ∨ g = m ∨ sv.ownBlock = some g
theorem Rel.blk_lt {w : World} {B t m : Nat} {sv : Value} {rows : List (List Int)} {ar gone : Int} (h : Rel w B t m sv rows ar gone) {g : Nat} (hg : Bk t m sv g) : B ≤ g ∧ g < w.heap.size := by
  rcases hg with rfl | rfl | hg
  · exact ⟨h.lo.1, World.rowIs.lt h.rl⟩
  · exact ⟨h.lo.2, h.map.lt⟩
  · exact h.own.lt g hg
theorem RTouch.out {w w' : World} {t m : Nat} {sv : Value} (h : RTouch w w' t m sv) {g : Nat} (hg : g < w.heap.size) (hn : ¬ Bk t m sv g) : w'.heap[g]? = w.heap[g]? :=
  h.block g hg (fun e => hn (.inl e)) (fun e => hn (.inr (.inl e))) (fun e => hn (.inr (.inr e)))
theorem Rel.base {w : World} {B B' t m : Nat} {sv : Value} {rows : List (List Int)} {ar gone : Int} (h : Rel w B t m sv rows ar gone) (hB : B' ≤ B) : Rel w B' t m sv rows ar gone :=
  ⟨h.rl, own_base h.own hB, h.map, h.nd, h.ok, ⟨by have := h.lo.1; omega, by have := h.lo.2; omega⟩, h.ne⟩
/-- two relations and a list of rows, whose blocks lie apart -/
structure Tw (w wr : World) (t m : Nat) (sv : Value) (rs : List (List Int)) (gn : Int) (t2 m2 : Nat) (sv2 : Value) (rs2 : List (List Int)) (gn2 : Int) (o : Value) (os : List (List Int)) : Prop where
  r1 : Rel wr w.heap.size t m sv rs 3 gn
  r2 : Rel wr w.heap.size t2 m2 sv2 rs2 3 gn2
  own : wr.ownsRow w.heap.size 27 24 o os.length (flatR os)
  a12 : ∀ g, Bk t m sv g → ¬ Bk t2 m2 sv2 g
  ao1 : ∀ g, o.ownBlock = some g → ¬ Bk t m sv g
  ao2 : ∀ g, o.ownBlock = some g → ¬ Bk t2 m2 sv2 g
  bel : Below w.heap.size w wr
theorem Tw.swap {w wr : World} {t m : Nat} {sv : Value} {rs : List (List Int)} {gn : Int} {t2 m2 : Nat} {sv2 : Value} {rs2 : List (List Int)} {gn2 : Int} {o : Value} {os : List (List Int)} (h : Tw w wr t m sv rs gn t2 m2 sv2 rs2 gn2 o os) : Tw w wr t2 m2 sv2 rs2 gn2 t m sv rs gn o os :=
  ⟨h.r2, h.r1, h.own, fun g h2 h1 => h.a12 g h1 h2, h.ao2, h.ao1, h.bel⟩
theorem Tw.keep {w wr wr' : World} {t m : Nat} {sv : Value} {rs : List (List Int)} {gn : Int} {t2 m2 : Nat} {sv2 : Value} {rs2 : List (List Int)} {gn2 : Int} {o : Value} {os : List (List Int)} (h : Tw w wr t m sv rs gn t2 m2 sv2 rs2 gn2 o os) (hb : Below wr.heap.size wr wr') : Tw w wr' t m sv rs gn t2 m2 sv2 rs2 gn2 o os :=
  ⟨h.r1.keep hb, h.r2.keep hb, own_below h.own hb, h.a12, h.ao1, h.ao2, h.bel.trans (hb.mono h.bel.size)⟩
/-- a turn of the first one -/
theorem Tw.turn {w wr w2 : World} {t m : Nat} {sv sv' : Value} {rs rs' : List (List Int)} {gn gn' : Int} {t2 m2 : Nat} {sv2 : Value} {rs2 : List (List Int)} {gn2 : Int} {o : Value} {os : List (List Int)} (h : Tw w wr t m sv rs gn t2 m2 sv2 rs2 gn2 o os) (hT : RTouch wr w2 t m sv) (hr : Rel w2 w.heap.size t m sv' rs' 3 gn') (hloc : ∀ g, sv'.ownBlock = some g → sv.ownBlock = some g ∨ wr.heap.size ≤ g) : Tw w w2 t m sv' rs' gn' t2 m2 sv2 rs2 gn2 o os := by
  have hbk : ∀ g, Bk t m sv' g → Bk t m sv g ∨ wr.heap.size ≤ g := fun g hg => by
    rcases hg with e | e | e
    · exact .inl (.inl e)
    · exact .inl (.inr (.inl e))
    · exact (hloc g e).imp (fun e => .inr (.inr e)) id
  have k2 : ∀ g, Bk t2 m2 sv2 g → w2.heap[g]? = wr.heap[g]? := fun g hg => hT.out (h.r2.blk_lt hg).2 (fun e => h.a12 g e hg)
  refine ⟨hr, h.r2.of_blocks (k2 _ (.inl rfl)) (k2 _ (.inr (.inl rfl))) (fun g hg => k2 g (.inr (.inr hg))), own_of_block h.own (fun g hg => hT.out (h.own.lt g hg).2 (h.ao1 g hg)), fun g h1 h2 => ?_, fun g hg h1 => ?_, h.ao2, h.bel.trans (hT.below h.bel.size h.r1.lo.1 h.r1.lo.2 (fun g hg => (h.r1.own.lt g hg).1))⟩
  · rcases hbk g h1 with e | e
    · exact h.a12 g e h2
    · have := (h.r2.blk_lt h2).2; omega
  · rcases hbk g h1 with e | e
    · exact h.ao1 g hg e
    · have := (h.own.lt g hg).2; omega
/-- behind turned and Clone -/
theorem Tw.start {w w2 w3 : World} {t m : Nat} {sv o : Value} {rows : List (List Int)} {gn : Int} {t2 m2 : Nat} {sv2 : Value} (h : Ts w w2 t m sv o rows rows 3 gn) (h2 : Rel w3 w2.heap.size t2 m2 sv2 rows 3 0) (hb : Below w2.heap.size w2 w3) : Tw w w3 t m sv rows gn t2 m2 sv2 rows 0 o rows := by
  have h1 := h.keep hb
  have hlt : ∀ g, Bk t m sv g → g < w2.heap.size := fun g hg => (h.rel.blk_lt hg).2
  refine ⟨h1.rel, h2.base h.bel.size, h1.own, fun g h3 h4 => ?_, fun g hg h3 => ?_, fun g hg h3 => ?_, h1.bel⟩
  · have := hlt g h3
    have := (h2.blk_lt h4).1
    omega
  · rcases h3 with e | e | e
    · exact (h.apart g hg).1 e
    · exact (h.apart g hg).2.1 e
    · exact (h.apart g hg).2.2 e
  · have := (h.own.lt g hg).2
    have := (h2.blk_lt h3).1
    omega
/-- Remove, as a turn -/
theorem remove_turn {w : World} {B t m : Nat} {sv : Value} {rs : List (List Int)} {gn : Nat} (h : Rel w B t m sv rs 3 gn) (hB : B ≤ w.heap.size) (hlen : rs.length ≤ 1000000000) (hgn : gn ≤ 1000000000) (r : List Int) (hr : RowOk r) :
    Calls Try.prog 12 #[.pointer (some ⟨t, 0, none⟩), rowV r] w fun e w' => ∃ b sv', e = .returned (.bool b) ∧ RTouch w w' t m sv ∧ Rel w' B t m sv' (stepT 3 (rs, gn) (true, r)).1 3 ((stepT 3 (rs, gn) (true, r)).2 : Nat) ∧ ∀ g, sv'.ownBlock = some g → sv.ownBlock = some g ∨ w.heap.size ≤ g := by
  by_cases hm : r ∈ rs
  · refine (remove_yes h hB hlen r hr (idxOf_at hm) (by rw [IntKind.wrap_i64]; omega)).mono ?_
    rintro e w' ⟨rfl, ⟨sv', hrel, hloc⟩, hT⟩
    refine ⟨true, sv', rfl, hT, ?_, fun g hg => .inr (hloc g hg)⟩
    have hs : stepT 3 (rs, gn) (true, r) = (rs.eraseIdx (rs.idxOf r), gn + 1) := by simp [stepT, hm]
    rw [hs]
    exact hrel
  · refine (remove_not h r hr hm).mono ?_
    rintro e w' ⟨rfl, hb⟩
    refine ⟨false, sv, rfl, RTouch.of hb, ?_, fun g hg => .inl hg⟩
    have hs : stepT 3 (rs, gn) (true, r) = (rs, gn) := by simp [stepT, hm]
    rw [hs]
    exact h.keep hb
/-- Add, as a turn -/
theorem add_turn {w : World} {B t m : Nat} {sv : Value} {rs : List (List Int)} {gn : Nat} (h : Rel w B t m sv rs 3 gn) (hB : B ≤ w.heap.size) (hlen : rs.length ≤ 1000000000) (r : List Int) (hr : RowOk r) :
    Calls Try.prog 13 #[.pointer (some ⟨t, 0, none⟩), rowV r] w fun e w' => ∃ b c sv', e = .returned (.tuple #[.bool b, .int .i64 c]) ∧ RTouch w w' t m sv ∧ Rel w' B t m sv' (stepT 3 (rs, gn) (false, r)).1 3 ((stepT 3 (rs, gn) (false, r)).2 : Nat) ∧ ∀ g, sv'.ownBlock = some g → sv.ownBlock = some g ∨ w.heap.size ≤ g := by
  refine (add_anyT h hB hlen r hr).mono ?_
  rintro e w' (⟨hf, rfl, hb⟩ | ⟨hf, hm, rfl, hb⟩ | ⟨hf, hm, rfl, hT, sv', hrel, hloc⟩)
  · refine ⟨_, _, sv, rfl, RTouch.of hb, ?_, fun g hg => .inl hg⟩
    have hs : stepT 3 (rs, gn) (false, r) = (rs, gn) := by simp [stepT, hf]
    rw [hs]
    exact h.keep hb
  · refine ⟨_, _, sv, rfl, RTouch.of hb, ?_, fun g hg => .inl hg⟩
    have hs : stepT 3 (rs, gn) (false, r) = (rs, gn) := by simp [stepT, hm]
    rw [hs]
    exact h.keep hb
  · refine ⟨_, _, sv', rfl, hT, ?_, hloc⟩
    have hs : stepT 3 (rs, gn) (false, r) = (rs ++ [r], gn) := by simp [stepT, hm, hf]
    rw [hs]
    exact hrel
theorem fold_take {ar : Int} {s : List (List Int) × Nat} {ts : List Tn} {k : Nat} {x : Tn} (h : ts[k]? = some x) : (ts.take (k + 1)).foldl (stepT ar) s = stepT ar ((ts.take k).foldl (stepT ar) s) x := by
  rw [List.take_add_one, h]
  simp [List.foldl_append]
theorem fold_over {ar : Int} {s : List (List Int) × Nat} {ts : List Tn} {k : Nat} (h : ts.length ≤ k) : (ts.take (k + 1)).foldl (stepT ar) s = (ts.take k).foldl (stepT ar) s := by
  rw [List.take_of_length_le (by omega), List.take_of_length_le h]
theorem fold_len {ar : Int} : ∀ (ts : List Tn) (s : List (List Int) × Nat), (ts.foldl (stepT ar) s).1.length ≤ s.1.length + ts.length ∧ (ts.foldl (stepT ar) s).2 ≤ s.2 + ts.length
  | [], s => by simp
  | x :: r, s => by
    have h1 := stepT_len ar s x
    have h2 := fold_len (ar := ar) r (stepT ar s x)
    simp only [List.foldl_cons, List.length_cons]
    omega
theorem turnL_size (ar : Int) (ts : List Tn) : (turnL ar ts).1.length ≤ ts.length ∧ (turnL ar ts).2 ≤ ts.length := by
  have := fold_len (ar := ar) ts ([], 0)
  simpa [turnL] using this
theorem run_neqRow {x y : List Int} (hx : RowOk x) (hy : RowOk y) (w : World) : (binOp .neq 27 (rowV x) (rowV y)).run Try.prog w = .ok (.bool (decide (x ≠ y))) w := by
  have h := run_eqRow hx hy w
  unfold rowV at h ⊢
  simp [binOp, run_underlying Try.underlying27, Result.andThen] at h ⊢
  revert h
  generalize (Op.equal _ _ _).run Try.prog w = R
  intro h
  cases R with
  | ok b u => simp at h ⊢; obtain ⟨rfl, rfl⟩ := h; simp
  | _ => simp at h
end Go.Proofs.Ytfkggabdjcabcaa
