import Derived.Test.YthdcgikhcghigaaSymTab
import Derived.Deep.RegionLaw
namespace Go.Proofs.Ythdcgikhcghigaa
open Go.RowKit Go.Maps Go.ChangeMaps
set_option linter.unusedVariables false
set_option linter.unusedSimpArgs false
attribute [local go_sem ↓] Go.wp_at_zero Go.wp_at_succ

/-- an append onto a row of the call's own, as one step of a region that draws its order -/
theorem step_append_own {P : Program} {ops : Array Oper} {o : Oper} {a : Act} {w : World} {K : Act → World → Prop} {Q : Exit → Act → World → Prop} {E : Prop}
    (hg : o.guard = none) (s x : Operand) (t : TypeId) (hop : o.op = Op.call { callee := Callee.builtin Builtin.append, args := #[s, x], argTypes := #[t, t] })
    (e : TypeId) (i : TypeInfo) (z : Value) (size bytes : Nat) (h1 : P.underlying t = some (.slice e)) (h2 : P.info? e = some i) (h3 : i.zero = some z) (h4 : i.size = size) (h5 : i.bytes = bytes) (h6 : z.cells.size = size) (h7 : 0 < size)
    (base : Nat) (v : Value) (n : Nat) (xs : List Value) (hs : a.eval s = v) (hown : w.ownsRow base e size v n xs)
    (ad : Addr) (m c : Nat) (news : List Value) (hx : a.eval x = .slice (some ad) m c) (hn : news.length = m * size) (hc : ∀ j u, news[j]? = some u → w.cell? (ad.add j) = some u) (h1c : ∀ u ∈ news, u.oneCell' = true)
    (b1 : n + m ≤ maxLen) (b2 : (n + m) * bytes ≤ 140737488355328) (hbase : base ≤ w.heap.size)
    (hK : ∀ v' w', w'.ownsRow base e size v' (n + m) (xs ++ news) → w.grownBy w' v.ownBlock → (v'.ownBlock = v.ownBlock ∨ v'.ownBlock = some w.heap.size) → K (a.put o.dst v') w') :
    if Region.wanted o (yielded ops a.tmps) = true then Oper.wp P o a w K Q else E := by
  have hw : Region.wanted o (yielded ops a.tmps) = true := by simp [Region.wanted, hg]
  rw [if_pos hw]
  obtain ⟨v', w', hrun, r1, r2, _, r3⟩ := run_append_own_at (P := P) w base t o.type e i z size bytes h1 h2 h3 h4 h5 h6 h7 v n xs hown ad m c news hn hc h1c b1 b2 hbase
  unfold Oper.wp
  simp [execOp, hop, resolve, invoke, builtin, hs, hx, hrun, Result.andThen]
  exact hK v' w' r1 r2 r3

/-- what a call on a table may have turned: the table's own blocks alone -/
structure Touch (w w' : World) (t m : Nat) (sv sv' : Value) : Prop where
  low : Below 0 w w'
  block : ∀ k, k < w.heap.size → k ≠ t → k ≠ m → sv.ownBlock ≠ some k → w'.heap[k]? = w.heap[k]?
  new : ∀ g, sv'.ownBlock = some g → sv.ownBlock = some g ∨ w.heap.size ≤ g

theorem infoVal : (Try.prog.info? 39).map (fun i => (i.zero, i.size, i.bytes)) = some (some (.agg #[.int .i8 0, .int .i64 0, .string ⟨#[]⟩]), 3, 32) := by kernel_rfl

theorem bcells {w w1 : World} {o : Array Value} {e : TypeId} (hb : Below (w.alloc (.cells o e)).heap.size (w.alloc (.cells o e)) w1) (i : Nat) : w1.cell? ⟨w.heap.size, i, none⟩ = o[i]? := by
  rw [hb.cell (p := ⟨w.heap.size, i, none⟩) (by simp)]
  simp only [World.cell?]
  rw [heap_alloc_new]
  simp

set_option maxHeartbeats 1600000 in
theorem add_has {w : World} {t m : Nat} {sv : Value} {vs : List V} {most : Int} (h : Tbl w t m sv vs most) {v : V} (hv : v.wf) (hc : chk v.k v.n v.s = 0) (hm : v ∈ vs) :
    Calls Try.prog 13 #[.pointer (some ⟨t, 0, none⟩), .agg #[.int .i8 v.k, .int .i64 v.n, .string v.s]] w fun e w' => e = .returned (.tuple #[.int .i32 (symOf vs v), .int .i64 0]) ∧ Below w.heap.size w w' := by
  have h1 := h.below ((Below.refl _ _).alloc (Nat.le_refl _) (.cells #[.int .i8 v.k, .int .i64 v.n, .string v.s] 39))
  obtain ⟨i, hi⟩ : ∃ i, i = symOf vs v := ⟨_, rfl⟩
  rw [← hi]
  clear h
  go_enter Try.func13, Try.ntmps13
  go_wp2_with (first
    | (go_at_call 21; refine (there_any h1).mono ?_; rintro e w' ⟨rfl, rfl⟩)
    | fail)
  refine (vcheck_any _ _ _ _ hv.text).mono ?_
  rintro e w1 ⟨rfl, hb1⟩
  rw [hc]
  have T := h1.below hb1
  have bl := ((Below.refl _ _).alloc (Nat.le_refl _) (.cells #[.int .i8 v.k, .int .i64 v.n, .string v.s] 39)).trans (hb1.mono (by simp) : Below w.heap.size _ _)
  have c0 : w1.cell? ⟨t, 0, none⟩ = some (.map (some m)) := T.row.cell (i := 0) (by omega)
  have b0 := bcells hb1 0
  have b1 := bcells hb1 1
  have b2 := bcells hb1 2
  simp at b0 b1 b2
  have hk : (Instr.lookup 54 (.map (some m)) (.agg #[.int .i8 v.k, .int .i64 v.n, .string v.s]) true).run Try.prog w1.drew = .ok (.tuple #[.int .i32 i, .bool true]) w1.drew := by
    have := T.drew.look hv
    rw [decide_eq_true hm, ← hi] at this
    exact this
  clear h1 hb1 T hi
  go_wp2
  go_region
  go_wp2
  go_ret2
  exact ⟨rfl, bl.drew⟩
set_option maxHeartbeats 1600000 in
theorem add_full {w : World} {t m : Nat} {sv : Value} {vs : List V} {most : Int} (h : Tbl w t m sv vs most) {v : V} (hv : v.wf) (hc : chk v.k v.n v.s = 0) (hm : v ∉ vs) (hf : most ≤ vs.length) :
    Calls Try.prog 13 #[.pointer (some ⟨t, 0, none⟩), .agg #[.int .i8 v.k, .int .i64 v.n, .string v.s]] w fun e w' => e = .returned (.tuple #[.int .i32 0, .int .i64 20]) ∧ Below w.heap.size w w' := by
  have h1 := h.below ((Below.refl _ _).alloc (Nat.le_refl _) (.cells #[.int .i8 v.k, .int .i64 v.n, .string v.s] 39))
  go_enter Try.func13, Try.ntmps13
  go_wp2_with (first
    | (go_at_call 21; refine (there_any h1).mono ?_; rintro e w' ⟨rfl, rfl⟩)
    | fail)
  refine (vcheck_any _ _ _ _ hv.text).mono ?_
  rintro e w1 ⟨rfl, hb1⟩
  rw [hc]
  have T := h1.below hb1
  obtain ⟨a, c, rfl, hl, _⟩ := ownsRow_form T.own
  have bl := ((Below.refl _ _).alloc (Nat.le_refl _) (.cells #[.int .i8 v.k, .int .i64 v.n, .string v.s] 39)).trans (hb1.mono (by simp) : Below w.heap.size _ _)
  have c0 : w1.cell? ⟨t, 0, none⟩ = some (.map (some m)) := T.row.cell (i := 0) (by omega)
  have c1 : w1.cell? ⟨t, 1, none⟩ = some (.slice a vs.length c) := T.row.cell (i := 1) (by omega)
  have c2 : w1.cell? ⟨t, 2, none⟩ = some (.int .i64 most) := T.row.cell (i := 2) (by omega)
  have b0 := bcells hb1 0
  have b1 := bcells hb1 1
  have b2 := bcells hb1 2
  simp at b0 b1 b2
  have hk : (Instr.lookup 54 (.map (some m)) (.agg #[.int .i8 v.k, .int .i64 v.n, .string v.s]) true).run Try.prog w1.drew = .ok (.tuple #[.int .i32 0, .bool false]) w1.drew := by
    have := T.drew.look hv
    rw [decide_eq_false hm, show symOf vs v = 0 by simp [symOf, hm]] at this
    exact this
  clear h1 hb1 h T
  go_wp2
  go_region
  go_wp2
  go_region
  go_wp2
  go_ret2
  exact ⟨rfl, bl.drew.drew⟩

theorem Tbl.apart {w : World} {t m : Nat} {sv : Value} {vs : List V} {most : Int} (h : Tbl w t m sv vs most) : t ≠ m ∧ (∀ g, sv.ownBlock = some g → g ≠ t ∧ g ≠ m) := by
  obtain ⟨c, hc, _⟩ := h.row
  obtain ⟨es, k, hm, _⟩ := h.map
  refine ⟨fun e => (by subst e; rw [hc] at hm; cases hm), fun g hg => ?_⟩
  obtain ⟨_, ⟨rfl, _⟩ | ⟨g', cap, cur, rfl, _, hb, _⟩⟩ := h.own
  · cases hg
  · cases hg
    exact ⟨fun e => (by simp only at e; subst e; rw [hc] at hb; cases hb), fun e => (by simp only at e; subst e; rw [hm] at hb; cases hb)⟩

theorem ownsRow_of_block {w w' : World} {base : Nat} {e : TypeId} {k : Nat} {sv : Value} {n : Nat} {xs : List Value} (h : w.ownsRow base e k sv n xs) (hg : ∀ g, sv.ownBlock = some g → w'.heap[g]? = w.heap[g]?) : w'.ownsRow base e k sv n xs := by
  obtain ⟨hl, h1 | ⟨g, cap, cur, rfl, h0, hb, r⟩⟩ := h
  · exact ⟨hl, .inl h1⟩
  · exact ⟨hl, .inr ⟨g, cap, cur, rfl, h0, (hg g rfl).trans hb, r⟩⟩

theorem ownsRow_kind {w : World} {base : Nat} {e : TypeId} {k : Nat} {sv : Value} {n : Nat} {xs : List Value} (h : w.ownsRow base e k sv n xs) {g : Nat} (hg : sv.ownBlock = some g) : ∃ cur, w.heap[g]? = some (.cells cur e (0, 0)) := by
  obtain ⟨_, ⟨rfl, _⟩ | ⟨g', cap, cur, rfl, _, hb, _⟩⟩ := h
  · cases hg
  · cases hg
    exact ⟨_, hb⟩

theorem flat_snoc (vs : List V) (v : V) : (vs ++ [v]).flatMap V.cells = vs.flatMap V.cells ++ [.int .i8 v.k, .int .i64 v.n, .string v.s] := by simp [V.cells]

/-- what stands behind Add of a new value -/
theorem add_fin {w w1 w2 W3 w3 : World} {t m : Nat} {sv sv' : Value} {vs : List V} {most : Int} {v : V} (hm : v ∉ vs) (bl : Below w.heap.size w w1) (hlt : t < w.heap.size ∧ m < w.heap.size)
    (T : Tbl w1 t m sv vs most) (hmap2 : MapIs w2 m (vs.zipIdx ++ [(v, vs.length)])) (hturn : w1.grownBy w2 (some m)) (h3 : w2.grownBy W3 none)
    (own3 : w3.ownsRow 0 39 3 sv' (vs.length + 1) (vs.flatMap V.cells ++ [.int .i8 v.k, .int .i64 v.n, .string v.s])) (hgrow : W3.grownBy w3 sv.ownBlock) (hloc : sv'.ownBlock = sv.ownBlock ∨ sv'.ownBlock = some W3.heap.size) :
    Tbl (w3.setCell ⟨t, 1, none⟩ sv') t m sv' (vs ++ [v]) most ∧ Touch w (w3.setCell ⟨t, 1, none⟩ sv') t m sv sv' := by
  have ap := T.apart
  have lts := T.lts
  have s1 := bl.size
  have s2 := hturn.size
  have s3 := h3.size
  have s4 := hgrow.size
  have tsv : sv.ownBlock ≠ some t := fun e => (ap.2 t e).1 rfl
  have msv : sv.ownBlock ≠ some m := fun e => (ap.2 m e).2 rfl
  have blk : ∀ k, k < w1.heap.size → k ≠ m → sv.ownBlock ≠ some k → w3.heap[k]? = w1.heap[k]? := fun k hk n1 n2 => by
    rw [hgrow.block k (by omega) (fun e => n2 e.symm), h3.block k (by omega) (by simp), hturn.block k hk (fun e => n1 (Option.some.inj e))]
  have row3 : w3.rowIs t 56 3 (tcells m sv most) := T.row.of_block (blk t lts.1 ap.1 tsv)
  have map3 : MapIs w3 m (vs.zipIdx ++ [(v, vs.length)]) := hmap2.of_block (by
    have hm2 := hmap2.lt
    rw [hgrow.block m (by omega) (fun e => msv e.symm), h3.block m hm2 (by simp)])
  have ne : ∀ g, sv'.ownBlock = some g → g ≠ t := fun g hg e => by
    obtain ⟨cur, hc⟩ := ownsRow_kind own3 hg
    obtain ⟨c, hc', _⟩ := row3
    subst e
    rw [hc] at hc'
    cases hc'
  refine ⟨⟨?_, ?_, ?_, ?_⟩, ⟨?_, ?_, ?_⟩⟩
  · refine (row3.set 1 sv').congr fun i hi => ?_
    obtain rfl | rfl | rfl : i = 0 ∨ i = 1 ∨ i = 2 := by omega
    all_goals rfl
  · rw [List.zipIdx_append]
    simpa using map3.of_block (Below.heap_setCell w3 ⟨t, 1, none⟩ sv' m (fun e => ap.1 e.symm))
  · rw [flat_snoc]
    simpa using ownsRow_of_block own3 (fun g hg => Below.heap_setCell w3 ⟨t, 1, none⟩ sv' g (ne g hg))
  · exact List.nodup_append.2 ⟨T.nodup, by simp, fun a ha b hb => by simp at hb; subst hb; exact fun e => hm (e ▸ ha)⟩
  · have e1 : Below 0 w w3 := (((bl.mono (Nat.zero_le _)).grown hturn (Nat.zero_le _) (fun _ _ => Nat.zero_le _)).grown h3 (Nat.zero_le _) (fun _ _ => Nat.zero_le _)).grown hgrow (Nat.zero_le _) (fun _ _ => Nat.zero_le _)
    exact e1.setCell (Nat.zero_le _) _
  · intro k hk n1 n2 n3
    rw [Below.heap_setCell w3 ⟨t, 1, none⟩ sv' k n1, blk k (by omega) n2 n3, bl.block k hk]
  · intro g hg
    rcases hloc with e | e
    · exact .inl (e ▸ hg)
    · rw [e] at hg
      cases hg
      exact .inr (by omega)

theorem one_news (w : World) (v : V) : ∀ (j : Nat) (u : Value), ([.int .i8 v.k, .int .i64 v.n, .string v.s] : List Value)[j]? = some u → (w.alloc (.cells #[.int .i8 v.k, .int .i64 v.n, .string v.s] 39)).cell? ((⟨w.heap.size, 0, none⟩ : Addr).add j) = some u := by
  intro j u h
  have hj : j < 3 := (List.getElem?_eq_some_iff.1 h).1
  have e : (⟨w.heap.size, 0, none⟩ : Addr).add j = ⟨w.heap.size, j, none⟩ := by rw [WideShapes.add_plain]; simp
  rw [e]
  simp only [World.cell?]
  rw [heap_alloc_new]
  obtain rfl | rfl | rfl : j = 0 ∨ j = 1 ∨ j = 2 := by omega
  all_goals simpa using h

set_option maxHeartbeats 1600000 in
theorem add_new {w : World} {t m : Nat} {sv : Value} {vs : List V} {most : Int} (h : Tbl w t m sv vs most) {v : V} (hv : v.wf) (hc : chk v.k v.n v.s = 0) (hm : v ∉ vs) (hf : vs.length < most) (hb : vs.length ≤ 2147483646) :
    Calls Try.prog 13 #[.pointer (some ⟨t, 0, none⟩), .agg #[.int .i8 v.k, .int .i64 v.n, .string v.s]] w fun e w' => e = .returned (.tuple #[.int .i32 vs.length, .int .i64 0]) ∧ ∃ sv', Tbl w' t m sv' (vs ++ [v]) most ∧ Touch w w' t m sv sv' := by
  have h1 := h.below ((Below.refl _ _).alloc (Nat.le_refl _) (.cells #[.int .i8 v.k, .int .i64 v.n, .string v.s] 39))
  go_enter Try.func13, Try.ntmps13
  go_wp2_with (first
    | (go_at_call 21; refine (there_any h1).mono ?_; rintro e w' ⟨rfl, rfl⟩)
    | fail)
  refine (vcheck_any _ _ _ _ hv.text).mono ?_
  rintro e w1 ⟨rfl, hb1⟩
  rw [hc]
  have T := h1.below hb1
  obtain ⟨a, c, rfl, hl, _⟩ := ownsRow_form T.own
  have bl := ((Below.refl _ _).alloc (Nat.le_refl _) (.cells #[.int .i8 v.k, .int .i64 v.n, .string v.s] 39)).trans (hb1.mono (by simp) : Below w.heap.size _ _)
  have c0 : w1.cell? ⟨t, 0, none⟩ = some (.map (some m)) := T.row.cell (i := 0) (by omega)
  have c1 : w1.cell? ⟨t, 1, none⟩ = some (.slice a vs.length c) := T.row.cell (i := 1) (by omega)
  have c2 : w1.cell? ⟨t, 2, none⟩ = some (.int .i64 most) := T.row.cell (i := 2) (by omega)
  have b0 := bcells hb1 0
  have b1 := bcells hb1 1
  have b2 := bcells hb1 2
  simp at b0 b1 b2
  have hk : (Instr.lookup 54 (.map (some m)) (.agg #[.int .i8 v.k, .int .i64 v.n, .string v.s]) true).run Try.prog w1.drew = .ok (.tuple #[.int .i32 0, .bool false]) w1.drew := by
    have := T.drew.look hv
    rw [decide_eq_false hm, show symOf vs v = 0 by simp [symOf, hm]] at this
    exact this
  have hno : ∀ p ∈ vs.zipIdx, p.1 ≠ v := fun p hp e => hm (e ▸ List.mem_of_getElem? (List.mem_zipIdx_iff_getElem?.1 hp))
  obtain ⟨w2, hput0, hmap2, hturn⟩ := MapIs.put (w := w1.drew.drew.drew) (T.drew.drew.drew.map) hv hno vs.length
  have hput : (Instr.mapUpdate 54 (.map (some m)) (.agg #[.int .i8 v.k, .int .i64 v.n, .string v.s]) (.int .i32 vs.length)).run Try.prog w1.drew.drew.drew = .ok () w2 := hput0
  have hbig : ¬ most ≤ (vs.length : Int) := by omega
  have ap := T.apart
  have lts := T.lts
  have hlt : t < w.heap.size ∧ m < w.heap.size := ⟨h.lts.1, h.lts.2.1⟩
  have gr2 := hturn.grown
  have sz2 : w1.heap.size ≤ w2.heap.size := gr2.size
  have sz1 := bl.size
  have ht2 : t < w2.heap.size := Nat.lt_of_lt_of_le lts.1 sz2
  have bsz : w.heap.size < w1.heap.size := World.block_lt_of_cell? _ _ b0
  have bsz2 : w.heap.size < w2.heap.size := Nat.lt_of_lt_of_le bsz sz2
  have d1 : w2.cell? ⟨t, 1, none⟩ = some (.slice a vs.length c) := gr2.cell (a := ⟨t, 1, none⟩) c1 (fun e => ap.1 (Option.some.inj e))
  have e0 : w2.cell? ⟨w.heap.size, 0, none⟩ = some (.int .i8 v.k) := gr2.cell (a := ⟨w.heap.size, 0, none⟩) b0 (fun e => by have := Option.some.inj e; simp at this; omega)
  have e1 : w2.cell? ⟨w.heap.size, 1, none⟩ = some (.int .i64 v.n) := gr2.cell (a := ⟨w.heap.size, 1, none⟩) b1 (fun e => by have := Option.some.inj e; simp at this; omega)
  have e2 : w2.cell? ⟨w.heap.size, 2, none⟩ = some (.string v.s) := gr2.cell (a := ⟨w.heap.size, 2, none⟩) b2 (fun e => by have := Option.some.inj e; simp at this; omega)
  have own2 : w2.ownsRow 0 39 3 (.slice a vs.length c) vs.length (vs.flatMap V.cells) := ownsRow_of_block T.own (fun g hg => gr2.block g (lts.2.2 g hg) (fun e => (ap.2 g hg).2 (Option.some.inj e)))
  have HOWN : Hid ((w2.alloc (.cells #[.int .i8 v.k, .int .i64 v.n, .string v.s] 39)).drew.ownsRow 0 39 3 (.slice a vs.length c) vs.length (vs.flatMap V.cells)) :=
    ownsRow_of_block own2 (fun g hg => Below.heap_alloc w2 _ g (own2.lt g hg).2)
  have HC : Hid (∀ (j : Nat) (u : Value), ([.int .i8 v.k, .int .i64 v.n, .string v.s] : List Value)[j]? = some u → (w2.alloc (.cells #[.int .i8 v.k, .int .i64 v.n, .string v.s] 39)).drew.cell? ((⟨w2.heap.size, 0, none⟩ : Addr).add j) = some u) := one_news w2 v
  have hg3 : w2.grownBy (w2.alloc (.cells #[.int .i8 v.k, .int .i64 v.n, .string v.s] 39)).drew none := ⟨rfl, rfl, rfl, by simp, fun k hk _ => Below.heap_alloc w2 _ k hk⟩
  have HFIN : Hid (∀ {w3 : World} {sv' : Value}, w3.ownsRow 0 39 3 sv' (vs.length + 1) (vs.flatMap V.cells ++ [.int .i8 v.k, .int .i64 v.n, .string v.s]) → (w2.alloc (.cells #[.int .i8 v.k, .int .i64 v.n, .string v.s] 39)).drew.grownBy w3 (Value.slice a vs.length c).ownBlock → (sv'.ownBlock = (Value.slice a vs.length c).ownBlock ∨ sv'.ownBlock = some (w2.alloc (.cells #[.int .i8 v.k, .int .i64 v.n, .string v.s] 39)).drew.heap.size) →
      Tbl (w3.setCell ⟨t, 1, none⟩ sv') t m sv' (vs ++ [v]) most ∧ Touch w (w3.setCell ⟨t, 1, none⟩ sv') t m (.slice a vs.length c) sv') :=
    fun o g l => add_fin hm bl hlt T hmap2 ⟨gr2.os, gr2.tape, gr2.output, gr2.size, gr2.block⟩ hg3 o g l
  have HT : Hid (w2.rowIs t 56 3 (tcells m (.slice a vs.length c) most) ∧ (Value.slice a vs.length c).ownBlock ≠ some t) := ⟨T.row.of_block (gr2.block t lts.1 (fun e => ap.1 (Option.some.inj e))), fun e => (ap.2 t e).1 rfl⟩
  obtain ⟨i0, hi0, hz0, hz1, hz2⟩ := info_parts infoVal
  clear hg3 h1 hb1 h hput0 T hturn hmap2 gr2 own2 lts ap hno
  go_wp2
  go_region
  go_wp2
  go_region
  go_wp2
  go_region
  go_wp2
  go_region_law (
    refine step_append_own rfl (.tmp 55) (.tmp 57) 40 rfl 39 i0 _ 3 32 Try.underlying40 hi0 hz0 hz1 hz2 rfl (by decide) 0 (.slice a vs.length c) vs.length _ (by simp [Act.eval, Act.put]) HOWN.out ⟨w2.heap.size, 0, none⟩ 1 1 [.int .i8 v.k, .int .i64 v.n, .string v.s] (by simp [Act.eval, Act.put]) rfl HC.out (by simp [Value.oneCell']) (by unfold maxLen; omega) (by omega) (Nat.zero_le _) ?_
    intro v' w3 hown3 hgrow3 hloc3
    have hfin := HFIN.out hown3 hgrow3 hloc3
    obtain ⟨a', c', rfl, _, _⟩ := ownsRow_form hown3
    have row3 : w3.rowIs t 56 3 (tcells m (.slice a vs.length c) most) := HT.out.1.of_block (by rw [hgrow3.block t (by simp; omega) (fun e => HT.out.2 e.symm)]; exact Below.heap_alloc w2 _ t HT.out.1.lt)
    have r1 : w3.cell? ⟨t, 1, none⟩ = some (.slice a vs.length c) := row3.cell (i := 1) (by omega)
    have r2 := row3.frozen
    clear hown3 hgrow3 hloc3 row3)
  all_goals
    go_wp2
    go_ret2
    exact ⟨rfl, _, hfin⟩

end Go.Proofs.Ythdcgikhcghigaa
