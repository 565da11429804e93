import Derived.Test.YtjcfhhcohmcehaaGreatDoorRelEq
namespace Go.Proofs.YtjcfhhcohmcehaaGreatDoor
open Go.RowKit Go.Maps
set_option linter.unusedVariables false
set_option linter.unusedSimpArgs false

theorem Rel.of_blocks {w w' : World} {B t m : Nat} {sv : Value} {rows : List (List Int)} {ar gone : Int} (h : Rel w B t m sv rows ar gone) (h1 : w'.heap[t]? = w.heap[t]?) (h2 : w'.heap[m]? = w.heap[m]?) (h3 : ∀ g, sv.ownBlock = some g → w'.heap[g]? = w.heap[g]?) : Rel w' B t m sv rows ar gone :=
  ⟨World.rowIs.of_block h.rl h1, own_of_block h.own h3, h.map.of_block h2, h.nd, h.ok, h.lo, h.ne⟩
theorem own_base {w : World} {B B' : Nat} {e : TypeId} {k : Nat} {v : Value} {n : Nat} {xs : List Value} (h : w.ownsRow B e k v n xs) (hB : B' ≤ B) : w.ownsRow B' e k v n xs := by
  obtain ⟨e1, e2 | ⟨g', cap', cur, e, hbase, rest⟩⟩ := h
  · exact ⟨e1, .inl e2⟩
  · exact ⟨e1, .inr ⟨g', cap', cur, e, by omega, rest⟩⟩
/-- amid the turns: the relation with its rows, and a list beside it -/
structure Ts (w wr : World) (t m : Nat) (sv o : Value) (rs os : List (List Int)) (ar gone : Int) : Prop where
  rel : Rel wr w.heap.size t m sv rs ar gone
  own : wr.ownsRow w.heap.size 27 24 o os.length (flatR os)
  apart : ∀ g, o.ownBlock = some g → g ≠ t ∧ g ≠ m ∧ sv.ownBlock ≠ some g
  bel : Below w.heap.size w wr
theorem Ts.keep {w wr wr' : World} {t m : Nat} {sv o : Value} {rs os : List (List Int)} {ar gone : Int} (h : Ts w wr t m sv o rs os ar gone) (hb : Below wr.heap.size wr wr') : Ts w wr' t m sv o rs os ar gone :=
  ⟨h.rel.keep hb, own_below h.own hb, h.apart, h.bel.trans (hb.mono h.bel.size)⟩
/-- the relation turns -/
theorem Ts.turn {w wr w2 : World} {t m : Nat} {sv sv' o : Value} {rs rs' os : List (List Int)} {ar gone gone' : Int} (h : Ts w wr t m sv o rs os ar gone) (hT : RTouch wr w2 t m sv) (hr : Rel w2 w.heap.size t m sv' rs' ar gone') (hloc : ∀ g, sv'.ownBlock = some g → sv.ownBlock = some g ∨ wr.heap.size ≤ g) : Ts w w2 t m sv' o rs' os ar gone' := by
  refine ⟨hr, own_of_block h.own (fun g hg => hT.block g (h.own.lt g hg).2 (h.apart g hg).1 (h.apart g hg).2.1 (h.apart g hg).2.2), fun g hg => ⟨(h.apart g hg).1, (h.apart g hg).2.1, fun e => ?_⟩, h.bel.trans (hT.below h.bel.size h.rel.lo.1 h.rel.lo.2 (fun g hg => (h.rel.own.lt g hg).1))⟩
  rcases hloc g e with e | e
  · exact (h.apart g hg).2.2 e
  · have := (h.own.lt g hg).2; omega
/-- one row more at the end of the list -/
theorem Ts.push {w wr : World} {t m : Nat} {sv o : Value} {rs os : List (List Int)} {ar gone : Int} (h : Ts w wr t m sv o rs os ar gone) (r : List Int) (hr : r.length = 24) (hl : os.length + 1 ≤ 1000000000) (ty : TypeId) :
    ∃ o' w3, (Builtin.append_ #[30, 30] ty #[o, .slice (some ⟨wr.heap.size, 0, none⟩) 1 1]).run Tryz.prog (wr.alloc (.cells (rowC r) 27)) = .ok o' w3 ∧ Ts w w3 t m sv o' rs (os ++ [r]) ar gone := by
  have hb := belowA (w := wr) (.cells (rowC r) 27)
  have h1 := h.keep hb
  have hx : LrC (wr.alloc (.cells (rowC r) 27)) (.slice (some ⟨wr.heap.size, 0, none⟩) [r].length 1) [r] := by
    refine ⟨fun x hx => by rw [List.mem_singleton.1 hx]; exact hr, _, _, rfl, fun _ => ⟨wr.heap.size, 0, rfl, by simp, fun j u hu => ?_⟩⟩
    have := lit_news wr (rowC r) 27 j u (by simpa [flatR] using hu)
    rw [Nat.zero_add]
    rw [show (⟨wr.heap.size, 0, none⟩ : Addr).add j = ⟨wr.heap.size, j, none⟩ from by simp [Addr.add]; omega] at this
    exact this
  obtain ⟨o', w3, hrun, hown, hbel, hsz, hg, hloc⟩ := app_rowsL rfl h1.own h1.bel h1.bel.size hx (by simpa using hl) ty
  refine ⟨o', w3, hrun, ?_⟩
  have hblk : ∀ k, k < (wr.alloc (.cells (rowC r) 27)).heap.size → o.ownBlock ≠ some k → w3.heap[k]? = (wr.alloc (.cells (rowC r) 27)).heap[k]? := fun k hk hne => hg.block k hk (fun e => hne e.symm)
  refine ⟨h1.rel.of_blocks (hblk t (World.rowIs.lt h1.rel.rl) (fun e => (h1.apart t e).1 rfl)) (hblk m h1.rel.map.lt (fun e => (h1.apart m e).2.1 rfl)) (fun g hg' => hblk g (h1.rel.own.lt g hg').2 (fun e => (h1.apart g e).2.2 hg')), by simpa using hown, fun g hg' => ?_, hbel⟩
  rcases hloc with e | e
  · exact h1.apart g (e ▸ hg')
  · rw [e] at hg'
    have h2 := Option.some.inj hg'
    have h3 := World.rowIs.lt h1.rel.rl
    have h4 := h1.rel.map.lt
    exact ⟨by omega, by omega, fun e2 => by have := (h1.rel.own.lt g e2).2; omega⟩
/-- the two parts of a list -/
theorem cut_parts {w : World} {B g cap : Nat} {rows : List (List Int)} (own : w.ownsRow B 27 24 (.slice (some ⟨g, 0, none⟩) rows.length cap) rows.length (flatR rows)) (ok : ∀ r ∈ rows, r.length = 24) {i : Nat} (hi : i < rows.length) :
    LrC w (.slice (some ⟨g, 0, none⟩) (rows.take i).length cap) (rows.take i) ∧ LrC w (.slice (if cap = i + 1 then some ⟨g, 0, none⟩ else some ⟨g, (i + 1) * 24, none⟩) (rows.drop (i + 1)).length (cap - (i + 1))) (rows.drop (i + 1)) := by
  have hl1 : (rows.take i).length = i := by simp; omega
  have hl2 : (rows.drop (i + 1)).length = rows.length - (i + 1) := by simp
  have hcap : rows.length ≤ cap := by
    obtain ⟨_, ⟨e, h0⟩ | ⟨g', cap', cur, e, _, _, hnc, _⟩⟩ := own
    · cases e
    · cases e; exact hnc
  have hg : g < w.heap.size := (own.lt g rfl).2
  have hfl := flatR_len rows ok
  have hcell : ∀ j u, (flatR rows)[j]? = some u → w.cell? ⟨g, j, none⟩ = some u := fun j u hu => by
    have hj : j < (flatR rows).length := (List.getElem?_eq_some_iff.1 hu).1
    rw [own.cellAt j (by omega)]
    exact hu
  refine ⟨?_, ?_⟩
  · refine ⟨fun r hr => ok r (List.mem_of_mem_take hr), _, _, rfl, fun _ => ⟨g, 0, rfl, hg, fun j u hu => ?_⟩⟩
    rw [Nat.zero_add]
    refine hcell j u ?_
    have e : flatR rows = flatR (rows.take i) ++ flatR (rows.drop i) := by
      simp only [flatR]
      rw [← List.flatMap_append, List.take_append_drop]
    rw [e, List.getElem?_append_left (List.getElem?_eq_some_iff.1 hu).1]
    exact hu
  · refine ⟨fun r hr => ok r (List.mem_of_mem_drop hr), _, _, rfl, fun hp => ⟨g, (i + 1) * 24, ?_, hg, fun j u hu => ?_⟩⟩
    · rw [if_neg (by omega)]
    · refine hcell _ u ?_
      have e : flatR rows = flatR (rows.take (i + 1)) ++ flatR (rows.drop (i + 1)) := by
        simp only [flatR]
        rw [← List.flatMap_append, List.take_append_drop]
      have ht : (flatR (rows.take (i + 1))).length = (i + 1) * 24 := by
        rw [flatR_len _ (fun r hr => ok r (List.mem_of_mem_take hr))]
        congr 1
        simp; omega
      rw [e, List.getElem?_append_right (by omega), ht, show (i + 1) * 24 + j - (i + 1) * 24 = j by omega]
      exact hu
/-- a row goes out of the list: a new list of what is ahead of it and behind it -/
theorem Ts.cut {w wr : World} {t m g cap : Nat} {sv : Value} {rs os : List (List Int)} {ar gone : Int} (h : Ts w wr t m sv (.slice (some ⟨g, 0, none⟩) os.length cap) rs os ar gone) (ok : ∀ r ∈ os, r.length = 24) {i : Nat} (hi : i < os.length) (hl : os.length ≤ 1000000000) (ty : TypeId) :
    ∃ o1 w1 o2 w2, (Builtin.append_ #[30, 30] ty #[.slice none 0 0, .slice (some ⟨g, 0, none⟩) i cap]).run Tryz.prog wr = .ok o1 w1 ∧
      (Builtin.append_ #[30, 30] ty #[o1, .slice (if cap = i + 1 then some ⟨g, 0, none⟩ else some ⟨g, (i + 1) * 24, none⟩) (os.length - (i + 1)) (cap - (i + 1))]).run Tryz.prog w1 = .ok o2 w2 ∧ Ts w w2 t m sv o2 rs (os.eraseIdx i) ar gone := by
  obtain ⟨x1, x2⟩ := cut_parts h.own ok hi
  have hl1 : (os.take i).length = i := by simp; omega
  have hl2 : (os.drop (i + 1)).length = os.length - (i + 1) := by simp
  have n0 : wr.ownsRow wr.heap.size 27 24 (.slice none 0 0) 0 (flatR []) := ⟨by simp [flatR, maxLen], .inl ⟨rfl, rfl⟩⟩
  obtain ⟨o1, w1, r1, own1, b1, s1, g1, _⟩ := app_rowsL (w0 := wr) (rows1 := []) (n := 0) rfl n0 (Below.refl _ _) (Nat.le_refl _) x1 (by rw [hl1]; omega) ty
  rw [hl1] at r1
  obtain ⟨o2, w2, r2, own2, b2, s2, g2, _⟩ := app_rowsL (w0 := wr) (rows1 := [] ++ os.take i) (by simp) own1 b1 s1 (x2.below b1) (by rw [hl1, hl2]; omega) ty
  rw [hl2] at r2
  have he : ([] ++ os.take i) ++ os.drop (i + 1) = os.eraseIdx i := by rw [List.nil_append, (List.eraseIdx_eq_take_drop_succ os i).symm]
  have hn : 0 + (os.take i).length + (os.drop (i + 1)).length = (os.eraseIdx i).length := by rw [← he]; simp
  rw [hn, he] at own2
  have h2 := h.keep b2
  refine ⟨o1, w1, o2, w2, r1, r2, h2.rel, own_base own2 h.bel.size, fun g' hg' => ?_, h2.bel⟩
  have h3 := World.rowIs.lt h.rel.rl
  have h4 := h.rel.map.lt
  have h5 := (own2.lt g' hg').1
  exact ⟨by omega, by omega, fun e2 => by have := (h.rel.own.lt g' e2).2; omega⟩
theorem run_loadBoolB {w : World} {a : Addr} {b : Bool} (h : w.cell? a = some (.bool b)) : (loadVar 4 a).run Tryz.prog w = .ok (.bool b) w := by
  simp [loadVar, go_sem, h]
set_option maxHeartbeats 800000 in
set_option maxRecDepth 100000 in
theorem gone_yes {w : World} {B t m : Nat} {sv : Value} {rows : List (List Int)} {ar gone : Int} (h : Rel w B t m sv rows ar gone) : Calls Tryz.prog 22 #[.pointer (some ⟨t, 0, none⟩)] w fun e w' => e = .returned (.int .i64 gone) ∧ w' = w := by
  have c2 := h.rl.at (j := 3) rfl
  have HT := Lib.hid (there_yes h)
  clear h
  go_enter Tryz.func22, Tryz.ntmps22
  go_wp2_with fail
  refine HT.out.mono ?_
  rintro e w1 ⟨rfl, rfl⟩
  go_wp2
  go_ret
  exact ⟨rfl, rfl⟩
end Go.Proofs.YtjcfhhcohmcehaaGreatDoor
