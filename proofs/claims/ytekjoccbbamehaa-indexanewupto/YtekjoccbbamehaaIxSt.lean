import Derived.Test.YtekjoccbbamehaaIxMap
import Derived.Test.YtekjoccbbamehaaIxKey
import Derived.Test.YtekjoccbbamehaaRelTab
namespace Go.Proofs.Ytekjoccbbamehaa
open Go.RowKit Go.Maps
set_option linter.unusedVariables false
set_option linter.unusedSimpArgs false

/-! an index: rows' numbers by their key -/
abbrev Grp := List (List Int × List Nat)
/-- one number more -/
def addK : Grp → List Int → Nat → Grp
  | [], k, n => [(k, [n])]
  | p :: g, k, n => if p.1 = k then (p.1, p.2 ++ [n]) :: g else p :: addK g k n
/-- the numbers of a key -/
def ofK : Grp → List Int → List Nat
  | [], _ => []
  | p :: g, k => if p.1 = k then p.2 else ofK g k
theorem addK_of : ∀ (g : Grp) (k : List Int) (n : Nat) (q : List Int), ofK (addK g k n) q = if q = k then ofK g k ++ [n] else ofK g q
  | [], k, n, q => by
    by_cases h : q = k
    · subst h
      simp [addK, ofK]
    · have : ¬ k = q := fun e => h e.symm
      simp [addK, ofK, h, this]
  | p :: g, k, n, q => by
    unfold addK
    by_cases h1 : p.1 = k
    · rw [if_pos h1]
      unfold ofK
      by_cases h : q = k
      · subst h
        rw [if_pos h1, if_pos rfl, if_pos h1]
      · rw [if_neg (fun e => h (e.symm.trans h1)), if_neg h, if_neg (fun e => h (e.symm.trans h1))]
    · rw [if_neg h1]
      unfold ofK
      rw [addK_of g k n q]
      by_cases h : q = k
      · subst h
        rw [if_neg h1, if_pos rfl, if_pos rfl, if_neg h1]
      · rw [if_neg h, if_neg h]
theorem addK_keys : ∀ (g : Grp) (k : List Int) (n : Nat), (addK g k n).map Prod.fst = if k ∈ g.map Prod.fst then g.map Prod.fst else g.map Prod.fst ++ [k]
  | [], k, n => rfl
  | p :: g, k, n => by
    unfold addK
    by_cases h1 : p.1 = k
    · rw [if_pos h1, if_pos (by rw [← h1]; simp)]
      rfl
    · rw [if_neg h1, List.map_cons, addK_keys g k n]
      have : (k ∈ (p :: g).map Prod.fst) ↔ k ∈ g.map Prod.fst := by
        rw [List.map_cons, List.mem_cons]
        exact ⟨fun h => h.resolve_left (fun e => h1 e.symm), .inr⟩
      simp only [this]
      split
      · rfl
      · rfl
theorem addK_nodup {g : Grp} (h : (g.map Prod.fst).Nodup) (k : List Int) (n : Nat) : ((addK g k n).map Prod.fst).Nodup := by
  rw [addK_keys]
  split
  · exact h
  · rename_i hk
    rw [List.nodup_append]
    exact ⟨h, by simp, fun a ha b hb e => hk (by rw [← List.mem_singleton.1 hb, ← e]; exact ha)⟩
/-- where the key is, one number more is put there; where it is not, behind -/
theorem addK_yes : ∀ {g : Grp} {k : List Int} {n i : Nat} {l : List Nat}, (g.map Prod.fst).Nodup → g[i]? = some (k, l) → addK g k n = g.set i (k, l ++ [n])
  | [], k, n, i, l, _, h => by simp at h
  | p :: g, k, n, 0, l, nd, h => by
    have e : p = (k, l) := by simpa using h
    subst e
    simp [addK]
  | p :: g, k, n, i + 1, l, nd, h => by
    rw [List.map_cons, List.nodup_cons] at nd
    have h' : g[i]? = some (k, l) := by simpa using h
    have hne : ¬ p.1 = k := fun e => nd.1 (List.mem_map.2 ⟨(k, l), List.mem_of_getElem? h', e.symm⟩)
    rw [addK, if_neg hne, addK_yes nd.2 h']
    rfl
theorem addK_no : ∀ {g : Grp} {k : List Int} {n : Nat}, k ∉ g.map Prod.fst → addK g k n = g ++ [(k, [n])]
  | [], k, n, _ => rfl
  | p :: g, k, n, h => by
    rw [List.map_cons, List.mem_cons] at h
    rw [addK, if_neg (fun e => h (.inl e.symm)), addK_no (fun e => h (.inr e))]
    rfl
/-- rows by their key under a mask: the first j of them -/
def grpN (m : Int) (rows : List (List Int)) : Nat → Grp
  | 0 => []
  | j + 1 => addK (grpN m rows j) (underL m (rows.getD j [])) j
theorem grpN_of (m : Int) (rows : List (List Int)) (q : List Int) : ∀ j, ofK (grpN m rows j) q = (List.range j).filter (fun i => decide (underL m (rows.getD i []) = q))
  | 0 => rfl
  | j + 1 => by
    rw [grpN, addK_of, List.range_succ, List.filter_append, ← grpN_of m rows q j]
    generalize hu : underL m (rows.getD j []) = u
    by_cases h : q = u
    · have e : [j].filter (fun i => decide (underL m (rows.getD i []) = q)) = [j] := List.filter_cons_of_pos (by rw [hu, h]; simp)
      rw [if_pos h, e, h]
    · have e : [j].filter (fun i => decide (underL m (rows.getD i []) = q)) = [] := List.filter_cons_of_neg (by rw [hu]; simpa using fun e => h e.symm)
      rw [if_neg h, e, List.append_nil]
theorem grpN_nodup (m : Int) (rows : List (List Int)) : ∀ j, ((grpN m rows j).map Prod.fst).Nodup
  | 0 => by simp [grpN]
  | j + 1 => addK_nodup (grpN_nodup m rows j) _ _
/-- what changed lies in ex -/
structure Tx (ex : Nat → Prop) (w w' : World) : Prop where
  os : w'.os = w.os
  tape : w'.tape = w.tape
  output : w'.output = w.output
  size : w.heap.size ≤ w'.heap.size
  block : ∀ b, b < w.heap.size → ¬ ex b → w'.heap[b]? = w.heap[b]?
theorem Tx.refl (ex : Nat → Prop) (w : World) : Tx ex w w := ⟨rfl, rfl, rfl, Nat.le_refl _, fun _ _ _ => rfl⟩
theorem Tx.of_below {ex : Nat → Prop} {w w' : World} (h : Below w.heap.size w w') : Tx ex w w' := ⟨h.os, h.tape, h.output, h.size, fun b hb _ => h.block b hb⟩
theorem Tx.trans {ex ex' : Nat → Prop} {w w' w'' : World} (h : Tx ex w w') (k : Tx ex' w' w'') (hs : ∀ b, b < w.heap.size → ex' b → ex b) : Tx ex w w'' :=
  ⟨k.os.trans h.os, k.tape.trans h.tape, k.output.trans h.output, Nat.le_trans h.size k.size, fun b hb hn => (k.block b (Nat.lt_of_lt_of_le hb h.size) (fun e => hn (hs b hb e))).trans (h.block b hb hn)⟩
theorem Tx.below {ex : Nat → Prop} {w w' : World} (h : Tx ex w w') {B : Nat} (hB : B ≤ w.heap.size) (hs : ∀ b, ex b → B ≤ b) : Below B w w' := ⟨h.os, h.tape, h.output, h.size, fun b hb => h.block b (Nat.lt_of_lt_of_le hb hB) (fun e => absurd (hs b e) (Nat.not_le.2 hb))⟩
def numC (l : List Nat) : List Value := l.map (fun n : Nat => .int .i64 (n : Int))
/-- the blocks of an index -/
def FX (x b : Nat) (vs : List Value) (k : Nat) : Prop := k = x ∨ k = b ∨ ∃ v ∈ vs, v.ownBlock = some k
/-- an index in memory: its struct x, its map b, the lists vs of its keys -/
structure Ix (w : World) (B x b : Nat) (m : Int) (G : Grp) (vs : List Value) (seen : Nat) (gone : Int) : Prop where
  rl : RL w x 74 [.int .u32 m, .map (some b), .int .i64 (seen : Int), .int .i64 gone]
  map : MapS w b ((G.map Prod.fst).zip vs)
  len : vs.length = G.length
  nd : (G.map Prod.fst).Nodup
  own : ∀ (i : Nat) (k : List Int) (l : List Nat) (v : Value), G[i]? = some (k, l) → vs[i]? = some v → w.ownsRow B 3 1 v l.length (numC l)
  lo : B ≤ x ∧ B ≤ b ∧ x ≠ b
  ne : ∀ v ∈ vs, v.ownBlock ≠ some x ∧ v.ownBlock ≠ some b
  dj : ∀ (i j : Nat) (u v : Value) (g : Nat), vs[i]? = some u → vs[j]? = some v → i ≠ j → u.ownBlock = some g → v.ownBlock ≠ some g
theorem Ix.own_lt {w : World} {B x b : Nat} {m : Int} {G : Grp} {vs : List Value} {seen : Nat} {gone : Int} (h : Ix w B x b m G vs seen gone) {v : Value} (hv : v ∈ vs) {g : Nat} (hg : v.ownBlock = some g) : B ≤ g ∧ g < w.heap.size := by
  obtain ⟨i, hi⟩ := List.getElem?_of_mem hv
  have hl : i < G.length := by rw [← h.len]; exact (List.getElem?_eq_some_iff.1 hi).1
  exact (h.own i _ _ v (List.getElem?_eq_getElem hl) hi).lt g hg
theorem Ix.of_blocks {w w' : World} {B x b : Nat} {m : Int} {G : Grp} {vs : List Value} {seen : Nat} {gone : Int} (h : Ix w B x b m G vs seen gone) (hb : ∀ k, FX x b vs k → w'.heap[k]? = w.heap[k]?) : Ix w' B x b m G vs seen gone :=
  ⟨World.rowIs.of_block h.rl (hb x (.inl rfl)), h.map.of_block (hb b (.inr (.inl rfl))), h.len, h.nd, fun i k l v h1 h2 => own_of_block (h.own i k l v h1 h2) (fun g hg => hb g (.inr (.inr ⟨v, List.mem_of_getElem? h2, hg⟩))), h.lo, h.ne, h.dj⟩
theorem Ix.flt {w : World} {B x b : Nat} {m : Int} {G : Grp} {vs : List Value} {seen : Nat} {gone : Int} (h : Ix w B x b m G vs seen gone) {k : Nat} (hk : FX x b vs k) : B ≤ k ∧ k < w.heap.size := by
  rcases hk with rfl | rfl | ⟨v, hv, hg⟩
  · exact ⟨h.lo.1, World.rowIs.lt h.rl⟩
  · exact ⟨h.lo.2.1, h.map.blt⟩
  · exact h.own_lt hv hg
theorem Ix.keep {w w' : World} {B x b : Nat} {m : Int} {G : Grp} {vs : List Value} {seen : Nat} {gone : Int} (h : Ix w B x b m G vs seen gone) (hb : Below w.heap.size w w') : Ix w' B x b m G vs seen gone := h.of_blocks (fun k hk => hb.block k (h.flt hk).2)
end Go.Proofs.Ytekjoccbbamehaa
