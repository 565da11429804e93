import Derived.Test.YtekjoccbbamehaaIxSt
import Derived.Test.YtekjoccbbamehaaRelPut
namespace Go.Proofs.Ytekjoccbbamehaa
open Go.RowKit Go.Maps Go.ChangeMaps
set_option linter.unusedVariables false
set_option linter.unusedSimpArgs false

theorem infoIntX : (Try.prog.info? 3).map (fun i => (i.zero, i.size, i.bytes)) = some (some (.int .i64 0), 1, 8) := by kernel_rfl
theorem info_partsX {e : TypeId} {z : Value} {a b : Nat} (h : (Try.prog.info? e).map (fun i => (i.zero, i.size, i.bytes)) = some (some z, a, b)) : ∃ i, Try.prog.info? e = some i ∧ i.zero = some z ∧ i.size = a ∧ i.bytes = b := by
  obtain ⟨i, hi, he⟩ := Option.map_eq_some_iff.1 h
  simp only [Prod.mk.injEq] at he
  exact ⟨i, hi, he.1, he.2.1, he.2.2⟩
theorem tx_turned {w w' : World} {b : Nat} (h : w.mapTurned w' b) : Tx (fun k => k = b) w w' := by
  obtain ⟨es, c, es', c', hb, rfl⟩ := h
  exact ⟨rfl, rfl, rfl, by simp [setBlock], fun k hk hne => by
    unfold setBlock
    exact Array.getElem?_setIfInBounds_ne (fun e => hne e.symm)⟩
theorem tx_grown {w w' : World} {row : Option Nat} (h : w.grownBy w' row) : Tx (fun k => row = some k) w w' := ⟨h.os, h.tape, h.output, h.size, fun k hk hne => h.block k hk (fun e => hne e.symm)⟩
theorem cell_of {w w' : World} {b : Nat} (h : w'.heap[b]? = w.heap[b]?) (o : Nat) : w'.cell? ⟨b, o, none⟩ = w.cell? ⟨b, o, none⟩ := by
  unfold World.cell?
  simp only [h]
theorem zip_at {α β : Type} {l : List α} {m : List β} {i : Nat} {a : α} {b : β} (h1 : l[i]? = some a) (h2 : m[i]? = some b) : (l.zip m)[i]? = some (a, b) := by
  rw [List.getElem?_zip_eq_some]
  exact ⟨h1, h2⟩
theorem zip_fst {α β : Type} : ∀ (l : List α) (m : List β), l.length = m.length → (l.zip m).map Prod.fst = l
  | [], [], _ => rfl
  | a :: l, b :: m, h => by
    rw [List.zip_cons_cons, List.map_cons, zip_fst l m (by simpa using h)]
  | [], _ :: _, h => by simp at h
  | _ :: _, [], h => by simp at h
theorem zip_set {α β : Type} : ∀ (l : List α) (m : List β) (i : Nat) (a : α) (b : β), l[i]? = some a → (l.zip m).set i (a, b) = l.zip (m.set i b)
  | [], m, i, a, b, h => by simp at h
  | x :: l, [], i, a, b, h => by simp
  | x :: l, y :: m, 0, a, b, h => by
    have e : x = a := by simpa using h
    subst e
    rfl
  | x :: l, y :: m, i + 1, a, b, h => by
    rw [List.zip_cons_cons, List.set_cons_succ, zip_set l m i a b (by simpa using h), List.set_cons_succ, List.zip_cons_cons]
/-- what one number more leaves of an index -/
structure Pu (U w2 w3 w4 : World) (B x b : Nat) (G' : Grp) (vs vs' : List Value) : Prop where
  map : MapS w4 b ((G'.map Prod.fst).zip vs')
  len : vs'.length = G'.length
  own : ∀ (i : Nat) (k : List Int) (l : List Nat) (v : Value), G'[i]? = some (k, l) → vs'[i]? = some v → w4.ownsRow B 3 1 v l.length (numC l)
  ne : ∀ v ∈ vs', v.ownBlock ≠ some x ∧ v.ownBlock ≠ some b
  dj : ∀ (i j : Nat) (u v : Value) (g : Nat), vs'[i]? = some u → vs'[j]? = some v → i ≠ j → u.ownBlock = some g → v.ownBlock ≠ some g
  t2 : Tx (fun k => k = b ∨ ∃ v ∈ vs, v.ownBlock = some k) U w2
  t3 : Tx (fun k => k = b ∨ ∃ v ∈ vs, v.ownBlock = some k) U w3
  t4 : Tx (fun k => k = b ∨ ∃ v ∈ vs, v.ownBlock = some k) U w4
  nw : ∀ v ∈ vs', ∀ g, v.ownBlock = some g → (∃ u ∈ vs, u.ownBlock = some g) ∨ U.heap.size ≤ g
set_option maxHeartbeats 1600000 in
theorem Ix.push {U : World} {B x b : Nat} {m : Int} {G : Grp} {vs : List Value} {n : Nat} {gone : Int} (h : Ix U B x b m G vs n gone) (hB : B ≤ U.heap.size) {k : List Int} (hk : RowOk k) (hn : ∀ p ∈ G, p.2.length ≤ 1000000000) :
    ∃ (st : Nat) (v : Value) (w2 : World) (nv : Value) (w3 w4 : World) (vs' : List Value),
      (Instr.mapEntry 72 (.map (some b)) (rowV k)).run Try.prog (U.drew.alloc (.cells #[.int .i64 (n : Int)] 3)) = .ok (.tuple #[v, .int .i64 (st : Int)]) w2 ∧
      (Builtin.append_ #[38, 38] 38 #[v, .slice (some ⟨U.heap.size, 0, none⟩) 1 1]).run Try.prog w2 = .ok nv w3 ∧
      (Instr.entryStore 72 (.map (some b)) (.int .i64 (st : Int)) nv).run Try.prog w3 = .ok () w4 ∧ Pu U w2 w3 w4 B x b (addK G k n) vs vs' := by
  obtain ⟨i0, hi0, hz0, hz1, hz2⟩ := info_partsX infoIntX
  have hlz : (G.map Prod.fst).length = vs.length := by rw [List.length_map, h.len]
  have hsl : ((G.map Prod.fst).zip vs).length = G.length := by rw [List.length_zip, List.length_map, h.len, Nat.min_self]
  obtain ⟨u1, hu1⟩ : ∃ u1, u1 = U.drew.alloc (.cells #[.int .i64 (n : Int)] 3) := ⟨_, rfl⟩
  rw [← hu1]
  have b1 : Below U.heap.size U u1 := by
    rw [hu1]
    exact (Below.refl U.heap.size U).drew.trans ((Below.refl U.drew.heap.size U.drew).alloc (Nat.le_refl _) _)
  have hsz1 : u1.heap.size = U.heap.size + 1 := by rw [hu1]; simp
  have hcell1 : ∀ j u, ([.int .i64 (n : Int)] : List Value)[j]? = some u → u1.cell? ((⟨U.heap.size, 0, none⟩ : Addr).add j) = some u := by
    rw [hu1]
    exact lit_news U.drew #[.int .i64 (n : Int)] 3
  have hm1 : MapS u1 b ((G.map Prod.fst).zip vs) := h.map.below b1
  have hbl : b < U.heap.size := h.map.blt
  have t1 : Tx (fun k => k = b ∨ ∃ v ∈ vs, v.ownBlock = some k) U u1 := Tx.of_below b1
  clear hu1
  have hadd : ∀ j, (⟨U.heap.size, 0, none⟩ : Addr).add j = ⟨U.heap.size, j, none⟩ := fun j => by rw [WideShapes.add_plain]; simp
  by_cases hkm : k ∈ G.map Prod.fst
  · -- the key is there
    obtain ⟨i, hi⟩ := List.getElem?_of_mem hkm
    rw [List.getElem?_map] at hi
    obtain ⟨⟨k', l⟩, hg, rfl⟩ := Option.map_eq_some_iff.1 hi
    have hil : i < vs.length := by rw [h.len]; exact (List.getElem?_eq_some_iff.1 hg).1
    have hv : vs[i]? = some vs[i] := List.getElem?_eq_getElem hil
    generalize vs[i] = v at hv
    have hki : (G.map Prod.fst)[i]? = some k' := by rw [List.getElem?_map, hg]; rfl
    have hsi := zip_at hki hv
    obtain ⟨st, w2, hrun, hE, hT⟩ := hm1.entry_yes (by rw [zip_fst _ _ hlz]; exact h.nd) hsi
    have t2' := tx_turned hT
    have t2 : Tx (fun k => k = b ∨ ∃ v ∈ vs, v.ownBlock = some k) U w2 := t1.trans t2' (fun _ _ e => .inl e)
    have hvm := List.mem_of_getElem? hv
    have hne := h.ne v hvm
    have ho := h.own i k' l v hg hv
    have ho2 : w2.ownsRow B 3 1 v l.length (numC l) := own_of_block ho (fun g hg' => by
      have hlt := (ho.lt g hg').2
      rw [t2'.block g (by omega) (fun e => hne.2 (by rw [hg', e])), b1.block g hlt])
    have hbase : B ≤ w2.heap.size := Nat.le_trans hB t2.size
    obtain ⟨nv, w3, hr3, hown3, hgr, _, hloc⟩ := run_append_own_at (P := Try.prog) w2 B 38 38 3 i0 _ 1 8 Try.underlying38 hi0 hz0 hz1 hz2 rfl (by decide) v l.length (numC l) ho2 ⟨U.heap.size, 0, none⟩ 1 1 [.int .i64 (n : Int)] rfl (fun j u hu => by
      rw [hadd, cell_of (w := u1) (t2'.block U.heap.size (by omega) (fun e => by omega)), ← hadd]
      exact hcell1 j u hu) (fun u hu => by rw [List.mem_singleton.1 hu]; rfl) (by have := hn _ (List.mem_of_getElem? hg); simp only at this; unfold maxLen; omega) (by have := hn _ (List.mem_of_getElem? hg); simp only at this; omega) hbase
    have t3' := tx_grown hgr
    have t3 : Tx (fun k => k = b ∨ ∃ v ∈ vs, v.ownBlock = some k) U w3 := t2.trans t3' (fun _ _ e => .inr ⟨v, hvm, e⟩)
    have hE3 : MapE w3 b ((G.map Prod.fst).zip vs) i st := hE.of_block (t3'.block b (Nat.lt_of_lt_of_le hbl t2.size) (fun e => hne.2 e))
    obtain ⟨w4, hr4, hS4, hT4⟩ := hE3.store hsi nv
    have t4' := tx_turned hT4
    have t4 : Tx (fun k => k = b ∨ ∃ v ∈ vs, v.ownBlock = some k) U w4 := t3.trans t4' (fun _ _ e => .inl e)
    have hnv : ∀ g, nv.ownBlock = some g → v.ownBlock = some g ∨ g = w2.heap.size := fun g hg' => by
      rcases hloc with e | e
      · exact .inl (by rw [← e]; exact hg')
      · rw [hg'] at e
        exact .inr (Option.some.inj e)
    have hw2s : U.heap.size < w2.heap.size := by have := t2'.size; omega
    have hxl : x < U.heap.size := World.rowIs.lt h.rl
    have hfin : ∀ g, g < U.heap.size → g ≠ b → v.ownBlock ≠ some g → w4.heap[g]? = U.heap[g]? := fun g hg' hgb hgv => by
      have := t2'.size
      have := t3'.size
      rw [t4'.block g (by omega) hgb, t3'.block g (by omega) hgv, t2'.block g (by omega) hgb, b1.block g hg']
    rw [addK_yes h.nd hg]
    refine ⟨st, v, w2, nv, w3, w4, vs.set i nv, hrun, hr3, hr4, ⟨?_, by rw [List.length_set, List.length_set, h.len], ?_, ?_, ?_, t2, t3, t4, ?_⟩⟩
    · rw [zip_set _ _ _ _ _ hki] at hS4
      have e : (G.set i (k', l ++ [n])).map Prod.fst = G.map Prod.fst := by
        rw [List.map_set]
        apply List.ext_getElem?
        intro j
        rw [List.getElem?_set]
        split
        · rename_i e
          subst e
          rw [if_pos (by rw [List.length_map, ← h.len]; exact hil), hki]
        · rfl
      rw [e]
      exact hS4
    · intro j q l' u hj hu
      rw [List.getElem?_set] at hj hu
      by_cases e : i = j
      · rw [if_pos e, if_pos (by rw [← h.len]; exact hil)] at hj
        rw [if_pos e, if_pos hil] at hu
        obtain ⟨rfl, rfl⟩ : k' = q ∧ l ++ [n] = l' := by
          have := Option.some.inj hj
          exact ⟨congrArg Prod.fst this, congrArg Prod.snd this⟩
        rw [← Option.some.inj hu, List.length_append]
        have h3 : w3.ownsRow B 3 1 nv (l.length + 1) (numC (l ++ [n])) := by
          unfold numC at hown3 ⊢
          rw [List.map_append]
          exact hown3
        exact own_of_block h3 (fun g hg' => t4'.block g (h3.lt g hg').2 (fun e' => by
          rcases hnv g hg' with e2 | e2
          · exact hne.2 (by rw [e2, e'])
          · omega))
      · rw [if_neg e] at hj hu
        have hoj := h.own j q l' u hj hu
        exact own_of_block hoj (fun g hg' => hfin g (hoj.lt g hg').2 (fun e' => (h.ne u (List.mem_of_getElem? hu)).2 (by rw [hg', e'])) (h.dj j i u v g hu hv (fun e' => e e'.symm) hg'))
    · intro u hu
      rcases List.mem_or_eq_of_mem_set hu with hu | rfl
      · exact h.ne u hu
      · refine ⟨fun e => ?_, fun e => ?_⟩
        · rcases hnv x e with e2 | e2
          · exact hne.1 e2
          · omega
        · rcases hnv b e with e2 | e2
          · exact hne.2 e2
          · omega
    · intro p q u u' g hp hq hpq hg' hg2
      rw [List.getElem?_set] at hp hq
      by_cases e1 : i = p
      · have e2 : ¬ i = q := fun e => hpq (e1.symm.trans e)
        rw [if_pos e1, if_pos hil] at hp
        rw [if_neg e2] at hq
        rw [← Option.some.inj hp] at hg'
        rcases hnv g hg' with e3 | e3
        · exact h.dj i q v u' g hv hq e2 e3 hg2
        · have := (h.own_lt (List.mem_of_getElem? hq) hg2).2
          omega
      · rw [if_neg e1] at hp
        by_cases e2 : i = q
        · rw [if_pos e2, if_pos hil] at hq
          rw [← Option.some.inj hq] at hg2
          rcases hnv g hg2 with e3 | e3
          · exact h.dj p i u v g hp hv (fun e => e1 e.symm) hg' e3
          · have := (h.own_lt (List.mem_of_getElem? hp) hg').2
            omega
        · rw [if_neg e2] at hq
          exact h.dj p q u u' g hp hq hpq hg' hg2
    · intro u hu g hg'
      rcases List.mem_or_eq_of_mem_set hu with hu | rfl
      · exact .inl ⟨u, hu, hg'⟩
      · rcases hnv g hg' with e2 | e2
        · exact .inl ⟨v, hvm, e2⟩
        · exact .inr (by omega)
  · -- it is not there
    obtain ⟨st, w2, hrun, hE, hT⟩ := hm1.entry_no hk (by rw [zip_fst _ _ hlz]; exact hkm)
    have t2' := tx_turned hT
    have t2 : Tx (fun k => k = b ∨ ∃ v ∈ vs, v.ownBlock = some k) U w2 := t1.trans t2' (fun _ _ e => .inl e)
    have hbase : B ≤ w2.heap.size := Nat.le_trans hB t2.size
    obtain ⟨nv, w3, hr3, hown3, hgr, _, hloc⟩ := run_append_own_at (P := Try.prog) w2 B 38 38 3 i0 _ 1 8 Try.underlying38 hi0 hz0 hz1 hz2 rfl (by decide) (.slice none 0 0) 0 [] (World.ownsRow_nil _ _ _ _) ⟨U.heap.size, 0, none⟩ 1 1 [.int .i64 (n : Int)] rfl (fun j u hu => by
      rw [hadd, cell_of (w := u1) (t2'.block U.heap.size (by omega) (fun e => by omega)), ← hadd]
      exact hcell1 j u hu) (fun u hu => by rw [List.mem_singleton.1 hu]; rfl) (by unfold maxLen; omega) (by omega) hbase
    have t3' := tx_grown hgr
    have t3 : Tx (fun k => k = b ∨ ∃ v ∈ vs, v.ownBlock = some k) U w3 := t2.trans t3' (fun _ _ e => by cases e)
    have hE3 : MapE w3 b ((G.map Prod.fst).zip vs ++ [(k, .slice none 0 0)]) ((G.map Prod.fst).zip vs).length st := hE.of_block (t3'.block b (Nat.lt_of_lt_of_le hbl t2.size) (fun e => by cases e))
    obtain ⟨w4, hr4, hS4, hT4⟩ := hE3.store (r := k) (u := .slice none 0 0) (by rw [List.getElem?_append_right (Nat.le_refl _)]; simp) nv
    have t4' := tx_turned hT4
    have t4 : Tx (fun k => k = b ∨ ∃ v ∈ vs, v.ownBlock = some k) U w4 := t3.trans t4' (fun _ _ e => .inl e)
    have hw2s : U.heap.size < w2.heap.size := by have := t2'.size; omega
    have hxl : x < U.heap.size := World.rowIs.lt h.rl
    have hnv : ∀ g, nv.ownBlock = some g → g = w2.heap.size := fun g hg' => by
      rcases hloc with e | e
      · rw [hg'] at e
        cases e
      · rw [hg'] at e
        exact Option.some.inj e
    have hfin : ∀ g, g < U.heap.size → g ≠ b → w4.heap[g]? = U.heap[g]? := fun g hg' hgb => by
      have := t2'.size
      have := t3'.size
      rw [t4'.block g (by omega) hgb, t3'.block g (by omega) (fun e => by cases e), t2'.block g (by omega) hgb, b1.block g hg']
    rw [addK_no hkm]
    refine ⟨st, .slice none 0 0, w2, nv, w3, w4, vs ++ [nv], hrun, hr3, hr4, ⟨?_, by rw [List.length_append, List.length_append, h.len]; rfl, ?_, ?_, ?_, t2, t3, t4, ?_⟩⟩
    · rw [List.set_append_right _ _ (Nat.le_refl _), Nat.sub_self] at hS4
      rw [List.map_append, List.zip_append hlz]
      exact hS4
    · intro j q l' u hj hu
      by_cases e : j < G.length
      · rw [List.getElem?_append_left e] at hj
        rw [List.getElem?_append_left (by rw [h.len]; exact e)] at hu
        have hoj := h.own j q l' u hj hu
        exact own_of_block hoj (fun g hg' => hfin g (hoj.lt g hg').2 (fun e' => (h.ne u (List.mem_of_getElem? hu)).2 (by rw [hg', e'])))
      · have hjl : j = G.length := by
          have := (List.getElem?_eq_some_iff.1 hj).1
          rw [List.length_append] at this
          simp only [List.length_cons, List.length_nil] at this
          omega
        subst hjl
        rw [List.getElem?_append_right (Nat.le_refl _)] at hj
        rw [← h.len, List.getElem?_append_right (Nat.le_refl _)] at hu
        simp only [Nat.sub_self, List.getElem?_cons_zero] at hj hu
        obtain ⟨rfl, rfl⟩ : k = q ∧ [n] = l' := by
          have := Option.some.inj hj
          exact ⟨congrArg Prod.fst this, congrArg Prod.snd this⟩
        rw [← Option.some.inj hu]
        exact own_of_block (n := 1) (xs := numC [n]) hown3 (fun g hg' => t4'.block g (hown3.lt g hg').2 (fun e' => by
          have := hnv g hg'
          omega))
    · intro u hu
      rcases List.mem_append.1 hu with hu | hu
      · exact h.ne u hu
      · rw [List.mem_singleton.1 hu]
        exact ⟨fun e => by have := hnv x e; omega, fun e => by have := hnv b e; omega⟩
    · intro p q u u' g hp hq hpq hg' hg2
      have key : ∀ (a : Nat) (z : Value), (vs ++ [nv])[a]? = some z → (a < vs.length ∧ vs[a]? = some z) ∨ (a = vs.length ∧ z = nv) := fun a z ha => by
        by_cases e : a < vs.length
        · rw [List.getElem?_append_left e] at ha
          exact .inl ⟨e, ha⟩
        · have hal : a = vs.length := by
            have := (List.getElem?_eq_some_iff.1 ha).1
            rw [List.length_append] at this
            simp only [List.length_cons, List.length_nil] at this
            omega
          subst hal
          rw [List.getElem?_append_right (Nat.le_refl _)] at ha
          simp only [Nat.sub_self, List.getElem?_cons_zero] at ha
          exact .inr ⟨rfl, (Option.some.inj ha).symm⟩
      rcases key p u hp with ⟨_, h1⟩ | ⟨h1, rfl⟩
      · rcases key q u' hq with ⟨_, h2⟩ | ⟨h2, rfl⟩
        · exact h.dj p q u u' g h1 h2 hpq hg' hg2
        · have := hnv g hg2
          have := (h.own_lt (List.mem_of_getElem? h1) hg').2
          omega
      · rcases key q u' hq with ⟨_, h2⟩ | ⟨h2, _⟩
        · have := hnv g hg'
          have := (h.own_lt (List.mem_of_getElem? h2) hg2).2
          omega
        · exact hpq (h1.trans h2.symm)
    · intro u hu g hg'
      rcases List.mem_append.1 hu with hu | hu
      · exact .inl ⟨u, hu, hg'⟩
      · rw [List.mem_singleton.1 hu] at hg'
        have := hnv g hg'
        exact .inr (by omega)
end Go.Proofs.Ytekjoccbbamehaa
