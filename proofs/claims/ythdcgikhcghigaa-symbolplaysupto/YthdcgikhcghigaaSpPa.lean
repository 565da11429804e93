import Derived.Test.YthdcgikhcghigaaSpTb
namespace Go.Proofs.Ythdcgikhcghigaa
open Go.RowKit Go.Maps Go.ChangeMaps
set_option linter.unusedVariables false
set_option linter.unusedSimpArgs false

/-- what has changed lies in E -/
structure Tc (E : Nat → Prop) (w w' : World) : Prop where
  os : w'.os = w.os
  tape : w'.tape = w.tape
  output : w'.output = w.output
  size : w.heap.size ≤ w'.heap.size
  block : ∀ k, k < w.heap.size → ¬ E k → w'.heap[k]? = w.heap[k]?
theorem Tc.of {E : Nat → Prop} {w w' : World} (h : Below w.heap.size w w') : Tc E w w' := ⟨h.os, h.tape, h.output, h.size, fun k hk _ => h.block k hk⟩
theorem Tc.mono {E E' : Nat → Prop} {w w' : World} (h : Tc E w w') (he : ∀ k, k < w.heap.size → E k → E' k) : Tc E' w w' := ⟨h.os, h.tape, h.output, h.size, fun k hk hn => h.block k hk (fun e => hn (he k hk e))⟩
theorem Tc.trans {E E' : Nat → Prop} {w u w' : World} (h : Tc E w u) (g : Tc E' u w') (he : ∀ k, k < w.heap.size → E' k → E k) : Tc E w w' :=
  ⟨g.os.trans h.os, g.tape.trans h.tape, g.output.trans h.output, Nat.le_trans h.size g.size, fun k hk hn => (g.block k (Nat.lt_of_lt_of_le hk h.size) (fun e => hn (he k hk e))).trans (h.block k hk hn)⟩
theorem Tc.below {E : Nat → Prop} {w w' : World} {B : Nat} (h : Tc E w w') (hB : B ≤ w.heap.size) (he : ∀ k, k < B → ¬ E k) : Below B w w' := ⟨h.os, h.tape, h.output, h.size, fun k hk => h.block k (by omega) (he k hk)⟩
theorem Tc.setCell {E : Nat → Prop} {w w' : World} (h : Tc E w w') {p : Addr} (hp : w.heap.size ≤ p.block ∨ E p.block) (v : Value) : Tc E w (w'.setCell p v) :=
  ⟨h.os, h.tape, h.output, Nat.le_trans h.size (by simp [World.setCell]), fun k hk hn => (Below.heap_setCell _ _ _ _ (fun e => by
    rcases hp with hp | hp
    · omega
    · exact hn (e ▸ hp))).trans (h.block k hk hn)⟩
theorem Tc.cell {E : Nat → Prop} {w w' : World} (h : Tc E w w') {b i : Nat} {v : Value} (hb : b < w.heap.size) (hn : ¬ E b) (hc : w.cell? ⟨b, i, none⟩ = some v) : w'.cell? ⟨b, i, none⟩ = some v := (World.cell?_of_block (w := w) (h.block b hb hn)).trans hc
/-- a step: what has changed lies in E; then the blocks are E' -/
def Gs (E E' : Nat → Prop) (w w' : World) : Prop := Tc E w w' ∧ ∀ k, E' k → E k ∨ w.heap.size ≤ k
theorem Gs.of {E : Nat → Prop} {w w' : World} (h : Below w.heap.size w w') : Gs E E w w' := ⟨.of h, fun k hk => .inl hk⟩
theorem Gs.trans {E E' E2 : Nat → Prop} {w u w' : World} (h : Gs E E' w u) (g : Gs E' E2 u w') : Gs E E2 w w' :=
  ⟨h.1.trans g.1 (fun k hk e => (h.2 k e).elim id (fun e => by omega)), fun k hk => (g.2 k hk).elim (h.2 k) (fun e => .inr (Nat.le_trans h.1.size e))⟩
theorem Gs.keep {E E' : Nat → Prop} {w u w' : World} (h : Gs E E' w u) (b : Below u.heap.size u w') : Gs E E' w w' := h.trans (Gs.of b)
theorem Gs.after {E E' : Nat → Prop} {w u w' : World} (b : Below w.heap.size w u) (h : Gs E E' u w') : Gs E E' w w' := (Gs.of b).trans h
def BoE (t m : Nat) (sv : Value) (p : Nat) (sv' : Value) : Nat → Prop := fun k => k = t ∨ k = m ∨ k = p ∨ sv.ownBlock = some k ∨ sv'.ownBlock = some k
/-- the pointers of the two tables: both nil, or both there; E: their blocks -/
inductive Pa (w : World) : Value → Value → Option Int → Nat → List V → List V → (Nat → Prop) → Prop
  | nil {mb : Nat} : Pa w (.pointer none) (.pointer none) none mb [] [] (fun _ => False)
  | live {t m p : Nat} {sv sv' : Value} {vs us : List V} {most : Int} (tb : Tbl w t m sv vs most) (rt : Rt w 0 p sv' us most) (dj : ∀ g, sv.ownBlock = some g → sv'.ownBlock ≠ some g) :
      Pa w (.pointer (some ⟨t, 0, none⟩)) (.pointer (some ⟨p, 0, none⟩)) (some most) m vs us (BoE t m sv p sv')
theorem tb_rt {w : World} {t m p : Nat} {sv sv' : Value} {vs us : List V} {most : Int} (tb : Tbl w t m sv vs most) (rt : Rt w 0 p sv' us most) : p ≠ t ∧ p ≠ m ∧ sv.ownBlock ≠ some p ∧ ∀ g, sv'.ownBlock = some g → g ≠ t ∧ g ≠ m := by
  obtain ⟨c, hc, _⟩ := id tb.row
  obtain ⟨c', hc', _⟩ := id rt.rl
  obtain ⟨es, nx, hm, _⟩ := id tb.map
  refine ⟨fun e => ?_, fun e => ?_, fun e => ?_, fun g hg => ⟨fun e => ?_, fun e => ?_⟩⟩
  · subst e; rw [hc] at hc'; cases hc'
  · subst e; rw [hm] at hc'; cases hc'
  · obtain ⟨cur, hk⟩ := ownsRow_kind tb.own e
    rw [hc'] at hk; cases hk
  · obtain ⟨cur, hk⟩ := ownsRow_kind rt.own hg
    subst e; rw [hc] at hk; cases hk
  · obtain ⟨cur, hk⟩ := ownsRow_kind rt.own hg
    subst e; rw [hm] at hk; cases hk
section
variable {w w' : World} {pT pR : Value} {mo : Option Int} {mb : Nat} {vs us : List V} {E : Nat → Prop}
theorem Pa.keep (h : Pa w pT pR mo mb vs us E) (hb : Below w.heap.size w w') : Pa w' pT pR mo mb vs us E := by
  cases h with
  | nil => exact .nil
  | live tb rt dj => exact .live (tb.below hb) (rt.keep hb) dj
theorem Pa.form (h : Pa w pT pR mo mb vs us E) : pT = .pointer none ∨ ∃ t, pT = .pointer (some ⟨t, 0, none⟩) := by
  cases h with
  | nil => exact .inl rfl
  | live tb rt dj => exact .inr ⟨_, rfl⟩
theorem Pa.lt (h : Pa w pT pR mo mb vs us E) {k : Nat} (hk : E k) : k < w.heap.size := by
  cases h with
  | nil => exact hk.elim
  | live tb rt dj =>
    rcases hk with e | e | e | e | e
    · rw [e]; exact tb.lts.1
    · rw [e]; exact tb.lts.2.1
    · rw [e]; exact World.rowIs.lt rt.rl
    · exact tb.lts.2.2 _ e
    · exact (rt.own.lt _ e).2
theorem Pa.blocks (h : Pa w pT pR mo mb vs us E) (hb : ∀ k, E k → w'.heap[k]? = w.heap[k]?) : Pa w' pT pR mo mb vs us E := by
  cases h with
  | nil => exact .nil
  | live tb rt dj => exact .live (tb.of_blocks (hb _ (.inl rfl)) (hb _ (.inr (.inl rfl))) (fun g hg => hb _ (.inr (.inr (.inr (.inl hg)))))) (rt.blk (hb _ (.inr (.inr (.inl rfl)))) (fun g hg => hb _ (.inr (.inr (.inr (.inr hg)))))) dj
theorem Pa.wf (h : Pa w pT pR mo mb vs us E) : ∀ v ∈ us, v.wf := by
  cases h with
  | nil => exact fun v hv => (by cases hv)
  | live tb rt dj => exact rt.wf
theorem Pa.wfT (h : Pa w pT pR mo mb vs us E) : ∀ v ∈ vs, v.wf := by
  cases h with
  | nil => exact fun v hv => (by cases hv)
  | live tb rt dj => exact tb.wf
end
/-- a block of the pair is the map, or cells -/
theorem Pa.cells {w : World} {pT pR : Value} {mo : Option Int} {mb : Nat} {vs us : List V} {E : Nat → Prop} (h : Pa w pT pR mo mb vs us E) {k : Nat} (hk : E k) : k = mb ∨ ∃ c t, w.heap[k]? = some (.cells c t (0, 0)) := by
  cases h with
  | nil => exact hk.elim
  | live tb rt dj =>
    rcases hk with e | e | e | e | e
    · obtain ⟨c, hc, _⟩ := id tb.row
      exact .inr ⟨c, _, by rw [e]; exact hc⟩
    · exact .inl e
    · obtain ⟨c, hc, _⟩ := id rt.rl
      exact .inr ⟨c, _, by rw [e]; exact hc⟩
    · obtain ⟨c, hc⟩ := ownsRow_kind tb.own e
      exact .inr ⟨c, _, hc⟩
    · obtain ⟨c, hc⟩ := ownsRow_kind rt.own e
      exact .inr ⟨c, _, hc⟩
theorem live_T {w w' : World} {t m p : Nat} {sv sv' sv2 : Value} {vs us vs2 : List V} {most : Int} (tb : Tbl w t m sv vs most) (rt : Rt w 0 p sv' us most) (dj : ∀ g, sv.ownBlock = some g → sv'.ownBlock ≠ some g) (tb2 : Tbl w' t m sv2 vs2 most) (U : Touch w w' t m sv sv2) :
    ∃ E', Pa w' (.pointer (some ⟨t, 0, none⟩)) (.pointer (some ⟨p, 0, none⟩)) (some most) m vs2 us E' ∧ Gs (BoE t m sv p sv') E' w w' := by
  obtain ⟨h1, h2, h3, h4⟩ := tb_rt tb rt
  refine ⟨BoE t m sv2 p sv', .live tb2 (rt.blk (U.block p (World.rowIs.lt rt.rl) h1 h2 h3) (fun g hg => U.block g (rt.own.lt g hg).2 (h4 g hg).1 (h4 g hg).2 (fun e => dj g e hg))) (fun g hg hg' => ?_), ⟨U.low.os, U.low.tape, U.low.output, U.low.size, fun k hk hn => U.block k hk (fun e => hn (.inl e)) (fun e => hn (.inr (.inl e))) (fun e => hn (.inr (.inr (.inr (.inl e)))))⟩, fun k hk => ?_⟩
  · rcases U.new g hg with e | e
    · exact dj g e hg'
    · have := (rt.own.lt g hg').2; omega
  · rcases hk with e | e | e | e | e
    · exact .inl (.inl e)
    · exact .inl (.inr (.inl e))
    · exact .inl (.inr (.inr (.inl e)))
    · exact (U.new k e).imp (fun e => .inr (.inr (.inr (.inl e)))) id
    · exact .inl (.inr (.inr (.inr (.inr e))))
theorem live_R {w w' : World} {t m p : Nat} {sv sv' sv2 : Value} {vs us us2 : List V} {most : Int} (tb : Tbl w t m sv vs most) (rt : Rt w 0 p sv' us most) (dj : ∀ g, sv.ownBlock = some g → sv'.ownBlock ≠ some g) (rt2 : Rt w' 0 p sv2 us2 most) (U : Touch w w' p p sv' sv2) :
    ∃ E', Pa w' (.pointer (some ⟨t, 0, none⟩)) (.pointer (some ⟨p, 0, none⟩)) (some most) m vs us2 E' ∧ Gs (BoE t m sv p sv') E' w w' := by
  obtain ⟨h1, h2, h3, h4⟩ := tb_rt tb rt
  have n1 : ∀ g, sv'.ownBlock = some g → t ≠ g := fun g hg e => (h4 g hg).1 e.symm
  have n2 : ∀ g, sv'.ownBlock = some g → m ≠ g := fun g hg e => (h4 g hg).2 e.symm
  refine ⟨BoE t m sv p sv2, .live (tb.of_blocks (U.block t tb.lts.1 (fun e => h1 e.symm) (fun e => h1 e.symm) (fun e => n1 t e rfl)) (U.block m tb.lts.2.1 (fun e => h2 e.symm) (fun e => h2 e.symm) (fun e => n2 m e rfl)) (fun g hg => U.block g (tb.lts.2.2 g hg) (fun e => h3 (e ▸ hg)) (fun e => h3 (e ▸ hg)) (dj g hg))) rt2 (fun g hg hg' => ?_), ⟨U.low.os, U.low.tape, U.low.output, U.low.size, fun k hk hn => U.block k hk (fun e => hn (.inr (.inr (.inl e)))) (fun e => hn (.inr (.inr (.inl e)))) (fun e => hn (.inr (.inr (.inr (.inr e)))))⟩, fun k hk => ?_⟩
  · rcases U.new g hg' with e | e
    · exact dj g hg e
    · have := tb.lts.2.2 g hg; omega
  · rcases hk with e | e | e | e | e
    · exact .inl (.inl e)
    · exact .inl (.inr (.inl e))
    · exact .inl (.inr (.inr (.inl e)))
    · exact .inl (.inr (.inr (.inr (.inl e))))
    · exact (U.new k e).imp (fun e => .inr (.inr (.inr (.inr e)))) id
/-- what Add answers -/
def adS (mo : Option Int) (vs : List V) (v : V) : Nat := match mo with | none => 0 | some most => addS most vs v
def adE (mo : Option Int) (vs : List V) (v : V) : Int := match mo with | none => 2 | some most => addE most vs v
def adV (mo : Option Int) (vs : List V) (v : V) : List V := match mo with | none => vs | some most => addV most vs v
theorem chk_bad {v : V} (h : ¬ chk v.k v.n v.s = 0) : chk v.k v.n v.s = 10 := by
  unfold chk at h ⊢
  split
  · rename_i hh; exact absurd (if_pos hh) h
  · rfl
theorem addV_len (most : Int) (vs : List V) (v : V) : (addV most vs v).length ≤ vs.length + 1 := by
  unfold addV
  repeat' split
  all_goals simp
theorem adV_len (mo : Option Int) (vs : List V) (v : V) : (adV mo vs v).length ≤ vs.length + 1 := by
  cases mo with
  | none => simp [adV]
  | some most => exact addV_len most vs v
/-- what Cut answers -/
def ctE (mo : Option Int) (vs : List V) (n : Int) : Int := match mo with | none => 2 | some _ => if n < 0 ∨ (vs.length : Int) < n then 1 else 0
def ctV (mo : Option Int) (vs : List V) (n : Int) : List V := match mo with | none => vs | some _ => if n < 0 ∨ (vs.length : Int) < n then vs else vs.take n.toNat
theorem ctV_len (mo : Option Int) (vs : List V) (n : Int) : (ctV mo vs n).length ≤ vs.length := by
  cases mo with
  | none => simp [ctV]
  | some most =>
    unfold ctV
    dsimp only
    split
    · exact Nat.le_refl _
    · simp; omega
/-- what Row answers -/
def rwE (mo : Option Int) (vs xs : List V) : Int := match mo with | none => 2 | some most => if 24 < xs.length then 1 else (rowAll most vs xs).err
def rwS (mo : Option Int) (vs xs : List V) : List Nat := match mo with | none => [] | some most => if 24 < xs.length then [] else if (rowAll most vs xs).err = 0 then (rowAll most vs xs).ss else []
def rwV (mo : Option Int) (vs xs : List V) : List V := match mo with | none => vs | some most => if 24 < xs.length then vs else if (rowAll most vs xs).err = 0 then (rowAll most vs xs).vs else vs
theorem rowAll_snoc (most : Int) (vs xs : List V) (x : V) : rowAll most vs (xs ++ [x]) = rowStep most (rowAll most vs xs) x := by simp [rowAll, List.foldl_append]
theorem rw_link (most : Int) (vs : List V) : ∀ (n : Nat) (xs : List V), xs.length = n → (∀ us ss, rwSt most vs xs = .ok (us, ss) → rowAll most vs xs = ⟨ss, us, 0⟩) ∧ ∀ k, rwSt most vs xs = .error k → (rowAll most vs xs).err = k ∧ k ≠ 0
  | 0, xs, h => by
    obtain rfl := List.eq_nil_of_length_eq_zero h
    refine ⟨fun us ss e => ?_, fun k e => by cases e⟩
    cases e
    rfl
  | n + 1, xs, h => by
    obtain ⟨ys, x, rfl⟩ : ∃ ys x, xs = ys ++ [x] := ⟨xs.dropLast, xs.getLast (by intro e; subst e; cases h), (List.dropLast_concat_getLast _).symm⟩
    have ih := rw_link most vs n ys (by simpa using h)
    rw [rwSt_snoc, rowAll_snoc]
    cases e0 : rwSt most vs ys with
    | error k =>
      obtain ⟨h1, h2⟩ := ih.2 k e0
      have e1 : rowStep most (rowAll most vs ys) x = rowAll most vs ys := by unfold rowStep; rw [if_neg (by rw [h1]; exact h2)]
      refine ⟨fun us ss e => ?_, fun k' e => ?_⟩
      · cases e
      · cases e; rw [e1]; exact ⟨h1, h2⟩
    | ok st =>
      obtain ⟨us0, ss0⟩ := st
      have h1 := ih.1 us0 ss0 e0
      rw [h1]
      simp only [Except.bind]
      unfold rwStep rowStep
      simp only
      by_cases hc : chk x.k x.n x.s = 0
      · by_cases hm : x ∈ us0
        · simp [hc, hm, addE, addS, addV, symOf]
        · by_cases hf : most ≤ (us0.length : Int)
          · simp [hc, hm, hf, addE, addS, addV]
          · simp [hc, hm, hf, addE, addS, addV]
      · simp [hc, addE, addS, addV, chk_bad hc]
theorem addS_le {most : Int} {vs : List V} {v : V} : addS most vs v ≤ vs.length := by
  unfold addS
  repeat' split
  · rename_i hm
    unfold symOf
    rw [if_pos hm]
    exact Nat.le_of_lt (List.idxOf_lt_length_of_mem hm)
  all_goals omega
theorem rowAll_le (most : Int) (vs : List V) : ∀ (n : Nat) (xs : List V), xs.length = n → ∀ s ∈ (rowAll most vs xs).ss, s ≤ vs.length + n
  | 0, xs, h => by
    obtain rfl := List.eq_nil_of_length_eq_zero h
    intro s hs
    cases hs
  | n + 1, xs, h => by
    obtain ⟨ys, x, rfl⟩ : ∃ ys x, xs = ys ++ [x] := ⟨xs.dropLast, xs.getLast (by intro e; subst e; cases h), (List.dropLast_concat_getLast _).symm⟩
    have ih := rowAll_le most vs n ys (by simpa using h)
    have hl := (rowAll_facts most vs ys).1
    have hy : ys.length = n := by simpa using h
    rw [rowAll_snoc]
    unfold rowStep
    intro s hs
    split at hs
    · split at hs
      · rcases List.mem_append.1 hs with hs | hs
        · have := ih s hs; omega
        · have := List.mem_singleton.1 hs
          have := addS_le (most := most) (vs := (rowAll most vs ys).vs) (v := x)
          omega
      · have := ih s hs; omega
    · have := ih s hs; omega
theorem rwS_le {mo : Option Int} {vs xs : List V} {s : Nat} (hs : s ∈ rwS mo vs xs) : s ≤ vs.length + 24 := by
  cases mo with
  | none => cases hs
  | some most =>
    unfold rwS at hs
    dsimp only at hs
    split at hs
    · cases hs
    · split at hs
      · have := rowAll_le most vs _ xs rfl s hs
        omega
      · cases hs
theorem rwV_len (mo : Option Int) (vs xs : List V) : (rwV mo vs xs).length ≤ vs.length + 24 := by
  cases mo with
  | none => simp [rwV]
  | some most =>
    have := (rowAll_facts most vs xs).1
    unfold rwV
    dsimp only
    split
    · omega
    · split <;> omega
section
variable {w w' : World} {pT pR : Value} {mo : Option Int} {mb : Nat} {vs us : List V} {E : Nat → Prop}
theorem pa_len (h : Pa w pT pR mo mb vs us E) : Calls Try.prog 7 #[pT] w fun e w' => e = .returned (.int .i64 (vs.length : Int)) ∧ w' = w := by
  cases h with
  | nil => exact len_no .nil
  | live tb rt dj => exact len_any tb
theorem pa_rlen (h : Pa w pT pR mo mb vs us E) : Calls Try.prog 8 #[pR] w fun e w' => e = .returned (.int .i64 (us.length : Int)) ∧ w' = w := by
  cases h with
  | nil => exact rlen_nil
  | live tb rt dj => exact rtlen_yes rt
theorem pa_add (h : Pa w pT pR mo mb vs us E) (hl : vs.length ≤ 2000000000) (v : V) (hv : v.wf) : Calls Try.prog 13 #[pT, .agg #[.int .i8 v.k, .int .i64 v.n, .string v.s]] w fun e w' => e = .returned (.tuple #[.int .i32 (adS mo vs v), .int .i64 (adE mo vs v)]) ∧ ∃ E', Pa w' pT pR mo mb (adV mo vs v) us E' ∧ Gs E E' w w' := by
  cases h with
  | nil => exact (add_no .nil v).mono fun e w' hp => ⟨hp.1, _, .nil, Gs.of hp.2⟩
  | live tb rt dj =>
    refine (add_any tb hv (by omega)).mono fun e w' hp => ?_
    obtain ⟨he, sv2, tb2, U⟩ := hp
    exact ⟨he, live_T tb rt dj tb2 U⟩
theorem pa_radd (h : Pa w pT pR mo mb vs us E) (hl : us.length ≤ 1000000000) (v : V) (hv : v.wf) : Calls Try.prog 14 #[pR, .agg #[.int .i8 v.k, .int .i64 v.n, .string v.s]] w fun e w' => e = .returned (.tuple #[.int .i32 (adS mo us v), .int .i64 (adE mo us v)]) ∧ ∃ E', Pa w' pT pR mo mb vs (adV mo us v) E' ∧ Gs E E' w w' := by
  cases h with
  | nil => exact (radd_nil v).mono fun e w' hp => ⟨hp.1, _, .nil, Gs.of hp.2⟩
  | live tb rt dj =>
    refine (rtadd_any rt (Nat.zero_le _) hl v hv).mono fun e w' hp => ?_
    have hsame : Below w.heap.size w w' → ∃ E', Pa w' _ _ _ _ vs us E' ∧ Gs _ E' w w' := fun hb => ⟨_, .live (tb.below hb) (rt.keep hb) dj, Gs.of hb⟩
    unfold adS adE adV
    dsimp only
    unfold addS addE addV
    rcases hp with ⟨hc, he, hb⟩ | ⟨hc, ⟨i, he, hi, hj⟩, hb⟩ | ⟨hc, hm, hf, he, hb⟩ | ⟨hc, hm, hf, he, sv2, rt2, U⟩
    · rw [if_neg hc, if_neg hc, if_neg hc, chk_bad hc]
      exact ⟨he, hsame hb⟩
    · have hm : v ∈ us := List.mem_of_getElem? hi
      rw [if_pos hc, if_pos hc, if_pos hc, if_pos hm, if_pos hm, if_pos hm]
      unfold symOf
      rw [if_pos hm, idxOf_first us i hi hj]
      exact ⟨he, hsame hb⟩
    · rw [if_pos hc, if_pos hc, if_pos hc, if_neg hm, if_neg hm, if_neg hm, if_pos hf, if_pos hf, if_pos hf]
      exact ⟨he, hsame hb⟩
    · have hf' : ¬ _ ≤ (us.length : Int) := Int.not_le.2 hf
      rw [if_pos hc, if_pos hc, if_pos hc, if_neg hm, if_neg hm, if_neg hm, if_neg hf', if_neg hf', if_neg hf']
      exact ⟨he, live_R tb rt dj rt2 U⟩
theorem pa_cut (h : Pa w pT pR mo mb vs us E) (n : Int) : Calls Try.prog 33 #[pT, .int .i64 n] w fun e w' => e = .returned (.int .i64 (ctE mo vs n)) ∧ ∃ E', Pa w' pT pR mo mb (ctV mo vs n) us E' ∧ Gs E E' w w' := by
  cases h with
  | nil => exact (cut_no .nil n).mono fun e w' hp => ⟨hp.1, _, .nil, hp.2 ▸ Gs.of (Below.refl _ _)⟩
  | live tb rt dj =>
    unfold ctE ctV
    dsimp only
    by_cases hn : n < 0 ∨ (vs.length : Int) < n
    · rw [if_pos hn, if_pos hn]
      exact (cut_bad tb n hn).mono fun e w' hp => by obtain ⟨he, rfl⟩ := hp; exact ⟨he, _, .live tb rt dj, Gs.of (Below.refl _ _)⟩
    · rw [if_neg hn, if_neg hn]
      have e0 : ((n.toNat : Nat) : Int) = n := by omega
      have := cut_ok tb (n := n.toNat) (by omega)
      rw [e0] at this
      refine this.mono fun e w' hp => ?_
      obtain ⟨he, sv2, tb2, U⟩ := hp
      exact ⟨he, live_T tb rt dj tb2 U⟩
theorem pa_rcut (h : Pa w pT pR mo mb vs us E) (n : Int) : Calls Try.prog 34 #[pR, .int .i64 n] w fun e w' => e = .returned (.int .i64 (ctE mo us n)) ∧ ∃ E', Pa w' pT pR mo mb vs (ctV mo us n) E' ∧ Gs E E' w w' := by
  cases h with
  | nil => exact (rcut_nil n).mono fun e w' hp => ⟨hp.1, _, .nil, hp.2 ▸ Gs.of (Below.refl _ _)⟩
  | live tb rt dj =>
    unfold ctE ctV
    dsimp only
    by_cases hn : n < 0 ∨ (us.length : Int) < n
    · rw [if_pos hn, if_pos hn]
      exact (rtcut_bad rt n hn).mono fun e w' hp => by obtain ⟨he, rfl⟩ := hp; exact ⟨he, _, .live tb rt dj, Gs.of (Below.refl _ _)⟩
    · rw [if_neg hn, if_neg hn]
      have e0 : ((n.toNat : Nat) : Int) = n := by omega
      have := rtcut_any rt (n := n.toNat) (by omega)
      rw [e0] at this
      refine this.mono fun e w' hp => ?_
      obtain ⟨he, sv2, rt2, U⟩ := hp
      exact ⟨he, live_R tb rt dj rt2 U⟩
theorem pa_row (h : Pa w pT pR mo mb vs us E) (hl : vs.length ≤ 2000000000) (xs : List V) (a : Option Addr) (c : Nat) (hv : Lv w (.slice a xs.length c) xs) (hsep : 0 < xs.length → ∀ g off, a = some ⟨g, off, none⟩ → ¬ E g) :
    Calls Try.prog 37 #[pT, .slice a xs.length c] w fun e w' => e = .returned (.tuple #[.agg (rowC (rwS mo vs xs)), .int .i64 (rwE mo vs xs)]) ∧ ∃ E', Pa w' pT pR mo mb (rwV mo vs xs) us E' ∧ Gs E E' w w' := by
  cases h with
  | nil => exact (row_no .nil a _ c).mono fun e w' hp => ⟨by rw [hp.1]; unfold rwS rwE; dsimp only; rw [rowC_nil, zR_zero], _, .nil, Gs.of hp.2⟩
  | @live t m p sv sv' vs us most tb rt dj =>
    unfold rwS rwE rwV
    dsimp only
    by_cases hx : 24 < xs.length
    · rw [if_pos hx, if_pos hx, if_pos hx, rowC_nil, ← zR_zero]
      exact (row_long tb a _ c hx).mono fun e w' hp => ⟨hp.1, _, .live (tb.below hp.2) (rt.keep hp.2) dj, Gs.of hp.2⟩
    · rw [if_neg hx, if_neg hx, if_neg hx]
      have hs : 0 < xs.length → ∀ g off, a = some ⟨g, off, none⟩ → g ≠ t ∧ g ≠ mb ∧ sv.ownBlock ≠ some g := fun h0 g off e => ⟨fun e' => hsep h0 g off e (.inl e'), fun e' => hsep h0 g off e (.inr (.inl e')), fun e' => hsep h0 g off e (.inr (.inr (.inr (.inl e'))))⟩
      by_cases he : (rowAll most vs xs).err = 0
      · rw [if_pos he, if_pos he, he]
        refine (row_ok tb xs a c hv (by omega) hs (by omega) he).mono fun e w' hp => ?_
        obtain ⟨C, sv2, he2, h1, h2, tb2, U⟩ := hp
        rw [rowC_of h1 h2] at he2
        exact ⟨he2, live_T tb rt dj tb2 U⟩
      · rw [if_neg he, if_neg he]
        refine (row_err tb xs a c hv (by omega) hs (by omega) he).mono fun e w' hp => ?_
        obtain ⟨C, sv2, he2, h1, h2, tb2, U⟩ := hp
        rw [zero_eq h1 h2, ← rowC_nil] at he2
        exact ⟨he2, live_T tb rt dj tb2 U⟩
theorem pa_rrow (h : Pa w pT pR mo mb vs us E) (hl : us.length ≤ 900000000) (xs : List V) (a : Option Addr) (c : Nat) (hv : Lv w (.slice a xs.length c) xs) (hsep : 0 < xs.length → ∀ g off, a = some ⟨g, off, none⟩ → ¬ E g) :
    Calls Try.prog 36 #[pR, .slice a xs.length c] w fun e w' => e = .returned (.tuple #[.agg (rowC (rwS mo us xs)), .int .i64 (rwE mo us xs)]) ∧ ∃ E', Pa w' pT pR mo mb vs (rwV mo us xs) E' ∧ Gs E E' w w' := by
  cases h with
  | nil => exact (rrow_nil a _ c).mono fun e w' hp => ⟨by rw [hp.1]; unfold rwS rwE; dsimp only; rw [rowC_nil, zR_zero], _, .nil, Gs.of hp.2⟩
  | @live t m p sv sv' vs us most tb rt dj =>
    unfold rwS rwE rwV
    dsimp only
    by_cases hx : 24 < xs.length
    · rw [if_pos hx, if_pos hx, if_pos hx, rowC_nil, ← zR_zero]
      exact (rrow_long rt a _ c hx).mono fun e w' hp => ⟨hp.1, _, .live (tb.below hp.2) (rt.keep hp.2) dj, Gs.of hp.2⟩
    · rw [if_neg hx, if_neg hx, if_neg hx]
      refine (rtrow_any rt (Nat.zero_le _) hl xs a c hv (by omega) (fun h0 g off e => ⟨fun e' => hsep h0 g off e (.inr (.inr (.inl e'))), fun e' => hsep h0 g off e (.inr (.inr (.inr (.inr e'))))⟩)).mono fun e w' hp => ?_
      obtain ⟨sv2, U, ⟨us2, ss, C, hr, he2, h1, h2, rt2⟩ | ⟨k, hr, he2, rt2⟩⟩ := hp
      · rw [(rw_link most us _ xs rfl).1 us2 ss hr]
        simp only [if_true]
        rw [rowC_of h1 h2] at he2
        exact ⟨he2, live_R tb rt dj rt2 U⟩
      · obtain ⟨e1, e2⟩ := (rw_link most us _ xs rfl).2 k hr
        rw [e1, if_neg e2, if_neg e2, rowC_nil]
        exact ⟨he2, live_R tb rt dj rt2 U⟩
/-- Find of both sides tells the same -/
theorem pa_find (h : Pa w pT pR mo mb vs vs E) (hl : vs.length ≤ 1000000000) (v : V) (hv : v.wf) : ∃ (s : Nat) (b : Bool),
    (∀ u, Below w.heap.size w u → Calls Try.prog 15 #[pT, .agg #[.int .i8 v.k, .int .i64 v.n, .string v.s]] u fun e u' => e = .returned (.tuple #[.int .i32 s, .bool b]) ∧ Below u.heap.size u u') ∧
    ∀ u, Below w.heap.size w u → Calls Try.prog 16 #[pR, .agg #[.int .i8 v.k, .int .i64 v.n, .string v.s]] u fun e u' => e = .returned (.tuple #[.int .i32 s, .bool b]) ∧ Below u.heap.size u u' := by
  cases h with
  | nil => exact ⟨0, false, fun u hu => find_no .nil v, fun u hu => rfind_nil v⟩
  | live tb rt dj =>
    refine ⟨symOf vs v, decide (v ∈ vs), fun u hu => find_any (tb.below hu) hv, fun u hu => (rtfind_any (rt.keep hu) hl v hv).mono fun e u' hp => ⟨?_, hp.2⟩⟩
    rcases hp.1 with ⟨he, hm⟩ | ⟨i, he, hi, hj⟩
    · rw [he, decide_eq_false hm]
      simp [symOf, hm]
    · have hm : v ∈ vs := List.mem_of_getElem? hi
      rw [he, decide_eq_true hm]
      unfold symOf
      rw [if_pos hm, idxOf_first vs i hi hj]
/-- Value of both sides tells the same -/
theorem pa_value (h : Pa w pT pR mo mb vs vs E) (hl : vs.length ≤ 1000000000) (i : Int) (h0 : -2147483648 ≤ i) (h1 : i ≤ 2147483647) : ∃ (x : V) (er : Int),
    (∀ u, Below w.heap.size w u → Calls Try.prog 17 #[pT, .int .i32 i] u fun e u' => e = .returned (.tuple #[.agg #[.int .i8 x.k, .int .i64 x.n, .string x.s], .int .i64 er]) ∧ Below u.heap.size u u') ∧
    ∀ u, Below w.heap.size w u → Calls Try.prog 18 #[pR, .int .i32 i] u fun e u' => e = .returned (.tuple #[.agg #[.int .i8 x.k, .int .i64 x.n, .string x.s], .int .i64 er]) ∧ Below u.heap.size u u' := by
  cases h with
  | nil => exact ⟨V0, 2, fun u hu => value_no .nil i, fun u hu => rvalue_nil i⟩
  | live tb rt dj =>
    by_cases hi : i < 0 ∨ (vs.length : Int) ≤ i
    · exact ⟨V0, 21, fun u hu => value_outI (tb.below hu) hi h0 h1, fun u hu => rtvalue_out (rt.keep hu) hi h0 h1⟩
    · obtain ⟨k, rfl⟩ : ∃ k : Nat, i = (k : Int) := ⟨i.toNat, by omega⟩
      have hk : k < vs.length := by omega
      exact ⟨atV vs k, 0, fun u hu => value_in (tb.below hu) hk (by omega), fun u hu => rtvalue_in (rt.keep hu) hk (by omega)⟩
theorem symOf_le (vs : List V) (x : V) : symOf vs x ≤ vs.length := by
  unfold symOf
  split
  · rename_i hm
    exact Nat.le_of_lt (List.idxOf_lt_length_of_mem hm)
  · omega
/-- Seek of both sides tells the same -/
theorem pa_seek (h : Pa w pT pR mo mb vs vs E) (hl : vs.length ≤ 1000000000) (xs : List V) : ∃ (ss : List Nat) (b : Bool), (∀ s ∈ ss, s ≤ 2147483647) ∧
    (∀ u a c, Below w.heap.size w u → Lv u (.slice a xs.length c) xs → Calls Try.prog 40 #[pT, .slice a xs.length c] u fun e u' => e = .returned (.tuple #[.agg (rowC ss), .bool b]) ∧ Below u.heap.size u u') ∧
    ∀ u a c, Below w.heap.size w u → Lv u (.slice a xs.length c) xs → Calls Try.prog 39 #[pR, .slice a xs.length c] u fun e u' => e = .returned (.tuple #[.agg (rowC ss), .bool b]) ∧ Below u.heap.size u u' := by
  cases h with
  | nil => exact ⟨[], false, by simp, fun u a c hu hv => by rw [rowC_nil]; exact seek_no .nil a _ c, fun u a c hu hv => by rw [rowC_nil]; exact rseek_nil a _ c⟩
  | live tb rt dj =>
    by_cases hx : 24 < xs.length
    · exact ⟨[], false, by simp, fun u a c hu hv => by rw [rowC_nil]; exact seek_long (tb.below hu) a _ c hx, fun u a c hu hv => by rw [rowC_nil]; exact rseek_long (rt.keep hu) a _ c hx⟩
    · have hx' : xs.length ≤ 24 := by omega
      by_cases hall : ∀ x ∈ xs, x ∈ vs
      · refine ⟨xs.map (symOf vs), true, fun s hs => ?_, fun u a c hu hv => ?_, fun u a c hu hv => ?_⟩
        · obtain ⟨x, _, rfl⟩ := List.mem_map.1 hs
          have := symOf_le vs x
          omega
        · refine (seek_any ⟨_, _, tb.below hu, Nat.zero_le _, Nat.zero_le _, fun _ _ => Nat.zero_le _⟩ xs a c hv hx').mono fun e u' hp => ⟨?_, hp.2⟩
          rcases hp.1 with ⟨_, C, he, h1, h2⟩ | ⟨⟨x, h1, h2⟩, _⟩
          · rw [he, rowC_of h1 h2]
          · exact absurd (hall x h1) h2
        · refine (rtseek_any (rt.keep hu) hl xs a c hv hx').mono fun e u' hp => ⟨?_, hp.2⟩
          rcases hp.1 with ⟨_, C, he, h1, h2⟩ | ⟨⟨x, h1, h2⟩, _⟩
          · rw [he, rowC_of h1 h2]
          · exact absurd (hall x h1) h2
      · refine ⟨[], false, by simp, fun u a c hu hv => ?_, fun u a c hu hv => ?_⟩
        · refine (seek_any ⟨_, _, tb.below hu, Nat.zero_le _, Nat.zero_le _, fun _ _ => Nat.zero_le _⟩ xs a c hv hx').mono fun e u' hp => ⟨?_, hp.2⟩
          rcases hp.1 with ⟨h1, _⟩ | ⟨_, he⟩
          · exact absurd h1 hall
          · rw [he, rowC_nil]
        · refine (rtseek_any (rt.keep hu) hl xs a c hv hx').mono fun e u' hp => ⟨?_, hp.2⟩
          rcases hp.1 with ⟨h1, _⟩ | ⟨_, he⟩
          · exact absurd h1 hall
          · rw [he, rowC_nil]
theorem lv_nil (w : World) : Lv w (.slice none 0 0) [] := ⟨by simp, by simp, none, 0, rfl, fun i hi => absurd hi (by simp)⟩
theorem first_bad {P : Nat → Prop} : ∀ n, (∃ i, i < n ∧ ¬ P i) → ∃ k, k < n ∧ ¬ P k ∧ ∀ i, i < k → P i
  | 0, ⟨i, h, _⟩ => by omega
  | n + 1, ⟨i, h, hp⟩ => by
    by_cases h2 : ∃ i, i < n ∧ ¬ P i
    · obtain ⟨k, h3, h4, h5⟩ := first_bad n h2
      exact ⟨k, by omega, h4, h5⟩
    · have hin : i = n := by
        apply Classical.byContradiction
        intro hne
        exact h2 ⟨i, by omega, hp⟩
      subst hin
      exact ⟨i, by omega, hp, fun j hj => Classical.byContradiction fun hc => h2 ⟨j, hj, hc⟩⟩
/-- Tuple of both sides tells the same -/
theorem pa_tuple (h : Pa w pT pR mo mb vs vs E) (hl : vs.length ≤ 1000000000) (C : Array Value) (hCs : C.size = 24) (ss : Nat → Int) (hC : ∀ i, i < 24 → C[i]? = some (.int .i32 (ss i))) (hss : ∀ i, i < 24 → -2147483648 ≤ ss i ∧ ss i ≤ 2147483647) (n : Int) : ∃ (xs : List V) (er : Int), xs.length ≤ 24 ∧
    (∀ u, Below w.heap.size w u → Calls Try.prog 27 #[pT, .agg C, .int .i64 n] u fun e u' => (∃ a c, e = .returned (.tuple #[.slice a xs.length c, .int .i64 er]) ∧ Lv u' (.slice a xs.length c) xs) ∧ Below u.heap.size u u') ∧
    ∀ u, Below w.heap.size w u → Calls Try.prog 28 #[pR, .agg C, .int .i64 n] u fun e u' => (∃ a c, e = .returned (.tuple #[.slice a xs.length c, .int .i64 er]) ∧ Lv u' (.slice a xs.length c) xs) ∧ Below u.heap.size u u' := by
  cases h with
  | nil =>
    exact ⟨[], 2, by simp, fun u hu => (tuple_no .nil C n).mono fun e u' hp => ⟨⟨none, 0, hp.1, lv_nil _⟩, hp.2⟩, fun u hu => (rtuple_nil C n).mono fun e u' hp => ⟨⟨none, 0, hp.1, lv_nil _⟩, hp.2⟩⟩
  | live tb rt dj =>
    by_cases hn : n < 0 ∨ 24 < n
    · exact ⟨[], 1, by simp, fun u hu => (tuple_out (tb.below hu) C n hn).mono fun e u' hp => ⟨⟨none, 0, hp.1, lv_nil _⟩, hp.2⟩, fun u hu => (rtuple_out (rt.keep hu) C n hn).mono fun e u' hp => ⟨⟨none, 0, hp.1, lv_nil _⟩, hp.2⟩⟩
    · obtain ⟨k, rfl⟩ : ∃ k : Nat, n = (k : Int) := ⟨n.toNat, by omega⟩
      have hk : k ≤ 24 := by omega
      by_cases hall : ∀ i, i < k → inT vs (ss i)
      · refine ⟨tupV vs ss k, 0, by rw [tupV_length]; exact hk, fun u hu => ?_, fun u hu => ?_⟩
        · have hcast : ∀ i, i < k → (((ss i).toNat : Nat) : Int) = ss i := fun i hi => Int.toNat_of_nonneg (hall i hi).1
          refine (tuple_ok (B := 0) ⟨_, _, tb.below hu, Nat.zero_le _, Nat.zero_le _, fun _ _ => Nat.zero_le _⟩ (by omega) C hCs k hk (fun i => (ss i).toNat) (fun i hi => by rw [hC i (by omega), hcast i hi]) (fun i hi => by have := (hall i hi).2; have := hcast i hi; omega)).mono fun e u' hp => ?_
          obtain ⟨bd, he, hb, hr, _⟩ := hp
          have hwf : ∀ i, i < k → (atV vs (ss i).toNat).wf := fun i hi => tb.wf _ (atV_mem (by have := (hall i hi).2; have := hcast i hi; omega))
          have hLv := rowV_lv (c := k) hr hk hwf
          refine ⟨⟨some ⟨bd, 0, none⟩, k, ?_, hLv⟩, hb⟩
          rw [he, tupV_length]
        · refine (rttuple_any (rt.keep hu) hl C hCs k hk ss hC hss).mono fun e u' hp => ⟨?_, hp.2⟩
          rcases hp.1 with ⟨_, o, he, ho⟩ | ⟨⟨i, hi, hb⟩, _⟩
          · have ho' : u'.ownsRow u.heap.size 39 3 o (tupV vs ss k).length ((tupV vs ss k).flatMap V.cells) := by rw [tupV_length]; exact ho
            obtain ⟨a, c, rfl, _⟩ := ownsRow_form ho'
            refine ⟨a, c, he, lv_of_row ho' (fun x hx => ?_)⟩
            obtain ⟨i, hi, rfl⟩ := List.mem_map.1 hx
            have hi' := List.mem_range.1 hi
            have h1 := (hall i hi').1
            have h2 := (hall i hi').2
            exact rt.wf _ (atV_mem (by omega))
          · exact absurd (hall i hi) hb
      · obtain ⟨k0, hk0, hbad, hgood⟩ := first_bad (P := fun i => inT vs (ss i)) k (Classical.byContradiction fun hc => hall fun i hi => Classical.byContradiction fun h2 => hc ⟨i, hi, h2⟩)
        refine ⟨[], 21, by simp, fun u hu => ?_, fun u hu => ?_⟩
        · have hcast : ∀ i, i < k0 → (((ss i).toNat : Nat) : Int) = ss i := fun i hi => Int.toNat_of_nonneg (hgood i hi).1
          refine (tuple_bad (B := 0) ⟨_, _, tb.below hu, Nat.zero_le _, Nat.zero_le _, fun _ _ => Nat.zero_le _⟩ (by omega) C hCs k k0 hk (fun i => (ss i).toNat) (ss k0) hk0 (fun i hi => by rw [hC i (by omega), hcast i hi]) (hC k0 (by omega)) (fun i hi => by have := (hgood i hi).2; have := hcast i hi; omega) (by unfold inT at hbad; omega) (hss k0 (by omega)).1 (hss k0 (by omega)).2).mono fun e u' hp => ⟨⟨none, 0, hp.1, lv_nil _⟩, hp.2⟩
        · refine (rttuple_any (rt.keep hu) hl C hCs k hk ss hC hss).mono fun e u' hp => ⟨?_, hp.2⟩
          rcases hp.1 with ⟨h1, _⟩ | ⟨_, he⟩
          · exact absurd h1 hall
          · exact ⟨none, 0, he, lv_nil _⟩
end
end Go.Proofs.Ythdcgikhcghigaa
