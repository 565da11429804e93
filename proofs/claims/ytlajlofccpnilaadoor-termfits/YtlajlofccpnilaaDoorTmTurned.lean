import Derived.Test.YtlajlofccpnilaaDoorTmSays
namespace Go.Proofs.YtlajlofccpnilaaDoor
open Go.RowKit Go.Maps
set_option linter.unusedVariables false
set_option linter.unusedSimpArgs false
attribute [local go_sem ↓] Go.wp_at_zero Go.wp_at_succ

theorem flat_put3 : ∀ (vs : List V) (k : Nat) (v : V), k < vs.length → (((vs.flatMap V.cells).set (k * 3) (.int .i8 v.k)).set (k * 3 + 1) (.int .i64 v.n)).set (k * 3 + 2) (.string v.s) = (vs.set k v).flatMap V.cells
  | [], k, v, h => absurd h (by simp)
  | y :: r, 0, v, _ => by simp [V.cells]
  | y :: r, k + 1, v, h => by
    have ih := flat_put3 r k v (by simpa using h)
    rw [List.set_cons_succ, List.flatMap_cons, List.flatMap_cons, ← ih]
    have e : (k + 1) * 3 = k * 3 + 1 + 1 + 1 := by omega
    rw [e]
    show (((([.int .i8 y.k, .int .i64 y.n, .string y.s] : List Value) ++ r.flatMap V.cells).set (k * 3 + 1 + 1 + 1) (.int .i8 v.k)).set (k * 3 + 1 + 1 + 1 + 1) (.int .i64 v.n)).set (k * 3 + 1 + 1 + 1 + 2) (.string v.s) = ([.int .i8 y.k, .int .i64 y.n, .string y.s] : List Value) ++ _
    simp only [List.cons_append, List.nil_append, List.set_cons_succ]
theorem flat_cell (vs : List V) {k : Nat} (h : k < vs.length) : (vs.flatMap V.cells)[k * 3]? = some (.int .i8 (atV vs k).k) ∧ (vs.flatMap V.cells)[k * 3 + 1]? = some (.int .i64 (atV vs k).n) ∧ (vs.flatMap V.cells)[k * 3 + 2]? = some (.string (atV vs k).s) :=
  ⟨flat_at V.cells 3 (fun _ => rfl) V0 vs k 0 h (by omega), flat_at V.cells 3 (fun _ => rfl) V0 vs k 1 h (by omega), flat_at V.cells 3 (fun _ => rfl) V0 vs k 2 h (by omega)⟩
/-- what turned keeps: the two boxes, the fact of its own, its row -/
structure TnS (w : World) (p : ByteArray) (n : Nat) (a : Option Addr) (c : Nat) (af : Option Addr) (cf bg b2 c2 : Nat) (vs : List V) (wc : World) : Prop where
  bel : Below w.heap.size w wc
  r0 : RL wc w.heap.size 24 [.string p, .slice a n c]
  r1 : RL wc (w.heap.size + 1) 28 [.string p, .slice af n cf]
  rg : RL wc bg 28 [.string p, .slice (some ⟨b2, 0, none⟩) n c2]
  own : wc.ownsRow (w.heap.size + 2) 39 3 (.slice (some ⟨b2, 0, none⟩) n c2) n (vs.flatMap V.cells)
  lo : w.heap.size + 2 ≤ bg ∧ w.heap.size + 2 ≤ b2
  ne : b2 ≠ bg
theorem TnS.next {w : World} {p : ByteArray} {n : Nat} {a : Option Addr} {c : Nat} {af : Option Addr} {cf bg b2 c2 : Nat} {vs : List V} {u v : World} (h : TnS w p n a c af cf bg b2 c2 vs u) (b : Below u.heap.size u v) : TnS w p n a c af cf bg b2 c2 vs v :=
  ⟨h.bel.trans (b.mono h.bel.size), h.r0.below b, h.r1.below b, h.rg.below b, own_below h.own b, h.lo, h.ne⟩
theorem TnS.put {w : World} {p : ByteArray} {n : Nat} {a : Option Addr} {c : Nat} {af : Option Addr} {cf bg b2 c2 : Nat} {vs : List V} {u : World} (h : TnS w p n a c af cf bg b2 c2 vs u) (hn : vs.length = n) {k : Nat} (hk : k < n) (v : V) :
    TnS w p n a c af cf bg b2 c2 (vs.set k v) (((u.setCell ⟨b2, k * 3, none⟩ (.int .i8 v.k)).setCell ⟨b2, k * 3 + 1, none⟩ (.int .i64 v.n)).setCell ⟨b2, k * 3 + 2, none⟩ (.string v.s)) := by
  have h1 := h.lo
  have hfl := flat_len V.cells 3 (fun _ => rfl) vs
  refine ⟨((h.bel.setCell (p := ⟨b2, k * 3, none⟩) (by show _ ≤ b2; omega) _).setCell (p := ⟨b2, k * 3 + 1, none⟩) (by show _ ≤ b2; omega) _).setCell (p := ⟨b2, k * 3 + 2, none⟩) (by show _ ≤ b2; omega) _, ((h.r0.other (by omega) _).other (by omega) _).other (by omega) _, ((h.r1.other (by omega) _).other (by omega) _).other (by omega) _, ((h.rg.other (Ne.symm h.ne) _).other (Ne.symm h.ne) _).other (Ne.symm h.ne) _, ?_, h1, h.ne⟩
  rw [← flat_put3 vs k v (by omega)]
  exact own_set (own_set (own_set h.own (by omega) _) (by simp only [List.length_set]; omega) _) (by simp only [List.length_set]; omega) _
theorem own_some {w : World} {b n : Nat} {v : Value} {xs : List Value} (h : w.ownsRow b 39 3 v n xs) (hn : 0 < n) : ∃ b2 c2, v = .slice (some ⟨b2, 0, none⟩) n c2 ∧ b ≤ b2 := by
  obtain ⟨_, ⟨_, h2⟩ | ⟨g, cap, cur, hv, h0, _⟩⟩ := h
  · omega
  · exact ⟨g, cap, hv, h0⟩
theorem own_lt {w : World} {b n g cap : Nat} {xs : List Value} (h : w.ownsRow b 39 3 (.slice (some ⟨g, 0, none⟩) n cap) n xs) : g < w.heap.size := (h.lt g rfl).2
theorem TnS.lv {w : World} {p : ByteArray} {n : Nat} {a : Option Addr} {c : Nat} {af : Option Addr} {cf bg b2 c2 : Nat} {vs : List V} {u : World} (h : TnS w p n a c af cf bg b2 c2 vs u) (hn : vs.length = n) (hwf : ∀ v ∈ vs, v.wf) : Lv u (.slice (some ⟨b2, 0, none⟩) n c2) vs := by
  refine ⟨?_, hwf⟩
  rw [hn]
  exact ls_own h.own
def V41 : V := ⟨1, 41, noS⟩
def V42 : V := ⟨1, 42, noS⟩
theorem v41_wf : V41.wf := ⟨by decide, by decide, by decide⟩
theorem v42_wf : V42.wf := ⟨by decide, by decide, by decide⟩
theorem set_wf {vs : List V} (h : ∀ v ∈ vs, v.wf) {k : Nat} {x : V} (hx : x.wf) : ∀ v ∈ vs.set k x, v.wf := fun v hv => by
  rcases List.mem_or_eq_of_mem_set hv with h1 | h1
  · exact h v h1
  · rw [h1]; exact hx
theorem eqVt {x y : V} (h : x = y) (w : World) : (binOp .eql 39 (.agg #[.int .i8 x.k, .int .i64 x.n, .string x.s]) (.agg #[.int .i8 y.k, .int .i64 y.n, .string y.s])).run Tryd.prog w = .ok (.bool true) w := by
  subst h
  go_simp
theorem eqVf {x y : V} (h : ¬ x = y) (w : World) : (binOp .eql 39 (.agg #[.int .i8 x.k, .int .i64 x.n, .string x.s]) (.agg #[.int .i8 y.k, .int .i64 y.n, .string y.s])).run Tryd.prog w = .ok (.bool false) w := by
  obtain ⟨k1, n1, s1⟩ := x
  obtain ⟨k2, n2, s2⟩ := y
  dsimp only
  by_cases hk : k1 = k2
  · by_cases hn : n1 = n2
    · by_cases hs : s1.toList = s2.toList
      · have := toList_inj hs
        subst hk hn this
        exact absurd rfl h
      · clear h
        go_simp
    · clear h
      go_simp
  · clear h
    go_simp
set_option maxHeartbeats 25600000 in
set_option maxRecDepth 100000 in
theorem turned_any (p : ByteArray) (a af : Option Addr) (c cf : Nat) (ts : List T) (l : List B) (k : Nat) (w : World) (hp : p.size ≤ maxLen) (hL : Lt w (.slice a ts.length c) ts) (hF : Lv w (.slice af ts.length cf) (gr l ts)) (hok : atomB p ts = true) (hk : k < ts.length) (hb : (atT ts k).v ≠ blankS) :
    Calls Tryd.prog 10 #[.agg #[.string p, .slice a ts.length c], .agg #[.string p, .slice af ts.length cf], .int .i64 k] w fun e w' => e = .returned (.bool true) ∧ Below w.heap.size w w' := by
  obtain ⟨i0, hi0, hz0, hz1, hz2⟩ := info_parts infoVal
  have h24 := atomB_len hok
  have HTm : Hid (∀ v, okV v = true → v ≠ grT l (atT ts k) → (mat [] ts ((gr l ts).set k v)).isSome = (!decide ((atT ts k).v = noS) && decide (cnt ts (atT ts k).v ts.length = 1))) := fun v h1 h2 => by
    unfold atomB at hok
    simp only [Bool.and_eq_true] at hok
    exact mat_turned l hok.2 hk hb h1 h2
  have HMa : Hid (∀ vs c2 (b2 : Nat) u, vs.length = ts.length → Below w.heap.size w u → Lv u (.slice (some ⟨b2, 0, none⟩) ts.length c2) vs → Calls Tryd.prog 7 #[.agg #[.string p, .slice a ts.length c], .agg #[.string p, .slice (some ⟨b2, 0, none⟩) ts.length c2]] u fun e w' => MatPost u.heap.size (mat [] ts vs) e w' ∧ Below u.heap.size u w') := fun vs c2 b2 u hn hu hv => match_yes p _ _ ts vs u hp (hL.below hu) hv hn.symm hok
  obtain ⟨ax, cx, ex, _, _, hLk⟩ := hL.form
  injection ex with ex1 ex2 ex3
  subst ex1 ex3
  obtain ⟨ga, oa, rfl, hga, hLx⟩ := hLk (by omega)
  have HX : Hid (∀ j, j < ts.length → ∀ u, Below w.heap.size w u → u.cell? ⟨ga, oa + j * 4, none⟩ = some (.string (atT ts j).v)) := fun j hj u hu => ((hLx j hj).below hu hga).c0
  clear hLk hLx hga ex2
  have HWf : Hid (∀ v ∈ gr l ts, v.wf) := hF.wf
  have hgl := gr_len l ts
  obtain ⟨a', c', e, _, _, hFk⟩ := hF.lies.2
  injection e with e1 e2 e3
  subst e1 e3
  clear e2
  obtain ⟨gf, of, rfl, hgf, hflat⟩ := hFk (by rw [gr_len]; omega)
  have HFl : Hid (∀ u, Below w.heap.size w u → Flat u gf of ((gr l ts).flatMap V.cells)) := fun u hu i hi => by
    rw [hu.cell (p := ⟨gf, of + i, none⟩) hgf]
    exact hflat i hi
  have HGk : Hid (atV (gr l ts) k = grT l (atT ts k)) := atV_gr l ts hk
  have HFk : Hid (∀ u, Below w.heap.size w u → VAt u gf (of + k * 3) (atV (gr l ts) k)) := fun u hu => by
    have hf := HFl.out u hu
    obtain ⟨d0, d1, d2⟩ := flat_cell (gr l ts) (k := k) (by rw [gr_len]; exact hk)
    have gt : ∀ {i : Nat} {x : Value}, ((gr l ts).flatMap V.cells)[i]? = some x → u.cell? ⟨gf, of + i, none⟩ = some x := fun {i x} h => by
      obtain ⟨h1, h2⟩ := List.getElem?_eq_some_iff.1 h
      rw [hf i h1, h2]
    exact ⟨gt d0, by rw [Nat.add_assoc]; exact gt d1, by rw [Nat.add_assoc]; exact gt d2⟩
  have hfl := flat_len V.cells 3 (fun _ => rfl) (gr l ts)
  rw [hgl] at hfl
  generalize hgs : gr l ts = gs at HTm HWf hgl HFl HGk HFk hfl
  generalize hn : ts.length = n at *
  have hk' : (k : Int) < (n : Int) := by omega
  have hk0 : (0 : Int) ≤ (k : Int) := by omega
  have HW2 : Hid (Below w.heap.size w ((w.alloc (.cells #[.string p, .slice (some ⟨ga, oa, none⟩) n c] 24)).alloc (.cells #[.string p, .slice (some ⟨gf, of, none⟩) n cf] 28)) ∧ RL ((w.alloc (.cells #[.string p, .slice (some ⟨ga, oa, none⟩) n c] 24)).alloc (.cells #[.string p, .slice (some ⟨gf, of, none⟩) n cf] 28)) w.heap.size 24 [.string p, .slice (some ⟨ga, oa, none⟩) n c] ∧ RL ((w.alloc (.cells #[.string p, .slice (some ⟨ga, oa, none⟩) n c] 24)).alloc (.cells #[.string p, .slice (some ⟨gf, of, none⟩) n cf] 28)) (w.heap.size + 1) 28 [.string p, .slice (some ⟨gf, of, none⟩) n cf] ∧ (((w.alloc (.cells #[.string p, .slice (some ⟨ga, oa, none⟩) n c] 24)).alloc (.cells #[.string p, .slice (some ⟨gf, of, none⟩) n cf] 28))).heap.size = w.heap.size + 2) := by
    have r0 := rl_new w #[.string p, .slice (some ⟨ga, oa, none⟩) n c] 24
    have r1 := rl_new (w.alloc (.cells #[.string p, .slice (some ⟨ga, oa, none⟩) n c] 24)) #[.string p, .slice (some ⟨gf, of, none⟩) n cf] 28
    rw [World.size_alloc] at r1
    have B1 : Below w.heap.size w (w.alloc (.cells #[.string p, .slice (some ⟨ga, oa, none⟩) n c] 24)) := (Below.refl _ _).alloc (Nat.le_refl _) _
    exact ⟨B1.alloc B1.size _, r0.below ((Below.refl _ _).alloc (Nat.le_refl _) _), r1, by simp⟩
  clear hp hL hF hok hflat hgf hFk hgs hn hb
  go_enter Tryd.func10, Tryd.ntmps10
  go_upto_region 1 with fail
  generalize ((w.alloc (.cells #[.string p, .slice (some ⟨ga, oa, none⟩) n c] 24)).alloc (.cells #[.string p, .slice (some ⟨gf, of, none⟩) n cf] 28)) = W at HW2 ⊢
  have HSZ : Hid (W.heap.size = w.heap.size + 2) := HW2.out.2.2.2
  have q0 := HW2.out.2.2.1.at (j := 0) rfl
  have q1 := HW2.out.2.2.1.at (j := 1) rfl
  have q0z := (HW2.out.2.2.1.below ((Below.refl W.heap.size W).alloc (Nat.le_refl _) (.cells #[.string ⟨#[]⟩, .slice none 0 0] 28))).at (j := 0) rfl
  have q1z := (HW2.out.2.2.1.below ((Below.refl W.heap.size W).alloc (Nat.le_refl _) (.cells #[.string ⟨#[]⟩, .slice none 0 0] 28))).at (j := 1) rfl
  go_cut [7] from 12 to 17 (fun p7 wc => ∃ bg b2 c2, p7 = .pointer (some ⟨bg, 0, none⟩) ∧ Hid (TnS w p n (some ⟨ga, oa, none⟩) c (some ⟨gf, of, none⟩) cf bg b2 c2 gs wc))
  case first =>
    have HC1 : Hid (∀ (j : Nat) (u : Value), (gs.flatMap V.cells)[j]? = some u → W.drew.cell? ((⟨gf, of, none⟩ : Addr).add j) = some u) := fun j u hj => by
      obtain ⟨h1, h2⟩ := List.getElem?_eq_some_iff.1 hj
      rw [show (⟨gf, of, none⟩ : Addr).add j = ⟨gf, of + j, none⟩ by simp [Addr.add], HFl.out W.drew HW2.out.1.drew j h1, h2]
    have HC2 : Hid (∀ (j : Nat) (u : Value), (gs.flatMap V.cells)[j]? = some u → (W.drew.alloc (.cells #[.string ⟨#[]⟩, .slice none 0 0] 28)).cell? ((⟨gf, of, none⟩ : Addr).add j) = some u) := fun j u hj => by
      obtain ⟨h1, h2⟩ := List.getElem?_eq_some_iff.1 hj
      rw [show (⟨gf, of, none⟩ : Addr).add j = ⟨gf, of + j, none⟩ by simp [Addr.add], HFl.out (W.drew.alloc (.cells #[.string ⟨#[]⟩, .slice none 0 0] 28)) (HW2.out.1.drew.alloc HW2.out.1.size _) j h1, h2]
    have H1c : Hid (∀ u ∈ gs.flatMap V.cells, u.oneCell' = true) := fun u hu => by
      obtain ⟨v, _, hv⟩ := List.mem_flatMap.1 hu
      simp only [V.cells, List.mem_cons, List.not_mem_nil, or_false] at hv
      rcases hv with rfl | rfl | rfl <;> rfl
    go_region_law (first
      | (refine step_append_own rfl (.const (.slice none 0 0)) (.tmp 15) 26 rfl 39 i0 _ 3 32 Tryd.underlying26 hi0 hz0 hz1 hz2 rfl (by decide) (w.heap.size + 2) (.slice none 0 0) 0 [] (w := W.drew) (by simp [Act.eval, Act.put]) (World.ownsRow_nil _ _ _ _) ⟨gf, of, none⟩ n cf (gs.flatMap V.cells) (by simp [Act.eval, Act.put]) hfl HC1.out H1c.out (by unfold maxLen; omega) (by omega) (by have := HSZ.out; show _ ≤ W.heap.size; omega) ?_
         intro v' w3 hown' hgrow hloc
         rw [Nat.zero_add, List.nil_append] at hown'
         have B3 : Below W.heap.size W w3 := (Below.refl _ _).drew.grown hgrow (Nat.le_refl _) (fun j hj => by cases hj)
         obtain ⟨b2, c2, rfl, hb2⟩ := own_some hown' (by omega)
         have EB : Hid (b2 = W.heap.size) := by
           rcases hloc with h | h
           · cases h
           · injection h
         have HFin : Hid (TnS w p n (some ⟨ga, oa, none⟩) c (some ⟨gf, of, none⟩) cf w3.heap.size b2 c2 gs (w3.alloc (.cells #[.string p, .slice (some ⟨b2, 0, none⟩) n c2] 28))) := by
           have hal : Below w3.heap.size w3 (w3.alloc (.cells #[.string p, .slice (some ⟨b2, 0, none⟩) n c2] 28)) := (Below.refl _ _).alloc (Nat.le_refl _) _
           have B4 := B3.trans (hal.mono B3.size)
           have hs3 := B3.size
           have hlt := own_lt hown'
           have hsz := HSZ.out
           have eb := EB.out
           exact ⟨HW2.out.1.trans (B4.mono HW2.out.1.size), HW2.out.2.1.below B4, HW2.out.2.2.1.below B4, rl_new w3 #[.string p, .slice (some ⟨b2, 0, none⟩) n c2] 28, own_below hown' hal, ⟨by omega, by omega⟩, by omega⟩
         have u0 := (HW2.out.2.2.1.below B3).at (j := 0) rfl
         have u0z := (HW2.out.2.2.1.below (B3.trans (((Below.refl w3.heap.size w3).alloc (Nat.le_refl _) (.cells #[.string ⟨#[]⟩, .slice none 0 0] 28)).mono B3.size))).at (j := 0) rfl
         clear hown' hgrow hloc)
      | (refine step_append_own rfl (.const (.slice none 0 0)) (.tmp 15) 26 rfl 39 i0 _ 3 32 Tryd.underlying26 hi0 hz0 hz1 hz2 rfl (by decide) (w.heap.size + 2) (.slice none 0 0) 0 [] (w := W.drew.alloc (.cells #[.string ⟨#[]⟩, .slice none 0 0] 28)) (by simp [Act.eval, Act.put]) (World.ownsRow_nil _ _ _ _) ⟨gf, of, none⟩ n cf (gs.flatMap V.cells) (by simp [Act.eval, Act.put]) hfl HC2.out H1c.out (by unfold maxLen; omega) (by omega) (by have := HSZ.out; simp; omega) ?_
         intro v' w3 hown' hgrow hloc
         rw [Nat.zero_add, List.nil_append] at hown'
         have hal : Below W.heap.size W (W.drew.alloc (.cells #[.string ⟨#[]⟩, .slice none 0 0] 28)) := (Below.refl _ _).drew.alloc (Nat.le_refl _) _
         have B3 : Below W.heap.size W w3 := hal.grown hgrow hal.size (fun j hj => by cases hj)
         obtain ⟨b2, c2, rfl, hb2⟩ := own_some hown' (by omega)
         have EB : Hid (b2 = W.heap.size + 1) := by
           rcases hloc with h | h
           · cases h
           · injection h with h
             have h : b2 = _ := h
             show b2 = _
             rw [h]
             simp
         have rz : RL w3 W.heap.size 28 [.string ⟨#[]⟩, .slice none 0 0] := World.rowIs.of_block (rl_new W.drew #[.string ⟨#[]⟩, .slice none 0 0] 28) (hgrow.block _ (by simp) (fun h => by cases h))
         have s0 := rz.at (j := 0) rfl
         have s1 := rz.at (j := 1) rfl
         have s0f := World.rowIs.frozen rz 0
         have s1f := World.rowIs.frozen rz 1
         have HFin : Hid (TnS w p n (some ⟨ga, oa, none⟩) c (some ⟨gf, of, none⟩) cf W.heap.size b2 c2 gs ((w3.setCell ⟨W.heap.size, 0, none⟩ (.string p)).setCell ⟨W.heap.size, 1, none⟩ (.slice (some ⟨b2, 0, none⟩) n c2))) := by
           have r0 := HW2.out.2.1.below B3
           have r1 := HW2.out.2.2.1.below B3
           have hsz := HSZ.out
           have eb := EB.out
           refine ⟨((HW2.out.1.trans (B3.mono HW2.out.1.size)).setCell (p := ⟨W.heap.size, 0, none⟩) (by show _ ≤ W.heap.size; omega) _).setCell (p := ⟨W.heap.size, 1, none⟩) (by show _ ≤ W.heap.size; omega) _, (r0.other (by omega) _).other (by omega) _, (r1.other (by omega) _).other (by omega) _, (rz.set 0 _).set 1 _, own_of_block hown' (fun g hg => ?_), ⟨by omega, by omega⟩, by omega⟩
           injection hg with hg
           have hg : b2 = g := hg
           rw [heap_setCell_other _ _ _ _ (by show g ≠ W.heap.size; omega), heap_setCell_other _ _ _ _ (by show g ≠ W.heap.size; omega)]
         have u0 := (HW2.out.2.2.1.below B3).at (j := 0) rfl
         clear hown' hgrow hloc rz))
    all_goals
      go_wp2_with fail
      go_meet
      case rel => exact ⟨_, _, _, rfl, HFin⟩
  case rest =>
    obtain ⟨bg, b2, c2, rfl, HT0⟩ := hcut
    clear HW2 q0 q1 q0z q1z HSZ HFl hfl
    have q1 := HT0.out.r0.at (j := 1) rfl
    obtain ⟨nk, hnk⟩ : ∃ nk, (atT ts k).v = nk := ⟨_, rfl⟩
    have HNK : Hid ((atT ts k).v = nk) := hnk
    clear hnk
    go_wp2
    clear q1
    go_loopw [8, 9] (fun t i wr => ∃ j : Nat, j ≤ n ∧ i = .int .i64 j ∧ t = .int .i64 (cnt ts (atT ts k).v j : Nat) ∧ Below wc.heap.size wc wr) (fun _ i _ => n - (intOf i).toNat)
    case atStart => exact ⟨0, Nat.zero_le _, rfl, rfl, Below.refl _ _⟩
    case round =>
      obtain ⟨j, hj, rfl, rfl, bel⟩ := hrel
      have HTr : Hid (TnS w p n (some ⟨ga, oa, none⟩) c (some ⟨gf, of, none⟩) cf bg b2 c2 gs wr) := HT0.out.next bel
      have q1 := HTr.out.r0.at (j := 1) rfl
      have hcl := cnt_le ts (atT ts k).v j
      by_cases hlt : j < n
      · have hlt' : (j : Int) < (n : Int) := by omega
        have hj0 : (0 : Int) ≤ (j : Int) := by omega
        have c0 := HX.out j hlt wr HTr.out.bel
        have c1 := HX.out k hk wr HTr.out.bel
        have HCn : Hid (cnt ts (atT ts k).v (j + 1) = cnt ts (atT ts k).v j + (if (atT ts j).v = (atT ts k).v then 1 else 0)) := rfl
        obtain ⟨cj, hcj⟩ : ∃ cj, cnt ts (atT ts k).v j = cj := ⟨_, rfl⟩
        rw [hcj] at HCn hcl ⊢
        obtain ⟨xj, hxj⟩ : ∃ xj, (atT ts j).v = xj := ⟨_, rfl⟩
        rw [hxj] at HCn c0
        have c1' : wr.cell? ⟨ga, oa + k * 4, none⟩ = some (.string nk) := by rw [c1, HNK.out]
        have HCn2 : Hid (cnt ts (atT ts k).v (j + 1) = cj + (if xj = nk then 1 else 0)) := by show _ = _; rw [HCn.out, HNK.out]
        clear hcj hxj HCn c1
        by_cases e : xj = nk
        · have e1 : (xj.toList == nk.toList) = true := by rw [e]; simp
          rw [if_pos e] at HCn2
          clear e
          go_wp2_with fail
          go_quiet (fail)
          go_wp2
          go_roundw
          case rel => exact ⟨j + 1, by omega, by go_num, by rw [HCn2.out]; go_num, below_drewN bel _⟩
          case measure => simp [intOf]; omega
        · have e1 : (xj.toList == nk.toList) = false := by
            rw [beq_eq_false_iff_ne]
            exact fun h => e (toList_inj h)
          rw [if_neg e] at HCn2
          clear e
          go_wp2_with fail
          go_quiet (fail)
          go_wp2
          go_roundw
          case rel => exact ⟨j + 1, by omega, by go_num, by rw [HCn2.out]; rfl, below_drewN bel _⟩
          case measure => simp [intOf]; omega
      · obtain rfl : n = j := by omega
        go_upto_region 8 with fail
        go_cut [7] from 40 to 44 (fun p7 wd => p7 = .pointer (some ⟨bg, 0, none⟩) ∧ Hid (TnS w p n (some ⟨ga, oa, none⟩) c (some ⟨gf, of, none⟩) cf bg b2 c2 (gs.set k V41) wd))
        case first =>
          have z1r := HTr.out.rg.at (j := 1) rfl
          go_region_law (
            refine step_call rfl 15 Tryd.func15 (by kernel_rfl) (by kernel_rfl) #[.const (.int .i64 41)] _ rfl #[.int .i64 41] (by simp [Act.eval, Act.put]) (Num_any 41 _) ?_
            rintro ee wa ⟨rfl, ba⟩
            refine ⟨_, rfl, ?_⟩
            have HSa : Hid (TnS w p n (some ⟨ga, oa, none⟩) c (some ⟨gf, of, none⟩) cf bg b2 c2 gs wa) := by first | exact (HTr.out.next (Below.refl _ _).drew).next ba | exact HTr.out.next ba
            have z1 := HSa.out.rg.at (j := 1) rfl
            obtain ⟨d0, d1, d2⟩ := flat_cell gs (k := k) (by first | omega | (simp only [List.length_set]; omega))
            obtain ⟨u6, g6, _⟩ := own_cell HSa.out.own d0
            obtain ⟨u7, g7, _⟩ := own_cell HSa.out.own d1
            obtain ⟨u8, g8, _⟩ := own_cell HSa.out.own d2
            clear ba d0 d1 d2)
          all_goals
            go_wp2_with fail
            go_meet
            case rel => exact ⟨rfl, HSa.out.put (by first | exact hgl | (simp only [List.length_set]; exact hgl)) hk V41⟩
        case rest =>
          obtain ⟨rfl, HS1⟩ := hcut
          clear HTr q1 bel HT0
          obtain ⟨v0, v1, v2⟩ := HFk.out wc HS1.out.bel
          obtain ⟨d0, d1, d2⟩ := flat_cell (gs.set k V41) (k := k) (by rw [List.length_set]; omega)
          rw [atV_set (by omega : k < gs.length), if_pos rfl] at d0 d1 d2
          obtain ⟨u6, _, _⟩ := own_cell HS1.out.own d0
          obtain ⟨u7, _, _⟩ := own_cell HS1.out.own d1
          obtain ⟨u8, _, _⟩ := own_cell HS1.out.own d2
          have p1 := HS1.out.r1.at (j := 1) rfl
          have p2 := HS1.out.rg.at (j := 1) rfl
          clear d0 d1 d2
          by_cases ev : atV gs k = V41
          · have HE : Hid (atV gs k = V41) := ev
            have hQ := eqVt ev
            clear ev
            generalize atV gs k = z at v0 v1 v2 hQ HE HGk
            go_wp2_with fail
            go_quiet (fail)
            have HS2 : Hid (TnS w p n (some ⟨ga, oa, none⟩) c (some ⟨gf, of, none⟩) cf bg b2 c2 (gs.set k V41) (wc.drewN nq)) := HS1.out.next (below_drewN (Below.refl _ _) _)
            generalize wc.drewN nq = we at HS2 ⊢
            clear HS1 v0 v1 v2 u6 u7 u8 p1 p2 hQ
            go_upto_region 10 with fail
            go_cut [7] from 56 to 60 (fun p7 wf => p7 = .pointer (some ⟨bg, 0, none⟩) ∧ Hid (TnS w p n (some ⟨ga, oa, none⟩) c (some ⟨gf, of, none⟩) cf bg b2 c2 ((gs.set k V41).set k V42) wf))
            case first =>
              have z1r := HS2.out.rg.at (j := 1) rfl
              go_region_law (
                refine step_call rfl 15 Tryd.func15 (by kernel_rfl) (by kernel_rfl) #[.const (.int .i64 42)] _ rfl #[.int .i64 42] (by simp [Act.eval, Act.put]) (Num_any 42 _) ?_
                rintro ee wa ⟨rfl, ba⟩
                refine ⟨_, rfl, ?_⟩
                have HSa : Hid (TnS w p n (some ⟨ga, oa, none⟩) c (some ⟨gf, of, none⟩) cf bg b2 c2 (gs.set k V41) wa) := by first | exact (HS2.out.next (Below.refl _ _).drew).next ba | exact HS2.out.next ba
                have z1 := HSa.out.rg.at (j := 1) rfl
                obtain ⟨d0, d1, d2⟩ := flat_cell (gs.set k V41) (k := k) (by first | omega | (simp only [List.length_set]; omega))
                obtain ⟨u6, g6, _⟩ := own_cell HSa.out.own d0
                obtain ⟨u7, g7, _⟩ := own_cell HSa.out.own d1
                obtain ⟨u8, g8, _⟩ := own_cell HSa.out.own d2
                clear ba d0 d1 d2)
              all_goals
                go_wp2_with fail
                go_meet
                case rel => exact ⟨rfl, HSa.out.put (by first | exact hgl | (simp only [List.length_set]; exact hgl)) hk V42⟩
            case rest =>
              obtain ⟨rfl, HS3'⟩ := hcut
              have HS3 : Hid (TnS w p n (some ⟨ga, oa, none⟩) c (some ⟨gf, of, none⟩) cf bg b2 c2 (gs.set k V42) wc) := by
                have := HS3'.out
                rw [List.set_set] at this
                exact this
              clear HS2 HS3'
              have x0 := HS3.out.r0.at (j := 0) rfl
              have x1 := HS3.out.r0.at (j := 1) rfl
              have y0 := HS3.out.rg.at (j := 0) rfl
              have y1 := HS3.out.rg.at (j := 1) rfl
              have HMe : Hid _ := HMa.out (gs.set k V42) c2 b2 wc (by rw [List.length_set]; exact hgl) HS3.out.bel (HS3.out.lv (by rw [List.length_set]; exact hgl) (set_wf HWf.out v42_wf))
              have HIs : Hid _ := HTm.out V42 (by decide +kernel) (fun h => absurd (HE.out.symm.trans (HGk.out.trans h.symm)) (by decide))
              go_wp2_with fail
              refine Calls.mono HMe.out ?_
              rintro ee wm ⟨⟨sv, rfl, _, _⟩, bm⟩
              rw [HIs.out]
              have HSm : Hid (TnS w p n (some ⟨ga, oa, none⟩) c (some ⟨gf, of, none⟩) cf bg b2 c2 (gs.set k V42) wm) := HS3.out.next bm
              clear bm HMe HIs x0 x1 y0 y1 HMa HTm HWf
              have x1 := HSm.out.r0.at (j := 1) rfl
              have n0 := HX.out k hk wm HSm.out.bel
              have HBm : Hid (Below w.heap.size w wm) := HSm.out.bel
              clear HSm HX
              generalize cnt ts (atT ts k).v n = cc
              generalize (atT ts k).v = nm at n0
              by_cases hnm : nm = noS
              · have f0 : nm.toList.isEmpty = true := by rw [hnm, noS_list]; rfl
                have f1 : nm.toList = [] := by rw [hnm]; exact noS_list
                simp only [decide_eq_true hnm, Bool.not_true, Bool.false_and]
                clear hnm
                go_wp2
                go_ret
                exact ⟨rfl, HBm.out⟩
              · have f0 := empty_not hnm
                simp only [decide_eq_false hnm, Bool.not_false, Bool.true_and]
                clear hnm
                by_cases h1 : cc = 1
                · subst h1
                  simp only [decide_true]
                  go_wp2
                  go_ret
                  exact ⟨rfl, HBm.out⟩
                · have e1 : ((cc : Int) == 1) = false := by rw [beq_eq_false_iff_ne]; omega
                  simp only [decide_eq_false h1]
                  clear h1
                  go_wp2
                  go_ret
                  exact ⟨rfl, HBm.out⟩

          · have HE : Hid (¬ atV gs k = V41) := ev
            have hQ := eqVf ev
            clear ev
            generalize atV gs k = z at v0 v1 v2 hQ HE HGk
            go_wp2_with fail
            go_quiet (fail)
            have HS2 : Hid (TnS w p n (some ⟨ga, oa, none⟩) c (some ⟨gf, of, none⟩) cf bg b2 c2 (gs.set k V41) (wc.drewN nq)) := HS1.out.next (below_drewN (Below.refl _ _) _)
            generalize wc.drewN nq = we at HS2 ⊢
            clear HS1 v0 v1 v2 u6 u7 u8 p1 p2 hQ
            have x0 := HS2.out.r0.at (j := 0) rfl
            have x1 := HS2.out.r0.at (j := 1) rfl
            have y0 := HS2.out.rg.at (j := 0) rfl
            have y1 := HS2.out.rg.at (j := 1) rfl
            have HMe : Hid _ := HMa.out (gs.set k V41) c2 b2 we (by rw [List.length_set]; exact hgl) HS2.out.bel (HS2.out.lv (by rw [List.length_set]; exact hgl) (set_wf HWf.out v41_wf))
            have HIs : Hid _ := HTm.out V41 (by decide +kernel) (fun h => HE.out (by rw [HGk.out, h]))
            go_wp2_with fail
            refine Calls.mono HMe.out ?_
            rintro ee wm ⟨⟨sv, rfl, _, _⟩, bm⟩
            rw [HIs.out]
            have HSm : Hid (TnS w p n (some ⟨ga, oa, none⟩) c (some ⟨gf, of, none⟩) cf bg b2 c2 (gs.set k V41) wm) := HS2.out.next bm
            clear bm HMe HIs x0 x1 y0 y1 HMa HTm HWf
            have x1 := HSm.out.r0.at (j := 1) rfl
            have n0 := HX.out k hk wm HSm.out.bel
            have HBm : Hid (Below w.heap.size w wm) := HSm.out.bel
            clear HSm HX
            generalize cnt ts (atT ts k).v n = cc
            generalize (atT ts k).v = nm at n0
            by_cases hnm : nm = noS
            · have f0 : nm.toList.isEmpty = true := by rw [hnm, noS_list]; rfl
              have f1 : nm.toList = [] := by rw [hnm]; exact noS_list
              simp only [decide_eq_true hnm, Bool.not_true, Bool.false_and]
              clear hnm
              go_wp2
              go_ret
              exact ⟨rfl, HBm.out⟩
            · have f0 := empty_not hnm
              simp only [decide_eq_false hnm, Bool.not_false, Bool.true_and]
              clear hnm
              by_cases h1 : cc = 1
              · subst h1
                simp only [decide_true]
                go_wp2
                go_ret
                exact ⟨rfl, HBm.out⟩
              · have e1 : ((cc : Int) == 1) = false := by rw [beq_eq_false_iff_ne]; omega
                simp only [decide_eq_false h1]
                clear h1
                go_wp2
                go_ret
                exact ⟨rfl, HBm.out⟩
end Go.Proofs.YtlajlofccpnilaaDoor
