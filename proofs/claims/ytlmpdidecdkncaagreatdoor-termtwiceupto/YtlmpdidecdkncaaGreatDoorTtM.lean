import Derived.Test.YtlmpdidecdkncaaGreatDoorG27
namespace Go.Proofs.YtlmpdidecdkncaaGreatDoor
open Go.RowKit Go.Maps
set_option linter.unusedVariables false
set_option linter.unusedSimpArgs false

/-- replacing by s, then by t, as one list -/
def twP (t : List P) (p : P) : P := ⟨p.v, putT t p.t⟩
def bothP (s t : List P) : List P := s.map (twP t) ++ t
theorem putT_both (s t : List P) (u : T) : putT t (putT s u) = putT (bothP s t) u := by
  by_cases h : u.v = noS ∨ u.v = blankS
  · have e1 : ∀ x : List P, putT x u = u := fun x => by unfold putT; rw [if_pos h]
    rw [e1 s, e1 t, e1 (bothP s t)]
  · have e1 : ∀ x : List P, putT x u = res x u := fun x => by unfold putT; rw [if_neg h]
    rw [e1 s, e1 (bothP s t)]
    unfold res bothP
    rw [List.find?_append, List.find?_map]
    have e2 : ((fun p : P => decide (p.v = u.v)) ∘ twP t) = (fun p : P => decide (p.v = u.v)) := rfl
    rw [e2]
    cases hf : s.find? (fun p : P => decide (p.v = u.v)) with
    | some p => rfl
    | none =>
      show putT t u = _
      rw [e1 t]
      unfold res
      rfl
def idleP (ns : List ByteArray) (s : List P) : List P := s.filter (fun p => !inB ns p.v)
theorem putT_idle (s : List P) (ts : List T) : ts.map (putT (idleP (vsT [] ts) s)) = ts := by
  conv => rhs; rw [← List.map_id ts]
  refine List.map_congr_left fun u hu => ?_
  show putT _ u = u
  unfold putT
  split
  · rfl
  · rename_i h
    have hn : u.v ∈ vsT [] ts := vsT_has ts [] u hu (fun e => h (.inl e)) (fun e => h (.inr e))
    unfold res
    have : (idleP (vsT [] ts) s).find? (fun p : P => decide (p.v = u.v)) = none := by
      rw [List.find?_eq_none]
      intro p hp
      have := (List.mem_filter.1 hp).2
      intro e
      have e := of_decide_eq_true e
      rw [e] at this
      have h2 : inB (vsT [] ts) u.v = true := by unfold inB; rw [List.any_eq_true]; exact ⟨u.v, hn, by simp⟩
      rw [h2] at this
      cases this
    rw [this]
theorem apD_comp (f g : T → T) : ∀ (d : Nat) (e : E), apD g d (apD f d e) = apD (fun t => g (f t)) d e
  | 0, e => rfl
  | d + 1, e => by
    rw [apD_succ, apD_succ, apD_succ]
    show E.mk e.op (g (f e.t)) ((e.kids.map (apD f d)).map (apD g d)) = _
    rw [List.map_map]
    congr 1
    refine List.map_congr_left fun x _ => ?_
    exact apD_comp f g d x
theorem apL_comp (f g : T → T) (d : Nat) (x : Lit4) : apL g d (apL f d x) = apL (fun t => g (f t)) d x := by
  unfold apL
  simp only [List.map_map, apD_comp]
  rfl
theorem apR_comp (f g : T → T) (d : Nat) (r : R3) : apR g d (apR f d r) = apR (fun t => g (f t)) d r := by
  unfold apR
  simp only [List.map_map, R3.mk.injEq, true_and]
  refine ⟨List.map_congr_left fun x _ => rfl, List.map_congr_left fun y _ => ?_⟩
  show (⟨apL g d (apL f d y.x), y.p⟩ : XL) = ⟨apL _ d y.x, y.p⟩
  rw [apL_comp]
theorem apR_both (s t : List P) (d : Nat) (r : R3) : apR (putT t) d (apR (putT s) d r) = apR (putT (bothP s t)) d r := by
  rw [apR_comp]
  congr 1
  funext u
  exact putT_both s t u
/-- one list behind the other -/
theorem twice_ok {s t : List P} {d : Nat} {r x : R3} (h : okR s d r = true) (hx : LikeR (resR s d r) x) : okR t d x = okR (bothP s t) d r ∧ LikeR (resR (bothP s t) d r) (resR t d x) := by
  have hr : resR s d r = apR (putT s) d r := by unfold resR; rw [h]; rfl
  rw [hr] at hx
  unfold okR at h
  rw [Bool.and_eq_true] at h
  have e1 : okR t d (apR (putT s) d r) = okR (bothP s t) d r := by
    unfold okR
    rw [apR_both, h.1, h.2]
  refine ⟨(hx.okR t d).trans e1, ?_⟩
  refine LikeR.trans ?_ (hx.resR t d)
  unfold resR
  rw [e1, apR_both]
  exact LikeR.refl _
theorem res_rule {t : List P} {d : Nat} {x y : R3} (h : okR t d x = true) (hy : LikeR (resR t d x) y) : ruleB d y = true := by
  rw [hy.ruleB d]
  unfold resR
  rw [h]
  unfold okR at h
  rw [Bool.and_eq_true] at h
  exact h.2
theorem res_none {s : List P} {d : Nat} {r x : R3} (h : okR s d r = false) (hx : LikeR (resR s d r) x) : x.pr = noS := by
  rw [hx.pr]
  unfold resR
  rw [h]
  rfl
theorem twP_snoc (t : List P) (s : List P) (k : Nat) (h : k < s.length) : (s.take (k + 1)).map (twP t) = (s.take k).map (twP t) ++ [twP t (atP s k)] := by
  rw [List.take_add_one, List.getElem?_eq_getElem h, List.map_append, show atP s k = s[k] by simp [atP, List.getD, h]]
  rfl
theorem idle_snoc (ns : List ByteArray) (s : List P) (k : Nat) (h : k < s.length) : idleP ns (s.take (k + 1)) = idleP ns (s.take k) ++ (if inB ns (atP s k).v then [] else [atP s k]) := by
  unfold idleP
  rw [List.take_add_one, List.getElem?_eq_getElem h, List.filter_append, show atP s k = s[k] by simp [atP, List.getD, h]]
  congr 1
  show List.filter _ [s[k]] = _
  cases hb : inB ns s[k].v <;> simp [hb]
theorem idle_len (ns : List ByteArray) (s : List P) : (idleP ns s).length ≤ s.length := List.length_filter_le _ _
theorem bothP_wf {s t : List P} (hs : ∀ p ∈ s, p.wf) (ht : ∀ p ∈ t, p.wf) : ∀ p ∈ bothP s t, p.wf := fun p hp => by
  rcases List.mem_append.1 hp with hp | hp
  · obtain ⟨x, hx, rfl⟩ := List.mem_map.1 hp
    exact ⟨(hs x hx).text, putT_wf ht (hs x hx).term⟩
  · exact ht p hp
/-- two rows of pairs that grow beside each other -/
structure TwS (W : World) (bs is : List P) (b1 : Option Addr) (c1 : Nat) (b2 : Option Addr) (c2 : Nat) (wr : World) : Prop where
  bel : Below W.heap.size W wr
  o1 : wr.ownsRow W.heap.size 52 5 (.slice b1 bs.length c1) bs.length (bs.flatMap P.cells)
  o2 : wr.ownsRow W.heap.size 52 5 (.slice b2 is.length c2) is.length (is.flatMap P.cells)
  dj : ∀ g, (Value.slice b1 bs.length c1).ownBlock = some g → (Value.slice b2 is.length c2).ownBlock ≠ some g
theorem TwS.keep {W : World} {bs is : List P} {b1 : Option Addr} {c1 : Nat} {b2 : Option Addr} {c2 : Nat} {wr w' : World} (h : TwS W bs is b1 c1 b2 c2 wr) (b : Below wr.heap.size wr w') : TwS W bs is b1 c1 b2 c2 w' :=
  ⟨h.bel.trans (b.mono h.bel.size), own_below h.o1 b, own_below h.o2 b, h.dj⟩
theorem TwS.push1 {W : World} {bs is : List P} {b1 : Option Addr} {c1 : Nat} {b2 : Option Addr} {c2 : Nat} {wr w3 : World} (h : TwS W bs is b1 c1 b2 c2 wr) (ps : List P) {v' : Value}
    (hown : w3.ownsRow W.heap.size 52 5 v' (bs.length + ps.length) (bs.flatMap P.cells ++ ps.flatMap P.cells)) (hgrow : wr.grownBy w3 (Value.slice b1 bs.length c1).ownBlock) (hloc : v'.ownBlock = (Value.slice b1 bs.length c1).ownBlock ∨ v'.ownBlock = some wr.heap.size) :
    ∃ a2 e2, v' = .slice a2 (bs.length + ps.length) e2 ∧ TwS W (bs ++ ps) is a2 e2 b2 c2 w3 := by
  obtain ⟨a2, e2, rfl, _⟩ := own_form hown
  have hl : (bs ++ ps).length = bs.length + ps.length := by simp
  refine ⟨a2, e2, rfl, ⟨?_, ?_, ?_, fun g hg => ?_⟩⟩
  · exact h.bel.grown hgrow h.bel.size (fun j hj => (h.o1.lt j hj).1)
  · rw [hl, List.flatMap_append]; exact hown
  · exact own_of_block h.o2 (fun g hg => hgrow.block g (h.o2.lt g hg).2 (fun e => h.dj g e.symm hg))
  · rw [hl] at hg
    rcases hloc with l | l
    · rw [l] at hg; exact h.dj g hg
    · rw [l] at hg
      intro e
      have := (h.o2.lt g e).2
      have := Option.some.inj hg
      omega
theorem TwS.push2 {W : World} {bs is : List P} {b1 : Option Addr} {c1 : Nat} {b2 : Option Addr} {c2 : Nat} {wr w3 : World} (h : TwS W bs is b1 c1 b2 c2 wr) (ps : List P) {v' : Value}
    (hown : w3.ownsRow W.heap.size 52 5 v' (is.length + ps.length) (is.flatMap P.cells ++ ps.flatMap P.cells)) (hgrow : wr.grownBy w3 (Value.slice b2 is.length c2).ownBlock) (hloc : v'.ownBlock = (Value.slice b2 is.length c2).ownBlock ∨ v'.ownBlock = some wr.heap.size) :
    ∃ a2 e2, v' = .slice a2 (is.length + ps.length) e2 ∧ TwS W bs (is ++ ps) b1 c1 a2 e2 w3 := by
  obtain ⟨a2, e2, rfl, _⟩ := own_form hown
  have hl : (is ++ ps).length = is.length + ps.length := by simp
  refine ⟨a2, e2, rfl, ⟨?_, ?_, ?_, fun g hg => ?_⟩⟩
  · exact h.bel.grown hgrow h.bel.size (fun j hj => (h.o2.lt j hj).1)
  · exact own_of_block h.o1 (fun g hg => hgrow.block g (h.o1.lt g hg).2 (fun e => h.dj g hg e.symm))
  · rw [hl, List.flatMap_append]; exact hown
  · rw [hl]
    rcases hloc with l | l
    · rw [l]; exact h.dj g hg
    · rw [l]
      intro e
      have := (h.o1.lt g hg).2
      have := Option.some.inj e
      omega
theorem TwS.push1o {W : World} {bs is : List P} {b1 : Option Addr} {c1 : Nat} {b2 : Option Addr} {c2 : Nat} {wr w3 : World} (h : TwS W bs is b1 c1 b2 c2 wr) (yv : ByteArray) (yt : T) {v' : Value}
    (hown : w3.ownsRow W.heap.size 52 5 v' (bs.length + 1) (bs.flatMap P.cells ++ [.string yv, .string yt.v, .int .i8 yt.a.k, .int .i64 yt.a.n, .string yt.a.s])) (hgrow : wr.grownBy w3 (Value.slice b1 bs.length c1).ownBlock) (hloc : v'.ownBlock = (Value.slice b1 bs.length c1).ownBlock ∨ v'.ownBlock = some wr.heap.size) :
    ∃ a2 e2, v' = .slice a2 (bs.length + 1) e2 ∧ TwS W (bs ++ [⟨yv, yt⟩]) is a2 e2 b2 c2 w3 := h.push1 [⟨yv, yt⟩] hown hgrow hloc
theorem TwS.push2o {W : World} {bs is : List P} {b1 : Option Addr} {c1 : Nat} {b2 : Option Addr} {c2 : Nat} {wr w3 : World} (h : TwS W bs is b1 c1 b2 c2 wr) (y : P) {v' : Value}
    (hown : w3.ownsRow W.heap.size 52 5 v' (is.length + 1) (is.flatMap P.cells ++ [.string y.v, .string y.t.v, .int .i8 y.t.a.k, .int .i64 y.t.a.n, .string y.t.a.s])) (hgrow : wr.grownBy w3 (Value.slice b2 is.length c2).ownBlock) (hloc : v'.ownBlock = (Value.slice b2 is.length c2).ownBlock ∨ v'.ownBlock = some wr.heap.size) :
    ∃ a2 e2, v' = .slice a2 (is.length + 1) e2 ∧ TwS W bs (is ++ [y]) b1 c1 a2 e2 w3 := h.push2 [y] hown hgrow hloc
theorem TwS.lp1 {W : World} {bs is : List P} {b1 : Option Addr} {c1 : Nat} {b2 : Option Addr} {c2 : Nat} {wr : World} (h : TwS W bs is b1 c1 b2 c2 wr) (hw : ∀ p ∈ bs, p.wf) : Lp wr (.slice b1 bs.length c1) bs := ⟨ls_own h.o1, hw⟩
theorem TwS.lp2 {W : World} {bs is : List P} {b1 : Option Addr} {c1 : Nat} {b2 : Option Addr} {c2 : Nat} {wr : World} (h : TwS W bs is b1 c1 b2 c2 wr) (hw : ∀ p ∈ is, p.wf) : Lp wr (.slice b2 is.length c2) is := ⟨ls_own h.o2, hw⟩
end Go.Proofs.YtlmpdidecdkncaaGreatDoor
