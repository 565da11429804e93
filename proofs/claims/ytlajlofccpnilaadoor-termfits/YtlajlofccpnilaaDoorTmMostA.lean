import Derived.Test.YtlajlofccpnilaaDoorTmLives
import Derived.Test.YtlajlofccpnilaaDoorTermUni
namespace Go.Proofs.YtlajlofccpnilaaDoor
open Go.RowKit Go.Maps
set_option linter.unusedVariables false
set_option linter.unusedSimpArgs false
attribute [local go_sem ↓] Go.wp_at_zero Go.wp_at_succ

/-- the tables -/
structure Gm (w : World) : Prop where
  tk : Tab w
  kt : KT w
theorem Gm.below {w w' : World} (h : Gm w) (b : Below w.heap.size w w') : Gm w' := ⟨h.tk.below b, h.kt.below b⟩
/-- the two boxes that the call lays -/
structure U2 (w : World) (pa pb : ByteArray) (na nb : Nat) (aa ab : Option Addr) (ca cb : Nat) (wc : World) : Prop where
  bel : Below w.heap.size w wc
  b0 : RL wc w.heap.size 24 [.string pa, .slice aa na ca]
  b1 : RL wc (w.heap.size + 1) 24 [.string pb, .slice ab nb cb]
theorem U2.next {w : World} {pa pb : ByteArray} {na nb : Nat} {aa ab : Option Addr} {ca cb : Nat} {u v : World} (h : U2 w pa pb na nb aa ab ca cb u) (b : Below u.heap.size u v) : U2 w pa pb na nb aa ab ca cb v :=
  ⟨h.bel.trans (b.mono h.bel.size), h.b0.below b, h.b1.below b⟩
theorem u2_new (w : World) (pa pb : ByteArray) (na nb : Nat) (aa ab : Option Addr) (ca cb : Nat) : U2 w pa pb na nb aa ab ca cb ((w.alloc (.cells #[.string pa, .slice aa na ca] 24)).alloc (.cells #[.string pb, .slice ab nb cb] 24)) := by
  have r0 := rl_new w #[.string pa, .slice aa na ca] 24
  have r1 := rl_new (w.alloc (.cells #[.string pa, .slice aa na ca] 24)) #[.string pb, .slice ab nb cb] 24
  rw [World.size_alloc] at r1
  have B1 : Below w.heap.size w (w.alloc (.cells #[.string pa, .slice aa na ca] 24)) := (Below.refl _ _).alloc (Nat.le_refl _) _
  exact ⟨B1.alloc B1.size _, r0.below ((Below.refl _ _).alloc (Nat.le_refl _) _), r1⟩
theorem gr_ev {l : List B} {t : T} (h : ¬ t.v = blankS) : grT l t = ev (isV l) t := by
  unfold grT ev
  by_cases e : t.v = noS
  · rw [if_pos e, if_pos e]
  · rw [if_neg e, if_neg h, if_neg e]
theorem atV_gr (l : List B) (ts : List T) {k : Nat} (h : k < ts.length) : atV (gr l ts) k = grT l (atT ts k) := by
  simp [atV, gr, List.getD, atT, h]
/-- columns that are one under the binds -/
def OneAt (l : List B) (la lb : List T) (j : Nat) : Prop := (atT la j).v = blankS ∨ (atT lb j).v = blankS ∨ grT l (atT la j) = grT l (atT lb j)
theorem most_of {l : List B} {la lb : List T} (hn : la.length = lb.length) (h : ∀ j, j < la.length → OneAt l la lb j) : ∃ s, uni [] la lb = some s ∧ Inv (isV l) s := by
  refine uni_most la lb [] (fun p hp => by simp at hp) (fun p hp => ?_)
  obtain ⟨j, hj, rfl⟩ := List.getElem_of_mem hp
  rw [List.getElem_zip]
  have hj1 : j < la.length := by rw [List.length_zip] at hj; omega
  have hj2 : j < lb.length := by omega
  have := h j hj1
  unfold OneAt at this
  rw [atT_eq hj1, atT_eq hj2] at this
  by_cases e1 : la[j].v = blankS
  · exact .inl e1
  · by_cases e2 : lb[j].v = blankS
    · exact .inr (.inl e2)
    · rcases this with e | e | e
      · exact absurd e e1
      · exact absurd e e2
      · rw [gr_ev e1, gr_ev e2] at e
        exact .inr (.inr e)
theorem atomB_len {p : ByteArray} {l : List T} (h : atomB p l = true) : l.length ≤ 24 := by
  unfold atomB at h
  simp only [Bool.and_eq_true, decide_eq_true_eq] at h
  exact h.1.2
theorem atP_mem {l : List P} {k : Nat} (h : k < l.length) : atP l k ∈ l := by
  have : atP l k = l[k] := by simp [atP, List.getD, h]
  rw [this]
  exact List.getElem_mem h
set_option maxHeartbeats 12800000 in
set_option maxRecDepth 100000 in
theorem most_no (pa pb : ByteArray) (la lb : List T) (aa ab : Option Addr) (ca cb : Nat) (l : List B) (al : Option Addr) (cl : Nat) (w : World) (hG : Gm w) (hpa : pa.size ≤ maxLen) (hpb : pb.size ≤ maxLen) (hA : Lt w (.slice aa la.length ca) la) (hB : Lt w (.slice ab lb.length cb) lb) (hL : Lb w (.slice al l.length cl) l)
    (hno : ¬ (pa = pb ∧ la.length = lb.length ∧ atomB pa la = true ∧ atomB pb lb = true)) :
    Calls Tryd.prog 4 #[.agg #[.string pa, .slice aa la.length ca], .agg #[.string pb, .slice ab lb.length cb], .slice al l.length cl] w fun e w' => e = .returned (.bool true) ∧ Below w.heap.size w w' := by
  have HU0 : Hid _ := u2_new w pa pb la.length lb.length aa ab ca cb
  have HLi : Hid _ := lives_any _ (hG.below HU0.out.bel).tk (hG.below HU0.out.bel).kt
  have hma : la.length ≤ maxLen := hA.lies.1
  have hmb : lb.length ≤ maxLen := hB.lies.1
  unfold maxLen at hma hmb
  have HC1 : Hid (∀ u, Below w.heap.size w u → Calls Tryd.prog 6 #[.agg #[.string pa, .slice aa la.length ca]] u fun e w' => e = .returned (.int .i64 (errB (atomB pa la))) ∧ Below u.heap.size u w') := fun u hu => rcheckAtom_any pa _ la u hpa (hA.below hu)
  have HC2 : Hid (∀ u, Below w.heap.size w u → Calls Tryd.prog 6 #[.agg #[.string pb, .slice ab lb.length cb]] u fun e w' => e = .returned (.int .i64 (errB (atomB pb lb))) ∧ Below u.heap.size u w') := fun u hu => rcheckAtom_any pb _ lb u hpb (hB.below hu)
  have HN : Hid (∀ u, Below w.heap.size w u → Calls Tryd.prog 11 #[.agg #[.string pa, .slice aa la.length ca], .agg #[.string pb, .slice ab lb.length cb]] u fun e w' => e = .returned (.tuple #[.slice none 0 0, .bool false]) ∧ Below u.heap.size u w') := fun u hu => unify_no pa pb _ _ la lb u hpa hpb (hA.below hu) (hB.below hu) hno
  have HNO : Hid _ := hno
  clear hG hpa hpb hA hB hL hno
  go_enter Tryd.func4, Tryd.ntmps4
  go_wp2_with fail
  refine Calls.mono HLi.out ?_
  rintro e w1 ⟨rfl, b1⟩
  have HU1 : Hid (U2 w pa pb la.length lb.length aa ab ca cb w1) := HU0.out.next b1
  clear b1 HU0 HLi
  go_upto_region 3 with fail
  go_cut [42] from 19 to 42 (fun tt wc => tt = .bool true ∧ Hid (U2 w pa pb la.length lb.length aa ab ca cb wc))
  case first =>
    have x0 := HU1.out.b0.at (j := 0) rfl
    have x1 := HU1.out.b0.at (j := 1) rfl
    go_wp2_with fail
    refine Calls.mono (HC1.out _ HU1.out.bel) ?_
    rintro e w2 ⟨rfl, b2⟩
    have HU2 : Hid (U2 w pa pb la.length lb.length aa ab ca cb w2) := HU1.out.next b2
    clear b2 HU1 x0 x1
    cases h1 : atomB pa la
    · unfold errB
      simp only [Bool.false_eq_true, if_false]
      clear HC1 HC2 HN HNO h1
      go_wp2_with fail
      go_meet
      case rel => exact ⟨rfl, HU2⟩
    · unfold errB
      simp only [if_true]
      have H1 : Hid _ := h1
      clear h1
      have x0 := HU2.out.b1.at (j := 0) rfl
      have x1 := HU2.out.b1.at (j := 1) rfl
      go_wp2_with fail
      refine Calls.mono (HC2.out _ HU2.out.bel) ?_
      rintro e w3 ⟨rfl, b3⟩
      have HU3 : Hid (U2 w pa pb la.length lb.length aa ab ca cb w3) := HU2.out.next b3
      clear b3 HU2 x0 x1
      cases h2 : atomB pb lb
      · unfold errB
        simp only [Bool.false_eq_true, if_false]
        clear HC1 HC2 HN HNO h2 H1
        go_wp2_with fail
        go_meet
        case rel => exact ⟨rfl, HU3⟩
      · unfold errB
        simp only [if_true]
        have H2 : Hid _ := h2
        clear h2
        have x0 := HU3.out.b0.at (j := 0) rfl
        have x1 := HU3.out.b0.at (j := 1) rfl
        have y0 := HU3.out.b1.at (j := 0) rfl
        have y1 := HU3.out.b1.at (j := 1) rfl
        by_cases hp : pa = pb
        · have e0 : (pa.toList == pb.toList) = true := by rw [hp]; simp
          have e1 : ((la.length : Int) != (lb.length : Int)) = true := by
            rw [bne_iff_ne]
            intro h
            exact HNO.out ⟨hp, by omega, H1.out, H2.out⟩
          clear HC1 HC2 HN HNO hp H1 H2
          go_wp2_with fail
          go_meet
          case rel => exact ⟨rfl, HU3⟩
        · have e0 : (pa.toList == pb.toList) = false := by
            rw [beq_eq_false_iff_ne]
            exact fun h => hp (toList_inj h)
          clear HC1 HC2 HN HNO hp H1 H2
          go_wp2_with fail
          go_meet
          case rel => exact ⟨rfl, HU3⟩
  case rest =>
    obtain ⟨rfl, HU4⟩ := hcut
    clear HU1 HC1 HC2 HNO
    have x0 := HU4.out.b0.at (j := 0) rfl
    have x1 := HU4.out.b0.at (j := 1) rfl
    have y0 := HU4.out.b1.at (j := 0) rfl
    have y1 := HU4.out.b1.at (j := 1) rfl
    go_wp2_with fail
    refine Calls.mono (HN.out _ HU4.out.bel) ?_
    rintro e w5 ⟨rfl, b5⟩
    have HB5 : Hid (Below w.heap.size w w5) := HU4.out.bel.trans (b5.mono HU4.out.bel.size)
    clear b5 HU4 HN x0 x1 y0 y1
    go_wp2
    go_ret
    exact ⟨rfl, HB5.out⟩
end Go.Proofs.YtlajlofccpnilaaDoor
