import Derived.Test.YtlajlofccpnilaaDoorTmTurned
namespace Go.Proofs.YtlajlofccpnilaaDoor
open Go.RowKit Go.Maps
set_option linter.unusedVariables false
set_option linter.unusedSimpArgs false
attribute [local go_sem ↓] Go.wp_at_zero Go.wp_at_succ

/-- the two boxes that the call lays: an atom, a fact -/
structure U3 (w : World) (pa pb : ByteArray) (na nb : Nat) (aa ab : Option Addr) (ca cb : Nat) (wc : World) : Prop where
  bel : Below w.heap.size w wc
  b0 : RL wc w.heap.size 24 [.string pa, .slice aa na ca]
  b1 : RL wc (w.heap.size + 1) 28 [.string pb, .slice ab nb cb]
theorem U3.next {w : World} {pa pb : ByteArray} {na nb : Nat} {aa ab : Option Addr} {ca cb : Nat} {u v : World} (h : U3 w pa pb na nb aa ab ca cb u) (b : Below u.heap.size u v) : U3 w pa pb na nb aa ab ca cb v :=
  ⟨h.bel.trans (b.mono h.bel.size), h.b0.below b, h.b1.below b⟩
theorem u3_new (w : World) (pa pb : ByteArray) (na nb : Nat) (aa ab : Option Addr) (ca cb : Nat) : U3 w pa pb na nb aa ab ca cb ((w.alloc (.cells #[.string pa, .slice aa na ca] 24)).alloc (.cells #[.string pb, .slice ab nb cb] 28)) := by
  have r0 := rl_new w #[.string pa, .slice aa na ca] 24
  have r1 := rl_new (w.alloc (.cells #[.string pa, .slice aa na ca] 24)) #[.string pb, .slice ab nb cb] 28
  rw [World.size_alloc] at r1
  have B1 : Below w.heap.size w (w.alloc (.cells #[.string pa, .slice aa na ca] 24)) := (Below.refl _ _).alloc (Nat.le_refl _) _
  exact ⟨B1.alloc B1.size _, r0.below ((Below.refl _ _).alloc (Nat.le_refl _) _), r1⟩
set_option maxHeartbeats 6400000 in
set_option maxRecDepth 100000 in
theorem fits_no (p pf : ByteArray) (la : List T) (lf : List V) (aa af al : Option Addr) (ca cf cl : Nat) (l : List B) (w : World) (hG : Gm w) (hp : p.size ≤ maxLen) (hpf : pf.size ≤ maxLen) (hA : Lt w (.slice aa la.length ca) la) (hL : Lb w (.slice al l.length cl) l) (hF : Lv w (.slice af lf.length cf) lf) (h3 : atomB p la = false) :
    Calls Tryd.prog 3 #[.agg #[.string p, .slice aa la.length ca], .slice al l.length cl, .agg #[.string pf, .slice af lf.length cf]] w fun e w' => e = .returned (.bool true) ∧ Below w.heap.size w w' := by
  have HU0 : Hid _ := u3_new w p pf la.length lf.length aa af ca cf
  have HLi : Hid _ := lives_any _ (hG.below HU0.out.bel).tk (hG.below HU0.out.bel).kt
  have HC1 : Hid (∀ u, Below w.heap.size w u → Calls Tryd.prog 6 #[.agg #[.string p, .slice aa la.length ca]] u fun e w' => e = .returned (.int .i64 40) ∧ Below u.heap.size u w') := fun u hu => by
    have := rcheckAtom_any p _ la u hp (hA.below hu)
    rw [h3] at this
    exact this
  have HN : Hid (∀ u, Below w.heap.size w u → Calls Tryd.prog 7 #[.agg #[.string p, .slice aa la.length ca], .agg #[.string pf, .slice af lf.length cf]] u fun e w' => e = .returned (.tuple #[.slice none 0 0, .bool false]) ∧ Below u.heap.size u w') := fun u hu => match_no p pf _ _ la lf u hp hpf (hA.below hu) (hF.below hu) (fun h => by rw [h3] at h; exact absurd h.2.2 (by decide))
  clear hG hp hpf hA hL hF h3
  go_enter Tryd.func3, Tryd.ntmps3
  go_wp2_with fail
  refine Calls.mono HLi.out ?_
  rintro e w1 ⟨rfl, b1⟩
  have HU1 : Hid (U3 w p pf la.length lf.length aa af ca cf w1) := HU0.out.next b1
  clear b1 HU0 HLi
  have x0 := HU1.out.b0.at (j := 0) rfl
  have x1 := HU1.out.b0.at (j := 1) rfl
  go_wp2_with fail
  refine Calls.mono (HC1.out _ HU1.out.bel) ?_
  rintro e w2 ⟨rfl, b2⟩
  have HU2 : Hid (U3 w p pf la.length lf.length aa af ca cf w2) := HU1.out.next b2
  clear b2 HU1 x0 x1 HC1
  have x0 := HU2.out.b0.at (j := 0) rfl
  have x1 := HU2.out.b0.at (j := 1) rfl
  have y0 := HU2.out.b1.at (j := 0) rfl
  have y1 := HU2.out.b1.at (j := 1) rfl
  go_wp2_with fail
  refine Calls.mono (HN.out _ HU2.out.bel) ?_
  rintro e w3 ⟨rfl, b3⟩
  have HB3 : Hid (Below w.heap.size w w3) := HU2.out.bel.trans (b3.mono HU2.out.bel.size)
  clear b3 HU2 HN x0 x1 y0 y1
  go_wp2
  go_ret
  exact ⟨rfl, HB3.out⟩
end Go.Proofs.YtlajlofccpnilaaDoor
