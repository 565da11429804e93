import Derived.Test.YtgplipfebnigiaaGreatDoorG27
import Derived.Deep.RegionHeld3
section
namespace Go.Proofs.YtgplipfebnigiaaGreatDoor.PU
/-- rules: the same name, the same columns, the same literals -/
structure RSame (r s : R3) : Prop where
  pr : r.pr = s.pr
  hd : r.hd = s.hd
  bd : r.bd.map XL.x = s.bd.map XL.x
end Go.Proofs.YtgplipfebnigiaaGreatDoor.PU
end
section
namespace Go.Proofs.YtgplipfebnigiaaGreatDoor
open Go.RowKit Go.Maps
set_option linter.unusedVariables false
set_option linter.unusedSimpArgs false
attribute [local go_sem ↓] Go.wp_at_zero Go.wp_at_succ

/-- a way to decide what holds (no instance) -/
structure Dec where
  d : ∀ p : Prop, Decidable p
/-- are two things the same? -/
def eqB (dec : Dec) {α : Type} (a b : α) : Bool := @decide (a = b) (dec.d _)
variable {dec : Dec}
theorem eqB_t {α : Type} {a b : α} (h : a = b) : eqB dec a b = true := by unfold eqB; exact @decide_eq_true _ (dec.d _) h
theorem eqB_f {α : Type} {a b : α} (h : ¬ a = b) : eqB dec a b = false := by unfold eqB; exact @decide_eq_false _ (dec.d _) h
theorem eqB_eq {α : Type} {a b : α} (h : eqB dec a b = true) : a = b := by unfold eqB at h; exact @of_decide_eq_true _ (dec.d _) h
theorem eqB_ne {α : Type} {a b : α} (h : eqB dec a b = false) : ¬ a = b := by unfold eqB at h; exact @of_decide_eq_false _ (dec.d _) h
theorem neqT {x y : T} (h : x = y) (w : World) : (binOp .neq 46 (.agg #[.string x.v, .int .i8 x.a.k, .int .i64 x.a.n, .string x.a.s]) (.agg #[.string y.v, .int .i8 y.a.k, .int .i64 y.a.n, .string y.a.s])).run Tryz.prog w = .ok (.bool false) w := by
  have := run_neqT x y w
  rw [decide_eq_true h] at this
  exact this
theorem neqTn {x y : T} (h : ¬ x = y) (w : World) : (binOp .neq 46 (.agg #[.string x.v, .int .i8 x.a.k, .int .i64 x.a.n, .string x.a.s]) (.agg #[.string y.v, .int .i8 y.a.k, .int .i64 y.a.n, .string y.a.s])).run Tryz.prog w = .ok (.bool true) w := by
  have := run_neqT x y w
  rw [decide_eq_false h] at this
  exact this
theorem neqV {x y : V} (h : x = y) (w : World) : (binOp .neq 44 (.agg #[.int .i8 x.k, .int .i64 x.n, .string x.s]) (.agg #[.int .i8 y.k, .int .i64 y.n, .string y.s])).run Tryz.prog w = .ok (.bool false) w := by
  subst h
  go_simp
theorem neqVn {x y : V} (h : ¬ x = y) (w : World) : (binOp .neq 44 (.agg #[.int .i8 x.k, .int .i64 x.n, .string x.s]) (.agg #[.int .i8 y.k, .int .i64 y.n, .string y.s])).run Tryz.prog w = .ok (.bool true) w := by
  obtain ⟨k1, n1, s1⟩ := x
  obtain ⟨k2, n2, s2⟩ := y
  dsimp only
  by_cases hk : k1 = k2
  · by_cases hn : n1 = n2
    · by_cases hs : s1.toList = s2.toList
      · have := toList_inj hs
        subst hk hn this
        exact absurd rfl h
      · clear h
        go_simp
    · clear h
      go_simp
  · clear h
    go_simp
theorem neqA {x y : A5} (h : x = y) (w : World) : (binOp .neq 94 (.agg #[.int .i8 x.g, .string x.t.v, .int .i8 x.t.a.k, .int .i64 x.t.a.n, .string x.t.a.s]) (.agg #[.int .i8 y.g, .string y.t.v, .int .i8 y.t.a.k, .int .i64 y.t.a.n, .string y.t.a.s])).run Tryz.prog w = .ok (.bool false) w := by
  subst h
  go_simp
theorem neqAn {x y : A5} (h : ¬ x = y) (w : World) : (binOp .neq 94 (.agg #[.int .i8 x.g, .string x.t.v, .int .i8 x.t.a.k, .int .i64 x.t.a.n, .string x.t.a.s]) (.agg #[.int .i8 y.g, .string y.t.v, .int .i8 y.t.a.k, .int .i64 y.t.a.n, .string y.t.a.s])).run Tryz.prog w = .ok (.bool true) w := by
  obtain ⟨g1, v1, k1, n1, s1⟩ := x
  obtain ⟨g2, v2, k2, n2, s2⟩ := y
  dsimp only
  by_cases hg : g1 = g2
  · by_cases hv : v1.toList = v2.toList
    · by_cases hk : k1 = k2
      · by_cases hn : n1 = n2
        · by_cases hs : s1.toList = s2.toList
          · have e1 := toList_inj hs
            have e2 := toList_inj hv
            subst hg hk hn e1 e2
            exact absurd rfl h
          · clear h
            go_simp
        · clear h
          go_simp
      · clear h
        go_simp
    · clear h
      go_simp
  · clear h
    go_simp
set_option maxHeartbeats 3200000 in
theorem sameTerms_any (v v' : Value) (ts us : List T) (w : World) (h1 : Lt w v ts) (h2 : Lt w v' us) :
    Calls Tryz.prog 127 #[v, v'] w fun r w' => r = .returned (.bool (eqB dec ts us)) ∧ Below w.heap.size w w' := by
  obtain ⟨a, c, rfl, hc1, hc2, hk⟩ := h1.form
  obtain ⟨a', c', rfl, hc1', hc2', hk'⟩ := h2.form
  have hmax : ts.length ≤ maxLen := Nat.le_trans hc1 hc2
  have hmax2 : us.length ≤ maxLen := Nat.le_trans hc1' hc2'
  unfold maxLen at hmax hmax2
  have HK : Hid _ := hk
  have HK' : Hid _ := hk'
  obtain ⟨BB, hBB⟩ : ∃ BB, eqB dec ts us = BB := ⟨_, rfl⟩
  rw [hBB]
  have HBB : Hid (eqB dec ts us = BB) := hBB
  clear hk hk' h1 h2 hc2 hc2' hBB
  by_cases hlen : us.length = ts.length
  · rw [hlen] at HK' hc1' ⊢
    have HLen : Hid (us.length = ts.length) := hlen
    clear hmax2 hlen
    go_enter Tryz.func127, Tryz.ntmps127
    go_wp2
    go_loopw [5] (fun i wr => ∃ k : Nat, k ≤ ts.length ∧ i = .int .i64 k ∧ Below w.heap.size w wr ∧ Hid (∀ j, j < k → atT ts j = atT us j)) (fun i _ => ts.length - (intOf i).toNat)
    case atStart => exact ⟨0, Nat.zero_le _, rfl, Below.refl _ _, fun j hj => absurd hj (by omega)⟩
    case round =>
    obtain ⟨k, hk, rfl, bel, HS⟩ := hrel
    by_cases hlt : k < ts.length
    · have hlt' : (k : Int) < (ts.length : Int) := by omega
      obtain ⟨g, off, rfl, hg, hKS⟩ := HK.out (by omega)
      obtain ⟨g2, off2, rfl, hg2, hKS2⟩ := HK'.out (by omega)
      obtain ⟨y0, y1, y2, y3⟩ := (hKS k hlt).below bel hg
      obtain ⟨z0, z1, z2, z3⟩ := (hKS2 k (by omega)).below bel hg2
      generalize hx : atT ts k = x at y0 y1 y2 y3
      generalize hy : atT us k = y at z0 z1 z2 z3
      have HX : Hid (_ = x) := hx
      have HY : Hid (_ = y) := hy
      by_cases hxy : x = y
      · have HXY : Hid (x = y) := hxy
        have hQ : ∀ u, (binOp .neq 46 (.agg #[.string x.v, .int .i8 x.a.k, .int .i64 x.a.n, .string x.a.s]) (.agg #[.string y.v, .int .i8 y.a.k, .int .i64 y.a.n, .string y.a.s])).run Tryz.prog u = .ok (.bool false) u := fun u => neqT hxy u
        clear hKS hKS2 hx hy hxy
        go_wp2_with fail
        go_quiet (fail)
        go_wp2
        go_roundw
        case rel => exact ⟨k + 1, by omega, by go_num, below_drewN bel _, fun j hj => by
          by_cases e : j = k
          · rw [e, HX.out, HY.out, HXY.out]
          · exact HS.out j (by omega)⟩
        case measure => simp [intOf]; omega
      · have HXY : Hid (¬ x = y) := hxy
        have hQ : ∀ u, (binOp .neq 46 (.agg #[.string x.v, .int .i8 x.a.k, .int .i64 x.a.n, .string x.a.s]) (.agg #[.string y.v, .int .i8 y.a.k, .int .i64 y.a.n, .string y.a.s])).run Tryz.prog u = .ok (.bool true) u := fun u => neqTn hxy u
        clear hKS hKS2 hx hy hxy
        go_wp2_with fail
        go_quiet (fail)
        go_wp2
        go_ret
        refine ⟨?_, below_drewN bel _⟩
        rw [← HBB.out, eqB_f (fun e => HXY.out (by rw [← HX.out, ← HY.out, e]))]
        rfl
    · obtain rfl : k = ts.length := by omega
      go_wp2
      go_ret
      refine ⟨?_, bel⟩
      rw [← HBB.out, eqB_t (by
        refine List.ext_getElem HLen.out.symm fun i h1 h2 => ?_
        have := HS.out i h1
        rw [atT_eq h1, atT_eq h2] at this
        exact this)]
      rfl
  · have hneq : ((ts.length : Int) != (us.length : Int)) = true := by simp only [bne_iff_ne, ne_eq]; omega
    have HN : Hid (¬ us.length = ts.length) := hlen
    clear hlen
    go_enter Tryz.func127, Tryz.ntmps127
    go_wp2
    go_ret
    refine ⟨?_, Below.refl _ _⟩
    rw [← HBB.out, eqB_f (fun e => HN.out (by rw [e]))]
    rfl
set_option maxHeartbeats 3200000 in
theorem sameArgs_any (v v' : Value) (ts us : List A5) (w : World) (h1 : La w v ts) (h2 : La w v' us) :
    Calls Tryz.prog 29 #[v, v'] w fun r w' => r = .returned (.bool (eqB dec ts us)) ∧ Below w.heap.size w w' := by
  obtain ⟨a, c, rfl, hc1, hc2, hk⟩ := h1.form
  obtain ⟨a', c', rfl, hc1', hc2', hk'⟩ := h2.form
  have hmax : ts.length ≤ maxLen := Nat.le_trans hc1 hc2
  have hmax2 : us.length ≤ maxLen := Nat.le_trans hc1' hc2'
  unfold maxLen at hmax hmax2
  have HK : Hid _ := hk
  have HK' : Hid _ := hk'
  obtain ⟨BB, hBB⟩ : ∃ BB, eqB dec ts us = BB := ⟨_, rfl⟩
  rw [hBB]
  have HBB : Hid (eqB dec ts us = BB) := hBB
  clear hk hk' h1 h2 hc2 hc2' hBB
  by_cases hlen : us.length = ts.length
  · rw [hlen] at HK' hc1' ⊢
    have HLen : Hid (us.length = ts.length) := hlen
    clear hmax2 hlen
    go_enter Tryz.func29, Tryz.ntmps29
    go_wp2
    go_loopw [5] (fun i wr => ∃ k : Nat, k ≤ ts.length ∧ i = .int .i64 k ∧ Below w.heap.size w wr ∧ Hid (∀ j, j < k → atA ts j = atA us j)) (fun i _ => ts.length - (intOf i).toNat)
    case atStart => exact ⟨0, Nat.zero_le _, rfl, Below.refl _ _, fun j hj => absurd hj (by omega)⟩
    case round =>
    obtain ⟨k, hk, rfl, bel, HS⟩ := hrel
    by_cases hlt : k < ts.length
    · have hlt' : (k : Int) < (ts.length : Int) := by omega
      obtain ⟨g, off, rfl, hg, hKS⟩ := HK.out (by omega)
      obtain ⟨g2, off2, rfl, hg2, hKS2⟩ := HK'.out (by omega)
      have ry := range_below (hKS k hlt) bel hg
      have rz := range_below (hKS2 k (by omega)) bel hg2
      generalize hx : atA ts k = x at ry
      generalize hy : atA us k = y at rz
      have y0 : wr.cell? ⟨g, off + k * 5, none⟩ = some (.int .i8 x.g) := ry 0 _ rfl
      have y1 : wr.cell? ⟨g, off + k * 5 + 1, none⟩ = some (.string x.t.v) := ry 1 _ rfl
      have y2 : wr.cell? ⟨g, off + k * 5 + 2, none⟩ = some (.int .i8 x.t.a.k) := ry 2 _ rfl
      have y3 : wr.cell? ⟨g, off + k * 5 + 3, none⟩ = some (.int .i64 x.t.a.n) := ry 3 _ rfl
      have y4 : wr.cell? ⟨g, off + k * 5 + 4, none⟩ = some (.string x.t.a.s) := ry 4 _ rfl
      have z0 : wr.cell? ⟨g2, off2 + k * 5, none⟩ = some (.int .i8 y.g) := rz 0 _ rfl
      have z1 : wr.cell? ⟨g2, off2 + k * 5 + 1, none⟩ = some (.string y.t.v) := rz 1 _ rfl
      have z2 : wr.cell? ⟨g2, off2 + k * 5 + 2, none⟩ = some (.int .i8 y.t.a.k) := rz 2 _ rfl
      have z3 : wr.cell? ⟨g2, off2 + k * 5 + 3, none⟩ = some (.int .i64 y.t.a.n) := rz 3 _ rfl
      have z4 : wr.cell? ⟨g2, off2 + k * 5 + 4, none⟩ = some (.string y.t.a.s) := rz 4 _ rfl
      have HX : Hid (_ = x) := hx
      have HY : Hid (_ = y) := hy
      by_cases hxy : x = y
      · have HXY : Hid (x = y) := hxy
        have hQ : ∀ u, (binOp .neq 94 (.agg #[.int .i8 x.g, .string x.t.v, .int .i8 x.t.a.k, .int .i64 x.t.a.n, .string x.t.a.s]) (.agg #[.int .i8 y.g, .string y.t.v, .int .i8 y.t.a.k, .int .i64 y.t.a.n, .string y.t.a.s])).run Tryz.prog u = .ok (.bool false) u := fun u => neqA hxy u
        clear hKS hKS2 ry rz hx hy hxy
        go_wp2_with fail
        go_quiet (fail)
        go_wp2
        go_roundw
        case rel => exact ⟨k + 1, by omega, by go_num, below_drewN bel _, fun j hj => by
          by_cases e : j = k
          · rw [e, HX.out, HY.out, HXY.out]
          · exact HS.out j (by omega)⟩
        case measure => simp [intOf]; omega
      · have HXY : Hid (¬ x = y) := hxy
        have hQ : ∀ u, (binOp .neq 94 (.agg #[.int .i8 x.g, .string x.t.v, .int .i8 x.t.a.k, .int .i64 x.t.a.n, .string x.t.a.s]) (.agg #[.int .i8 y.g, .string y.t.v, .int .i8 y.t.a.k, .int .i64 y.t.a.n, .string y.t.a.s])).run Tryz.prog u = .ok (.bool true) u := fun u => neqAn hxy u
        clear hKS hKS2 ry rz hx hy hxy
        go_wp2_with fail
        go_quiet (fail)
        go_wp2
        go_ret
        refine ⟨?_, below_drewN bel _⟩
        rw [← HBB.out, eqB_f (fun e => HXY.out (by rw [← HX.out, ← HY.out, e]))]
        rfl
    · obtain rfl : k = ts.length := by omega
      go_wp2
      go_ret
      refine ⟨?_, bel⟩
      rw [← HBB.out, eqB_t (by
        refine List.ext_getElem HLen.out.symm fun i h1 h2 => ?_
        have := HS.out i h1
        rw [atA_eq h1, atA_eq h2] at this
        exact this)]
      rfl
  · have hneq : ((ts.length : Int) != (us.length : Int)) = true := by simp only [bne_iff_ne, ne_eq]; omega
    have HN : Hid (¬ us.length = ts.length) := hlen
    clear hlen
    go_enter Tryz.func29, Tryz.ntmps29
    go_wp2
    go_ret
    refine ⟨?_, Below.refl _ _⟩
    rw [← HBB.out, eqB_f (fun e => HN.out (by rw [e]))]
    rfl
set_option maxHeartbeats 1600000 in
theorem sameAtom_any (pr pr' : ByteArray) (ts us : List T) (v v' : Value) (w : World) (h1 : Lt w v ts) (h2 : Lt w v' us) :
    Calls Tryz.prog 100 #[.agg #[.string pr, v], .agg #[.string pr', v']] w fun r w' => r = .returned (.bool (eqB dec (pr, ts) (pr', us))) ∧ Below w.heap.size w w' := by
  obtain ⟨a, c, rfl, hc1, hc2, -⟩ := h1.form
  obtain ⟨a', c', rfl, hc1', hc2', -⟩ := h2.form
  have BA := (Below.refl w.heap.size w).alloc (Nat.le_refl _) (.cells #[.string pr, .slice a ts.length c] 61)
  have BB := BA.alloc BA.size (.cells #[.string pr', .slice a' us.length c'] 61)
  have HL : Hid _ := sameTerms_any (dec := dec) _ _ ts us _ (h1.below BB) (h2.below BB)
  have HB : Hid (Below w.heap.size w _) := BB
  obtain ⟨R, hR⟩ : ∃ R, eqB dec (pr, ts) (pr', us) = R := ⟨_, rfl⟩
  rw [hR]
  have HR : Hid (eqB dec (pr, ts) (pr', us) = R) := hR
  clear h1 h2 BA BB hR
  by_cases hp : pr = pr'
  · subst hp
    have e0 : (pr.toList == pr.toList) = true := by simp
    have HE : Hid (R = eqB dec ts us) := by
      show R = _
      rw [← HR.out]
      cases e : eqB dec ts us
      · exact eqB_f (fun q => eqB_ne e (by injection q))
      · rw [eqB_eq e]; exact eqB_t rfl
    rw [HE.out]
    generalize eqB dec ts us = Q at HL
    go_enter Tryz.func100, Tryz.ntmps100
    go_wp2_with (go_at_call 127; refine Calls.mono HL.out ?_; rintro ee w1 ⟨rfl, b1⟩)
    go_ret
    exact ⟨rfl, HB.out.trans (b1.mono HB.out.size)⟩
  · have e0 : (pr.toList == pr'.toList) = false := by
      rw [beq_eq_false_iff_ne]
      exact fun h => hp (toList_inj h)
    have HN : Hid (R = false) := by show R = _; rw [← HR.out]; exact eqB_f (fun q => hp (by injection q))
    clear hp HL
    go_enter Tryz.func100, Tryz.ntmps100
    go_wp2
    go_ret
    exact ⟨by rw [HN.out]; rfl, HB.out⟩
end Go.Proofs.YtgplipfebnigiaaGreatDoor
end
