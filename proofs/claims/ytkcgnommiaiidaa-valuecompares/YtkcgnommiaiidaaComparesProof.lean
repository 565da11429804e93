import Derived.Test.YtkcgnommiaiidaaRef
import Derived.Test.YtkcgnommiaiidaaChecksProof
namespace Go.Proofs.Ytkcgnommiaiidaa
open Go.ChangeShapes Go.WideShapes Go.ChangeAt Go.RowKit Go.Joins
set_option linter.unusedVariables false
attribute [local go_sem ↓] Go.wp_at_zero Go.wp_at_succ

theorem held_keep {w : World} {k1 n1 : Int} {s1 : ByteArray} {k2 n2 : Int} {s2 : ByteArray} {v v' : World} (hb : Below v.heap.size v v')
    (h : w.heap.size + 1 < v.heap.size ∧ Below w.heap.size w v ∧ v.cell? ⟨w.heap.size, 0, none⟩ = some (.int .i8 k1) ∧ v.cell? ⟨w.heap.size, 1, none⟩ = some (.int .i64 n1) ∧ v.cell? ⟨w.heap.size, 2, none⟩ = some (.string s1) ∧ v.cell? ⟨w.heap.size + 1, 0, none⟩ = some (.int .i8 k2) ∧ v.cell? ⟨w.heap.size + 1, 1, none⟩ = some (.int .i64 n2) ∧ v.cell? ⟨w.heap.size + 1, 2, none⟩ = some (.string s2)) :
    w.heap.size + 1 < v'.heap.size ∧ Below w.heap.size w v' ∧ v'.cell? ⟨w.heap.size, 0, none⟩ = some (.int .i8 k1) ∧ v'.cell? ⟨w.heap.size, 1, none⟩ = some (.int .i64 n1) ∧ v'.cell? ⟨w.heap.size, 2, none⟩ = some (.string s1) ∧ v'.cell? ⟨w.heap.size + 1, 0, none⟩ = some (.int .i8 k2) ∧ v'.cell? ⟨w.heap.size + 1, 1, none⟩ = some (.int .i64 n2) ∧ v'.cell? ⟨w.heap.size + 1, 2, none⟩ = some (.string s2) := by
  obtain ⟨hz, bel, a0, a1, a2, b0, b1, b2⟩ := h
  have hs := hb.size
  refine ⟨by omega, bel.trans (hb.mono (by omega)), ?_, ?_, ?_, ?_, ?_, ?_⟩
  · rw [hb.cell (by show w.heap.size < _; omega)]; exact a0
  · rw [hb.cell (by show w.heap.size < _; omega)]; exact a1
  · rw [hb.cell (by show w.heap.size < _; omega)]; exact a2
  · rw [hb.cell (by show w.heap.size + 1 < _; omega)]; exact b0
  · rw [hb.cell (by show w.heap.size + 1 < _; omega)]; exact b1
  · rw [hb.cell (by show w.heap.size + 1 < _; omega)]; exact b2

set_option maxHeartbeats 1600000 in
theorem compares_walk (r k1 n1 : Int) (s1 : ByteArray) (k2 n2 : Int) (s2 : ByteArray) (w : World) (h1 : s1.size ≤ maxLen) (h2 : s2.size ≤ maxLen) :
    Calls Try.prog 4 #[.int .i8 r, .agg #[.int .i8 k1, .int .i64 n1, .string s1], .agg #[.int .i8 k2, .int .i64 n2, .string s2]] w fun e w' => e = .returned (.bool true) ∧ Below w.heap.size w w' := by
  go_enter Try.func4, Try.ntmps4
  go_wp2_with fail
  go_region_held3 (fun w' => w.heap.size + 1 < w'.heap.size ∧ Below w.heap.size w w' ∧ w'.cell? ⟨w.heap.size, 0, none⟩ = some (.int .i8 k1) ∧ w'.cell? ⟨w.heap.size, 1, none⟩ = some (.int .i64 n1) ∧ w'.cell? ⟨w.heap.size, 2, none⟩ = some (.string s1) ∧ w'.cell? ⟨w.heap.size + 1, 0, none⟩ = some (.int .i8 k2) ∧ w'.cell? ⟨w.heap.size + 1, 1, none⟩ = some (.int .i64 n2) ∧ w'.cell? ⟨w.heap.size + 1, 2, none⟩ = some (.string s2))
    (first
      | exact held_keep (by assumption) (by assumption)
      | (refine ⟨(by simp), (((Below.refl _ _).alloc (Nat.le_refl _) _).alloc (by simp) _).drew, ?_, ?_, ?_, ?_, ?_, ?_⟩ <;> go_simp)
      | (refine ⟨(by simp), (((Below.refl _ _).alloc (Nat.le_refl _) _).alloc (by simp) _), ?_, ?_, ?_, ?_, ?_, ?_⟩ <;> go_simp))
    (first
      | (go_at_call 8; refine (vcompare_any _ _ _ _ _ _ _).mono ?_; rintro e w1 ⟨rfl, hb1⟩)
      | (go_at_call 9; refine (rcompare_any _ _ _ _ _ _ _).mono ?_; rintro e w2 ⟨rfl, hb2⟩)
      | (go_at_call 10; refine (vholds_any _ _ _ _ _ _ _ _ h1 h2).mono ?_; rintro e w3 ⟨rfl, hb3⟩)
      | (go_at_call 11; refine (rholds_any _ _ _ _ _ _ _ _ h1 h2).mono ?_; rintro e w4 ⟨rfl, hb4⟩))
  go_wp2
  go_ret
  exact ⟨rfl, by rename_i h; exact h.2.1⟩

set_option maxRecDepth 100000 in
theorem compares_lifted (os : Os) (started : os.Started) (H : Type) (enc : TypeId × Value → H) :
    ReturnsInHanded {} Try.checked os 4 .any (Rows.valueComparesSpec.pre6 enc Try.prog Try.f4 Rows.valueComparesRow.domain false) (Rows.valueComparesSpec.post enc Try.prog Try.f4 false true false false) := by
  refine returnsInHanded_of_change (C := Try.checked) own started (by kernel_rfl) Try.func4
    (ChangeSpec.witness6 (enc := enc) (C := Try.checked) false ⟨#[], #[.int .i8 0, .agg #[.int .i8 0, .int .i64 0, .string ⟨#[]⟩], .agg #[.int .i8 0, .int .i64 0, .string ⟨#[]⟩]], []⟩ 8 (by kernel_rfl) (by kernel_rfl) (by kernel_rfl) (by kernel_rfl)) ?_
  intro W base args ds gs before hval0 hW hcnd _
  have hval : ∀ (j : Nat) t v, Try.f4.params[j]? = some t → args[j]? = some v → Value.okWide Try.prog W .any base t v := hval0
  have hW' := hW
  obtain ⟨p, q, hA0, hV, rfl, hfz, hnd⟩ := hW
  have hA : DataW.TrodAll enc Try.prog W 0 (fun _ => true) true Try.f4.params.toList args.toList ds p := hA0
  rw [Try.params4] at hA hval
  obtain ⟨v0, vs0, d0, ds0, p0, q0, hargs, rfl, rfl, h0, r0⟩ := trodAll_cons hA
  obtain ⟨v1, vs1, d1, ds1, p1, q1, rfl, rfl, rfl, h1, r1⟩ := trodAll_cons r0
  obtain ⟨v2, vs2, d2, ds2, p2, q2, rfl, rfl, rfl, h2, r2⟩ := trodAll_cons r1
  obtain ⟨rfl, rfl, rfl⟩ := trodAll_nil r2
  obtain rfl : args = #[v0, v1, v2] := by cases args; simp_all
  obtain ⟨rfl, rfl⟩ := trodVars_none hV
  have lt0 : ∀ x ∈ p0, x.block < W.heap.size := by obtain ⟨m, hm⟩ := h0; exact DataW.trod_lt m _ _ _ hm
  have lt1 : ∀ x ∈ p1, x.block < W.heap.size := by obtain ⟨m, hm⟩ := h1; exact DataW.trod_lt m _ _ _ hm
  have lt2 : ∀ x ∈ p2, x.block < W.heap.size := by obtain ⟨m, hm⟩ := h2; exact DataW.trod_lt m _ _ _ hm
  have k0 := h0
  obtain ⟨r, rfl, _, _, wr⟩ := open_int Try.underlying29 (hval 0 29 v0 rfl rfl) h0
  obtain ⟨a1, b1, s1, rfl, hs1, _, _⟩ := open_value (hval 1 25 v1 rfl rfl) h1
  obtain ⟨a2, b2, s2, rfl, hs2, _, _⟩ := open_value (hval 2 25 v2 rfl rfl) h2
  clear hA0 hval0
  refine (compares_walk r a1 b1 s1 a2 b2 s2 W hs1 hs2).mono fun e W' ⟨he, bel⟩ => ?_
  subst he
  exact ⟨_, rfl, _, _, _, [], _, [], hW', trodAll_mk1 (shut_bool Try.underlying4 _), (trodAll_cons_mk (Below.trod laidOut (by kernel_rfl) (of_decide_eq_true (by kernel_rfl)) k0 bel lt0) (trodAll_cons_mk (Below.trod laidOut (by kernel_rfl) (of_decide_eq_true (by kernel_rfl)) h1 bel lt1) (trodAll_cons_mk (Below.trod laidOut (by kernel_rfl) (of_decide_eq_true (by kernel_rfl)) h2 bel lt2) trodAll_mk0))), rfl, bel.frame _, fun h => by cases h⟩

theorem value_compares : Rows.ValueComparesSaid :=
  OpenClaim.holds_of_wide 4 Try.f4 rfl rfl rfl rfl rfl rfl rfl ⟨rfl, rfl, rfl, rfl, rfl⟩ rfl rfl rfl rfl rfl (by kernel_rfl) Try.func4 (by kernel_rfl)
    (of_decide_eq_true (by kernel_rfl)) (by unfold Func.isWrapper; first | (rw [if_pos (by decide +kernel)]; kernel_rfl) | (rw [if_neg (by decide +kernel)]; exact ⟨rfl, rfl⟩))
    (fun os started H enc _ => compares_lifted os started H enc)

#print axioms value_compares
end Go.Proofs.Ytkcgnommiaiidaa
