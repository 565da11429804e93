import Derived.Test.YtekjoccbbamehaaIxOpen
import Derived.Test.YtekjoccbbamehaaIxFw
namespace Go.Proofs.Ytekjoccbbamehaa
open Go.ChangeShapes Go.WideShapes Go.ChangeAt Go.RowKit Go.Joins Go.Deep
set_option linter.unusedVariables false
set_option linter.unusedSimpArgs false

set_option maxRecDepth 100000 in
theorem finds_lifted (os : Os) (started : os.Started) (H : Type) (enc : TypeId × Value → H) (F : Stop.Interp) :
    ReturnsInHanded {} Try.checked os 3 .any ((Rows.OpenSpec.upto Rows.indexFindsSpec).pre6 enc Try.prog Try.f3 Rows.indexFindsUptoRow.domain false) (((Rows.OpenSpec.upto Rows.indexFindsSpec).at F).post enc Try.prog Try.f3 false true false false) := by
  refine returnsInHanded_of_cond (C := Try.checked) (s := Rows.OpenSpec.upto Rows.indexFindsSpec) (k := Rows.uptoSmall) rfl own started (by kernel_rfl) Try.func3
    (OpenSpec.witness (enc := enc) (C := Try.checked) (s := Rows.OpenSpec.upto Rows.indexFindsSpec) (k := Rows.uptoSmall) rfl false ⟨#[], #[.int .u8 0, .slice none 0 0, .int .u32 0, .int .u32 0], []⟩ 8 (by kernel_rfl) (by kernel_rfl) (by kernel_rfl)
      (x := ([.lit (.int .u8 0), .nil, .lit (.int .u32 0), .lit (.int .u32 0)], [], [])) (by kernel_rfl) rfl (by kernel_rfl)) ?_
  intro W base args ds gs before hval0 hW _ hk _
  have hval : ∀ (j : Nat) t v, Try.f3.params[j]? = some t → args[j]? = some v → Value.okWide Try.prog W .any base t v := hval0
  have hW' := hW
  obtain ⟨p, q, hA0, hV, rfl, hfz, hnd⟩ := hW
  have hA : DataW.TrodAll enc Try.prog W 0 (fun _ => true) true Try.f3.params.toList args.toList ds p := hA0
  rw [Try.params3] at hA hval
  obtain ⟨v0, vs0, d0, ds0, p0, q0, hargs, rfl, rfl, h0, r0⟩ := trodAll_cons hA
  obtain ⟨v1, vs1, d1, ds1, p1, q1, rfl, rfl, rfl, h1, r1⟩ := trodAll_cons r0
  obtain ⟨v2, vs2, d2, ds2, p2, q2, rfl, rfl, rfl, h2, r2⟩ := trodAll_cons r1
  obtain ⟨v3, vs3, d3, ds3, p3, q3, rfl, rfl, rfl, h3, r3⟩ := trodAll_cons r2
  obtain ⟨rfl, rfl, rfl⟩ := trodAll_nil r3
  obtain rfl : args = #[v0, v1, v2, v3] := by cases args; simp_all
  obtain ⟨rfl, rfl⟩ := trodVars_none hV
  have lt0 : ∀ x ∈ p0, x.block < W.heap.size := by obtain ⟨m, hm⟩ := h0; exact DataW.trod_lt m _ _ _ hm
  have lt1 : ∀ x ∈ p1, x.block < W.heap.size := by obtain ⟨m, hm⟩ := h1; exact DataW.trod_lt m _ _ _ hm
  have lt2 : ∀ x ∈ p2, x.block < W.heap.size := by obtain ⟨m, hm⟩ := h2; exact DataW.trod_lt m _ _ _ hm
  have lt3 : ∀ x ∈ p3, x.block < W.heap.size := by obtain ⟨m, hm⟩ := h3; exact DataW.trod_lt m _ _ _ hm
  obtain ⟨n0, rfl⟩ := okWide_int Try.underlying5 (hval 0 5 v0 rfl rfl)
  have e0 : ∃ M : Nat, n0 = (M : Int) ∧ M < 256 := by
    obtain ⟨z, hz⟩ := h0
    obtain ⟨a, e, _, hw⟩ := DataW.trod_int Try.underlying5 hz
    have e' : [Value.int .u8 n0] = [.int .u8 a] := e
    cases e'
    exact byte_nat hw
  obtain ⟨M0, rfl, hM0⟩ := e0
  obtain ⟨a1, t1, c1, rfl, hL1, hb1⟩ := open_rowsL (hval 1 22 v1 rfl rfl) h1
  obtain ⟨n2, rfl⟩ := okWide_int Try.underlying24 (hval 2 24 v2 rfl rfl)
  have e2 : ∃ M : Nat, n2 = (M : Int) ∧ M < 4294967296 := by
    obtain ⟨z, hz⟩ := h2
    obtain ⟨a, e, _, hw⟩ := DataW.trod_int Try.underlying24 hz
    have e' : [Value.int .u32 n2] = [.int .u32 a] := e
    cases e'
    exact mask_nat hw
  obtain ⟨M2, rfl, hM2⟩ := e2
  obtain ⟨n3, rfl⟩ := okWide_int Try.underlying24 (hval 3 24 v3 rfl rfl)
  have e3 : ∃ M : Nat, n3 = (M : Int) ∧ M < 4294967296 := by
    obtain ⟨z, hz⟩ := h3
    obtain ⟨a, e, _, hw⟩ := DataW.trod_int Try.underlying24 hz
    have e' : [Value.int .u32 n3] = [.int .u32 a] := e
    cases e'
    exact mask_nat hw
  obtain ⟨M3, rfl, hM3⟩ := e3
  have hsm := bulk_small hk
  have hle1 : t1.length ≤ 1048576 := by
    have e0 := bulk_tail d0 [d1, d2, d3]
    have f1 := bulk_head d1 [d2, d3]
    simp only [List.append_nil] at hsm
    omega
  clear hA0 hval0
  refine (indexFinds_true M0 hM0 _ t1 M2 M3 hM2 hM3 W hL1 hle1).mono fun e W' ⟨he, bel⟩ => ?_
  subst he
  exact ⟨_, rfl, _, _, _, [], _, [], hW', trodAll_mk1 (shut_bool Try.underlying4 _), (trodAll_cons_mk (Below.trod laidOut (by kernel_rfl) (of_decide_eq_true (by kernel_rfl)) h0 bel lt0) (trodAll_cons_mk (Below.trod laidOut (by kernel_rfl) (of_decide_eq_true (by kernel_rfl)) h1 bel lt1) (trodAll_cons_mk (Below.trod laidOut (by kernel_rfl) (of_decide_eq_true (by kernel_rfl)) h2 bel lt2) (trodAll_cons_mk (Below.trod laidOut (by kernel_rfl) (of_decide_eq_true (by kernel_rfl)) h3 bel lt3) trodAll_mk0)))), rfl, bel.frame _, fun h => by cases h⟩

theorem index_finds : Rows.IndexFindsUptoSaid :=
  OpenClaim.holds_of_cond 3 Try.f3 rfl rfl rfl rfl rfl rfl rfl ⟨rfl, rfl, rfl, rfl, rfl⟩ rfl rfl rfl rfl rfl (by kernel_rfl) Try.func3 (by kernel_rfl)
    (of_decide_eq_true (by kernel_rfl)) (by unfold Func.isWrapper; first | (rw [if_pos (by decide +kernel)]; kernel_rfl) | (rw [if_neg (by decide +kernel)]; exact ⟨rfl, rfl⟩))
    (fun os started H enc _ F => finds_lifted os started H enc F)

#print axioms index_finds
end Go.Proofs.Ytekjoccbbamehaa
